/- What is written into a strings.Builder that the call itself has made. -/
import Derived.Test.YtjmekcakiacdfaaBytes
import Derived.Lib.Builder
import Derived.Lib.AppendStr
import Derived.Lib.MakeNoZero
import Derived.Lib.Walk
import Derived.Laws.Externs
import Derived.Laws.AppendOwn
import Derived.OwnWalk
import Derived.Lib.Slices
namespace Go.Proofs.Ytjmekcakiacdfaa
open Go Go.RowKit

theorem bld_sizeQ : (Try.prog.info? 67).map (·.size) = some 2 := by kernel_rfl
theorem bld_lies : liesAt Try.prog Try.prog.depth 67 (2 / Try.prog.cellsOf 67) 0 67 1 = true := by kernel_rfl
theorem byte_info : (Try.prog.info? 5).map (fun i => (i.zero, i.size, i.bytes)) = some (some (.int .u8 0), 1, 1) := by kernel_rfl

/-- Block b, from B on, is a builder with these bytes. -/
abbrev Bld (B b : Nat) (l : List UInt8) (w : World) : Prop := Lib.IsBuilder 67 5 B b (Lib.byteCells l) w

set_option maxHeartbeats 1000000 in
set_option maxRecDepth 100000 in
theorem check_used (b : Nat) (w : World) (h : w.cell? ⟨b, 0, none⟩ = some (.pointer (some ⟨b, 0, none⟩))) :
    Calls Try.prog 41 #[.pointer (some ⟨b, 0, none⟩)] w fun e w' => e = .returned (.tuple #[]) ∧ w' = w := by
  obtain ⟨i, hi, _⟩ := Option.map_eq_some_iff.1 bld_sizeQ
  go_enter Try.func41, Try.ntmps41
  go_wp2
  rw [Lib.run_neq_ptr_same w _ Try.underlying64 hi]
  go_wp2
  go_end0
  exact ⟨rfl, rfl⟩

set_option maxHeartbeats 1000000 in
set_option maxRecDepth 100000 in
theorem check_new (b : Nat) (w : World) (h : w.cell? ⟨b, 0, none⟩ = some (.pointer none)) (hs : w.shape? b = some (67, 2)) (hf : w.frozen? ⟨b, 0, none⟩ = false) :
    Calls Try.prog 41 #[.pointer (some ⟨b, 0, none⟩)] w fun e w' => e = .returned (.tuple #[]) ∧ w' = w.setCell ⟨b, 0, none⟩ (.pointer (some ⟨b, 0, none⟩)) := by
  obtain ⟨i, hi, his⟩ := Option.map_eq_some_iff.1 bld_sizeQ
  have hn := @run_callFunc_extern Try.prog 54 _ Extern.AbiNoEscape.same Try.func54 (by kernel_rfl) (by kernel_rfl) (by kernel_rfl) (by kernel_rfl)
  have k3 := Lib.run_noEscape (P := Try.prog) w (.pointer (some ⟨b, 0, none⟩))
  have k1 := Lib.run_to_unsafe w ⟨b, 0, none⟩ Try.underlying64 Try.underlying116 hi (by rw [his]; decide) hs (Nat.zero_lt_succ 1)
  have k2 := Lib.run_from_unsafe w ⟨b, 0, none⟩ Try.underlying116 Try.underlying64 hi hs bld_lies
  go_enter Try.func41, Try.ntmps41
  go_wp2
  go_end0
  exact ⟨rfl, rfl⟩

theorem check_p (B b : Nat) (l : List UInt8) (w : World) (h : Bld B b l w) :
    Calls Try.prog 41 #[.pointer (some ⟨b, 0, none⟩)] w fun e w' => e = .returned (.tuple #[]) ∧ Lib.BuilderAt 67 5 B b (.pointer (some ⟨b, 0, none⟩)) (Lib.byteCells l) w' ∧ Below B w w' := by
  cases h with
  | inl h =>
    refine (check_new b w h.cell0 h.shape h.frozen0).mono ?_
    rintro e w' ⟨rfl, rfl⟩
    exact ⟨rfl, h.used _, (Below.refl B w).setCell (p := ⟨b, 0, none⟩) h.1 _⟩
  | inr h =>
    refine (check_used b w h.cell0).mono ?_
    rintro e w' ⟨rfl, rfl⟩
    exact ⟨rfl, h, Below.refl B _⟩

/-- What stands of a used builder: its two cells, its row of bytes. -/
theorem at_parts {B b : Nat} {cs : List Value} {w : World} (h : Lib.BuilderAt 67 5 B b (.pointer (some ⟨b, 0, none⟩)) cs w) :
    ∃ v, Lies w b 67 #[.pointer (some ⟨b, 0, none⟩), v] ∧ w.ownsRow B 5 1 v cs.length cs ∧ v.ownBlock ≠ some b ∧ B ≤ b := by
  obtain ⟨h1, v, h2, h3, h4⟩ := h
  exact ⟨v, h2, h3, h4, h1⟩
theorem own_below {A B : World} {base e size n : Nat} {v : Value} {xs : List Value} (h : A.ownsRow base e size v n xs) (hb : Below A.heap.size A B) : B.ownsRow base e size v n xs := by
  refine ⟨h.1, ?_⟩
  rcases h.2 with hn | ⟨g, cap, cur, rfl, hg, hgg, rest⟩
  · exact .inl hn
  · exact .inr ⟨g, cap, cur, rfl, hg, (hb.block g (Array.getElem?_eq_some_iff.1 hgg).1).trans hgg, rest⟩
theorem bldAt_below {B b : Nat} {p : Value} {cs : List Value} {w w' : World} (h : Lib.BuilderAt 67 5 B b p cs w) (hb : Below w.heap.size w w') : Lib.BuilderAt 67 5 B b p cs w' := by
  obtain ⟨h1, v, h2, h3, h4⟩ := h
  exact ⟨h1, v, (hb.block b (Array.getElem?_eq_some_iff.1 h2).1).trans h2, own_below h3 hb, h4⟩
theorem bld_below {B b : Nat} {l : List UInt8} {w w' : World} (h : Bld B b l w) (hb : Below w.heap.size w w') : Bld B b l w' := by
  rcases h with h | h
  · exact .inl (bldAt_below h hb)
  · exact .inr (bldAt_below h hb)
theorem own_slice {w : World} {B e n : Nat} {v : Value} {cs : List Value} (h : w.ownsRow B e 1 v n cs) : ∃ a k c, v = .slice a k c := by
  rcases h.2 with ⟨rfl, _⟩ | ⟨g, cap, cur, rfl, _⟩
  · exact ⟨_, _, _, rfl⟩
  · exact ⟨_, _, _, rfl⟩

set_option maxHeartbeats 2000000 in
set_option maxRecDepth 100000 in
theorem wbyte_p (B b : Nat) (l : List UInt8) (c : UInt8) (w : World) (h : Bld B b l w) (hl : l.length ≤ 140737488355327) (hB : B ≤ w.heap.size) :
    Calls Try.prog 26 #[.pointer (some ⟨b, 0, none⟩), .int .u8 c.toNat] w fun e w' => e = .returned .nilIface ∧ Bld B b (l ++ [c]) w' ∧ Below B w w' := by
  obtain ⟨i0, hi, z0, z1, z2⟩ := info_parts byte_info
  have hlc := Lib.byteCells_length l
  go_enter Try.func26, Try.ntmps26
  go_wp2_with (go_at_call 41; refine (check_p B b l _ h).mono ?_)
  rintro e w1 ⟨rfl, hA, b1⟩
  obtain ⟨v, hL, hown, hne, hBb⟩ := at_parts hA
  have c0 := hL.cell (i := 0) rfl
  have c1 := hL.cell (i := 1) rfl
  go_wp2_with (at_builtin; refine wpList_append_own _ rfl _ _ 65 rfl B 5 i0 (.int .u8 0) 1 1 Try.underlying65 hi z0 z1 z2 rfl (by decide) _ _ _ rfl (hown.alloc _) ⟨w1.heap.size, 0, none⟩ 1 1 [.int .u8 c.toNat] rfl rfl ?c1 ?c2 ?c3 ?c4 ?c5 ?_)
  case c1 =>
    intro j u hj
    rcases j with _ | j
    · simp at hj; subst hj; simp [Addr.add]
    · simp at hj
  case c2 => intro u hu; simp at hu; subst hu; rfl
  case c3 => unfold maxLen; omega
  case c4 => omega
  case c5 => have := b1.size; simp; omega
  intro v' w2 hown' hg _
  have hL2 : Lies w2 b 67 #[.pointer (some ⟨b, 0, none⟩), v] := (hg.block b (by have := hL.lt; simp; omega) (fun e => hne e.symm)).trans (hL.alloc _)
  obtain ⟨a, k, cp, rfl⟩ := own_slice hown'
  have d0 := hL2.cell (i := 0) rfl
  have d1 := hL2.cell (i := 1) rfl
  have d2 := hL2.frozen 1
  go_wp2
  go_ret
  refine ⟨rfl, .inr (Lib.BuilderAt.put hBb hL2 (bs' := Lib.byteCells (l ++ [c])) ?_ (by decide)), ?_⟩
  · rw [Lib.byteCells_append, List.length_append, hlc]; exact hown'
  · exact ((b1.alloc (by have := b1.size; omega) _).grown hg (by have := b1.size; simp; omega) (fun k hk => (hown.lt k hk).1)).setCell (p := ⟨b, 1, none⟩) hBb _

theorem bld_new (W : World) (n : Nat) (h : W.heap.size = n) : Bld n n [] (W.alloc (.cells #[.pointer none, .slice none 0 0] 67)) := by
  subst h; exact Lib.fresh_isBuilder _ _ W
end Go.Proofs.Ytjmekcakiacdfaa
