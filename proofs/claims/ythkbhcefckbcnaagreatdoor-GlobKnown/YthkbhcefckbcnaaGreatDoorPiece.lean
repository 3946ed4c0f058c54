/- Package glob's readPiece. -/
import Derived.Test.YthkbhcefckbcnaaGreatDoorPart
import Derived.Test.YthkbhcefckbcnaaGreatDoorOwnM
import Derived.OwnWalk
import Derived.Maps.AppendAt
namespace Go.Proofs.YthkbhcefckbcnaaGreatDoor
open Go Go.RowKit

/-- How a row of cells tells parts, one behind the other. -/
def PartsRep : List (Taker UInt8) → List Value → Prop
  | [], cs => cs = []
  | p :: ps, cs => ∃ a rest, PartRep p a ∧ cs = a.toList ++ rest ∧ PartsRep ps rest
theorem PartsRep.snoc : ∀ {ps : List (Taker UInt8)} {cs : List Value} {p : Taker UInt8} {a : Array Value}, PartsRep ps cs → PartRep p a → PartsRep (ps ++ [p]) (cs ++ a.toList)
  | [], cs, p, a, h, hp => by
    have e : cs = [] := h
    subst e
    exact ⟨a, [], hp, by simp, rfl⟩
  | q :: ps, cs, p, a, ⟨b, rest, hb, e, hr⟩, hp => ⟨b, rest ++ a.toList, hb, by rw [e, List.append_assoc], hr.snoc hp⟩
theorem PartRep.five {p : Taker UInt8} {a : Array Value} (h : PartRep p a) : ∃ (m : Bool) (x : Nat → Nat), a = #[.bool m, .int .u64 (x 0), .int .u64 (x 1), .int .u64 (x 2), .int .u64 (x 3)] ∧ Words x ∧ m = p.isNone ∧ ∀ st, p = some st → bitOf x = st := by
  cases p with
  | none => exact ⟨true, zeroW, h, zero_words, rfl, fun st e => by cases e⟩
  | some st =>
    obtain ⟨x, hw, hb, e⟩ := h
    exact ⟨false, x, e, hw, rfl, fun st2 e2 => by cases e2; exact hb⟩
theorem PartRep.size {p : Taker UInt8} {a : Array Value} (h : PartRep p a) : a.size = 5 := by obtain ⟨m, x, e, _⟩ := h.five; rw [e]; rfl
theorem PartsRep.at : ∀ {ps : List (Taker UInt8)} {cs : List Value} {i : Nat} {p : Taker UInt8}, PartsRep ps cs → ps[i]? = some p → ∃ a, PartRep p a ∧ ∀ j, j < 5 → cs[5 * i + j]? = a[j]?
  | [], _, _, _, _, h => by simp at h
  | q :: ps, cs, 0, p, ⟨b, rest, hb, e, hr⟩, h => by
    simp at h; subst h
    refine ⟨b, hb, fun j hj => ?_⟩
    rw [e, List.getElem?_append_left (by have := hb.size; simp; omega)]; simp
  | q :: ps, cs, i + 1, p, ⟨b, rest, hb, e, hr⟩, h => by
    obtain ⟨a, ha, hj⟩ := hr.at (i := i) (by simpa using h)
    refine ⟨a, ha, fun j hj2 => ?_⟩
    have hs := hb.size
    rw [e, List.getElem?_append_right (by simp; omega), ← hj j hj2]
    congr 1; simp; omega
theorem PartsRep.length : ∀ {ps : List (Taker UInt8)} {cs : List Value}, PartsRep ps cs → cs.length = ps.length * 5
  | [], cs, h => by have e : cs = [] := h; subst e; rfl
  | q :: ps, cs, ⟨b, rest, hb, e, hr⟩ => by have := hr.length; have := hb.size; rw [e]; simp; omega
/-- The slice v holds these parts. -/
def PartsIn (W : World) (v : Value) (ps : List (Taker UInt8)) : Prop := ∃ cs, PartsRep ps cs ∧ W.ownsRow 0 174 5 v ps.length cs

def PcIn (W : World) (v : Value) : Pc → Prop
  | none => v = .slice none 0 0
  | some ps => PartsIn W v ps
/-- What readPiece owes. -/
def PiecePost (s : ByteArray) (w : World) (e : Ending) (w' : World) : Prop :=
  ((∃ (pc : Pc) (o : Option Addr) (n c : Nat), pieceOf s = some pc ∧ PcIn w' (.slice o n c) pc ∧ e = .returned (.tuple #[.agg #[.bool pc.isNone, .slice o n c], .nilIface])) ∨
   (pieceOf s = none ∧ e = .returned (.tuple #[.agg #[.bool false, .slice none 0 0], errP]))) ∧ Below w.heap.size w w'

theorem results_c2 {P : Program} {fn : Func} {p u : Tmp} {ty : TypeId} (h : fn.results = #[.cell p ty, .tmp u]) (tmps : Array Value) (w : World) (g : Nat) (t : TypeId) (cs : Array Value) (d : TypeDesc)
    (hp : tmps.getD p undef = .pointer (some ⟨g, 0, none⟩)) (hg : Lies w g t cs)
    (hu : P.underlying ty = some d) (hd : (match d with | .struct _ | .array _ _ => true | _ => false) = true) (hi : (P.info? ty).map (·.size) = some cs.size) :
    (results fn tmps).run P w = .ok (.tuple #[.agg cs, tmps.getD u undef]) w := by
  have hp' : tmps[p]?.getD undef = .pointer (some ⟨g, 0, none⟩) := by simpa using hp
  simp [results, h, hp', asAddr, run_loadVar_row w g t ty cs (0, 0) d hg hu hd hi]
theorem info_piece : (Tryz.prog.info? 110).map (·.size) = some 2 := by kernel_rfl
theorem info_partAll : (Tryz.prog.info? 174).map (fun i => (i.zero, i.size, i.bytes)) = some (some (.agg #[.bool false, .int .u64 0, .int .u64 0, .int .u64 0, .int .u64 0]), 5, 40) := by kernel_rfl
theorem Lies.set2 {W : World} {B : Nat} {t : TypeId} {a0 b0 : Value} (h : Lies W B t #[a0, b0]) (a b : Value) : Lies ((W.setCell ⟨B, 0, none⟩ a).setCell ⟨B, 1, none⟩ b) B t #[a, b] := (h.set a).set b

theorem own_below {W W2 : World} {base e size n : Nat} {v : Value} {xs : List Value} (h : W.ownsRow base e size v n xs) (hb : Below W.heap.size W W2) : W2.ownsRow base e size v n xs := by
  refine ⟨h.1, ?_⟩
  rcases h.2 with hn | ⟨g, cap, cur, rfl, hg, hgg, rest⟩
  · exact .inl hn
  · exact .inr ⟨g, cap, cur, rfl, hg, (hb.block g (Array.getElem?_eq_some_iff.1 hgg).1).trans hgg, rest⟩
theorem cells_new (W : World) (cur : Array Value) (t : TypeId) : ∀ (j : Nat) u, cur.toList[j]? = some u → (W.alloc (.cells cur t)).cell? ((⟨W.heap.size, 0, none⟩ : Addr).add j) = some u := by
  intro j u h
  have hadd : (⟨W.heap.size, 0, none⟩ : Addr).add j = ⟨W.heap.size, j, none⟩ := by unfold Addr.add; split <;> simp_all
  rw [hadd]; exact (Lies.new W t cur).cell (by simpa using h)
theorem own_zero {W : World} {base e size n : Nat} {v : Value} {xs : List Value} (h : W.ownsRow base e size v n xs) : W.ownsRow 0 e size v n xs := by
  refine ⟨h.1, ?_⟩
  rcases h.2 with hn | ⟨g, cap, cur, rfl, hg, rest⟩
  · exact .inl hn
  · exact .inr ⟨g, cap, cur, rfl, Nat.zero_le _, rest⟩
theorem own_cell {W : World} {base e size n : Nat} {v : Value} {xs : List Value} (h : W.ownsRow base e size v n xs) : v.oneCell' = true ∧ ∀ k, v.ownBlock = some k → base ≤ k := by
  rcases h.2 with ⟨rfl, _⟩ | ⟨g, cap, cur, rfl, hg, rest⟩
  · exact ⟨rfl, fun k e => by cases e⟩
  · exact ⟨rfl, fun k e => by cases e; exact hg⟩

theorem below_set2 {w W : World} {B : Nat} (h : Below w.heap.size w W) (hB : w.heap.size ≤ B) (a b : Value) : Below w.heap.size w ((W.setCell ⟨B, 0, none⟩ a).setCell ⟨B, 1, none⟩ b) := (h.setCell (p := ⟨B, 0, none⟩) hB a).setCell (p := ⟨B, 1, none⟩) hB b
theorem own_set2 {W : World} {e size n B : Nat} {v : Value} {xs : List Value} (h : W.ownsRow (B + 1) e size v n xs) (a b : Value) : ((W.setCell ⟨B, 0, none⟩ a).setCell ⟨B, 1, none⟩ b).ownsRow 0 e size v n xs := by
  refine ⟨h.1, ?_⟩
  rcases h.2 with hn | ⟨g, cap, cur, rfl, hg, hgg, rest⟩
  · exact .inl hn
  · refine .inr ⟨g, cap, cur, rfl, Nat.zero_le _, ?_, rest⟩
    rw [Below.heap_setCell _ ⟨B, 1, none⟩ b g (by simp; omega), Below.heap_setCell _ ⟨B, 0, none⟩ a g (by simp; omega)]; exact hgg

set_option maxRecDepth 100000 in
set_option maxHeartbeats 4000000 in
theorem readPiece_stars (s : ByteArray) (w : World) (h : (s.toList == [42, 42]) = true) : Calls Tryz.prog 97 #[.string s] w (PiecePost s w) := by
  have HS : Hid (pieceOf s = some none) := by unfold Hid pieceOf isStars; rw [h]; rfl
  go_enter Tryz.func97, Tryz.ntmps97
  go_wp2
  refine bodyPost_ret (results_c2 rfl _ _ w.heap.size 110 _ _ rfl (Lies.new w _ _) Tryz.underlying110 rfl info_piece) rfl ?_
  exact ⟨.inl ⟨none, _, _, _, HS.out, rfl, rfl⟩, (Below.refl _ w).alloc (Nat.le_refl _) _⟩

set_option maxRecDepth 100000 in
set_option maxHeartbeats 4000000 in
theorem readPiece_parts (s : ByteArray) (w : World) (hz : s.size ≤ 1099511627776) (h : (s.toList == [42, 42]) = false) : Calls Tryz.prog 97 #[.string s] w (PiecePost s w) := by
  have HS : Hid (pieceOf s = (partsOf (un s)).map some) := by unfold Hid pieceOf isStars; rw [h]; rfl
  obtain ⟨i0, hi, hz0, hz1, hz2⟩ := info_parts info_partAll
  go_enter Tryz.func97, Tryz.ntmps97
  go_wp2
  go_loopw [0, 4] (fun a v wr => ∃ (t : ByteArray) (ps : List (Taker UInt8)) (cs : List Value), a = .string t ∧ t.size + ps.length ≤ s.size ∧ partsOf (un s) = (partsOf (un t)).map (ps ++ ·) ∧ PartsRep ps cs ∧ wr.ownsRow (w.heap.size + 1) 174 5 v ps.length cs ∧ Lies wr w.heap.size 110 #[.bool false, .slice none 0 0] ∧ Below w.heap.size w wr) (fun a _ _ => strLen a)
  case atStart => exact ⟨s, [], [], rfl, by simp, by cases partsOf (un s) <;> rfl, rfl, World.ownsRow_nil _ _ _ _, Lies.new w _ _, (Below.refl _ w).alloc (Nat.le_refl _) _⟩
  case round =>
    obtain ⟨t, ps, cs, rfl, htz, hp, hrep, hown, hl, hB⟩ := hrel
    have hlt := hl.lt
    cases ht : t.toList.isEmpty
    · have t0 : 0 < t.size := (isEmpty_false t).1 ht
      have Hl : Hid (Lies wr w.heap.size 110 #[.bool false, .slice none 0 0]) := hl
      have Hp : Hid (partsOf (un s) = (partsOf (un t)).map (ps ++ ·)) := hp
      have Hrep : Hid (PartsRep ps cs) := hrep
      have hcall := readPart_p t wr (by omega) t0
      clear hl hp hrep
      unfold PartPost errP at hcall
      go_wp2_with fail
      refine hcall.mono ?_
      rintro e w2 ⟨⟨p, r, a, hpart, hpa, rfl⟩ | ⟨hpart, b, x, r, rfl⟩, hb2⟩
      · obtain ⟨m, x, rfl, hx⟩ := hpa.five
        have hrl : r.size < t.size := by have := rPart_lt hpart; rw [un_length, un_length] at this; exact this
        have HN : Hid (partsOf (un s) = (partsOf (un r)).map ((ps ++ [p]) ++ ·)) := by
          unfold Hid
          rw [Hp.out, partsOf_on hpart, Option.map_map]
          congr 1
          funext z; simp
        have HR2 : Hid (PartsRep (ps ++ [p]) (cs ++ [.bool m, .int .u64 (x 0), .int .u64 (x 1), .int .u64 (x 2), .int .u64 (x 3)])) := Hrep.out.snoc hpa
        have hlw := hb2.size
        have hown2 := own_below hown hb2
        have hl2 : Hid (Lies w2 w.heap.size 110 #[.bool false, .slice none 0 0]) := Hl.out.below hb2
        have hB2 : Below w.heap.size w w2 := hB.trans (hb2.mono hB.size)
        have HN5 : Hid (∀ (j : Nat) u, ([.bool m, .int .u64 (x 0), .int .u64 (x 1), .int .u64 (x 2), .int .u64 (x 3)] : List Value)[j]? = some u → ((w2.alloc (.cells #[.bool m, .int .u64 (x 0), .int .u64 (x 1), .int .u64 (x 2), .int .u64 (x 3)] 174)).alloc (.cells #[.bool m, .int .u64 (x 0), .int .u64 (x 1), .int .u64 (x 2), .int .u64 (x 3)] 174)).cell? ((⟨w2.heap.size + 1, 0, none⟩ : Addr).add j) = some u) := by
          have h := cells_new (w2.alloc (.cells #[.bool m, .int .u64 (x 0), .int .u64 (x 1), .int .u64 (x 2), .int .u64 (x 3)] 174)) #[.bool m, .int .u64 (x 0), .int .u64 (x 1), .int .u64 (x 2), .int .u64 (x 3)] 174
          rw [World.size_alloc] at h; exact h
        clear hpart hpa hx hown hB
        go_wp2_with (at_builtin; refine wpList_append_own _ rfl _ _ 108 rfl (w.heap.size + 1) 174 i0 (.agg #[.bool false, .int .u64 0, .int .u64 0, .int .u64 0, .int .u64 0]) 5 40 Tryz.underlying108 hi hz0 hz1 hz2 rfl (by decide) _ _ _ rfl ((hown2.alloc _).alloc _) ⟨w2.heap.size + 1, 0, none⟩ 1 1 [.bool m, .int .u64 (x 0), .int .u64 (x 1), .int .u64 (x 2), .int .u64 (x 3)] rfl rfl HN5.out (by simp [Value.oneCell']) (by unfold maxLen; omega) (by omega) (by simp; omega) ?_; intro v1 w1 hown1 hgrow1 _)
        have hge := (own_cell hown2).2
        refine ⟨⟨r, ps ++ [p], _, rfl, by rw [List.length_append]; simp; omega, HN.out, HR2.out, by rw [List.length_append]; exact hown1, ?_, ?_⟩, hrl⟩
        · exact (hgrow1.block w.heap.size (by simp; have := hB2.size; omega) (fun e => by have := hge _ e.symm; omega)).trans ((hl2.out.alloc _).alloc _)
        · exact ((hB2.alloc hB2.size _).alloc (by simp; have := hB2.size; omega) _).grown hgrow1 (by simp; have := hB2.size; omega) (fun j hj => by have := hge j hj; omega)
      · have hl2 : Lies w2 w.heap.size 110 #[.bool false, .slice none 0 0] := Hl.out.below hb2
        have hB2 : Below w.heap.size w w2 := hB.trans (hb2.mono hB.size)
        have HN : Hid (pieceOf s = none) := by unfold Hid; rw [HS.out, Hp.out, partsOf_wrong (by intro e; rw [← un_length, e] at t0; simp at t0) hpart]; rfl
        have c0 : w2.cell? ⟨w.heap.size, 0, none⟩ = some (.bool false) := hl2.cell rfl
        have c1 : w2.cell? ⟨w.heap.size, 1, none⟩ = some (.slice none 0 0) := hl2.cell rfl
        have f0 := hl2.frozen 0
        have f1 := hl2.frozen 1
        have hlt2 := hl2.lt
        have Hl2 : Hid (Lies w2 w.heap.size 110 #[.bool false, .slice none 0 0]) := hl2
        clear hl2 hown hpart hB hb2
        unfold setCells wordsL u64V
        go_wp2
        refine bodyPost_ret (results_c2 rfl _ _ w.heap.size 110 _ _ rfl ((Lies.set2 Hl2.out _ _).alloc _) Tryz.underlying110 rfl info_piece) rfl ?_
        exact ⟨.inr ⟨HN.out, rfl⟩, (below_set2 hB2 (Nat.le_refl _) _ _).alloc (below_set2 hB2 (Nat.le_refl _) _ _).size _⟩
    · have HN : Hid (pieceOf s = some (some ps)) := by
        unfold Hid
        rw [HS.out, hp, show un t = [] from by rw [← toList_un]; exact List.isEmpty_iff.1 ht, partsOf_nil]
        simp
      have HPI := fun a b => own_set2 hown a b
      have HP2 : Hid (∀ a b, PartsIn ((wr.setCell ⟨w.heap.size, 0, none⟩ a).setCell ⟨w.heap.size, 1, none⟩ b) _ ps) := fun a b => ⟨cs, hrep, HPI a b⟩
      have c0 : wr.cell? ⟨w.heap.size, 0, none⟩ = some (.bool false) := hl.cell rfl
      have c1 : wr.cell? ⟨w.heap.size, 1, none⟩ = some (.slice none 0 0) := hl.cell rfl
      have f0 := hl.frozen 0
      have f1 := hl.frozen 1
      have Hl2 : Hid (Lies wr w.heap.size 110 #[.bool false, .slice none 0 0]) := hl
      clear hl hp hrep HPI
      rcases hown.2 with ⟨rfl, h0⟩ | ⟨g, cap, cur, rfl, hg, hgb, hncap, hcm, hcs, htk⟩
      · clear hown h0
        go_wp2
        refine bodyPost_ret (results_c2 rfl _ _ w.heap.size 110 _ _ rfl (Lies.set2 Hl2.out _ _) Tryz.underlying110 rfl info_piece) rfl ?_
        exact ⟨.inl ⟨some ps, _, _, _, HN.out, HP2.out _ _, rfl⟩, below_set2 hB (Nat.le_refl _) _ _⟩
      · clear hown hgb hncap hcm hcs htk
        go_wp2
        refine bodyPost_ret (results_c2 rfl _ _ w.heap.size 110 _ _ rfl (Lies.set2 Hl2.out _ _) Tryz.underlying110 rfl info_piece) rfl ?_
        exact ⟨.inl ⟨some ps, _, _, _, HN.out, HP2.out _ _, rfl⟩, below_set2 hB (Nat.le_refl _) _ _⟩
theorem readPiece_p (s : ByteArray) (w : World) (hz : s.size ≤ 1099511627776) : Calls Tryz.prog 97 #[.string s] w (PiecePost s w) := by
  cases h : (s.toList == [42, 42])
  · exact readPiece_parts s w hz h
  · exact readPiece_stars s w h
end Go.Proofs.YthkbhcefckbcnaaGreatDoor
