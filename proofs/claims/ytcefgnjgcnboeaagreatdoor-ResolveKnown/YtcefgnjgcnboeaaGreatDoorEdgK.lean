/- ResolveKnown's edged, walked. -/
import Derived.Test.YtcefgnjgcnboeaaGreatDoorShowK
import Derived.Test.YtcefgnjgcnboeaaGreatDoorEntW
import Derived.Test.YtcefgnjgcnboeaaGreatDoorWalkW
import Derived.Test.YtcefgnjgcnboeaaGreatDoorLawPl

namespace Go.Proofs.YtcefgnjgcnboeaaGreatDoor
open Go Go.RowKit

set_option maxRecDepth 100000 in
theorem conv3 (x0 x1 x2 : Int) (h0 : 0 ≤ x0 ∧ x0 < 256) (h1 : 0 ≤ x1 ∧ x1 < 256) (h2 : 0 ≤ x2 ∧ x2 < 256) (w : World) : (convert 79 9 (.slice (some ⟨w.heap.size, 0, none⟩) 3 3)).run Tryz.prog (w.alloc (.cells #[.int .u8 x0, .int .u8 x1, .int .u8 x2] 5)) = .ok (.string (bs [Tx.b8 x0, Tx.b8 x1, Tx.b8 x2])) (w.alloc (.cells #[.int .u8 x0, .int .u8 x1, .int .u8 x2] 5)) := by
  have e0 : x0 = ((Tx.b8 x0).toNat : Int) := by rw [Tx.b8_int]; omega
  have e1 : x1 = ((Tx.b8 x1).toNat : Int) := by rw [Tx.b8_int]; omega
  have e2 : x2 = ((Tx.b8 x2).toNat : Int) := by rw [Tx.b8_int]; omega
  refine run_convert_bytes_back _ 79 9 5 ⟨w.heap.size, 0, none⟩ 3 [Tx.b8 x0, Tx.b8 x1, Tx.b8 x2] Tryz.underlying79 Tryz.underlying5 Tryz.underlying9 ?_
  intro j hj
  have hc := fun v (h : (#[.int .u8 x0, .int .u8 x1, .int .u8 x2] : Array Value)[j]? = some v) => (Tx.Lies.new w 5 #[.int .u8 x0, .int .u8 x1, .int .u8 x2]).cell h
  have e : (⟨w.heap.size, 0, none⟩ : Addr).add j = ⟨w.heap.size, j, none⟩ := by rw [Addr.add_mid, Nat.zero_add]
  rw [e]
  refine hc _ ?_
  rcases j with _ | _ | _ | j
  · show some (Value.int .u8 x0) = some (Value.int .u8 ((Tx.b8 x0).toNat : Int))
    rw [← e0]
  · show some (Value.int .u8 x1) = some (Value.int .u8 ((Tx.b8 x1).toNat : Int))
    rw [← e1]
  · show some (Value.int .u8 x2) = some (Value.int .u8 ((Tx.b8 x2).toNat : Int))
    rw [← e2]
  · simp at hj; omega
set_option maxRecDepth 100000 in
set_option maxHeartbeats 2000000 in
theorem number_p (i : Int) (h0 : 0 ≤ i) (h1 : i < 100) (w : World) : Calls Tryz.prog 15 #[.int .i64 i] w fun e w' => (∃ s : ByteArray, s.size = 3 ∧ e = .returned (.string s)) ∧ Below w.heap.size w w' := by
  have hc := conv3 108 (48 + i / 10) (48 + i % 10) (by omega) (by omega) (by omega) w
  go_enter Tryz.func15, Tryz.ntmps15
  go_wp2
  go_ret
  exact ⟨⟨_, rfl, rfl⟩, (Below.refl _ w).alloc (Nat.le_refl _) _⟩
/-- Entries with short paths. -/
def ShortP (L : List Ent) : Prop := ∀ e ∈ L, e.path.size ≤ 5
/-- Some such list comes back. -/
def SomeEnts (w : World) (n : Nat) (e : Ending) (w' : World) : Prop := ∃ (u : Value) (L : List Ent), e = .returned u ∧ EntsAt w' u L ∧ L.length ≤ n ∧ ShortP L ∧ Below w.heap.size w w'
theorem ShortP.snoc {L : List Ent} (h : ShortP L) {e : Ent} (he : e.path.size ≤ 5) : ShortP (L ++ [e]) := fun x hx => by
  rcases List.mem_append.1 hx with hx | hx
  · exact h x hx
  · rw [List.mem_singleton] at hx; rw [hx]; exact he
set_option maxRecDepth 100000 in
set_option maxHeartbeats 4000000 in
theorem chained_p (n : Nat) (hn : n ≤ 50) (w : World) : Calls Tryz.prog 13 #[.int .i64 n] w (SomeEnts w 51) := by
  obtain ⟨i0, hi, hz0, hz1, hz2⟩ := info_parts info_ent
  have HN : Hid (∀ (i : Int) (W : World), 0 ≤ i → i < 100 → Calls Tryz.prog 15 #[.int .i64 i] W fun e w' => (∃ s : ByteArray, s.size = 3 ∧ e = .returned (.string s)) ∧ Below W.heap.size W w') := fun i W h0 h1 => number_p i h0 h1 W
  have hst : (w.alloc (.cells (ecells [⟨⟨#[102]⟩, 2, 420, ⟨#[]⟩, ⟨#[]⟩⟩]).toArray 52)).ownsRow w.heap.size 52 5 (.slice (some ⟨w.heap.size, 0, none⟩) 1 1) 1 (ecells [⟨⟨#[102]⟩, 2, 420, ⟨#[]⟩, ⟨#[]⟩⟩]) := ⟨rfl, .inr ⟨w.heap.size, 1, _, rfl, Nat.le_refl _, World.alloc_heap_new w _, Nat.le_refl _, by unfold maxLen; decide, rfl, rfl⟩⟩
  have HST : Hid _ := hst
  have HB0 : Hid (Below w.heap.size w (w.alloc (.cells (ecells [⟨⟨#[102]⟩, 2, 420, ⟨#[]⟩, ⟨#[]⟩⟩]).toArray 52))) := (Below.refl _ w).alloc (Nat.le_refl _) _
  clear hst
  go_enter Tryz.func13, Tryz.ntmps13
  go_wp2
  go_loopw [3, 4, 5] (fun v i _ wr => ∃ (k : Nat) (L : List Ent), i = .int .i64 k ∧ k ≤ n ∧ wr.ownsRow w.heap.size 52 5 v L.length (ecells L) ∧ L.length = k + 1 ∧ ShortP L ∧ Below w.heap.size w wr) (fun _ i _ _ => n - (intOf i).toNat)
  case atStart => exact ⟨0, [(⟨⟨#[102]⟩, 2, 420, ⟨#[]⟩, ⟨#[]⟩⟩ : Ent)], rfl, Nat.zero_le _, HST.out, rfl, (fun e he => by rw [List.mem_singleton.1 he]; decide), HB0.out⟩
  case round =>
    obtain ⟨k, L, rfl, hk, hown, hlen, hS, hB⟩ := hrel
    have hsz := hB.size
    have HS : Hid (ShortP L) := hS
    clear hS
    by_cases hlt : k < n
    · have hlt' : (k : Int) < (n : Int) := by omega
      by_cases hl2 : k + 1 < n
      · have hl2' : (k : Int) + 1 < (n : Int) := by omega
        go_wp2_with fail
        refine (HN.out _ _ (by omega) (by omega)).mono ?_
        rintro e w2 ⟨⟨s2, hs2, rfl⟩, hb2⟩
        have hB2 := hB.trans (hb2.mono hsz)
        have hown2 := Tx.own_below hown hb2
        clear hown hB hb2
        go_wp2_with fail
        refine (HN.out _ _ (by omega) (by omega)).mono ?_
        rintro e w3 ⟨⟨s3, hs3, rfl⟩, hb3⟩
        have hsz2 := hB2.size
        have hB3 := hB2.trans (hb3.mono hsz2)
        have hown3 := Tx.own_below hown2 hb3
        have hsz3 := hB3.size
        clear hown2 hB2 hb3
        go_wp2_with (at_builtin; refine wpList_append_own _ rfl _ _ 29 rfl w.heap.size 52 i0 (.agg #[.string ⟨#[]⟩, .int .i64 0, .int .i64 0, .string ⟨#[]⟩, .string ⟨#[]⟩]) 5 64 Tryz.underlying29 hi hz0 hz1 hz2 rfl (by decide) _ _ _ rfl (hown3.alloc _) ⟨w3.heap.size, 0, none⟩ 1 1 (ecs ((⟨s3, 3, 511, ⟨#[]⟩, s2⟩ : Ent))) rfl rfl (ent_cells (ent_new w3 _ ((⟨s3, 3, 511, ⟨#[]⟩, s2⟩ : Ent)))) (ent_one ((⟨s3, 3, 511, ⟨#[]⟩, s2⟩ : Ent))) (by unfold maxLen; omega) (by omega) (by simp; omega) ?_; intro v1 w1 hown1 hgrow1 _)
        have hb1 : Below w.heap.size w w1 := (hB3.alloc hsz3 _).grown hgrow1 (by simp; omega) (fun j hj => (own_ge hown3 j hj.symm).1)
        have hown4 : w1.ownsRow w.heap.size 52 5 v1 (L ++ [(⟨s3, 3, 511, ⟨#[]⟩, s2⟩ : Ent)]).length (ecells (L ++ [(⟨s3, 3, 511, ⟨#[]⟩, s2⟩ : Ent)])) := by rw [ecells_append, List.length_append]; simpa [ecells] using hown1
        go_roundw
        case rel => exact ⟨k + 1, L ++ [(⟨s3, 3, 511, ⟨#[]⟩, s2⟩ : Ent)], by go_num, by omega, hown4, by simp; omega, HS.out.snoc (by show s3.size ≤ 5; omega), hb1⟩
        case measure => simp [intOf]; omega
      · have hl2' : ¬ (k : Int) + 1 < (n : Int) := by omega
        have hB2 := hB
        have hown2 := hown
        clear hown hB
        go_wp2_with fail
        refine (HN.out _ _ (by omega) (by omega)).mono ?_
        rintro e w3 ⟨⟨s3, hs3, rfl⟩, hb3⟩
        have hsz2 := hB2.size
        have hB3 := hB2.trans (hb3.mono hsz2)
        have hown3 := Tx.own_below hown2 hb3
        have hsz3 := hB3.size
        clear hown2 hB2 hb3
        go_wp2_with (at_builtin; refine wpList_append_own _ rfl _ _ 29 rfl w.heap.size 52 i0 (.agg #[.string ⟨#[]⟩, .int .i64 0, .int .i64 0, .string ⟨#[]⟩, .string ⟨#[]⟩]) 5 64 Tryz.underlying29 hi hz0 hz1 hz2 rfl (by decide) _ _ _ rfl (hown3.alloc _) ⟨w3.heap.size, 0, none⟩ 1 1 (ecs ((⟨s3, 3, 511, ⟨#[]⟩, ⟨#[102]⟩⟩ : Ent))) rfl rfl (ent_cells (ent_new w3 _ ((⟨s3, 3, 511, ⟨#[]⟩, ⟨#[102]⟩⟩ : Ent)))) (ent_one ((⟨s3, 3, 511, ⟨#[]⟩, ⟨#[102]⟩⟩ : Ent))) (by unfold maxLen; omega) (by omega) (by simp; omega) ?_; intro v1 w1 hown1 hgrow1 _)
        have hb1 : Below w.heap.size w w1 := (hB3.alloc hsz3 _).grown hgrow1 (by simp; omega) (fun j hj => (own_ge hown3 j hj.symm).1)
        have hown4 : w1.ownsRow w.heap.size 52 5 v1 (L ++ [(⟨s3, 3, 511, ⟨#[]⟩, ⟨#[102]⟩⟩ : Ent)]).length (ecells (L ++ [(⟨s3, 3, 511, ⟨#[]⟩, ⟨#[102]⟩⟩ : Ent)])) := by rw [ecells_append, List.length_append]; simpa [ecells] using hown1
        go_roundw
        case rel => exact ⟨k + 1, L ++ [(⟨s3, 3, 511, ⟨#[]⟩, ⟨#[102]⟩⟩ : Ent)], by go_num, by omega, hown4, by simp; omega, HS.out.snoc (by show s3.size ≤ 5; omega), hb1⟩
        case measure => simp [intOf]; omega
    · have hge : ¬ (k : Int) < (n : Int) := by omega
      go_wp2
      go_ret
      exact ⟨_, L, rfl, ents_of_owns hown, by omega, HS.out, hB⟩
set_option maxRecDepth 100000 in
set_option maxHeartbeats 4000000 in
theorem full_p (ls : Nat) (hls : ls ≤ 3) (w : World) : Calls Tryz.prog 17 #[.int .i64 ls] w (SomeEnts w 4096) := by
  obtain ⟨i0, hi, hz0, hz1, hz2⟩ := info_parts info_ent
  have HC : Hid (∀ (k : Nat) (W : World), k < 4096 → (convert 79 9 (.slice (some ⟨W.heap.size, 0, none⟩) 3 3)).run Tryz.prog (W.alloc (.cells #[.int .u8 (97 + (k : Int) / 676), .int .u8 (97 + (k : Int) / 26 % 26), .int .u8 (97 + (k : Int) % 26)] 5)) = .ok (.string (bs [Tx.b8 (97 + (k : Int) / 676), Tx.b8 (97 + (k : Int) / 26 % 26), Tx.b8 (97 + (k : Int) % 26)])) (W.alloc (.cells #[.int .u8 (97 + (k : Int) / 676), .int .u8 (97 + (k : Int) / 26 % 26), .int .u8 (97 + (k : Int) % 26)] 5))) := fun k W hk => conv3 _ _ _ (by omega) (by omega) (by omega) W
  have hst : (w.alloc (.cells (ecells [⟨⟨#[100]⟩, 1, 493, ⟨#[]⟩, ⟨#[]⟩⟩]).toArray 52)).ownsRow w.heap.size 52 5 (.slice (some ⟨w.heap.size, 0, none⟩) 1 1) 1 (ecells [⟨⟨#[100]⟩, 1, 493, ⟨#[]⟩, ⟨#[]⟩⟩]) := ⟨rfl, .inr ⟨w.heap.size, 1, _, rfl, Nat.le_refl _, World.alloc_heap_new w _, Nat.le_refl _, by unfold maxLen; decide, rfl, rfl⟩⟩
  have HST : Hid _ := hst
  have HB0 : Hid (Below w.heap.size w (w.alloc (.cells (ecells [⟨⟨#[100]⟩, 1, 493, ⟨#[]⟩, ⟨#[]⟩⟩]).toArray 52))) := (Below.refl _ w).alloc (Nat.le_refl _) _
  clear hst
  go_enter Tryz.func17, Tryz.ntmps17
  go_wp2
  go_loopw [3, 4, 5] (fun v i _ wr => ∃ (k : Nat) (L : List Ent), i = .int .i64 k ∧ k < 4096 - ls ∧ wr.ownsRow w.heap.size 52 5 v L.length (ecells L) ∧ L.length = k + 1 ∧ ShortP L ∧ Below w.heap.size w wr) (fun _ i _ _ => 4096 - ls - (intOf i).toNat)
  case atStart => exact ⟨0, [(⟨⟨#[100]⟩, 1, 493, ⟨#[]⟩, ⟨#[]⟩⟩ : Ent)], rfl, by omega, HST.out, rfl, (fun e he => by rw [List.mem_singleton.1 he]; decide), HB0.out⟩
  case round =>
    obtain ⟨k, L, rfl, hk, hown, hlen, hS, hB⟩ := hrel
    have hsz := hB.size
    have HS : Hid (ShortP L) := hS
    obtain ⟨r1, r2, rfl⟩ := row_form hown
    have HL : Hid (L.length = k + 1) := hlen
    have hle : L.length ≤ 4096 := by omega
    clear hS
    by_cases hlt : k + 1 < 4096 - ls
    · have hlt' : (L.length : Int) < 4096 - (ls : Int) := by omega
      clear hlen
      have hcv := HC.out k wr (by omega)
      go_upto_region 6 with fail
      have hB1 : Below w.heap.size w (wr.alloc (.cells #[.int .u8 (97 + (k : Int) / 676), .int .u8 (97 + (k : Int) / 26 % 26), .int .u8 (97 + (k : Int) % 26)] 5)) := hB.alloc hsz _
      have hown2 := hown.alloc (.cells #[.int .u8 (97 + (k : Int) / 676), .int .u8 (97 + (k : Int) / 26 % 26), .int .u8 (97 + (k : Int) % 26)] 5)
      have hsx : (bs [Tx.b8 (97 + (k : Int) / 676), Tx.b8 (97 + (k : Int) / 26 % 26), Tx.b8 (97 + (k : Int) % 26)]).size = 3 := rfl
      generalize wr.alloc (.cells #[.int .u8 (97 + (k : Int) / 676), .int .u8 (97 + (k : Int) / 26 % 26), .int .u8 (97 + (k : Int) % 26)] 5) = w3 at *
      generalize bs [Tx.b8 (97 + (k : Int) / 676), Tx.b8 (97 + (k : Int) / 26 % 26), Tx.b8 (97 + (k : Int) % 26)] = sx at *
      have hsz3 := hB1.size
      clear hcv
      go_wp2_with (at_builtin; refine wpList_append_own _ rfl _ _ 29 rfl w.heap.size 52 i0 (.agg #[.string ⟨#[]⟩, .int .i64 0, .int .i64 0, .string ⟨#[]⟩, .string ⟨#[]⟩]) 5 64 Tryz.underlying29 hi hz0 hz1 hz2 rfl (by decide) _ _ _ rfl (hown2.alloc _) ⟨w3.heap.size, 0, none⟩ 1 1 (ecs ((⟨⟨#[100, 47]⟩ ++ sx, 2, 420, ⟨#[]⟩, ⟨#[]⟩⟩ : Ent))) rfl rfl (ent_cells (ent_new w3 _ ((⟨⟨#[100, 47]⟩ ++ sx, 2, 420, ⟨#[]⟩, ⟨#[]⟩⟩ : Ent)))) (ent_one ((⟨⟨#[100, 47]⟩ ++ sx, 2, 420, ⟨#[]⟩, ⟨#[]⟩⟩ : Ent))) (by unfold maxLen; omega) (by omega) (by simp; omega) ?_; intro v1 w1 hown1 hgrow1 _)
      have hb1 : Below w.heap.size w w1 := (hB1.alloc hsz3 _).grown hgrow1 (by simp; omega) (fun j hj => (own_ge hown2 j hj.symm).1)
      have hown4 : w1.ownsRow w.heap.size 52 5 v1 (L ++ [(⟨⟨#[100, 47]⟩ ++ sx, 2, 420, ⟨#[]⟩, ⟨#[]⟩⟩ : Ent)]).length (ecells (L ++ [(⟨⟨#[100, 47]⟩ ++ sx, 2, 420, ⟨#[]⟩, ⟨#[]⟩⟩ : Ent)])) := by rw [ecells_append, List.length_append]; simpa [ecells] using hown1
      go_roundw
      case rel => exact ⟨k + 1, L ++ [(⟨⟨#[100, 47]⟩ ++ sx, 2, 420, ⟨#[]⟩, ⟨#[]⟩⟩ : Ent)], by go_num, by omega, hown4, by have := HL.out; simp; omega, HS.out.snoc (by show (⟨#[100, 47]⟩ ++ sx : ByteArray).size ≤ 5; rw [ByteArray.size_append, hsx]; decide), hb1⟩
      case measure => simp [intOf]; omega
    · have hge : ¬ (L.length : Int) < 4096 - (ls : Int) := by omega
      clear hlen
      go_wp2
      go_ret
      exact ⟨_, L, rfl, ents_of_owns hown, by omega, HS.out, hB⟩
end Go.Proofs.YtcefgnjgcnboeaaGreatDoor

namespace Go.Proofs.YtcefgnjgcnboeaaGreatDoor
open Go Go.RowKit

def acs8 (a : Act8) : List Value := [.int .i64 a.kind, .string a.way]
def acells (l : List Act8) : List Value := l.flatMap acs8
theorem acells_get : ∀ (l : List Act8) (k : Nat) (r : Act8), l[k]? = some r → ∀ j v, (acs8 r)[j]? = some v → (acells l)[k * 2 + j]? = some v
  | [], k, r, h => by simp at h
  | y :: l, 0, r, h => fun j v hj => by
    have : y = r := by simpa using h
    subst this
    have hl : j < (acs8 y).length := (List.getElem?_eq_some_iff.1 hj).1
    show (acs8 y ++ acells l)[0 * 2 + j]? = some v
    rw [Nat.zero_mul, Nat.zero_add, List.getElem?_append_left hl]; exact hj
  | y :: l, k + 1, r, h => fun j v hj => by
    have h' : l[k]? = some r := by simpa using h
    show (acs8 y ++ acells l)[(k + 1) * 2 + j]? = some v
    rw [List.getElem?_append_right (by show 2 ≤ _; omega)]
    have := acells_get l k r h' j v hj
    rw [show (k + 1) * 2 + j - (acs8 y).length = k * 2 + j by show (k + 1) * 2 + j - 2 = _; omega]
    exact this
theorem acts_block (W : World) (al : List Act8) : ActsAt (W.alloc (.cells (acells al).toArray 36)) (.slice (some ⟨W.heap.size, 0, none⟩) al.length al.length) al := by
  refine ⟨some ⟨W.heap.size, 0, none⟩, al.length, W.heap.size, 0, rfl, fun _ => rfl, Nat.le_refl _, fun i e he => ?_⟩
  have h : ∀ (j : Nat) (v : Value), (acs8 e)[j]? = some v → (W.alloc (.cells (acells al).toArray 36)).cell? ⟨W.heap.size, 0 + i * 2 + j, none⟩ = some v := fun j v hv => by
    unfold World.cell?
    rw [World.alloc_heap_new]
    have := acells_get al i e he j v hv
    simpa using this
  exact ⟨h 0 _ rfl, h 1 _ rfl⟩
/-- The statements' own walks, as they are asked here. -/
theorem find_here {w : World} (hg : ErrType w) (W : World) (hb : Below w.heap.size w W) (v : Value) (L : List Ent) (way : ByteArray) (hv : EntsAt W v L) (hl : L.length ≤ 4096) (hs : ShortP L) (hw : way.size ≤ 1000) : Calls Tryz.prog 14 #[v, .string way] W fun e w' => e = .returned (.bool true) ∧ Below W.heap.size W w' :=
  resolvefind_law v L way W (hg.below hb) hv (by omega) (fun e he => by have := hs e he; omega) (by omega)
def ShortA (al : List Act8) : Prop := ∀ a ∈ al, a.way.size ≤ 2000
theorem plays_here {w : World} (hg : ErrType w) (W : World) (hb : Below w.heap.size w W) (v : Value) (L : List Ent) (al : List Act8) (hv : EntsAt W v L) (hl : L.length ≤ 4096) (hs : ShortP L) (ha : ShortA al) : Calls Tryz.prog 16 #[v, .slice (some ⟨W.heap.size, 0, none⟩) al.length al.length] (W.alloc (.cells (acells al).toArray 36)) fun e w' => e = .returned (.bool true) ∧ Below W.heap.size W w' := by
  have hbl : Below W.heap.size W (W.alloc (.cells (acells al).toArray 36)) := (Below.refl _ _).alloc (Nat.le_refl _) _
  refine (resolveplays_law v _ L al _ (hg.below (below_join hb hbl)) (hv.below hbl) (acts_block W al) (by omega) (fun e he => by have := hs e he; omega) (fun a h => by have := ha a h; omega)).mono ?_
  rintro e w' ⟨rfl, hb'⟩
  exact ⟨rfl, below_join hbl hb'⟩
theorem nil_ents {W : World} : EntsAt W (.slice none 0 0) [] := ⟨none, 0, 0, 0, rfl, fun h => absurd rfl h, Nat.le_refl _, fun i e h => by simp at h⟩
theorem short3 {a b c : Act8} (h1 : a.way.size ≤ 2000) (h2 : b.way.size ≤ 2000) (h3 : c.way.size ≤ 2000) : ShortA [a, b, c] := fun x hx => by
  simp only [List.mem_cons, List.not_mem_nil, or_false] at hx
  rcases hx with rfl | rfl | rfl <;> assumption
theorem ways_short {s d : ByteArray} (hs : s.size ≤ 96) (hd : d.size ≤ 64) : ∀ t ∈ ([s, s ++ ⟨#[110]⟩, s ++ ⟨#[47]⟩ ++ s, s ++ ⟨#[47]⟩ ++ s ++ ⟨#[47]⟩ ++ s, d, d ++ ⟨#[100]⟩, ⟨#[46, 46, 46]⟩ ++ s, ⟨#[46, 119, 104, 46]⟩, ⟨#[97, 0, 98]⟩, ⟨#[46]⟩, ⟨#[46, 46]⟩, ⟨#[46, 46, 46]⟩, ⟨#[97, 47, 46, 46, 47, 46, 46, 47, 98]⟩, d ++ ⟨#[46, 46, 47, 101]⟩] : List ByteArray), t.size ≤ 1000 := by
  have e1 : (⟨#[110]⟩ : ByteArray).size = 1 := rfl
  have e2 : (⟨#[47]⟩ : ByteArray).size = 1 := rfl
  have e3 : (⟨#[100]⟩ : ByteArray).size = 1 := rfl
  have e4 : (⟨#[46, 46, 46]⟩ : ByteArray).size = 3 := rfl
  have e5 : (⟨#[46, 46, 47, 101]⟩ : ByteArray).size = 4 := rfl
  intro t ht
  simp only [List.mem_cons, List.not_mem_nil, or_false] at ht
  rcases ht with rfl | rfl | rfl | rfl | rfl | rfl | rfl | rfl | rfl | rfl | rfl | rfl | rfl | rfl
  all_goals first | decide | (simp only [ByteArray.size_append]; omega) | omega
/-- The ways that are tried. -/
structure Ways (w W : World) (g : Nat) (ts : List ByteArray) : Prop where
  tab : W.heap[g]? = some (.cells (tvs ts).toArray 9 (0, 0))
  bel : Below w.heap.size w W
  len : ts.length = 14
  short : ∀ t ∈ ts, t.size ≤ 1000
theorem Ways.below {w W W2 : World} {g : Nat} {ts : List ByteArray} (h : Ways w W g ts) (hb : Below W.heap.size W W2) : Ways w W2 g ts := ⟨(hb.block _ (Array.getElem?_eq_some_iff.1 h.tab).1).trans h.tab, below_join h.bel hb, h.len, h.short⟩
theorem Ways.cell {w W : World} {g : Nat} {ts : List ByteArray} (h : Ways w W g ts) {k : Nat} {x : ByteArray} (hx : ts[k]? = some x) : W.cell? ⟨g, k, none⟩ = some (.string x) := by
  unfold World.cell?
  simp only [h.tab]
  simp [tvs, hx]
set_option maxRecDepth 100000 in
set_option maxHeartbeats 16000000 in
theorem edged_p (w : World) (hg : ErrType w) : Calls Tryz.prog 5 #[] w fun e w' => e = .returned (.bool true) ∧ Below w.heap.size w w' := by
  have HF : Hid (∀ (W : World), Below w.heap.size w W → ∀ (v : Value) (L : List Ent) (way : ByteArray), EntsAt W v L → L.length ≤ 4096 → ShortP L → way.size ≤ 1000 → Calls Tryz.prog 14 #[v, .string way] W fun e w' => e = .returned (.bool true) ∧ Below W.heap.size W w') := fun W hb v L way hv hl hs hw => find_here hg W hb v L way hv hl hs hw
  have HP : Hid (∀ (W : World), Below w.heap.size w W → ∀ (v : Value) (L : List Ent) (al : List Act8), EntsAt W v L → L.length ≤ 4096 → ShortP L → ShortA al → Calls Tryz.prog 16 #[v, .slice (some ⟨W.heap.size, 0, none⟩) al.length al.length] (W.alloc (.cells (acells al).toArray 36)) fun e w' => e = .returned (.bool true) ∧ Below W.heap.size W w') := fun W hb v L al hv hl hs ha => plays_here hg W hb v L al hv hl hs ha
  have HN : Hid (∀ (i : Int) (W : World), 0 ≤ i → i < 100 → Calls Tryz.prog 15 #[.int .i64 i] W fun e w' => (∃ s : ByteArray, s.size = 3 ∧ e = .returned (.string s)) ∧ Below W.heap.size W w') := fun i W h0 h1 => number_p i h0 h1 W
  clear hg
  go_enter Tryz.func5, Tryz.ntmps5
  go_wp2
  go_loopw [1, 2] (fun i _ wr => ∃ k : Nat, i = .int .i64 k ∧ k ≤ 43 ∧ Below w.heap.size w wr) (fun i _ _ => 43 - (intOf i).toNat)
  case atStart => exact ⟨38, rfl, by omega, Below.refl _ _⟩
  case round =>
    obtain ⟨k, rfl, hk, hB⟩ := hrel
    by_cases hlt : k < 43
    · have hlt' : (k : Int) < 43 := by omega
      go_wp2_with fail
      refine (chained_p k (by omega) wr).mono ?_
      rintro e w1 ⟨u, L, rfl, hE1, hL1, hS1, hb1⟩
      have B1 := below_join hB hb1
      have HE1 : Hid (∀ W, Below w1.heap.size w1 W → EntsAt W u L) := fun W hb => hE1.below hb
      have HS1 : Hid (ShortP L ∧ L.length ≤ 4096) := ⟨hS1, by omega⟩
      clear hE1 hb1 hL1 hS1 hB
      go_wp2_with fail
      refine (HN.out 0 _ (by omega) (by omega)).mono ?_
      rintro e w2 ⟨⟨s2, hs2, rfl⟩, hb2⟩
      have B2 := below_join B1 hb2
      have HE2 : Hid (∀ W, Below w2.heap.size w2 W → EntsAt W u L) := fun W hb => HE1.out W (below_join hb2 hb)
      clear HE1 B1 hb2
      go_wp2_with fail
      refine (HF.out _ B2 u L s2 (HE2.out _ (Below.refl _ _)) HS1.out.2 HS1.out.1 (by omega)).mono ?_
      rintro e w3 ⟨rfl, hb3⟩
      have B3 := below_join B2 hb3
      have HE3 : Hid (∀ W, Below w3.heap.size w3 W → EntsAt W u L) := fun W hb => HE2.out W (below_join hb3 hb)
      clear HE2 B2 hb3
      go_wp2_with fail
      refine (HN.out 0 _ (by omega) (by omega)).mono ?_
      rintro e w4 ⟨⟨s4, hs4, rfl⟩, hb4⟩
      have B4 := below_join B3 hb4
      have HE4 : Hid (∀ W, Below w4.heap.size w4 W → EntsAt W u L) := fun W hb => HE3.out W (below_join hb4 hb)
      clear HE3 B3 hb4
      go_wp2_with fail
      refine (HF.out _ B4 u L _ (HE4.out _ (Below.refl _ _)) HS1.out.2 HS1.out.1 (by simp only [ByteArray.size_append]; rw [hs4]; decide)).mono ?_
      rintro e w5 ⟨rfl, hb5⟩
      have B5 := below_join B4 hb5
      have HE5 : Hid (∀ W, Below w5.heap.size w5 W → EntsAt W u L) := fun W hb => HE4.out W (below_join hb5 hb)
      clear HE4 B4 hb5
      go_wp2_with fail
      refine (HN.out 0 _ (by omega) (by omega)).mono ?_
      rintro e w6 ⟨⟨s6, hs6, rfl⟩, hb6⟩
      go_wp2_with fail
      refine (HN.out 0 _ (by omega) (by omega)).mono ?_
      rintro e w7 ⟨⟨s7, hs7, rfl⟩, hb7⟩
      go_wp2_with fail
      refine (HN.out 1 _ (by omega) (by omega)).mono ?_
      rintro e w8 ⟨⟨s8, hs8, rfl⟩, hb8⟩
      have hb58 := below_join (below_join hb6 hb7) hb8
      have B8 := below_join B5 hb58
      have HE8 : Hid (∀ W, Below w8.heap.size w8 W → EntsAt W u L) := fun W hb => HE5.out W (below_join hb58 hb)
      clear HE5 B5 hb6 hb7 hb8 hb58
      have HPL := HP.out w8 B8 u L [⟨2, s6⟩, ⟨3, s7⟩, ⟨3, s8 ++ ⟨#[47, 120]⟩⟩] (HE8.out _ (Below.refl _ _)) HS1.out.2 HS1.out.1 (short3 (by show s6.size ≤ _; omega) (by show s7.size ≤ _; omega) (by show (s8 ++ ⟨#[47, 120]⟩ : ByteArray).size ≤ _; rw [ByteArray.size_append, hs8]; decide))
      go_wp2_with fail
      refine HPL.mono ?_
      rintro e w9 ⟨rfl, hb9⟩
      have B9 := below_join B8 hb9
      clear HPL B8 hb9 HE8 HS1
      go_wp2
      go_roundw
      case rel => exact ⟨k + 1, by go_num, by omega, B9⟩
      case measure => simp [intOf]; omega
    · have hge : ¬ (k : Int) < 43 := by omega
      go_wp2
      go_loopw [3] (fun i wr => ∃ k : Nat, i = .int .i64 k ∧ k ≤ 3 ∧ Below w.heap.size w wr) (fun i _ => 3 - (intOf i).toNat)
      case atStart => exact ⟨0, rfl, by omega, hB⟩
      case round =>
        clear hB
        obtain ⟨j, rfl, hj, hB⟩ := hrel
        by_cases hlt : j < 3
        · have hlt' : (j : Int) < 3 := by omega
          go_wp2_with fail
          refine (full_p j (by omega) wr).mono ?_
          rintro e w1 ⟨u, L, rfl, hE1, hL1, hS1, hb1⟩
          have B1 := below_join hB hb1
          have HPL := HP.out w1 B1 u L [⟨2, ⟨#[120, 47, 121]⟩⟩, ⟨3, ⟨#[122, 47, 119, 47, 102]⟩⟩, ⟨3, ⟨#[122]⟩⟩, ⟨2, ⟨#[100]⟩⟩, ⟨2, ⟨#[120]⟩⟩] hE1 hL1 hS1 (by intro x hx; simp only [List.mem_cons, List.not_mem_nil, or_false] at hx; rcases hx with rfl | rfl | rfl | rfl | rfl <;> decide)
          clear hE1 hb1 hL1 hS1 hB
          go_wp2_with fail
          refine HPL.mono ?_
          rintro e w2 ⟨rfl, hb2⟩
          have B2 := below_join B1 hb2
          clear HPL B1 hb2
          go_wp2
          go_roundw
          case rel => exact ⟨j + 1, by go_num, by omega, B2⟩
          case measure => simp [intOf]; omega
        · have hge3 : ¬ (j : Int) < 3 := by omega
          go_wp2
          go_loopw [4, 6] (fun v i wr => ∃ (n : Nat) (s : ByteArray), i = .int .i64 n ∧ v = .string s ∧ n ≤ 96 ∧ s.size ≤ n ∧ Below w.heap.size w wr) (fun _ i _ => 96 - (intOf i).toNat)
          case atStart => exact ⟨0, ⟨#[]⟩, rfl, rfl, by omega, by decide, hB⟩
          case round =>
            clear hB
            obtain ⟨n, s, rfl, rfl, hn, hs, hB⟩ := hrel
            by_cases hlt : n < 96
            · have hlt' : (n : Int) < 96 := by omega
              go_wp2
              go_roundw
              case rel => exact ⟨n + 1, s ++ ⟨#[110]⟩, by go_num, rfl, by omega, by rw [ByteArray.size_append]; have : (⟨#[110]⟩ : ByteArray).size = 1 := rfl; omega, hB⟩
              case measure => simp [intOf]; omega
            · have hgen : ¬ (n : Int) < 96 := by omega
              go_wp2
              go_loopw [5, 7] (fun v i wr => ∃ (m : Nat) (d : ByteArray), i = .int .i64 m ∧ v = .string d ∧ m ≤ 32 ∧ d.size ≤ 2 * m ∧ Below w.heap.size w wr) (fun _ i _ => 32 - (intOf i).toNat)
              case atStart => exact ⟨0, ⟨#[]⟩, rfl, rfl, by omega, by decide, hB⟩
              case round =>
                clear hB
                obtain ⟨m, d, rfl, rfl, hm, hd, hB⟩ := hrel
                by_cases hlt : m < 32
                · have hlt' : (m : Int) < 32 := by omega
                  go_wp2
                  go_roundw
                  case rel => exact ⟨m + 1, d ++ ⟨#[100, 47]⟩, by go_num, rfl, by omega, by rw [ByteArray.size_append]; have : (⟨#[100, 47]⟩ : ByteArray).size = 2 := rfl; omega, hB⟩
                  case measure => simp [intOf]; omega
                · have hgem : ¬ (m : Int) < 32 := by omega
                  have hsz : s.size ≤ 96 := by omega
                  have hdz : d.size ≤ 64 := by omega
                  go_upto_region 22 with fail
                  go_cut [8] (fun s8 wx => ∃ (g : Nat) (ts : List ByteArray), s8 = .slice (some ⟨g, 0, none⟩) 14 14 ∧ Ways w wx g ts)
                  case first =>
                    go_wp2
                    go_meet
                    exact ⟨wr.heap.size, [s, s ++ ⟨#[110]⟩, s ++ ⟨#[47]⟩ ++ s, s ++ ⟨#[47]⟩ ++ s ++ ⟨#[47]⟩ ++ s, d, d ++ ⟨#[100]⟩, ⟨#[46, 46, 46]⟩ ++ s, ⟨#[46, 119, 104, 46]⟩, ⟨#[97, 0, 98]⟩, ⟨#[46]⟩, ⟨#[46, 46]⟩, ⟨#[46, 46, 46]⟩, ⟨#[97, 47, 46, 46, 47, 46, 46, 47, 98]⟩, d ++ ⟨#[46, 46, 47, 101]⟩], rfl, World.alloc_heap_new wr _, hB.alloc hB.size _, rfl, ways_short hsz hdz⟩
                  case rest =>
                    obtain ⟨g, ts, rfl, hW⟩ := hcut
                    clear hB
                    go_wp2
                    go_loopw [9] (fun i wr => ∃ k : Nat, i = .int .i64 k ∧ k ≤ 14 ∧ Ways w wr g ts) (fun i _ => 14 - (intOf i).toNat)
                    case atStart => exact ⟨0, rfl, by omega, hW⟩
                    case round =>
                      clear hW
                      obtain ⟨k, rfl, hk, hW⟩ := hrel
                      by_cases hlt : k < 14
                      · have hlt' : (k : Int) < 14 := by omega
                        have hk0 : (0 : Int) ≤ (k : Int) := by omega
                        obtain ⟨x, hx⟩ : ∃ x, ts[k]? = some x := ⟨_, List.getElem?_eq_getElem (by rw [hW.len]; exact hlt)⟩
                        have HX : Hid (ts[k]? = some x) := hx
                        have hxz := hW.short x (List.mem_of_getElem? hx)
                        have HW : Hid (Ways w wr g ts) := hW
                        clear hx hW
                        go_upto_region 26 with fail
                        go_cut [134] (fun s wx => s = .bool false ∧ Ways w wx g ts)
                        case first =>
                          refine wp_region_noPanic ?_
                          refine wp_region_held_drew (S := fun W => Ways w W g ts) (by kernel_rfl) (HW.out.below (below_drewN (Below.refl _ _) 1)) (fun h0 => ?_)
                          generalize hwd : wr.drew = wd at *
                          clear hwd
                          refine wpAnyH_take (i := 0) (v := .slice (some ⟨g, 0, none⟩) 14 14) rfl (by kernel_rfl) (by kernel_rfl) (by kernel_rfl) (fun _ _ _ h => h) (Or.inl ⟨by rfl, fun w' hSw => by have s0 := hSw.cell HX.out; go_simp <;> first | omega | rfl⟩) h0 ?_
                          try dsimp [Act.put]
                          try simp only [List.setIfInBounds_toArray, List.set_cons_succ, List.set_cons_zero]
                          refine wpAnyH_take (i := 1) (v := .int .i64 k) rfl (by kernel_rfl) (by kernel_rfl) (by kernel_rfl) (fun _ _ _ h => h) (Or.inl ⟨by rfl, fun w' hSw => by have s0 := hSw.cell HX.out; go_simp <;> first | omega | rfl⟩) h0 ?_
                          try dsimp [Act.put]
                          try simp only [List.setIfInBounds_toArray, List.set_cons_succ, List.set_cons_zero]
                          refine wpAnyH_take (i := 2) (v := (.pointer (some ⟨g, k, none⟩))) rfl (by kernel_rfl) (by kernel_rfl) (by kernel_rfl) (fun _ _ _ h => h) (Or.inl ⟨by rfl, fun w' hSw => by have s0 := hSw.cell HX.out; go_simp <;> first | omega | rfl⟩) h0 ?_
                          try dsimp [Act.put]
                          try simp only [List.setIfInBounds_toArray, List.set_cons_succ, List.set_cons_zero]
                          refine wpAnyH_take (i := 3) (v := .string x) rfl (by kernel_rfl) (by kernel_rfl) (by kernel_rfl) (fun _ _ _ h => h) (Or.inl ⟨by rfl, fun w' hSw => by have s0 := hSw.cell HX.out; go_simp <;> first | omega | rfl⟩) h0 ?_
                          try dsimp [Act.put]
                          try simp only [List.setIfInBounds_toArray, List.set_cons_succ, List.set_cons_zero]
                          refine wpAnyH_take (i := 4) (v := .agg #[.int .i64 2, .string x]) rfl (by kernel_rfl) (by kernel_rfl) (by kernel_rfl) (fun _ _ _ h => h) (Or.inl ⟨by rfl, fun w' hSw => by have s0 := hSw.cell HX.out; go_simp <;> first | omega | rfl⟩) h0 ?_
                          try dsimp [Act.put]
                          try simp only [List.setIfInBounds_toArray, List.set_cons_succ, List.set_cons_zero]
                          refine wpAnyH_take (i := 5) (v := .slice (some ⟨g, 0, none⟩) 14 14) rfl (by kernel_rfl) (by kernel_rfl) (by kernel_rfl) (fun _ _ _ h => h) (Or.inl ⟨by rfl, fun w' hSw => by have s0 := hSw.cell HX.out; go_simp <;> first | omega | rfl⟩) h0 ?_
                          try dsimp [Act.put]
                          try simp only [List.setIfInBounds_toArray, List.set_cons_succ, List.set_cons_zero]
                          refine wpAnyH_take (i := 6) (v := .int .i64 k) rfl (by kernel_rfl) (by kernel_rfl) (by kernel_rfl) (fun _ _ _ h => h) (Or.inl ⟨by rfl, fun w' hSw => by have s0 := hSw.cell HX.out; go_simp <;> first | omega | rfl⟩) h0 ?_
                          try dsimp [Act.put]
                          try simp only [List.setIfInBounds_toArray, List.set_cons_succ, List.set_cons_zero]
                          refine wpAnyH_take (i := 7) (v := (.pointer (some ⟨g, k, none⟩))) rfl (by kernel_rfl) (by kernel_rfl) (by kernel_rfl) (fun _ _ _ h => h) (Or.inl ⟨by rfl, fun w' hSw => by have s0 := hSw.cell HX.out; go_simp <;> first | omega | rfl⟩) h0 ?_
                          try dsimp [Act.put]
                          try simp only [List.setIfInBounds_toArray, List.set_cons_succ, List.set_cons_zero]
                          refine wpAnyH_take (i := 8) (v := .string x) rfl (by kernel_rfl) (by kernel_rfl) (by kernel_rfl) (fun _ _ _ h => h) (Or.inl ⟨by rfl, fun w' hSw => by have s0 := hSw.cell HX.out; go_simp <;> first | omega | rfl⟩) h0 ?_
                          try dsimp [Act.put]
                          try simp only [List.setIfInBounds_toArray, List.set_cons_succ, List.set_cons_zero]
                          refine wpAnyH_take (i := 9) (v := .agg #[.int .i64 3, .string x]) rfl (by kernel_rfl) (by kernel_rfl) (by kernel_rfl) (fun _ _ _ h => h) (Or.inl ⟨by rfl, fun w' hSw => by have s0 := hSw.cell HX.out; go_simp <;> first | omega | rfl⟩) h0 ?_
                          try dsimp [Act.put]
                          try simp only [List.setIfInBounds_toArray, List.set_cons_succ, List.set_cons_zero]
                          refine wpAnyH_take (i := 10) (v := .slice (some ⟨g, 0, none⟩) 14 14) rfl (by kernel_rfl) (by kernel_rfl) (by kernel_rfl) (fun _ _ _ h => h) (Or.inl ⟨by rfl, fun w' hSw => by have s0 := hSw.cell HX.out; go_simp <;> first | omega | rfl⟩) h0 ?_
                          try dsimp [Act.put]
                          try simp only [List.setIfInBounds_toArray, List.set_cons_succ, List.set_cons_zero]
                          refine wpAnyH_take (i := 11) (v := .int .i64 k) rfl (by kernel_rfl) (by kernel_rfl) (by kernel_rfl) (fun _ _ _ h => h) (Or.inl ⟨by rfl, fun w' hSw => by have s0 := hSw.cell HX.out; go_simp <;> first | omega | rfl⟩) h0 ?_
                          try dsimp [Act.put]
                          try simp only [List.setIfInBounds_toArray, List.set_cons_succ, List.set_cons_zero]
                          refine wpAnyH_take (i := 12) (v := (.pointer (some ⟨g, k, none⟩))) rfl (by kernel_rfl) (by kernel_rfl) (by kernel_rfl) (fun _ _ _ h => h) (Or.inl ⟨by rfl, fun w' hSw => by have s0 := hSw.cell HX.out; go_simp <;> first | omega | rfl⟩) h0 ?_
                          try dsimp [Act.put]
                          try simp only [List.setIfInBounds_toArray, List.set_cons_succ, List.set_cons_zero]
                          refine wpAnyH_take (i := 13) (v := .string x) rfl (by kernel_rfl) (by kernel_rfl) (by kernel_rfl) (fun _ _ _ h => h) (Or.inl ⟨by rfl, fun w' hSw => by have s0 := hSw.cell HX.out; go_simp <;> first | omega | rfl⟩) h0 ?_
                          try dsimp [Act.put]
                          try simp only [List.setIfInBounds_toArray, List.set_cons_succ, List.set_cons_zero]
                          refine wpAnyH_take (i := 14) (v := .agg #[.int .i64 0, .string x]) rfl (by kernel_rfl) (by kernel_rfl) (by kernel_rfl) (fun _ _ _ h => h) (Or.inl ⟨by rfl, fun w' hSw => by have s0 := hSw.cell HX.out; go_simp <;> first | omega | rfl⟩) h0 ?_
                          try dsimp [Act.put]
                          try simp only [List.setIfInBounds_toArray, List.set_cons_succ, List.set_cons_zero]
                          refine wpAnyH_ready (rs := [15]) (by kernel_rfl) (by simp) ?_
                          refine AllReadyH.cons rfl ?_ AllReadyH.nil
                          intro K' hK
                          rw [if_pos (by rfl)]
                          go_simp
                          have h1 : Ways w (wd.alloc (.cells (acells [⟨2, x⟩, ⟨3, x⟩, ⟨0, x⟩]).toArray 36)) g ts := h0.below ((Below.refl _ _).alloc (Nat.le_refl _) _)
                          refine hK.out _ _ h1 (fun _ => ?_)
                          try dsimp [Act.put]
                          try simp only [List.setIfInBounds_toArray, List.set_cons_succ, List.set_cons_zero]
                          refine wpAnyH_ready (rs := [16]) (by kernel_rfl) (by simp) ?_
                          refine AllReadyH.cons rfl ?_ AllReadyH.nil
                          intro K' hK
                          rw [if_pos (by rfl)]
                          go_simp
                          refine (HP.out wd h0.bel (.slice none 0 0) [] [⟨2, x⟩, ⟨3, x⟩, ⟨0, x⟩] nil_ents (by decide) (fun e he => by cases he) (short3 (by show x.size ≤ _; omega) (by show x.size ≤ _; omega) (by show x.size ≤ _; omega))).mono ?_
                          rintro e w2 ⟨rfl, hbx⟩
                          have h2 := h0.below hbx
                          refine hK.out _ _ h2 (fun _ => ?_)
                          clear hbx
                          try dsimp [Act.put]
                          try simp only [List.setIfInBounds_toArray, List.set_cons_succ, List.set_cons_zero]
                          refine wpAnyH_take (i := 17) (v := .bool false) rfl (by kernel_rfl) (by kernel_rfl) (by kernel_rfl) (fun _ _ _ h => h) (Or.inl ⟨by rfl, fun w' hSw => by have s0 := hSw.cell HX.out; go_simp <;> first | omega | rfl⟩) h2 ?_
                          try dsimp [Act.put]
                          try simp only [List.setIfInBounds_toArray, List.set_cons_succ, List.set_cons_zero]
                          refine wpAnyH_take (i := 18) (v := .bool false) rfl (by kernel_rfl) (by kernel_rfl) (by kernel_rfl) (fun _ _ _ h => h) (Or.inl ⟨by rfl, fun w' hSw => by have s0 := hSw.cell HX.out; go_simp <;> first | omega | rfl⟩) h2 ?_
                          try dsimp [Act.put]
                          try simp only [List.setIfInBounds_toArray, List.set_cons_succ, List.set_cons_zero]
                          refine wpAnyH_take (i := 19) (v := .slice (some ⟨g, 0, none⟩) 14 14) rfl (by kernel_rfl) (by kernel_rfl) (by kernel_rfl) (fun _ _ _ h => h) (Or.inl ⟨by rfl, fun w' hSw => by have s0 := hSw.cell HX.out; go_simp <;> first | omega | rfl⟩) h2 ?_
                          try dsimp [Act.put]
                          try simp only [List.setIfInBounds_toArray, List.set_cons_succ, List.set_cons_zero]
                          refine wpAnyH_take (i := 20) (v := .int .i64 k) rfl (by kernel_rfl) (by kernel_rfl) (by kernel_rfl) (fun _ _ _ h => h) (Or.inl ⟨by rfl, fun w' hSw => by have s0 := hSw.cell HX.out; go_simp <;> first | omega | rfl⟩) h2 ?_
                          try dsimp [Act.put]
                          try simp only [List.setIfInBounds_toArray, List.set_cons_succ, List.set_cons_zero]
                          refine wpAnyH_take (i := 21) (v := (.pointer (some ⟨g, k, none⟩))) rfl (by kernel_rfl) (by kernel_rfl) (by kernel_rfl) (fun _ _ _ h => h) (Or.inl ⟨by rfl, fun w' hSw => by have s0 := hSw.cell HX.out; go_simp <;> first | omega | rfl⟩) h2 ?_
                          try dsimp [Act.put]
                          try simp only [List.setIfInBounds_toArray, List.set_cons_succ, List.set_cons_zero]
                          refine wpAnyH_take (i := 22) (v := .string x) rfl (by kernel_rfl) (by kernel_rfl) (by kernel_rfl) (fun _ _ _ h => h) (Or.inl ⟨by rfl, fun w' hSw => by have s0 := hSw.cell HX.out; go_simp <;> first | omega | rfl⟩) h2 ?_
                          try dsimp [Act.put]
                          try simp only [List.setIfInBounds_toArray, List.set_cons_succ, List.set_cons_zero]
                          refine wpAnyH_take (i := 23) (v := .agg #[.int .i64 3, .string x]) rfl (by kernel_rfl) (by kernel_rfl) (by kernel_rfl) (fun _ _ _ h => h) (Or.inl ⟨by rfl, fun w' hSw => by have s0 := hSw.cell HX.out; go_simp <;> first | omega | rfl⟩) h2 ?_
                          try dsimp [Act.put]
                          try simp only [List.setIfInBounds_toArray, List.set_cons_succ, List.set_cons_zero]
                          refine wpAnyH_take (i := 24) (v := .slice (some ⟨g, 0, none⟩) 14 14) rfl (by kernel_rfl) (by kernel_rfl) (by kernel_rfl) (fun _ _ _ h => h) (Or.inl ⟨by rfl, fun w' hSw => by have s0 := hSw.cell HX.out; go_simp <;> first | omega | rfl⟩) h2 ?_
                          try dsimp [Act.put]
                          try simp only [List.setIfInBounds_toArray, List.set_cons_succ, List.set_cons_zero]
                          refine wpAnyH_take (i := 25) (v := .int .i64 k) rfl (by kernel_rfl) (by kernel_rfl) (by kernel_rfl) (fun _ _ _ h => h) (Or.inl ⟨by rfl, fun w' hSw => by have s0 := hSw.cell HX.out; go_simp <;> first | omega | rfl⟩) h2 ?_
                          try dsimp [Act.put]
                          try simp only [List.setIfInBounds_toArray, List.set_cons_succ, List.set_cons_zero]
                          refine wpAnyH_take (i := 26) (v := (.pointer (some ⟨g, k, none⟩))) rfl (by kernel_rfl) (by kernel_rfl) (by kernel_rfl) (fun _ _ _ h => h) (Or.inl ⟨by rfl, fun w' hSw => by have s0 := hSw.cell HX.out; go_simp <;> first | omega | rfl⟩) h2 ?_
                          try dsimp [Act.put]
                          try simp only [List.setIfInBounds_toArray, List.set_cons_succ, List.set_cons_zero]
                          refine wpAnyH_take (i := 27) (v := .string x) rfl (by kernel_rfl) (by kernel_rfl) (by kernel_rfl) (fun _ _ _ h => h) (Or.inl ⟨by rfl, fun w' hSw => by have s0 := hSw.cell HX.out; go_simp <;> first | omega | rfl⟩) h2 ?_
                          try dsimp [Act.put]
                          try simp only [List.setIfInBounds_toArray, List.set_cons_succ, List.set_cons_zero]
                          refine wpAnyH_take (i := 28) (v := .string (x ++ ⟨#[47, 46]⟩)) rfl (by kernel_rfl) (by kernel_rfl) (by kernel_rfl) (fun _ _ _ h => h) (Or.inl ⟨by rfl, fun w' hSw => by have s0 := hSw.cell HX.out; go_simp <;> first | omega | rfl⟩) h2 ?_
                          try dsimp [Act.put]
                          try simp only [List.setIfInBounds_toArray, List.set_cons_succ, List.set_cons_zero]
                          refine wpAnyH_take (i := 29) (v := .agg #[.int .i64 3, .string (x ++ ⟨#[47, 46]⟩)]) rfl (by kernel_rfl) (by kernel_rfl) (by kernel_rfl) (fun _ _ _ h => h) (Or.inl ⟨by rfl, fun w' hSw => by have s0 := hSw.cell HX.out; go_simp <;> first | omega | rfl⟩) h2 ?_
                          try dsimp [Act.put]
                          try simp only [List.setIfInBounds_toArray, List.set_cons_succ, List.set_cons_zero]
                          refine wpAnyH_take (i := 30) (v := .slice (some ⟨g, 0, none⟩) 14 14) rfl (by kernel_rfl) (by kernel_rfl) (by kernel_rfl) (fun _ _ _ h => h) (Or.inl ⟨by rfl, fun w' hSw => by have s0 := hSw.cell HX.out; go_simp <;> first | omega | rfl⟩) h2 ?_
                          try dsimp [Act.put]
                          try simp only [List.setIfInBounds_toArray, List.set_cons_succ, List.set_cons_zero]
                          refine wpAnyH_take (i := 31) (v := .int .i64 k) rfl (by kernel_rfl) (by kernel_rfl) (by kernel_rfl) (fun _ _ _ h => h) (Or.inl ⟨by rfl, fun w' hSw => by have s0 := hSw.cell HX.out; go_simp <;> first | omega | rfl⟩) h2 ?_
                          try dsimp [Act.put]
                          try simp only [List.setIfInBounds_toArray, List.set_cons_succ, List.set_cons_zero]
                          refine wpAnyH_take (i := 32) (v := (.pointer (some ⟨g, k, none⟩))) rfl (by kernel_rfl) (by kernel_rfl) (by kernel_rfl) (fun _ _ _ h => h) (Or.inl ⟨by rfl, fun w' hSw => by have s0 := hSw.cell HX.out; go_simp <;> first | omega | rfl⟩) h2 ?_
                          try dsimp [Act.put]
                          try simp only [List.setIfInBounds_toArray, List.set_cons_succ, List.set_cons_zero]
                          refine wpAnyH_take (i := 33) (v := .string x) rfl (by kernel_rfl) (by kernel_rfl) (by kernel_rfl) (fun _ _ _ h => h) (Or.inl ⟨by rfl, fun w' hSw => by have s0 := hSw.cell HX.out; go_simp <;> first | omega | rfl⟩) h2 ?_
                          try dsimp [Act.put]
                          try simp only [List.setIfInBounds_toArray, List.set_cons_succ, List.set_cons_zero]
                          refine wpAnyH_take (i := 34) (v := .string (⟨#[120, 47]⟩ ++ x)) rfl (by kernel_rfl) (by kernel_rfl) (by kernel_rfl) (fun _ _ _ h => h) (Or.inl ⟨by rfl, fun w' hSw => by have s0 := hSw.cell HX.out; go_simp <;> first | omega | rfl⟩) h2 ?_
                          try dsimp [Act.put]
                          try simp only [List.setIfInBounds_toArray, List.set_cons_succ, List.set_cons_zero]
                          refine wpAnyH_take (i := 35) (v := .agg #[.int .i64 2, .string (⟨#[120, 47]⟩ ++ x)]) rfl (by kernel_rfl) (by kernel_rfl) (by kernel_rfl) (fun _ _ _ h => h) (Or.inl ⟨by rfl, fun w' hSw => by have s0 := hSw.cell HX.out; go_simp <;> first | omega | rfl⟩) h2 ?_
                          try dsimp [Act.put]
                          try simp only [List.setIfInBounds_toArray, List.set_cons_succ, List.set_cons_zero]
                          refine wpAnyH_ready (rs := [36]) (by kernel_rfl) (by simp) ?_
                          refine AllReadyH.cons rfl ?_ AllReadyH.nil
                          intro K' hK
                          rw [if_pos (by rfl)]
                          go_simp
                          have h3 : Ways w (w2.alloc (.cells (acells [⟨3, x⟩, ⟨3, x ++ ⟨#[47, 46]⟩⟩, ⟨2, ⟨#[120, 47]⟩ ++ x⟩]).toArray 36)) g ts := h2.below ((Below.refl _ _).alloc (Nat.le_refl _) _)
                          refine hK.out _ _ h3 (fun _ => ?_)
                          try dsimp [Act.put]
                          try simp only [List.setIfInBounds_toArray, List.set_cons_succ, List.set_cons_zero]
                          refine wpAnyH_ready (rs := [37]) (by kernel_rfl) (by simp) ?_
                          refine AllReadyH.cons rfl ?_ AllReadyH.nil
                          intro K' hK
                          rw [if_pos (by rfl)]
                          go_simp
                          refine (HP.out w2 h2.bel (.slice none 0 0) [] [⟨3, x⟩, ⟨3, x ++ ⟨#[47, 46]⟩⟩, ⟨2, ⟨#[120, 47]⟩ ++ x⟩] nil_ents (by decide) (fun e he => by cases he) (short3 (by show x.size ≤ _; omega) (by show (x ++ ⟨#[47, 46]⟩ : ByteArray).size ≤ _; rw [ByteArray.size_append]; have : (⟨#[47, 46]⟩ : ByteArray).size = 2 := rfl; omega) (by show (⟨#[120, 47]⟩ ++ x : ByteArray).size ≤ _; rw [ByteArray.size_append]; have : (⟨#[120, 47]⟩ : ByteArray).size = 2 := rfl; omega))).mono ?_
                          rintro e w4 ⟨rfl, hbx⟩
                          have h4 := h2.below hbx
                          refine hK.out _ _ h4 (fun _ => ?_)
                          clear hbx
                          try dsimp [Act.put]
                          try simp only [List.setIfInBounds_toArray, List.set_cons_succ, List.set_cons_zero]
                          refine wpAnyH_take (i := 38) (v := .bool false) rfl (by kernel_rfl) (by kernel_rfl) (by kernel_rfl) (fun _ _ _ h => h) (Or.inl ⟨by rfl, fun w' hSw => by have s0 := hSw.cell HX.out; go_simp <;> first | omega | rfl⟩) h4 ?_
                          try dsimp [Act.put]
                          try simp only [List.setIfInBounds_toArray, List.set_cons_succ, List.set_cons_zero]
                          refine wpAnyH_take (i := 39) (v := .bool false) rfl (by kernel_rfl) (by kernel_rfl) (by kernel_rfl) (fun _ _ _ h => h) (Or.inl ⟨by rfl, fun w' hSw => by have s0 := hSw.cell HX.out; go_simp <;> first | omega | rfl⟩) h4 ?_
                          try dsimp [Act.put]
                          try simp only [List.setIfInBounds_toArray, List.set_cons_succ, List.set_cons_zero]
                          refine wpAnyH_done (by kernel_rfl) ?_ _
                          refine NoPanic.normal ?_
                          go_wp2
                          go_meet
                          exact ⟨rfl, h4⟩
                        case rest =>
                          obtain ⟨rfl, hW2⟩ := hcut
                          clear HW
                          go_wp2
                          go_roundw
                          case rel => exact ⟨k + 1, by go_num, by omega, hW2⟩
                          case measure => simp [intOf]; omega
                      · have hgek : ¬ (k : Int) < 14 := by omega
                        go_wp2
                        go_ret
                        exact ⟨rfl, hW.bel⟩
end Go.Proofs.YtcefgnjgcnboeaaGreatDoor
