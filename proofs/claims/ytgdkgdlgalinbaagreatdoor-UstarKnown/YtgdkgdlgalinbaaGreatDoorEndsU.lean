/- The statements' own ends: each number about its ends, each text about its length, each byte as a type and in each number's field: whatever the other statements say of every header they say of these. -/
import Derived.Test.YtgdkgdlgalinbaaGreatDoorDecM
import Derived.Test.YtgdkgdlgalinbaaGreatDoorEncU
import Derived.Test.YtgdkgdlgalinbaaGreatDoorTimesU
import Derived.Deep.RegionHeld
import Derived.Deep.CutRange
namespace Go.Proofs.YtgdkgdlgalinbaaGreatDoor
open Go Go.RowKit

/-- A header with texts that are not long. -/
structure Hok (h : Hd) : Prop where
  p : h.path.size ≤ 1000
  l : h.link.size ≤ 1000
  u : h.user.size ≤ 1000
  g : h.group.size ≤ 1000
/-- What a statement says of every header. -/
def Says (G : World → Prop) (f : Nat) : Prop := ∀ h : Hd, Hok h → ∀ W, G W → Calls Tryz.prog f #[.agg (hcs h)] W fun e w' => e = .returned (.bool true) ∧ Below W.heap.size W w'
def SaysF (G : World → Prop) (f : Nat) : Prop := ∀ h : Hd, Hok h → ∀ (a : Int) (p : ByteArray), ∀ W, G W → Calls Tryz.prog f #[.agg (hcs h), .int .i64 a, .string p] W fun e w' => e = .returned (.bool true) ∧ Below W.heap.size W w'
/-- Headers in a row. -/
def hrow (l : List Hd) : Array Value := (l.flatMap fun h => (hcs h).toList).toArray
theorem hrow_range' {W : World} {b : Nat} {t : TypeId} {l : List Hd} (h : Lies W b t (hrow l)) (j : Nat) (hj : j < l.length) : W.rangeAt b (j * 12) (hcs l[j]).toList := by
  intro i v hv
  refine h.cell ?_
  have hi : i < 12 := by
    have := (List.getElem?_eq_some_iff.1 hv).1
    exact this
  clear h
  unfold hrow
  induction l generalizing j with
  | nil => simp at hj
  | cons x l ih =>
    rw [List.getElem?_toArray, List.flatMap_cons]
    have hx : (hcs x).toList.length = 12 := rfl
    cases j with
    | zero =>
      rw [List.getElem?_append_left (by omega), Nat.zero_mul, Nat.zero_add]; exact hv
    | succ j =>
      rw [List.getElem?_append_right (by omega), hx, show (j + 1) * 12 + i - 12 = j * 12 + i by omega]
      have := ih j (by simpa using hj) hv
      rw [List.getElem?_toArray] at this
      exact this
theorem hrow_range {W : World} {b : Nat} {t : TypeId} {l : List Hd} {x : Hd} (h : Lies W b t (hrow l)) (j : Nat) (hj : l[j]? = some x) : W.rangeAt b (j * 12) (hcs x).toList := by
  obtain ⟨h1, rfl⟩ := List.getElem?_eq_some_iff.1 hj
  exact hrow_range' h j h1
theorem wpList_load_mid_g {P : Program} {ops : Array Oper} {rest : List Oper} {op : Oper} {a : Act} {w : World} {Q : Exit → Act → World → Prop} (hw : Region.wanted op (yielded ops a.tmps) = true) (ty : TypeId) (x : Operand) (ho : op.op = .load ty x)
    (b o : Nat) (hx : a.eval x = .pointer (some ⟨b, o, none⟩)) (cs : List Value) (d : TypeDesc) (hc : w.rangeAt b o cs)
    (hu : P.underlying ty = some d) (hd : d.isRow = true) (hi : (P.info? ty).map (·.size) = some cs.length)
    (h : wpList P ops Q rest (a.put op.dst (.agg cs.toArray)) w) : wpList P ops Q (op :: rest) a w := by
  unfold wpList
  rw [if_pos hw]
  exact .inl (wp_load_mid ty x ho b o hx cs d hc hu hd hi h)
def ints (l : List Int) : List Value := l.map fun x => .int .i64 x
def xs11 : List Int := [-9223372036854775808, -1, 0, 1, 7, 8, 2097151, 2097152, 8589934591, 8589934592, 9223372036854775807]
theorem xs11_at (k : Nat) (hk : k < 11) : ∃ x, (ints xs11).toArray[k]? = some (.int .i64 x) := by
  refine ⟨xs11.getD k 0, ?_⟩
  obtain rfl | rfl | rfl | rfl | rfl | rfl | rfl | rfl | rfl | rfl | rfl : k = 0 ∨ k = 1 ∨ k = 2 ∨ k = 3 ∨ k = 4 ∨ k = 5 ∨ k = 6 ∨ k = 7 ∨ k = 8 ∨ k = 9 ∨ k = 10 := by omega
  all_goals rfl
def hs7 (x : Int) : List Hd := [{ zeroHd with mode := x }, { zeroHd with uid := x }, { zeroHd with gid := x }, { zeroHd with size := x }, { zeroHd with time := x }, { zeroHd with major := x }, { zeroHd with minor := x }]
theorem hs7_at (x : Int) (i : Nat) (hi : i < 7) : ∃ h, (hs7 x)[i]? = some h ∧ Hok h := by
  obtain rfl | rfl | rfl | rfl | rfl | rfl | rfl : i = 0 ∨ i = 1 ∨ i = 2 ∨ i = 3 ∨ i = 4 ∨ i = 5 ∨ i = 6 := by omega
  all_goals exact ⟨_, rfl, ⟨Nat.zero_le _, Nat.zero_le _, Nat.zero_le _, Nat.zero_le _⟩⟩
def hs9 (s b : ByteArray) : List Hd := [{ zeroHd with path := s }, { zeroHd with path := s ++ ⟨#[47]⟩ }, { zeroHd with path := ⟨#[47]⟩ ++ s }, { zeroHd with path := s ++ ⟨#[47, 98]⟩ }, { zeroHd with path := ⟨#[98, 47]⟩ ++ s }, { zeroHd with path := s ++ ⟨#[47]⟩ ++ b }, { zeroHd with link := s }, { zeroHd with user := s }, { zeroHd with group := s }]
theorem size_app (a b : ByteArray) : (a ++ b).size = a.size + b.size := by rw [← un_length, un_append, List.length_append, un_length, un_length]
theorem hs9_at (s b : ByteArray) (hs : s.size ≤ 300) (hb : b.size ≤ 100) (i : Nat) (hi : i < 9) : ∃ h, (hs9 s b)[i]? = some h ∧ Hok h := by
  have e1 : (⟨#[47]⟩ : ByteArray).size = 1 := rfl
  have e2 : (⟨#[47, 98]⟩ : ByteArray).size = 2 := rfl
  have e3 : (⟨#[98, 47]⟩ : ByteArray).size = 2 := rfl
  have e0 : (⟨#[]⟩ : ByteArray).size = 0 := rfl
  obtain rfl | rfl | rfl | rfl | rfl | rfl | rfl | rfl | rfl : i = 0 ∨ i = 1 ∨ i = 2 ∨ i = 3 ∨ i = 4 ∨ i = 5 ∨ i = 6 ∨ i = 7 ∨ i = 8 := by omega
  all_goals
    refine ⟨_, rfl, ⟨?_, ?_, ?_, ?_⟩⟩ <;> simp only [zeroHd, size_app, e0, e1, e2, e3] <;> omega
def fr16 : List Int := [100, 108, 116, 124, 136, 329, 337, 0, 156, 157, 257, 263, 264, 265, 345, 500]
theorem fr16_at (k : Nat) (hk : k < 16) : ∃ x, (ints fr16).toArray[k]? = some (.int .i64 x) ∧ 0 ≤ x ∧ x ≤ 500 := by
  refine ⟨fr16.getD k 0, ?_⟩
  obtain rfl | rfl | rfl | rfl | rfl | rfl | rfl | rfl | rfl | rfl | rfl | rfl | rfl | rfl | rfl | rfl : k = 0 ∨ k = 1 ∨ k = 2 ∨ k = 3 ∨ k = 4 ∨ k = 5 ∨ k = 6 ∨ k = 7 ∨ k = 8 ∨ k = 9 ∨ k = 10 ∨ k = 11 ∨ k = 12 ∨ k = 13 ∨ k = 14 ∨ k = 15 := by omega
  all_goals exact ⟨rfl, by decide, by decide⟩
/-- A header that lies in a block of this call's own. -/
def HSt (w : World) (g : Nat) (W : World) : Prop := ∃ h : Hd, Hok h ∧ Lies W g 28 (hcs h) ∧ Below w.heap.size w W
theorem HSt.cell {w : World} {g : Nat} {W : World} (h : HSt w g W) (i : Nat) (hi : i < 12) : ∃ v, W.cell? ⟨g, i, none⟩ = some v := by
  obtain ⟨h, _, hL, _⟩ := h
  exact ⟨(hcs h)[i]'hi, hL.cell (Array.getElem?_eq_getElem hi)⟩
theorem HSt.frozen {w : World} {g : Nat} {W : World} (h : HSt w g W) (i : Nat) : W.frozen? ⟨g, i, none⟩ = false := by
  obtain ⟨_, _, hL, _⟩ := h
  exact hL.frozen i
theorem HSt.set1 {w : World} {g : Nat} {W : World} (h : HSt w g W) (hb : w.heap.size ≤ g) : HSt w g (W.setCell ⟨g, 1, none⟩ (.int .i64 (-1))) := by
  obtain ⟨h, o, hL, hB⟩ := h
  exact ⟨{ h with mode := -1 }, ⟨o.p, o.l, o.u, o.g⟩, hL.set (i := 1) _, hB.setCell (p := ⟨g, 1, none⟩) hb _⟩
theorem HSt.set5 {w : World} {g : Nat} {W : World} (h : HSt w g W) (hb : w.heap.size ≤ g) : HSt w g (W.setCell ⟨g, 5, none⟩ (.int .i64 8589934592)) := by
  obtain ⟨h, o, hL, hB⟩ := h
  exact ⟨{ h with time := 8589934592 }, ⟨o.p, o.l, o.u, o.g⟩, hL.set (i := 5) _, hB.setCell (p := ⟨g, 5, none⟩) hb _⟩
theorem HSt.set7 {w : World} {g : Nat} {W : World} (h : HSt w g W) (hb : w.heap.size ≤ g) (s : ByteArray) (hs : s.size ≤ 1000) : HSt w g (W.setCell ⟨g, 7, none⟩ (.string s)) := by
  obtain ⟨h, o, hL, hB⟩ := h
  exact ⟨{ h with link := s }, ⟨o.p, hs, o.u, o.g⟩, hL.set (i := 7) _, hB.setCell (p := ⟨g, 7, none⟩) hb _⟩
theorem HSt.set0 {w : World} {g : Nat} {W : World} (h : HSt w g W) (hb : w.heap.size ≤ g) (s : ByteArray) (hs : s.size ≤ 1000) : HSt w g (W.setCell ⟨g, 0, none⟩ (.string s)) := by
  obtain ⟨h, o, hL, hB⟩ := h
  exact ⟨{ h with path := s }, ⟨hs, o.l, o.u, o.g⟩, hL.set (i := 0) _, hB.setCell (p := ⟨g, 0, none⟩) hb _⟩
theorem HSt.set8 {w : World} {g : Nat} {W : World} (h : HSt w g W) (hb : w.heap.size ≤ g) (s : ByteArray) (hs : s.size ≤ 1000) : HSt w g (W.setCell ⟨g, 8, none⟩ (.string s)) := by
  obtain ⟨h, o, hL, hB⟩ := h
  exact ⟨{ h with user := s }, ⟨o.p, o.l, hs, o.g⟩, hL.set (i := 8) _, hB.setCell (p := ⟨g, 8, none⟩) hb _⟩
set_option maxRecDepth 100000 in
set_option maxHeartbeats 4000000 in
theorem ends_p (G : World → Prop) (hGb : ∀ {u v : World}, G u → Below u.heap.size u v → G v) (HE : Hid (Says G 14)) (HB : Hid (Says G 15)) (HF : Hid (SaysF G 16)) (w : World) (hG : G w) : Calls Tryz.prog 6 #[] w fun e w' => e = .returned (.bool true) ∧ Below w.heap.size w w' := by
  have HG : Hid (G w) := hG
  clear hG
  go_enter Tryz.func6, Tryz.ntmps6
  go_wp2
  go_loopw [2] (fun i wr => ∃ k : Nat, k ≤ 11 ∧ i = .int .i64 k ∧ Lies wr w.heap.size 2 (ints xs11).toArray ∧ Below w.heap.size w wr) (fun i _ => 11 - (intOf i).toNat)
  case atStart => exact ⟨0, by omega, rfl, Lies.new w _ _, (Below.refl _ w).alloc (Nat.le_refl _) _⟩
  case round =>
    obtain ⟨k, hk, rfl, hL, hB⟩ := hrel
    by_cases hlt : k < 11
    · have hlt' : (k : Int) < 11 := by omega
      have hk0 : (0 : Int) ≤ (k : Int) := by omega
      obtain ⟨x, hx⟩ := xs11_at k hlt
      have c0 := hL.cell hx
      have hLw := hL.lt
      have HLN : Hid (Lies ((wr.alloc (.cells (hrow (hs7 x)) 28)).drew) wr.heap.size 28 (hrow (hs7 x))) := (Lies.new wr _ _).drew 1
      have HLX : Hid (Lies ((wr.alloc (.cells (hrow (hs7 x)) 28)).drew) w.heap.size 2 (ints xs11).toArray) := (hL.alloc _).drew 1
      have HBN : Hid (Below w.heap.size w ((wr.alloc (.cells (hrow (hs7 x)) 28)).drew)) := below_drawn (hB.alloc hB.size _) 1
      clear hL hB hx
      go_wp2
      go_region_held (fun W => W.cell? ⟨w.heap.size, k, none⟩ = some (.int .i64 x) ∧ wr.heap.size ≤ W.heap.size) (go_keep) (fail)
      go_wp2
      generalize wr.heap.size = gN at *
      go_loopw [4] (fun j wq => ∃ i : Nat, i ≤ 7 ∧ j = .int .i64 i ∧ Lies wq gN 28 (hrow (hs7 x)) ∧ Lies wq w.heap.size 2 (ints xs11).toArray ∧ Below w.heap.size w wq) (fun j _ => 7 - (intOf j).toNat)
      case atStart => exact ⟨0, by omega, rfl, HLN.out, HLX.out, HBN.out⟩
      case round =>
        obtain ⟨i, hi, rfl, hN, hX, hB⟩ := hrel
        by_cases hlt2 : i < 7
        · have hlt2' : (i : Int) < 7 := by omega
          have hi0 : (0 : Int) ≤ (i : Int) := by omega
          obtain ⟨h, hh, hok⟩ := hs7_at x i hlt2
          have R1 := hrow_range hN i hh
          have G1 := hGb HG.out hB
          have hinf : (Tryz.prog.info? 28).map (·.size) = some (hcs h).toList.length := info_hd
          clear hh
          go_wp2_with (first
            | (refine wpList_load_mid rfl 28 (.tmp 67) rfl gN (i * 12) rfl (hcs h).toList _ R1 Tryz.underlying28 rfl hinf ?_)
            | (go_at_call 14; refine (HE.out h hok _ G1).mono ?_; rintro e w1 ⟨rfl, b1⟩; have N1 := hN.below b1; have X1 := hX.below b1; have B1 := below_join hB b1; have R2 : w1.rangeAt gN (i * 12) (hcs h).toList := fun j v hv => (b1.cell (p := ⟨gN, i * 12 + j, none⟩) hN.lt).trans (R1 j v hv); have G2 := hGb HG.out B1)
            | (refine wpList_load_mid_g rfl 28 (.tmp 74) rfl gN (i * 12) rfl (hcs h).toList _ R2 Tryz.underlying28 rfl hinf ?_)
            | (go_at_call 15; refine (HB.out h hok _ G2).mono ?_; rintro e w2 ⟨rfl, b2⟩))
          go_roundw
          case rel => exact ⟨i + 1, by omega, by go_num, N1.below b2, X1.below b2, below_join B1 b2⟩
          case measure => simp [intOf]; omega
        · have hge7 : ¬ (i : Int) < 7 := by omega
          go_wp2
          go_roundw
          case rel => exact ⟨k + 1, by omega, by go_num, hX, hB⟩
          case measure => simp [intOf]; omega
    · have hge11 : ¬ (k : Int) < 11 := by omega
      have hBB : Below w.heap.size w wr := hB
      clear hL hB
      go_wp2
      go_loopw [5] (fun n wr => ∃ k : Nat, k ≤ 300 ∧ n = .int .i64 k ∧ Below w.heap.size w wr) (fun n _ => 300 - (intOf n).toNat)
      case atStart => exact ⟨0, by omega, rfl, hBB⟩
      case round =>
        obtain ⟨k, hk, rfl, hB⟩ := hrel
        clear hBB
        by_cases hlt : k < 300
        · have hlt' : (k : Int) < 300 := by omega
          have hk0 : (0 : Int) ≤ (k : Int) := by omega
          have hT := fun W => times_p ⟨#[97]⟩ k (by omega) (by decide) W
          have hT2 : ∀ W, Calls Tryz.prog 8 #[.string ⟨#[98]⟩, .int .i64 100] W fun e w' => e = .returned (.string (bs (timesL (un ⟨#[98]⟩) 100))) ∧ w' = W := fun W => times_p ⟨#[98]⟩ 100 (by decide) (by decide) W
          have z1 : (bs (timesL (un ⟨#[97]⟩) k)).size ≤ 300 := by rw [size_bs, timesL_length]; show k * 1 ≤ 300; omega
          have z2 : (bs (timesL (un ⟨#[98]⟩) 100)).size ≤ 100 := by rw [size_bs, timesL_length]; decide
          generalize bs (timesL (un ⟨#[97]⟩) k) = s at *
          generalize bs (timesL (un ⟨#[98]⟩) 100) = b at *
          have hat := hs9_at s b z1 z2
          have HLN : Hid (Lies (wr.alloc (.cells (hrow (hs9 s b)) 28)) wr.heap.size 28 (hrow (hs9 s b))) := Lies.new wr _ _
          have HBN : Hid (Below w.heap.size w (wr.alloc (.cells (hrow (hs9 s b)) 28))) := hB.alloc hB.size _
          clear hB
          have HAT : Hid _ := hat
          clear hat
          go_wp2_with (go_at_call 8; first | (with_reducible refine (hT _).mono ?_; rintro e w' ⟨rfl, rfl⟩) | (with_reducible refine (hT2 _).mono ?_; rintro e w' ⟨rfl, rfl⟩))
          generalize w'.heap.size = gN at *
          go_loopw [8] (fun j wq => ∃ i : Nat, i ≤ 9 ∧ j = .int .i64 i ∧ Lies wq gN 28 (hrow (hs9 s b)) ∧ Below w.heap.size w wq) (fun j _ => 9 - (intOf j).toNat)
          case atStart => exact ⟨0, by omega, rfl, HLN.out, HBN.out⟩
          case round =>
            obtain ⟨i, hi, rfl, hN, hB⟩ := hrel
            by_cases hlt2 : i < 9
            · have hlt2' : (i : Int) < 9 := by omega
              have hi0 : (0 : Int) ≤ (i : Int) := by omega
              obtain ⟨h, hh, hok⟩ := HAT.out i hlt2
              have R1 := hrow_range hN i hh
              have G1 := hGb HG.out hB
              have hinf : (Tryz.prog.info? 28).map (·.size) = some (hcs h).toList.length := info_hd
              clear hh
              go_wp2_with (first
                | (refine wpList_load_mid rfl 28 (.tmp 119) rfl gN (i * 12) rfl (hcs h).toList _ R1 Tryz.underlying28 rfl hinf ?_)
                | (go_at_call 14; refine (HE.out h hok _ G1).mono ?_; rintro e w1 ⟨rfl, b1⟩; have N1 := hN.below b1; have B1 := below_join hB b1; have R2 : w1.rangeAt gN (i * 12) (hcs h).toList := fun j v hv => (b1.cell (p := ⟨gN, i * 12 + j, none⟩) hN.lt).trans (R1 j v hv); have G2 := hGb HG.out B1)
                | (refine wpList_load_mid_g rfl 28 (.tmp 126) rfl gN (i * 12) rfl (hcs h).toList _ R2 Tryz.underlying28 rfl hinf ?_)
                | (go_at_call 15; refine (HB.out h hok _ G2).mono ?_; rintro e w2 ⟨rfl, b2⟩))
              go_roundw
              case rel => exact ⟨i + 1, by omega, by go_num, N1.below b2, below_join B1 b2⟩
              case measure => simp [intOf]; omega
            · have hge9 : ¬ (i : Int) < 9 := by omega
              go_wp2
              go_roundw
              case rel => exact ⟨k + 1, by omega, by go_num, hB⟩
              case measure => simp [intOf]; omega
        · have hge300 : ¬ (k : Int) < 300 := by omega
          have hBB : Below w.heap.size w wr := hB
          clear hB
          go_wp2
          go_loopw [9] (fun n wr => ∃ k : Nat, k ≤ 32 ∧ n = .int .i64 k ∧ Below w.heap.size w wr) (fun n _ => 32 - (intOf n).toNat)
          case atStart => exact ⟨0, by omega, rfl, hBB⟩
          case round =>
            obtain ⟨k, hk, rfl, hB⟩ := hrel
            clear hBB
            by_cases hlt : k < 32
            · have hTl : ∀ W, Calls Tryz.prog 8 #[.string ⟨#[108]⟩, .int .i64 101] W fun e w' => e = .returned (.string (bs (timesL (un ⟨#[108]⟩) 101))) ∧ w' = W := fun W => times_p ⟨#[108]⟩ 101 (by decide) (by decide) W
              have hTp : ∀ W, Calls Tryz.prog 8 #[.string ⟨#[112]⟩, .int .i64 101] W fun e w' => e = .returned (.string (bs (timesL (un ⟨#[112]⟩) 101))) ∧ w' = W := fun W => times_p ⟨#[112]⟩ 101 (by decide) (by decide) W
              have hTu : ∀ W, Calls Tryz.prog 8 #[.string ⟨#[117]⟩, .int .i64 32] W fun e w' => e = .returned (.string (bs (timesL (un ⟨#[117]⟩) 32))) ∧ w' = W := fun W => times_p ⟨#[117]⟩ 32 (by decide) (by decide) W
              have zl : (bs (timesL (un ⟨#[108]⟩) 101)).size ≤ 1000 := by rw [size_bs, timesL_length]; decide
              have zp : (bs (timesL (un ⟨#[112]⟩) 101)).size ≤ 1000 := by rw [size_bs, timesL_length]; decide
              have zu : (bs (timesL (un ⟨#[117]⟩) 32)).size ≤ 1000 := by rw [size_bs, timesL_length]; decide
              generalize bs (timesL (un ⟨#[108]⟩) 101) = sl at *
              generalize bs (timesL (un ⟨#[112]⟩) 101) = sp at *
              generalize bs (timesL (un ⟨#[117]⟩) 32) = su at *
              clear hk
              have HS : Hid (HSt w wr.heap.size (wr.alloc (.cells #[.string ⟨#[112]⟩, .int .i64 0, .int .i64 0, .int .i64 0, .int .i64 0, .int .i64 0, .int .u8 0, .string ⟨#[]⟩, .string ⟨#[]⟩, .string ⟨#[]⟩, .int .i64 0, .int .i64 0] 28))) := ⟨{ zeroHd with path := ⟨#[112]⟩ }, ⟨by decide, Nat.zero_le _, Nat.zero_le _, Nat.zero_le _⟩, Lies.new wr _ _, hB.alloc hB.size _⟩
              have hbs : w.heap.size ≤ wr.heap.size := hB.size
              clear hB
              go_upto_if 138 with fail
              generalize wr.alloc (.cells _ 28) = W0 at *
              generalize wr.heap.size = gh at *
              go_cut [] from 131 to 161 (fun wx => HSt w gh wx)
              case first =>
                obtain ⟨v0, c0⟩ := HSt.cell HS.out 1 (by decide)
                have f0 := HSt.frozen HS.out 1
                have S1 : Hid (HSt w gh (W0.setCell ⟨gh, 1, none⟩ (.int .i64 (-1)))) := HSt.set1 HS.out hbs
                go_wp2_with (go_at_call 8; first | (with_reducible refine (hTl _).mono ?_; rintro e w' ⟨rfl, rfl⟩) | (with_reducible refine (hTp _).mono ?_; rintro e w' ⟨rfl, rfl⟩) | (with_reducible refine (hTu _).mono ?_; rintro e w' ⟨rfl, rfl⟩))
                all_goals go_meet
                all_goals first | exact HS.out | exact S1.out
              case rest =>
                clear HS
                have HS : Hid (HSt w gh wc) := hcut
                clear hcut
                go_upto_if 142 with fail
                go_cut [] from 131 to 161 (fun wx => HSt w gh wx)
                case first =>
                  obtain ⟨v0, c0⟩ := HSt.cell HS.out 7 (by decide)
                  have f0 := HSt.frozen HS.out 7
                  have S1 : Hid (HSt w gh (wc.setCell ⟨gh, 7, none⟩ (.string sl))) := HSt.set7 HS.out hbs sl zl
                  go_wp2_with (go_at_call 8; first | (with_reducible refine (hTl _).mono ?_; rintro e w' ⟨rfl, rfl⟩) | (with_reducible refine (hTp _).mono ?_; rintro e w' ⟨rfl, rfl⟩) | (with_reducible refine (hTu _).mono ?_; rintro e w' ⟨rfl, rfl⟩))
                  all_goals go_meet
                  all_goals first | exact HS.out | exact S1.out
                case rest =>
                  clear HS
                  have HS : Hid (HSt w gh wc) := hcut
                  clear hcut
                  go_upto_if 147 with fail
                  go_cut [] from 131 to 161 (fun wx => HSt w gh wx)
                  case first =>
                    obtain ⟨v0, c0⟩ := HSt.cell HS.out 0 (by decide)
                    have f0 := HSt.frozen HS.out 0
                    have S1 : Hid (HSt w gh (wc.setCell ⟨gh, 0, none⟩ (.string sp))) := HSt.set0 HS.out hbs sp zp
                    go_wp2_with (go_at_call 8; first | (with_reducible refine (hTl _).mono ?_; rintro e w' ⟨rfl, rfl⟩) | (with_reducible refine (hTp _).mono ?_; rintro e w' ⟨rfl, rfl⟩) | (with_reducible refine (hTu _).mono ?_; rintro e w' ⟨rfl, rfl⟩))
                    all_goals go_meet
                    all_goals first | exact HS.out | exact S1.out
                  case rest =>
                    clear HS
                    have HS : Hid (HSt w gh wc) := hcut
                    clear hcut
                    go_upto_if 152 with fail
                    go_cut [] from 131 to 161 (fun wx => HSt w gh wx)
                    case first =>
                      obtain ⟨v0, c0⟩ := HSt.cell HS.out 8 (by decide)
                      have f0 := HSt.frozen HS.out 8
                      have S1 : Hid (HSt w gh (wc.setCell ⟨gh, 8, none⟩ (.string su))) := HSt.set8 HS.out hbs su zu
                      go_wp2_with (go_at_call 8; first | (with_reducible refine (hTl _).mono ?_; rintro e w' ⟨rfl, rfl⟩) | (with_reducible refine (hTp _).mono ?_; rintro e w' ⟨rfl, rfl⟩) | (with_reducible refine (hTu _).mono ?_; rintro e w' ⟨rfl, rfl⟩))
                      all_goals go_meet
                      all_goals first | exact HS.out | exact S1.out
                    case rest =>
                      clear HS
                      have HS : Hid (HSt w gh wc) := hcut
                      clear hcut
                      go_upto_if 157 with fail
                      go_cut [] from 131 to 161 (fun wx => HSt w gh wx)
                      case first =>
                        obtain ⟨v0, c0⟩ := HSt.cell HS.out 5 (by decide)
                        have f0 := HSt.frozen HS.out 5
                        have S1 : Hid (HSt w gh (wc.setCell ⟨gh, 5, none⟩ (.int .i64 8589934592))) := HSt.set5 HS.out hbs
                        go_wp2_with (go_at_call 8; first | (with_reducible refine (hTl _).mono ?_; rintro e w' ⟨rfl, rfl⟩) | (with_reducible refine (hTp _).mono ?_; rintro e w' ⟨rfl, rfl⟩) | (with_reducible refine (hTu _).mono ?_; rintro e w' ⟨rfl, rfl⟩))
                        all_goals go_meet
                        all_goals first | exact HS.out | exact S1.out
                      case rest =>
                        clear HS
                        have HS : Hid (HSt w gh wc) := hcut
                        clear hcut
                        obtain ⟨h, hok, hL, hB⟩ := HS.out
                        have G1 := hGb HG.out hB
                        have hinf : (Tryz.prog.info? 28).map (·.size) = some (hcs h).size := info_hd
                        go_wp2_with (first
                          | (refine wpList_load_row rfl 28 (.tmp 10) rfl gh rfl 28 (hcs h) (0, 0) _ hL Tryz.underlying28 rfl hinf ?_)
                          | (go_at_call 14; refine (HE.out h hok _ G1).mono ?_; rintro e w1 ⟨rfl, b1⟩))
                        go_roundw
                        case rel => exact ⟨k + 1, by omega, by go_num, below_join hB b1⟩
                        case measure => simp [intOf]; omega
            · have hge32 : ¬ (k : Int) < 32 := by omega
              have hBB : Below w.heap.size w wr := hB
              clear hB
              go_wp2
              go_loopw [11] (fun n wr => ∃ k : Nat, k ≤ 256 ∧ n = .int .i64 k ∧ Below w.heap.size w wr) (fun n _ => 256 - (intOf n).toNat)
              case atStart => exact ⟨0, by omega, rfl, hBB⟩
              case round =>
                obtain ⟨k, hk, rfl, hB⟩ := hrel
                clear hBB
                by_cases hlt : k < 256
                · have hlt' : (k : Int) < 256 := by omega
                  have hk0 : (0 : Int) ≤ (k : Int) := by omega
                  have hcb : (UInt8.ofNat k).toNat = k := Nat.mod_eq_of_lt hlt
                  have hbc : bcs [UInt8.ofNat k] = #[.int .u8 (k : Int)] := by simp only [bcs, Lib.byteCells, List.map_cons, List.map_nil, hcb]
                  have hcv := conv_lies [UInt8.ofNat k] wr.heap.size 0 1 1 (wr.alloc (.cells (bcs [UInt8.ofNat k]) 5)) 5 (Lies.new wr _ _) (Nat.le_refl _)
                  rw [hbc, show ([UInt8.ofNat k].drop 0).take 1 = [UInt8.ofNat k] from rfl] at hcv
                  have zS : (bs [UInt8.ofNat k]).size ≤ 1000 := by rw [size_bs]; show 1 ≤ 1000; decide
                  have HE1 : ∀ W, G W → Calls Tryz.prog 14 #[.agg #[.string (bs [UInt8.ofNat k]), .int .i64 0, .int .i64 0, .int .i64 0, .int .i64 0, .int .i64 0, .int .u8 (k : Int), .string ⟨#[]⟩, .string (bs [UInt8.ofNat k]), .string ⟨#[]⟩, .int .i64 0, .int .i64 0]] W fun e w' => e = .returned (.bool true) ∧ Below W.heap.size W w' := fun W hW => by
                    have := HE.out ⟨bs [UInt8.ofNat k], 0, 0, 0, 0, 0, UInt8.ofNat k, ⟨#[]⟩, bs [UInt8.ofNat k], ⟨#[]⟩, 0, 0⟩ ⟨zS, Nat.zero_le _, zS, Nat.zero_le _⟩ W hW
                    simp only [hcs, hcb] at this; exact this
                  have HB1 : ∀ W, G W → Calls Tryz.prog 15 #[.agg #[.string ⟨#[]⟩, .int .i64 0, .int .i64 0, .int .i64 0, .int .i64 0, .int .i64 0, .int .u8 (k : Int), .string (bs [UInt8.ofNat k]), .string ⟨#[]⟩, .string ⟨#[]⟩, .int .i64 0, .int .i64 0]] W fun e w' => e = .returned (.bool true) ∧ Below W.heap.size W w' := fun W hW => by
                    have := HB.out ⟨⟨#[]⟩, 0, 0, 0, 0, 0, UInt8.ofNat k, bs [UInt8.ofNat k], ⟨#[]⟩, ⟨#[]⟩, 0, 0⟩ ⟨Nat.zero_le _, zS, Nat.zero_le _, Nat.zero_le _⟩ W hW
                    simp only [hcs, hcb] at this; exact this
                  have HF1 : ∀ (at' : Int) W, G W → Calls Tryz.prog 16 #[.agg #[.string ⟨#[97]⟩, .int .i64 0, .int .i64 0, .int .i64 0, .int .i64 0, .int .i64 0, .int .u8 0, .string ⟨#[108]⟩, .string ⟨#[]⟩, .string ⟨#[]⟩, .int .i64 0, .int .i64 0], .int .i64 at', .string (bs [UInt8.ofNat k])] W fun e w' => e = .returned (.bool true) ∧ Below W.heap.size W w' := fun at' W hW => HF.out ⟨⟨#[97]⟩, 0, 0, 0, 0, 0, 0, ⟨#[108]⟩, ⟨#[]⟩, ⟨#[]⟩, 0, 0⟩ ⟨by decide, by decide, Nat.zero_le _, Nat.zero_le _⟩ at' (bs [UInt8.ofNat k]) W hW
                  have HE1' : Hid _ := HE1
                  have HB1' : Hid _ := HB1
                  have HF1' : Hid _ := HF1
                  have hBa : Below w.heap.size w (wr.alloc (.cells #[.int .u8 (k : Int)] 5)) := hB.alloc hB.size _
                  clear HE1 HB1 HF1 hcb hbc zS hB
                  generalize bs [UInt8.ofNat k] = S at *
                  go_wp2_with (first
                    | (go_at_call 14; refine (HE1'.out _ (hGb HG.out hBa)).mono ?_; rintro e w1 ⟨rfl, b1⟩; have B1 := below_join hBa b1)
                    | (go_at_call 15; refine (HB1'.out _ (hGb HG.out B1)).mono ?_; rintro e w2 ⟨rfl, b2⟩; have B2 := below_join B1 b2))
                  have HBN : Hid (Below w.heap.size w (w2.alloc (.cells (ints fr16).toArray 3))) := B2.alloc B2.size _
                  have HLN : Hid (Lies (w2.alloc (.cells (ints fr16).toArray 3)) w2.heap.size 3 (ints fr16).toArray) := Lies.new w2 _ _
                  clear B2 b2 B1 b1
                  generalize w2.heap.size = gF at *
                  go_loopw [14] (fun j wr => ∃ i : Nat, i ≤ 16 ∧ j = .int .i64 i ∧ Lies wr gF 3 (ints fr16).toArray ∧ Below w.heap.size w wr) (fun j _ => 16 - (intOf j).toNat)
                  case atStart => exact ⟨0, by omega, rfl, HLN.out, HBN.out⟩
                  case round =>
                    obtain ⟨i, hi, rfl, hL, hB⟩ := hrel
                    by_cases hlt2 : i < 16
                    · have hlt2' : (i : Int) < 16 := by omega
                      have hi0 : (0 : Int) ≤ (i : Int) := by omega
                      obtain ⟨x, hx, hx0, hx5⟩ := fr16_at i hlt2
                      go_wp2
                      go_loopw [15] (fun j wr => ∃ q : Nat, q ≤ 14 ∧ j = .int .i64 q ∧ Lies wr gF 3 (ints fr16).toArray ∧ Below w.heap.size w wr) (fun j _ => 14 - (intOf j).toNat)
                      case atStart => exact ⟨0, by omega, rfl, hL, hB⟩
                      case round =>
                        obtain ⟨q, hq, rfl, hL, hB⟩ := hrel
                        by_cases hlt3 : q < 12
                        · have hlt3' : (q : Int) < 12 := by omega
                          have c0 := hL.cell hx
                          have G1 := hGb HG.out hB
                          go_wp2_with (go_at_call 16; refine (HF1'.out _ _ G1).mono ?_; rintro e w1 ⟨rfl, b1⟩)
                          go_roundw
                          case rel => exact ⟨q + 3, by omega, by go_num, hL.below b1, below_join hB b1⟩
                          case measure => simp [intOf]; omega
                        · have hlt3' : ¬ (q : Int) < 12 := by omega
                          go_wp2
                          go_roundw
                          case rel => exact ⟨i + 1, by omega, by go_num, hL, hB⟩
                          case measure => simp [intOf]; omega
                    · have hge16 : ¬ (i : Int) < 16 := by omega
                      go_wp2
                      go_roundw
                      case rel => exact ⟨k + 1, by omega, by go_num, hB⟩
                      case measure => simp [intOf]; omega
                · have hge256 : ¬ (k : Int) < 256 := by omega
                  go_wp2
                  go_ret
                  exact ⟨rfl, hB⟩
end Go.Proofs.YtgdkgdlgalinbaaGreatDoor
