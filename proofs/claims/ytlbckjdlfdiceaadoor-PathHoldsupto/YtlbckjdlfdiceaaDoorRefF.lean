/- The document's answer for the order of paths. -/
import Derived.Test.YtlbckjdlfdiceaaDoorRefD
import Derived.Test.YtlbckjdlfdiceaaDoorCompare
import Derived.WalkLawsBesides
namespace Go.Proofs.YtlbckjdlfdiceaaDoor
open Go Go.RowKit

theorem compare_less : ∀ a b : List UInt8, Lib.compareBytes a b = if Op.bytesLess a b then -1 else if a == b then 0 else 1
  | [], [] => rfl
  | [], _ :: _ => rfl
  | _ :: _, [] => rfl
  | x :: a, y :: b => by
    have ih := compare_less a b
    unfold Lib.compareBytes Op.bytesLess
    by_cases h1 : x < y
    · simp [h1]
    · by_cases h2 : y < x
      · have hne : x ≠ y := fun e => h1 (e ▸ h2)
        simp [h1, h2, hne]
      · have e : x = y := by
          have a1 : ¬ x.toNat < y.toNat := h1
          have a2 : ¬ y.toNat < x.toNat := h2
          exact UInt8.toNat_inj.1 (by omega)
        subst e
        simp only [h1, if_false, ih]
        simp
theorem cmpB_less (x y : ByteArray) : cmpB x y = if Op.bytesLess x.toList y.toList then -1 else if x.toList == y.toList then 0 else 1 := by
  unfold cmpB; rw [toList_un, toList_un]; exact compare_less _ _
theorem compareP_step (pre : List ByteArray) (x y : ByteArray) (xs ys : List ByteArray) (h : cmpB x y ≠ 0) : compareP (pre ++ x :: xs) (pre ++ y :: ys) = cmpB x y := by
  rw [compareP_same]; exact if_neg h
theorem row_at {w : World} {g : Nat} {pre xs : List ByteArray} {x : ByteArray} (h : Row w g (pre ++ x :: xs)) : w.cell? ⟨g, pre.length, none⟩ = some (.string x) := h _ _ (by simp)

set_option maxRecDepth 100000 in
set_option maxHeartbeats 4000000 in
theorem compare_r (a b : ByteArray) (w : World) (ha : a.size ≤ 1099511627776) (hb : b.size ≤ 1099511627776) : Calls Tryd.prog 26 #[.string a, .string b] w fun e w' => e = .returned (.int .i64 (compareN a b)) ∧ Below w.heap.size w w' := by
  have hla := piecesB_length a
  have hlb := piecesB_length b
  go_enter Tryd.func26, Tryd.ntmps26
  go_wp2_with fail
  refine (cut_row a _ ha).mono ?_
  rintro e w1 ⟨g1, cap1, rfl, hr1, hg1, _, b1⟩
  go_wp2_with fail
  refine (cut_row b _ hb).mono ?_
  rintro e w2 ⟨g2, cap2, rfl, hr2, hg2, _, b2⟩
  replace hr1 := hr1.below hg1 b2
  have hz2 := b2.size
  have b3 := b1.trans (b2.mono b1.size)
  clear b1 b2
  have HR1 : Hid _ := hr1
  have HR2 : Hid _ := hr2
  clear hr1 hr2
  go_wp2_with fail
  go_loopw [7] (fun i wr => ∃ (pre xs ys : List ByteArray) (q : Nat), piecesB a = pre ++ xs ∧ piecesB b = pre ++ ys ∧ i = .int .i64 pre.length ∧ wr = w2.drewN q) (fun i _ => (piecesB a).length - (intOf i).toNat)
  case atStart => exact ⟨[], _, _, 0, rfl, rfl, rfl, rfl⟩
  case round =>
    obtain ⟨pre, xs, ys, q, hx, hy, rfl, rfl⟩ := hrel
    have hlx : (piecesB a).length = pre.length + xs.length := by rw [hx]; simp
    have hly : (piecesB b).length = pre.length + ys.length := by rw [hy]; simp
    have HX : Hid _ := hx
    have HY : Hid _ := hy
    have HC : Hid (compareN a b = compareP xs ys) := by unfold Hid compareN; rw [hx, hy, compareP_same]
    cases xs with
    | nil =>
      simp only [List.length_nil, Nat.add_zero] at hlx
      cases ys with
      | nil =>
        simp only [List.length_nil, Nat.add_zero] at hly
        have l1 : ¬ (pre.length : Int) < (piecesB a).length := by omega
        have l2 : ¬ ((piecesB a).length : Int) < (piecesB b).length := by omega
        have l3 : ¬ ((piecesB b).length : Int) < (piecesB a).length := by omega
        clear hx hy hlx hly
        go_wp2
        go_ret
        exact ⟨by rw [HC.out]; rfl, b3.trans ((below_draw w2 q).mono b3.size)⟩
      | cons y ys =>
        simp only [List.length_cons] at hly
        have l1 : ¬ (pre.length : Int) < (piecesB a).length := by omega
        have l2 : ((piecesB a).length : Int) < (piecesB b).length := by omega
        clear hx hy hlx hly
        go_wp2
        go_ret
        exact ⟨by rw [HC.out]; rfl, b3.trans ((below_draw w2 q).mono b3.size)⟩
    | cons x xs =>
      simp only [List.length_cons] at hlx
      have l1 : (pre.length : Int) < (piecesB a).length := by omega
      cases ys with
      | nil =>
        simp only [List.length_nil, Nat.add_zero] at hly
        have l2 : ¬ (pre.length : Int) < (piecesB b).length := by omega
        have l3 : ¬ ((piecesB a).length : Int) < (piecesB b).length := by omega
        have l4 : ((piecesB b).length : Int) < (piecesB a).length := by omega
        clear hx hy hlx hly
        go_wp2
        go_ret
        exact ⟨by rw [HC.out]; rfl, b3.trans ((below_draw w2 q).mono b3.size)⟩
      | cons y ys =>
        simp only [List.length_cons] at hly
        have l2 : (pre.length : Int) < (piecesB b).length := by omega
        have hc1 := row_at (hx ▸ HR1.out)
        have hc2 := row_at (hy ▸ HR2.out)
        have HLX : Hid _ := hlx
        have HLY : Hid _ := hly
        clear hx hy hlx hly
        have hcm := cmpB_less x y
        cases e1 : Op.bytesLess x.toList y.toList
        · cases e2 : (x.toList == y.toList)
          · have HZ : Hid (compareN a b = 1) := by unfold Hid; rw [HC.out]; unfold compareP; rw [hcm, e1, e2]; rfl
            clear hcm
            go_wp2
            go_quiet (fail)
            go_wp2
            go_quiet (fail)
            go_wp2
            go_ret
            exact ⟨by rw [HZ.out]; rfl, b3.trans ⟨rfl, rfl, rfl, Nat.le_refl _, fun _ _ => rfl⟩⟩
          · have hxy : x = y := un_inj (by rw [← toList_un, ← toList_un]; exact beq_iff_eq.1 e2)
            have HXY : Hid _ := hxy
            clear hcm hxy
            go_wp2
            go_quiet (fail)
            go_wp2
            go_quiet (fail)
            go_wp2
            go_roundw
            case rel => exact ⟨pre ++ [x], xs, ys, _, by rw [HX.out]; simp, by rw [HY.out, HXY.out]; simp, by simp, rfl⟩
            case measure => have h := HLX.out; simp [intOf]; omega
        · have HZ : Hid (compareN a b = -1) := by unfold Hid; rw [HC.out]; unfold compareP; rw [hcm, e1]; rfl
          clear hcm
          go_wp2
          go_quiet (fail)
          go_wp2
          go_ret
          exact ⟨by rw [HZ.out]; rfl, b3.trans ⟨rfl, rfl, rfl, Nat.le_refl _, fun _ _ => rfl⟩⟩
end Go.Proofs.YtlbckjdlfdiceaaDoor
