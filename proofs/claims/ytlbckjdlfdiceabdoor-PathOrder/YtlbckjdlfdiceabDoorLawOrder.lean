/- PathOrder, walked: whatever three texts, paths have one order, in which all that lies below one stands straight behind it. -/
import Derived.Test.YtlbckjdlfdiceabDoorWorks
import Derived.Test.YtlbckjdlfdiceabDoorOrdM
namespace Go.Proofs.YtlbckjdlfdiceabDoor
open Go.RowKit

set_option maxRecDepth 100000 in
set_option maxHeartbeats 8000000 in
theorem order_law (a b c : ByteArray) (w : World) (hg : ErrType w) (ha : a.size ≤ 140737488351232) (hb : b.size ≤ 140737488351232) (hc : c.size ≤ 140737488351232) :
    Calls Tryd.prog 6 #[.string a, .string b, .string c] w fun e w' => e = .returned (.bool true) ∧ Below w.heap.size w w' := by
  obtain ⟨x, hx⟩ : ∃ x, compareN a b = x := ⟨_, rfl⟩
  obtain ⟨x2, hx2⟩ : ∃ x, compareN b a = x := ⟨_, rfl⟩
  obtain ⟨y, hy⟩ : ∃ x, compareN b c = x := ⟨_, rfl⟩
  obtain ⟨z, hz⟩ : ∃ x, compareN a c = x := ⟨_, rfl⟩
  obtain ⟨m, hm⟩ : ∃ x, belowB a c = x := ⟨_, rfl⟩
  obtain ⟨n, hn⟩ : ∃ x, belowB a b = x := ⟨_, rfl⟩
  have r1 : -1 ≤ x := hx ▸ (order_range a b).1
  have r2 : x ≤ 1 := hx ▸ (order_range a b).2
  have s1 : -1 ≤ x2 := hx2 ▸ (order_range b a).1
  have s2 : x2 ≤ 1 := hx2 ▸ (order_range b a).2
  have hneg : x = - x2 := by rw [← hx, ← hx2]; exact order_neg a b
  have t1 : (x != -x2) = false := by simp; exact hneg
  have q1 : (a.toList == b.toList) = (x == 0) := by
    rw [Bool.eq_iff_iff, beq_iff_eq, beq_iff_eq]
    constructor
    · intro h
      have e : a = b := un_inj (by rw [← toList_un, ← toList_un]; exact h)
      rw [← hx, e]; exact order_self b
    · intro h; rw [order_zero (hx.trans h)]
  have f1 : x < 0 → y < 0 → z < 0 := fun h k => by rw [← hx] at h; rw [← hy] at k; rw [← hz]; exact order_trans h k
  have f2 : x = 0 → y = z := fun h => by rw [← hy, ← hz, order_zero (hx.trans h)]
  have f3 : a.toList.isEmpty = false → m = true → z = -1 := fun h k => by rw [← hz]; exact order_below h (hm.trans k)
  have f4 : a.toList.isEmpty = false → m = true → x < 0 → y < 0 → n = true := fun h k h1 h2 => by rw [← hn]; exact order_between h (hm.trans k) (hx ▸ h1) (hy ▸ h2)
  have HX : Hid _ := hx
  have HX2 : Hid _ := hx2
  have HY : Hid _ := hy
  have HZ : Hid _ := hz
  have HM : Hid _ := hm
  have HN : Hid _ := hn
  have F1 : Hid _ := f1
  have F2 : Hid _ := f2
  have F3 : Hid _ := f3
  have F4 : Hid _ := f4
  have Q1 : Hid _ := q1
  clear hx hx2 hy hz hm hn f1 f2 f3 f4 hneg q1
  have g1 : ¬ x < -1 := by omega
  have g2 : ¬ 1 < x := by omega
  by_cases h1 : x < 0
  · have hx0 : (x == 0) = false := by simp; omega
    have hs0 : (a.toList == b.toList) = false := by rw [Q1.out]; exact hx0
    by_cases h2 : y < 0
    · have h3 : ¬ 0 ≤ z := by have h := F1.out h1 h2; omega
      go_enter Tryd.func6, Tryd.ntmps6
      go_wp2_with fail
      refine (compare_p a b _ (by omega) (by omega)).mono ?_
      rintro e w1 ⟨rfl, b1⟩
      rw [HX.out]
      go_wp2_with fail
      refine (compare_p b a _ (by omega) (by omega)).mono ?_
      rintro e w2 ⟨rfl, b2⟩
      rw [HX2.out]
      replace b2 := below_join b1 b2
      clear b1
      go_wp2_with fail
      refine (compare_p b c _ (by omega) (by omega)).mono ?_
      rintro e w3 ⟨rfl, b3⟩
      rw [HY.out]
      replace b3 := below_join b2 b3
      clear b2
      go_wp2_with fail
      refine (compare_p a c _ (by omega) (by omega)).mono ?_
      rintro e w4 ⟨rfl, b4⟩
      rw [HZ.out]
      replace b4 := below_join b3 b4
      clear b3
      go_wp2_with fail
      refine (compare_p a a _ (by omega) (by omega)).mono ?_
      rintro e w5 ⟨rfl, b5⟩
      rw [order_self]
      replace b5 := below_join b4 b5
      clear b4
      cases e0 : a.toList.isEmpty
      · cases m
        · go_wp2_with fail
          refine (below_p a c _).mono ?_
          rintro e w6 ⟨rfl, hw⟩
          subst hw
          rw [HM.out]
          go_wp2_with fail
          refine (works_p _ (hg.below b5)).mono ?_
          rintro e w7 ⟨rfl, b7⟩
          go_wp2_with fail
          go_ret
          exact ⟨rfl, below_join b5 b7⟩
        · have hz1 : z = -1 := F3.out e0 rfl
          have hz2 : (z != -1) = false := by rw [hz1]; rfl
          have hn1 : n = true := F4.out e0 rfl h1 h2
          clear hz1
          go_wp2_with fail
          refine (below_p a c _).mono ?_
          rintro e w6 ⟨rfl, hw⟩
          subst hw
          rw [HM.out]
          go_wp2_with fail
          refine (below_p a b _).mono ?_
          rintro e w6 ⟨rfl, hw⟩
          subst hw
          rw [HN.out, hn1]
          go_wp2_with fail
          refine (works_p _ (hg.below b5)).mono ?_
          rintro e w7 ⟨rfl, b7⟩
          go_wp2_with fail
          go_ret
          exact ⟨rfl, below_join b5 b7⟩
      · go_wp2_with fail
        refine (works_p _ (hg.below b5)).mono ?_
        rintro e w7 ⟨rfl, b7⟩
        go_wp2_with fail
        go_ret
        exact ⟨rfl, below_join b5 b7⟩
    · go_enter Tryd.func6, Tryd.ntmps6
      go_wp2_with fail
      refine (compare_p a b _ (by omega) (by omega)).mono ?_
      rintro e w1 ⟨rfl, b1⟩
      rw [HX.out]
      go_wp2_with fail
      refine (compare_p b a _ (by omega) (by omega)).mono ?_
      rintro e w2 ⟨rfl, b2⟩
      rw [HX2.out]
      replace b2 := below_join b1 b2
      clear b1
      go_wp2_with fail
      refine (compare_p b c _ (by omega) (by omega)).mono ?_
      rintro e w3 ⟨rfl, b3⟩
      rw [HY.out]
      replace b3 := below_join b2 b3
      clear b2
      go_wp2_with fail
      refine (compare_p a c _ (by omega) (by omega)).mono ?_
      rintro e w4 ⟨rfl, b4⟩
      rw [HZ.out]
      replace b4 := below_join b3 b4
      clear b3
      go_wp2_with fail
      refine (compare_p a a _ (by omega) (by omega)).mono ?_
      rintro e w5 ⟨rfl, b5⟩
      rw [order_self]
      replace b5 := below_join b4 b5
      clear b4
      cases e0 : a.toList.isEmpty
      · cases m
        · go_wp2_with fail
          refine (below_p a c _).mono ?_
          rintro e w6 ⟨rfl, hw⟩
          subst hw
          rw [HM.out]
          go_wp2_with fail
          refine (works_p _ (hg.below b5)).mono ?_
          rintro e w7 ⟨rfl, b7⟩
          go_wp2_with fail
          go_ret
          exact ⟨rfl, below_join b5 b7⟩
        · have hz1 : z = -1 := F3.out e0 rfl
          have hz2 : (z != -1) = false := by rw [hz1]; rfl
          clear hz1
          go_wp2_with fail
          refine (below_p a c _).mono ?_
          rintro e w6 ⟨rfl, hw⟩
          subst hw
          rw [HM.out]
          go_wp2_with fail
          refine (works_p _ (hg.below b5)).mono ?_
          rintro e w7 ⟨rfl, b7⟩
          go_wp2_with fail
          go_ret
          exact ⟨rfl, below_join b5 b7⟩
      · go_wp2_with fail
        refine (works_p _ (hg.below b5)).mono ?_
        rintro e w7 ⟨rfl, b7⟩
        go_wp2_with fail
        go_ret
        exact ⟨rfl, below_join b5 b7⟩
  · by_cases h3 : x = 0
    · have hyz : (y != z) = false := by rw [F2.out h3]; simp
      have hx0 : (x == 0) = true := by rw [h3]; rfl
      clear h3
      have hs0 : (a.toList == b.toList) = true := by rw [Q1.out]; exact hx0
      go_enter Tryd.func6, Tryd.ntmps6
      go_wp2_with fail
      refine (compare_p a b _ (by omega) (by omega)).mono ?_
      rintro e w1 ⟨rfl, b1⟩
      rw [HX.out]
      go_wp2_with fail
      refine (compare_p b a _ (by omega) (by omega)).mono ?_
      rintro e w2 ⟨rfl, b2⟩
      rw [HX2.out]
      replace b2 := below_join b1 b2
      clear b1
      go_wp2_with fail
      refine (compare_p b c _ (by omega) (by omega)).mono ?_
      rintro e w3 ⟨rfl, b3⟩
      rw [HY.out]
      replace b3 := below_join b2 b3
      clear b2
      go_wp2_with fail
      refine (compare_p a c _ (by omega) (by omega)).mono ?_
      rintro e w4 ⟨rfl, b4⟩
      rw [HZ.out]
      replace b4 := below_join b3 b4
      clear b3
      go_wp2_with fail
      refine (compare_p a a _ (by omega) (by omega)).mono ?_
      rintro e w5 ⟨rfl, b5⟩
      rw [order_self]
      replace b5 := below_join b4 b5
      clear b4
      cases e0 : a.toList.isEmpty
      · cases m
        · go_wp2_with fail
          refine (below_p a c _).mono ?_
          rintro e w6 ⟨rfl, hw⟩
          subst hw
          rw [HM.out]
          go_wp2_with fail
          refine (works_p _ (hg.below b5)).mono ?_
          rintro e w7 ⟨rfl, b7⟩
          go_wp2_with fail
          go_ret
          exact ⟨rfl, below_join b5 b7⟩
        · have hz1 : z = -1 := F3.out e0 rfl
          have hz2 : (z != -1) = false := by rw [hz1]; rfl
          clear hz1
          go_wp2_with fail
          refine (below_p a c _).mono ?_
          rintro e w6 ⟨rfl, hw⟩
          subst hw
          rw [HM.out]
          go_wp2_with fail
          refine (works_p _ (hg.below b5)).mono ?_
          rintro e w7 ⟨rfl, b7⟩
          go_wp2_with fail
          go_ret
          exact ⟨rfl, below_join b5 b7⟩
      · go_wp2_with fail
        refine (works_p _ (hg.below b5)).mono ?_
        rintro e w7 ⟨rfl, b7⟩
        go_wp2_with fail
        go_ret
        exact ⟨rfl, below_join b5 b7⟩
    · have hx0 : (x == 0) = false := by simp; omega
      have hs0 : (a.toList == b.toList) = false := by rw [Q1.out]; exact hx0
      go_enter Tryd.func6, Tryd.ntmps6
      go_wp2_with fail
      refine (compare_p a b _ (by omega) (by omega)).mono ?_
      rintro e w1 ⟨rfl, b1⟩
      rw [HX.out]
      go_wp2_with fail
      refine (compare_p b a _ (by omega) (by omega)).mono ?_
      rintro e w2 ⟨rfl, b2⟩
      rw [HX2.out]
      replace b2 := below_join b1 b2
      clear b1
      go_wp2_with fail
      refine (compare_p b c _ (by omega) (by omega)).mono ?_
      rintro e w3 ⟨rfl, b3⟩
      rw [HY.out]
      replace b3 := below_join b2 b3
      clear b2
      go_wp2_with fail
      refine (compare_p a c _ (by omega) (by omega)).mono ?_
      rintro e w4 ⟨rfl, b4⟩
      rw [HZ.out]
      replace b4 := below_join b3 b4
      clear b3
      go_wp2_with fail
      refine (compare_p a a _ (by omega) (by omega)).mono ?_
      rintro e w5 ⟨rfl, b5⟩
      rw [order_self]
      replace b5 := below_join b4 b5
      clear b4
      cases e0 : a.toList.isEmpty
      · cases m
        · go_wp2_with fail
          refine (below_p a c _).mono ?_
          rintro e w6 ⟨rfl, hw⟩
          subst hw
          rw [HM.out]
          go_wp2_with fail
          refine (works_p _ (hg.below b5)).mono ?_
          rintro e w7 ⟨rfl, b7⟩
          go_wp2_with fail
          go_ret
          exact ⟨rfl, below_join b5 b7⟩
        · have hz1 : z = -1 := F3.out e0 rfl
          have hz2 : (z != -1) = false := by rw [hz1]; rfl
          clear hz1
          go_wp2_with fail
          refine (below_p a c _).mono ?_
          rintro e w6 ⟨rfl, hw⟩
          subst hw
          rw [HM.out]
          go_wp2_with fail
          refine (works_p _ (hg.below b5)).mono ?_
          rintro e w7 ⟨rfl, b7⟩
          go_wp2_with fail
          go_ret
          exact ⟨rfl, below_join b5 b7⟩
      · go_wp2_with fail
        refine (works_p _ (hg.below b5)).mono ?_
        rintro e w7 ⟨rfl, b7⟩
        go_wp2_with fail
        go_ret
        exact ⟨rfl, below_join b5 b7⟩
end Go.Proofs.YtlbckjdlfdiceabDoor
