/- PathHeader, walked: a path and its whiteout are what a header says of them; it is put together of its parent and its last name, each of which is right; and it is clean. -/
import Derived.Test.YtlbckjdlfdiceabDoorWorks
import Derived.Test.YtlbckjdlfdiceabDoorAny
import Derived.Test.YtlbckjdlfdiceabDoorHeadM
namespace Go.Proofs.YtlbckjdlfdiceabDoor
open Go.RowKit

set_option maxHeartbeats 2000000 in
theorem told_p (q : ByteArray) (w : World) (hs : q.size < 1152921504606846976) (h : toldB q) : Calls Tryd.prog 15 #[.string q] w fun e w' => e = .returned (.bool true) ∧ Below w.heap.size w w' := by
  obtain ⟨h1, h2, h3, h4, h5⟩ := h
  obtain ⟨a, ha⟩ : ∃ a, (splitP q).1 = a := ⟨_, rfl⟩
  obtain ⟨b, hb⟩ : ∃ a, (splitP q).2.1 = a := ⟨_, rfl⟩
  rw [ha] at h2 h5
  rw [hb] at h3 h4 h5
  have H1 : Hid _ := h1
  have HA : Hid _ := ha
  have HB : Hid _ := hb
  have H5 : Hid _ := h5
  clear h1 ha hb h5
  have i2 : (a.size : Int) ≤ 155 := by omega
  have i3 : (1 : Int) ≤ (b.size : Int) := by omega
  have i4 : (b.size : Int) ≤ 100 := by omega
  have e5 : (q.toList == q.toList) = true := by simp
  go_enter Tryd.func15, Tryd.ntmps15
  go_wp2_with fail
  refine (split_p q _ (by omega)).mono ?_
  rintro e w1 ⟨rfl, b1⟩
  rw [HA.out, HB.out, H1.out, errV_zero]
  go_wp2_with fail
  refine (join_p a b _ (by omega)).mono ?_
  rintro e w2 ⟨rfl, hw⟩
  subst hw
  rw [H5.out]
  go_wp2_with fail
  go_ret
  exact ⟨rfl, b1⟩

set_option maxRecDepth 100000 in
set_option maxHeartbeats 4000000 in
theorem header_law (p : ByteArray) (w : World) (hg : ErrType w) (hp : p.size ≤ 140737488351232) :
    Calls Tryd.prog 4 #[.string p] w fun e w' => e = .returned (.bool true) ∧ Below w.heap.size w w' := by
  by_cases hc : checkN p = 0
  rotate_left
  · have HE : Hid (errV (checkN p) = .iface 41 (.int .i64 (checkN p))) := errV_some _ hc
    clear hc
    go_enter Tryd.func4, Tryd.ntmps4
    go_wp2_with fail
    refine (works_p _ hg).mono ?_
    rintro e w1 ⟨rfl, b1⟩
    go_wp2_with fail
    refine (check_p p _ (by omega) (fun x _ h => anyOK x h)).mono ?_
    rintro e w2 ⟨rfl, b2⟩
    rw [HE.out]
    replace b2 := below_join b1 b2
    go_wp2_with fail
    go_ret
    exact ⟨rfl, b2⟩
  have hf := header_facts hc
  obtain ⟨f1, f2, f3, f4, f5, f6, f7⟩ := hf
  obtain ⟨u, hu⟩ : ∃ u, parentB p = u := ⟨_, rfl⟩
  obtain ⟨l, hl⟩ : ∃ u, lastB p = u := ⟨_, rfl⟩
  have hus : u.size ≤ 255 := by rw [← hu]; have := parentB_size p; omega
  have hls : l.size ≤ 255 := by rw [← hl]; have := lastB_size p; omega
  have hwz := whiteoutB_size p
  have hWd : joinB u (⟨#[46, 119, 104, 46]⟩ ++ l) = whiteoutB p := by rw [← hu, ← hl]; rfl
  rw [hu, hl] at f3
  rw [hl] at f4
  rw [hu] at f7
  have hzz : (⟨#[46, 119, 104, 46]⟩ ++ l : ByteArray).size = 4 + l.size := by rw [ByteArray.size_append]; rfl
  have HC : Hid _ := hc
  have HU : Hid _ := hu
  have HL : Hid _ := hl
  have HW : Hid _ := hWd
  have HZ : Hid _ := hzz
  have F1 : Hid _ := f1
  have F2 : Hid _ := f2
  have F3 : Hid _ := f3
  have F4 : Hid _ := f4
  have F5 : Hid _ := f5
  have F7 : Hid _ := f7
  clear hc hu hl hWd hzz f1 f2 f3 f4 f5 f7
  have e1 : (p.toList == p.toList) = true := by simp
  have i6 : (p.size : Int) ≤ 255 := by omega
  go_enter Tryd.func4, Tryd.ntmps4
  go_wp2_with fail
  refine (works_p _ hg).mono ?_
  rintro e w1 ⟨rfl, b1⟩
  go_wp2_with fail
  refine (check_p p _ (by omega) (fun x _ h => anyOK x h)).mono ?_
  rintro e w2 ⟨rfl, b2⟩
  rw [HC.out, errV_zero]
  replace b2 := below_join b1 b2
  clear b1
  go_wp2_with fail
  refine (parent_p p _ (by omega)).mono ?_
  rintro e w3 ⟨rfl, hw⟩
  subst hw
  rw [HU.out]
  go_wp2_with fail
  refine (last_p p _ (by omega)).mono ?_
  rintro e w3 ⟨rfl, hw⟩
  subst hw
  rw [HL.out]
  go_wp2_with fail
  refine (told_p p _ (by omega) F1.out).mono ?_
  rintro e w4 ⟨rfl, b4⟩
  replace b4 := below_join b2 b4
  clear b2
  go_wp2_with fail
  refine (join_p u _ _ (by rw [HZ.out]; omega)).mono ?_
  rintro e w5 ⟨rfl, hw⟩
  subst hw
  rw [HW.out]
  go_wp2_with fail
  refine (told_p _ _ (by omega) F2.out).mono ?_
  rintro e w6 ⟨rfl, b6⟩
  replace b6 := below_join b4 b6
  clear b4
  go_wp2_with fail
  refine (join_p u l _ (by omega)).mono ?_
  rintro e w7 ⟨rfl, hw⟩
  subst hw
  rw [F3.out]
  go_wp2_with fail
  refine (name_p l _ (fun h => anyOK l h)).mono ?_
  rintro e w8 ⟨rfl, b8⟩
  rw [F4.out, errV_zero]
  replace b8 := below_join b6 b8
  clear b6
  go_wp2_with fail
  refine (clean_p p _ (by omega)).mono ?_
  rintro e w9 ⟨rfl, b9⟩
  rw [F5.out]
  replace b9 := below_join b8 b9
  clear b8
  rcases F7.out with k1 | ⟨k1, k2, k3⟩
  · go_wp2_with fail
    go_ret
    exact ⟨rfl, b9⟩
  · have K2 : Hid _ := k2
    have K3 : Hid _ := k3
    clear k2 k3
    go_wp2_with fail
    refine (check_p u _ (by omega) (fun x _ h => anyOK x h)).mono ?_
    rintro e w10 ⟨rfl, b10⟩
    rw [K2.out, errV_zero]
    replace b10 := below_join b9 b10
    clear b9
    go_wp2_with fail
    refine (below_p u p _).mono ?_
    rintro e w11 ⟨rfl, hw⟩
    subst hw
    rw [K3.out]
    go_wp2_with fail
    go_ret
    exact ⟨rfl, b10⟩
end Go.Proofs.YtlbckjdlfdiceabDoor
