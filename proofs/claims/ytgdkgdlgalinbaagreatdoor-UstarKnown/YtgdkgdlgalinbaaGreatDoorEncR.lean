/- The document's Encode. -/
import Derived.Test.YtgdkgdlgalinbaaGreatDoorRefX
import Derived.Test.YtgdkgdlgalinbaaGreatDoorRefB
import Derived.Test.YtgdkgdlgalinbaaGreatDoorBackM
import Derived.Test.YtgdkgdlgalinbaaGreatDoorOctU
import Derived.Test.YtgdkgdlgalinbaaGreatDoorEncJ
import Derived.Test.YtgdkgdlgalinbaaGreatDoorEncN
import Derived.Deep.RegionHeld3
namespace Go.Proofs.YtgdkgdlgalinbaaGreatDoor
open Go Go.RowKit

theorem info_hd2 : (Tryz.prog.info? 28).map (·.size) = some 12 := by kernel_rfl
theorem fit_split (h : Hd) : fitB h = (noZ h.path && noZ h.link && noZ h.user && noZ h.group && decide (h.user.size < 32) && decide (h.group.size < 32)) := rfl
set_option maxRecDepth 100000 in
set_option maxHeartbeats 4000000 in
theorem encode_r (h : Hd) (hs : h.path.size < 4611686018427387904) (hl : h.link.size ≤ 140737488351232) (hu : h.user.size ≤ 140737488351232) (hg : h.group.size ≤ 140737488351232) (w : World) :
    Calls Tryz.prog 10 #[.agg (hcs h)] w fun e w' => e = .returned (.tuple #[.string (encP h).1, .int .i64 (encP h).2]) ∧ Below w.heap.size w w' := by
  have L0 := Lies.new w 28 (hcs h)
  have B0 := (Below.refl _ w).alloc (Nat.le_refl _) (.cells (hcs h) 28)
  have c0 : (w.alloc (.cells (hcs h) 28)).cell? ⟨w.heap.size, 0, none⟩ = some (.string h.path) := L0.cell rfl
  have c7 : (w.alloc (.cells (hcs h) 28)).cell? ⟨w.heap.size, 7, none⟩ = some (.string h.link) := L0.cell rfl
  have c8 : (w.alloc (.cells (hcs h) 28)).cell? ⟨w.heap.size, 8, none⟩ = some (.string h.user) := L0.cell rfl
  have c9 : (w.alloc (.cells (hcs h) 28)).cell? ⟨w.heap.size, 9, none⟩ = some (.string h.group) := L0.cell rfl
  have n0 := fun W => nought_r h.path W (by omega)
  have n1 := fun W => nought_r h.link W (by omega)
  have n2 := fun W => nought_r h.user W (by omega)
  have n3 := fun W => nought_r h.group W (by omega)
  have HF : Hid (fitB h = (noZ h.path && noZ h.link && noZ h.user && noZ h.group && decide (h.user.size < 32) && decide (h.group.size < 32))) := rfl
  have HE6 : Hid (fitB h = false → encP h = (⟨#[]⟩, 6)) := fun hf => by unfold encP; rw [if_pos hf]
  cases a0 : noZ h.path with
  | false =>
    have HO : Hid (encP h = (⟨#[]⟩, 6)) := HE6.out (by rw [HF.out, a0]; simp)
    rw [a0] at n0
    clear a0 HF HE6
    go_enter Tryz.func10, Tryz.ntmps10
    go_wp2_with (first | (go_at_call 27; with_reducible refine (n0 _).mono ?_; rintro e w1 ⟨rfl, rfl⟩) | (go_at_call 27; with_reducible refine (n1 _).mono ?_; rintro e w1 ⟨rfl, rfl⟩) | (go_at_call 27; with_reducible refine (n2 _).mono ?_; rintro e w1 ⟨rfl, rfl⟩) | (go_at_call 27; with_reducible refine (n3 _).mono ?_; rintro e w1 ⟨rfl, rfl⟩))
    go_ret2
    exact ⟨by rw [HO.out]; rfl, B0⟩
  | true =>
  rw [a0] at n0
  cases a1 : noZ h.link with
  | false =>
    have HO : Hid (encP h = (⟨#[]⟩, 6)) := HE6.out (by rw [HF.out, a1]; simp)
    rw [a1] at n1
    clear a1 HF HE6
    go_enter Tryz.func10, Tryz.ntmps10
    go_wp2_with (first | (go_at_call 27; with_reducible refine (n0 _).mono ?_; rintro e w1 ⟨rfl, rfl⟩) | (go_at_call 27; with_reducible refine (n1 _).mono ?_; rintro e w1 ⟨rfl, rfl⟩) | (go_at_call 27; with_reducible refine (n2 _).mono ?_; rintro e w1 ⟨rfl, rfl⟩) | (go_at_call 27; with_reducible refine (n3 _).mono ?_; rintro e w1 ⟨rfl, rfl⟩))
    go_ret2
    exact ⟨by rw [HO.out]; rfl, B0⟩
  | true =>
  rw [a1] at n1
  cases a2 : noZ h.user with
  | false =>
    have HO : Hid (encP h = (⟨#[]⟩, 6)) := HE6.out (by rw [HF.out, a2]; simp)
    rw [a2] at n2
    clear a2 HF HE6
    go_enter Tryz.func10, Tryz.ntmps10
    go_wp2_with (first | (go_at_call 27; with_reducible refine (n0 _).mono ?_; rintro e w1 ⟨rfl, rfl⟩) | (go_at_call 27; with_reducible refine (n1 _).mono ?_; rintro e w1 ⟨rfl, rfl⟩) | (go_at_call 27; with_reducible refine (n2 _).mono ?_; rintro e w1 ⟨rfl, rfl⟩) | (go_at_call 27; with_reducible refine (n3 _).mono ?_; rintro e w1 ⟨rfl, rfl⟩))
    go_ret2
    exact ⟨by rw [HO.out]; rfl, B0⟩
  | true =>
  rw [a2] at n2
  cases a3 : noZ h.group with
  | false =>
    have HO : Hid (encP h = (⟨#[]⟩, 6)) := HE6.out (by rw [HF.out, a3]; simp)
    rw [a3] at n3
    clear a3 HF HE6
    go_enter Tryz.func10, Tryz.ntmps10
    go_wp2_with (first | (go_at_call 27; with_reducible refine (n0 _).mono ?_; rintro e w1 ⟨rfl, rfl⟩) | (go_at_call 27; with_reducible refine (n1 _).mono ?_; rintro e w1 ⟨rfl, rfl⟩) | (go_at_call 27; with_reducible refine (n2 _).mono ?_; rintro e w1 ⟨rfl, rfl⟩) | (go_at_call 27; with_reducible refine (n3 _).mono ?_; rintro e w1 ⟨rfl, rfl⟩))
    go_ret2
    exact ⟨by rw [HO.out]; rfl, B0⟩
  | true =>
  rw [a3] at n3
  by_cases u0 : h.user.size < 32
  rotate_left
  · have HO : Hid (encP h = (⟨#[]⟩, 6)) := HE6.out (by rw [HF.out, decide_eq_false u0]; simp)
    have u0' : (31 : Int) < (h.user.size : Int) := by omega
    clear a0 a1 a2 a3 HF HE6
    go_enter Tryz.func10, Tryz.ntmps10
    go_wp2_with (first | (go_at_call 27; with_reducible refine (n0 _).mono ?_; rintro e w1 ⟨rfl, rfl⟩) | (go_at_call 27; with_reducible refine (n1 _).mono ?_; rintro e w1 ⟨rfl, rfl⟩) | (go_at_call 27; with_reducible refine (n2 _).mono ?_; rintro e w1 ⟨rfl, rfl⟩) | (go_at_call 27; with_reducible refine (n3 _).mono ?_; rintro e w1 ⟨rfl, rfl⟩))
    go_ret2
    exact ⟨by rw [HO.out]; rfl, B0⟩
  have u0' : ¬ (31 : Int) < (h.user.size : Int) := by omega
  by_cases u1 : h.group.size < 32
  rotate_left
  · have HO : Hid (encP h = (⟨#[]⟩, 6)) := HE6.out (by rw [HF.out, decide_eq_false u1]; simp)
    have u1' : (31 : Int) < (h.group.size : Int) := by omega
    clear a0 a1 a2 a3 HF HE6
    go_enter Tryz.func10, Tryz.ntmps10
    go_wp2_with (first | (go_at_call 27; with_reducible refine (n0 _).mono ?_; rintro e w1 ⟨rfl, rfl⟩) | (go_at_call 27; with_reducible refine (n1 _).mono ?_; rintro e w1 ⟨rfl, rfl⟩) | (go_at_call 27; with_reducible refine (n2 _).mono ?_; rintro e w1 ⟨rfl, rfl⟩) | (go_at_call 27; with_reducible refine (n3 _).mono ?_; rintro e w1 ⟨rfl, rfl⟩))
    go_ret2
    exact ⟨by rw [HO.out]; rfl, B0⟩
  have u1' : ¬ (31 : Int) < (h.group.size : Int) := by omega
  have hfit : fitB h = true := by rw [HF.out, a0, a1, a2, a3, decide_eq_true u0, decide_eq_true u1]; rfl
  have HFI : Hid (fitB h = true) := hfit
  clear a0 a1 a2 a3 u0 u1 HF HE6
  have sr := split_r h.path (w.alloc (.cells (hcs h) 28)) hs
  go_enter Tryz.func10, Tryz.ntmps10
  go_wp2_with (first | (go_at_call 27; with_reducible refine (n0 _).mono ?_; rintro e w1 ⟨rfl, rfl⟩) | (go_at_call 27; with_reducible refine (n1 _).mono ?_; rintro e w1 ⟨rfl, rfl⟩) | (go_at_call 27; with_reducible refine (n2 _).mono ?_; rintro e w1 ⟨rfl, rfl⟩) | (go_at_call 27; with_reducible refine (n3 _).mono ?_; rintro e w1 ⟨rfl, rfl⟩))
  refine sr.mono ?_
  rintro e w2 ⟨rfl, b2⟩
  have L2 := L0.below b2
  have B2 := below_join B0 b2
  clear L0 B0 c0 c7 c8 c9 n0 n1 n2 n3 sr b2 u0' u1'
  have HC9 := splitP_cases h.path
  by_cases h9 : (splitP h.path).2.2 = 0
  rotate_left
  · have h99 : (splitP h.path).2.2 = 9 := by omega
    have HO : Hid (encP h = (⟨#[]⟩, 9)) := by unfold Hid encP; rw [if_neg (by rw [HFI.out]; decide), if_pos h9, h99]
    rw [h99]
    clear h9 h99 HC9 hfit
    generalize (splitP h.path).1 = X at *
    generalize (splitP h.path).2.1 = Y at *
    go_wp2
    go_ret2
    exact ⟨by rw [HO.out]; rfl, B2⟩
  have H9 : Hid ((splitP h.path).2.2 = 0) := h9
  rw [h9]
  clear HC9 hfit
  obtain ⟨s1, s2, _, _⟩ := splitP_sizes h.path h9
  clear h9
  obtain ⟨PF, hPF⟩ : ∃ PF, (splitP h.path).1 = PF := ⟨_, rfl⟩
  obtain ⟨NM, hNM⟩ : ∃ NM, (splitP h.path).2.1 = NM := ⟨_, rfl⟩
  rw [hPF] at s1 ⊢
  rw [hNM] at s2 ⊢
  have HPF : Hid ((splitP h.path).1 = PF) := hPF
  have HNM : Hid ((splitP h.path).2.1 = NM) := hNM
  clear hPF hNM
  have c7 : w2.cell? ⟨w.heap.size, 7, none⟩ = some (.string h.link) := L2.cell rfl
  by_cases hlk : 100 < h.link.size
  · have hlk' : (100 : Int) < (h.link.size : Int) := by omega
    have HO : Hid (encP h = (⟨#[]⟩, 17)) := by unfold Hid encP; rw [if_neg (by rw [HFI.out]; decide), if_neg (fun h => h H9.out), if_pos hlk]
    go_wp2
    go_ret2
    exact ⟨by rw [HO.out]; rfl, B2⟩
  have hlk' : ¬ (100 : Int) < (h.link.size : Int) := by omega
  have HLK : Hid (¬ 100 < h.link.size) := hlk
  clear hlk
  have HE1 : Hid (numsOK h = false → encP h = (⟨#[]⟩, 1)) := fun hn => by unfold encP; rw [if_neg (by rw [HFI.out]; decide), if_neg (fun h => h H9.out), if_neg HLK.out, if_pos hn]
  have HNS : Hid (numsOK h = (numOK h 0 && numOK h 1 && numOK h 2 && numOK h 3 && numOK h 4 && numOK h 5 && numOK h 6)) := rfl
  have d1 : w2.cell? ⟨w.heap.size, 1, none⟩ = some (.int .i64 h.mode) := L2.cell rfl
  have d2 : w2.cell? ⟨w.heap.size, 2, none⟩ = some (.int .i64 h.uid) := L2.cell rfl
  have d3 : w2.cell? ⟨w.heap.size, 3, none⟩ = some (.int .i64 h.gid) := L2.cell rfl
  have d4 : w2.cell? ⟨w.heap.size, 4, none⟩ = some (.int .i64 h.size) := L2.cell rfl
  have d5 : w2.cell? ⟨w.heap.size, 5, none⟩ = some (.int .i64 h.time) := L2.cell rfl
  have d10 : w2.cell? ⟨w.heap.size, 10, none⟩ = some (.int .i64 h.major) := L2.cell rfl
  have d11 : w2.cell? ⟨w.heap.size, 11, none⟩ = some (.int .i64 h.minor) := L2.cell rfl
  have i0 : ∀ W, Calls Tryz.prog 29 #[.int .i64 h.mode, .int .i64 2097151] W fun e w' => e = .returned (.bool (numOK h 0)) ∧ w' = W := fun W => in_r h.mode 2097151 W
  have i1 : ∀ W, Calls Tryz.prog 29 #[.int .i64 h.uid, .int .i64 2097151] W fun e w' => e = .returned (.bool (numOK h 1)) ∧ w' = W := fun W => in_r h.uid 2097151 W
  have i2 : ∀ W, Calls Tryz.prog 29 #[.int .i64 h.gid, .int .i64 2097151] W fun e w' => e = .returned (.bool (numOK h 2)) ∧ w' = W := fun W => in_r h.gid 2097151 W
  have i5 : ∀ W, Calls Tryz.prog 29 #[.int .i64 h.major, .int .i64 2097151] W fun e w' => e = .returned (.bool (numOK h 5)) ∧ w' = W := fun W => in_r h.major 2097151 W
  have i6 : ∀ W, Calls Tryz.prog 29 #[.int .i64 h.minor, .int .i64 2097151] W fun e w' => e = .returned (.bool (numOK h 6)) ∧ w' = W := fun W => in_r h.minor 2097151 W
  have i3 : ∀ W, Calls Tryz.prog 29 #[.int .i64 h.size, .int .i64 8589934591] W fun e w' => e = .returned (.bool (numOK h 3)) ∧ w' = W := fun W => in_r h.size 8589934591 W
  have i4 : ∀ W, Calls Tryz.prog 29 #[.int .i64 h.time, .int .i64 8589934591] W fun e w' => e = .returned (.bool (numOK h 4)) ∧ w' = W := fun W => in_r h.time 8589934591 W
  cases e0 : numOK h 0 with
  | false =>
    have HO : Hid (encP h = (⟨#[]⟩, 1)) := HE1.out (by rw [HNS.out, e0]; simp)
    rw [e0] at i0
    clear e0 HNS
    go_wp2_with (first | (go_at_call 29; with_reducible refine (i0 _).mono ?_; rintro e w3 ⟨rfl, h3⟩; have h3' := h3.symm; clear h3; subst h3') | (go_at_call 29; with_reducible refine (i1 _).mono ?_; rintro e w3 ⟨rfl, h3⟩; have h3' := h3.symm; clear h3; subst h3') | (go_at_call 29; with_reducible refine (i2 _).mono ?_; rintro e w3 ⟨rfl, h3⟩; have h3' := h3.symm; clear h3; subst h3') | (go_at_call 29; with_reducible refine (i5 _).mono ?_; rintro e w3 ⟨rfl, h3⟩; have h3' := h3.symm; clear h3; subst h3') | (go_at_call 29; with_reducible refine (i6 _).mono ?_; rintro e w3 ⟨rfl, h3⟩; have h3' := h3.symm; clear h3; subst h3') | (go_at_call 29; with_reducible refine (i3 _).mono ?_; rintro e w3 ⟨rfl, h3⟩; have h3' := h3.symm; clear h3; subst h3') | (go_at_call 29; with_reducible refine (i4 _).mono ?_; rintro e w3 ⟨rfl, h3⟩; have h3' := h3.symm; clear h3; subst h3'))
    go_ret2
    exact ⟨by rw [HO.out]; rfl, B2⟩
  | true =>
  rw [e0] at i0
  cases e1 : numOK h 1 with
  | false =>
    have HO : Hid (encP h = (⟨#[]⟩, 1)) := HE1.out (by rw [HNS.out, e1]; simp)
    rw [e1] at i1
    clear e1 HNS
    go_wp2_with (first | (go_at_call 29; with_reducible refine (i0 _).mono ?_; rintro e w3 ⟨rfl, h3⟩; have h3' := h3.symm; clear h3; subst h3') | (go_at_call 29; with_reducible refine (i1 _).mono ?_; rintro e w3 ⟨rfl, h3⟩; have h3' := h3.symm; clear h3; subst h3') | (go_at_call 29; with_reducible refine (i2 _).mono ?_; rintro e w3 ⟨rfl, h3⟩; have h3' := h3.symm; clear h3; subst h3') | (go_at_call 29; with_reducible refine (i5 _).mono ?_; rintro e w3 ⟨rfl, h3⟩; have h3' := h3.symm; clear h3; subst h3') | (go_at_call 29; with_reducible refine (i6 _).mono ?_; rintro e w3 ⟨rfl, h3⟩; have h3' := h3.symm; clear h3; subst h3') | (go_at_call 29; with_reducible refine (i3 _).mono ?_; rintro e w3 ⟨rfl, h3⟩; have h3' := h3.symm; clear h3; subst h3') | (go_at_call 29; with_reducible refine (i4 _).mono ?_; rintro e w3 ⟨rfl, h3⟩; have h3' := h3.symm; clear h3; subst h3'))
    go_ret2
    exact ⟨by rw [HO.out]; rfl, B2⟩
  | true =>
  rw [e1] at i1
  cases e2 : numOK h 2 with
  | false =>
    have HO : Hid (encP h = (⟨#[]⟩, 1)) := HE1.out (by rw [HNS.out, e2]; simp)
    rw [e2] at i2
    clear e2 HNS
    go_wp2_with (first | (go_at_call 29; with_reducible refine (i0 _).mono ?_; rintro e w3 ⟨rfl, h3⟩; have h3' := h3.symm; clear h3; subst h3') | (go_at_call 29; with_reducible refine (i1 _).mono ?_; rintro e w3 ⟨rfl, h3⟩; have h3' := h3.symm; clear h3; subst h3') | (go_at_call 29; with_reducible refine (i2 _).mono ?_; rintro e w3 ⟨rfl, h3⟩; have h3' := h3.symm; clear h3; subst h3') | (go_at_call 29; with_reducible refine (i5 _).mono ?_; rintro e w3 ⟨rfl, h3⟩; have h3' := h3.symm; clear h3; subst h3') | (go_at_call 29; with_reducible refine (i6 _).mono ?_; rintro e w3 ⟨rfl, h3⟩; have h3' := h3.symm; clear h3; subst h3') | (go_at_call 29; with_reducible refine (i3 _).mono ?_; rintro e w3 ⟨rfl, h3⟩; have h3' := h3.symm; clear h3; subst h3') | (go_at_call 29; with_reducible refine (i4 _).mono ?_; rintro e w3 ⟨rfl, h3⟩; have h3' := h3.symm; clear h3; subst h3'))
    go_ret2
    exact ⟨by rw [HO.out]; rfl, B2⟩
  | true =>
  rw [e2] at i2
  cases e5 : numOK h 5 with
  | false =>
    have HO : Hid (encP h = (⟨#[]⟩, 1)) := HE1.out (by rw [HNS.out, e5]; simp)
    rw [e5] at i5
    clear e5 HNS
    go_wp2_with (first | (go_at_call 29; with_reducible refine (i0 _).mono ?_; rintro e w3 ⟨rfl, h3⟩; have h3' := h3.symm; clear h3; subst h3') | (go_at_call 29; with_reducible refine (i1 _).mono ?_; rintro e w3 ⟨rfl, h3⟩; have h3' := h3.symm; clear h3; subst h3') | (go_at_call 29; with_reducible refine (i2 _).mono ?_; rintro e w3 ⟨rfl, h3⟩; have h3' := h3.symm; clear h3; subst h3') | (go_at_call 29; with_reducible refine (i5 _).mono ?_; rintro e w3 ⟨rfl, h3⟩; have h3' := h3.symm; clear h3; subst h3') | (go_at_call 29; with_reducible refine (i6 _).mono ?_; rintro e w3 ⟨rfl, h3⟩; have h3' := h3.symm; clear h3; subst h3') | (go_at_call 29; with_reducible refine (i3 _).mono ?_; rintro e w3 ⟨rfl, h3⟩; have h3' := h3.symm; clear h3; subst h3') | (go_at_call 29; with_reducible refine (i4 _).mono ?_; rintro e w3 ⟨rfl, h3⟩; have h3' := h3.symm; clear h3; subst h3'))
    go_ret2
    exact ⟨by rw [HO.out]; rfl, B2⟩
  | true =>
  rw [e5] at i5
  cases e6 : numOK h 6 with
  | false =>
    have HO : Hid (encP h = (⟨#[]⟩, 1)) := HE1.out (by rw [HNS.out, e6]; simp)
    rw [e6] at i6
    clear e6 HNS
    go_wp2_with (first | (go_at_call 29; with_reducible refine (i0 _).mono ?_; rintro e w3 ⟨rfl, h3⟩; have h3' := h3.symm; clear h3; subst h3') | (go_at_call 29; with_reducible refine (i1 _).mono ?_; rintro e w3 ⟨rfl, h3⟩; have h3' := h3.symm; clear h3; subst h3') | (go_at_call 29; with_reducible refine (i2 _).mono ?_; rintro e w3 ⟨rfl, h3⟩; have h3' := h3.symm; clear h3; subst h3') | (go_at_call 29; with_reducible refine (i5 _).mono ?_; rintro e w3 ⟨rfl, h3⟩; have h3' := h3.symm; clear h3; subst h3') | (go_at_call 29; with_reducible refine (i6 _).mono ?_; rintro e w3 ⟨rfl, h3⟩; have h3' := h3.symm; clear h3; subst h3') | (go_at_call 29; with_reducible refine (i3 _).mono ?_; rintro e w3 ⟨rfl, h3⟩; have h3' := h3.symm; clear h3; subst h3') | (go_at_call 29; with_reducible refine (i4 _).mono ?_; rintro e w3 ⟨rfl, h3⟩; have h3' := h3.symm; clear h3; subst h3'))
    go_ret2
    exact ⟨by rw [HO.out]; rfl, B2⟩
  | true =>
  rw [e6] at i6
  cases e3 : numOK h 3 with
  | false =>
    have HO : Hid (encP h = (⟨#[]⟩, 1)) := HE1.out (by rw [HNS.out, e3]; simp)
    rw [e3] at i3
    clear e3 HNS
    go_wp2_with (first | (go_at_call 29; with_reducible refine (i0 _).mono ?_; rintro e w3 ⟨rfl, h3⟩; have h3' := h3.symm; clear h3; subst h3') | (go_at_call 29; with_reducible refine (i1 _).mono ?_; rintro e w3 ⟨rfl, h3⟩; have h3' := h3.symm; clear h3; subst h3') | (go_at_call 29; with_reducible refine (i2 _).mono ?_; rintro e w3 ⟨rfl, h3⟩; have h3' := h3.symm; clear h3; subst h3') | (go_at_call 29; with_reducible refine (i5 _).mono ?_; rintro e w3 ⟨rfl, h3⟩; have h3' := h3.symm; clear h3; subst h3') | (go_at_call 29; with_reducible refine (i6 _).mono ?_; rintro e w3 ⟨rfl, h3⟩; have h3' := h3.symm; clear h3; subst h3') | (go_at_call 29; with_reducible refine (i3 _).mono ?_; rintro e w3 ⟨rfl, h3⟩; have h3' := h3.symm; clear h3; subst h3') | (go_at_call 29; with_reducible refine (i4 _).mono ?_; rintro e w3 ⟨rfl, h3⟩; have h3' := h3.symm; clear h3; subst h3'))
    go_ret2
    exact ⟨by rw [HO.out]; rfl, B2⟩
  | true =>
  rw [e3] at i3
  cases e4 : numOK h 4 with
  | false =>
    have HO : Hid (encP h = (⟨#[]⟩, 1)) := HE1.out (by rw [HNS.out, e4]; simp)
    rw [e4] at i4
    clear e4 HNS
    go_wp2_with (first | (go_at_call 29; with_reducible refine (i0 _).mono ?_; rintro e w3 ⟨rfl, h3⟩; have h3' := h3.symm; clear h3; subst h3') | (go_at_call 29; with_reducible refine (i1 _).mono ?_; rintro e w3 ⟨rfl, h3⟩; have h3' := h3.symm; clear h3; subst h3') | (go_at_call 29; with_reducible refine (i2 _).mono ?_; rintro e w3 ⟨rfl, h3⟩; have h3' := h3.symm; clear h3; subst h3') | (go_at_call 29; with_reducible refine (i5 _).mono ?_; rintro e w3 ⟨rfl, h3⟩; have h3' := h3.symm; clear h3; subst h3') | (go_at_call 29; with_reducible refine (i6 _).mono ?_; rintro e w3 ⟨rfl, h3⟩; have h3' := h3.symm; clear h3; subst h3') | (go_at_call 29; with_reducible refine (i3 _).mono ?_; rintro e w3 ⟨rfl, h3⟩; have h3' := h3.symm; clear h3; subst h3') | (go_at_call 29; with_reducible refine (i4 _).mono ?_; rintro e w3 ⟨rfl, h3⟩; have h3' := h3.symm; clear h3; subst h3'))
    go_ret2
    exact ⟨by rw [HO.out]; rfl, B2⟩
  | true =>
  rw [e4] at i4
  have hnum : numsOK h = true := by rw [HNS.out, e0, e1, e2, e3, e4, e5, e6]; rfl
  have hgood : Good h := ⟨HFI.out, H9.out, by have := HLK.out; omega, hnum⟩
  clear e0 e1 e2 e3 e4 e5 e6 HNS HE1
  go_wp2_with (first | (go_at_call 29; with_reducible refine (i0 _).mono ?_; rintro e w3 ⟨rfl, h3⟩; have h3' := h3.symm; clear h3; subst h3') | (go_at_call 29; with_reducible refine (i1 _).mono ?_; rintro e w3 ⟨rfl, h3⟩; have h3' := h3.symm; clear h3; subst h3') | (go_at_call 29; with_reducible refine (i2 _).mono ?_; rintro e w3 ⟨rfl, h3⟩; have h3' := h3.symm; clear h3; subst h3') | (go_at_call 29; with_reducible refine (i5 _).mono ?_; rintro e w3 ⟨rfl, h3⟩; have h3' := h3.symm; clear h3; subst h3') | (go_at_call 29; with_reducible refine (i6 _).mono ?_; rintro e w3 ⟨rfl, h3⟩; have h3' := h3.symm; clear h3; subst h3') | (go_at_call 29; with_reducible refine (i3 _).mono ?_; rintro e w3 ⟨rfl, h3⟩; have h3' := h3.symm; clear h3; subst h3') | (go_at_call 29; with_reducible refine (i4 _).mono ?_; rintro e w3 ⟨rfl, h3⟩; have h3' := h3.symm; clear h3; subst h3'))
  clear i0 i1 i2 i3 i4 i5 i6 c7 hlk'
  have hnk := num_ok h hnum
  have hnat : ∀ k, k < 7 → ∃ x : Nat, num h k = x ∧ x < 1099511627776 := fun k hk => by
    obtain ⟨x, m, hx, hm, hm10, hx8⟩ := hnk k hk
    exact ⟨x, hx, Nat.lt_of_lt_of_le hx8 (Nat.le_trans (Nat.pow_le_pow_right (by decide) (show m + 1 ≤ 11 by omega)) (by decide))⟩
  have oc : ∀ (k n : Nat) (x : Int), k < 7 → n ≤ 100 → x = num h k → ∀ W, Calls Tryz.prog 31 #[.int .i64 x, .int .i64 n] W fun e w' => e = .returned (.string (bs (octD (num h k).toNat n))) ∧ Below W.heap.size W w' := by
    rintro k n x hk hn rfl W
    obtain ⟨y, hy, hy2⟩ := hnat k hk
    have := octal_r y n hy2 hn W
    rw [hy, Int.toNat_natCast]; exact this
  obtain ⟨O0, hO0⟩ : ∃ X, bs (octD (num h 0).toNat 7) = X := ⟨_, rfl⟩
  have zO0 : O0.size = 7 := by rw [← hO0, size_bs, octD_length]
  have cO0 : ∀ W, Calls Tryz.prog 31 #[.int .i64 h.mode, .int .i64 7] W fun e w' => e = .returned (.string O0) ∧ Below W.heap.size W w' := fun W => by rw [← hO0]; exact oc 0 7 h.mode (by omega) (by omega) rfl W
  have HO0 : Hid (bs (octD (num h 0).toNat 7) = O0) := hO0
  clear hO0
  obtain ⟨O1, hO1⟩ : ∃ X, bs (octD (num h 1).toNat 7) = X := ⟨_, rfl⟩
  have zO1 : O1.size = 7 := by rw [← hO1, size_bs, octD_length]
  have cO1 : ∀ W, Calls Tryz.prog 31 #[.int .i64 h.uid, .int .i64 7] W fun e w' => e = .returned (.string O1) ∧ Below W.heap.size W w' := fun W => by rw [← hO1]; exact oc 1 7 h.uid (by omega) (by omega) rfl W
  have HO1 : Hid (bs (octD (num h 1).toNat 7) = O1) := hO1
  clear hO1
  obtain ⟨O2, hO2⟩ : ∃ X, bs (octD (num h 2).toNat 7) = X := ⟨_, rfl⟩
  have zO2 : O2.size = 7 := by rw [← hO2, size_bs, octD_length]
  have cO2 : ∀ W, Calls Tryz.prog 31 #[.int .i64 h.gid, .int .i64 7] W fun e w' => e = .returned (.string O2) ∧ Below W.heap.size W w' := fun W => by rw [← hO2]; exact oc 2 7 h.gid (by omega) (by omega) rfl W
  have HO2 : Hid (bs (octD (num h 2).toNat 7) = O2) := hO2
  clear hO2
  obtain ⟨O3, hO3⟩ : ∃ X, bs (octD (num h 3).toNat 11) = X := ⟨_, rfl⟩
  have zO3 : O3.size = 11 := by rw [← hO3, size_bs, octD_length]
  have cO3 : ∀ W, Calls Tryz.prog 31 #[.int .i64 h.size, .int .i64 11] W fun e w' => e = .returned (.string O3) ∧ Below W.heap.size W w' := fun W => by rw [← hO3]; exact oc 3 11 h.size (by omega) (by omega) rfl W
  have HO3 : Hid (bs (octD (num h 3).toNat 11) = O3) := hO3
  clear hO3
  obtain ⟨O4, hO4⟩ : ∃ X, bs (octD (num h 4).toNat 11) = X := ⟨_, rfl⟩
  have zO4 : O4.size = 11 := by rw [← hO4, size_bs, octD_length]
  have cO4 : ∀ W, Calls Tryz.prog 31 #[.int .i64 h.time, .int .i64 11] W fun e w' => e = .returned (.string O4) ∧ Below W.heap.size W w' := fun W => by rw [← hO4]; exact oc 4 11 h.time (by omega) (by omega) rfl W
  have HO4 : Hid (bs (octD (num h 4).toNat 11) = O4) := hO4
  clear hO4
  obtain ⟨O5, hO5⟩ : ∃ X, bs (octD (num h 5).toNat 7) = X := ⟨_, rfl⟩
  have zO5 : O5.size = 7 := by rw [← hO5, size_bs, octD_length]
  have cO5 : ∀ W, Calls Tryz.prog 31 #[.int .i64 h.major, .int .i64 7] W fun e w' => e = .returned (.string O5) ∧ Below W.heap.size W w' := fun W => by rw [← hO5]; exact oc 5 7 h.major (by omega) (by omega) rfl W
  have HO5 : Hid (bs (octD (num h 5).toNat 7) = O5) := hO5
  clear hO5
  obtain ⟨O6, hO6⟩ : ∃ X, bs (octD (num h 6).toNat 7) = X := ⟨_, rfl⟩
  have zO6 : O6.size = 7 := by rw [← hO6, size_bs, octD_length]
  have cO6 : ∀ W, Calls Tryz.prog 31 #[.int .i64 h.minor, .int .i64 7] W fun e w' => e = .returned (.string O6) ∧ Below W.heap.size W w' := fun W => by rw [← hO6]; exact oc 6 7 h.minor (by omega) (by omega) rfl W
  have HO6 : Hid (bs (octD (num h 6).toNat 7) = O6) := hO6
  clear hO6
  obtain ⟨F0, hF0⟩ : ∃ X, bs (fillK (un NM) 100) = X := ⟨_, rfl⟩
  have zF0 : F0.size = 100 := by rw [← hF0, size_bs, fillK_length]
  have cF0 : ∀ W, Calls Tryz.prog 30 #[.string NM, .int .i64 100] W fun e w' => e = .returned (.string F0) ∧ Below W.heap.size W w' := fun W => by rw [← hF0]; exact filled_r NM 100 (by omega) W
  have HF0 : Hid (bs (fillK (un NM) 100) = F0) := hF0
  clear hF0
  obtain ⟨F1, hF1⟩ : ∃ X, bs (fillK (un h.link) 100) = X := ⟨_, rfl⟩
  have zF1 : F1.size = 100 := by rw [← hF1, size_bs, fillK_length]
  have cF1 : ∀ W, Calls Tryz.prog 30 #[.string h.link, .int .i64 100] W fun e w' => e = .returned (.string F1) ∧ Below W.heap.size W w' := fun W => by rw [← hF1]; exact filled_r h.link 100 (by omega) W
  have HF1 : Hid (bs (fillK (un h.link) 100) = F1) := hF1
  clear hF1
  obtain ⟨F2, hF2⟩ : ∃ X, bs (fillK (un h.user) 32) = X := ⟨_, rfl⟩
  have zF2 : F2.size = 32 := by rw [← hF2, size_bs, fillK_length]
  have cF2 : ∀ W, Calls Tryz.prog 30 #[.string h.user, .int .i64 32] W fun e w' => e = .returned (.string F2) ∧ Below W.heap.size W w' := fun W => by rw [← hF2]; exact filled_r h.user 32 (by omega) W
  have HF2 : Hid (bs (fillK (un h.user) 32) = F2) := hF2
  clear hF2
  obtain ⟨F3, hF3⟩ : ∃ X, bs (fillK (un h.group) 32) = X := ⟨_, rfl⟩
  have zF3 : F3.size = 32 := by rw [← hF3, size_bs, fillK_length]
  have cF3 : ∀ W, Calls Tryz.prog 30 #[.string h.group, .int .i64 32] W fun e w' => e = .returned (.string F3) ∧ Below W.heap.size W w' := fun W => by rw [← hF3]; exact filled_r h.group 32 (by omega) W
  have HF3 : Hid (bs (fillK (un h.group) 32) = F3) := hF3
  clear hF3
  obtain ⟨F4, hF4⟩ : ∃ X, bs (fillK (un PF) 155) = X := ⟨_, rfl⟩
  have zF4 : F4.size = 155 := by rw [← hF4, size_bs, fillK_length]
  have cF4 : ∀ W, Calls Tryz.prog 30 #[.string PF, .int .i64 155] W fun e w' => e = .returned (.string F4) ∧ Below W.heap.size W w' := fun W => by rw [← hF4]; exact filled_r PF 155 (by omega) W
  have HF4 : Hid (bs (fillK (un PF) 155) = F4) := hF4
  clear hF4
  obtain ⟨F5, hF5⟩ : ∃ X, bs (fillK (un ⟨#[]⟩) 12) = X := ⟨_, rfl⟩
  have zF5 : F5.size = 12 := by rw [← hF5, size_bs, fillK_length]
  have cF5 : ∀ W, Calls Tryz.prog 30 #[.string ⟨#[]⟩, .int .i64 12] W fun e w' => e = .returned (.string F5) ∧ Below W.heap.size W w' := fun W => by rw [← hF5]; exact filled_r ⟨#[]⟩ 12 (by omega) W
  have HF5 : Hid (bs (fillK (un ⟨#[]⟩) 12) = F5) := hF5
  clear hF5
  have HA2 : HdAt w2.drew w.heap.size h := ⟨L2⟩
  have HCELL : Hid (∀ W, HdAt W w.heap.size h → W.cell? ⟨w.heap.size, 1, none⟩ = some (.int .i64 h.mode) ∧ W.cell? ⟨w.heap.size, 2, none⟩ = some (.int .i64 h.uid) ∧ W.cell? ⟨w.heap.size, 3, none⟩ = some (.int .i64 h.gid) ∧ W.cell? ⟨w.heap.size, 4, none⟩ = some (.int .i64 h.size) ∧ W.cell? ⟨w.heap.size, 5, none⟩ = some (.int .i64 h.time)) := fun W x => ⟨x.lies.cell rfl, x.lies.cell rfl, x.lies.cell rfl, x.lies.cell rfl, x.lies.cell rfl⟩
  have HS0 : Hid (w2.drew.cell? ⟨w.heap.size, 1, none⟩ = some (.int .i64 h.mode) ∧ w2.drew.cell? ⟨w.heap.size, 2, none⟩ = some (.int .i64 h.uid) ∧ w2.drew.cell? ⟨w.heap.size, 3, none⟩ = some (.int .i64 h.gid) ∧ w2.drew.cell? ⟨w.heap.size, 4, none⟩ = some (.int .i64 h.size) ∧ w2.drew.cell? ⟨w.heap.size, 5, none⟩ = some (.int .i64 h.time) ∧ HdAt w2.drew w.heap.size h ∧ Below w.heap.size w w2.drew) := ⟨d1, d2, d3, d4, d5, HA2, below_drawn B2 1⟩
  have HK : Hid (∀ W1 W2, Below W1.heap.size W1 W2 → HdAt W1 w.heap.size h → Below w.heap.size w W1 → (W2.cell? ⟨w.heap.size, 1, none⟩ = some (.int .i64 h.mode) ∧ W2.cell? ⟨w.heap.size, 2, none⟩ = some (.int .i64 h.uid) ∧ W2.cell? ⟨w.heap.size, 3, none⟩ = some (.int .i64 h.gid) ∧ W2.cell? ⟨w.heap.size, 4, none⟩ = some (.int .i64 h.size) ∧ W2.cell? ⟨w.heap.size, 5, none⟩ = some (.int .i64 h.time) ∧ HdAt W2 w.heap.size h ∧ Below w.heap.size w W2)) := fun W1 W2 b x y => by
    obtain ⟨q1, q2, q3, q4, q5⟩ := HCELL.out W2 (x.below b)
    exact ⟨q1, q2, q3, q4, q5, x.below b, below_join y b⟩
  clear d1 d2 d3 d4 d5 d10 d11 HA2 oc hnat hnk hnum
  go_region_held3 (fun w' => w'.cell? ⟨w.heap.size, 1, none⟩ = some (.int .i64 h.mode) ∧ w'.cell? ⟨w.heap.size, 2, none⟩ = some (.int .i64 h.uid) ∧ w'.cell? ⟨w.heap.size, 3, none⟩ = some (.int .i64 h.gid) ∧ w'.cell? ⟨w.heap.size, 4, none⟩ = some (.int .i64 h.size) ∧ w'.cell? ⟨w.heap.size, 5, none⟩ = some (.int .i64 h.time) ∧ HdAt w' w.heap.size h ∧ Below w.heap.size w w')
    (first | exact HS0.out | (go_split_ands; exact HK.out _ _ b9 (by assumption) (by assumption)))
    (first | (go_at_call 30; with_reducible refine (cF0 _).mono ?_; rintro e w9 ⟨rfl, b9⟩) | (go_at_call 31; with_reducible refine (cO0 _).mono ?_; rintro e w9 ⟨rfl, b9⟩) | (go_at_call 31; with_reducible refine (cO1 _).mono ?_; rintro e w9 ⟨rfl, b9⟩) | (go_at_call 31; with_reducible refine (cO2 _).mono ?_; rintro e w9 ⟨rfl, b9⟩) | (go_at_call 31; with_reducible refine (cO3 _).mono ?_; rintro e w9 ⟨rfl, b9⟩) | (go_at_call 31; with_reducible refine (cO4 _).mono ?_; rintro e w9 ⟨rfl, b9⟩))
  have HB9 : Below w.heap.size w w9 := by first | assumption | (go_split_ands; assumption)
  have HA9 : HdAt w9 w.heap.size h := by first | assumption | (go_split_ands; assumption)
  clear HS0 HK HCELL b9
  obtain ⟨A, hA⟩ : ∃ A, F0 ++ O0 ++ ⟨#[0]⟩ ++ O1 ++ ⟨#[0]⟩ ++ O2 ++ ⟨#[0]⟩ ++ O3 ++ ⟨#[0]⟩ ++ O4 ++ ⟨#[0]⟩ = A := ⟨_, rfl⟩
  have HAA : Hid (F0 ++ O0 ++ ⟨#[0]⟩ ++ O1 ++ ⟨#[0]⟩ ++ O2 ++ ⟨#[0]⟩ ++ O3 ++ ⟨#[0]⟩ ++ O4 ++ ⟨#[0]⟩ = A) := hA
  rw [hA]
  clear hA
  go_wp2
  obtain ⟨T1, hT1⟩ : ∃ T1, bs [h.typ] = T1 := ⟨_, rfl⟩
  have zT1 : T1.size = 1 := by rw [← hT1]; rfl
  have HUA := enc_A HNM.out s2 HF0.out HO0.out HO1.out HO2.out HO3.out HO4.out HAA.out
  have HUB := fun B => enc_B (B := B) HPF.out s1 hgood.lk (by have := (fitted_of hgood.fit).u1; omega) (by have := (fitted_of hgood.fit).u2; omega) hT1 HF1.out HF2.out HF3.out HF4.out HF5.out HO5.out HO6.out
  refine region11 h w.heap.size T1 PF F1 F2 F3 F4 F5 O5 O6 (w := w) rfl rfl rfl cF1 cF2 cF3 cF4 cF5 cO5 cO6 hT1 ⟨zT1, zF1, zF2, zF3, zF4, zF5, zO5, zO6⟩ HA9 HB9 ?_
  intro g W2 B4
  obtain ⟨BH, hBH⟩ : ∃ B, T1 ++ F1 ++ ⟨#[117, 115, 116, 97, 114, 0, 48, 48]⟩ ++ F2 ++ F3 ++ O5 ++ ⟨#[0]⟩ ++ O6 ++ ⟨#[0]⟩ ++ F4 ++ F5 = B := ⟨_, rfl⟩
  have zz := enc_sizes hgood HUA (HUB BH hBH)
  have zA := enc_zA hgood HUA
  have zB := enc_zB hgood HUA (HUB BH hBH)
  have HO : Hid (encP h = (bs (encL h), 0)) := hgood.enc
  have HJ := enc_join hgood HUA (HUB BH hBH)
  have hsm := sum_small (un (A ++ ⟨#[32, 32, 32, 32, 32, 32, 32, 32]⟩ ++ BH))
  have cS := fun W => sum_r (A ++ ⟨#[32, 32, 32, 32, 32, 32, 32, 32]⟩ ++ BH) zz W
  obtain ⟨SM, hSM⟩ : ∃ s, sumB (un (A ++ ⟨#[32, 32, 32, 32, 32, 32, 32, 32]⟩ ++ BH)) = s := ⟨_, rfl⟩
  rw [hSM] at hsm HJ
  simp only [hSM] at cS
  have cO := fun W => octal6 SM hsm W
  have z6 : (bs (octD SM 6)).size = 6 := by rw [size_bs, octD_length]
  obtain ⟨OS, hOS⟩ : ∃ x, bs (octD SM 6) = x := ⟨_, rfl⟩
  simp only [hOS] at cO
  rw [hOS] at HJ z6
  simp only [putAll, ds11, vs11, Act.put, List.setIfInBounds_toArray, List.set_cons_zero, List.set_cons_succ]
  rw [hBH]
  clear HUB HUA hsm hSM hOS zz cF1 cF2 cF3 cF4 cF5 cO5 cO6 hT1 hBH HF0 HF1 HF2 HF3 HF4 HF5 HO0 HO1 HO2 HO3 HO4 HO5 HO6 HPF HNM HAA
  have HJ' : Hid _ := HJ
  clear HJ
  go_wp2_with (first | (go_at_call 32; with_reducible refine (cS _).mono ?_; rintro e w3 ⟨rfl, h3⟩; have h3' := h3.symm; clear h3; subst h3') | (go_at_call 31; with_reducible refine (cO _).mono ?_; rintro e w4 ⟨rfl, b4⟩))
  go_ret2
  exact ⟨by rw [HO.out, ← HJ'.out]; rfl, below_join B4 b4⟩
end Go.Proofs.YtgdkgdlgalinbaaGreatDoor
