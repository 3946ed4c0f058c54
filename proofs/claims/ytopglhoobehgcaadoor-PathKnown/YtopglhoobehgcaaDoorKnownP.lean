/- PathKnown's parted: parents, last names, what is put together, cleaned, held, at fixed texts. -/
import Derived.Test.YtopglhoobehgcaaDoorKnown
namespace Go.Proofs.YtopglhoobehgcaaDoor
open Go.RowKit

theorem kv0 : parentB ⟨#[97, 47, 98, 47, 99]⟩ = ⟨#[97, 47, 98]⟩ := by decide +kernel
theorem kc0 (w : World) : Calls Tryd.prog 30 #[.string ⟨#[97, 47, 98, 47, 99]⟩] w fun e w' => e = .returned (.string ⟨#[97, 47, 98]⟩) ∧ w' = w := by
  have h := parent_p ⟨#[97, 47, 98, 47, 99]⟩ w (by decide); rw [kv0] at h; exact h
theorem kv1 : lastB ⟨#[97, 47, 98, 47, 99]⟩ = ⟨#[99]⟩ := by decide +kernel
theorem kc1 (w : World) : Calls Tryd.prog 31 #[.string ⟨#[97, 47, 98, 47, 99]⟩] w fun e w' => e = .returned (.string ⟨#[99]⟩) ∧ w' = w := by
  have h := last_p ⟨#[97, 47, 98, 47, 99]⟩ w (by decide); rw [kv1] at h; exact h
theorem kv2 : parentB ⟨#[47, 97]⟩ = ⟨#[]⟩ := by decide +kernel
theorem kc2 (w : World) : Calls Tryd.prog 30 #[.string ⟨#[47, 97]⟩] w fun e w' => e = .returned (.string ⟨#[]⟩) ∧ w' = w := by
  have h := parent_p ⟨#[47, 97]⟩ w (by decide); rw [kv2] at h; exact h
theorem kv3 : lastB ⟨#[97, 47]⟩ = ⟨#[]⟩ := by decide +kernel
theorem kc3 (w : World) : Calls Tryd.prog 31 #[.string ⟨#[97, 47]⟩] w fun e w' => e = .returned (.string ⟨#[]⟩) ∧ w' = w := by
  have h := last_p ⟨#[97, 47]⟩ w (by decide); rw [kv3] at h; exact h
theorem kv4 : joinB ⟨#[]⟩ ⟨#[98]⟩ = ⟨#[98]⟩ := by simp only [joinB, toList_un]; decide +kernel
theorem kc4 (w : World) : Calls Tryd.prog 32 #[.string ⟨#[]⟩, .string ⟨#[98]⟩] w fun e w' => e = .returned (.string ⟨#[98]⟩) ∧ w' = w := by
  have h := join_p ⟨#[]⟩ ⟨#[98]⟩ w (by decide); rw [kv4] at h; exact h
theorem kv5 : joinB ⟨#[97]⟩ ⟨#[]⟩ = ⟨#[97, 47]⟩ := by simp only [joinB, toList_un]; decide +kernel
theorem kc5 (w : World) : Calls Tryd.prog 32 #[.string ⟨#[97]⟩, .string ⟨#[]⟩] w fun e w' => e = .returned (.string ⟨#[97, 47]⟩) ∧ w' = w := by
  have h := join_p ⟨#[97]⟩ ⟨#[]⟩ w (by decide); rw [kv5] at h; exact h
theorem kv6 : cleanB ⟨#[46, 46, 47, 97]⟩ = ⟨#[97]⟩ := by decide +kernel
theorem kc6 (w : World) : Calls Tryd.prog 33 #[.string ⟨#[46, 46, 47, 97]⟩] w fun e w' => e = .returned (.string ⟨#[97]⟩) ∧ Below w.heap.size w w' := by
  have h := clean_p ⟨#[46, 46, 47, 97]⟩ w (by decide); rw [kv6] at h; exact h
theorem kv7 : cleanB ⟨#[97, 47, 46, 46, 47, 46, 46, 47, 98]⟩ = ⟨#[98]⟩ := by decide +kernel
theorem kc7 (w : World) : Calls Tryd.prog 33 #[.string ⟨#[97, 47, 46, 46, 47, 46, 46, 47, 98]⟩] w fun e w' => e = .returned (.string ⟨#[98]⟩) ∧ Below w.heap.size w w' := by
  have h := clean_p ⟨#[97, 47, 46, 46, 47, 46, 46, 47, 98]⟩ w (by decide); rw [kv7] at h; exact h
theorem kv8 : cleanB ⟨#[97, 47, 46, 46]⟩ = ⟨#[]⟩ := by decide +kernel
theorem kc8 (w : World) : Calls Tryd.prog 33 #[.string ⟨#[97, 47, 46, 46]⟩] w fun e w' => e = .returned (.string ⟨#[]⟩) ∧ Below w.heap.size w w' := by
  have h := clean_p ⟨#[97, 47, 46, 46]⟩ w (by decide); rw [kv8] at h; exact h
theorem kv9 : cleanB ⟨#[46, 46, 46]⟩ = ⟨#[46, 46, 46]⟩ := by decide +kernel
theorem kc9 (w : World) : Calls Tryd.prog 33 #[.string ⟨#[46, 46, 46]⟩] w fun e w' => e = .returned (.string ⟨#[46, 46, 46]⟩) ∧ Below w.heap.size w w' := by
  have h := clean_p ⟨#[46, 46, 46]⟩ w (by decide); rw [kv9] at h; exact h
theorem kv10 : cleanB ⟨#[47, 97, 47, 46, 47, 98, 47, 47, 99, 47]⟩ = ⟨#[97, 47, 98, 47, 99]⟩ := by decide +kernel
theorem kc10 (w : World) : Calls Tryd.prog 33 #[.string ⟨#[47, 97, 47, 46, 47, 98, 47, 47, 99, 47]⟩] w fun e w' => e = .returned (.string ⟨#[97, 47, 98, 47, 99]⟩) ∧ Below w.heap.size w w' := by
  have h := clean_p ⟨#[47, 97, 47, 46, 47, 98, 47, 47, 99, 47]⟩ w (by decide); rw [kv10] at h; exact h
theorem kv11 : compareN ⟨#[97, 47, 98]⟩ ⟨#[97, 46, 98]⟩ = (-1) := by decide +kernel
theorem kc11 (w : World) : Calls Tryd.prog 34 #[.string ⟨#[97, 47, 98]⟩, .string ⟨#[97, 46, 98]⟩] w fun e w' => e = .returned (.int .i64 (-1)) ∧ Below w.heap.size w w' := by
  have h := compare_p ⟨#[97, 47, 98]⟩ ⟨#[97, 46, 98]⟩ w (by decide) (by decide); rw [kv11] at h; exact h
theorem kv12 : compareN ⟨#[98]⟩ ⟨#[97, 47, 122]⟩ = 1 := by decide +kernel
theorem kc12 (w : World) : Calls Tryd.prog 34 #[.string ⟨#[98]⟩, .string ⟨#[97, 47, 122]⟩] w fun e w' => e = .returned (.int .i64 1) ∧ Below w.heap.size w w' := by
  have h := compare_p ⟨#[98]⟩ ⟨#[97, 47, 122]⟩ w (by decide) (by decide); rw [kv12] at h; exact h
theorem kv13 : compareN ⟨#[97]⟩ ⟨#[97]⟩ = 0 := by decide +kernel
theorem kc13 (w : World) : Calls Tryd.prog 34 #[.string ⟨#[97]⟩, .string ⟨#[97]⟩] w fun e w' => e = .returned (.int .i64 0) ∧ Below w.heap.size w w' := by
  have h := compare_p ⟨#[97]⟩ ⟨#[97]⟩ w (by decide) (by decide); rw [kv13] at h; exact h
theorem kv14 : compareN ⟨#[]⟩ ⟨#[47]⟩ = (-1) := by decide +kernel
theorem kc14 (w : World) : Calls Tryd.prog 34 #[.string ⟨#[]⟩, .string ⟨#[47]⟩] w fun e w' => e = .returned (.int .i64 (-1)) ∧ Below w.heap.size w w' := by
  have h := compare_p ⟨#[]⟩ ⟨#[47]⟩ w (by decide) (by decide); rw [kv14] at h; exact h
theorem kv15 : compareN ⟨#[255]⟩ ⟨#[97]⟩ = 1 := by decide +kernel
theorem kc15 (w : World) : Calls Tryd.prog 34 #[.string ⟨#[255]⟩, .string ⟨#[97]⟩] w fun e w' => e = .returned (.int .i64 1) ∧ Below w.heap.size w w' := by
  have h := compare_p ⟨#[255]⟩ ⟨#[97]⟩ w (by decide) (by decide); rw [kv15] at h; exact h
theorem kv16 : belowB ⟨#[]⟩ ⟨#[97]⟩ = true := by simp only [belowB, toList_un]; decide +kernel
theorem kc16 (w : World) : Calls Tryd.prog 35 #[.string ⟨#[]⟩, .string ⟨#[97]⟩] w fun e w' => e = .returned (.bool true) ∧ w' = w := by
  have h := below_p ⟨#[]⟩ ⟨#[97]⟩ w; rw [kv16] at h; exact h
theorem kv17 : belowB ⟨#[]⟩ ⟨#[]⟩ = false := by simp only [belowB, toList_un]; decide +kernel
theorem kc17 (w : World) : Calls Tryd.prog 35 #[.string ⟨#[]⟩, .string ⟨#[]⟩] w fun e w' => e = .returned (.bool false) ∧ w' = w := by
  have h := below_p ⟨#[]⟩ ⟨#[]⟩ w; rw [kv17] at h; exact h
theorem kv18 : belowB ⟨#[97]⟩ ⟨#[97, 98]⟩ = false := by simp only [belowB, toList_un]; decide +kernel
theorem kc18 (w : World) : Calls Tryd.prog 35 #[.string ⟨#[97]⟩, .string ⟨#[97, 98]⟩] w fun e w' => e = .returned (.bool false) ∧ w' = w := by
  have h := below_p ⟨#[97]⟩ ⟨#[97, 98]⟩ w; rw [kv18] at h; exact h
theorem kv19 : belowB ⟨#[97]⟩ ⟨#[97]⟩ = false := by simp only [belowB, toList_un]; decide +kernel
theorem kc19 (w : World) : Calls Tryd.prog 35 #[.string ⟨#[97]⟩, .string ⟨#[97]⟩] w fun e w' => e = .returned (.bool false) ∧ w' = w := by
  have h := below_p ⟨#[97]⟩ ⟨#[97]⟩ w; rw [kv19] at h; exact h
theorem kv20 : belowB ⟨#[97]⟩ ⟨#[97, 47]⟩ = true := by simp only [belowB, toList_un]; decide +kernel
theorem kc20 (w : World) : Calls Tryd.prog 35 #[.string ⟨#[97]⟩, .string ⟨#[97, 47]⟩] w fun e w' => e = .returned (.bool true) ∧ w' = w := by
  have h := below_p ⟨#[97]⟩ ⟨#[97, 47]⟩ w; rw [kv20] at h; exact h

set_option maxRecDepth 100000 in
set_option maxHeartbeats 2000000 in
theorem parted_p (w : World) : Calls Tryd.prog 12 #[] w fun e w' => e = .returned (.bool true) ∧ Below w.heap.size w w' := by
  have b0 : Below w.heap.size w w := Below.refl _ _
  go_enter Tryd.func12, Tryd.ntmps12
  go_wp2_with fail
  refine (kc0 _).mono ?_
  rintro e w1 ⟨rfl, hw1⟩
  subst hw1
  go_wp2_with fail
  refine (kc1 _).mono ?_
  rintro e w2 ⟨rfl, hw2⟩
  subst hw2
  go_wp2_with fail
  refine (kc2 _).mono ?_
  rintro e w3 ⟨rfl, hw3⟩
  subst hw3
  go_wp2_with fail
  refine (kc3 _).mono ?_
  rintro e w4 ⟨rfl, hw4⟩
  subst hw4
  go_wp2_with fail
  refine (kc4 _).mono ?_
  rintro e w5 ⟨rfl, hw5⟩
  subst hw5
  go_wp2_with fail
  refine (kc5 _).mono ?_
  rintro e w6 ⟨rfl, hw6⟩
  subst hw6
  go_wp2_with fail
  refine (kc6 _).mono ?_
  rintro e w7 ⟨rfl, b7⟩
  replace b7 := below_join b0 b7
  clear b0
  go_wp2_with fail
  refine (kc7 _).mono ?_
  rintro e w8 ⟨rfl, b8⟩
  replace b8 := below_join b7 b8
  clear b7
  go_wp2_with fail
  refine (kc8 _).mono ?_
  rintro e w9 ⟨rfl, b9⟩
  replace b9 := below_join b8 b9
  clear b8
  go_wp2_with fail
  refine (kc9 _).mono ?_
  rintro e w10 ⟨rfl, b10⟩
  replace b10 := below_join b9 b10
  clear b9
  go_wp2_with fail
  refine (kc10 _).mono ?_
  rintro e w11 ⟨rfl, b11⟩
  replace b11 := below_join b10 b11
  clear b10
  go_wp2_with fail
  refine (kc11 _).mono ?_
  rintro e w12 ⟨rfl, b12⟩
  replace b12 := below_join b11 b12
  clear b11
  go_wp2_with fail
  refine (kc12 _).mono ?_
  rintro e w13 ⟨rfl, b13⟩
  replace b13 := below_join b12 b13
  clear b12
  go_wp2_with fail
  refine (kc13 _).mono ?_
  rintro e w14 ⟨rfl, b14⟩
  replace b14 := below_join b13 b14
  clear b13
  go_wp2_with fail
  refine (kc14 _).mono ?_
  rintro e w15 ⟨rfl, b15⟩
  replace b15 := below_join b14 b15
  clear b14
  go_wp2_with fail
  refine (kc15 _).mono ?_
  rintro e w16 ⟨rfl, b16⟩
  replace b16 := below_join b15 b16
  clear b15
  go_wp2_with fail
  refine (kc16 _).mono ?_
  rintro e w17 ⟨rfl, hw17⟩
  subst hw17
  go_wp2_with fail
  refine (kc17 _).mono ?_
  rintro e w18 ⟨rfl, hw18⟩
  subst hw18
  go_wp2_with fail
  refine (kc18 _).mono ?_
  rintro e w19 ⟨rfl, hw19⟩
  subst hw19
  go_wp2_with fail
  refine (kc19 _).mono ?_
  rintro e w20 ⟨rfl, hw20⟩
  subst hw20
  go_wp2_with fail
  refine (kc20 _).mono ?_
  rintro e w21 ⟨rfl, hw21⟩
  subst hw21
  go_wp2_with fail
  go_ret
  exact ⟨rfl, b16⟩
end Go.Proofs.YtopglhoobehgcaaDoor
