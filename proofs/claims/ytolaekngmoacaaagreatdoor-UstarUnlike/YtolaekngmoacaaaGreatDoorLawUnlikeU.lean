/- UstarUnlike, walked: two headers are written alike just if they are alike. -/
import Derived.Test.YtolaekngmoacaaaGreatDoorLawBackU
namespace Go.Proofs.YtolaekngmoacaaaGreatDoor
open Go Go.RowKit

theorem enc_inj (a b : Hd) (ha : (encP a).2 = 0) (hb : (encP b).2 = 0) (h : (encP a).1 = (encP b).1) : a = b := by
  obtain ⟨ga, ea⟩ := good_of a ha
  obtain ⟨gb, eb⟩ := good_of b hb
  rw [ea, eb] at h
  have h1 := dec_enc ga
  rw [h, dec_enc gb] at h1
  exact (congrArg Prod.fst h1).symm
theorem enc_same (a b : Hd) (ha : (encP a).2 = 0) (hb : (encP b).2 = 0) : ((encP a).1.toList == (encP b).1.toList) = eqHd a b := by
  by_cases h : a = b
  · subst h; rw [(eqHd_iff a a).2 rfl]; simp
  · have h1 : eqHd a b = false := by
      cases e : eqHd a b with
      | false => rfl
      | true => exact absurd ((eqHd_iff a b).1 e) h
    rw [h1]
    apply beq_eq_false_iff_ne.2
    intro e
    apply h
    exact enc_inj a b ha hb (un_inj (by rw [← toList_un, ← toList_un]; exact e))
set_option maxRecDepth 100000 in
set_option maxHeartbeats 1000000 in
theorem unlike_law (a b : Hd) (hsa : a.path.size < 4611686018427387904) (hsb : b.path.size < 4611686018427387904) (w : World) (hE : Env w) (hg : ErrType w) : Calls Tryz.prog 8 #[.agg (hcs a), .agg (hcs b)] w fun e w' => e = .returned (.bool true) ∧ Below w.heap.size w w' := by
  have L0 := (Lies.new w 23 (hcs a)).alloc (.cells (hcs b) 23)
  have M0 : Lies ((w.alloc (.cells (hcs a) 23)).alloc (.cells (hcs b) 23)) (w.heap.size + 1) 23 (hcs b) := by
    have := Lies.new (w.alloc (.cells (hcs a) 23)) 23 (hcs b)
    rwa [show (w.alloc (.cells (hcs a) 23)).heap.size = w.heap.size + 1 by simp] at this
  have B0 := ((Below.refl _ w).alloc (Nat.le_refl _) (.cells (hcs a) 23)).alloc (by simp) (.cells (hcs b) 23)
  have E0 := hE.below B0
  have G0 := hg.below B0
  have HEA : Hid (∀ W, Env W → Calls Tryz.prog 10 #[.agg (hcs a)] W fun e w' => e = .returned (.tuple #[.string (encP a).1, errV (encP a).2]) ∧ Below W.heap.size W w') := fun W hW => encode_p shelf5 a W hsa hW
  have HEB : Hid (∀ W, Env W → Calls Tryz.prog 10 #[.agg (hcs b)] W fun e w' => e = .returned (.tuple #[.string (encP b).1, errV (encP b).2]) ∧ Below W.heap.size W w') := fun W hW => encode_p shelf5 b W hsb hW
  have hia : (Tryz.prog.info? 23).map (·.size) = some (hcs a).size := info_hd
  have hib : (Tryz.prog.info? 23).map (·.size) = some (hcs b).size := info_hd
  have heq := fun W => eq_hd a b W
  have HS : Hid ((encP a).2 = 0 → (encP b).2 = 0 → ((encP a).1.toList == (encP b).1.toList) = eqHd a b) := enc_same a b
  go_enter Tryz.func8, Tryz.ntmps8
  generalize hcs a = CA at *
  generalize hcs b = CB at *
  go_wp2_with (first | (refine wpList_load_row rfl 23 (.tmp 2) rfl w.heap.size rfl 23 CA (0, 0) _ L0 Tryz.underlying23 rfl hia ?_))
  generalize (w.alloc (.cells CA 23)).alloc (.cells CB 23) = W0 at *
  refine (HEA.out _ E0).mono ?_
  rintro e w1 ⟨rfl, b1⟩
  have L1 := L0.below b1
  have M1 := M0.below b1
  have B1 := below_join B0 b1
  have E1 := E0.below b1
  have G1 := G0.below b1
  clear L0 M0 B0 E0 G0 b1 HEA
  go_wp2_with (first | (refine wpList_load_row rfl 23 (.tmp 3) rfl (w.heap.size + 1) rfl 23 CB (0, 0) _ M1 Tryz.underlying23 rfl hib ?_))
  refine (HEB.out _ E1).mono ?_
  rintro e w2 ⟨rfl, b2⟩
  have L2 := L1.below b2
  have M2 := M1.below b2
  have B2 := below_join B1 b2
  have E2 := E1.below b2
  have G2 := G1.below b2
  clear L1 M1 B1 E1 G1 b2 HEB
  by_cases ha : (encP a).2 = 0
  rotate_left
  · rw [errV_some _ ha]
    generalize (encP a).2 = n at *
    generalize errV (encP b).2 = m at *
    generalize (encP a).1 = X at *
    generalize (encP b).1 = Y at *
    clear heq
    go_wp2_with (first | (go_at_call 12; refine (works_p w2 E2 G2).mono ?_; rintro e w3 ⟨rfl, b3⟩))
    go_ret
    exact ⟨rfl, below_join B2 b3⟩
  by_cases hb : (encP b).2 = 0
  rotate_left
  · rw [ha, errV_zero, errV_some _ hb]
    generalize (encP b).2 = n at *
    generalize (encP a).1 = X at *
    generalize (encP b).1 = Y at *
    clear heq
    go_wp2_with (first | (go_at_call 12; refine (works_p w2 E2 G2).mono ?_; rintro e w3 ⟨rfl, b3⟩))
    go_ret
    exact ⟨rfl, below_join B2 b3⟩
  have hs := HS.out ha hb
  rw [ha, hb, errV_zero]
  clear HS ha hb
  generalize (encP a).1 = X at *
  generalize (encP b).1 = Y at *
  generalize eqHd a b = r at *
  have hrr : (r == r) = true := by simp
  go_wp2_with (first
    | (refine wpList_load_row_g rfl 23 (.tmp 2) rfl w.heap.size rfl 23 CA (0, 0) _ L2 Tryz.underlying23 rfl hia ?_)
    | (refine wpList_load_row_g rfl 23 (.tmp 3) rfl (w.heap.size + 1) rfl 23 CB (0, 0) _ M2 Tryz.underlying23 rfl hib ?_)
    | (go_at_call 12; refine (works_p w2 E2 G2).mono ?_; rintro e w3 ⟨rfl, b3⟩))
  go_ret
  exact ⟨rfl, below_join B2 b3⟩
end Go.Proofs.YtolaekngmoacaaaGreatDoor
