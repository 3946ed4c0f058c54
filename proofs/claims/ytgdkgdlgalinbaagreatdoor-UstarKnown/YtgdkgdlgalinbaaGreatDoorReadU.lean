/- The statements' own read: the examples of the chapter on what is read. -/
import Derived.Test.YtgdkgdlgalinbaaGreatDoorKnowM
import Derived.Test.YtgdkgdlgalinbaaGreatDoorWritU
import Derived.Test.YtgdkgdlgalinbaaGreatDoorLawForU
import Derived.Test.YtgdkgdlgalinbaaGreatDoorOfU
import Derived.Deep.RegionHeld3
namespace Go.Proofs.YtgdkgdlgalinbaaGreatDoor
open Go Go.RowKit

def hO1 : Hd := ⟨⟨#[97, 47, 98]⟩, 420, 0, 0, 3, 0, 48, ⟨#[]⟩, ⟨#[]⟩, ⟨#[]⟩, 0, 0⟩
def hO2 : Hd := ⟨⟨#[108]⟩, 511, 0, 0, 0, 0, 50, ⟨#[120]⟩, ⟨#[]⟩, ⟨#[]⟩, 0, 0⟩
/-- Two headers lie in blocks of this call's own. -/
structure RS (w V : World) (b1 b4 : Nat) (C : Array Value) : Prop where
  l1 : Lies V b1 28 C
  l4 : Lies V b4 28 C
  bel : Below w.heap.size w V
  env : Env V
  err : ErrType V
theorem RS.below {w V V2 : World} {b1 b4 : Nat} {C : Array Value} (h : RS w V b1 b4 C) (b : Below V.heap.size V V2) : RS w V2 b1 b4 C := ⟨h.l1.below b, h.l4.below b, below_join h.bel b, h.env.below b, h.err.below b⟩
theorem stored_below (v : World) (Z C : Array Value) : Below v.heap.size v ((v.alloc (.cells Z 28)).setRow v.heap.size C) := below_setRow ((Below.refl _ v).alloc (Nat.le_refl _) _) (Nat.le_refl _) _
set_option maxRecDepth 100000 in
set_option maxHeartbeats 4000000 in
theorem read_p (w : World) (hE : Env w) (hg : ErrType w) : Calls Tryz.prog 5 #[] w fun e w' => e = .returned (.bool true) ∧ Below w.heap.size w w' := by
  obtain ⟨CQ, hCQ⟩ : ∃ C, C = hcs hQ := ⟨_, rfl⟩
  obtain ⟨CZ, hCZ⟩ : ∃ C, C = hcs zeroHd := ⟨_, rfl⟩
  have h_t8 : ∀ W, Calls Tryz.prog 8 #[.string ⟨#[0]⟩, .int .i64 8] W fun e w' => e = .returned (.string (tm 0 8)) ∧ w' = W := fun W => tm_p 0 8 (by decide) W
  have h_t512 : ∀ W, Calls Tryz.prog 8 #[.string ⟨#[0]⟩, .int .i64 512] W fun e w' => e = .returned (.string (tm 0 512)) ∧ w' = W := fun W => tm_p 0 512 (by decide) W
  have HEr : Hid (∀ W, Calls Tryz.prog 10 #[.agg CQ] W fun e w' => e = .returned (.tuple #[.string (bs (encL hQ)), .int .i64 0]) ∧ Below W.heap.size W w') := fun W => by
    have := encode_r hQ (by decide) (by decide) (by decide) (by decide) W
    rw [good_q.enc] at this; rw [hCQ]; exact this
  have HF1 : ∀ W, Calls Tryz.prog 12 #[.string (bs (encL hQ)), .int .i64 100, .string ⟨#[32, 32, 32, 54, 52, 52, 32, 32]⟩] W fun e w' => e = .returned (.string (bs (fq [32, 32, 32, 54, 52, 52, 32, 32]))) ∧ Below W.heap.size W w' := fun W => by
    have := forged_x (bs (encL hQ)) ⟨#[32, 32, 32, 54, 52, 52, 32, 32]⟩ 100 q_size (by decide) W
    rw [un_bs] at this; exact this
  have HF2 : ∀ W, Calls Tryz.prog 12 #[.string (bs (encL hQ)), .int .i64 100, .string (tm 0 8)] W fun e w' => e = .returned (.string (bs (fq (timesL [0] 8)))) ∧ Below W.heap.size W w' := fun W => by
    have := forged_x (bs (encL hQ)) (tm 0 8) 100 q_size (by decide) W
    rw [un_bs, show un (tm 0 8) = timesL [0] 8 by unfold tm; rw [un_bs]; rfl] at this; exact this
  have HF3 : ∀ W, Calls Tryz.prog 12 #[.string (bs (encL hQ)), .int .i64 100, .string ⟨#[48, 48, 48, 48, 54, 52, 56, 0]⟩] W fun e w' => e = .returned (.string (bs (fq [48, 48, 48, 48, 54, 52, 56, 0]))) ∧ Below W.heap.size W w' := fun W => by
    have := forged_x (bs (encL hQ)) ⟨#[48, 48, 48, 48, 54, 52, 56, 0]⟩ 100 q_size (by decide) W
    rw [un_bs] at this; exact this
  have HD1 : ∀ W, Env W → Calls Tryz.prog 11 #[.string (bs (fq [32, 32, 32, 54, 52, 52, 32, 32]))] W fun e w' => e = .returned (.tuple #[.agg CQ, .nilIface]) ∧ Below W.heap.size W w' := fun W hW => by
    have := decode_p shelf5 (bs (fq [32, 32, 32, 54, 52, 52, 32, 32])) W hW
    rw [dec_1] at this; rw [hCQ]; exact this
  have HD2 : ∀ W, Env W → Calls Tryz.prog 11 #[.string (bs (fq (timesL [0] 8)))] W fun e w' => e = .returned (.tuple #[.agg CZ, .iface 46 (.int .i64 6)]) ∧ Below W.heap.size W w' := fun W hW => by
    have := decode_p shelf5 (bs (fq (timesL [0] 8))) W hW
    rw [dec_2] at this; rw [hCZ]; exact this
  have HD3 : ∀ W, Env W → Calls Tryz.prog 11 #[.string (bs (fq [48, 48, 48, 48, 54, 52, 56, 0]))] W fun e w' => e = .returned (.tuple #[.agg CZ, .iface 46 (.int .i64 6)]) ∧ Below W.heap.size W w' := fun W hW => by
    have := decode_p shelf5 (bs (fq [48, 48, 48, 48, 54, 52, 56, 0])) W hW
    rw [dec_3] at this; rw [hCZ]; exact this
  have HD4 : ∀ W, Env W → Calls Tryz.prog 11 #[.string ((bs (encL hQ)).extract 0 156 ++ ⟨#[53]⟩ ++ (bs (encL hQ)).extract 157 512)] W fun e w' => e = .returned (.tuple #[.agg CZ, .iface 46 (.int .i64 7)]) ∧ Below W.heap.size W w' := fun W hW => by
    have := decode_p shelf5 ((bs (encL hQ)).extract 0 156 ++ ⟨#[53]⟩ ++ (bs (encL hQ)).extract 157 512) W hW
    rw [dec_4] at this; rw [hCZ]; exact this
  have HD5 : ∀ W, Env W → Calls Tryz.prog 11 #[.string ((bs (encL hQ)).extract 0 511)] W fun e w' => e = .returned (.tuple #[.agg CZ, .iface 46 (.int .i64 2)]) ∧ Below W.heap.size W w' := fun W hW => by
    have := decode_p shelf5 ((bs (encL hQ)).extract 0 511) W hW
    rw [dec_5] at this; rw [hCZ]; exact this
  have HD6 : ∀ W, Env W → Calls Tryz.prog 11 #[.string (bs (encL hQ) ++ ⟨#[0]⟩)] W fun e w' => e = .returned (.tuple #[.agg CZ, .iface 46 (.int .i64 3)]) ∧ Below W.heap.size W w' := fun W hW => by
    have := decode_p shelf5 (bs (encL hQ) ++ ⟨#[0]⟩) W hW
    rw [dec_6] at this; rw [hCZ]; exact this
  have HD7 : ∀ W, Env W → Calls Tryz.prog 11 #[.string (tm 0 512)] W fun e w' => e = .returned (.tuple #[.agg CZ, .iface 46 (.int .i64 4)]) ∧ Below W.heap.size W w' := fun W hW => by
    have := decode_p shelf5 (tm 0 512) W hW
    rw [dec_7] at this; rw [hCZ]; exact this
  have HD4' : ∀ W, Env W → Calls Tryz.prog 11 #[.string ((bs (encL hQ)).extract 0 156 ++ ⟨#[53]⟩ ++ (bs (encL hQ)).extract 157 512)] W fun e w' => e = .returned (.tuple #[.agg #[.string ⟨#[]⟩, .int .i64 0, .int .i64 0, .int .i64 0, .int .i64 0, .int .i64 0, .int .u8 0, .string ⟨#[]⟩, .string ⟨#[]⟩, .string ⟨#[]⟩, .int .i64 0, .int .i64 0], .iface 46 (.int .i64 7)]) ∧ Below W.heap.size W w' := fun W hW => by
    have := HD4 W hW
    rw [hCZ] at this; exact this
  have hof1 : ∀ W, Calls Tryz.prog 13 #[.agg #[.string ⟨#[97, 47, 98]⟩, .int .i64 2, .int .i64 420, .string ⟨#[97, 98, 99]⟩, .string ⟨#[]⟩]] W fun r w' => r = .returned (.agg (hcs hO1)) ∧ Below W.heap.size W w' := fun W => of_p ⟨⟨#[97, 47, 98]⟩, 2, 420, ⟨#[97, 98, 99]⟩, ⟨#[]⟩⟩ W
  have hof2 : ∀ W, Calls Tryz.prog 13 #[.agg #[.string ⟨#[108]⟩, .int .i64 3, .int .i64 511, .string ⟨#[]⟩, .string ⟨#[120]⟩]] W fun r w' => r = .returned (.agg (hcs hO2)) ∧ Below W.heap.size W w' := fun W => of_p ⟨⟨#[108]⟩, 3, 511, ⟨#[]⟩, ⟨#[120]⟩⟩ W
  obtain ⟨CO1, hCO1⟩ : ∃ C, C = hcs hO1 := ⟨_, rfl⟩
  obtain ⟨CO2, hCO2⟩ : ∃ C, C = hcs hO2 := ⟨_, rfl⟩
  rw [← hCO1] at hof1
  rw [← hCO2] at hof2
  have hi1 : (Tryz.prog.info? 28).map (·.size) = some CO1.size := by rw [hCO1]; exact info_hd
  have ho1 : CO1.all (·.oneCell') = true := by rw [hCO1]; exact hcs_one hO1
  have hz1 : (hcs zeroHd).size = CO1.size := by rw [hCO1]; rfl
  have hi2 : (Tryz.prog.info? 28).map (·.size) = some CO2.size := by rw [hCO2]; exact info_hd
  have ho2 : CO2.all (·.oneCell') = true := by rw [hCO2]; exact hcs_one hO2
  have hz2 : (hcs zeroHd).size = CO2.size := by rw [hCO2]; rfl
  have heq1 : ∀ W, (Op.equalIn 10000 28 (.agg CO1) (.agg #[.string ⟨#[97, 47, 98]⟩, .int .i64 420, .int .i64 0, .int .i64 0, .int .i64 3, .int .i64 0, .int .u8 48, .string ⟨#[]⟩, .string ⟨#[]⟩, .string ⟨#[]⟩, .int .i64 0, .int .i64 0])).run Tryz.prog W = .ok true W := fun W => by
    have := eq_hd hO1 hO1 W
    rw [(eqHd_iff hO1 hO1).2 rfl] at this; rw [hCO1]; exact this
  have heq2 : ∀ W, (Op.equalIn 10000 28 (.agg CO2) (.agg #[.string ⟨#[108]⟩, .int .i64 511, .int .i64 0, .int .i64 0, .int .i64 0, .int .i64 0, .int .u8 50, .string ⟨#[120]⟩, .string ⟨#[]⟩, .string ⟨#[]⟩, .int .i64 0, .int .i64 0])).run Tryz.prog W = .ok true W := fun W => by
    have := eq_hd hO2 hO2 W
    rw [(eqHd_iff hO2 hO2).2 rfl] at this; rw [hCO2]; exact this
  clear hCO1 hCO2
  have hp2 := fun W hW => plain_some 2 (by decide) (by decide) W hW
  have hp3 := fun W hW => plain_some 3 (by decide) (by decide) W hW
  have hp4 := fun W hW => plain_some 4 (by decide) (by decide) W hW
  have hp6 := fun W hW => plain_some 6 (by decide) (by decide) W hW
  have hp7 := fun W hW => plain_some 7 (by decide) (by decide) W hW
  have q0 : (bs (encL hQ)).size = 512 := q_size
  have z5 : (tm 0 512).size = 512 := tm_size 0 512
  have hiQ : (Tryz.prog.info? 28).map (·.size) = some CQ.size := by rw [hCQ]; exact info_hd
  have hoQ : CQ.all (·.oneCell') = true := by rw [hCQ]; exact hcs_one hQ
  have hzQ : (hcs zeroHd).size = CQ.size := by rw [hCQ]; rfl
  have hiZ : (Tryz.prog.info? 28).map (·.size) = some CZ.size := by rw [hCZ]; exact info_hd
  have hoZ : CZ.all (·.oneCell') = true := by rw [hCZ]; exact hcs_one zeroHd
  have hzZ : (hcs zeroHd).size = CZ.size := by rw [hCZ]
  have heq : ∀ W, _ := fun W => eq_hd hQ hQ W
  rw [(eqHd_iff hQ hQ).2 rfl, ← hCQ] at heq
  have HLZ : Hid ((#[.string ⟨#[]⟩, .int .i64 0, .int .i64 0, .int .i64 0, .int .i64 0, .int .i64 0, .int .u8 0, .string ⟨#[]⟩, .string ⟨#[]⟩, .string ⟨#[]⟩, .int .i64 0, .int .i64 0] : Array Value) = hcs zeroHd) := rfl
  have HLQ : Hid ((#[.string ⟨#[97]⟩, .int .i64 420, .int .i64 0, .int .i64 0, .int .i64 0, .int .i64 0, .int .u8 48, .string ⟨#[]⟩, .string ⟨#[]⟩, .string ⟨#[]⟩, .int .i64 0, .int .i64 0] : Array Value) = CQ) := hCQ.symm
  have LA : Lies (w.alloc (.cells CQ 28)) w.heap.size 28 CQ := Lies.new w _ _
  have BA : Below w.heap.size w (w.alloc (.cells CQ 28)) := (Below.refl _ w).alloc (Nat.le_refl _) _
  have EA := hE.below BA
  have GA := hg.below BA
  clear hCQ hCZ
  generalize bs (fq [32, 32, 32, 54, 52, 52, 32, 32]) = F1 at *
  generalize bs (fq (timesL [0] 8)) = F2 at *
  generalize bs (fq [48, 48, 48, 48, 54, 52, 56, 0]) = F3 at *
  generalize bs (encL hQ) = RQ at *
  generalize tm 0 8 = t8 at *
  generalize tm 0 512 = t512 at *
  go_enter Tryz.func5, Tryz.ntmps5
  go_upto_region 2 with fail
  rw [HLQ.out]
  generalize w.alloc (.cells CQ 28) = V0 at *
  go_upto_region 3 with (first
    | (refine wpList_load_row rfl 28 (.tmp 1) rfl w.heap.size rfl 28 CQ (0, 0) _ LA Tryz.underlying28 rfl hiQ ?_)
    | (go_at_call 10; refine (HEr.out _).mono ?_; rintro e v1 ⟨rfl, b1⟩))
  have L1 := LA.below b1
  have B1 := below_join BA b1
  have E1 := EA.below b1
  have G1 := GA.below b1
  clear LA BA EA GA b1 HEr
  go_upto_region 4 with (first
    | (go_at_call 12; with_reducible refine (HF1 _).mono ?_; rintro e v2 ⟨rfl, b2⟩; have L2 := L1.below b2; have B2 := below_join B1 b2; have E2 := E1.below b2; have G2 := G1.below b2)
    | (go_at_call 11; with_reducible refine (HD1 _ E2).mono ?_; rintro e v3 ⟨rfl, b3⟩; have L3 := L2.below b3; have B3 := below_join B2 b3; have E3 := E2.below b3; have G3 := G2.below b3; have hb3 := L3.lt)
    | (refine wpList_store_row rfl 28 (.tmp 4) (.tmp 30) rfl v3.heap.size CQ rfl rfl 28 (hcs zeroHd) (Lies.new v3 _ _) hiQ hzQ hoQ ?_))
  have R4 : RS w ((v3.alloc (.cells #[.string ⟨#[]⟩, .int .i64 0, .int .i64 0, .int .i64 0, .int .i64 0, .int .i64 0, .int .u8 0, .string ⟨#[]⟩, .string ⟨#[]⟩, .string ⟨#[]⟩, .int .i64 0, .int .i64 0] 28)).setRow v3.heap.size CQ) w.heap.size v3.heap.size CQ := by
    have b := stored_below v3 #[.string ⟨#[]⟩, .int .i64 0, .int .i64 0, .int .i64 0, .int .i64 0, .int .i64 0, .int .u8 0, .string ⟨#[]⟩, .string ⟨#[]⟩, .string ⟨#[]⟩, .int .i64 0, .int .i64 0] CQ
    exact ⟨(L3.alloc _).otherRow _ (by omega), (Lies.new v3 _ _).row _, below_join B3 b, E3.below b, G3.below b⟩
  generalize (v3.alloc (.cells _ 28)).setRow v3.heap.size CQ = V4 at *
  generalize v3.heap.size = b4 at *
  clear L1 B1 E1 G1 L2 B2 E2 G2 L3 B3 E3 G3 b2 b3 hb3
  go_upto_region 5 with (first
    | (go_at_call 8; with_reducible refine (h_t8 _).mono ?_; rintro e w' ⟨rfl, rfl⟩)
    | (go_at_call 12; with_reducible refine (HF2 _).mono ?_; rintro e x5 ⟨rfl, c5⟩; have S5 := R4.below c5)
    | (go_at_call 11; with_reducible refine (HD2 _ S5.env).mono ?_; rintro e y5 ⟨rfl, d5⟩; have T5 := S5.below d5)
    | (refine wpList_store_row rfl 28 (.tmp 6) (.tmp 37) rfl y5.heap.size CZ rfl rfl 28 (hcs zeroHd) (Lies.new y5 _ _) hiZ hzZ hoZ ?_))
  have R5 : RS w ((y5.alloc (.cells #[.string ⟨#[]⟩, .int .i64 0, .int .i64 0, .int .i64 0, .int .i64 0, .int .i64 0, .int .u8 0, .string ⟨#[]⟩, .string ⟨#[]⟩, .string ⟨#[]⟩, .int .i64 0, .int .i64 0] 28)).setRow y5.heap.size CZ) w.heap.size b4 CQ := T5.below (stored_below y5 #[.string ⟨#[]⟩, .int .i64 0, .int .i64 0, .int .i64 0, .int .i64 0, .int .i64 0, .int .u8 0, .string ⟨#[]⟩, .string ⟨#[]⟩, .string ⟨#[]⟩, .int .i64 0, .int .i64 0] CZ)
  generalize (y5.alloc (.cells _ 28)).setRow y5.heap.size CZ = V5 at *
  generalize y5.heap.size = g5 at *
  clear R4 T5 d5 S5 c5
  go_upto_region 6 with (first
    | (go_at_call 12; with_reducible refine (HF3 _).mono ?_; rintro e x6 ⟨rfl, c6⟩; have S6 := R5.below c6)
    | (go_at_call 11; with_reducible refine (HD3 _ S6.env).mono ?_; rintro e y6 ⟨rfl, d6⟩; have T6 := S6.below d6)
    | (refine wpList_store_row rfl 28 (.tmp 8) (.tmp 43) rfl y6.heap.size CZ rfl rfl 28 (hcs zeroHd) (Lies.new y6 _ _) hiZ hzZ hoZ ?_))
  have R6 : RS w ((y6.alloc (.cells #[.string ⟨#[]⟩, .int .i64 0, .int .i64 0, .int .i64 0, .int .i64 0, .int .i64 0, .int .u8 0, .string ⟨#[]⟩, .string ⟨#[]⟩, .string ⟨#[]⟩, .int .i64 0, .int .i64 0] 28)).setRow y6.heap.size CZ) w.heap.size b4 CQ := T6.below (stored_below y6 #[.string ⟨#[]⟩, .int .i64 0, .int .i64 0, .int .i64 0, .int .i64 0, .int .i64 0, .int .u8 0, .string ⟨#[]⟩, .string ⟨#[]⟩, .string ⟨#[]⟩, .int .i64 0, .int .i64 0] CZ)
  generalize (y6.alloc (.cells _ 28)).setRow y6.heap.size CZ = V6 at *
  generalize y6.heap.size = g6 at *
  clear R5 T6 d6 S6 c6
  have q157 : (157 : Int) ≤ 512 := by decide
  have z156 : (RQ.extract 0 156).size ≤ 512 := by rw [← un_length, un_extract, List.length_drop, List.length_take, un_length]; omega
  have z157 : (RQ.extract 157 512).size ≤ 512 := by rw [← un_length, un_extract, List.length_drop, List.length_take, un_length]; omega
  go_cut [10, 11] from 45 to 54 (fun _ s11 wx => s11 = .iface 46 (.int .i64 7) ∧ RS w wx w.heap.size b4 CQ)
  case first =>
    refine wp_region_noPanic ?_
    refine wp_region_held_drew (S := fun W => RS w W w.heap.size b4 CQ) (by kernel_rfl) (R6.below (below_drawn (Below.refl _ V6) 1)) (fun h0 => ?_)
    generalize V6.drew = wd at *
    refine wpAnyH_take (i := 0) (v := .string RQ) rfl (by kernel_rfl) (by kernel_rfl) (by kernel_rfl) (fun _ _ _ h => h) (Or.inl ⟨by rfl, fun w hSw => by clear hSw; go_simp⟩) h0 ?_
    try dsimp [Act.put]
    try simp only [List.setIfInBounds_toArray, List.set_cons_succ, List.set_cons_zero]
    refine wpAnyH_take (i := 1) (v := .string (RQ.extract 0 156)) rfl (by kernel_rfl) (by kernel_rfl) (by kernel_rfl) (fun _ _ _ h => h) (Or.inl ⟨by rfl, fun w hSw => by clear hSw; go_simp⟩) h0 ?_
    try dsimp [Act.put]
    try simp only [List.setIfInBounds_toArray, List.set_cons_succ, List.set_cons_zero]
    refine wpAnyH_take (i := 2) (v := .string (RQ.extract 0 156 ++ ⟨#[53]⟩)) rfl (by kernel_rfl) (by kernel_rfl) (by kernel_rfl) (fun _ _ _ h => h) (Or.inl ⟨by rfl, fun w hSw => by clear hSw; go_simp⟩) h0 ?_
    try dsimp [Act.put]
    try simp only [List.setIfInBounds_toArray, List.set_cons_succ, List.set_cons_zero]
    refine wpAnyH_take (i := 3) (v := .string RQ) rfl (by kernel_rfl) (by kernel_rfl) (by kernel_rfl) (fun _ _ _ h => h) (Or.inl ⟨by rfl, fun w hSw => by clear hSw; go_simp⟩) h0 ?_
    try dsimp [Act.put]
    try simp only [List.setIfInBounds_toArray, List.set_cons_succ, List.set_cons_zero]
    refine wpAnyH_take (i := 4) (v := .string (RQ.extract 157 512)) rfl (by kernel_rfl) (by kernel_rfl) (by kernel_rfl) (fun _ _ _ h => h) (Or.inl ⟨by rfl, fun w hSw => by clear hSw; go_simp⟩) h0 ?_
    try dsimp [Act.put]
    try simp only [List.setIfInBounds_toArray, List.set_cons_succ, List.set_cons_zero]
    refine wpAnyH_take (i := 5) (v := (.string (RQ.extract 0 156 ++ ⟨#[53]⟩ ++ RQ.extract 157 512))) rfl (by kernel_rfl) (by kernel_rfl) (by kernel_rfl) (fun _ _ _ h => h) (Or.inl ⟨by rfl, fun w hSw => by clear hSw; go_simp⟩) h0 ?_
    try dsimp [Act.put]
    try simp only [List.setIfInBounds_toArray, List.set_cons_succ, List.set_cons_zero]
    refine wpAnyH_ready (rs := [6, 10]) (by kernel_rfl) (by simp) ?_
    refine AllReadyH.cons rfl ?_ (AllReadyH.cons rfl ?_ AllReadyH.nil)
    · intro K' hK
      rw [if_pos (by rfl)]
      go_simp
      refine (HD4 _ h0.env).mono ?_
      rintro e y7 ⟨rfl, d7⟩
      have T7 := h0.below d7
      refine hK.out _ _ T7 (fun _ => ?_)
      try dsimp [Act.put]
      try simp only [List.setIfInBounds_toArray, List.set_cons_succ, List.set_cons_zero]
      refine wpAnyH_take (i := 7) (v := .tuple #[.agg CZ, .iface 46 (.int .i64 7)]) rfl (by kernel_rfl) (by kernel_rfl) (by kernel_rfl) (fun _ _ _ h => h) (Or.inl ⟨by rfl, fun w hSw => by clear hSw; go_simp⟩) T7 ?_
      try dsimp [Act.put]
      try simp only [List.setIfInBounds_toArray, List.set_cons_succ, List.set_cons_zero]
      refine wpAnyH_take (i := 8) (v := .agg CZ) rfl (by kernel_rfl) (by kernel_rfl) (by kernel_rfl) (fun _ _ _ h => h) (Or.inl ⟨by rfl, fun w hSw => by clear hSw; go_simp⟩) T7 ?_
      try dsimp [Act.put]
      try simp only [List.setIfInBounds_toArray, List.set_cons_succ, List.set_cons_zero]
      refine wpAnyH_take (i := 9) (v := .iface 46 (.int .i64 7)) rfl (by kernel_rfl) (by kernel_rfl) (by kernel_rfl) (fun _ _ _ h => h) (Or.inl ⟨by rfl, fun w hSw => by clear hSw; go_simp⟩) T7 ?_
      try dsimp [Act.put]
      try simp only [List.setIfInBounds_toArray, List.set_cons_succ, List.set_cons_zero]
      refine wpAnyH_ready (rs := [10]) (by kernel_rfl) (by simp) ?_
      refine AllReadyH.cons rfl ?_ AllReadyH.nil
      intro K' hK
      rw [if_pos (by rfl)]
      go_simp
      refine hK.out _ _ (T7.below ((Below.refl _ y7).alloc (Nat.le_refl _) _)) (fun hT8 => ?_)
      try dsimp [Act.put]
      try simp only [List.setIfInBounds_toArray, List.set_cons_succ, List.set_cons_zero]
      refine wpAnyH_ready (rs := [11]) (by kernel_rfl) (by simp) ?_
      refine AllReadyH.cons rfl ?_ AllReadyH.nil
      intro K' hK
      rw [if_pos (by rfl)]
      refine wp_store_row 28 (.tmp 10) (.tmp 53) rfl y7.heap.size CZ rfl rfl 28 (hcs zeroHd) (Lies.new y7 _ _) hiZ hzZ hoZ ?_
      refine hK.out _ _ (T7.below (stored_below y7 (hcs zeroHd) CZ)) (fun hT9 => ?_)
      try dsimp [Act.put]
      try simp only [List.setIfInBounds_toArray, List.set_cons_succ, List.set_cons_zero]
      refine wpAnyH_take (i := 12) (v := .iface 46 (.int .i64 7)) rfl (by kernel_rfl) (by kernel_rfl) (by kernel_rfl) (fun _ _ _ h => h) (Or.inl ⟨by rfl, fun w hSw => by clear hSw; go_simp⟩) hT9 ?_
      try dsimp [Act.put]
      try simp only [List.setIfInBounds_toArray, List.set_cons_succ, List.set_cons_zero]
      refine wpAnyH_done (by kernel_rfl) ?_ _
      refine NoPanic.normal ?_
      go_wp2
      go_meet
      exact ⟨rfl, hT9⟩
    · intro K' hK
      rw [if_pos (by rfl)]
      go_simp
      have T6 : RS w (wd.alloc (.cells (hcs zeroHd) 28)) w.heap.size b4 CQ := h0.below ((Below.refl _ wd).alloc (Nat.le_refl _) _)
      refine hK.out _ _ T6 (fun _ => ?_)
      try dsimp [Act.put]
      try simp only [List.setIfInBounds_toArray, List.set_cons_succ, List.set_cons_zero]
      refine wpAnyH_ready (rs := [6]) (by kernel_rfl) (by simp) ?_
      refine AllReadyH.cons rfl ?_ AllReadyH.nil
      intro K' hK
      rw [if_pos (by rfl)]
      go_simp
      refine (HD4 _ T6.env).mono ?_
      rintro e y7 ⟨rfl, d7⟩
      have T7 := T6.below d7
      have LB : Lies y7 wd.heap.size 28 (hcs zeroHd) := (Lies.new wd _ _).below d7
      have hbd := h0.bel.size
      have hl1 := h0.l1.lt
      have hl4 := h0.l4.lt
      refine hK.out _ _ T7 (fun _ => ?_)
      try dsimp [Act.put]
      try simp only [List.setIfInBounds_toArray, List.set_cons_succ, List.set_cons_zero]
      refine wpAnyH_take (i := 7) (v := .tuple #[.agg CZ, .iface 46 (.int .i64 7)]) rfl (by kernel_rfl) (by kernel_rfl) (by kernel_rfl) (fun _ _ _ h => h) (Or.inl ⟨by rfl, fun w hSw => by clear hSw; go_simp⟩) T7 ?_
      try dsimp [Act.put]
      try simp only [List.setIfInBounds_toArray, List.set_cons_succ, List.set_cons_zero]
      refine wpAnyH_take (i := 8) (v := .agg CZ) rfl (by kernel_rfl) (by kernel_rfl) (by kernel_rfl) (fun _ _ _ h => h) (Or.inl ⟨by rfl, fun w hSw => by clear hSw; go_simp⟩) T7 ?_
      try dsimp [Act.put]
      try simp only [List.setIfInBounds_toArray, List.set_cons_succ, List.set_cons_zero]
      refine wpAnyH_take (i := 9) (v := .iface 46 (.int .i64 7)) rfl (by kernel_rfl) (by kernel_rfl) (by kernel_rfl) (fun _ _ _ h => h) (Or.inl ⟨by rfl, fun w hSw => by clear hSw; go_simp⟩) T7 ?_
      try dsimp [Act.put]
      try simp only [List.setIfInBounds_toArray, List.set_cons_succ, List.set_cons_zero]
      have bT := below_setRow T7.bel (show w.heap.size ≤ wd.heap.size by omega) CZ
      have T9 : RS w (y7.setRow wd.heap.size CZ) w.heap.size b4 CQ := ⟨T7.l1.otherRow _ (by omega), T7.l4.otherRow _ (by omega), bT, hE.below bT, hg.below bT⟩
      refine wpAnyH_ready (rs := [11]) (by kernel_rfl) (by simp) ?_
      refine AllReadyH.cons rfl ?_ AllReadyH.nil
      intro K' hK
      rw [if_pos (by rfl)]
      refine wp_store_row 28 (.tmp 10) (.tmp 53) rfl wd.heap.size CZ rfl rfl 28 (hcs zeroHd) LB hiZ hzZ hoZ ?_
      refine hK.out _ _ T9 (fun hT9 => ?_)
      try dsimp [Act.put]
      try simp only [List.setIfInBounds_toArray, List.set_cons_succ, List.set_cons_zero]
      refine wpAnyH_take (i := 12) (v := .iface 46 (.int .i64 7)) rfl (by kernel_rfl) (by kernel_rfl) (by kernel_rfl) (fun _ _ _ h => h) (Or.inl ⟨by rfl, fun w hSw => by clear hSw; go_simp⟩) hT9 ?_
      try dsimp [Act.put]
      try simp only [List.setIfInBounds_toArray, List.set_cons_succ, List.set_cons_zero]
      refine wpAnyH_done (by kernel_rfl) ?_ _
      refine NoPanic.normal ?_
      go_wp2
      go_meet
      exact ⟨rfl, hT9⟩
  case rest =>
    obtain ⟨rfl, R7⟩ := hcut
    clear R6
    go_upto_region 8 with (first
      | (go_at_call 11; with_reducible refine (HD5 _ R7.env).mono ?_; rintro e y8 ⟨rfl, d8⟩; have T8 := R7.below d8)
      | (refine wpList_store_row rfl 28 (.tmp 12) (.tmp 59) rfl y8.heap.size CZ rfl rfl 28 (hcs zeroHd) (Lies.new y8 _ _) hiZ hzZ hoZ ?_))
    have R8 : RS w ((y8.alloc (.cells #[.string ⟨#[]⟩, .int .i64 0, .int .i64 0, .int .i64 0, .int .i64 0, .int .i64 0, .int .u8 0, .string ⟨#[]⟩, .string ⟨#[]⟩, .string ⟨#[]⟩, .int .i64 0, .int .i64 0] 28)).setRow y8.heap.size CZ) w.heap.size b4 CQ := T8.below (stored_below y8 #[.string ⟨#[]⟩, .int .i64 0, .int .i64 0, .int .i64 0, .int .i64 0, .int .i64 0, .int .u8 0, .string ⟨#[]⟩, .string ⟨#[]⟩, .string ⟨#[]⟩, .int .i64 0, .int .i64 0] CZ)
    generalize (y8.alloc (.cells _ 28)).setRow y8.heap.size CZ = V8 at *
    generalize y8.heap.size = g8 at *
    clear R7 T8 d8
    go_upto_region 9 with (first
      | (go_at_call 11; with_reducible refine (HD6 _ R8.env).mono ?_; rintro e y9 ⟨rfl, d9⟩; have T9 := R8.below d9)
      | (refine wpList_store_row rfl 28 (.tmp 14) (.tmp 65) rfl y9.heap.size CZ rfl rfl 28 (hcs zeroHd) (Lies.new y9 _ _) hiZ hzZ hoZ ?_))
    have R9 : RS w ((y9.alloc (.cells #[.string ⟨#[]⟩, .int .i64 0, .int .i64 0, .int .i64 0, .int .i64 0, .int .i64 0, .int .u8 0, .string ⟨#[]⟩, .string ⟨#[]⟩, .string ⟨#[]⟩, .int .i64 0, .int .i64 0] 28)).setRow y9.heap.size CZ) w.heap.size b4 CQ := T9.below (stored_below y9 #[.string ⟨#[]⟩, .int .i64 0, .int .i64 0, .int .i64 0, .int .i64 0, .int .i64 0, .int .u8 0, .string ⟨#[]⟩, .string ⟨#[]⟩, .string ⟨#[]⟩, .int .i64 0, .int .i64 0] CZ)
    generalize (y9.alloc (.cells _ 28)).setRow y9.heap.size CZ = V9 at *
    generalize y9.heap.size = g9 at *
    clear R8 T9 d9
    go_upto_region 10 with (first
      | (go_at_call 8; with_reducible refine (h_t512 _).mono ?_; rintro e w' ⟨rfl, rfl⟩)
      | (go_at_call 11; with_reducible refine (HD7 _ R9.env).mono ?_; rintro e y10 ⟨rfl, d10⟩; have T10 := R9.below d10)
      | (refine wpList_store_row rfl 28 (.tmp 16) (.tmp 70) rfl y10.heap.size CZ rfl rfl 28 (hcs zeroHd) (Lies.new y10 _ _) hiZ hzZ hoZ ?_))
    have R10 : RS w ((y10.alloc (.cells #[.string ⟨#[]⟩, .int .i64 0, .int .i64 0, .int .i64 0, .int .i64 0, .int .i64 0, .int .u8 0, .string ⟨#[]⟩, .string ⟨#[]⟩, .string ⟨#[]⟩, .int .i64 0, .int .i64 0] 28)).setRow y10.heap.size CZ) w.heap.size b4 CQ := T10.below (stored_below y10 #[.string ⟨#[]⟩, .int .i64 0, .int .i64 0, .int .i64 0, .int .i64 0, .int .i64 0, .int .u8 0, .string ⟨#[]⟩, .string ⟨#[]⟩, .string ⟨#[]⟩, .int .i64 0, .int .i64 0] CZ)
    generalize (y10.alloc (.cells _ 28)).setRow y10.heap.size CZ = V10 at *
    generalize y10.heap.size = g10 at *
    clear R9 T10 d10
    go_upto_region 12 with (first
      | (refine wpList_load_row_g rfl 28 (.tmp 4) rfl b4 rfl 28 CQ (0, 0) _ R10.l4 Tryz.underlying28 rfl hiQ ?_)
      | (refine wpList_load_row_g rfl 28 (.tmp 1) rfl w.heap.size rfl 28 CQ (0, 0) _ R10.l1 Tryz.underlying28 rfl hiQ ?_)
      | (go_at_call 9; with_reducible refine (hp6 _ R10.err).mono ?_; rintro e v11 ⟨rfl, b11⟩; have R11 := R10.below b11)
      | (go_at_call 9; with_reducible refine (hp6 _ R11.err).mono ?_; rintro e v12 ⟨rfl, b12⟩; have R12 := R11.below b12)
      | (go_at_call 9; with_reducible refine (hp7 _ R12.err).mono ?_; rintro e v13 ⟨rfl, b13⟩; have R13 := R12.below b13))
    clear R10 R11 R12
    go_upto_region 14 with (first
      | (go_at_call 9; with_reducible refine (hp2 _ R13.err).mono ?_; rintro e v14 ⟨rfl, b14⟩; have R14 := R13.below b14)
      | (go_at_call 9; with_reducible refine (hp3 _ R14.err).mono ?_; rintro e v15 ⟨rfl, b15⟩; have R15 := R14.below b15)
      | (go_at_call 9; with_reducible refine (hp4 _ R15.err).mono ?_; rintro e v16 ⟨rfl, b16⟩; have R16 := R15.below b16))
    clear R13 R14 R15
    go_upto_region 15 with (first
      | (go_at_call 13; with_reducible refine (hof1 _).mono ?_; rintro e v17 ⟨rfl, b17⟩; have R17 := R16.below b17)
      | (refine wpList_store_row rfl 28 (.tmp 18) (.tmp 108) rfl v17.heap.size CO1 rfl rfl 28 (hcs zeroHd) (Lies.new v17 _ _) hi1 hz1 ho1 ?_))
    have R18 : RS w ((v17.alloc (.cells #[.string ⟨#[]⟩, .int .i64 0, .int .i64 0, .int .i64 0, .int .i64 0, .int .i64 0, .int .u8 0, .string ⟨#[]⟩, .string ⟨#[]⟩, .string ⟨#[]⟩, .int .i64 0, .int .i64 0] 28)).setRow v17.heap.size CO1) w.heap.size b4 CQ := R17.below (stored_below v17 #[.string ⟨#[]⟩, .int .i64 0, .int .i64 0, .int .i64 0, .int .i64 0, .int .i64 0, .int .u8 0, .string ⟨#[]⟩, .string ⟨#[]⟩, .string ⟨#[]⟩, .int .i64 0, .int .i64 0] CO1)
    have L18 : Lies ((v17.alloc (.cells #[.string ⟨#[]⟩, .int .i64 0, .int .i64 0, .int .i64 0, .int .i64 0, .int .i64 0, .int .u8 0, .string ⟨#[]⟩, .string ⟨#[]⟩, .string ⟨#[]⟩, .int .i64 0, .int .i64 0] 28)).setRow v17.heap.size CO1) v17.heap.size 28 CO1 := (Lies.new v17 _ _).row _
    generalize (v17.alloc (.cells _ 28)).setRow v17.heap.size CO1 = V18 at *
    generalize v17.heap.size = g18 at *
    clear R16 R17 b17
    go_upto_region 16 with (first
      | (go_at_call 13; with_reducible refine (hof2 _).mono ?_; rintro e v19 ⟨rfl, b19⟩; have R19 := R18.below b19; have L19 := L18.below b19; have hb19 := L19.lt)
      | (refine wpList_store_row rfl 28 (.tmp 19) (.tmp 110) rfl v19.heap.size CO2 rfl rfl 28 (hcs zeroHd) (Lies.new v19 _ _) hi2 hz2 ho2 ?_))
    have R20 : RS w ((v19.alloc (.cells #[.string ⟨#[]⟩, .int .i64 0, .int .i64 0, .int .i64 0, .int .i64 0, .int .i64 0, .int .u8 0, .string ⟨#[]⟩, .string ⟨#[]⟩, .string ⟨#[]⟩, .int .i64 0, .int .i64 0] 28)).setRow v19.heap.size CO2) w.heap.size b4 CQ := R19.below (stored_below v19 #[.string ⟨#[]⟩, .int .i64 0, .int .i64 0, .int .i64 0, .int .i64 0, .int .i64 0, .int .u8 0, .string ⟨#[]⟩, .string ⟨#[]⟩, .string ⟨#[]⟩, .int .i64 0, .int .i64 0] CO2)
    have L20 : Lies ((v19.alloc (.cells #[.string ⟨#[]⟩, .int .i64 0, .int .i64 0, .int .i64 0, .int .i64 0, .int .i64 0, .int .u8 0, .string ⟨#[]⟩, .string ⟨#[]⟩, .string ⟨#[]⟩, .int .i64 0, .int .i64 0] 28)).setRow v19.heap.size CO2) g18 28 CO1 := (L19.alloc _).otherRow _ (by omega)
    have M20 : Lies ((v19.alloc (.cells #[.string ⟨#[]⟩, .int .i64 0, .int .i64 0, .int .i64 0, .int .i64 0, .int .i64 0, .int .u8 0, .string ⟨#[]⟩, .string ⟨#[]⟩, .string ⟨#[]⟩, .int .i64 0, .int .i64 0] 28)).setRow v19.heap.size CO2) v19.heap.size 28 CO2 := (Lies.new v19 _ _).row _
    generalize (v19.alloc (.cells _ 28)).setRow v19.heap.size CO2 = V20 at *
    generalize v19.heap.size = g19 at *
    clear R18 R19 L18 L19 b19 hb19
    go_wp2_with (first
      | (refine wpList_load_row rfl 28 (.tmp 18) rfl g18 rfl 28 CO1 (0, 0) _ L20 Tryz.underlying28 rfl hi1 ?_)
      | (refine wpList_load_row_g rfl 28 (.tmp 19) rfl g19 rfl 28 CO2 (0, 0) _ M20 Tryz.underlying28 rfl hi2 ?_))
    go_ret
    exact ⟨rfl, R20.bel⟩
end Go.Proofs.YtgdkgdlgalinbaaGreatDoor
