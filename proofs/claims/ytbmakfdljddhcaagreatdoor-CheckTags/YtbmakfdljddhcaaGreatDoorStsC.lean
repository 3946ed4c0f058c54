/- Package check's looks at the statement's own right step: fields, texts, pairs, counts, words, documents. -/
import Derived.Test.YtbmakfdljddhcaaGreatDoorStrC
import Derived.Deep.RegionHeld3
namespace Go.Proofs.YtbmakfdljddhcaaGreatDoor
open Go Go.RowKit

theorem one3_p (W : World) (g : Nat) (hg : g = W.heap.size) : Calls Tryz.prog 70 #[.int .i64 2, .slice (some ⟨g, 0, none⟩) 3 3] (W.alloc (.cells #[.int .i64 1, .int .i64 2, .int .i64 3] 38)) fun e w' => e = .returned (.bool true) ∧ w' = W.alloc (.cells #[.int .i64 1, .int .i64 2, .int .i64 3] 38) := by
  subst hg
  exact one_p 2 [1, 2, 3] W.heap.size 3 _ (ints_new W [1, 2, 3] 38) (by decide)
theorem one2_p (W : World) (g : Nat) (hg : g = W.heap.size) : Calls Tryz.prog 70 #[.int .i64 2, .slice (some ⟨g, 0, none⟩) 2 2] (W.alloc (.cells #[.int .i64 13, .int .i64 14] 38)) fun e w' => e = .returned (.bool false) ∧ w' = W.alloc (.cells #[.int .i64 13, .int .i64 14] 38) := by
  subst hg
  exact one_p 2 [13, 14] W.heap.size 2 _ (ints_new W [13, 14] 38) (by decide)
set_option maxHeartbeats 8000000 in
set_option maxRecDepth 100000 in
theorem fields_p (ln es : Int) (b : Nat) (w : World) : Calls Tryz.prog 54 #[plcV ln es, stpV b] w fun e w' => e = .returned (.tuple #[]) ∧ Below w.heap.size w w' := by
  have hrf := fun no W => refuseIf_f ln es no W
  have h3 := one3_p
  have h2 := one2_p
  have hS := PS.new w ln es b
  unfold plcV stpV stpC at *
  go_enter Tryz.func54, Tryz.ntmps54
  go_upto_region 1 with fail
  generalize (w.alloc (.cells #[.int .i64 ln, .int .u8 es] 94)).alloc (.cells #[.int .i64 2, .int .i64 2, .string ⟨#[]⟩, .string ⟨#[]⟩, .bool false, .slice (some ⟨b, 0, none⟩) 1 1, .bool false, .slice none 0 0, .slice none 0 0, .slice none 0 0] 45) = W0 at *
  obtain ⟨c0, c1, c2, c3, c4, c5, c6, c7, c8, c9, c10⟩ := hS.cells
  go_upto_region 5 with (first | (go_at_call 70; with_reducible refine (h3 _ _ (by simp)).mono ?_; rintro e wn ⟨rfl, hw⟩; replace hw := hw.symm; subst hw; have hSn := hS.alloc (.cells #[.int .i64 1, .int .i64 2, .int .i64 3] 38); clear c0 c1 c2 c3 c4 c5 c6 c7 c8 c9 c10 hS; have hS := hSn; obtain ⟨c0, c1, c2, c3, c4, c5, c6, c7, c8, c9, c10⟩ := hS.cells; clear hSn) | (go_at_call 70; with_reducible refine (h2 _ _ (by simp)).mono ?_; rintro e wn ⟨rfl, hw⟩; replace hw := hw.symm; subst hw; have hSn := hS.alloc (.cells #[.int .i64 13, .int .i64 14] 38); clear c0 c1 c2 c3 c4 c5 c6 c7 c8 c9 c10 hS; have hS := hSn; obtain ⟨c0, c1, c2, c3, c4, c5, c6, c7, c8, c9, c10⟩ := hS.cells; clear hSn) | (go_at_call 42; with_reducible refine (hrf _ _).mono ?_; rintro e wn ⟨rfl, bn⟩; have hSn := hS.below bn; clear c0 c1 c2 c3 c4 c5 c6 c7 c8 c9 c10 hS; have hS := hSn; obtain ⟨c0, c1, c2, c3, c4, c5, c6, c7, c8, c9, c10⟩ := hS.cells; clear hSn bn))
  clear c0 c1 c2 c3 c4 c5 c6 c7 c8 c9 c10
  refine wp_region_noPanic ?_
  refine wp_region_held_drew (S := fun W => PS w W ln es b) (by kernel_rfl) hS.drew (fun h0 => ?_)
  refine wpAnyH_take (i := 0) (v := .agg #[.int .i64 ln, .int .u8 es]) rfl (by kernel_rfl) (by kernel_rfl) (by kernel_rfl) (fun _ _ _ h => h) (Or.inl ⟨by rfl, fun W hSw => by obtain ⟨c0, c1, c2, c3, c4, c5, c6, c7, c8, c9, c10⟩ := PS.cells hSw; clear hSw; go_simp⟩) h0 ?_
  try dsimp [Act.put]
  try simp only [List.setIfInBounds_toArray, List.set_cons_succ, List.set_cons_zero]
  refine wpAnyH_take (i := 1) (v := .pointer (some ⟨w.heap.size + 1, 8, none⟩)) rfl (by kernel_rfl) (by kernel_rfl) (by kernel_rfl) (fun _ _ _ h => h) (Or.inl ⟨by rfl, fun W hSw => by obtain ⟨c0, c1, c2, c3, c4, c5, c6, c7, c8, c9, c10⟩ := PS.cells hSw; clear hSw; go_simp⟩) h0 ?_
  try dsimp [Act.put]
  try simp only [List.setIfInBounds_toArray, List.set_cons_succ, List.set_cons_zero]
  refine wpAnyH_take (i := 2) (v := .slice none 0 0) rfl (by kernel_rfl) (by kernel_rfl) (by kernel_rfl) (fun _ _ _ h => h) (Or.inl ⟨by rfl, fun W hSw => by obtain ⟨c0, c1, c2, c3, c4, c5, c6, c7, c8, c9, c10⟩ := PS.cells hSw; clear hSw; go_simp⟩) h0 ?_
  try dsimp [Act.put]
  try simp only [List.setIfInBounds_toArray, List.set_cons_succ, List.set_cons_zero]
  refine wpAnyH_take (i := 3) (v := .int .i64 0) rfl (by kernel_rfl) (by kernel_rfl) (by kernel_rfl) (fun _ _ _ h => h) (Or.inl ⟨by rfl, fun W hSw => by obtain ⟨c0, c1, c2, c3, c4, c5, c6, c7, c8, c9, c10⟩ := PS.cells hSw; clear hSw; go_simp⟩) h0 ?_
  try dsimp [Act.put]
  try simp only [List.setIfInBounds_toArray, List.set_cons_succ, List.set_cons_zero]
  refine wpAnyH_take (i := 4) (v := .bool false) rfl (by kernel_rfl) (by kernel_rfl) (by kernel_rfl) (fun _ _ _ h => h) (Or.inl ⟨by rfl, fun W hSw => by obtain ⟨c0, c1, c2, c3, c4, c5, c6, c7, c8, c9, c10⟩ := PS.cells hSw; clear hSw; go_simp⟩) h0 ?_
  try dsimp [Act.put]
  try simp only [List.setIfInBounds_toArray, List.set_cons_succ, List.set_cons_zero]
  refine wpAnyH_take (i := 5) (v := .bool false) rfl (by kernel_rfl) (by kernel_rfl) (by kernel_rfl) (fun _ _ _ h => h) (Or.inl ⟨by rfl, fun W hSw => by obtain ⟨c0, c1, c2, c3, c4, c5, c6, c7, c8, c9, c10⟩ := PS.cells hSw; clear hSw; go_simp⟩) h0 ?_
  try dsimp [Act.put]
  try simp only [List.setIfInBounds_toArray, List.set_cons_succ, List.set_cons_zero]
  refine wpAnyH_take (i := 6) (v := undef) rfl (by kernel_rfl) (by kernel_rfl) (by kernel_rfl) (fun _ _ _ h => h) (Or.inr ⟨by rfl, rfl⟩) h0 ?_
  try dsimp [Act.put]
  try simp only [List.setIfInBounds_toArray, List.set_cons_succ, List.set_cons_zero]
  refine wpAnyH_take (i := 7) (v := undef) rfl (by kernel_rfl) (by kernel_rfl) (by kernel_rfl) (fun _ _ _ h => h) (Or.inr ⟨by rfl, rfl⟩) h0 ?_
  try dsimp [Act.put]
  try simp only [List.setIfInBounds_toArray, List.set_cons_succ, List.set_cons_zero]
  refine wpAnyH_take (i := 8) (v := undef) rfl (by kernel_rfl) (by kernel_rfl) (by kernel_rfl) (fun _ _ _ h => h) (Or.inr ⟨by rfl, rfl⟩) h0 ?_
  try dsimp [Act.put]
  try simp only [List.setIfInBounds_toArray, List.set_cons_succ, List.set_cons_zero]
  refine wpAnyH_take (i := 9) (v := undef) rfl (by kernel_rfl) (by kernel_rfl) (by kernel_rfl) (fun _ _ _ h => h) (Or.inr ⟨by rfl, rfl⟩) h0 ?_
  try dsimp [Act.put]
  try simp only [List.setIfInBounds_toArray, List.set_cons_succ, List.set_cons_zero]
  refine wpAnyH_take (i := 10) (v := undef) rfl (by kernel_rfl) (by kernel_rfl) (by kernel_rfl) (fun _ _ _ h => h) (Or.inr ⟨by rfl, rfl⟩) h0 ?_
  try dsimp [Act.put]
  try simp only [List.setIfInBounds_toArray, List.set_cons_succ, List.set_cons_zero]
  refine wpAnyH_take (i := 11) (v := .bool false) rfl (by kernel_rfl) (by kernel_rfl) (by kernel_rfl) (fun _ _ _ h => h) (Or.inl ⟨by rfl, fun W hSw => by obtain ⟨c0, c1, c2, c3, c4, c5, c6, c7, c8, c9, c10⟩ := PS.cells hSw; clear hSw; go_simp⟩) h0 ?_
  try dsimp [Act.put]
  try simp only [List.setIfInBounds_toArray, List.set_cons_succ, List.set_cons_zero]
  refine wpAnyH_ready (rs := [12]) (by kernel_rfl) (by simp) ?_
  refine AllReadyH.cons rfl ?_ AllReadyH.nil
  intro K' hK
  rw [if_pos (by rfl)]
  go_wp2_with fail
  refine (hrf _ _).mono ?_
  rintro e wn ⟨rfl, bn⟩
  have hSn := PS.below h0 bn
  go_wp2_with fail
  refine hK.out _ _ hSn (fun h0 => ?_)
  clear hK
  try dsimp [Act.put]
  try simp only [List.setIfInBounds_toArray, List.set_cons_succ, List.set_cons_zero]
  refine wpAnyH_done (by kernel_rfl) ?_ _
  refine NoPanic.normal ?_
  clear hS h0 bn
  have hS := hSn
  clear hSn
  obtain ⟨c0, c1, c2, c3, c4, c5, c6, c7, c8, c9, c10⟩ := hS.cells
  go_upto_region 7 with (go_at_call 42; with_reducible refine (hrf _ _).mono ?_; rintro e wn ⟨rfl, bn⟩; have hSn := hS.below bn; clear c0 c1 c2 c3 c4 c5 c6 c7 c8 c9 c10 hS; have hS := hSn; obtain ⟨c0, c1, c2, c3, c4, c5, c6, c7, c8, c9, c10⟩ := hS.cells; clear hSn bn)
  clear c0 c1 c2 c3 c4 c5 c6 c7 c8 c9 c10
  refine wp_region_noPanic ?_
  refine wp_region_held_drew (S := fun W => PS w W ln es b) (by kernel_rfl) hS.drew (fun h0 => ?_)
  refine wpAnyH_take (i := 0) (v := .agg #[.int .i64 ln, .int .u8 es]) rfl (by kernel_rfl) (by kernel_rfl) (by kernel_rfl) (fun _ _ _ h => h) (Or.inl ⟨by rfl, fun W hSw => by obtain ⟨c0, c1, c2, c3, c4, c5, c6, c7, c8, c9, c10⟩ := PS.cells hSw; clear hSw; go_simp⟩) h0 ?_
  try dsimp [Act.put]
  try simp only [List.setIfInBounds_toArray, List.set_cons_succ, List.set_cons_zero]
  refine wpAnyH_take (i := 1) (v := .pointer (some ⟨w.heap.size + 1, 6, none⟩)) rfl (by kernel_rfl) (by kernel_rfl) (by kernel_rfl) (fun _ _ _ h => h) (Or.inl ⟨by rfl, fun W hSw => by obtain ⟨c0, c1, c2, c3, c4, c5, c6, c7, c8, c9, c10⟩ := PS.cells hSw; clear hSw; go_simp⟩) h0 ?_
  try dsimp [Act.put]
  try simp only [List.setIfInBounds_toArray, List.set_cons_succ, List.set_cons_zero]
  refine wpAnyH_take (i := 2) (v := .bool false) rfl (by kernel_rfl) (by kernel_rfl) (by kernel_rfl) (fun _ _ _ h => h) (Or.inl ⟨by rfl, fun W hSw => by obtain ⟨c0, c1, c2, c3, c4, c5, c6, c7, c8, c9, c10⟩ := PS.cells hSw; clear hSw; go_simp⟩) h0 ?_
  try dsimp [Act.put]
  try simp only [List.setIfInBounds_toArray, List.set_cons_succ, List.set_cons_zero]
  refine wpAnyH_take (i := 3) (v := .bool false) rfl (by kernel_rfl) (by kernel_rfl) (by kernel_rfl) (fun _ _ _ h => h) (Or.inl ⟨by rfl, fun W hSw => by obtain ⟨c0, c1, c2, c3, c4, c5, c6, c7, c8, c9, c10⟩ := PS.cells hSw; clear hSw; go_simp⟩) h0 ?_
  try dsimp [Act.put]
  try simp only [List.setIfInBounds_toArray, List.set_cons_succ, List.set_cons_zero]
  refine wpAnyH_take (i := 4) (v := undef) rfl (by kernel_rfl) (by kernel_rfl) (by kernel_rfl) (fun _ _ _ h => h) (Or.inr ⟨by rfl, rfl⟩) h0 ?_
  try dsimp [Act.put]
  try simp only [List.setIfInBounds_toArray, List.set_cons_succ, List.set_cons_zero]
  refine wpAnyH_take (i := 5) (v := undef) rfl (by kernel_rfl) (by kernel_rfl) (by kernel_rfl) (fun _ _ _ h => h) (Or.inr ⟨by rfl, rfl⟩) h0 ?_
  try dsimp [Act.put]
  try simp only [List.setIfInBounds_toArray, List.set_cons_succ, List.set_cons_zero]
  refine wpAnyH_take (i := 6) (v := undef) rfl (by kernel_rfl) (by kernel_rfl) (by kernel_rfl) (fun _ _ _ h => h) (Or.inr ⟨by rfl, rfl⟩) h0 ?_
  try dsimp [Act.put]
  try simp only [List.setIfInBounds_toArray, List.set_cons_succ, List.set_cons_zero]
  refine wpAnyH_take (i := 7) (v := undef) rfl (by kernel_rfl) (by kernel_rfl) (by kernel_rfl) (fun _ _ _ h => h) (Or.inr ⟨by rfl, rfl⟩) h0 ?_
  try dsimp [Act.put]
  try simp only [List.setIfInBounds_toArray, List.set_cons_succ, List.set_cons_zero]
  refine wpAnyH_take (i := 8) (v := undef) rfl (by kernel_rfl) (by kernel_rfl) (by kernel_rfl) (fun _ _ _ h => h) (Or.inr ⟨by rfl, rfl⟩) h0 ?_
  try dsimp [Act.put]
  try simp only [List.setIfInBounds_toArray, List.set_cons_succ, List.set_cons_zero]
  refine wpAnyH_take (i := 9) (v := undef) rfl (by kernel_rfl) (by kernel_rfl) (by kernel_rfl) (fun _ _ _ h => h) (Or.inr ⟨by rfl, rfl⟩) h0 ?_
  try dsimp [Act.put]
  try simp only [List.setIfInBounds_toArray, List.set_cons_succ, List.set_cons_zero]
  refine wpAnyH_take (i := 10) (v := undef) rfl (by kernel_rfl) (by kernel_rfl) (by kernel_rfl) (fun _ _ _ h => h) (Or.inr ⟨by rfl, rfl⟩) h0 ?_
  try dsimp [Act.put]
  try simp only [List.setIfInBounds_toArray, List.set_cons_succ, List.set_cons_zero]
  refine wpAnyH_take (i := 11) (v := undef) rfl (by kernel_rfl) (by kernel_rfl) (by kernel_rfl) (fun _ _ _ h => h) (Or.inr ⟨by rfl, rfl⟩) h0 ?_
  try dsimp [Act.put]
  try simp only [List.setIfInBounds_toArray, List.set_cons_succ, List.set_cons_zero]
  refine wpAnyH_take (i := 12) (v := undef) rfl (by kernel_rfl) (by kernel_rfl) (by kernel_rfl) (fun _ _ _ h => h) (Or.inr ⟨by rfl, rfl⟩) h0 ?_
  try dsimp [Act.put]
  try simp only [List.setIfInBounds_toArray, List.set_cons_succ, List.set_cons_zero]
  refine wpAnyH_take (i := 13) (v := undef) rfl (by kernel_rfl) (by kernel_rfl) (by kernel_rfl) (fun _ _ _ h => h) (Or.inr ⟨by rfl, rfl⟩) h0 ?_
  try dsimp [Act.put]
  try simp only [List.setIfInBounds_toArray, List.set_cons_succ, List.set_cons_zero]
  refine wpAnyH_take (i := 14) (v := .bool false) rfl (by kernel_rfl) (by kernel_rfl) (by kernel_rfl) (fun _ _ _ h => h) (Or.inl ⟨by rfl, fun W hSw => by obtain ⟨c0, c1, c2, c3, c4, c5, c6, c7, c8, c9, c10⟩ := PS.cells hSw; clear hSw; go_simp⟩) h0 ?_
  try dsimp [Act.put]
  try simp only [List.setIfInBounds_toArray, List.set_cons_succ, List.set_cons_zero]
  refine wpAnyH_ready (rs := [15]) (by kernel_rfl) (by simp) ?_
  refine AllReadyH.cons rfl ?_ AllReadyH.nil
  intro K' hK
  rw [if_pos (by rfl)]
  go_wp2_with fail
  refine (hrf _ _).mono ?_
  rintro e wn ⟨rfl, bn⟩
  have hSn := PS.below h0 bn
  go_wp2_with fail
  refine hK.out _ _ hSn (fun h0 => ?_)
  clear hK
  try dsimp [Act.put]
  try simp only [List.setIfInBounds_toArray, List.set_cons_succ, List.set_cons_zero]
  refine wpAnyH_done (by kernel_rfl) ?_ _
  refine NoPanic.normal ?_
  clear hS h0 bn
  have hS := hSn
  clear hSn
  go_wp2
  go_end0
  exact ⟨rfl, hS.B⟩
theorem bounds_p (w : World) : Calls Tryz.prog 73 #[.int .i64 2] w fun e w' => e = .returned (.tuple #[.int .i64 1, .int .i64 9223372036854775807]) ∧ w' = w := by
  go_enter Tryz.func73, Tryz.ntmps73
  go_wp2
  go_ret2
  exact ⟨rfl, rfl⟩
set_option maxHeartbeats 8000000 in
set_option maxRecDepth 100000 in
theorem counts_p (ln es : Int) (b : Nat) (w : World) : Calls Tryz.prog 55 #[plcV ln es, stpV b] w fun e w' => e = .returned (.tuple #[]) ∧ Below w.heap.size w w' := by
  have hrf := fun no W => refuseIf_f ln es no W
  have hbd := bounds_p
  have hS := PS.new w ln es b
  unfold plcV stpV stpC at *
  go_enter Tryz.func55, Tryz.ntmps55
  go_upto_region 1 with fail
  generalize (w.alloc (.cells #[.int .i64 ln, .int .u8 es] 94)).alloc (.cells #[.int .i64 2, .int .i64 2, .string ⟨#[]⟩, .string ⟨#[]⟩, .bool false, .slice (some ⟨b, 0, none⟩) 1 1, .bool false, .slice none 0 0, .slice none 0 0, .slice none 0 0] 45) = W0 at *
  obtain ⟨c0, c1, c2, c3, c4, c5, c6, c7, c8, c9, c10⟩ := hS.cells
  go_wp2_with (first | (go_at_call 73; with_reducible refine (hbd _).mono ?_; rintro e wn ⟨rfl, hw⟩; replace hw := hw.symm; subst hw) | (go_at_call 42; with_reducible refine (hrf _ _).mono ?_; rintro e wn ⟨rfl, bn⟩; have hSn := hS.below bn; clear c0 c1 c2 c3 c4 c5 c6 c7 c8 c9 c10 hS; have hS := hSn; obtain ⟨c0, c1, c2, c3, c4, c5, c6, c7, c8, c9, c10⟩ := hS.cells; clear hSn bn))
  go_end0
  exact ⟨rfl, hS.B⟩
set_option maxHeartbeats 8000000 in
set_option maxRecDepth 100000 in
theorem words_p (ln es : Int) (b : Nat) (w : World) : Calls Tryz.prog 58 #[plcV ln es, stpV b] w fun e w' => e = .returned (.tuple #[]) ∧ Below w.heap.size w w' := by
  have hrf := fun no W => refuseIf_f ln es no W
  have hS := PS.new w ln es b
  unfold plcV stpV stpC at *
  go_enter Tryz.func58, Tryz.ntmps58
  go_upto_region 1 with fail
  generalize (w.alloc (.cells #[.int .i64 ln, .int .u8 es] 94)).alloc (.cells #[.int .i64 2, .int .i64 2, .string ⟨#[]⟩, .string ⟨#[]⟩, .bool false, .slice (some ⟨b, 0, none⟩) 1 1, .bool false, .slice none 0 0, .slice none 0 0, .slice none 0 0] 45) = W0 at *
  obtain ⟨c0, c1, c2, c3, c4, c5, c6, c7, c8, c9, c10⟩ := hS.cells
  go_wp2
  go_loopw [4, 12] (fun d i wr => d = .slice none 0 0 ∧ i = .int .i64 0 ∧ PS w wr ln es b) (fun _ _ _ => 0)
  case atStart => exact ⟨rfl, rfl, hS⟩
  case round =>
    clear hS c0 c1 c2 c3 c4 c5 c6 c7 c8 c9 c10
    obtain ⟨rfl, rfl, hS⟩ := hrel
    obtain ⟨c0, c1, c2, c3, c4, c5, c6, c7, c8, c9, c10⟩ := hS.cells
    go_wp2_with (go_at_call 42; with_reducible refine (hrf _ _).mono ?_; rintro e wn ⟨rfl, bn⟩; have hSn := hS.below bn; clear c0 c1 c2 c3 c4 c5 c6 c7 c8 c9 c10 hS; have hS := hSn; obtain ⟨c0, c1, c2, c3, c4, c5, c6, c7, c8, c9, c10⟩ := hS.cells; clear hSn bn)
    go_end0
    exact ⟨rfl, hS.B⟩
set_option maxHeartbeats 8000000 in
set_option maxRecDepth 100000 in
theorem docs_p (ln es : Int) (b : Nat) (w : World) : Calls Tryz.prog 59 #[plcV ln es, stpV b] w fun e w' => e = .returned (.tuple #[]) ∧ Below w.heap.size w w' := by
  have hrf := fun no W => refuseIf_f ln es no W
  have hS := PS.new w ln es b
  unfold plcV stpV stpC at *
  go_enter Tryz.func59, Tryz.ntmps59
  go_upto_region 1 with fail
  generalize (w.alloc (.cells #[.int .i64 ln, .int .u8 es] 94)).alloc (.cells #[.int .i64 2, .int .i64 2, .string ⟨#[]⟩, .string ⟨#[]⟩, .bool false, .slice (some ⟨b, 0, none⟩) 1 1, .bool false, .slice none 0 0, .slice none 0 0, .slice none 0 0] 45) = W0 at *
  obtain ⟨c0, c1, c2, c3, c4, c5, c6, c7, c8, c9, c10⟩ := hS.cells
  go_wp2
  go_loopw [9] (fun i wr => i = .int .i64 0 ∧ PS w wr ln es b) (fun _ _ => 0)
  case atStart => exact ⟨rfl, hS⟩
  case round =>
    clear hS c0 c1 c2 c3 c4 c5 c6 c7 c8 c9 c10
    obtain ⟨rfl, hS⟩ := hrel
    obtain ⟨c0, c1, c2, c3, c4, c5, c6, c7, c8, c9, c10⟩ := hS.cells
    go_wp2_with fail
    go_end0
    exact ⟨rfl, hS.B⟩
end Go.Proofs.YtbmakfdljddhcaaGreatDoor
