/- DigestSums: the statement walked. -/
import Derived.Test.YtodgcmhkojkpcaaGreatDoorRefSum3
import Derived.Test.YtodgcmhkojkpcaaGreatDoorDigEq
import Derived.Test.YtodgcmhkojkpcaaGreatDoorWorks3
import Derived.Deep.MidRow
import Derived.Deep.RegionHeld3
namespace Go.Proofs.YtodgcmhkojkpcaaGreatDoor
open Go Go.RowKit

theorem rng_below {w w' : World} {b o : Nat} {cs : List Value} (h : w.rangeAt b o cs) (hb : Below w.heap.size w w') (hlt : b < w.heap.size) : w'.rangeAt b o cs := by
  intro j v hv
  exact (World.cell?_of_block (hb.block b hlt)).trans (h j v hv)
theorem eq_same (m : List UInt8) (hm : m.length = 32) (w : World) : (Op.equalIn 10000 25 (.agg (dig32 m)) (.agg (dig32 m))).run Tryz.prog w = .ok true w := by
  rw [eq_dig m m hm hm]; simp
set_option maxRecDepth 100000 in
set_option maxHeartbeats 4000000 in
theorem sums_law (n : Int) (s : ByteArray) (w : World) (hk : KTab w) (hr : RTab w) (hbt : BTab w) (hp : Pow10 w) (hs : s.size ≤ 140737488351232) : Calls Tryz.prog 12 #[.int .i64 n, .string s] w fun e w' => e = .returned (.bool true) ∧ Below w.heap.size w w' := by
  have hg := var_lt l_k hk
  have hz := (zero_of_info (P := Tryz.prog) info_digest).1
  have hR := sum_r n s w hr hbt hs
  have hS := fun W (h : KTab W) => sum_p n s W h (by omega)
  have hdl := sumB_length (widthN n) (un s) (widthN_le n)
  generalize sumB (widthN n) (un s) = D at *
  have hi : (Tryz.prog.info? 25).map (·.size) = some (dig32 D).size := by rw [dig32_size, hdl]; kernel_rfl
  have hzd : (dig32 zeros).size = (dig32 D).size := by rw [dig32_size, dig32_size, hdl]; rfl
  have ho := dig32_one D
  have heq : ∀ W, (Op.equalIn 10000 25 (.agg (dig32 D)) (.agg (Lib.byteCells D).toArray)).run Tryz.prog W = .ok true W := fun W => eq_same D hdl W
  go_enter Tryz.func12, Tryz.ntmps12
  go_wp2_with fail
  refine hR.mono ?_
  rintro e w1 ⟨rfl, B1⟩
  have A1 : Lies (w1.alloc (.cells (dig32 zeros) 25)) w1.heap.size 25 (dig32 zeros) := Lies.new _ _ _
  have L1 : Lies ((w1.alloc (.cells (dig32 zeros) 25)).setRow w1.heap.size (dig32 D)) w1.heap.size 25 (dig32 D) := A1.row _
  have B2 : Below w.heap.size w ((w1.alloc (.cells (dig32 zeros) 25)).setRow w1.heap.size (dig32 D)) := below_setRow (B1.alloc B1.size _) B1.size _
  go_wp2_with (refine wpList_store_row rfl 25 (.tmp 5) (.tmp 8) rfl w1.heap.size (dig32 D) rfl rfl 25 (dig32 zeros) A1 hi hzd ho ?_)
  have hlt1 := L1.lt
  generalize hW2 : (w1.alloc (.cells (dig32 zeros) 25)).setRow w1.heap.size (dig32 D) = w2 at *
  obtain ⟨g1, hg1⟩ : ∃ g1, g1 = w1.heap.size := ⟨_, rfl⟩
  rw [← hg1] at L1 hlt1 ⊢
  clear hW2 A1 B1 hg1 hR
  have hu := Tryz.underlying25
  have hcl : (Lib.byteCells D).length = 32 := by rw [Lib.byteCells_length, hdl]
  have hi2 : (Tryz.prog.info? 25).map (·.size) = some (Lib.byteCells D).length := by rw [hcl]; kernel_rfl
  have h1c : ∀ v ∈ Lib.byteCells D, v.oneCell' = true := fun v hv => by unfold Lib.byteCells at hv; obtain ⟨_, _, rfl⟩ := List.mem_map.1 hv; rfl
  have hrd : w2.drew.rangeAt g1 0 (Lib.byteCells D) := fun j v hv => by
    rw [Nat.zero_add]
    exact L1.cell (by unfold dig32; simpa using hv)
  have hBd : Below w.heap.size w w2.drew := below_drawn B2 1
  have hld : g1 < w2.drew.heap.size := hlt1
  clear L1 hi hzd ho B2 hlt1
  refine wp_region_noPanic ?_
  refine wp_region_held_drew (S := fun w' => w'.rangeAt g1 0 (Lib.byteCells D) ∧ Below w.heap.size w w' ∧ g1 < w'.heap.size) (by kernel_rfl) ⟨hrd, hBd, hld⟩ (fun h0 => ?_)
  refine wpAnyH_take (i := 0) (v := .int .i64 n) rfl (by kernel_rfl) (by kernel_rfl) (by kernel_rfl) (fun _ _ _ h => h) (Or.inl ⟨by rfl, fun w _ => by go_simp⟩) h0 ?_
  simp only [Act.put, List.setIfInBounds_toArray]
  refine wpAnyH_take (i := 1) (v := .string s) rfl (by kernel_rfl) (by kernel_rfl) (by kernel_rfl) (fun _ _ _ h => h) (Or.inl ⟨by rfl, fun w _ => by go_simp⟩) h0 ?_
  simp only [Act.put]
  refine wpAnyH_take (i := 3) (v := _) rfl (by kernel_rfl) (by kernel_rfl) (by kernel_rfl) (fun _ _ _ h => h) (yieldsIf_load_mid (by rfl) _ _ rfl _ _ rfl (Lib.byteCells D) _ (fun w h => h.1) hu rfl hi2) h0 ?_
  simp only [Act.put]
  refine wpAnyH_ready (rs := [2]) (by kernel_rfl) (by simp) ?_
  refine AllReadyH.cons rfl (fun K hK => ?_) AllReadyH.nil
  go_simp
  refine (hS _ (var?_below h0.2.1 l_k hg hk)).mono ?_
  rintro e w12 ⟨rfl, b2⟩
  go_wp2_with fail
  refine hK.out _ _ ⟨rng_below h0.1 b2 h0.2.2, below_join h0.2.1 b2, Nat.lt_of_lt_of_le h0.2.2 b2.size⟩ (fun h2 => ?_)
  clear hK K
  try simp only [Act.put]
  refine wpAnyH_take (i := 4) (v := .bool true) rfl (by kernel_rfl) (by kernel_rfl) (by kernel_rfl) (fun _ _ _ h => h) (Or.inl ⟨by rfl, fun w _ => by go_simp⟩) h2 ?_
  simp only [Act.put]
  refine wpAnyH_take (i := 5) (v := .bool true) rfl (by kernel_rfl) (by kernel_rfl) (by kernel_rfl) (fun _ _ _ h => h) (Or.inl ⟨by rfl, fun w _ => by go_simp⟩) h2 ?_
  simp only [Act.put]
  refine wpAnyH_take (i := 6) (v := .int .i64 n) rfl (by kernel_rfl) (by kernel_rfl) (by kernel_rfl) (fun _ _ _ h => h) (Or.inl ⟨by rfl, fun w _ => by go_simp⟩) h2 ?_
  simp only [Act.put]
  refine wpAnyH_take (i := 7) (v := .string s) rfl (by kernel_rfl) (by kernel_rfl) (by kernel_rfl) (fun _ _ _ h => h) (Or.inl ⟨by rfl, fun w _ => by go_simp⟩) h2 ?_
  simp only [Act.put]
  refine wpAnyH_take (i := 9) (v := _) rfl (by kernel_rfl) (by kernel_rfl) (by kernel_rfl) (fun _ _ _ h => h) (yieldsIf_load_mid (by rfl) _ _ rfl _ _ rfl (Lib.byteCells D) _ (fun w h => h.1) hu rfl hi2) h2 ?_
  simp only [Act.put]
  refine wpAnyH_ready (rs := [8]) (by kernel_rfl) (by simp) ?_
  refine AllReadyH.cons rfl (fun K hK => ?_) AllReadyH.nil
  go_simp
  refine (hS _ (var?_below h2.2.1 l_k hg hk)).mono ?_
  rintro e w18 ⟨rfl, b8⟩
  go_wp2_with fail
  refine hK.out _ _ ⟨rng_below h2.1 b8 h2.2.2, below_join h2.2.1 b8, Nat.lt_of_lt_of_le h2.2.2 b8.size⟩ (fun h8 => ?_)
  clear hK K
  try simp only [Act.put]
  refine wpAnyH_take (i := 10) (v := .bool true) rfl (by kernel_rfl) (by kernel_rfl) (by kernel_rfl) (fun _ _ _ h => h) (Or.inl ⟨by rfl, fun w _ => by go_simp⟩) h8 ?_
  simp only [Act.put]
  refine wpAnyH_take (i := 11) (v := .bool true) rfl (by kernel_rfl) (by kernel_rfl) (by kernel_rfl) (fun _ _ _ h => h) (Or.inl ⟨by rfl, fun w _ => by go_simp⟩) h8 ?_
  simp only [Act.put]
  refine wpAnyH_take (i := 12) (v := .bool true) rfl (by kernel_rfl) (by kernel_rfl) (by kernel_rfl) (fun _ _ _ h => h) (Or.inl ⟨by rfl, fun w _ => by go_simp⟩) h8 ?_
  simp only [Act.put]
  refine wpAnyH_ready (rs := [13]) (by kernel_rfl) (by simp) ?_
  refine AllReadyH.cons rfl (fun K hK => ?_) AllReadyH.nil
  go_simp
  refine (works_p _ (var?_below h8.2.1 l_k hg hk) (hp.below h8.2.1)).mono ?_
  rintro e w23 ⟨rfl, b13⟩
  go_wp2_with fail
  refine hK.out _ _ ⟨rng_below h8.1 b13 h8.2.2, below_join h8.2.1 b13, Nat.lt_of_lt_of_le h8.2.2 b13.size⟩ (fun h13 => ?_)
  clear hK K
  try simp only [Act.put]
  refine wpAnyH_take (i := 14) (v := .bool true) rfl (by kernel_rfl) (by kernel_rfl) (by kernel_rfl) (fun _ _ _ h => h) (Or.inl ⟨by rfl, fun w _ => by go_simp⟩) h13 ?_
  dsimp [Act.put]
  refine wpAnyH_take (i := 15) (v := .bool true) rfl (by kernel_rfl) (by kernel_rfl) (by kernel_rfl) (fun _ _ _ h => h) (Or.inl ⟨by rfl, fun w _ => by go_simp⟩) h13 ?_
  dsimp [Act.put]
  refine wpAnyH_done (by kernel_rfl) ?_ _
  refine NoPanic.normal ?_
  go_wp2
  go_ret
  refine ⟨?_, h13.2.1⟩
  first | rfl | (congr 1) | kernel_rfl
end Go.Proofs.YtodgcmhkojkpcaaGreatDoor
