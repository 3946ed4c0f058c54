/- The program's join. -/
import Derived.Test.YtjgijbeedgggdaaGreatDoorMkW
import Derived.Deep.DeepCutAuto
namespace Go.Proofs.YtjgijbeedgggdaaGreatDoor
open Go Go.RowKit

def lnV (n : Nat) (t : ByteArray) (m d : Value) : Value := .agg (lnC n t m d)
set_option maxRecDepth 100000 in
set_option maxHeartbeats 2000000 in
theorem join_p (B i : Nat) (s : ByteArray) (p : Nat) (x : Ln) (ec : UInt8) (w : World) (h : Rd w B s p (i + 1)) (hA : Stands (un s) p (i + 1)) (hx : (cutL (un s))[i]? = some x) (hn : noth x = false) (hs : s.size ≤ 1099511627776) (hc : (cutL (un s)).length ≤ 1099511627776)
    (J : List Mk × Ln × Nat) (hJ : joinG ec ((cutL (un s)).drop i) i (hd x) 0 false = J) :
    Calls Tryz.prog 92 #[ptr B, flV (i + 1) (bs x), .int .u8 ec.toNat] w fun e w' => ∃ u q, e = .returned (lnV (i + 1) (bs J.2.1) u nilS) ∧ w'.ownsRow w.heap.size 73 3 u J.1.length (mcells J.1) ∧ Rd w' B s q J.2.2 ∧ Stands (un s) q J.2.2 ∧ Oth B w w' := by
  have hBw : B < w.heap.size := h.lt
  have hxl : x.length ≤ 1099511627776 := by have := cut_len (un s) x (List.mem_of_getElem? hx); rw [un_length] at this; omega
  have hH := fun W => head_p (i + 1) (bs x) W (by rw [size_bs]; omega)
  rw [un_bs] at hH
  have hI := JI.start (ec := ec) hx hn
  rw [hJ] at hI
  have hJl : J.2.1.length ≤ s.size ∧ J.1.length ≤ (cutL (un s)).length := by
    have h1 := join_len ec ((cutL (un s)).drop i) i (hd x) 0 false
    have h2 := drop_flat (cutL (un s)) i
    have h3 := cut_sum (un s)
    rw [hJ, List.length_drop] at h1
    rw [un_length] at h3
    omega
  unfold flV flC at *
  go_enter Tryz.func92, Tryz.ntmps92
  go_wp2
  have f0 : Lies (w.alloc (.cells #[.int .i64 ((i : Int) + 1), .string (bs x)] 155)) w.heap.size 155 #[.int .i64 ((i : Int) + 1), .string (bs x)] := Lies.new w _ _
  generalize hw1 : w.alloc (.cells #[.int .i64 ((i : Int) + 1), .string (bs x)] 155) = w1 at *
  have s1 : w1.heap.size = w.heap.size + 1 := by rw [← hw1]; simp
  have o1 : Oth B w w1 := by rw [← hw1]; exact (Oth.refl B w).alloc _
  have r1 : Rd w1 B s p (i + 1) := by rw [← hw1]; exact Lies.alloc h _
  have res2 := Lies.new w1 64 (lnC 0 ⟨#[]⟩ nilS nilS)
  have f2 := f0.alloc (.cells (lnC 0 ⟨#[]⟩ nilS nilS) 64)
  have o2 := o1.alloc (.cells (lnC 0 ⟨#[]⟩ nilS nilS) 64)
  have r2 := Lies.alloc r1 (.cells (lnC 0 ⟨#[]⟩ nilS nilS) 64)
  have hsz2 : (w1.alloc (.cells (lnC 0 ⟨#[]⟩ nilS nilS) 64)).heap.size = w.heap.size + 1 + 1 := by simp [s1]
  unfold lnC at *
  generalize hw2 : w1.alloc (.cells #[.int .i64 ((0 : Nat) : Int), .string ⟨#[]⟩, nilS, nilS] 64) = w2 at *
  have b3 := bld_new w2 (w.heap.size + 1 + 1) hsz2
  have res3 := res2.alloc (.cells #[.pointer none, .slice none 0 0] 258)
  have f3 := f2.alloc (.cells #[.pointer none, .slice none 0 0] 258)
  have o3 := o2.alloc (.cells #[.pointer none, .slice none 0 0] 258)
  have r3 := Lies.alloc r2 (.cells #[.pointer none, .slice none 0 0] 258)
  have hsz3 : (w2.alloc (.cells #[.pointer none, .slice none 0 0] 258)).heap.size = w.heap.size + 1 + 1 + 1 := by simp [hsz2]
  generalize hw3 : w2.alloc (.cells #[.pointer none, .slice none 0 0] 258) = w3 at *
  have jn4 := Lies.new w3 64 #[.int .i64 ((i : Int) + 1), .string ⟨#[]⟩, nilS, nilS]
  have b4 := bld_below b3 ((Below.refl _ w3).alloc (Nat.le_refl _) (.cells #[.int .i64 ((i : Int) + 1), .string ⟨#[]⟩, nilS, nilS] 64))
  have res4 := res3.alloc (.cells #[.int .i64 ((i : Int) + 1), .string ⟨#[]⟩, nilS, nilS] 64)
  have f4 := f3.alloc (.cells #[.int .i64 ((i : Int) + 1), .string ⟨#[]⟩, nilS, nilS] 64)
  have o4 := o3.alloc (.cells #[.int .i64 ((i : Int) + 1), .string ⟨#[]⟩, nilS, nilS] 64)
  have r4 := Lies.alloc r3 (.cells #[.int .i64 ((i : Int) + 1), .string ⟨#[]⟩, nilS, nilS] 64)
  have hsz4 : (w3.alloc (.cells #[.int .i64 ((i : Int) + 1), .string ⟨#[]⟩, nilS, nilS] 64)).heap.size = w.heap.size + 1 + 1 + 1 + 1 := by simp [hsz3]
  generalize hw4 : w3.alloc (.cells #[.int .i64 ((i : Int) + 1), .string ⟨#[]⟩, nilS, nilS] 64) = w4 at *
  rw [hsz3] at jn4
  rw [s1] at res4
  have bd : Below w4.heap.size w4 w4.drew := (Below.refl _ _).drew
  have f5 := f4.below bd
  have c0 := f5.cell (i := 0) rfl
  have c1 := f5.cell (i := 1) rfl
  clear f0 f2 f3 hw1 hw2 hw3 hw4 res2 res3 o1 o2 o3 r1 r2 r3 b3
  go_cut [9, 10] (fun v9 v10 wx => ∃ gH, v9 = .pointer (some ⟨gH, 0, none⟩) ∧ v10 = .int .i64 (hd x) ∧ JB w B (w.heap.size + 1) (w.heap.size + 1 + 1) (w.heap.size + 1 + 1 + 1) gH ∧ JW w B (w.heap.size + 1) (w.heap.size + 1 + 1) (w.heap.size + 1 + 1 + 1) gH (i + 1) s p (i + 1) (i + 1) (bs x) nilS [] [] wx)
  case first =>
    have hB4 : ∀ gH, w4.heap.size ≤ gH → JB w B (w.heap.size + 1) (w.heap.size + 1 + 1) (w.heap.size + 1 + 1 + 1) gH := fun gH hg => ⟨by omega, by omega, by omega, by omega, by omega, by omega, by omega, by omega, by omega, by omega, by omega⟩
    have KEY : ∀ W gH, Below w4.heap.size w4 W → Lies W gH 155 (flC (i + 1) (bs x)) → JW w B (w.heap.size + 1) (w.heap.size + 1 + 1) (w.heap.size + 1 + 1 + 1) gH (i + 1) s p (i + 1) (i + 1) (bs x) nilS [] [] W := fun W gH hb hl => ⟨o4.on hb, Rd.below r4 hb, res4.below hb, bld_below b4 hb, jn4.below hb, hl, ⟨rfl, .inl ⟨rfl, rfl⟩⟩⟩
    have f6 : Lies (w4.alloc (.cells #[.int .i64 0, .string ⟨#[]⟩] 155)).drew w.heap.size 155 #[.int .i64 ((i : Int) + 1), .string (bs x)] := f4.alloc _
    have n6 : Lies (w4.alloc (.cells #[.int .i64 0, .string ⟨#[]⟩] 155)).drew w4.heap.size 155 #[.int .i64 0, .string ⟨#[]⟩] := Lies.new w4 _ _
    rw [hsz4] at n6
    have B6 : Below w4.heap.size w4 (w4.alloc (.cells #[.int .i64 0, .string ⟨#[]⟩] 155)).drew := ((Below.refl _ w4).alloc (Nat.le_refl _) _).drew
    have k60 := f6.cell (i := 0) rfl
    have k61 := f6.cell (i := 1) rfl
    refine wp_region_noPanic ?_
    refine wp_region_held_drew (S := fun W => W.cell? ⟨w.heap.size, 0, none⟩ = some (.int .i64 ((i : Int) + 1)) ∧ W.cell? ⟨w.heap.size, 1, none⟩ = some (.string (bs x))) (by kernel_rfl) ⟨c0, c1⟩ (fun h0 => ?_)
    refine wpAnyH_take (i := 0) (v := .agg #[.int .i64 ((i : Int) + 1), .string (bs x)]) rfl (by kernel_rfl) (by kernel_rfl) (by kernel_rfl) (fun _ _ _ h => h) (Or.inl ⟨by rfl, fun W hSw => by obtain ⟨s0, s1⟩ := hSw; go_simp⟩) h0 ?_
    try dsimp [Act.put]
    try simp only [List.setIfInBounds_toArray, List.set_cons_succ, List.set_cons_zero]
    refine wpAnyH_take (i := 1) (v := .agg #[.int .i64 ((i : Int) + 1), .string (bs x)]) rfl (by kernel_rfl) (by kernel_rfl) (by kernel_rfl) (fun _ _ _ h => h) (Or.inl ⟨by rfl, fun W hSw => by obtain ⟨s0, s1⟩ := hSw; go_simp⟩) h0 ?_
    try dsimp [Act.put]
    try simp only [List.setIfInBounds_toArray, List.set_cons_succ, List.set_cons_zero]
    refine wpAnyH_ready (rs := [2, 3]) (by kernel_rfl) (by simp) ?_
    refine AllReadyH.cons rfl ?_ (AllReadyH.cons rfl ?_ AllReadyH.nil)
    · intro K' hK
      rw [if_pos (by rfl)]
      go_wp2_with fail
      refine (hH _).mono ?_
      rintro e w5 ⟨rfl, b1⟩
      have g5 := f5.below b1
      go_wp2_with fail
      refine hK.out _ _ ⟨g5.cell (i := 0) rfl, g5.cell (i := 1) rfl⟩ (fun h0 => ?_)
      clear hK
      try dsimp [Act.put]
      try simp only [List.setIfInBounds_toArray, List.set_cons_succ, List.set_cons_zero]
      refine wpAnyH_ready (rs := [3]) (by kernel_rfl) (by simp) ?_
      refine AllReadyH.cons rfl ?_ AllReadyH.nil
      intro K' hK
      rw [if_pos (by rfl)]
      go_simp
      refine hK.out _ _ ⟨(g5.alloc _).cell (i := 0) rfl, (g5.alloc _).cell (i := 1) rfl⟩ (fun h0 => ?_)
      clear hK
      try dsimp [Act.put]
      try simp only [List.setIfInBounds_toArray, List.set_cons_succ, List.set_cons_zero]
      have n7 := Lies.new w5 155 #[.int .i64 0, .string ⟨#[]⟩]
      refine wpAnyH_ready (rs := [4]) (by kernel_rfl) (by simp) ?_
      refine AllReadyH.cons rfl ?_ AllReadyH.nil
      intro K' hK
      rw [if_pos (by rfl)]
      refine wp_store_row 155 (.tmp 9) (.tmp 18) rfl w5.heap.size (flC (i + 1) (bs x)) rfl rfl 155 _ n7 fl_info rfl (fl_one _ _) ?_
      have hne5 : w.heap.size ≠ w5.heap.size := by have := g5.lt; omega
      have g7 := lies_setRow' (g5.alloc (.cells #[.int .i64 0, .string ⟨#[]⟩] 155)) hne5 (flC (i + 1) (bs x))
      refine hK.out _ _ ⟨g7.cell (i := 0) rfl, g7.cell (i := 1) rfl⟩ (fun h0 => ?_)
      clear hK
      try dsimp [Act.put]
      try simp only [List.setIfInBounds_toArray, List.set_cons_succ, List.set_cons_zero]
      refine wpAnyH_ready (rs := [5]) (by kernel_rfl) (by simp) ?_
      refine AllReadyH.cons rfl ?_ AllReadyH.nil
      intro K' hK
      rw [if_pos (by rfl)]
      go_simp
      refine hK.out _ _ ⟨g7.cell (i := 0) rfl, g7.cell (i := 1) rfl⟩ (fun h0 => ?_)
      clear hK
      try dsimp [Act.put]
      try simp only [List.setIfInBounds_toArray, List.set_cons_succ, List.set_cons_zero]
      refine wpAnyH_done (by kernel_rfl) ?_ _
      refine NoPanic.normal ?_
      go_wp2
      go_meet
      exact ⟨w5.heap.size, rfl, rfl, hB4 _ b1.size, KEY _ _ (below_setRow' ((bd.trans b1).alloc b1.size _) b1.size _) (lies_setRow n7 _)⟩
    · intro K' hK
      rw [if_pos (by rfl)]
      go_simp
      refine hK.out _ _ ⟨k60, k61⟩ (fun h0 => ?_)
      clear hK
      try dsimp [Act.put]
      try simp only [List.setIfInBounds_toArray, List.set_cons_succ, List.set_cons_zero]
      refine wpAnyH_ready (rs := [2]) (by kernel_rfl) (by simp) ?_
      refine AllReadyH.cons rfl ?_ AllReadyH.nil
      intro K' hK
      rw [if_pos (by rfl)]
      go_wp2_with fail
      refine (hH _).mono ?_
      rintro e w5 ⟨rfl, b1⟩
      have g5 := f6.below b1
      have n7 := n6.below b1
      go_wp2_with fail
      refine hK.out _ _ ⟨g5.cell (i := 0) rfl, g5.cell (i := 1) rfl⟩ (fun h0 => ?_)
      clear hK
      try dsimp [Act.put]
      try simp only [List.setIfInBounds_toArray, List.set_cons_succ, List.set_cons_zero]
      refine wpAnyH_ready (rs := [4]) (by kernel_rfl) (by simp) ?_
      refine AllReadyH.cons rfl ?_ AllReadyH.nil
      intro K' hK
      rw [if_pos (by rfl)]
      refine wp_store_row 155 (.tmp 9) (.tmp 18) rfl (w.heap.size + 1 + 1 + 1 + 1) (flC (i + 1) (bs x)) rfl rfl 155 _ n7 fl_info rfl (fl_one _ _) ?_
      have hne5 : w.heap.size ≠ w.heap.size + 1 + 1 + 1 + 1 := by omega
      have g7 := lies_setRow' g5 hne5 (flC (i + 1) (bs x))
      refine hK.out _ _ ⟨g7.cell (i := 0) rfl, g7.cell (i := 1) rfl⟩ (fun h0 => ?_)
      clear hK
      try dsimp [Act.put]
      try simp only [List.setIfInBounds_toArray, List.set_cons_succ, List.set_cons_zero]
      refine wpAnyH_ready (rs := [5]) (by kernel_rfl) (by simp) ?_
      refine AllReadyH.cons rfl ?_ AllReadyH.nil
      intro K' hK
      rw [if_pos (by rfl)]
      go_simp
      refine hK.out _ _ ⟨g7.cell (i := 0) rfl, g7.cell (i := 1) rfl⟩ (fun h0 => ?_)
      clear hK
      try dsimp [Act.put]
      try simp only [List.setIfInBounds_toArray, List.set_cons_succ, List.set_cons_zero]
      refine wpAnyH_done (by kernel_rfl) ?_ _
      refine NoPanic.normal ?_
      go_wp2
      go_meet
      exact ⟨w.heap.size + 1 + 1 + 1 + 1, rfl, rfl, hB4 _ (by omega), KEY _ _ (below_setRow' (below_join B6 b1) (by omega) _) (lies_setRow n7 _)⟩
  obtain ⟨gH, rfl, rfl, hJB, hJW⟩ := hcut
  clear res4 b4 jn4 f4 o4 r4 bd f5 c0 c1
  generalize w.heap.size + 1 + 1 + 1 = gJ at *
  generalize w.heap.size + 1 + 1 = gT at *
  generalize w.heap.size + 1 = gR at *
  go_wp2
  go_loopw [10] (fun v wr => ∃ j fr y M T q u, v = .int .i64 (fr : Nat) ∧ JI ec (cutL (un s)) J j fr y M T ∧ Stands (un s) q (j + 1) ∧ JW w B gR gT gJ gH (i + 1) s q (j + 1) (j + 1) (bs y) u M T wr) (fun _ wr => (cutL (un s)).length - (intOf ((wr.cell? ⟨B, 2, none⟩).getD undef)).toNat)
  case atStart => exact ⟨i, hd x, x, [], [], p, nilS, rfl, hI, hA, hJW⟩
  case round =>
    obtain ⟨j, fr, y, M, T, q, u, rfl, hI1, hA1, hW1⟩ := hrel
    have hsm := hI1.small
    have hyl : y.length ≤ s.size := by have := cut_len (un s) y (List.mem_of_getElem? hI1.at_); rw [un_length] at this; omega
    have hjl := (List.getElem?_eq_some_iff.1 hI1.at_).1
    have hE := fun W => end_p (j + 1) (bs y) ec W (by rw [size_bs]; omega)
    rw [un_bs] at hE
    obtain ⟨hg1, hg2⟩ := goes_fr ec hI1.le hI1.says
    have hed := edN_le ec fr y
    rw [← hg1, ← hg2] at hE
    have hGo := hI1.go (fu := (cutL (un s)).length + 1)
    have hSt := hI1.stop
    rw [← hg1] at hGo hSt
    have hw := hW1
    clear hw
    go_wp2_with (refine wpList_load_row rfl 155 (.tmp 9) rfl gH rfl 155 (flC (j + 1) (bs y)) (0, 0) _ hW1.hr Tryz.underlying155 rfl fl_info ?_)
    refine (hE _).mono ?_
    rintro e w2 ⟨rfl, b2⟩
    have hW2 := hW1.below b2
    go_upto_region 5 with fail
    obtain ⟨i0, hi, z0, z1, z2⟩ := info_parts mk_info
    by_cases hlt : fr < edN ec 0 y
    · have hmk : Hid (mksN ec fr T.length j y = [⟨T.length, j + 1, fr + 1⟩]) := by unfold Hid mksN; rw [hg2, if_pos hlt]
      have hsg : Hid (segN ec fr y = (y.take (edN ec 0 y)).drop fr) := by unfold Hid segN; rw [hg2]
      have hed2 : edN ec 0 y ≤ y.length := by rw [← hg2]; exact hed
      have HGo : Hid _ := hGo
      have HSt : Hid _ := hSt
      have HG1 : Hid _ := hg1
      clear hE hGo hSt hg1 hg2
      have d1 : (fr : Int) < (edN ec 0 y : Int) := by omega
      have hbd : Below w2.heap.size w2 w2.drew := (Below.refl _ _).drew
      have hW3 := hW2.below hbd
      have hszd : w.heap.size ≤ w2.drew.heap.size := hW3.oth.size
      have c1 : w2.drew.cell? ⟨gJ, 2, none⟩ = some u := hW3.jn.cell (i := 2) rfl
      have c2 : w2.drew.cell? ⟨gH, 0, none⟩ = some (.int .i64 ((j : Int) + 1)) := hW3.hr.cell (i := 0) rfl
      have hwf : IntKind.i64.wrap ((fr : Int) + 1) = (fr : Int) + 1 := wrap_small _ (by omega) (by omega)
      have hLen := Tryz.Builder_Len gT gT (Lib.byteCells T) w2.drew hW3.bld
      rw [Lib.byteCells_length] at hLen
      go_upto_region 6 with fail
      refine wp_region_noPanic ?_
      refine wp_region_held_drew (S := fun W => W.cell? ⟨gH, 0, none⟩ = some (.int .i64 ((j : Int) + 1))) (by kernel_rfl) c2 (fun h0 => ?_)
      refine wpAnyH_take (i := 0) (v := .pointer (some ⟨gJ, 2, none⟩)) rfl (by kernel_rfl) (by kernel_rfl) (by kernel_rfl) (fun _ _ _ h => h) (Or.inl ⟨by rfl, fun W hSw => by have s0 := hSw; go_simp⟩) h0 ?_
      try dsimp [Act.put]
      try simp only [List.setIfInBounds_toArray, List.set_cons_succ, List.set_cons_zero]
      refine wpAnyH_take (i := 3) (v := .pointer (some ⟨gH, 0, none⟩)) rfl (by kernel_rfl) (by kernel_rfl) (by kernel_rfl) (fun _ _ _ h => h) (Or.inl ⟨by rfl, fun W hSw => by have s0 := hSw; go_simp⟩) h0 ?_
      try dsimp [Act.put]
      try simp only [List.setIfInBounds_toArray, List.set_cons_succ, List.set_cons_zero]
      refine wpAnyH_take (i := 4) (v := .int .i64 ((j : Int) + 1)) rfl (by kernel_rfl) (by kernel_rfl) (by kernel_rfl) (fun _ _ _ h => h) (Or.inl ⟨by rfl, fun W hSw => by have s0 := hSw; go_simp⟩) h0 ?_
      try dsimp [Act.put]
      try simp only [List.setIfInBounds_toArray, List.set_cons_succ, List.set_cons_zero]
      refine wpAnyH_take (i := 5) (v := .int .i64 fr) rfl (by kernel_rfl) (by kernel_rfl) (by kernel_rfl) (fun _ _ _ h => h) (Or.inl ⟨by rfl, fun W hSw => by have s0 := hSw; go_simp⟩) h0 ?_
      try dsimp [Act.put]
      try simp only [List.setIfInBounds_toArray, List.set_cons_succ, List.set_cons_zero]
      refine wpAnyH_take (i := 6) (v := .int .i64 ((fr : Int) + 1)) rfl (by kernel_rfl) (by kernel_rfl) (by kernel_rfl) (fun _ _ _ h => h) (Or.inl ⟨by rfl, fun W hSw => by have s0 := hSw; go_simp⟩) h0 ?_
      try dsimp [Act.put]
      try simp only [List.setIfInBounds_toArray, List.set_cons_succ, List.set_cons_zero]
      refine wpAnyH_ready (rs := [1, 2]) (by kernel_rfl) (by simp) ?_
      refine AllReadyH.cons rfl ?_ (AllReadyH.cons rfl ?_ AllReadyH.nil)
      · intro K' hK
        rw [if_pos (by rfl)]
        go_simp
        refine hK.out _ _ c2 (fun h0 => ?_)
        clear hK
        try dsimp [Act.put]
        try simp only [List.setIfInBounds_toArray, List.set_cons_succ, List.set_cons_zero]
        refine wpAnyH_ready (rs := [2]) (by kernel_rfl) (by simp) ?_
        refine AllReadyH.cons rfl ?_ AllReadyH.nil
        intro K' hK
        rw [if_pos (by rfl)]
        go_wp2_with fail
        refine hLen.mono ?_
        rintro e w4 ⟨rfl, rfl⟩
        go_wp2_with fail
        refine hK.out _ _ c2 (fun h0 => ?_)
        clear hK
        try dsimp [Act.put]
        try simp only [List.setIfInBounds_toArray, List.set_cons_succ, List.set_cons_zero]
        refine wpAnyH_take (i := 7) (v := .agg #[.int .i64 T.length, .int .i64 ((j : Int) + 1), .int .i64 ((fr : Int) + 1)]) rfl (by kernel_rfl) (by kernel_rfl) (by kernel_rfl) (fun _ _ _ h => h) (Or.inl ⟨by rfl, fun W hSw => by have s0 := hSw; go_simp⟩) h0 ?_
        try dsimp [Act.put]
        try simp only [List.setIfInBounds_toArray, List.set_cons_succ, List.set_cons_zero]
        refine wpAnyH_ready (rs := [8]) (by kernel_rfl) (by simp) ?_
        refine AllReadyH.cons rfl ?_ AllReadyH.nil
        intro K' hK
        rw [if_pos (by rfl)]
        go_simp
        have hWA := hW3.below ((Below.refl _ _).alloc (Nat.le_refl _) (.cells (mcs ⟨T.length, j + 1, fr + 1⟩).toArray 73))
        refine hK.out _ _ (hWA.hr.cell (i := 0) rfl) (fun h0 => ?_)
        clear hK
        try dsimp [Act.put]
        try simp only [List.setIfInBounds_toArray, List.set_cons_succ, List.set_cons_zero]
        refine wpAnyH_ready (rs := [9]) (by kernel_rfl) (by simp) ?_
        refine AllReadyH.cons rfl ?_ AllReadyH.nil
        intro K' hK
        rw [if_pos (by rfl)]
        refine wp_append_row _ _ _ 61 rfl w.heap.size 73 i0 (.agg #[.int .i64 0, .int .i64 0, .int .i64 0]) 3 24 Tryz.underlying61 hi z0 z1 z2 rfl (by decide) _ _ _ rfl hWA.own ⟨w2.drew.heap.size, 0, none⟩ 1 1 (mcs ⟨T.length, j + 1, fr + 1⟩) rfl rfl (cells_new w2.drew 73 (mcs ⟨T.length, j + 1, fr + 1⟩)) (by intro a ha; simp [mcs] at ha; rcases ha with rfl | rfl | rfl <;> rfl) (by unfold maxLen; omega) (by omega) hWA.oth.size ?_
        intro u5 w5 hown5 hgr5
        have hW5 := hWA.mark hJB ⟨T.length, j + 1, fr + 1⟩ hgr5 hown5
        obtain ⟨jn5, hr5⟩ := hWA.grew hgr5
        refine hK.out _ _ (hr5.cell (i := 0) rfl) (fun h0 => ?_)
        clear hK
        try dsimp [Act.put]
        try simp only [List.setIfInBounds_toArray, List.set_cons_succ, List.set_cons_zero]
        refine wpAnyH_take (i := 10) (v := .pointer (some ⟨gJ, 2, none⟩)) rfl (by kernel_rfl) (by kernel_rfl) (by kernel_rfl) (fun _ _ _ h => h) (Or.inl ⟨by rfl, fun W hSw => by have s0 := hSw; go_simp⟩) h0 ?_
        try dsimp [Act.put]
        try simp only [List.setIfInBounds_toArray, List.set_cons_succ, List.set_cons_zero]
        have l2 : w5.cell? ⟨gJ, 2, none⟩ = some u := jn5.cell (i := 2) rfl
        have f2 := jn5.frozen 2
        obtain ⟨a5, k5, p5, rfl⟩ := own_sl hown5
        refine wpAnyH_ready (rs := [11]) (by kernel_rfl) (by simp) ?_
        refine AllReadyH.cons rfl ?_ AllReadyH.nil
        intro K' hK
        rw [if_pos (by rfl)]
        go_simp
        refine hK.out _ _ (hW5.hr.cell (i := 0) rfl) (fun h0 => ?_)
        clear hK
        try dsimp [Act.put]
        try simp only [List.setIfInBounds_toArray, List.set_cons_succ, List.set_cons_zero]
        refine wpAnyH_done (by kernel_rfl) ?_ _
        refine NoPanic.normal ?_
        generalize hw6 : w5.setCell ⟨gJ, 2, none⟩ (.slice a5 k5 p5) = w6 at *
        have l3 : w6.cell? ⟨gH, 1, none⟩ = some (.string (bs y)) := hW5.hr.cell (i := 1) rfl
        have hWS := wstring_p gT gT T (bs ((y.take (edN ec 0 y)).drop fr)) w6 hW5.bld (by rw [size_bs, List.length_drop, List.length_take]; omega) (by have := hW5.bld; exact Nat.le_of_lt (bld_lt this))
        rw [un_bs] at hWS
        have hX : (bs y).extract fr (edN ec 0 y) = bs ((y.take (edN ec 0 y)).drop fr) := by rw [ext_bs, un_bs]
        have x1 : (0 : Int) ≤ (fr : Int) := by omega
        have x2 : (fr : Int) ≤ (edN ec 0 y : Int) := by omega
        have x3 : (edN ec 0 y : Int) ≤ ((bs y).size : Int) := by rw [size_bs]; omega
        go_wp2_with fail
        refine hWS.mono ?_
        rintro e w7 ⟨rfl, hb7, hl7, hk7⟩
        have hW7 := hW5.wrote hJB hb7 hl7 hk7
        rw [← hsg.out, ← hmk.out] at hW7
        have hBJ : B ≠ gJ := by have := hJB.b; have := hJB.j; omega
        have hBR : B ≠ gR := by have := hJB.b; have := hJB.r; omega
        cases hGO : goesOn ec 0 y with
        | false =>
          obtain ⟨e1, e2, e3⟩ := HSt.out (by rw [HG1.out]; exact hGO)
          clear HGo HSt HG1
          have hSt8 := Tryz.Builder_String_any_k gT gT _ _ (Lib.IsBuilderF.of hW7.bld) (Nat.le_of_lt (bld_lt hW7.bld))
          go_wp2_with fail
          refine hSt8.mono ?_
          rintro e w8 ⟨rfl, _, hl8, hk8⟩
          obtain ⟨oth8, rd8, res8, jn8, own8⟩ := hW7.told hJB hl8 hk8
          have l8 : w8.cell? ⟨gJ, 1, none⟩ = some (.string ⟨#[]⟩) := jn8.cell (i := 1) rfl
          have f8 := jn8.frozen 1
          have jn9 := Lies.set (i := 1) jn8 (.string (bs (T ++ segN ec fr y)))
          have res9 := lies_set' (i := 1) res8 hJB.rj (.string (bs (T ++ segN ec fr y)))
          have rd9 := lies_set' (i := 1) rd8 hBJ (.string (bs (T ++ segN ec fr y)))
          have own9 : (w8.setCell ⟨gJ, 1, none⟩ (.string (bs (T ++ segN ec fr y)))).ownsRow w.heap.size 73 3 _ _ _ := own_keep own8 (fun g cur hg hgg _ => Below.heap_setCell w8 ⟨gJ, 1, none⟩ _ g (fun eq => by subst eq; have j8 := jn8; unfold Lies at j8; rw [hgg] at j8; injection j8 with h6; injection h6 with _ h7 _; revert h7; decide))
          have oth9 : Oth B w (w8.setCell ⟨gJ, 1, none⟩ (.string (bs (T ++ segN ec fr y)))) := ⟨oth8.os, oth8.tape, oth8.output, by simpa using oth8.size, fun k h1 h2 => (Below.heap_setCell w8 ⟨gJ, 1, none⟩ _ k (by have := hJB.j; simp; omega)).trans (oth8.block k h1 h2)⟩
          go_wp2_with (first
            | (refine wpList_load_row rfl 64 (.tmp 8) rfl gJ rfl 64 (lnC (i + 1) (bs (T ++ segN ec fr y)) _ nilS) (0, 0) _ jn9 Tryz.underlying64 rfl ln_info ?_)
            | (refine wpList_store_row rfl 64 (.tmp 6) (.tmp 59) rfl gR (lnC (i + 1) (bs (T ++ segN ec fr y)) _ nilS) rfl rfl 64 _ res9 ln_info rfl (ln_one _ _ _ (own_sl own8)) ?_))
          refine bodyPost_ret (results_cell_row rfl _ _ gR 64 (lnC (i + 1) (bs (T ++ segN ec fr y)) _ nilS) (0, 0) _ rfl (lies_setRow res9 _) Tryz.underlying64 rfl ln_info) rfl ?_
          rw [e1, e2, e3]
          exact ⟨_, _, rfl, own_keep own9 (fun g cur hg hgg _ => setRow_other _ gR g _ (fun eq => by subst eq; have j8 := res9; unfold Lies at j8; rw [hgg] at j8; injection j8 with h6; injection h6 with _ h7 _; revert h7; decide)), lies_setRow' rd9 hBR _, hA1, oth9.row hJB.r _⟩
        | true =>
          obtain ⟨HGn, HGs⟩ := HGo.out (by rw [HG1.out]; exact hGO) (Nat.le_refl _)
          clear HGo HSt HG1
          have HGn : Hid _ := HGn
          have HGs : Hid _ := HGs
          have hSay := saying_p B s q (j + 1) _ hW7.rd hA1 hs hc (by omega)
          go_wp2_with fail
          refine hSay.mono ?_
          rintro e w8 ⟨q2, d, rd8, hA8, oth8, hd1, hd2, hway⟩
          have hW8 := hW7.reader hJB oth8 rd8
          have L9 := Lies.new w8 155 #[.int .i64 0, .string ⟨#[]⟩]
          rcases hway with ⟨hn1, hn2, rfl⟩ | ⟨j2, z, hn1, hz, hnz, rfl, rfl⟩
          · obtain ⟨e1, e2, e3⟩ := HGn.out hn1
            obtain rfl : d = (cutL (un s)).length := by omega
            clear HGn HGs
            have hW9 := hW8.below (below_setRow' ((Below.refl _ w8).alloc (Nat.le_refl _) (.cells #[.int .i64 0, .string ⟨#[]⟩] 155)) (Nat.le_refl _) (flC 0 ⟨#[]⟩))
            go_wp2_with (refine wpList_store_row rfl 155 (.tmp 13) (.tmp 52) rfl w8.heap.size (flC 0 ⟨#[]⟩) rfl rfl 155 _ L9 fl_info rfl (fl_one _ _) ?_)
            have hSt8 := Tryz.Builder_String_any_k gT gT _ _ (Lib.IsBuilderF.of hW9.bld) (Nat.le_of_lt (bld_lt hW9.bld))
            refine hSt8.mono ?_
            rintro e w8 ⟨rfl, _, hl8, hk8⟩
            obtain ⟨oth8, rd8, res8, jn8, own8⟩ := hW9.told hJB hl8 hk8
            have l8 : w8.cell? ⟨gJ, 1, none⟩ = some (.string ⟨#[]⟩) := jn8.cell (i := 1) rfl
            have f8 := jn8.frozen 1
            have jn9 := Lies.set (i := 1) jn8 (.string (bs (T ++ segN ec fr y)))
            have res9 := lies_set' (i := 1) res8 hJB.rj (.string (bs (T ++ segN ec fr y)))
            have rd9 := lies_set' (i := 1) rd8 hBJ (.string (bs (T ++ segN ec fr y)))
            have own9 : (w8.setCell ⟨gJ, 1, none⟩ (.string (bs (T ++ segN ec fr y)))).ownsRow w.heap.size 73 3 _ _ _ := own_keep own8 (fun g cur hg hgg _ => Below.heap_setCell w8 ⟨gJ, 1, none⟩ _ g (fun eq => by subst eq; have j8 := jn8; unfold Lies at j8; rw [hgg] at j8; injection j8 with h6; injection h6 with _ h7 _; revert h7; decide))
            have oth9 : Oth B w (w8.setCell ⟨gJ, 1, none⟩ (.string (bs (T ++ segN ec fr y)))) := ⟨oth8.os, oth8.tape, oth8.output, by simpa using oth8.size, fun k h1 h2 => (Below.heap_setCell w8 ⟨gJ, 1, none⟩ _ k (by have := hJB.j; simp; omega)).trans (oth8.block k h1 h2)⟩
            go_wp2_with (first
              | (refine wpList_load_row rfl 64 (.tmp 8) rfl gJ rfl 64 (lnC (i + 1) (bs (T ++ segN ec fr y)) _ nilS) (0, 0) _ jn9 Tryz.underlying64 rfl ln_info ?_)
              | (refine wpList_store_row rfl 64 (.tmp 6) (.tmp 59) rfl gR (lnC (i + 1) (bs (T ++ segN ec fr y)) _ nilS) rfl rfl 64 _ res9 ln_info rfl (ln_one _ _ _ (own_sl own8)) ?_))
            refine bodyPost_ret (results_cell_row rfl _ _ gR 64 (lnC (i + 1) (bs (T ++ segN ec fr y)) _ nilS) (0, 0) _ rfl (lies_setRow res9 _) Tryz.underlying64 rfl ln_info) rfl ?_
            rw [e1, e2, e3]
            exact ⟨_, _, rfl, own_keep own9 (fun g cur hg hgg _ => setRow_other _ gR g _ (fun eq => by subst eq; have j8 := res9; unfold Lies at j8; rw [hgg] at j8; injection j8 with h6; injection h6 with _ h7 _; revert h7; decide)), lies_setRow' rd9 hBR _, hA8, oth9.row hJB.r _⟩
          · have hI2 := HGs.out j2 z hn1 hz hnz
            clear HGn HGs
            have hW9 := hW8.below (below_setRow' ((Below.refl _ w8).alloc (Nat.le_refl _) (.cells #[.int .i64 0, .string ⟨#[]⟩] 155)) (Nat.le_refl _) (flC (j2 + 1) (bs z)))
            have L10 := lies_setRow L9 (flC (j2 + 1) (bs z))
            have hW10 := hW9.next hJB (j2 + 1) (bs z)
            go_wp2_with (first
              | (refine wpList_store_row rfl 155 (.tmp 13) (.tmp 52) rfl w8.heap.size (flC (j2 + 1) (bs z)) rfl rfl 155 _ L9 fl_info rfl (fl_one _ _) ?_)
              | (refine wpList_load_row rfl 155 (.tmp 13) rfl w8.heap.size rfl 155 (flC (j2 + 1) (bs z)) (0, 0) _ L10 Tryz.underlying155 rfl fl_info ?_)
              | (refine wpList_store_row rfl 155 (.tmp 9) (.tmp 56) rfl gH (flC (j2 + 1) (bs z)) rfl rfl 155 _ hW9.hr fl_info rfl (fl_one _ _) ?_))
            go_roundw
            case rel =>
              (repeat apply Exists.intro)
              refine ⟨?_, rfl⟩
              exact ⟨j2, 0, z, _, _, q2, _, rfl, hI2, hA8, hW10⟩
            case measure =>
              have e1 := Lies.cell hW10.rd (i := 2) rfl
              have e2 := Lies.cell hW1.rd (i := 2) rfl
              have := (List.getElem?_eq_some_iff.1 hz).1
              have := nextS_some hn1
              rw [e1, e2]; simp [intOf]; omega
      · intro K' hK
        rw [if_pos (by rfl)]
        go_wp2_with fail
        refine hLen.mono ?_
        rintro e w4 ⟨rfl, rfl⟩
        go_wp2_with fail
        refine hK.out _ _ c2 (fun h0 => ?_)
        clear hK
        try dsimp [Act.put]
        try simp only [List.setIfInBounds_toArray, List.set_cons_succ, List.set_cons_zero]
        refine wpAnyH_take (i := 7) (v := .agg #[.int .i64 T.length, .int .i64 ((j : Int) + 1), .int .i64 ((fr : Int) + 1)]) rfl (by kernel_rfl) (by kernel_rfl) (by kernel_rfl) (fun _ _ _ h => h) (Or.inl ⟨by rfl, fun W hSw => by have s0 := hSw; go_simp⟩) h0 ?_
        try dsimp [Act.put]
        try simp only [List.setIfInBounds_toArray, List.set_cons_succ, List.set_cons_zero]
        refine wpAnyH_ready (rs := [1, 8]) (by kernel_rfl) (by simp) ?_
        refine AllReadyH.cons rfl ?_ (AllReadyH.cons rfl ?_ AllReadyH.nil)
        · intro K' hK
          rw [if_pos (by rfl)]
          go_simp
          refine hK.out _ _ c2 (fun h0 => ?_)
          clear hK
          try dsimp [Act.put]
          try simp only [List.setIfInBounds_toArray, List.set_cons_succ, List.set_cons_zero]
          refine wpAnyH_ready (rs := [8]) (by kernel_rfl) (by simp) ?_
          refine AllReadyH.cons rfl ?_ AllReadyH.nil
          intro K' hK
          rw [if_pos (by rfl)]
          go_simp
          have hWA := hW3.below ((Below.refl _ _).alloc (Nat.le_refl _) (.cells (mcs ⟨T.length, j + 1, fr + 1⟩).toArray 73))
          refine hK.out _ _ (hWA.hr.cell (i := 0) rfl) (fun h0 => ?_)
          clear hK
          try dsimp [Act.put]
          try simp only [List.setIfInBounds_toArray, List.set_cons_succ, List.set_cons_zero]
          refine wpAnyH_ready (rs := [9]) (by kernel_rfl) (by simp) ?_
          refine AllReadyH.cons rfl ?_ AllReadyH.nil
          intro K' hK
          rw [if_pos (by rfl)]
          refine wp_append_row _ _ _ 61 rfl w.heap.size 73 i0 (.agg #[.int .i64 0, .int .i64 0, .int .i64 0]) 3 24 Tryz.underlying61 hi z0 z1 z2 rfl (by decide) _ _ _ rfl hWA.own ⟨w2.drew.heap.size, 0, none⟩ 1 1 (mcs ⟨T.length, j + 1, fr + 1⟩) rfl rfl (cells_new w2.drew 73 (mcs ⟨T.length, j + 1, fr + 1⟩)) (by intro a ha; simp [mcs] at ha; rcases ha with rfl | rfl | rfl <;> rfl) (by unfold maxLen; omega) (by omega) hWA.oth.size ?_
          intro u5 w5 hown5 hgr5
          have hW5 := hWA.mark hJB ⟨T.length, j + 1, fr + 1⟩ hgr5 hown5
          obtain ⟨jn5, hr5⟩ := hWA.grew hgr5
          refine hK.out _ _ (hr5.cell (i := 0) rfl) (fun h0 => ?_)
          clear hK
          try dsimp [Act.put]
          try simp only [List.setIfInBounds_toArray, List.set_cons_succ, List.set_cons_zero]
          refine wpAnyH_take (i := 10) (v := .pointer (some ⟨gJ, 2, none⟩)) rfl (by kernel_rfl) (by kernel_rfl) (by kernel_rfl) (fun _ _ _ h => h) (Or.inl ⟨by rfl, fun W hSw => by have s0 := hSw; go_simp⟩) h0 ?_
          try dsimp [Act.put]
          try simp only [List.setIfInBounds_toArray, List.set_cons_succ, List.set_cons_zero]
          have l2 : w5.cell? ⟨gJ, 2, none⟩ = some u := jn5.cell (i := 2) rfl
          have f2 := jn5.frozen 2
          obtain ⟨a5, k5, p5, rfl⟩ := own_sl hown5
          refine wpAnyH_ready (rs := [11]) (by kernel_rfl) (by simp) ?_
          refine AllReadyH.cons rfl ?_ AllReadyH.nil
          intro K' hK
          rw [if_pos (by rfl)]
          go_simp
          refine hK.out _ _ (hW5.hr.cell (i := 0) rfl) (fun h0 => ?_)
          clear hK
          try dsimp [Act.put]
          try simp only [List.setIfInBounds_toArray, List.set_cons_succ, List.set_cons_zero]
          refine wpAnyH_done (by kernel_rfl) ?_ _
          refine NoPanic.normal ?_
          generalize hw6 : w5.setCell ⟨gJ, 2, none⟩ (.slice a5 k5 p5) = w6 at *
          have l3 : w6.cell? ⟨gH, 1, none⟩ = some (.string (bs y)) := hW5.hr.cell (i := 1) rfl
          have hWS := wstring_p gT gT T (bs ((y.take (edN ec 0 y)).drop fr)) w6 hW5.bld (by rw [size_bs, List.length_drop, List.length_take]; omega) (by have := hW5.bld; exact Nat.le_of_lt (bld_lt this))
          rw [un_bs] at hWS
          have hX : (bs y).extract fr (edN ec 0 y) = bs ((y.take (edN ec 0 y)).drop fr) := by rw [ext_bs, un_bs]
          have x1 : (0 : Int) ≤ (fr : Int) := by omega
          have x2 : (fr : Int) ≤ (edN ec 0 y : Int) := by omega
          have x3 : (edN ec 0 y : Int) ≤ ((bs y).size : Int) := by rw [size_bs]; omega
          go_wp2_with fail
          refine hWS.mono ?_
          rintro e w7 ⟨rfl, hb7, hl7, hk7⟩
          have hW7 := hW5.wrote hJB hb7 hl7 hk7
          rw [← hsg.out, ← hmk.out] at hW7
          have hBJ : B ≠ gJ := by have := hJB.b; have := hJB.j; omega
          have hBR : B ≠ gR := by have := hJB.b; have := hJB.r; omega
          cases hGO : goesOn ec 0 y with
          | false =>
            obtain ⟨e1, e2, e3⟩ := HSt.out (by rw [HG1.out]; exact hGO)
            clear HGo HSt HG1
            have hSt8 := Tryz.Builder_String_any_k gT gT _ _ (Lib.IsBuilderF.of hW7.bld) (Nat.le_of_lt (bld_lt hW7.bld))
            go_wp2_with fail
            refine hSt8.mono ?_
            rintro e w8 ⟨rfl, _, hl8, hk8⟩
            obtain ⟨oth8, rd8, res8, jn8, own8⟩ := hW7.told hJB hl8 hk8
            have l8 : w8.cell? ⟨gJ, 1, none⟩ = some (.string ⟨#[]⟩) := jn8.cell (i := 1) rfl
            have f8 := jn8.frozen 1
            have jn9 := Lies.set (i := 1) jn8 (.string (bs (T ++ segN ec fr y)))
            have res9 := lies_set' (i := 1) res8 hJB.rj (.string (bs (T ++ segN ec fr y)))
            have rd9 := lies_set' (i := 1) rd8 hBJ (.string (bs (T ++ segN ec fr y)))
            have own9 : (w8.setCell ⟨gJ, 1, none⟩ (.string (bs (T ++ segN ec fr y)))).ownsRow w.heap.size 73 3 _ _ _ := own_keep own8 (fun g cur hg hgg _ => Below.heap_setCell w8 ⟨gJ, 1, none⟩ _ g (fun eq => by subst eq; have j8 := jn8; unfold Lies at j8; rw [hgg] at j8; injection j8 with h6; injection h6 with _ h7 _; revert h7; decide))
            have oth9 : Oth B w (w8.setCell ⟨gJ, 1, none⟩ (.string (bs (T ++ segN ec fr y)))) := ⟨oth8.os, oth8.tape, oth8.output, by simpa using oth8.size, fun k h1 h2 => (Below.heap_setCell w8 ⟨gJ, 1, none⟩ _ k (by have := hJB.j; simp; omega)).trans (oth8.block k h1 h2)⟩
            go_wp2_with (first
              | (refine wpList_load_row rfl 64 (.tmp 8) rfl gJ rfl 64 (lnC (i + 1) (bs (T ++ segN ec fr y)) _ nilS) (0, 0) _ jn9 Tryz.underlying64 rfl ln_info ?_)
              | (refine wpList_store_row rfl 64 (.tmp 6) (.tmp 59) rfl gR (lnC (i + 1) (bs (T ++ segN ec fr y)) _ nilS) rfl rfl 64 _ res9 ln_info rfl (ln_one _ _ _ (own_sl own8)) ?_))
            refine bodyPost_ret (results_cell_row rfl _ _ gR 64 (lnC (i + 1) (bs (T ++ segN ec fr y)) _ nilS) (0, 0) _ rfl (lies_setRow res9 _) Tryz.underlying64 rfl ln_info) rfl ?_
            rw [e1, e2, e3]
            exact ⟨_, _, rfl, own_keep own9 (fun g cur hg hgg _ => setRow_other _ gR g _ (fun eq => by subst eq; have j8 := res9; unfold Lies at j8; rw [hgg] at j8; injection j8 with h6; injection h6 with _ h7 _; revert h7; decide)), lies_setRow' rd9 hBR _, hA1, oth9.row hJB.r _⟩
          | true =>
            obtain ⟨HGn, HGs⟩ := HGo.out (by rw [HG1.out]; exact hGO) (Nat.le_refl _)
            clear HGo HSt HG1
            have HGn : Hid _ := HGn
            have HGs : Hid _ := HGs
            have hSay := saying_p B s q (j + 1) _ hW7.rd hA1 hs hc (by omega)
            go_wp2_with fail
            refine hSay.mono ?_
            rintro e w8 ⟨q2, d, rd8, hA8, oth8, hd1, hd2, hway⟩
            have hW8 := hW7.reader hJB oth8 rd8
            have L9 := Lies.new w8 155 #[.int .i64 0, .string ⟨#[]⟩]
            rcases hway with ⟨hn1, hn2, rfl⟩ | ⟨j2, z, hn1, hz, hnz, rfl, rfl⟩
            · obtain ⟨e1, e2, e3⟩ := HGn.out hn1
              obtain rfl : d = (cutL (un s)).length := by omega
              clear HGn HGs
              have hW9 := hW8.below (below_setRow' ((Below.refl _ w8).alloc (Nat.le_refl _) (.cells #[.int .i64 0, .string ⟨#[]⟩] 155)) (Nat.le_refl _) (flC 0 ⟨#[]⟩))
              go_wp2_with (refine wpList_store_row rfl 155 (.tmp 13) (.tmp 52) rfl w8.heap.size (flC 0 ⟨#[]⟩) rfl rfl 155 _ L9 fl_info rfl (fl_one _ _) ?_)
              have hSt8 := Tryz.Builder_String_any_k gT gT _ _ (Lib.IsBuilderF.of hW9.bld) (Nat.le_of_lt (bld_lt hW9.bld))
              refine hSt8.mono ?_
              rintro e w8 ⟨rfl, _, hl8, hk8⟩
              obtain ⟨oth8, rd8, res8, jn8, own8⟩ := hW9.told hJB hl8 hk8
              have l8 : w8.cell? ⟨gJ, 1, none⟩ = some (.string ⟨#[]⟩) := jn8.cell (i := 1) rfl
              have f8 := jn8.frozen 1
              have jn9 := Lies.set (i := 1) jn8 (.string (bs (T ++ segN ec fr y)))
              have res9 := lies_set' (i := 1) res8 hJB.rj (.string (bs (T ++ segN ec fr y)))
              have rd9 := lies_set' (i := 1) rd8 hBJ (.string (bs (T ++ segN ec fr y)))
              have own9 : (w8.setCell ⟨gJ, 1, none⟩ (.string (bs (T ++ segN ec fr y)))).ownsRow w.heap.size 73 3 _ _ _ := own_keep own8 (fun g cur hg hgg _ => Below.heap_setCell w8 ⟨gJ, 1, none⟩ _ g (fun eq => by subst eq; have j8 := jn8; unfold Lies at j8; rw [hgg] at j8; injection j8 with h6; injection h6 with _ h7 _; revert h7; decide))
              have oth9 : Oth B w (w8.setCell ⟨gJ, 1, none⟩ (.string (bs (T ++ segN ec fr y)))) := ⟨oth8.os, oth8.tape, oth8.output, by simpa using oth8.size, fun k h1 h2 => (Below.heap_setCell w8 ⟨gJ, 1, none⟩ _ k (by have := hJB.j; simp; omega)).trans (oth8.block k h1 h2)⟩
              go_wp2_with (first
                | (refine wpList_load_row rfl 64 (.tmp 8) rfl gJ rfl 64 (lnC (i + 1) (bs (T ++ segN ec fr y)) _ nilS) (0, 0) _ jn9 Tryz.underlying64 rfl ln_info ?_)
                | (refine wpList_store_row rfl 64 (.tmp 6) (.tmp 59) rfl gR (lnC (i + 1) (bs (T ++ segN ec fr y)) _ nilS) rfl rfl 64 _ res9 ln_info rfl (ln_one _ _ _ (own_sl own8)) ?_))
              refine bodyPost_ret (results_cell_row rfl _ _ gR 64 (lnC (i + 1) (bs (T ++ segN ec fr y)) _ nilS) (0, 0) _ rfl (lies_setRow res9 _) Tryz.underlying64 rfl ln_info) rfl ?_
              rw [e1, e2, e3]
              exact ⟨_, _, rfl, own_keep own9 (fun g cur hg hgg _ => setRow_other _ gR g _ (fun eq => by subst eq; have j8 := res9; unfold Lies at j8; rw [hgg] at j8; injection j8 with h6; injection h6 with _ h7 _; revert h7; decide)), lies_setRow' rd9 hBR _, hA8, oth9.row hJB.r _⟩
            · have hI2 := HGs.out j2 z hn1 hz hnz
              clear HGn HGs
              have hW9 := hW8.below (below_setRow' ((Below.refl _ w8).alloc (Nat.le_refl _) (.cells #[.int .i64 0, .string ⟨#[]⟩] 155)) (Nat.le_refl _) (flC (j2 + 1) (bs z)))
              have L10 := lies_setRow L9 (flC (j2 + 1) (bs z))
              have hW10 := hW9.next hJB (j2 + 1) (bs z)
              go_wp2_with (first
                | (refine wpList_store_row rfl 155 (.tmp 13) (.tmp 52) rfl w8.heap.size (flC (j2 + 1) (bs z)) rfl rfl 155 _ L9 fl_info rfl (fl_one _ _) ?_)
                | (refine wpList_load_row rfl 155 (.tmp 13) rfl w8.heap.size rfl 155 (flC (j2 + 1) (bs z)) (0, 0) _ L10 Tryz.underlying155 rfl fl_info ?_)
                | (refine wpList_store_row rfl 155 (.tmp 9) (.tmp 56) rfl gH (flC (j2 + 1) (bs z)) rfl rfl 155 _ hW9.hr fl_info rfl (fl_one _ _) ?_))
              go_roundw
              case rel =>
                (repeat apply Exists.intro)
                refine ⟨?_, rfl⟩
                exact ⟨j2, 0, z, _, _, q2, _, rfl, hI2, hA8, hW10⟩
              case measure =>
                have e1 := Lies.cell hW10.rd (i := 2) rfl
                have e2 := Lies.cell hW1.rd (i := 2) rfl
                have := (List.getElem?_eq_some_iff.1 hz).1
                have := nextS_some hn1
                rw [e1, e2]; simp [intOf]; omega
        · intro K' hK
          rw [if_pos (by rfl)]
          go_simp
          have hWA := hW3.below ((Below.refl _ _).alloc (Nat.le_refl _) (.cells (mcs ⟨T.length, j + 1, fr + 1⟩).toArray 73))
          refine hK.out _ _ (hWA.hr.cell (i := 0) rfl) (fun h0 => ?_)
          clear hK
          try dsimp [Act.put]
          try simp only [List.setIfInBounds_toArray, List.set_cons_succ, List.set_cons_zero]
          have c3 : (w2.drew.alloc (.cells (mcs ⟨T.length, j + 1, fr + 1⟩).toArray 73)).cell? ⟨gJ, 2, none⟩ = some u := hWA.jn.cell (i := 2) rfl
          have c4 : (w2.alloc (.cells #[.int .i64 T.length, .int .i64 ((j : Int) + 1), .int .i64 ((fr : Int) + 1)] 73)).drew.cell? ⟨gJ, 2, none⟩ = some u := c3
          refine wpAnyH_ready (rs := [1]) (by kernel_rfl) (by simp) ?_
          refine AllReadyH.cons rfl ?_ AllReadyH.nil
          intro K' hK
          rw [if_pos (by rfl)]
          go_simp
          refine hK.out _ _ (hWA.hr.cell (i := 0) rfl) (fun h0 => ?_)
          clear hK
          try dsimp [Act.put]
          try simp only [List.setIfInBounds_toArray, List.set_cons_succ, List.set_cons_zero]
          refine wpAnyH_ready (rs := [9]) (by kernel_rfl) (by simp) ?_
          refine AllReadyH.cons rfl ?_ AllReadyH.nil
          intro K' hK
          rw [if_pos (by rfl)]
          refine wp_append_row _ _ _ 61 rfl w.heap.size 73 i0 (.agg #[.int .i64 0, .int .i64 0, .int .i64 0]) 3 24 Tryz.underlying61 hi z0 z1 z2 rfl (by decide) _ _ _ rfl hWA.own ⟨w2.drew.heap.size, 0, none⟩ 1 1 (mcs ⟨T.length, j + 1, fr + 1⟩) rfl rfl (cells_new w2.drew 73 (mcs ⟨T.length, j + 1, fr + 1⟩)) (by intro a ha; simp [mcs] at ha; rcases ha with rfl | rfl | rfl <;> rfl) (by unfold maxLen; omega) (by omega) hWA.oth.size ?_
          intro u5 w5 hown5 hgr5
          have hW5 := hWA.mark hJB ⟨T.length, j + 1, fr + 1⟩ hgr5 hown5
          obtain ⟨jn5, hr5⟩ := hWA.grew hgr5
          refine hK.out _ _ (hr5.cell (i := 0) rfl) (fun h0 => ?_)
          clear hK
          try dsimp [Act.put]
          try simp only [List.setIfInBounds_toArray, List.set_cons_succ, List.set_cons_zero]
          refine wpAnyH_take (i := 10) (v := .pointer (some ⟨gJ, 2, none⟩)) rfl (by kernel_rfl) (by kernel_rfl) (by kernel_rfl) (fun _ _ _ h => h) (Or.inl ⟨by rfl, fun W hSw => by have s0 := hSw; go_simp⟩) h0 ?_
          try dsimp [Act.put]
          try simp only [List.setIfInBounds_toArray, List.set_cons_succ, List.set_cons_zero]
          have l2 : w5.cell? ⟨gJ, 2, none⟩ = some u := jn5.cell (i := 2) rfl
          have f2 := jn5.frozen 2
          obtain ⟨a5, k5, p5, rfl⟩ := own_sl hown5
          refine wpAnyH_ready (rs := [11]) (by kernel_rfl) (by simp) ?_
          refine AllReadyH.cons rfl ?_ AllReadyH.nil
          intro K' hK
          rw [if_pos (by rfl)]
          go_simp
          refine hK.out _ _ (hW5.hr.cell (i := 0) rfl) (fun h0 => ?_)
          clear hK
          try dsimp [Act.put]
          try simp only [List.setIfInBounds_toArray, List.set_cons_succ, List.set_cons_zero]
          refine wpAnyH_done (by kernel_rfl) ?_ _
          refine NoPanic.normal ?_
          generalize hw6 : w5.setCell ⟨gJ, 2, none⟩ (.slice a5 k5 p5) = w6 at *
          have l3 : w6.cell? ⟨gH, 1, none⟩ = some (.string (bs y)) := hW5.hr.cell (i := 1) rfl
          have hWS := wstring_p gT gT T (bs ((y.take (edN ec 0 y)).drop fr)) w6 hW5.bld (by rw [size_bs, List.length_drop, List.length_take]; omega) (by have := hW5.bld; exact Nat.le_of_lt (bld_lt this))
          rw [un_bs] at hWS
          have hX : (bs y).extract fr (edN ec 0 y) = bs ((y.take (edN ec 0 y)).drop fr) := by rw [ext_bs, un_bs]
          have x1 : (0 : Int) ≤ (fr : Int) := by omega
          have x2 : (fr : Int) ≤ (edN ec 0 y : Int) := by omega
          have x3 : (edN ec 0 y : Int) ≤ ((bs y).size : Int) := by rw [size_bs]; omega
          go_wp2_with fail
          refine hWS.mono ?_
          rintro e w7 ⟨rfl, hb7, hl7, hk7⟩
          have hW7 := hW5.wrote hJB hb7 hl7 hk7
          rw [← hsg.out, ← hmk.out] at hW7
          have hBJ : B ≠ gJ := by have := hJB.b; have := hJB.j; omega
          have hBR : B ≠ gR := by have := hJB.b; have := hJB.r; omega
          cases hGO : goesOn ec 0 y with
          | false =>
            obtain ⟨e1, e2, e3⟩ := HSt.out (by rw [HG1.out]; exact hGO)
            clear HGo HSt HG1
            have hSt8 := Tryz.Builder_String_any_k gT gT _ _ (Lib.IsBuilderF.of hW7.bld) (Nat.le_of_lt (bld_lt hW7.bld))
            go_wp2_with fail
            refine hSt8.mono ?_
            rintro e w8 ⟨rfl, _, hl8, hk8⟩
            obtain ⟨oth8, rd8, res8, jn8, own8⟩ := hW7.told hJB hl8 hk8
            have l8 : w8.cell? ⟨gJ, 1, none⟩ = some (.string ⟨#[]⟩) := jn8.cell (i := 1) rfl
            have f8 := jn8.frozen 1
            have jn9 := Lies.set (i := 1) jn8 (.string (bs (T ++ segN ec fr y)))
            have res9 := lies_set' (i := 1) res8 hJB.rj (.string (bs (T ++ segN ec fr y)))
            have rd9 := lies_set' (i := 1) rd8 hBJ (.string (bs (T ++ segN ec fr y)))
            have own9 : (w8.setCell ⟨gJ, 1, none⟩ (.string (bs (T ++ segN ec fr y)))).ownsRow w.heap.size 73 3 _ _ _ := own_keep own8 (fun g cur hg hgg _ => Below.heap_setCell w8 ⟨gJ, 1, none⟩ _ g (fun eq => by subst eq; have j8 := jn8; unfold Lies at j8; rw [hgg] at j8; injection j8 with h6; injection h6 with _ h7 _; revert h7; decide))
            have oth9 : Oth B w (w8.setCell ⟨gJ, 1, none⟩ (.string (bs (T ++ segN ec fr y)))) := ⟨oth8.os, oth8.tape, oth8.output, by simpa using oth8.size, fun k h1 h2 => (Below.heap_setCell w8 ⟨gJ, 1, none⟩ _ k (by have := hJB.j; simp; omega)).trans (oth8.block k h1 h2)⟩
            go_wp2_with (first
              | (refine wpList_load_row rfl 64 (.tmp 8) rfl gJ rfl 64 (lnC (i + 1) (bs (T ++ segN ec fr y)) _ nilS) (0, 0) _ jn9 Tryz.underlying64 rfl ln_info ?_)
              | (refine wpList_store_row rfl 64 (.tmp 6) (.tmp 59) rfl gR (lnC (i + 1) (bs (T ++ segN ec fr y)) _ nilS) rfl rfl 64 _ res9 ln_info rfl (ln_one _ _ _ (own_sl own8)) ?_))
            refine bodyPost_ret (results_cell_row rfl _ _ gR 64 (lnC (i + 1) (bs (T ++ segN ec fr y)) _ nilS) (0, 0) _ rfl (lies_setRow res9 _) Tryz.underlying64 rfl ln_info) rfl ?_
            rw [e1, e2, e3]
            exact ⟨_, _, rfl, own_keep own9 (fun g cur hg hgg _ => setRow_other _ gR g _ (fun eq => by subst eq; have j8 := res9; unfold Lies at j8; rw [hgg] at j8; injection j8 with h6; injection h6 with _ h7 _; revert h7; decide)), lies_setRow' rd9 hBR _, hA1, oth9.row hJB.r _⟩
          | true =>
            obtain ⟨HGn, HGs⟩ := HGo.out (by rw [HG1.out]; exact hGO) (Nat.le_refl _)
            clear HGo HSt HG1
            have HGn : Hid _ := HGn
            have HGs : Hid _ := HGs
            have hSay := saying_p B s q (j + 1) _ hW7.rd hA1 hs hc (by omega)
            go_wp2_with fail
            refine hSay.mono ?_
            rintro e w8 ⟨q2, d, rd8, hA8, oth8, hd1, hd2, hway⟩
            have hW8 := hW7.reader hJB oth8 rd8
            have L9 := Lies.new w8 155 #[.int .i64 0, .string ⟨#[]⟩]
            rcases hway with ⟨hn1, hn2, rfl⟩ | ⟨j2, z, hn1, hz, hnz, rfl, rfl⟩
            · obtain ⟨e1, e2, e3⟩ := HGn.out hn1
              obtain rfl : d = (cutL (un s)).length := by omega
              clear HGn HGs
              have hW9 := hW8.below (below_setRow' ((Below.refl _ w8).alloc (Nat.le_refl _) (.cells #[.int .i64 0, .string ⟨#[]⟩] 155)) (Nat.le_refl _) (flC 0 ⟨#[]⟩))
              go_wp2_with (refine wpList_store_row rfl 155 (.tmp 13) (.tmp 52) rfl w8.heap.size (flC 0 ⟨#[]⟩) rfl rfl 155 _ L9 fl_info rfl (fl_one _ _) ?_)
              have hSt8 := Tryz.Builder_String_any_k gT gT _ _ (Lib.IsBuilderF.of hW9.bld) (Nat.le_of_lt (bld_lt hW9.bld))
              refine hSt8.mono ?_
              rintro e w8 ⟨rfl, _, hl8, hk8⟩
              obtain ⟨oth8, rd8, res8, jn8, own8⟩ := hW9.told hJB hl8 hk8
              have l8 : w8.cell? ⟨gJ, 1, none⟩ = some (.string ⟨#[]⟩) := jn8.cell (i := 1) rfl
              have f8 := jn8.frozen 1
              have jn9 := Lies.set (i := 1) jn8 (.string (bs (T ++ segN ec fr y)))
              have res9 := lies_set' (i := 1) res8 hJB.rj (.string (bs (T ++ segN ec fr y)))
              have rd9 := lies_set' (i := 1) rd8 hBJ (.string (bs (T ++ segN ec fr y)))
              have own9 : (w8.setCell ⟨gJ, 1, none⟩ (.string (bs (T ++ segN ec fr y)))).ownsRow w.heap.size 73 3 _ _ _ := own_keep own8 (fun g cur hg hgg _ => Below.heap_setCell w8 ⟨gJ, 1, none⟩ _ g (fun eq => by subst eq; have j8 := jn8; unfold Lies at j8; rw [hgg] at j8; injection j8 with h6; injection h6 with _ h7 _; revert h7; decide))
              have oth9 : Oth B w (w8.setCell ⟨gJ, 1, none⟩ (.string (bs (T ++ segN ec fr y)))) := ⟨oth8.os, oth8.tape, oth8.output, by simpa using oth8.size, fun k h1 h2 => (Below.heap_setCell w8 ⟨gJ, 1, none⟩ _ k (by have := hJB.j; simp; omega)).trans (oth8.block k h1 h2)⟩
              go_wp2_with (first
                | (refine wpList_load_row rfl 64 (.tmp 8) rfl gJ rfl 64 (lnC (i + 1) (bs (T ++ segN ec fr y)) _ nilS) (0, 0) _ jn9 Tryz.underlying64 rfl ln_info ?_)
                | (refine wpList_store_row rfl 64 (.tmp 6) (.tmp 59) rfl gR (lnC (i + 1) (bs (T ++ segN ec fr y)) _ nilS) rfl rfl 64 _ res9 ln_info rfl (ln_one _ _ _ (own_sl own8)) ?_))
              refine bodyPost_ret (results_cell_row rfl _ _ gR 64 (lnC (i + 1) (bs (T ++ segN ec fr y)) _ nilS) (0, 0) _ rfl (lies_setRow res9 _) Tryz.underlying64 rfl ln_info) rfl ?_
              rw [e1, e2, e3]
              exact ⟨_, _, rfl, own_keep own9 (fun g cur hg hgg _ => setRow_other _ gR g _ (fun eq => by subst eq; have j8 := res9; unfold Lies at j8; rw [hgg] at j8; injection j8 with h6; injection h6 with _ h7 _; revert h7; decide)), lies_setRow' rd9 hBR _, hA8, oth9.row hJB.r _⟩
            · have hI2 := HGs.out j2 z hn1 hz hnz
              clear HGn HGs
              have hW9 := hW8.below (below_setRow' ((Below.refl _ w8).alloc (Nat.le_refl _) (.cells #[.int .i64 0, .string ⟨#[]⟩] 155)) (Nat.le_refl _) (flC (j2 + 1) (bs z)))
              have L10 := lies_setRow L9 (flC (j2 + 1) (bs z))
              have hW10 := hW9.next hJB (j2 + 1) (bs z)
              go_wp2_with (first
                | (refine wpList_store_row rfl 155 (.tmp 13) (.tmp 52) rfl w8.heap.size (flC (j2 + 1) (bs z)) rfl rfl 155 _ L9 fl_info rfl (fl_one _ _) ?_)
                | (refine wpList_load_row rfl 155 (.tmp 13) rfl w8.heap.size rfl 155 (flC (j2 + 1) (bs z)) (0, 0) _ L10 Tryz.underlying155 rfl fl_info ?_)
                | (refine wpList_store_row rfl 155 (.tmp 9) (.tmp 56) rfl gH (flC (j2 + 1) (bs z)) rfl rfl 155 _ hW9.hr fl_info rfl (fl_one _ _) ?_))
              go_roundw
              case rel =>
                (repeat apply Exists.intro)
                refine ⟨?_, rfl⟩
                exact ⟨j2, 0, z, _, _, q2, _, rfl, hI2, hA8, hW10⟩
              case measure =>
                have e1 := Lies.cell hW10.rd (i := 2) rfl
                have e2 := Lies.cell hW1.rd (i := 2) rfl
                have := (List.getElem?_eq_some_iff.1 hz).1
                have := nextS_some hn1
                rw [e1, e2]; simp [intOf]; omega
    · have hmk : Hid (mksN ec fr T.length j y = []) := by unfold Hid mksN; rw [hg2, if_neg hlt]
      have hsg : Hid (segN ec fr y = []) := by unfold Hid; exact List.eq_nil_of_length_eq_zero (by rw [segN_len, hg2]; omega)
      have HGo : Hid _ := hGo
      have HSt : Hid _ := hSt
      have HG1 : Hid _ := hg1
      clear hE hGo hSt hg1 hg2
      have d1 : ¬ (fr : Int) < (edN ec 0 y : Int) := by omega
      have hW7 : JW w B gR gT gJ gH (i + 1) s q (j + 1) (j + 1) (bs y) u (M ++ mksN ec fr T.length j y) (T ++ segN ec fr y) w2 := by rw [hmk.out, hsg.out, List.append_nil, List.append_nil]; exact hW2
      have hBJ : B ≠ gJ := by have := hJB.b; have := hJB.j; omega
      have hBR : B ≠ gR := by have := hJB.b; have := hJB.r; omega
      cases hGO : goesOn ec 0 y with
      | false =>
        obtain ⟨e1, e2, e3⟩ := HSt.out (by rw [HG1.out]; exact hGO)
        clear HGo HSt HG1
        have hSt8 := Tryz.Builder_String_any_k gT gT _ _ (Lib.IsBuilderF.of hW7.bld) (Nat.le_of_lt (bld_lt hW7.bld))
        go_wp2_with fail
        refine hSt8.mono ?_
        rintro e w8 ⟨rfl, _, hl8, hk8⟩
        obtain ⟨oth8, rd8, res8, jn8, own8⟩ := hW7.told hJB hl8 hk8
        have l8 : w8.cell? ⟨gJ, 1, none⟩ = some (.string ⟨#[]⟩) := jn8.cell (i := 1) rfl
        have f8 := jn8.frozen 1
        have jn9 := Lies.set (i := 1) jn8 (.string (bs (T ++ segN ec fr y)))
        have res9 := lies_set' (i := 1) res8 hJB.rj (.string (bs (T ++ segN ec fr y)))
        have rd9 := lies_set' (i := 1) rd8 hBJ (.string (bs (T ++ segN ec fr y)))
        have own9 : (w8.setCell ⟨gJ, 1, none⟩ (.string (bs (T ++ segN ec fr y)))).ownsRow w.heap.size 73 3 _ _ _ := own_keep own8 (fun g cur hg hgg _ => Below.heap_setCell w8 ⟨gJ, 1, none⟩ _ g (fun eq => by subst eq; have j8 := jn8; unfold Lies at j8; rw [hgg] at j8; injection j8 with h6; injection h6 with _ h7 _; revert h7; decide))
        have oth9 : Oth B w (w8.setCell ⟨gJ, 1, none⟩ (.string (bs (T ++ segN ec fr y)))) := ⟨oth8.os, oth8.tape, oth8.output, by simpa using oth8.size, fun k h1 h2 => (Below.heap_setCell w8 ⟨gJ, 1, none⟩ _ k (by have := hJB.j; simp; omega)).trans (oth8.block k h1 h2)⟩
        go_wp2_with (first
          | (refine wpList_load_row rfl 64 (.tmp 8) rfl gJ rfl 64 (lnC (i + 1) (bs (T ++ segN ec fr y)) _ nilS) (0, 0) _ jn9 Tryz.underlying64 rfl ln_info ?_)
          | (refine wpList_store_row rfl 64 (.tmp 6) (.tmp 59) rfl gR (lnC (i + 1) (bs (T ++ segN ec fr y)) _ nilS) rfl rfl 64 _ res9 ln_info rfl (ln_one _ _ _ (own_sl own8)) ?_))
        refine bodyPost_ret (results_cell_row rfl _ _ gR 64 (lnC (i + 1) (bs (T ++ segN ec fr y)) _ nilS) (0, 0) _ rfl (lies_setRow res9 _) Tryz.underlying64 rfl ln_info) rfl ?_
        rw [e1, e2, e3]
        exact ⟨_, _, rfl, own_keep own9 (fun g cur hg hgg _ => setRow_other _ gR g _ (fun eq => by subst eq; have j8 := res9; unfold Lies at j8; rw [hgg] at j8; injection j8 with h6; injection h6 with _ h7 _; revert h7; decide)), lies_setRow' rd9 hBR _, hA1, oth9.row hJB.r _⟩
      | true =>
        obtain ⟨HGn, HGs⟩ := HGo.out (by rw [HG1.out]; exact hGO) (Nat.le_refl _)
        clear HGo HSt HG1
        have HGn : Hid _ := HGn
        have HGs : Hid _ := HGs
        have hSay := saying_p B s q (j + 1) _ hW7.rd hA1 hs hc (by omega)
        go_wp2_with fail
        refine hSay.mono ?_
        rintro e w8 ⟨q2, d, rd8, hA8, oth8, hd1, hd2, hway⟩
        have hW8 := hW7.reader hJB oth8 rd8
        have L9 := Lies.new w8 155 #[.int .i64 0, .string ⟨#[]⟩]
        rcases hway with ⟨hn1, hn2, rfl⟩ | ⟨j2, z, hn1, hz, hnz, rfl, rfl⟩
        · obtain ⟨e1, e2, e3⟩ := HGn.out hn1
          obtain rfl : d = (cutL (un s)).length := by omega
          clear HGn HGs
          have hW9 := hW8.below (below_setRow' ((Below.refl _ w8).alloc (Nat.le_refl _) (.cells #[.int .i64 0, .string ⟨#[]⟩] 155)) (Nat.le_refl _) (flC 0 ⟨#[]⟩))
          go_wp2_with (refine wpList_store_row rfl 155 (.tmp 13) (.tmp 52) rfl w8.heap.size (flC 0 ⟨#[]⟩) rfl rfl 155 _ L9 fl_info rfl (fl_one _ _) ?_)
          have hSt8 := Tryz.Builder_String_any_k gT gT _ _ (Lib.IsBuilderF.of hW9.bld) (Nat.le_of_lt (bld_lt hW9.bld))
          refine hSt8.mono ?_
          rintro e w8 ⟨rfl, _, hl8, hk8⟩
          obtain ⟨oth8, rd8, res8, jn8, own8⟩ := hW9.told hJB hl8 hk8
          have l8 : w8.cell? ⟨gJ, 1, none⟩ = some (.string ⟨#[]⟩) := jn8.cell (i := 1) rfl
          have f8 := jn8.frozen 1
          have jn9 := Lies.set (i := 1) jn8 (.string (bs (T ++ segN ec fr y)))
          have res9 := lies_set' (i := 1) res8 hJB.rj (.string (bs (T ++ segN ec fr y)))
          have rd9 := lies_set' (i := 1) rd8 hBJ (.string (bs (T ++ segN ec fr y)))
          have own9 : (w8.setCell ⟨gJ, 1, none⟩ (.string (bs (T ++ segN ec fr y)))).ownsRow w.heap.size 73 3 _ _ _ := own_keep own8 (fun g cur hg hgg _ => Below.heap_setCell w8 ⟨gJ, 1, none⟩ _ g (fun eq => by subst eq; have j8 := jn8; unfold Lies at j8; rw [hgg] at j8; injection j8 with h6; injection h6 with _ h7 _; revert h7; decide))
          have oth9 : Oth B w (w8.setCell ⟨gJ, 1, none⟩ (.string (bs (T ++ segN ec fr y)))) := ⟨oth8.os, oth8.tape, oth8.output, by simpa using oth8.size, fun k h1 h2 => (Below.heap_setCell w8 ⟨gJ, 1, none⟩ _ k (by have := hJB.j; simp; omega)).trans (oth8.block k h1 h2)⟩
          go_wp2_with (first
            | (refine wpList_load_row rfl 64 (.tmp 8) rfl gJ rfl 64 (lnC (i + 1) (bs (T ++ segN ec fr y)) _ nilS) (0, 0) _ jn9 Tryz.underlying64 rfl ln_info ?_)
            | (refine wpList_store_row rfl 64 (.tmp 6) (.tmp 59) rfl gR (lnC (i + 1) (bs (T ++ segN ec fr y)) _ nilS) rfl rfl 64 _ res9 ln_info rfl (ln_one _ _ _ (own_sl own8)) ?_))
          refine bodyPost_ret (results_cell_row rfl _ _ gR 64 (lnC (i + 1) (bs (T ++ segN ec fr y)) _ nilS) (0, 0) _ rfl (lies_setRow res9 _) Tryz.underlying64 rfl ln_info) rfl ?_
          rw [e1, e2, e3]
          exact ⟨_, _, rfl, own_keep own9 (fun g cur hg hgg _ => setRow_other _ gR g _ (fun eq => by subst eq; have j8 := res9; unfold Lies at j8; rw [hgg] at j8; injection j8 with h6; injection h6 with _ h7 _; revert h7; decide)), lies_setRow' rd9 hBR _, hA8, oth9.row hJB.r _⟩
        · have hI2 := HGs.out j2 z hn1 hz hnz
          clear HGn HGs
          have hW9 := hW8.below (below_setRow' ((Below.refl _ w8).alloc (Nat.le_refl _) (.cells #[.int .i64 0, .string ⟨#[]⟩] 155)) (Nat.le_refl _) (flC (j2 + 1) (bs z)))
          have L10 := lies_setRow L9 (flC (j2 + 1) (bs z))
          have hW10 := hW9.next hJB (j2 + 1) (bs z)
          go_wp2_with (first
            | (refine wpList_store_row rfl 155 (.tmp 13) (.tmp 52) rfl w8.heap.size (flC (j2 + 1) (bs z)) rfl rfl 155 _ L9 fl_info rfl (fl_one _ _) ?_)
            | (refine wpList_load_row rfl 155 (.tmp 13) rfl w8.heap.size rfl 155 (flC (j2 + 1) (bs z)) (0, 0) _ L10 Tryz.underlying155 rfl fl_info ?_)
            | (refine wpList_store_row rfl 155 (.tmp 9) (.tmp 56) rfl gH (flC (j2 + 1) (bs z)) rfl rfl 155 _ hW9.hr fl_info rfl (fl_one _ _) ?_))
          go_roundw
          case rel =>
            (repeat apply Exists.intro)
            refine ⟨?_, rfl⟩
            exact ⟨j2, 0, z, _, _, q2, _, rfl, hI2, hA8, hW10⟩
          case measure =>
            have e1 := Lies.cell hW10.rd (i := 2) rfl
            have e2 := Lies.cell hW1.rd (i := 2) rfl
            have := (List.getElem?_eq_some_iff.1 hz).1
            have := nextS_some hn1
            rw [e1, e2]; simp [intOf]; omega
end Go.Proofs.YtjgijbeedgggdaaGreatDoor
