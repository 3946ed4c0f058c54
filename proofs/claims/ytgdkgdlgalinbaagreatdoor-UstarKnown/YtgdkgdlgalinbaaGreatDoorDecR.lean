/- The document's Decode, walked. -/
import Derived.Test.YtgdkgdlgalinbaaGreatDoorRefN
import Derived.Test.YtgdkgdlgalinbaaGreatDoorDecU
import Derived.Test.YtgdkgdlgalinbaaGreatDoorDecS
import Derived.Deep.RegionHeld3
namespace Go.Proofs.YtgdkgdlgalinbaaGreatDoor
open Go Go.RowKit

theorem int64_info : (Tryz.prog.info? 2).map (fun i => (i.zero, i.size, i.bytes)) = some (some (.int .i64 0), 1, 8) := by kernel_rfl
/-- The eight numbers' fields in the document's order. -/
def gf : Nat → Nat | 0 => 1 | 1 => 2 | 2 => 3 | 3 => 4 | 4 => 5 | 5 => 6 | 6 => 12 | _ => 13
def vg (cs : List UInt8) (k : Nat) : Nat := (numV (fieldL cs (gf k))).1
def og (cs : List UInt8) (k : Nat) : Bool := (numV (fieldL cs (gf k))).2
def rowV (V : Nat → Nat) (k : Nat) : List Value := (List.range k).map (fun j => .int .i64 (V j : Int))
theorem rowV_succ (V : Nat → Nat) (k : Nat) : rowV V (k + 1) = rowV V k ++ [.int .i64 (V k : Int)] := by unfold rowV; rw [List.range_succ, List.map_append]; rfl
theorem rowV_length (V : Nat → Nat) (k : Nat) : (rowV V k).length = k := by unfold rowV; rw [List.length_map, List.length_range]
theorem rowV_get (V : Nat → Nat) (k j : Nat) (h : j < k) : (rowV V k)[j]? = some (.int .i64 (V j : Int)) := by
  unfold rowV
  rw [List.getElem?_map, List.getElem?_range h]; rfl
/-- The answer's place and the two tables. -/
structure Sx (w W : World) (b0 b1 b2 : Nat) : Prop where
  res : Lies W b0 28 (hcs zeroHd)
  fr : Lies W b1 3 #[.int .i64 100, .int .i64 108, .int .i64 116, .int .i64 124, .int .i64 136, .int .i64 148, .int .i64 329, .int .i64 337]
  tt : Lies W b2 3 #[.int .i64 108, .int .i64 116, .int .i64 124, .int .i64 136, .int .i64 148, .int .i64 156, .int .i64 337, .int .i64 345]
  bel : Below b0 w W
theorem Sx.below {w W W' : World} {b0 b1 b2 : Nat} (s : Sx w W b0 b1 b2) (b : Below W.heap.size W W') (h : b0 = w.heap.size) : Sx w W' b0 b1 b2 := ⟨s.res.below b, s.fr.below b, s.tt.below b, by subst h; exact below_join s.bel b⟩
theorem ext_field (s : ByteArray) (f : Nat) : un (s.extract (bg f) (bg (f + 1))) = fieldL (un s) f := by
  rw [un_extract, List.drop_take]; rfl
theorem num_field (s : ByteArray) (hsz : s.size = 512) (k : Nat) (hk : k < 8) (W : World) : Calls Tryz.prog 51 #[.string (s.extract (bg (gf k)) (bg (gf k + 1)))] W fun e w' => e = .returned (.tuple #[.int .i64 (vg (un s) k), .bool (og (un s) k)]) ∧ w' = W := by
  have h := number_r (s.extract (bg (gf k)) (bg (gf k + 1))) (by
    rw [size_extract' _ _ _ (by rw [hsz]; obtain rfl | rfl | rfl | rfl | rfl | rfl | rfl | rfl : k = 0 ∨ k = 1 ∨ k = 2 ∨ k = 3 ∨ k = 4 ∨ k = 5 ∨ k = 6 ∨ k = 7 := by omega
                                all_goals decide)]
    obtain rfl | rfl | rfl | rfl | rfl | rfl | rfl | rfl : k = 0 ∨ k = 1 ∨ k = 2 ∨ k = 3 ∨ k = 4 ∨ k = 5 ∨ k = 6 ∨ k = 7 := by omega
    all_goals decide) W
  rw [ext_field] at h
  exact h
set_option maxRecDepth 100000 in
set_option maxHeartbeats 4000000 in
theorem decode_r (s : ByteArray) (w : World) :
    Calls Tryz.prog 40 #[.string s] w fun e w' => e = .returned (.tuple #[.agg (hcs (decP s).1), .int .i64 (decP s).2]) ∧ Below w.heap.size w w' := by
  have R0 := Lies.new w 28 (hcs zeroHd)
  have B0 := (Below.refl _ w).alloc (Nat.le_refl _) (.cells (hcs zeroHd) 28)
  have R0r := R0.row (hcs zeroHd)
  have B0r := below_setRow B0 (Nat.le_refl _) (hcs zeroHd)
  by_cases hs1 : s.size < 512
  · have hs1' : (s.size : Int) < 512 := by omega
    go_enter Tryz.func40, Tryz.ntmps40
    go_wp2_with (refine wpList_store_row rfl 28 (.tmp 2) (.tmp 15) rfl w.heap.size (hcs zeroHd) rfl rfl 28 (hcs zeroHd) R0 info_hd rfl (hcs_one _) ?_)
    refine bodyPost_ret (results_c2 rfl _ _ w.heap.size 28 (hcs zeroHd) _ rfl R0r Tryz.underlying28 rfl info_hd) rfl ?_
    exact ⟨by unfold decP; rw [if_pos hs1]; rfl, B0r⟩
  have hs1' : ¬ (s.size : Int) < 512 := by omega
  by_cases hs2 : 512 < s.size
  · have hs2' : (512 : Int) < (s.size : Int) := by omega
    go_enter Tryz.func40, Tryz.ntmps40
    go_wp2_with (refine wpList_store_row rfl 28 (.tmp 2) (.tmp 19) rfl w.heap.size (hcs zeroHd) rfl rfl 28 (hcs zeroHd) R0 info_hd rfl (hcs_one _) ?_)
    refine bodyPost_ret (results_c2 rfl _ _ w.heap.size 28 (hcs zeroHd) _ rfl R0r Tryz.underlying28 rfl info_hd) rfl ?_
    exact ⟨by unfold decP; rw [if_neg hs1, if_pos hs2]; rfl, B0r⟩
  have hs2' : ¬ (512 : Int) < (s.size : Int) := by omega
  have hsz : s.size = 512 := by omega
  have hul : (un s).length = 512 := by rw [un_length]; exact hsz
  have HTL : Hid ((s.extract 257 265).toList = fieldL (un s) 9) := by unfold Hid; rw [toList_un]; exact ext_field s 9
  by_cases hmg : fieldL (un s) 9 = magicL
  rotate_left
  · have em : ((s.extract 257 265).toList == [117, 115, 116, 97, 114, 0, 48, 48]) = false := by rw [HTL.out]; exact beq_eq_false_iff_ne.2 hmg
    go_enter Tryz.func40, Tryz.ntmps40
    go_wp2_with (refine wpList_store_row rfl 28 (.tmp 2) (.tmp 23) rfl w.heap.size (hcs zeroHd) rfl rfl 28 (hcs zeroHd) R0 info_hd rfl (hcs_one _) ?_)
    refine bodyPost_ret (results_c2 rfl _ _ w.heap.size 28 (hcs zeroHd) _ rfl R0r Tryz.underlying28 rfl info_hd) rfl ?_
    exact ⟨by unfold decP; rw [if_neg hs1, if_neg hs2, if_pos hmg]; rfl, B0r⟩
  have em : ((s.extract 257 265).toList == [117, 115, 116, 97, 114, 0, 48, 48]) = true := by rw [HTL.out]; exact beq_iff_eq.2 hmg
  have HDP : Hid (decP s = if okAll (un s) = false then (zeroHd, 6) else if (numV (fieldL (un s) 6)).2 = false then (zeroHd, 6) else if (numV (fieldL (un s) 6)).1 ≠ sumB (un s) then (zeroHd, 7) else (decHd (un s), 0)) := by
    unfold Hid decP; rw [if_neg hs1, if_neg hs2, if_neg (fun h => h hmg)]
  have HBADK : Hid (∀ k, k < 8 → og (un s) k = false → decP s = (zeroHd, 6)) := fun k hk ho => by
    rw [HDP.out]
    by_cases h6 : (numV (fieldL (un s) 6)).2 = false
    · by_cases h7 : okAll (un s) = false
      · rw [if_pos h7]
      · rw [if_neg h7, if_pos h6]
    · rw [if_pos]
      unfold okAll
      obtain rfl | rfl | rfl | rfl | rfl | rfl | rfl | rfl : k = 0 ∨ k = 1 ∨ k = 2 ∨ k = 3 ∨ k = 4 ∨ k = 5 ∨ k = 6 ∨ k = 7 := by omega
      · rw [show okk (un s) 0 = false from ho]; simp
      · rw [show okk (un s) 1 = false from ho]; simp
      · rw [show okk (un s) 2 = false from ho]; simp
      · rw [show okk (un s) 3 = false from ho]; simp
      · rw [show okk (un s) 4 = false from ho]; simp
      · exact absurd ho h6
      · rw [show okk (un s) 5 = false from ho]; simp
      · rw [show okk (un s) 6 = false from ho]; simp
  have HLIT : Hid ((#[.string ⟨#[]⟩, .int .i64 0, .int .i64 0, .int .i64 0, .int .i64 0, .int .i64 0, .int .u8 0, .string ⟨#[]⟩, .string ⟨#[]⟩, .string ⟨#[]⟩, .int .i64 0, .int .i64 0] : Array Value) = hcs zeroHd) := rfl
  clear R0r B0r hmg HTL hs1 hs2
  have X1 : Sx w (((w.alloc (.cells (hcs zeroHd) 28)).alloc (.cells #[.int .i64 100, .int .i64 108, .int .i64 116, .int .i64 124, .int .i64 136, .int .i64 148, .int .i64 329, .int .i64 337] 3)).alloc (.cells #[.int .i64 108, .int .i64 116, .int .i64 124, .int .i64 136, .int .i64 148, .int .i64 156, .int .i64 337, .int .i64 345] 3)) w.heap.size (w.heap.size + 1) (w.heap.size + 1 + 1) := by
    refine ⟨(R0.alloc _).alloc _, ?_, ?_, (B0.alloc (by simp) _).alloc (by simp; omega) _⟩
    · have l := (Lies.new (w.alloc (.cells (hcs zeroHd) 28)) 3 #[.int .i64 100, .int .i64 108, .int .i64 116, .int .i64 124, .int .i64 136, .int .i64 148, .int .i64 329, .int .i64 337]).alloc (.cells #[.int .i64 108, .int .i64 116, .int .i64 124, .int .i64 136, .int .i64 148, .int .i64 156, .int .i64 337, .int .i64 345] 3)
      rwa [show (w.alloc (.cells (hcs zeroHd) 28)).heap.size = w.heap.size + 1 by simp] at l
    · have l := Lies.new ((w.alloc (.cells (hcs zeroHd) 28)).alloc (.cells #[.int .i64 100, .int .i64 108, .int .i64 116, .int .i64 124, .int .i64 136, .int .i64 148, .int .i64 329, .int .i64 337] 3)) 3 #[.int .i64 108, .int .i64 116, .int .i64 124, .int .i64 136, .int .i64 148, .int .i64 156, .int .i64 337, .int .i64 345]
      rwa [show ((w.alloc (.cells (hcs zeroHd) 28)).alloc (.cells #[.int .i64 100, .int .i64 108, .int .i64 116, .int .i64 124, .int .i64 136, .int .i64 148, .int .i64 329, .int .i64 337] 3)).heap.size = w.heap.size + 1 + 1 by simp] at l
  clear R0 B0
  have hnf : Hid (∀ (k : Nat), k < 8 → ∀ W, Calls Tryz.prog 51 #[.string (s.extract (bg (gf k)) (bg (gf k + 1)))] W fun e w' => e = .returned (.tuple #[.int .i64 (vg (un s) k), .bool (og (un s) k)]) ∧ w' = W) := num_field s hsz
  go_enter Tryz.func40, Tryz.ntmps40
  go_wp2_with fail
  rw [HLIT.out]
  generalize ((w.alloc (.cells (hcs zeroHd) 28)).alloc (.cells #[.int .i64 100, .int .i64 108, .int .i64 116, .int .i64 124, .int .i64 136, .int .i64 148, .int .i64 329, .int .i64 337] 3)).alloc (.cells #[.int .i64 108, .int .i64 116, .int .i64 124, .int .i64 136, .int .i64 148, .int .i64 156, .int .i64 337, .int .i64 345] 3) = W at *
  obtain ⟨i0, hi, z0, z1, z2⟩ := info_parts int64_info
  have hb1 : w.heap.size < w.heap.size + 1 := Nat.lt_succ_self _
  generalize w.heap.size + 1 + 1 = b2 at *
  generalize w.heap.size + 1 = b1 at *
  have HW : Hid (vg (un s) = vg (un s)) := rfl
  obtain ⟨VV, hVV⟩ : ∃ VV, vg (un s) = VV := ⟨_, rfl⟩
  obtain ⟨OO, hOO⟩ : ∃ OO, og (un s) = OO := ⟨_, rfl⟩
  rw [hVV, hOO] at hnf
  rw [hOO] at HBADK
  have HVV : Hid (vg (un s) = VV) := hVV
  have HOO : Hid (og (un s) = OO) := hOO
  clear hVV hOO HW HLIT em
  go_loopw [6, 7] (fun x i wr => ∃ k : Nat, k ≤ 8 ∧ i = .int .i64 k ∧ wr.ownsRow W.heap.size 2 1 x k (rowV VV k) ∧ Hid (∀ j, j < k → OO j = true) ∧ Below W.heap.size W wr) (fun _ i _ => 8 - (intOf i).toNat)
  case atStart => exact ⟨0, by omega, rfl, World.ownsRow_nil _ _ _ _, fun j hj => absurd hj (by omega), Below.refl _ _⟩
  case round =>
    obtain ⟨k, hk, rfl, hown, HA, hB⟩ := hrel
    have hsz9 := hB.size
    have S9 := X1.below hB rfl
    by_cases hlt : k < 8
    · have HRS : Hid (rowV VV (k + 1) = rowV VV k ++ [.int .i64 (VV k : Int)]) := rowV_succ VV k
      have hcl : (rowV VV k).length = k := rowV_length VV k
      have HBK : Hid (OO k = false → decP s = (zeroHd, 6)) := HBADK.out k hlt
      generalize rowV VV k = XS at *
      obtain rfl | rfl | rfl | rfl | rfl | rfl | rfl | rfl : k = 0 ∨ k = 1 ∨ k = 2 ∨ k = 3 ∨ k = 4 ∨ k = 5 ∨ k = 6 ∨ k = 7 := by omega
      · have cF : wr.cell? ⟨b1, 0, none⟩ = some (.int .i64 100) := S9.fr.cell rfl
        have cT : wr.cell? ⟨b2, 0, none⟩ = some (.int .i64 108) := S9.tt.cell rfl
        have nk : ∀ W, Calls Tryz.prog 51 #[.string (s.extract 100 108)] W fun e w' => e = .returned (.tuple #[.int .i64 (VV 0), .bool (OO 0)]) ∧ w' = W := hnf.out 0 (by omega)
        go_wp2
        go_quiet ((go_at_call 51; exact Calls.quiet_of_same (nk _)))
        have T9 := S9.below (below_drawn (Below.refl _ wr) nq) rfl
        have hown9 : (wr.drewN nq).ownsRow W.heap.size 2 1 _ 0 XS := hown
        have C9 : Below W.heap.size W (wr.drewN nq) := below_drawn hB nq
        clear S9 hown hB cF cT nk
        have hsz10 := C9.size
        generalize wr.drewN nq = w10 at *
        cases hok : OO 0 with
        | false =>
          go_wp2_with (refine wpList_store_row rfl 28 (.tmp 2) (.tmp 48) rfl w.heap.size (hcs zeroHd) rfl rfl 28 (hcs zeroHd) T9.res info_hd rfl (hcs_one _) ?_)
          refine bodyPost_ret (results_c2 rfl _ _ w.heap.size 28 (hcs zeroHd) _ rfl (T9.res.row _) Tryz.underlying28 rfl info_hd) rfl ?_
          exact ⟨by rw [HBK.out hok]; rfl, below_setRow T9.bel (Nat.le_refl _) _⟩
        | true =>
          have HOK : Hid (OO 0 = true) := hok
          clear hok
          generalize VV 0 = vv at *
          go_wp2_with (at_builtin; refine wpList_append_own _ rfl _ _ 42 rfl W.heap.size 2 i0 (.int .i64 0) 1 8 Tryz.underlying42 hi z0 z1 z2 rfl (by decide) _ _ _ rfl (hown9.alloc _) ⟨w10.heap.size, 0, none⟩ 1 1 [.int .i64 vv] rfl rfl (cell_one_new' _ _ _) (by simp [Value.oneCell']) (by unfold maxLen; omega) (by omega) (by simp; omega) ?_; intro v1 w1 hown1 hgrow1 _)
          have hb9 : Below W.heap.size W w1 := (C9.alloc hsz10 _).grown hgrow1 (by simp; omega) (fun j hj => (own_ge hown9 j hj.symm).1)
          refine ⟨⟨0 + 1, by omega, by go_num, by rw [HRS.out]; exact hown1, fun j hj => ?_, hb9⟩, by simp [intOf]⟩
          rcases Nat.lt_or_ge j 0 with h1 | h1
          · exact HA.out j h1
          · obtain rfl : j = 0 := by omega
            exact HOK.out
      · have cF : wr.cell? ⟨b1, 1, none⟩ = some (.int .i64 108) := S9.fr.cell rfl
        have cT : wr.cell? ⟨b2, 1, none⟩ = some (.int .i64 116) := S9.tt.cell rfl
        have nk : ∀ W, Calls Tryz.prog 51 #[.string (s.extract 108 116)] W fun e w' => e = .returned (.tuple #[.int .i64 (VV 1), .bool (OO 1)]) ∧ w' = W := hnf.out 1 (by omega)
        go_wp2
        go_quiet ((go_at_call 51; exact Calls.quiet_of_same (nk _)))
        have T9 := S9.below (below_drawn (Below.refl _ wr) nq) rfl
        have hown9 : (wr.drewN nq).ownsRow W.heap.size 2 1 _ 1 XS := hown
        have C9 : Below W.heap.size W (wr.drewN nq) := below_drawn hB nq
        clear S9 hown hB cF cT nk
        have hsz10 := C9.size
        generalize wr.drewN nq = w10 at *
        cases hok : OO 1 with
        | false =>
          go_wp2_with (refine wpList_store_row rfl 28 (.tmp 2) (.tmp 48) rfl w.heap.size (hcs zeroHd) rfl rfl 28 (hcs zeroHd) T9.res info_hd rfl (hcs_one _) ?_)
          refine bodyPost_ret (results_c2 rfl _ _ w.heap.size 28 (hcs zeroHd) _ rfl (T9.res.row _) Tryz.underlying28 rfl info_hd) rfl ?_
          exact ⟨by rw [HBK.out hok]; rfl, below_setRow T9.bel (Nat.le_refl _) _⟩
        | true =>
          have HOK : Hid (OO 1 = true) := hok
          clear hok
          generalize VV 1 = vv at *
          go_wp2_with (at_builtin; refine wpList_append_own _ rfl _ _ 42 rfl W.heap.size 2 i0 (.int .i64 0) 1 8 Tryz.underlying42 hi z0 z1 z2 rfl (by decide) _ _ _ rfl (hown9.alloc _) ⟨w10.heap.size, 0, none⟩ 1 1 [.int .i64 vv] rfl rfl (cell_one_new' _ _ _) (by simp [Value.oneCell']) (by unfold maxLen; omega) (by omega) (by simp; omega) ?_; intro v1 w1 hown1 hgrow1 _)
          have hb9 : Below W.heap.size W w1 := (C9.alloc hsz10 _).grown hgrow1 (by simp; omega) (fun j hj => (own_ge hown9 j hj.symm).1)
          refine ⟨⟨1 + 1, by omega, by go_num, by rw [HRS.out]; exact hown1, fun j hj => ?_, hb9⟩, by simp [intOf]⟩
          rcases Nat.lt_or_ge j 1 with h1 | h1
          · exact HA.out j h1
          · obtain rfl : j = 1 := by omega
            exact HOK.out
      · have cF : wr.cell? ⟨b1, 2, none⟩ = some (.int .i64 116) := S9.fr.cell rfl
        have cT : wr.cell? ⟨b2, 2, none⟩ = some (.int .i64 124) := S9.tt.cell rfl
        have nk : ∀ W, Calls Tryz.prog 51 #[.string (s.extract 116 124)] W fun e w' => e = .returned (.tuple #[.int .i64 (VV 2), .bool (OO 2)]) ∧ w' = W := hnf.out 2 (by omega)
        go_wp2
        go_quiet ((go_at_call 51; exact Calls.quiet_of_same (nk _)))
        have T9 := S9.below (below_drawn (Below.refl _ wr) nq) rfl
        have hown9 : (wr.drewN nq).ownsRow W.heap.size 2 1 _ 2 XS := hown
        have C9 : Below W.heap.size W (wr.drewN nq) := below_drawn hB nq
        clear S9 hown hB cF cT nk
        have hsz10 := C9.size
        generalize wr.drewN nq = w10 at *
        cases hok : OO 2 with
        | false =>
          go_wp2_with (refine wpList_store_row rfl 28 (.tmp 2) (.tmp 48) rfl w.heap.size (hcs zeroHd) rfl rfl 28 (hcs zeroHd) T9.res info_hd rfl (hcs_one _) ?_)
          refine bodyPost_ret (results_c2 rfl _ _ w.heap.size 28 (hcs zeroHd) _ rfl (T9.res.row _) Tryz.underlying28 rfl info_hd) rfl ?_
          exact ⟨by rw [HBK.out hok]; rfl, below_setRow T9.bel (Nat.le_refl _) _⟩
        | true =>
          have HOK : Hid (OO 2 = true) := hok
          clear hok
          generalize VV 2 = vv at *
          go_wp2_with (at_builtin; refine wpList_append_own _ rfl _ _ 42 rfl W.heap.size 2 i0 (.int .i64 0) 1 8 Tryz.underlying42 hi z0 z1 z2 rfl (by decide) _ _ _ rfl (hown9.alloc _) ⟨w10.heap.size, 0, none⟩ 1 1 [.int .i64 vv] rfl rfl (cell_one_new' _ _ _) (by simp [Value.oneCell']) (by unfold maxLen; omega) (by omega) (by simp; omega) ?_; intro v1 w1 hown1 hgrow1 _)
          have hb9 : Below W.heap.size W w1 := (C9.alloc hsz10 _).grown hgrow1 (by simp; omega) (fun j hj => (own_ge hown9 j hj.symm).1)
          refine ⟨⟨2 + 1, by omega, by go_num, by rw [HRS.out]; exact hown1, fun j hj => ?_, hb9⟩, by simp [intOf]⟩
          rcases Nat.lt_or_ge j 2 with h1 | h1
          · exact HA.out j h1
          · obtain rfl : j = 2 := by omega
            exact HOK.out
      · have cF : wr.cell? ⟨b1, 3, none⟩ = some (.int .i64 124) := S9.fr.cell rfl
        have cT : wr.cell? ⟨b2, 3, none⟩ = some (.int .i64 136) := S9.tt.cell rfl
        have nk : ∀ W, Calls Tryz.prog 51 #[.string (s.extract 124 136)] W fun e w' => e = .returned (.tuple #[.int .i64 (VV 3), .bool (OO 3)]) ∧ w' = W := hnf.out 3 (by omega)
        go_wp2
        go_quiet ((go_at_call 51; exact Calls.quiet_of_same (nk _)))
        have T9 := S9.below (below_drawn (Below.refl _ wr) nq) rfl
        have hown9 : (wr.drewN nq).ownsRow W.heap.size 2 1 _ 3 XS := hown
        have C9 : Below W.heap.size W (wr.drewN nq) := below_drawn hB nq
        clear S9 hown hB cF cT nk
        have hsz10 := C9.size
        generalize wr.drewN nq = w10 at *
        cases hok : OO 3 with
        | false =>
          go_wp2_with (refine wpList_store_row rfl 28 (.tmp 2) (.tmp 48) rfl w.heap.size (hcs zeroHd) rfl rfl 28 (hcs zeroHd) T9.res info_hd rfl (hcs_one _) ?_)
          refine bodyPost_ret (results_c2 rfl _ _ w.heap.size 28 (hcs zeroHd) _ rfl (T9.res.row _) Tryz.underlying28 rfl info_hd) rfl ?_
          exact ⟨by rw [HBK.out hok]; rfl, below_setRow T9.bel (Nat.le_refl _) _⟩
        | true =>
          have HOK : Hid (OO 3 = true) := hok
          clear hok
          generalize VV 3 = vv at *
          go_wp2_with (at_builtin; refine wpList_append_own _ rfl _ _ 42 rfl W.heap.size 2 i0 (.int .i64 0) 1 8 Tryz.underlying42 hi z0 z1 z2 rfl (by decide) _ _ _ rfl (hown9.alloc _) ⟨w10.heap.size, 0, none⟩ 1 1 [.int .i64 vv] rfl rfl (cell_one_new' _ _ _) (by simp [Value.oneCell']) (by unfold maxLen; omega) (by omega) (by simp; omega) ?_; intro v1 w1 hown1 hgrow1 _)
          have hb9 : Below W.heap.size W w1 := (C9.alloc hsz10 _).grown hgrow1 (by simp; omega) (fun j hj => (own_ge hown9 j hj.symm).1)
          refine ⟨⟨3 + 1, by omega, by go_num, by rw [HRS.out]; exact hown1, fun j hj => ?_, hb9⟩, by simp [intOf]⟩
          rcases Nat.lt_or_ge j 3 with h1 | h1
          · exact HA.out j h1
          · obtain rfl : j = 3 := by omega
            exact HOK.out
      · have cF : wr.cell? ⟨b1, 4, none⟩ = some (.int .i64 136) := S9.fr.cell rfl
        have cT : wr.cell? ⟨b2, 4, none⟩ = some (.int .i64 148) := S9.tt.cell rfl
        have nk : ∀ W, Calls Tryz.prog 51 #[.string (s.extract 136 148)] W fun e w' => e = .returned (.tuple #[.int .i64 (VV 4), .bool (OO 4)]) ∧ w' = W := hnf.out 4 (by omega)
        go_wp2
        go_quiet ((go_at_call 51; exact Calls.quiet_of_same (nk _)))
        have T9 := S9.below (below_drawn (Below.refl _ wr) nq) rfl
        have hown9 : (wr.drewN nq).ownsRow W.heap.size 2 1 _ 4 XS := hown
        have C9 : Below W.heap.size W (wr.drewN nq) := below_drawn hB nq
        clear S9 hown hB cF cT nk
        have hsz10 := C9.size
        generalize wr.drewN nq = w10 at *
        cases hok : OO 4 with
        | false =>
          go_wp2_with (refine wpList_store_row rfl 28 (.tmp 2) (.tmp 48) rfl w.heap.size (hcs zeroHd) rfl rfl 28 (hcs zeroHd) T9.res info_hd rfl (hcs_one _) ?_)
          refine bodyPost_ret (results_c2 rfl _ _ w.heap.size 28 (hcs zeroHd) _ rfl (T9.res.row _) Tryz.underlying28 rfl info_hd) rfl ?_
          exact ⟨by rw [HBK.out hok]; rfl, below_setRow T9.bel (Nat.le_refl _) _⟩
        | true =>
          have HOK : Hid (OO 4 = true) := hok
          clear hok
          generalize VV 4 = vv at *
          go_wp2_with (at_builtin; refine wpList_append_own _ rfl _ _ 42 rfl W.heap.size 2 i0 (.int .i64 0) 1 8 Tryz.underlying42 hi z0 z1 z2 rfl (by decide) _ _ _ rfl (hown9.alloc _) ⟨w10.heap.size, 0, none⟩ 1 1 [.int .i64 vv] rfl rfl (cell_one_new' _ _ _) (by simp [Value.oneCell']) (by unfold maxLen; omega) (by omega) (by simp; omega) ?_; intro v1 w1 hown1 hgrow1 _)
          have hb9 : Below W.heap.size W w1 := (C9.alloc hsz10 _).grown hgrow1 (by simp; omega) (fun j hj => (own_ge hown9 j hj.symm).1)
          refine ⟨⟨4 + 1, by omega, by go_num, by rw [HRS.out]; exact hown1, fun j hj => ?_, hb9⟩, by simp [intOf]⟩
          rcases Nat.lt_or_ge j 4 with h1 | h1
          · exact HA.out j h1
          · obtain rfl : j = 4 := by omega
            exact HOK.out
      · have cF : wr.cell? ⟨b1, 5, none⟩ = some (.int .i64 148) := S9.fr.cell rfl
        have cT : wr.cell? ⟨b2, 5, none⟩ = some (.int .i64 156) := S9.tt.cell rfl
        have nk : ∀ W, Calls Tryz.prog 51 #[.string (s.extract 148 156)] W fun e w' => e = .returned (.tuple #[.int .i64 (VV 5), .bool (OO 5)]) ∧ w' = W := hnf.out 5 (by omega)
        go_wp2
        go_quiet ((go_at_call 51; exact Calls.quiet_of_same (nk _)))
        have T9 := S9.below (below_drawn (Below.refl _ wr) nq) rfl
        have hown9 : (wr.drewN nq).ownsRow W.heap.size 2 1 _ 5 XS := hown
        have C9 : Below W.heap.size W (wr.drewN nq) := below_drawn hB nq
        clear S9 hown hB cF cT nk
        have hsz10 := C9.size
        generalize wr.drewN nq = w10 at *
        cases hok : OO 5 with
        | false =>
          go_wp2_with (refine wpList_store_row rfl 28 (.tmp 2) (.tmp 48) rfl w.heap.size (hcs zeroHd) rfl rfl 28 (hcs zeroHd) T9.res info_hd rfl (hcs_one _) ?_)
          refine bodyPost_ret (results_c2 rfl _ _ w.heap.size 28 (hcs zeroHd) _ rfl (T9.res.row _) Tryz.underlying28 rfl info_hd) rfl ?_
          exact ⟨by rw [HBK.out hok]; rfl, below_setRow T9.bel (Nat.le_refl _) _⟩
        | true =>
          have HOK : Hid (OO 5 = true) := hok
          clear hok
          generalize VV 5 = vv at *
          go_wp2_with (at_builtin; refine wpList_append_own _ rfl _ _ 42 rfl W.heap.size 2 i0 (.int .i64 0) 1 8 Tryz.underlying42 hi z0 z1 z2 rfl (by decide) _ _ _ rfl (hown9.alloc _) ⟨w10.heap.size, 0, none⟩ 1 1 [.int .i64 vv] rfl rfl (cell_one_new' _ _ _) (by simp [Value.oneCell']) (by unfold maxLen; omega) (by omega) (by simp; omega) ?_; intro v1 w1 hown1 hgrow1 _)
          have hb9 : Below W.heap.size W w1 := (C9.alloc hsz10 _).grown hgrow1 (by simp; omega) (fun j hj => (own_ge hown9 j hj.symm).1)
          refine ⟨⟨5 + 1, by omega, by go_num, by rw [HRS.out]; exact hown1, fun j hj => ?_, hb9⟩, by simp [intOf]⟩
          rcases Nat.lt_or_ge j 5 with h1 | h1
          · exact HA.out j h1
          · obtain rfl : j = 5 := by omega
            exact HOK.out
      · have cF : wr.cell? ⟨b1, 6, none⟩ = some (.int .i64 329) := S9.fr.cell rfl
        have cT : wr.cell? ⟨b2, 6, none⟩ = some (.int .i64 337) := S9.tt.cell rfl
        have nk : ∀ W, Calls Tryz.prog 51 #[.string (s.extract 329 337)] W fun e w' => e = .returned (.tuple #[.int .i64 (VV 6), .bool (OO 6)]) ∧ w' = W := hnf.out 6 (by omega)
        go_wp2
        go_quiet ((go_at_call 51; exact Calls.quiet_of_same (nk _)))
        have T9 := S9.below (below_drawn (Below.refl _ wr) nq) rfl
        have hown9 : (wr.drewN nq).ownsRow W.heap.size 2 1 _ 6 XS := hown
        have C9 : Below W.heap.size W (wr.drewN nq) := below_drawn hB nq
        clear S9 hown hB cF cT nk
        have hsz10 := C9.size
        generalize wr.drewN nq = w10 at *
        cases hok : OO 6 with
        | false =>
          go_wp2_with (refine wpList_store_row rfl 28 (.tmp 2) (.tmp 48) rfl w.heap.size (hcs zeroHd) rfl rfl 28 (hcs zeroHd) T9.res info_hd rfl (hcs_one _) ?_)
          refine bodyPost_ret (results_c2 rfl _ _ w.heap.size 28 (hcs zeroHd) _ rfl (T9.res.row _) Tryz.underlying28 rfl info_hd) rfl ?_
          exact ⟨by rw [HBK.out hok]; rfl, below_setRow T9.bel (Nat.le_refl _) _⟩
        | true =>
          have HOK : Hid (OO 6 = true) := hok
          clear hok
          generalize VV 6 = vv at *
          go_wp2_with (at_builtin; refine wpList_append_own _ rfl _ _ 42 rfl W.heap.size 2 i0 (.int .i64 0) 1 8 Tryz.underlying42 hi z0 z1 z2 rfl (by decide) _ _ _ rfl (hown9.alloc _) ⟨w10.heap.size, 0, none⟩ 1 1 [.int .i64 vv] rfl rfl (cell_one_new' _ _ _) (by simp [Value.oneCell']) (by unfold maxLen; omega) (by omega) (by simp; omega) ?_; intro v1 w1 hown1 hgrow1 _)
          have hb9 : Below W.heap.size W w1 := (C9.alloc hsz10 _).grown hgrow1 (by simp; omega) (fun j hj => (own_ge hown9 j hj.symm).1)
          refine ⟨⟨6 + 1, by omega, by go_num, by rw [HRS.out]; exact hown1, fun j hj => ?_, hb9⟩, by simp [intOf]⟩
          rcases Nat.lt_or_ge j 6 with h1 | h1
          · exact HA.out j h1
          · obtain rfl : j = 6 := by omega
            exact HOK.out
      · have cF : wr.cell? ⟨b1, 7, none⟩ = some (.int .i64 337) := S9.fr.cell rfl
        have cT : wr.cell? ⟨b2, 7, none⟩ = some (.int .i64 345) := S9.tt.cell rfl
        have nk : ∀ W, Calls Tryz.prog 51 #[.string (s.extract 337 345)] W fun e w' => e = .returned (.tuple #[.int .i64 (VV 7), .bool (OO 7)]) ∧ w' = W := hnf.out 7 (by omega)
        go_wp2
        go_quiet ((go_at_call 51; exact Calls.quiet_of_same (nk _)))
        have T9 := S9.below (below_drawn (Below.refl _ wr) nq) rfl
        have hown9 : (wr.drewN nq).ownsRow W.heap.size 2 1 _ 7 XS := hown
        have C9 : Below W.heap.size W (wr.drewN nq) := below_drawn hB nq
        clear S9 hown hB cF cT nk
        have hsz10 := C9.size
        generalize wr.drewN nq = w10 at *
        cases hok : OO 7 with
        | false =>
          go_wp2_with (refine wpList_store_row rfl 28 (.tmp 2) (.tmp 48) rfl w.heap.size (hcs zeroHd) rfl rfl 28 (hcs zeroHd) T9.res info_hd rfl (hcs_one _) ?_)
          refine bodyPost_ret (results_c2 rfl _ _ w.heap.size 28 (hcs zeroHd) _ rfl (T9.res.row _) Tryz.underlying28 rfl info_hd) rfl ?_
          exact ⟨by rw [HBK.out hok]; rfl, below_setRow T9.bel (Nat.le_refl _) _⟩
        | true =>
          have HOK : Hid (OO 7 = true) := hok
          clear hok
          generalize VV 7 = vv at *
          go_wp2_with (at_builtin; refine wpList_append_own _ rfl _ _ 42 rfl W.heap.size 2 i0 (.int .i64 0) 1 8 Tryz.underlying42 hi z0 z1 z2 rfl (by decide) _ _ _ rfl (hown9.alloc _) ⟨w10.heap.size, 0, none⟩ 1 1 [.int .i64 vv] rfl rfl (cell_one_new' _ _ _) (by simp [Value.oneCell']) (by unfold maxLen; omega) (by omega) (by simp; omega) ?_; intro v1 w1 hown1 hgrow1 _)
          have hb9 : Below W.heap.size W w1 := (C9.alloc hsz10 _).grown hgrow1 (by simp; omega) (fun j hj => (own_ge hown9 j hj.symm).1)
          refine ⟨⟨7 + 1, by omega, by go_num, by rw [HRS.out]; exact hown1, fun j hj => ?_, hb9⟩, by simp [intOf]⟩
          rcases Nat.lt_or_ge j 7 with h1 | h1
          · exact HA.out j h1
          · obtain rfl : j = 7 := by omega
            exact HOK.out
    · obtain rfl : k = 8 := by omega
      obtain ⟨g, cap, rfl, hg1, hg2⟩ := hown.form (by omega)
      have hce : ∀ j, j < 8 → wr.cell? ⟨g, j, none⟩ = some (.int .i64 (VV j : Int)) := fun j hj => (hown.cellAt j (by omega)).trans (rowV_get VV 8 j hj)
      have HCE : Hid (∀ W', Below wr.heap.size wr W' → ∀ j, j < 8 → W'.cell? ⟨g, j, none⟩ = some (.int .i64 (VV j : Int))) := fun W' b j hj => (b.cell (p := ⟨g, j, none⟩) hg2).trans (hce j hj)
      have HAL : Hid (okAll (un s) = true) := by
        have e0 : okk (un s) 0 = true := (congrFun HOO.out 0).trans (HA.out 0 (by omega))
        have e1 : okk (un s) 1 = true := (congrFun HOO.out 1).trans (HA.out 1 (by omega))
        have e2 : okk (un s) 2 = true := (congrFun HOO.out 2).trans (HA.out 2 (by omega))
        have e3 : okk (un s) 3 = true := (congrFun HOO.out 3).trans (HA.out 3 (by omega))
        have e4 : okk (un s) 4 = true := (congrFun HOO.out 4).trans (HA.out 4 (by omega))
        have e5 : okk (un s) 5 = true := (congrFun HOO.out 6).trans (HA.out 6 (by omega))
        have e6 : okk (un s) 6 = true := (congrFun HOO.out 7).trans (HA.out 7 (by omega))
        unfold Hid okAll
        rw [e0, e1, e2, e3, e4, e5, e6]; rfl
      have HNA : Hid ((numV (fieldL (un s) 6)).2 = true) := (congrFun HOO.out 5).trans (HA.out 5 (by omega))
      have HV5 : Hid ((numV (fieldL (un s) 6)).1 = VV 5) := congrFun HVV.out 5
      have c5 := hce 5 (by omega)
      have hsm := fun W => sum_r s hsz W
      have X1lt : w.heap.size < W.heap.size := X1.res.lt
      clear hce hown HA hnf HBADK X1
      obtain ⟨U, hU⟩ : ∃ U, sumB (un s) = U := ⟨_, rfl⟩
      rw [hU] at hsm
      by_cases hsum : VV 5 = U
      rotate_left
      · have hne : (((VV 5 : Nat) : Int) == (U : Int)) = false := beq_eq_false_iff_ne.2 (by omega)
        have HES : Hid (decP s = (zeroHd, 7)) := by
          unfold Hid
          rw [HDP.out, if_neg (by rw [HAL.out]; decide), if_neg (by rw [HNA.out]; decide), if_pos (by rw [HV5.out, hU]; exact hsum)]
        clear hU hsum HDP HAL HNA HV5
        go_wp2
        go_quiet ((go_at_call 32; exact Calls.quiet_of_same (hsm _)))
        have T9 := S9.below (below_drawn (Below.refl _ wr) nq) rfl
        generalize wr.drewN nq = w10 at *
        go_wp2_with (refine wpList_store_row rfl 28 (.tmp 2) (.tmp 59) rfl w.heap.size (hcs zeroHd) rfl rfl 28 (hcs zeroHd) T9.res info_hd rfl (hcs_one _) ?_)
        refine bodyPost_ret (results_c2 rfl _ _ w.heap.size 28 (hcs zeroHd) _ rfl (T9.res.row _) Tryz.underlying28 rfl info_hd) rfl ?_
        exact ⟨by rw [HES.out]; rfl, below_setRow T9.bel (Nat.le_refl _) _⟩
      have HES : Hid (decP s = (decHd (un s), 0)) := by
        unfold Hid
        rw [HDP.out, if_neg (by rw [HAL.out]; decide), if_neg (by rw [HNA.out]; decide), if_neg (fun h => h (by rw [HV5.out, hU]; exact hsum))]
      have heq : (((VV 5 : Nat) : Int) == (U : Int)) = true := beq_iff_eq.2 (by omega)
      clear hU hsum HDP HAL HNA HV5
      go_wp2
      go_quiet ((go_at_call 32; exact Calls.quiet_of_same (hsm _)))
      have T9 := S9.below (below_drawn (Below.refl _ wr) nq) rfl
      have c9 := HCE.out _ (below_drawn (Below.refl _ wr) nq)
      clear c5 hsm HCE S9
      generalize wr.drewN nq = w10 at *
      have tx : ∀ (f a b : Nat), a = bg f → b = bg (f + 1) → b ≤ 512 → ∀ W, Calls Tryz.prog 52 #[.string (s.extract a b)] W fun e w' => e = .returned (.string (bs (textL (fieldL (un s) f)))) ∧ w' = W := by
        rintro f a b rfl rfl hb W
        have h := text_r (s.extract (bg f) (bg (f + 1))) (by rw [size_extract' _ _ _ (by omega)]; omega) W
        rw [ext_field] at h
        exact h
      have t0 := tx 0 0 100 rfl rfl (by decide)
      have t14 := tx 14 345 500 rfl rfl (by decide)
      have t8 := tx 8 157 257 rfl rfl (by decide)
      have t10 := tx 10 265 297 rfl rfl (by decide)
      have t11 := tx 11 297 329 rfl rfl (by decide)
      have hq14 : (bs (textL (fieldL (un s) 14))).size ≤ 155 := by rw [size_bs]; exact textL_length (un s) 14 155 rfl
      have hq0 : (bs (textL (fieldL (un s) 0))).size ≤ 100 := by rw [size_bs]; exact textL_length (un s) 0 100 rfl
      have h156 : ∀ hb : 156 < s.size, s[156] = (un s).getD 156 0 := fun hb => by
        have := un_getElem? s 156 hb
        rw [List.getD_eq_getElem?_getD, this]; rfl
      have v0 := c9 0 (by omega)
      have v1 := c9 1 (by omega)
      have v2 := c9 2 (by omega)
      have v3 := c9 3 (by omega)
      have v4 := c9 4 (by omega)
      have v6 := c9 6 (by omega)
      have v7 := c9 7 (by omega)
      have HDH : Hid (decHd (un s) = ⟨joinB (bs (textL (fieldL (un s) 14))) (bs (textL (fieldL (un s) 0))), VV 0, VV 1, VV 2, VV 3, VV 4, (un s).getD 156 0, bs (textL (fieldL (un s) 8)), bs (textL (fieldL (un s) 10)), bs (textL (fieldL (un s) 11)), VV 6, VV 7⟩) := by
        unfold Hid; rw [← HVV.out]; rfl
      clear c9 tx HVV HOO
      generalize bs (textL (fieldL (un s) 0)) = N0 at *
      generalize bs (textL (fieldL (un s) 14)) = P0 at *
      generalize bs (textL (fieldL (un s) 8)) = X8 at *
      generalize bs (textL (fieldL (un s) 10)) = X10 at *
      generalize bs (textL (fieldL (un s) 11)) = X11 at *
      generalize (un s).getD 156 0 = TY at *
      generalize VV 0 = a0 at *
      generalize VV 1 = a1 at *
      generalize VV 2 = a2 at *
      generalize VV 3 = a3 at *
      generalize VV 4 = a4 at *
      generalize VV 6 = a6 at *
      generalize VV 7 = a7 at *
      have hgne : g ≠ w.heap.size := by have := X1lt; omega
      have hx6 : s[156]'(by omega) = TY := h156 (by omega)
      clear h156
      cases hpe : P0.toList.isEmpty with
      | true =>
        have HJ : Hid (joinB P0 N0 = N0) := by unfold Hid joinB; rw [if_pos hpe]
        have hpe2 : (P0.toList == []) = true := by rw [List.isEmpty_iff.1 hpe]; rfl
        go_wp2_with (first | (go_at_call 52; with_reducible refine (t0 _).mono ?_; rintro e w3 ⟨rfl, h3⟩; have h3' := h3.symm; clear h3; subst h3') | (go_at_call 52; with_reducible refine (t14 _).mono ?_; rintro e w3 ⟨rfl, h3⟩; have h3' := h3.symm; clear h3; subst h3'))
        have q0 : w10.cell? ⟨w.heap.size, 0, none⟩ = some (.string ⟨#[]⟩) := T9.res.cell rfl
        have f0 : w10.frozen? ⟨w.heap.size, 0, none⟩ = false := T9.res.frozen 0
        have q1 : w10.cell? ⟨w.heap.size, 1, none⟩ = some (.int .i64 0) := T9.res.cell rfl
        have f1 : w10.frozen? ⟨w.heap.size, 1, none⟩ = false := T9.res.frozen 1
        have q2 : w10.cell? ⟨w.heap.size, 2, none⟩ = some (.int .i64 0) := T9.res.cell rfl
        have f2 : w10.frozen? ⟨w.heap.size, 2, none⟩ = false := T9.res.frozen 2
        have q3 : w10.cell? ⟨w.heap.size, 3, none⟩ = some (.int .i64 0) := T9.res.cell rfl
        have f3 : w10.frozen? ⟨w.heap.size, 3, none⟩ = false := T9.res.frozen 3
        have q4 : w10.cell? ⟨w.heap.size, 4, none⟩ = some (.int .i64 0) := T9.res.cell rfl
        have f4 : w10.frozen? ⟨w.heap.size, 4, none⟩ = false := T9.res.frozen 4
        have q5 : w10.cell? ⟨w.heap.size, 5, none⟩ = some (.int .i64 0) := T9.res.cell rfl
        have f5 : w10.frozen? ⟨w.heap.size, 5, none⟩ = false := T9.res.frozen 5
        have q6 : w10.cell? ⟨w.heap.size, 6, none⟩ = some (.int .u8 0) := T9.res.cell rfl
        have f6 : w10.frozen? ⟨w.heap.size, 6, none⟩ = false := T9.res.frozen 6
        have q7 : w10.cell? ⟨w.heap.size, 7, none⟩ = some (.string ⟨#[]⟩) := T9.res.cell rfl
        have f7 : w10.frozen? ⟨w.heap.size, 7, none⟩ = false := T9.res.frozen 7
        have q8 : w10.cell? ⟨w.heap.size, 8, none⟩ = some (.string ⟨#[]⟩) := T9.res.cell rfl
        have f8 : w10.frozen? ⟨w.heap.size, 8, none⟩ = false := T9.res.frozen 8
        have q9 : w10.cell? ⟨w.heap.size, 9, none⟩ = some (.string ⟨#[]⟩) := T9.res.cell rfl
        have f9 : w10.frozen? ⟨w.heap.size, 9, none⟩ = false := T9.res.frozen 9
        have q10 : w10.cell? ⟨w.heap.size, 10, none⟩ = some (.int .i64 0) := T9.res.cell rfl
        have f10 : w10.frozen? ⟨w.heap.size, 10, none⟩ = false := T9.res.frozen 10
        have q11 : w10.cell? ⟨w.heap.size, 11, none⟩ = some (.int .i64 0) := T9.res.cell rfl
        have f11 : w10.frozen? ⟨w.heap.size, 11, none⟩ = false := T9.res.frozen 11
        have HS0 : Hid (w10.drew.cell? ⟨g, 0, none⟩ = some (.int .i64 (a0 : Int)) ∧ w10.drew.cell? ⟨g, 1, none⟩ = some (.int .i64 (a1 : Int)) ∧ w10.drew.cell? ⟨g, 2, none⟩ = some (.int .i64 (a2 : Int)) ∧ w10.drew.cell? ⟨g, 3, none⟩ = some (.int .i64 (a3 : Int)) ∧ w10.drew.cell? ⟨g, 4, none⟩ = some (.int .i64 (a4 : Int)) ∧ w10.drew.cell? ⟨g, 6, none⟩ = some (.int .i64 (a6 : Int)) ∧ w10.drew.cell? ⟨g, 7, none⟩ = some (.int .i64 (a7 : Int))) := ⟨v0, v1, v2, v3, v4, v6, v7⟩
        have HSV : Hid (w10.cell? ⟨g, 0, none⟩ = some (.int .i64 (a0 : Int)) ∧ w10.cell? ⟨g, 1, none⟩ = some (.int .i64 (a1 : Int)) ∧ w10.cell? ⟨g, 2, none⟩ = some (.int .i64 (a2 : Int)) ∧ w10.cell? ⟨g, 3, none⟩ = some (.int .i64 (a3 : Int)) ∧ w10.cell? ⟨g, 4, none⟩ = some (.int .i64 (a4 : Int)) ∧ w10.cell? ⟨g, 6, none⟩ = some (.int .i64 (a6 : Int)) ∧ w10.cell? ⟨g, 7, none⟩ = some (.int .i64 (a7 : Int))) := ⟨v0, v1, v2, v3, v4, v6, v7⟩
        clear v0 v1 v2 v3 v4 v6 v7 t0 t14 hpe hpe2
        go_region_held3 (fun w' => w'.cell? ⟨g, 0, none⟩ = some (.int .i64 (a0 : Int)) ∧ w'.cell? ⟨g, 1, none⟩ = some (.int .i64 (a1 : Int)) ∧ w'.cell? ⟨g, 2, none⟩ = some (.int .i64 (a2 : Int)) ∧ w'.cell? ⟨g, 3, none⟩ = some (.int .i64 (a3 : Int)) ∧ w'.cell? ⟨g, 4, none⟩ = some (.int .i64 (a4 : Int)) ∧ w'.cell? ⟨g, 6, none⟩ = some (.int .i64 (a6 : Int)) ∧ w'.cell? ⟨g, 7, none⟩ = some (.int .i64 (a7 : Int)))
          (first | with_reducible exact HS0.out | with_reducible assumption | (rw [cell12 hgne, cell12 hgne, cell12 hgne, cell12 hgne, cell12 hgne, cell12 hgne, cell12 hgne]; exact HSV.out))
          (first | (go_at_call 52; with_reducible refine (t8 _).mono ?_; rintro e w3 ⟨rfl, h3⟩; have h3' := h3.symm; clear h3; subst h3') | (go_at_call 52; with_reducible refine (t10 _).mono ?_; rintro e w3 ⟨rfl, h3⟩; have h3' := h3.symm; clear h3; subst h3') | (go_at_call 52; with_reducible refine (t11 _).mono ?_; rintro e w3 ⟨rfl, h3⟩; have h3' := h3.symm; clear h3; subst h3'))
        go_wp2
        all_goals
          refine bodyPost_ret (results_c2 rfl _ _ w.heap.size 28 _ _ rfl (lies12 T9.res _ _ _ _ _ _ _ _ _ _ _ _) Tryz.underlying28 rfl info_hd) rfl ?_
          exact ⟨by rw [HES.out, HDH.out, HJ.out]; rfl, bel12 T9.bel (Nat.le_refl _) _ _ _ _ _ _ _ _ _ _ _ _⟩
      | false =>
        have HJ : Hid (joinB P0 N0 = P0 ++ ⟨#[47]⟩ ++ N0) := by unfold Hid joinB; rw [hpe]; rfl
        have hpe2 : (P0.toList == []) = false := by cases h : P0.toList with
          | nil => rw [h] at hpe; cases hpe
          | cons => rfl
        go_wp2_with (first | (go_at_call 52; with_reducible refine (t0 _).mono ?_; rintro e w3 ⟨rfl, h3⟩; have h3' := h3.symm; clear h3; subst h3') | (go_at_call 52; with_reducible refine (t14 _).mono ?_; rintro e w3 ⟨rfl, h3⟩; have h3' := h3.symm; clear h3; subst h3'))
        have q0 : w10.cell? ⟨w.heap.size, 0, none⟩ = some (.string ⟨#[]⟩) := T9.res.cell rfl
        have f0 : w10.frozen? ⟨w.heap.size, 0, none⟩ = false := T9.res.frozen 0
        have q1 : w10.cell? ⟨w.heap.size, 1, none⟩ = some (.int .i64 0) := T9.res.cell rfl
        have f1 : w10.frozen? ⟨w.heap.size, 1, none⟩ = false := T9.res.frozen 1
        have q2 : w10.cell? ⟨w.heap.size, 2, none⟩ = some (.int .i64 0) := T9.res.cell rfl
        have f2 : w10.frozen? ⟨w.heap.size, 2, none⟩ = false := T9.res.frozen 2
        have q3 : w10.cell? ⟨w.heap.size, 3, none⟩ = some (.int .i64 0) := T9.res.cell rfl
        have f3 : w10.frozen? ⟨w.heap.size, 3, none⟩ = false := T9.res.frozen 3
        have q4 : w10.cell? ⟨w.heap.size, 4, none⟩ = some (.int .i64 0) := T9.res.cell rfl
        have f4 : w10.frozen? ⟨w.heap.size, 4, none⟩ = false := T9.res.frozen 4
        have q5 : w10.cell? ⟨w.heap.size, 5, none⟩ = some (.int .i64 0) := T9.res.cell rfl
        have f5 : w10.frozen? ⟨w.heap.size, 5, none⟩ = false := T9.res.frozen 5
        have q6 : w10.cell? ⟨w.heap.size, 6, none⟩ = some (.int .u8 0) := T9.res.cell rfl
        have f6 : w10.frozen? ⟨w.heap.size, 6, none⟩ = false := T9.res.frozen 6
        have q7 : w10.cell? ⟨w.heap.size, 7, none⟩ = some (.string ⟨#[]⟩) := T9.res.cell rfl
        have f7 : w10.frozen? ⟨w.heap.size, 7, none⟩ = false := T9.res.frozen 7
        have q8 : w10.cell? ⟨w.heap.size, 8, none⟩ = some (.string ⟨#[]⟩) := T9.res.cell rfl
        have f8 : w10.frozen? ⟨w.heap.size, 8, none⟩ = false := T9.res.frozen 8
        have q9 : w10.cell? ⟨w.heap.size, 9, none⟩ = some (.string ⟨#[]⟩) := T9.res.cell rfl
        have f9 : w10.frozen? ⟨w.heap.size, 9, none⟩ = false := T9.res.frozen 9
        have q10 : w10.cell? ⟨w.heap.size, 10, none⟩ = some (.int .i64 0) := T9.res.cell rfl
        have f10 : w10.frozen? ⟨w.heap.size, 10, none⟩ = false := T9.res.frozen 10
        have q11 : w10.cell? ⟨w.heap.size, 11, none⟩ = some (.int .i64 0) := T9.res.cell rfl
        have f11 : w10.frozen? ⟨w.heap.size, 11, none⟩ = false := T9.res.frozen 11
        have HS0 : Hid (w10.drew.cell? ⟨g, 0, none⟩ = some (.int .i64 (a0 : Int)) ∧ w10.drew.cell? ⟨g, 1, none⟩ = some (.int .i64 (a1 : Int)) ∧ w10.drew.cell? ⟨g, 2, none⟩ = some (.int .i64 (a2 : Int)) ∧ w10.drew.cell? ⟨g, 3, none⟩ = some (.int .i64 (a3 : Int)) ∧ w10.drew.cell? ⟨g, 4, none⟩ = some (.int .i64 (a4 : Int)) ∧ w10.drew.cell? ⟨g, 6, none⟩ = some (.int .i64 (a6 : Int)) ∧ w10.drew.cell? ⟨g, 7, none⟩ = some (.int .i64 (a7 : Int))) := ⟨v0, v1, v2, v3, v4, v6, v7⟩
        have HSV : Hid (w10.cell? ⟨g, 0, none⟩ = some (.int .i64 (a0 : Int)) ∧ w10.cell? ⟨g, 1, none⟩ = some (.int .i64 (a1 : Int)) ∧ w10.cell? ⟨g, 2, none⟩ = some (.int .i64 (a2 : Int)) ∧ w10.cell? ⟨g, 3, none⟩ = some (.int .i64 (a3 : Int)) ∧ w10.cell? ⟨g, 4, none⟩ = some (.int .i64 (a4 : Int)) ∧ w10.cell? ⟨g, 6, none⟩ = some (.int .i64 (a6 : Int)) ∧ w10.cell? ⟨g, 7, none⟩ = some (.int .i64 (a7 : Int))) := ⟨v0, v1, v2, v3, v4, v6, v7⟩
        clear v0 v1 v2 v3 v4 v6 v7 t0 t14 hpe hpe2
        go_region_held3 (fun w' => w'.cell? ⟨g, 0, none⟩ = some (.int .i64 (a0 : Int)) ∧ w'.cell? ⟨g, 1, none⟩ = some (.int .i64 (a1 : Int)) ∧ w'.cell? ⟨g, 2, none⟩ = some (.int .i64 (a2 : Int)) ∧ w'.cell? ⟨g, 3, none⟩ = some (.int .i64 (a3 : Int)) ∧ w'.cell? ⟨g, 4, none⟩ = some (.int .i64 (a4 : Int)) ∧ w'.cell? ⟨g, 6, none⟩ = some (.int .i64 (a6 : Int)) ∧ w'.cell? ⟨g, 7, none⟩ = some (.int .i64 (a7 : Int)))
          (first | with_reducible exact HS0.out | with_reducible assumption | (rw [cell12 hgne, cell12 hgne, cell12 hgne, cell12 hgne, cell12 hgne, cell12 hgne, cell12 hgne]; exact HSV.out))
          (first | (go_at_call 52; with_reducible refine (t8 _).mono ?_; rintro e w3 ⟨rfl, h3⟩; have h3' := h3.symm; clear h3; subst h3') | (go_at_call 52; with_reducible refine (t10 _).mono ?_; rintro e w3 ⟨rfl, h3⟩; have h3' := h3.symm; clear h3; subst h3') | (go_at_call 52; with_reducible refine (t11 _).mono ?_; rintro e w3 ⟨rfl, h3⟩; have h3' := h3.symm; clear h3; subst h3'))
        go_wp2
        all_goals
          refine bodyPost_ret (results_c2 rfl _ _ w.heap.size 28 _ _ rfl (lies12 T9.res _ _ _ _ _ _ _ _ _ _ _ _) Tryz.underlying28 rfl info_hd) rfl ?_
          exact ⟨by rw [HES.out, HDH.out, HJ.out]; rfl, bel12 T9.bel (Nat.le_refl _) _ _ _ _ _ _ _ _ _ _ _ _⟩
end Go.Proofs.YtgdkgdlgalinbaaGreatDoor
