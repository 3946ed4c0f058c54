/- Package ustar's Decode. -/
import Derived.Test.YtgdkgdlgalinbaaGreatDoorDecM
import Derived.Test.YtgdkgdlgalinbaaGreatDoorEncU
import Derived.Test.YtgdkgdlgalinbaaGreatDoorJoinU
namespace Go.Proofs.YtgdkgdlgalinbaaGreatDoor
open Go Go.RowKit

theorem results_c2 {P : Program} {fn : Func} {p u : Tmp} {ty : TypeId} (h : fn.results = #[.cell p ty, .tmp u]) (tmps : Array Value) (w : World) (g : Nat) (t : TypeId) (cs : Array Value) (d : TypeDesc)
    (hp : tmps.getD p undef = .pointer (some ⟨g, 0, none⟩)) (hg : Lies w g t cs)
    (hu : P.underlying ty = some d) (hd : (match d with | .struct _ | .array _ _ => true | _ => false) = true) (hi : (P.info? ty).map (·.size) = some cs.size) :
    (results fn tmps).run P w = .ok (.tuple #[.agg cs, tmps.getD u undef]) w := by
  have hp' : tmps[p]?.getD undef = .pointer (some ⟨g, 0, none⟩) := by simpa using hp
  simp [results, h, hp', asAddr, run_loadVar_row w g t ty cs (0, 0) d hg hu hd hi]
theorem hcs_one (h : Hd) : (hcs h).all (·.oneCell') = true := by simp [hcs, Value.oneCell']
/-- The answer's place, the block and the header, while the header is read. -/
structure Sd (w W : World) (bb bH : Nat) (cs : List UInt8) (hh : Hd) : Prop where
  res : Lies W w.heap.size 28 (hcs zeroHd)
  bl : Lies W bb 59 (bcs cs)
  hd : Lies W bH 28 (hcs hh)
  bel : Below w.heap.size w W
  env : Env W
  h1 : w.heap.size < bb
  h2 : bb < bH
  h3 : 8 ≤ w.heap.size
theorem Sd.below {w W W' : World} {bb bH : Nat} {cs : List UInt8} {hh : Hd} (s : Sd w W bb bH cs hh) (b : Below W.heap.size W W') : Sd w W' bb bH cs hh :=
  ⟨s.res.below b, s.bl.below b, s.hd.below b, below_join s.bel b, s.env.below b, s.h1, s.h2, s.h3⟩
theorem Sd.set {w W : World} {bb bH : Nat} {cs : List UInt8} {hh hh' : Hd} (s : Sd w W bb bH cs hh) (i : Nat) (v : Value) (e : (hcs hh).setIfInBounds i v = hcs hh') : Sd w (W.setCell ⟨bH, i, none⟩ v) bb bH cs hh' :=
  ⟨s.res.other v (by have := s.h1; have := s.h2; omega), s.bl.other v (by have := s.h2; omega), by rw [← e]; exact s.hd.set v, s.bel.setCell (p := ⟨bH, i, none⟩) (by have := s.h1; have := s.h2; show w.heap.size ≤ bH; omega) v, s.env.turned (Turned.set bH W i v) (by have := s.h1; have := s.h2; have := s.h3; omega), s.h1, s.h2, s.h3⟩

theorem zero_hd : (Tryz.prog.info? 28).map (fun i => (i.zero, i.size)) = some (some (.agg (hcs zeroHd)), 12) := by kernel_rfl
set_option maxRecDepth 100000 in
set_option maxHeartbeats 1000000 in
theorem decode_p (S : Shelf5) (s : ByteArray) (w : World) (hE : Env w) :
    Calls Tryz.prog 11 #[.string s] w fun e w' => e = .returned (.tuple #[.agg (hcs (decP s).1), errV (decP s).2]) ∧ Below w.heap.size w w' := by
  have R0 := Lies.new w 28 (hcs zeroHd)
  have B0 := (Below.refl _ w).alloc (Nat.le_refl _) (.cells (hcs zeroHd) 28)
  have E0 := hE.below B0
  have R0r := R0.row (hcs zeroHd)
  have B0r := below_setRow B0 (Nat.le_refl _) (hcs zeroHd)
  by_cases hs1 : s.size < 512
  · have hs1' : (s.size : Int) < 512 := by omega
    go_enter Tryz.func11, Tryz.ntmps11
    go_wp2_with (refine wpList_store_row rfl 28 (.tmp 2) (.tmp 15) rfl w.heap.size (hcs zeroHd) rfl rfl 28 (hcs zeroHd) R0 info_hd rfl (hcs_one _) ?_)
    refine bodyPost_ret (results_c2 rfl _ _ w.heap.size 28 (hcs zeroHd) _ rfl R0r Tryz.underlying28 rfl info_hd) rfl ?_
    exact ⟨by unfold decP; rw [if_pos hs1]; rfl, B0r⟩
  have hs1' : ¬ (s.size : Int) < 512 := by omega
  by_cases hs2 : 512 < s.size
  · have hs2' : (512 : Int) < (s.size : Int) := by omega
    go_enter Tryz.func11, Tryz.ntmps11
    go_wp2_with (refine wpList_store_row rfl 28 (.tmp 2) (.tmp 20) rfl w.heap.size (hcs zeroHd) rfl rfl 28 (hcs zeroHd) R0 info_hd rfl (hcs_one _) ?_)
    refine bodyPost_ret (results_c2 rfl _ _ w.heap.size 28 (hcs zeroHd) _ rfl R0r Tryz.underlying28 rfl info_hd) rfl ?_
    exact ⟨by unfold decP; rw [if_neg hs1, if_pos hs2]; rfl, B0r⟩
  have hs2' : ¬ (512 : Int) < (s.size : Int) := by omega
  have hsz : s.size = 512 := by omega
  have hul : (un s).length = 512 := by rw [un_length]; exact hsz
  clear R0r B0r
  have hlit : (#[.string ⟨#[]⟩, .int .i64 0, .int .i64 0, .int .i64 0, .int .i64 0, .int .i64 0, .int .u8 0, .string ⟨#[]⟩, .string ⟨#[]⟩, .string ⟨#[]⟩, .int .i64 0, .int .i64 0] : Array Value) = hcs zeroHd := rfl
  have HLIT : Hid ((#[.string ⟨#[]⟩, .int .i64 0, .int .i64 0, .int .i64 0, .int .i64 0, .int .i64 0, .int .u8 0, .string ⟨#[]⟩, .string ⟨#[]⟩, .string ⟨#[]⟩, .int .i64 0, .int .i64 0] : Array Value) = hcs zeroHd) := hlit
  clear hlit
  have LB : Lies ((w.alloc (.cells (hcs zeroHd) 28)).alloc (.cells Tryz.zeroCells59 59)) (w.heap.size + 1) 59 (bcs zero512) := by
    have := Lies.new (w.alloc (.cells (hcs zeroHd) 28)) 59 (bcs zero512)
    rw [zero_cells]
    rwa [show (w.alloc (.cells (hcs zeroHd) 28)).heap.size = w.heap.size + 1 by simp] at this
  have hcp := copy_lies _ (w.heap.size + 1) 0 512 512 512 s zero512 59 LB (by rw [hsz]; rfl) (by rw [show zero512.length = 512 from List.length_replicate]; decide) 3
  have hcs5 : putB zero512 0 ((un s).take 512) = un s := by
    unfold putB
    rw [List.take_zero, List.nil_append, List.take_of_length_le (show (un s).length ≤ 512 by omega), hul, List.drop_of_length_le (by rw [show zero512.length = 512 from List.length_replicate]; decide), List.append_nil]
  obtain ⟨hc1, hc2⟩ := hcp
  rw [hcs5] at hc2
  have t1 := Turned.cells (w.heap.size + 1) (Lib.byteCells ((un s).take 512)) 0 ((w.alloc (.cells (hcs zeroHd) 28)).alloc (.cells Tryz.zeroCells59 59))
  have R1 := (R0.alloc (.cells Tryz.zeroCells59 59)).turned t1 (by omega)
  have B1 := below_turned (B0.alloc (by simp) (.cells Tryz.zeroCells59 59)) t1 (by omega) (by simp; omega)
  have E1 := (E0.below ((Below.refl _ _).alloc (Nat.le_refl _) (.cells Tryz.zeroCells59 59))).turned t1 (by have := hE.gl; omega)
  go_enter Tryz.func11, Tryz.ntmps11
  go_wp2_with fail
  rw [HLIT.out]
  generalize hW : ((w.alloc (.cells (hcs zeroHd) 28)).alloc (.cells Tryz.zeroCells59 59)) = WA at *
  generalize hW2 : WA.setCells (w.heap.size + 1) 0 (Lib.byteCells ((un s).take 512)) = WB at *
  clear hW hW2 t1 LB R0 B0 E0 hcs5
  have hbb : w.heap.size < w.heap.size + 1 := Nat.lt_succ_self _
  generalize w.heap.size + 1 = bb at *
  rw [hc1]
  have hbt := bytes_p 9 (by omega) bb WB E1.tab
  rw [show bg 9 = 257 from rfl, show rm 9 = 8 from rfl, show 512 - 257 = 255 from rfl] at hbt
  have hcv := fun d => conv_lies (un s) bb 257 8 255 (WB.drewN d) 59 (hc2.drew d) (by omega)
  rw [show ((un s).drop 257).take 8 = fieldL (un s) 9 from rfl] at hcv
  go_wp2_with fail
  refine hbt.mono ?_
  rintro e w1 ⟨rfl, d, rfl⟩
  have hcv1 := hcv d
  have htl : (bs (fieldL (un s) 9)).toList = fieldL (un s) 9 := by rw [toList_un, un_bs]
  have R2 := R1.drew d
  have B2 := below_drawn B1 d
  have E2 := E1.drew d
  have L2 := hc2.drew d
  clear hbt hcv hc1 hc2 R1 B1 E1
  by_cases hmg : fieldL (un s) 9 = magicL
  rotate_left
  · have em : (fieldL (un s) 9 == [117, 115, 116, 97, 114, 0, 48, 48]) = false := beq_eq_false_iff_ne.2 hmg
    go_wp2_with (refine wpList_store_row rfl 28 (.tmp 2) (.tmp 28) rfl w.heap.size (hcs zeroHd) rfl rfl 28 (hcs zeroHd) R2 info_hd rfl (hcs_one _) ?_)
    refine bodyPost_ret (results_c2 rfl _ _ w.heap.size 28 (hcs zeroHd) _ rfl (R2.row _) Tryz.underlying28 rfl info_hd) rfl ?_
    exact ⟨by unfold decP; rw [if_neg hs1, if_neg hs2, if_pos hmg]; rfl, below_setRow B2 (Nat.le_refl _) _⟩
  have em : (fieldL (un s) 9 == [117, 115, 116, 97, 114, 0, 48, 48]) = true := beq_iff_eq.2 hmg
  have HM : Hid (fieldL (un s) 9 = magicL) := hmg
  have HS1 : Hid (¬ s.size < 512) := hs1
  have HS2 : Hid (¬ 512 < s.size) := hs2
  clear hmg hs1 hs2
  have hbw : w.heap.size < WB.heap.size := R2.lt
  have hbb2 : bb < WB.heap.size := L2.lt
  go_wp2_with fail
  rw [HLIT.out]
  have S2 : Sd w ((WB.drewN d).alloc (.cells (hcs zeroHd) 28)) bb WB.heap.size (un s) (numHd (un s) 0) := ⟨R2.alloc _, L2.alloc _, Lies.new (WB.drewN d) _ _, B2.alloc (Nat.le_of_lt hbw) _, E2.below ((Below.refl _ _).alloc (Nat.le_refl _) _), hbb, hbb2, hE.gl⟩
  generalize (WB.drewN d).alloc (.cells (hcs zeroHd) 28) = WC at *
  generalize WB.heap.size = bH at *
  clear R2 B2 E2 L2 hcv1 htl em hbw
  have HDP : Hid (decP s = if okAll (un s) = false then (zeroHd, 6) else if (numV (fieldL (un s) 6)).2 = false then (zeroHd, 6) else if (numV (fieldL (un s) 6)).1 ≠ sumB (un s) then (zeroHd, 7) else (decHd (un s), 0)) := by
    unfold Hid decP; rw [if_neg HS1.out, if_neg HS2.out, if_neg (fun h => h HM.out)]
  clear HM HS1 HS2 HLIT hsz
  generalize un s = cs at *
  refine (numbersOf_p bH WC).mono ?_
  rintro e w2 ⟨rfl, b2⟩
  have S3 := S2.below b2
  clear S2 b2
  have HIX : Hid (∀ (k : Nat) (hk : k < 7) (W : World), (Instr.index 54 (.agg (nums bH)) (.int .i64 k)).run Tryz.prog W = .ok (.agg #[.int .i64 (fld k), .pointer (some ⟨bH, off k, none⟩)]) W) := fun k hk W => num_at bH k hk W
  generalize nums bH = NB at *
  go_wp2
  go_loopw [31] (fun n wr => ∃ k : Nat, k ≤ 7 ∧ n = .int .i64 k ∧ Hid (∀ j, j < k → okk cs j = true) ∧ Hid (Sd w wr bb bH cs (numHd cs k))) (fun n _ => 7 - (intOf n).toNat)
  case atStart => exact ⟨0, by omega, rfl, fun j hj => absurd hj (by omega), S3⟩
  case round =>
    obtain ⟨k, hk, rfl, HA, HS⟩ := hrel
    clear S3
    by_cases hlt : k < 7
    · have hi := HIX.out k hlt
      have S4 := HS.out.below ((Below.refl _ wr).alloc (Nat.le_refl _) (.cells #[.int .i64 (fld k), .pointer (some ⟨bH, off k, none⟩)] 53))
      have M4 := Lies.new wr 53 #[.int .i64 (fld k), .pointer (some ⟨bH, off k, none⟩)]
      have m0 : (wr.alloc (.cells #[.int .i64 (fld k), .pointer (some ⟨bH, off k, none⟩)] 53)).cell? ⟨wr.heap.size, 0, none⟩ = some (.int .i64 (fld k)) := M4.cell rfl
      obtain ⟨hf16, hr16, _⟩ := rm_fld k hlt
      have hdg := digits_p S (fld k) hf16 (by omega) bb cs _ hul S4.bl S4.env
      have HST : Hid ((hcs (numHd cs k)).setIfInBounds (off k) (.int .i64 (vk cs k)) = hcs (numHd cs (k + 1))) := numHd_step cs k hlt
      have HOK : Hid (okk cs k = false → okAll cs = false) := by
        unfold Hid okAll
        obtain rfl | rfl | rfl | rfl | rfl | rfl | rfl : k = 0 ∨ k = 1 ∨ k = 2 ∨ k = 3 ∨ k = 4 ∨ k = 5 ∨ k = 6 := by omega
        all_goals intro hh; rw [hh]; simp
      go_wp2_with fail
      refine hdg.mono ?_
      rintro e w4 ⟨rfl, b4⟩
      have S5 := S4.below b4
      have m1 : w4.cell? ⟨wr.heap.size, 1, none⟩ = some (.pointer (some ⟨bH, off k, none⟩)) := (M4.below b4).cell rfl
      have cn := num_cell S5.hd k hlt
      have fn := S5.hd.frozen (off k)
      clear S4 M4 m0 hdg b4 hi
      rw [show (((numV (fieldL cs (fld k))).1 : Nat) : Int) = vk cs k from rfl, show (numV (fieldL cs (fld k))).2 = okk cs k from rfl]
      cases hok : okk cs k with
      | false =>
        have HNA : Hid (okAll cs = false) := HOK.out hok
        generalize vk cs k = V at *
        go_wp2_with (refine wpList_store_row rfl 28 (.tmp 2) (.tmp 42) rfl w.heap.size (hcs zeroHd) rfl rfl 28 (hcs zeroHd) S5.res info_hd rfl (hcs_one _) ?_)
        refine bodyPost_ret (results_c2 rfl _ _ w.heap.size 28 (hcs zeroHd) _ rfl (S5.res.row _) Tryz.underlying28 rfl info_hd) rfl ?_
        exact ⟨by rw [HDP.out, if_pos HNA.out]; rfl, below_setRow S5.bel (Nat.le_refl _) _⟩
      | true =>
        have HOKK : Hid (okk cs k = true) := hok
        have S6 := S5.set (off k) (.int .i64 (vk cs k)) HST.out
        have HS6 : Hid (Sd w (w4.setCell ⟨bH, off k, none⟩ (.int .i64 (vk cs k))) bb bH cs (numHd cs (k + 1))) := S6
        clear S6 S5 HST hok
        generalize vk cs k = V at *
        go_wp2
        refine ⟨⟨k + 1, by omega, by go_num, fun j hj => ?_, HS6.out⟩, by simp [intOf]; omega⟩
        rcases Nat.lt_or_ge j k with h1 | h1
        · exact HA.out j h1
        · obtain rfl : j = k := by omega
          exact HOKK.out
    · obtain rfl : k = 7 := by omega
      have HAL : Hid (okAll cs = true) := by
        unfold Hid okAll
        rw [HA.out 0 (by omega), HA.out 1 (by omega), HA.out 2 (by omega), HA.out 3 (by omega), HA.out 4 (by omega), HA.out 5 (by omega), HA.out 6 (by omega)]; rfl
      have S4 := HS.out
      clear HA HS HIX
      go_wp2_with fail
      refine (digits_p S 6 (by omega) (by decide) bb cs wr hul S4.bl S4.env).mono ?_
      rintro e w5 ⟨rfl, b5⟩
      have S5 := S4.below b5
      clear S4 b5
      cases hok : (numV (fieldL cs 6)).2 with
      | false =>
        have HNA : Hid ((numV (fieldL cs 6)).2 = false) := hok
        generalize (numV (fieldL cs 6)).1 = V at *
        clear hok
        go_wp2_with (refine wpList_store_row rfl 28 (.tmp 2) (.tmp 55) rfl w.heap.size (hcs zeroHd) rfl rfl 28 (hcs zeroHd) S5.res info_hd rfl (hcs_one _) ?_)
        refine bodyPost_ret (results_c2 rfl _ _ w.heap.size 28 (hcs zeroHd) _ rfl (S5.res.row _) Tryz.underlying28 rfl info_hd) rfl ?_
        exact ⟨by rw [HDP.out, if_neg (by rw [HAL.out]; decide), if_pos HNA.out]; rfl, below_setRow S5.bel (Nat.le_refl _) _⟩
      | true =>
      have HNA : Hid ((numV (fieldL cs 6)).2 = true) := hok
      obtain ⟨V, hV⟩ : ∃ V, (numV (fieldL cs 6)).1 = V := ⟨_, rfl⟩
      rw [hV]
      have HV : Hid ((numV (fieldL cs 6)).1 = V) := hV
      clear hok hV
      go_wp2_with fail
      refine (sum_p bb cs w5 hul S5.bl S5.env.tab).mono ?_
      rintro e w6 ⟨rfl, d6, rfl⟩
      have S6 := S5.below (below_drawn (Below.refl _ w5) d6)
      clear S5
      by_cases hsum : V = sumB cs
      rotate_left
      · have HNS : Hid (V ≠ sumB cs) := hsum
        have hne : ((V : Int) == (sumB cs : Int)) = false := beq_eq_false_iff_ne.2 (by omega)
        generalize sumB cs = U at *
        generalize w5.drewN d6 = W6 at *
        go_wp2_with (refine wpList_store_row rfl 28 (.tmp 2) (.tmp 60) rfl w.heap.size (hcs zeroHd) rfl rfl 28 (hcs zeroHd) S6.res info_hd rfl (hcs_one _) ?_)
        refine bodyPost_ret (results_c2 rfl _ _ w.heap.size 28 (hcs zeroHd) _ rfl (S6.res.row _) Tryz.underlying28 rfl info_hd) rfl ?_
        exact ⟨by rw [HDP.out, if_neg (by rw [HAL.out]; decide), if_neg (by rw [HNA.out]; decide), if_pos (by rw [HV.out]; exact HNS.out)]; rfl, below_setRow S6.bel (Nat.le_refl _) _⟩
      have HES : Hid (decP s = (decHd cs, 0)) := by
        unfold Hid
        rw [HDP.out, if_neg (by rw [HAL.out]; decide), if_neg (by rw [HNA.out]; decide), if_neg (fun h => h (by rw [HV.out]; exact hsum))]
      subst hsum
      clear HDP HAL HNA HV
      generalize sumB cs = U at *
      generalize w5.drewN d6 = W6 at *
      have hq14 : (bs (textL (fieldL cs 14))).size ≤ 155 := by rw [size_bs]; exact textL_length cs 14 155 rfl
      have hq0 : (bs (textL (fieldL cs 0))).size ≤ 100 := by rw [size_bs]; exact textL_length cs 0 100 rfl
      go_wp2_with fail
      refine (text_p S 14 (by omega) bb cs W6 hul S6.bl S6.env).mono ?_
      rintro e w7 ⟨rfl, b7⟩
      have S7 := S6.below b7
      clear S6 b7
      go_wp2_with fail
      refine (text_p S 0 (by omega) bb cs w7 hul S7.bl S7.env).mono ?_
      rintro e w8 ⟨rfl, b8⟩
      have S8 := S7.below b8
      clear S7 b8
      have hjn := join_p (bs (textL (fieldL cs 14))) (bs (textL (fieldL cs 0))) w8 (by omega)
      obtain ⟨P, hP⟩ : ∃ P, joinB (bs (textL (fieldL cs 14))) (bs (textL (fieldL cs 0))) = P := ⟨_, rfl⟩
      have HP : Hid (joinB (bs (textL (fieldL cs 14))) (bs (textL (fieldL cs 0))) = P) := hP
      rw [hP] at hjn
      clear hP hq14 hq0
      have c0 : w8.cell? ⟨bH, 0, none⟩ = some (.string ⟨#[]⟩) := S8.hd.cell rfl
      have f0 := S8.hd.frozen 0
      have S9 := S8.set (hh' := { numHd cs 7 with path := P }) 0 (.string P) rfl
      have d7 : (w8.setCell ⟨bH, 0, none⟩ (.string P)).cell? ⟨0, 7, none⟩ = some (.int .i64 156) := S9.env.tab.cell 7 (by omega)
      have x6 : (w8.setCell ⟨bH, 0, none⟩ (.string P)).cell? ⟨bb, 156, none⟩ = some (.int .u8 (cs.getD 156 0).toNat) := by
        rw [S9.bl.cell (bcs_get cs 156 (by omega))]; simp [List.getD_eq_getElem?_getD, hul]
      have c6 : (w8.setCell ⟨bH, 0, none⟩ (.string P)).cell? ⟨bH, 6, none⟩ = some (.int .u8 0) := S9.hd.cell rfl
      have f6 := S9.hd.frozen 6
      have S10 := S9.set (hh' := { numHd cs 7 with path := P, typ := cs.getD 156 0 }) 6 (.int .u8 (cs.getD 156 0).toNat) rfl
      clear S8 S9
      obtain ⟨T, hT⟩ : ∃ T, cs.getD 156 0 = T := ⟨_, rfl⟩
      have HT : Hid (cs.getD 156 0 = T) := hT
      rw [hT] at x6 S10
      clear hT
      go_wp2_with (go_at_call 36; refine hjn.mono ?_; rintro e wj ⟨rfl, rfl⟩)
      clear c0 f0 d7 x6 c6 f6 hjn
      generalize (wj.setCell ⟨bH, 0, none⟩ (.string P)).setCell ⟨bH, 6, none⟩ (.int .u8 T.toNat) = W10 at *
      refine (text_p S 8 (by omega) bb cs W10 hul S10.bl S10.env).mono ?_
      rintro e w11 ⟨rfl, b11⟩
      have S11 := S10.below b11
      have c7 : w11.cell? ⟨bH, 7, none⟩ = some (.string ⟨#[]⟩) := S11.hd.cell rfl
      have f7 := S11.hd.frozen 7
      have S12 := S11.set (hh' := { numHd cs 7 with path := P, typ := T, link := bs (textL (fieldL cs 8)) }) 7 (.string (bs (textL (fieldL cs 8)))) rfl
      clear S10 b11 S11
      obtain ⟨X, hX⟩ : ∃ X, bs (textL (fieldL cs 8)) = X := ⟨_, rfl⟩
      have HX : Hid (bs (textL (fieldL cs 8)) = X) := hX
      rw [hX] at S12 ⊢
      clear hX
      go_wp2_with fail
      generalize w11.setCell ⟨bH, 7, none⟩ (.string X) = W12 at *
      clear c7 f7
      refine (text_p S 10 (by omega) bb cs W12 hul S12.bl S12.env).mono ?_
      rintro e w13 ⟨rfl, b13⟩
      have S13 := S12.below b13
      have c8 : w13.cell? ⟨bH, 8, none⟩ = some (.string ⟨#[]⟩) := S13.hd.cell rfl
      have f8 := S13.hd.frozen 8
      have S14 := S13.set (hh' := { numHd cs 7 with path := P, typ := T, link := X, user := bs (textL (fieldL cs 10)) }) 8 (.string (bs (textL (fieldL cs 10)))) rfl
      clear S12 b13 S13
      obtain ⟨Y, hY⟩ : ∃ Y, bs (textL (fieldL cs 10)) = Y := ⟨_, rfl⟩
      have HY : Hid (bs (textL (fieldL cs 10)) = Y) := hY
      rw [hY] at S14 ⊢
      clear hY
      go_wp2_with fail
      generalize w13.setCell ⟨bH, 8, none⟩ (.string Y) = W14 at *
      clear c8 f8
      refine (text_p S 11 (by omega) bb cs W14 hul S14.bl S14.env).mono ?_
      rintro e w15 ⟨rfl, b15⟩
      have S15 := S14.below b15
      have c9 : w15.cell? ⟨bH, 9, none⟩ = some (.string ⟨#[]⟩) := S15.hd.cell rfl
      have f9 := S15.hd.frozen 9
      have S16 := S15.set (hh' := { numHd cs 7 with path := P, typ := T, link := X, user := Y, group := bs (textL (fieldL cs 11)) }) 9 (.string (bs (textL (fieldL cs 11)))) rfl
      clear S14 b15 S15
      obtain ⟨Z, hZ⟩ : ∃ Z, bs (textL (fieldL cs 11)) = Z := ⟨_, rfl⟩
      have HZ : Hid (bs (textL (fieldL cs 11)) = Z) := hZ
      rw [hZ] at S16 ⊢
      clear hZ
      have HH : Hid (({ numHd cs 7 with path := P, typ := T, link := X, user := Y, group := Z } : Hd) = decHd cs) := by
        unfold Hid decHd
        rw [HP.out, HT.out, HX.out, HY.out, HZ.out]
        rfl
      rw [HH.out] at S16
      have hsd : hcs (decHd cs) = hcs (decHd cs) := rfl
      go_wp2_with (first
        | (refine wpList_load_row rfl 28 (.tmp 5) rfl bH rfl 28 (hcs (decHd cs)) (0, 0) _ S16.hd Tryz.underlying28 rfl info_hd ?_)
        | (refine wpList_store_row rfl 28 (.tmp 2) (.tmp 77) rfl w.heap.size (hcs (decHd cs)) rfl rfl 28 (hcs zeroHd) S16.res info_hd rfl (hcs_one _) ?_))
      refine bodyPost_ret (results_c2 rfl _ _ w.heap.size 28 (hcs (decHd cs)) _ rfl (S16.res.row _) Tryz.underlying28 rfl info_hd) rfl ?_
      exact ⟨by rw [HES.out]; rfl, below_setRow S16.bel (Nat.le_refl _) _⟩
end Go.Proofs.YtgdkgdlgalinbaaGreatDoor
