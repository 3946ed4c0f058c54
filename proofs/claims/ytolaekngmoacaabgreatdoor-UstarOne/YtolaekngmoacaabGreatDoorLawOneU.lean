/- UstarOne, walked: one byte is another one, outside of chksum: it is refused. -/
import Derived.Test.YtolaekngmoacaabGreatDoorWorksU
import Derived.Test.YtolaekngmoacaabGreatDoorOneM
import Derived.Deep.RegionHeld3
import Derived.RegionTactic
namespace Go.Proofs.YtolaekngmoacaabGreatDoor
open Go Go.RowKit

structure Keeps (w W : World) : Prop where
  bel : Below w.heap.size w W
  env : Env W
  err : ErrType W
theorem Keeps.below {w W W2 : World} (k : Keeps w W) (b : Below W.heap.size W W2) : Keeps w W2 := ⟨below_join k.bel b, k.env.below b, k.err.below b⟩
theorem of_keeps {w W : World} {K : Act → World → Prop} {Q : Exit → Act → World → Prop} {e : Exit} {a : Act} (k : Keeps w W) (h : ∀ W, Keeps w W → Exit.then K Q e a W) : Exit.then K Q e a W := h W k
theorem below12 {B g : Nat} {a W : World} (b : Below B a W) (hg : B ≤ g) (v0 v1 v2 v3 v4 v5 v6 v7 v8 v9 v10 v11 : Value) : Below B a ((((((((((((W.setCell ⟨g, 0, none⟩ v0).setCell ⟨g, 1, none⟩ v1).setCell ⟨g, 2, none⟩ v2).setCell ⟨g, 3, none⟩ v3).setCell ⟨g, 4, none⟩ v4).setCell ⟨g, 5, none⟩ v5).setCell ⟨g, 6, none⟩ v6).setCell ⟨g, 7, none⟩ v7).setCell ⟨g, 8, none⟩ v8).setCell ⟨g, 9, none⟩ v9).setCell ⟨g, 10, none⟩ v10).setCell ⟨g, 11, none⟩ v11) :=
  (((((((((((b.setCell (p := ⟨g, 0, none⟩) hg v0).setCell (p := ⟨g, 1, none⟩) hg v1).setCell (p := ⟨g, 2, none⟩) hg v2).setCell (p := ⟨g, 3, none⟩) hg v3).setCell (p := ⟨g, 4, none⟩) hg v4).setCell (p := ⟨g, 5, none⟩) hg v5).setCell (p := ⟨g, 6, none⟩) hg v6).setCell (p := ⟨g, 7, none⟩) hg v7).setCell (p := ⟨g, 8, none⟩) hg v8).setCell (p := ⟨g, 9, none⟩) hg v9).setCell (p := ⟨g, 10, none⟩) hg v10).setCell (p := ⟨g, 11, none⟩) hg v11
set_option maxRecDepth 100000 in
set_option maxHeartbeats 4000000 in
theorem one_law (h : Hd) (hs : h.path.size < 4611686018427387904) (ak : Int) (c : UInt8) (w : World) (hE : Env w) (hg : ErrType w) : Calls Tryz.prog 3 #[.agg (hcs h), .int .i64 ak, .int .u8 c.toNat] w fun e w' => e = .returned (.bool true) ∧ Below w.heap.size w w' := by
  have L0 := Lies.new w 23 (hcs h)
  have B0 := (Below.refl _ w).alloc (Nat.le_refl _) (.cells (hcs h) 23)
  have E0 := hE.below B0
  have G0 := hg.below B0
  have HEN : Hid (∀ W, Env W → Calls Tryz.prog 6 #[.agg (hcs h)] W fun e w' => e = .returned (.tuple #[.string (encP h).1, errV (encP h).2]) ∧ Below W.heap.size W w') := fun W hW => encode_p shelf5 h W hs hW
  have hi : (Tryz.prog.info? 23).map (·.size) = some (hcs h).size := info_hd
  by_cases he : (encP h).2 = 0
  rotate_left
  · rw [errV_some _ he] at HEN
    generalize (encP h).2 = n at *
    generalize (encP h).1 = X at *
    generalize hcs h = CA at *
    go_enter Tryz.func3, Tryz.ntmps3
    go_wp2_with (first | (refine wpList_load_row rfl 23 (.tmp 3) rfl w.heap.size rfl 23 CA (0, 0) _ L0 Tryz.underlying23 rfl hi ?_))
    refine (HEN.out _ E0).mono ?_
    rintro e w1 ⟨rfl, b1⟩
    have B1 := below_join B0 b1
    have E1 := E0.below b1
    have G1 := G0.below b1
    go_wp2_with (go_at_call 7; refine (works_p w1 E1 G1).mono ?_; rintro e w2 ⟨rfl, b2⟩)
    go_ret
    exact ⟨rfl, below_join B1 b2⟩
  obtain ⟨good, hLL⟩ := good_of h he
  rw [hLL, he, errV_zero] at HEN
  have hlen := enc_length good
  have hsz : (bs (encL h)).size = 512 := by rw [size_bs, hlen]
  have hbad := one_bad good
  have hpart := set_parts (encL h)
  have hbyte : ∀ k (hb : k < (bs (encL h)).size), (bs (encL h))[k] = (encL h).getD k 0 := fun k hb => by
    have := un_getElem? (bs (encL h)) k hb
    rw [un_bs] at this
    rw [List.getD_eq_getElem?_getD, this]; rfl
  have hpk := fun W => pick_p ak W
  clear hLL he good
  generalize encL h = cs at *
  obtain ⟨R, hR⟩ : ∃ R, bs cs = R := ⟨_, rfl⟩
  rw [hR] at HEN hsz hpart hbyte
  have HPART : Hid (∀ (i : Nat) (c : UInt8), i < cs.length → R.extract 0 i ++ bs [c] ++ R.extract (i + 1) R.size = bs (cs.set i c)) := hpart
  have HBYTE : Hid (∀ k (hb : k < R.size), R[k] = cs.getD k 0) := hbyte
  have HBAD : Hid (∀ (i : Nat) (c : UInt8), i < 512 → i < 148 ∨ 156 ≤ i → cs.getD i 0 ≠ c → 1 ≤ (decP (bs (cs.set i c))).2 ∧ (decP (bs (cs.set i c))).2 ≤ 32) := hbad
  clear hpart hbyte hbad hR
  generalize hcs h = CA at *
  go_enter Tryz.func3, Tryz.ntmps3
  go_wp2_with (first | (refine wpList_load_row rfl 23 (.tmp 3) rfl w.heap.size rfl 23 CA (0, 0) _ L0 Tryz.underlying23 rfl hi ?_))
  refine (HEN.out _ E0).mono ?_
  rintro e w1 ⟨rfl, b1⟩
  have K1 : Keeps w w1 := ⟨below_join B0 b1, E0.below b1, G0.below b1⟩
  clear L0 B0 E0 G0 b1 HEN
  go_wp2_with fail
  refine (hpk w1).mono ?_
  rintro e w1' ⟨⟨j, hj, rfl⟩, hw1⟩
  have hw1' := hw1.symm
  clear hw1
  subst hw1'
  have hjs : j < R.size := by omega
  have HBJ : Hid (R[j] = cs.getD j 0) := HBYTE.out j hjs
  have d1 : (0 : Int) ≤ (j : Int) := by omega
  have d2 : (j : Int) < (R.size : Int) := by omega
  by_cases hin : 148 ≤ j ∧ j < 156
  · have i1 : (148 : Int) ≤ (j : Int) := by omega
    have i2 : (j : Int) < 156 := by omega
    go_wp2_with (go_at_call 7; refine (works_p _ K1.env K1.err).mono ?_; rintro e w2 ⟨rfl, b2⟩)
    go_ret
    exact ⟨rfl, below_join K1.bel b2⟩
  by_cases hcc : R[j].toNat = c.toNat
  · have hcc2 : ((R[j].toNat : Int) == (c.toNat : Int)) = true := by rw [hcc]; simp
    by_cases hlo : 148 ≤ j
    · have i1 : (148 : Int) ≤ (j : Int) := by omega
      have i2 : ¬ (j : Int) < 156 := by omega
      go_wp2_with (go_at_call 7; refine (works_p _ K1.env K1.err).mono ?_; rintro e w2 ⟨rfl, b2⟩)
      go_ret
      exact ⟨rfl, below_join K1.bel b2⟩
    · have i1 : ¬ (148 : Int) ≤ (j : Int) := by omega
      go_wp2_with (go_at_call 7; refine (works_p _ K1.env K1.err).mono ?_; rintro e w2 ⟨rfl, b2⟩)
      go_ret
      exact ⟨rfl, below_join K1.bel b2⟩
  have hne : cs.getD j 0 ≠ c := fun e => hcc (by rw [HBJ.out, e])
  have hcc2 : ((R[j].toNat : Int) == (c.toNat : Int)) = false := beq_eq_false_iff_ne.2 (by omega)
  obtain ⟨bad1, bad2⟩ := HBAD.out j c hj (by omega) hne
  obtain ⟨X, hX⟩ : ∃ X, bs (cs.set j c) = X := ⟨_, rfl⟩
  have hcat := HPART.out j c (by omega)
  obtain ⟨T1, hT1⟩ : ∃ T1, bs [c] = T1 := ⟨_, rfl⟩
  rw [hX] at bad1 bad2 hcat
  rw [hT1] at hcat
  have zT1 : T1.size = 1 := by rw [← hT1]; rfl
  have hcv : ∀ (g : Nat) (W : World), W.cell? ⟨g, 0, none⟩ = some (.int .u8 c.toNat) → (convert 32 9 (.slice (some ⟨g, 0, none⟩) 1 1)).run Tryz.prog W = .ok (.string T1) W := fun g W hc => by
    rw [← hT1]
    exact run_convert_bytes_back W 32 9 5 ⟨g, 0, none⟩ 1 [c] Tryz.underlying32 Tryz.underlying5 Tryz.underlying9 (fun q hq => by
      obtain rfl : q = 0 := by simp at hq; exact hq
      exact hc)
  have hdec := fun W hW => decode_p shelf5 X W hW
  obtain ⟨D, hD⟩ : ∃ D, (decP X).1 = D := ⟨_, rfl⟩
  obtain ⟨n, hn⟩ : ∃ n, (decP X).2 = n := ⟨_, rfl⟩
  rw [hD, hn, errV_some _ (by omega)] at hdec
  rw [hn] at bad1 bad2
  clear hD hn hX hT1 HPART HBYTE HBAD HBJ hne hpk
  obtain ⟨p0, p1, p2, p3, p4, p5, p6, p7, p8, p9, p10, p11⟩ := D
  simp only [hcs] at hdec
  have i0 : ¬ ((148 : Int) ≤ (j : Int) ∧ (j : Int) < 156) := by omega
  rw [hsz] at hcat
  obtain ⟨X1, hX1⟩ : ∃ X1, R.extract 0 j = X1 := ⟨_, rfl⟩
  obtain ⟨X2, hX2⟩ : ∃ X2, R.extract (j + 1) 512 = X2 := ⟨_, rfl⟩
  have zX1 : X1.size ≤ 512 := by rw [← hX1, size_extract' _ _ _ (by omega)]; omega
  have zX2 : X2.size ≤ 512 := by rw [← hX2, size_extract' _ _ _ (by omega)]; omega
  have hs1 : ∀ W, (Instr.slice 9 (.string R) none (some (.int .i64 (j : Int))) none).run Tryz.prog W = .ok (.string X1) W := fun W => by
    rw [run_slice_string_h W _ R Tryz.underlying9 .i64 (j : Int) (by omega) (by omega), Int.toNat_natCast, hX1]
  have hs2 : ∀ W, (Instr.slice 9 (.string R) (some (.int .i64 ((j : Int) + 1))) none none).run Tryz.prog W = .ok (.string X2) W := fun W => by
    rw [run_slice_string_l W _ R Tryz.underlying9 .i64 ((j : Int) + 1) (by omega) (by omega), show ((j : Int) + 1).toNat = j + 1 by omega, hsz, hX2]
  rw [hX1, hX2] at hcat
  have hb1 : ∀ W, (Op.stringOp .add X1 T1).run Tryz.prog W = .ok (.string (X1 ++ T1)) W := fun W => run_string_add_sum W X1 T1 (by omega)
  have hb2 : ∀ W, (Op.stringOp .add (X1 ++ T1) X2).run Tryz.prog W = .ok (.string X) W := fun W => by
    rw [← hcat]; exact run_string_add_sum W _ _ (by rw [ByteArray.size_append]; omega)
  have wj : IntKind.i64.wrap ((j : Int) + 1) = (j : Int) + 1 := by rw [IntKind.wrap_i64]; omega
  clear hX1 hX2 zX1 zX2 zT1 hcat hsz
  have HFF : Hid (∀ (g : Nat) (W : World), Lies W g 23 #[.string ⟨#[]⟩, .int .i64 0, .int .i64 0, .int .i64 0, .int .i64 0, .int .i64 0, .int .u8 0, .string ⟨#[]⟩, .string ⟨#[]⟩, .string ⟨#[]⟩, .int .i64 0, .int .i64 0] → W.cell? ⟨g, 0, none⟩ = some (.string ⟨#[]⟩) ∧ W.cell? ⟨g, 1, none⟩ = some (.int .i64 0) ∧ W.cell? ⟨g, 2, none⟩ = some (.int .i64 0) ∧ W.cell? ⟨g, 3, none⟩ = some (.int .i64 0) ∧ W.cell? ⟨g, 4, none⟩ = some (.int .i64 0) ∧ W.cell? ⟨g, 5, none⟩ = some (.int .i64 0) ∧ W.cell? ⟨g, 6, none⟩ = some (.int .u8 0) ∧ W.cell? ⟨g, 7, none⟩ = some (.string ⟨#[]⟩) ∧ W.cell? ⟨g, 8, none⟩ = some (.string ⟨#[]⟩) ∧ W.cell? ⟨g, 9, none⟩ = some (.string ⟨#[]⟩) ∧ W.cell? ⟨g, 10, none⟩ = some (.int .i64 0) ∧ W.cell? ⟨g, 11, none⟩ = some (.int .i64 0) ∧ W.frozen? ⟨g, 0, none⟩ = false ∧ W.frozen? ⟨g, 1, none⟩ = false ∧ W.frozen? ⟨g, 2, none⟩ = false ∧ W.frozen? ⟨g, 3, none⟩ = false ∧ W.frozen? ⟨g, 4, none⟩ = false ∧ W.frozen? ⟨g, 5, none⟩ = false ∧ W.frozen? ⟨g, 6, none⟩ = false ∧ W.frozen? ⟨g, 7, none⟩ = false ∧ W.frozen? ⟨g, 8, none⟩ = false ∧ W.frozen? ⟨g, 9, none⟩ = false ∧ W.frozen? ⟨g, 10, none⟩ = false ∧ W.frozen? ⟨g, 11, none⟩ = false) := fun g W l => ⟨l.cell rfl, l.cell rfl, l.cell rfl, l.cell rfl, l.cell rfl, l.cell rfl, l.cell rfl, l.cell rfl, l.cell rfl, l.cell rfl, l.cell rfl, l.cell rfl, l.frozen 0, l.frozen 1, l.frozen 2, l.frozen 3, l.frozen 4, l.frozen 5, l.frozen 6, l.frozen 7, l.frozen 8, l.frozen 9, l.frozen 10, l.frozen 11⟩
  have HV1 : Hid (∀ o, Keeps w (w1.alloc o).drew) := fun o => K1.below (((Below.refl _ w1).alloc (Nat.le_refl _) o).trans ⟨rfl, rfl, rfl, Nat.le_refl _, fun _ _ => rfl⟩)
  have HV2 : Hid (∀ o o', Keeps w ((w1.alloc o).alloc o').drew) := fun o o' => K1.below ((((Below.refl _ w1).alloc (Nat.le_refl _) o).alloc (by simp) o').trans ⟨rfl, rfl, rfl, Nat.le_refl _, fun _ _ => rfl⟩)
  have HZa : Hid (∀ (W2 : World) (o : Obj), Below ((w1.alloc (.cells #[.string ⟨#[]⟩, .int .i64 0, .int .i64 0, .int .i64 0, .int .i64 0, .int .i64 0, .int .u8 0, .string ⟨#[]⟩, .string ⟨#[]⟩, .string ⟨#[]⟩, .int .i64 0, .int .i64 0] 23)).alloc o).drew.heap.size ((w1.alloc (.cells #[.string ⟨#[]⟩, .int .i64 0, .int .i64 0, .int .i64 0, .int .i64 0, .int .i64 0, .int .u8 0, .string ⟨#[]⟩, .string ⟨#[]⟩, .string ⟨#[]⟩, .int .i64 0, .int .i64 0] 23)).alloc o).drew W2 → Lies W2 w1.heap.size 23 #[.string ⟨#[]⟩, .int .i64 0, .int .i64 0, .int .i64 0, .int .i64 0, .int .i64 0, .int .u8 0, .string ⟨#[]⟩, .string ⟨#[]⟩, .string ⟨#[]⟩, .int .i64 0, .int .i64 0]) := fun W2 o b => ((((Lies.new w1 _ _).alloc o).drew 1)).below b
  have HZb : Hid (∀ (W2 : World) (o : Obj), Below ((w1.alloc o).alloc (.cells #[.string ⟨#[]⟩, .int .i64 0, .int .i64 0, .int .i64 0, .int .i64 0, .int .i64 0, .int .u8 0, .string ⟨#[]⟩, .string ⟨#[]⟩, .string ⟨#[]⟩, .int .i64 0, .int .i64 0] 23)).drew.heap.size ((w1.alloc o).alloc (.cells #[.string ⟨#[]⟩, .int .i64 0, .int .i64 0, .int .i64 0, .int .i64 0, .int .i64 0, .int .u8 0, .string ⟨#[]⟩, .string ⟨#[]⟩, .string ⟨#[]⟩, .int .i64 0, .int .i64 0] 23)).drew W2 → Lies W2 (w1.heap.size + 1) 23 #[.string ⟨#[]⟩, .int .i64 0, .int .i64 0, .int .i64 0, .int .i64 0, .int .i64 0, .int .u8 0, .string ⟨#[]⟩, .string ⟨#[]⟩, .string ⟨#[]⟩, .int .i64 0, .int .i64 0]) := fun W2 o b => by
    have l := ((Lies.new (w1.alloc o) 23 #[.string ⟨#[]⟩, .int .i64 0, .int .i64 0, .int .i64 0, .int .i64 0, .int .i64 0, .int .u8 0, .string ⟨#[]⟩, .string ⟨#[]⟩, .string ⟨#[]⟩, .int .i64 0, .int .i64 0]).drew 1).below b
    rwa [show (w1.alloc o).heap.size = w1.heap.size + 1 by simp] at l
  have hle : w.heap.size ≤ w1.heap.size := K1.bel.size
  have n1 : (0 : Int) < (n : Int) := by omega
  by_cases hlo : 148 ≤ j
  · have i1 : (148 : Int) ≤ (j : Int) := by omega
    have i2 : ¬ (j : Int) < 156 := by omega
    go_wp2
    go_region_with
      (first | (go_at_call 9; refine (hdec _ (HV1.out _).env).mono ?_; rintro e w9 ⟨rfl, b9⟩; have K9 := (HV1.out _).below b9) | (go_at_call 9; refine (hdec _ (HV2.out _ _).env).mono ?_; rintro e w9 ⟨rfl, b9⟩; have K9 := (HV2.out _ _).below b9; (first | (have l9 := HZa.out _ _ b9) | (have l9 := HZb.out _ _ b9)); obtain ⟨z0, z1, z2, z3, z4, z5, z6, z7, z8, z9, z10, z11, f0, f1, f2, f3, f4, f5, f6, f7, f8, f9, f10, f11⟩ := HFF.out _ _ l9))
    all_goals
      have KF : Hid (∀ (g : Nat), w.heap.size ≤ g → ∀ v0 v1 v2 v3 v4 v5 v6 v7 v8 v9 v10 v11, Keeps w ((((((((((((w9.setCell ⟨g, 0, none⟩ v0).setCell ⟨g, 1, none⟩ v1).setCell ⟨g, 2, none⟩ v2).setCell ⟨g, 3, none⟩ v3).setCell ⟨g, 4, none⟩ v4).setCell ⟨g, 5, none⟩ v5).setCell ⟨g, 6, none⟩ v6).setCell ⟨g, 7, none⟩ v7).setCell ⟨g, 8, none⟩ v8).setCell ⟨g, 9, none⟩ v9).setCell ⟨g, 10, none⟩ v10).setCell ⟨g, 11, none⟩ v11)) := fun g hgg v0 v1 v2 v3 v4 v5 v6 v7 v8 v9 v10 v11 => by
        have b := below12 K9.bel hgg v0 v1 v2 v3 v4 v5 v6 v7 v8 v9 v10 v11
        exact ⟨b, hE.below b, hg.below b⟩
      have KA : Hid (∀ o, Keeps w (w9.alloc o)) := fun o => K9.below ((Below.refl _ w9).alloc (Nat.le_refl _) o)
      with_reducible refine of_keeps (w := w) (by first | (with_reducible exact KA.out _) | (with_reducible exact KF.out _ (by omega) _ _ _ _ _ _ _ _ _ _ _ _)) ?_
      intro W KW
      go_wp2_with (first
        | (go_at_call 10; refine (num_some n (by omega) (by omega) _).mono ?_; rintro e w6 ⟨rfl, hw6⟩; have hw6' := hw6.symm; clear hw6; subst hw6')
        | (go_at_call 7; refine (works_p _ KW.env KW.err).mono ?_; rintro e w7 ⟨rfl, b7⟩))
      go_ret
      exact ⟨rfl, below_join KW.bel b7⟩
  · have i1 : ¬ (148 : Int) ≤ (j : Int) := by omega
    go_wp2
    go_region_with
      (first | (go_at_call 9; refine (hdec _ (HV1.out _).env).mono ?_; rintro e w9 ⟨rfl, b9⟩; have K9 := (HV1.out _).below b9) | (go_at_call 9; refine (hdec _ (HV2.out _ _).env).mono ?_; rintro e w9 ⟨rfl, b9⟩; have K9 := (HV2.out _ _).below b9; (first | (have l9 := HZa.out _ _ b9) | (have l9 := HZb.out _ _ b9)); obtain ⟨z0, z1, z2, z3, z4, z5, z6, z7, z8, z9, z10, z11, f0, f1, f2, f3, f4, f5, f6, f7, f8, f9, f10, f11⟩ := HFF.out _ _ l9))
    all_goals
      have KF : Hid (∀ (g : Nat), w.heap.size ≤ g → ∀ v0 v1 v2 v3 v4 v5 v6 v7 v8 v9 v10 v11, Keeps w ((((((((((((w9.setCell ⟨g, 0, none⟩ v0).setCell ⟨g, 1, none⟩ v1).setCell ⟨g, 2, none⟩ v2).setCell ⟨g, 3, none⟩ v3).setCell ⟨g, 4, none⟩ v4).setCell ⟨g, 5, none⟩ v5).setCell ⟨g, 6, none⟩ v6).setCell ⟨g, 7, none⟩ v7).setCell ⟨g, 8, none⟩ v8).setCell ⟨g, 9, none⟩ v9).setCell ⟨g, 10, none⟩ v10).setCell ⟨g, 11, none⟩ v11)) := fun g hgg v0 v1 v2 v3 v4 v5 v6 v7 v8 v9 v10 v11 => by
        have b := below12 K9.bel hgg v0 v1 v2 v3 v4 v5 v6 v7 v8 v9 v10 v11
        exact ⟨b, hE.below b, hg.below b⟩
      have KA : Hid (∀ o, Keeps w (w9.alloc o)) := fun o => K9.below ((Below.refl _ w9).alloc (Nat.le_refl _) o)
      with_reducible refine of_keeps (w := w) (by first | (with_reducible exact KA.out _) | (with_reducible exact KF.out _ (by omega) _ _ _ _ _ _ _ _ _ _ _ _)) ?_
      intro W KW
      go_wp2_with (first
        | (go_at_call 10; refine (num_some n (by omega) (by omega) _).mono ?_; rintro e w6 ⟨rfl, hw6⟩; have hw6' := hw6.symm; clear hw6; subst hw6')
        | (go_at_call 7; refine (works_p _ KW.env KW.err).mono ?_; rintro e w7 ⟨rfl, b7⟩))
      go_ret
      exact ⟨rfl, below_join KW.bel b7⟩
end Go.Proofs.YtolaekngmoacaabGreatDoor
