/- Package ustar's Encode. -/
import Derived.Test.YtgdkgdlgalinbaaGreatDoorEncM
import Derived.Test.YtgdkgdlgalinbaaGreatDoorOctU
import Derived.Test.YtgdkgdlgalinbaaGreatDoorSplit
namespace Go.Proofs.YtgdkgdlgalinbaaGreatDoor
open Go Go.RowKit

theorem info_hd : (Tryz.prog.info? 28).map (·.size) = some 12 := by kernel_rfl
theorem hcs_size (h : Hd) : (hcs h).size = 12 := rfl
theorem info_nums : (Tryz.prog.info? 54).map (·.size) = some 14 := by kernel_rfl
theorem nums_one (b : Nat) : (nums b).all (·.oneCell') = true := by simp [nums, Value.oneCell']
theorem num_at (b k : Nat) (hk : k < 7) (w : World) : (Instr.index 54 (.agg (nums b)) (.int .i64 k)).run Tryz.prog w = .ok (.agg #[.int .i64 (fld k), .pointer (some ⟨b, off k, none⟩)]) w := by
  obtain rfl | rfl | rfl | rfl | rfl | rfl | rfl : k = 0 ∨ k = 1 ∨ k = 2 ∨ k = 3 ∨ k = 4 ∨ k = 5 ∨ k = 6 := by omega
  all_goals kernel_rfl
theorem num_cell {w : World} {b : Nat} {h : Hd} (hL : Lies w b 28 (hcs h)) (k : Nat) (hk : k < 7) : w.cell? ⟨b, off k, none⟩ = some (.int .i64 (num h k)) := by
  obtain rfl | rfl | rfl | rfl | rfl | rfl | rfl : k = 0 ∨ k = 1 ∨ k = 2 ∨ k = 3 ∨ k = 4 ∨ k = 5 ∨ k = 6 := by omega
  all_goals exact hL.cell rfl
theorem zero_cells : Tryz.zeroCells59 = bcs zero512 := by kernel_rfl
theorem below_turned {B b : Nat} {w w1 w2 : World} (h : Below B w w1) (k : Turned b w1 w2) (hb : B ≤ b) (hB : B ≤ w1.heap.size) : Below B w w2 :=
  ⟨k.os.trans h.os, k.tape.trans h.tape, k.output.trans h.output, Nat.le_trans h.size k.size, fun i hi => (k.block i (Nat.lt_of_lt_of_le hi hB) (fun e => by have := Option.some.inj e; omega)).trans (h.block i hi)⟩
/-- The header, its numbers' places and the block, while the block is written. -/
structure St (w W : World) (bh bn bb : Nat) (h : Hd) (NB : Array Value) (cs : List UInt8) : Prop where
  hd : Lies W bh 28 (hcs h)
  nb : Lies W bn 54 NB
  bl : Lies W bb 59 (bcs cs)
  bel : Below bh w W
  env : Env W
  h0 : bh = w.heap.size
  h1 : bh < bb
  h2 : bn < bb
  h3 : 8 ≤ bh
theorem St.step {w W W' : World} {bh bn bb : Nat} {h : Hd} {NB : Array Value} {cs cs' : List UInt8} (s : St w W bh bn bb h NB cs) (t : Turned bb W W') (l : Lies W' bb 59 (bcs cs')) : St w W' bh bn bb h NB cs' :=
  ⟨s.hd.turned t (by have := s.h1; omega), s.nb.turned t (by have := s.h2; omega), l, below_turned s.bel t (Nat.le_of_lt s.h1) (Nat.le_of_lt s.hd.lt), s.env.turned t (by have := s.h1; have := s.h3; omega), s.h0, s.h1, s.h2, s.h3⟩
theorem St.alloc {w W : World} {bh bn bb : Nat} {h : Hd} {NB : Array Value} {cs : List UInt8} (s : St w W bh bn bb h NB cs) (o : Obj) : St w (W.alloc o) bh bn bb h NB cs :=
  ⟨s.hd.alloc o, s.nb.alloc o, s.bl.alloc o, s.bel.alloc (Nat.le_of_lt s.hd.lt) o, s.env.below ((Below.refl _ W).alloc (Nat.le_refl _) o), s.h0, s.h1, s.h2, s.h3⟩
theorem St.drew {w W : World} {bh bn bb : Nat} {h : Hd} {NB : Array Value} {cs : List UInt8} (s : St w W bh bn bb h NB cs) (d : Nat) : St w (W.drewN d) bh bn bb h NB cs :=
  ⟨s.hd.drew d, s.nb.drew d, s.bl.drew d, below_drawn s.bel d, s.env.drew d, s.h0, s.h1, s.h2, s.h3⟩
theorem slice_all (b : Nat) (w : World) : (Instr.sliceAt 59 (.pointer (some ⟨b, 0, none⟩)) none none none).run Tryz.prog w = .ok (.slice (some ⟨b, 0, none⟩) 512 512) w := by
  rw [run_sliceAt_array_all w 59 ⟨b, 0, none⟩ block_under, block_elem, Tryz.sizeOf5]
  simp only [Result.andThen_ok, slicedAt, block_len, Nat.zero_mul, Nat.sub_zero, Addr.add_mid, Nat.add_zero]
  rw [if_neg (by omega)]
set_option maxRecDepth 100000 in
set_option maxHeartbeats 1000000 in
theorem encode_p (S : Shelf5) (h : Hd) (w : World) (hs : h.path.size < 4611686018427387904) (hE : Env w) :
    Calls Tryz.prog 7 #[.agg (hcs h)] w fun e w' => e = .returned (.tuple #[.string (encP h).1, errV (encP h).2]) ∧ Below w.heap.size w w' := by
  have L0 := Lies.new w 28 (hcs h)
  have B0 := (Below.refl _ w).alloc (Nat.le_refl _) (.cells (hcs h) 28)
  have E0 := hE.below B0
  have hfit := textsFit_p S h _ E0.tab
  go_enter Tryz.func7, Tryz.ntmps7
  go_wp2_with (refine wpList_load_row rfl 28 (.tmp 1) rfl w.heap.size rfl 28 (hcs h) (0, 0) _ L0 Tryz.underlying28 rfl info_hd ?_)
  cases hf : fitB h with
  | false =>
    rw [hf] at hfit
    refine hfit.mono ?_
    rintro e w1 ⟨rfl, b1⟩
    go_wp2
    go_ret2
    exact ⟨by unfold encP; rw [if_pos hf]; rfl, below_join B0 b1⟩
  | true =>
  rw [hf] at hfit
  refine hfit.mono ?_
  rintro e w1 ⟨rfl, b1⟩
  have L1 := L0.below b1
  have B1 := below_join B0 b1
  have E1 := hE.below B1
  have HF : Hid (fitB h = true) := hf
  clear hfit L0 B0 E0 b1 hf
  generalize hbh : w.heap.size = bh at *
  have HBH : Hid (w.heap.size = bh) := hbh
  clear hbh
  have c0 : w1.cell? ⟨bh, 0, none⟩ = some (.string h.path) := L1.cell rfl
  go_wp2_with fail
  refine (split_p h.path w1 hs).mono ?_
  rintro e w2 ⟨rfl, b2⟩
  have L2 := L1.below b2
  have B2 : Below bh w w2 := B1.trans (b2.mono (Nat.le_of_lt L1.lt))
  have E2 := E1.below b2
  clear L1 B1 E1 b2 c0
  have HC9 := splitP_cases h.path
  by_cases h9 : (splitP h.path).2.2 = 0
  rotate_left
  · have H9 : Hid ((splitP h.path).2.2 ≠ 0) := h9
    rw [errV_some _ h9]
    clear h9 HC9
    go_wp2
    go_ret2
    exact ⟨by unfold encP; rw [if_neg (by rw [HF.out]; decide), if_pos H9.out, errV_some _ H9.out]; rfl, by rw [HBH.out]; exact B2⟩
  rw [h9, errV_zero]
  have H9 : Hid ((splitP h.path).2.2 = 0) := h9
  clear h9 HC9
  obtain ⟨pre, hpre⟩ : ∃ pre, (splitP h.path).1 = pre := ⟨_, rfl⟩
  obtain ⟨nam, hnam⟩ : ∃ nam, (splitP h.path).2.1 = nam := ⟨_, rfl⟩
  rw [hpre, hnam]
  have HP : Hid ((splitP h.path).1 = pre) := hpre
  have HN : Hid ((splitP h.path).2.1 = nam) := hnam
  clear hpre hnam
  have c7 : w2.cell? ⟨bh, 7, none⟩ = some (.string h.link) := L2.cell rfl
  have h8 : ∀ n, Calls Tryz.prog 19 #[.int .i64 8] (w2.drewN n) fun e w' => e = .returned (.int .i64 100) ∧ ∃ m, w' = (w2.drewN n).drewN m := fun n => room_p 8 (by omega) (w2.drewN n) E2.tab
  by_cases hl : 100 < h.link.size
  · have hl' : (100 : Int) < (h.link.size : Int) := by omega
    go_wp2
    go_quiet ((go_at_call 19; exact Calls.quiet_of (h8 _)))
    go_wp2
    go_ret2
    exact ⟨by unfold encP; rw [if_neg (by rw [HF.out]; decide), if_neg (fun h => h H9.out), if_pos hl]; rfl, by rw [HBH.out]; exact below_drawn B2 _⟩
  have hl' : decide ((100 : Int) < (h.link.size : Int)) = false := decide_eq_false (by omega)
  have HLK : Hid (¬ 100 < h.link.size) := hl
  clear hl
  go_wp2
  go_quiet ((go_at_call 19; exact Calls.quiet_of (h8 _)))
  obtain ⟨w3, hw3⟩ : ∃ w3, w2.drewN nq = w3 := ⟨_, rfl⟩
  have L3 : Lies w3 bh 28 (hcs h) := by rw [← hw3]; exact L2
  have B3 : Below bh w w3 := by rw [← hw3]; exact below_drawn B2 _
  have E3 : Env w3 := by rw [← hw3]; exact E2.drew _
  rw [hw3]
  clear hw3 L2 B2 E2 c7 h8 hl'
  go_wp2_with fail
  refine (numbersOf_p bh w3).mono ?_
  rintro e w4 ⟨rfl, b4⟩
  have L4 := L3.below b4
  have B4 : Below bh w w4 := B3.trans (b4.mono (Nat.le_of_lt L3.lt))
  have E4 := E3.below b4
  have l4 := L3.lt
  have s4 := b4.size
  clear L3 B3 E3 b4
  have L5 : Lies ((w4.alloc (.cells nums0 54)).setRow w4.heap.size (nums bh)) bh 28 (hcs h) := (L4.alloc _).otherRow _ (by have := L4.lt; omega)
  have N5 : Lies ((w4.alloc (.cells nums0 54)).setRow w4.heap.size (nums bh)) w4.heap.size 54 (nums bh) := (Lies.new w4 _ _).row _
  have B5 : Below bh w ((w4.alloc (.cells nums0 54)).setRow w4.heap.size (nums bh)) := below_setRow (B4.alloc (by omega) _) (by omega) _
  have E5 : Env ((w4.alloc (.cells nums0 54)).setRow w4.heap.size (nums bh)) := E4.below (below_setRow ((Below.refl _ w4).alloc (Nat.le_refl _) _) (Nat.le_refl _) _)
  go_wp2_with (first | (refine wpList_store_row rfl 54 (.tmp 7) (.tmp 33) rfl w4.heap.size (nums bh) rfl rfl 54 nums0 (Lies.new w4 _ _) info_nums rfl (nums_one bh) ?_) | (refine wpList_load_row rfl 54 (.tmp 7) rfl w4.heap.size rfl 54 (nums bh) (0, 0) _ N5 Tryz.underlying54 rfl info_nums ?_))
  unfold nums0 at L5 N5 B5 E5
  generalize hWW : (w4.alloc (.cells _ 54)).setRow w4.heap.size (nums bh) = W5 at *
  have hlt5 : bh < w4.heap.size := L4.lt
  generalize w4.heap.size = bn at *
  have HIX : Hid (∀ (k : Nat) (hk : k < 7) (W : World), (Instr.index 54 (.agg (nums bh)) (.int .i64 k)).run Tryz.prog W = .ok (.agg #[.int .i64 (fld k), .pointer (some ⟨bh, off k, none⟩)]) W) := fun k hk W => num_at bh k hk W
  clear hWW L4 B4 E4 l4 s4
  have hNB : (Tryz.prog.info? 54).map (·.size) = some (nums bh).size := info_nums
  generalize nums bh = NB at *
  go_loopw [35] (fun n wr => ∃ k : Nat, k ≤ 7 ∧ n = .int .i64 k ∧ Hid (∀ j, j < k → numOK h j = true) ∧ Hid (Lies wr bh 28 (hcs h)) ∧ Hid (Lies wr bn 54 NB) ∧ Hid (Below bh w wr) ∧ Hid (Env wr)) (fun n _ => 7 - (intOf n).toNat)
  case atStart => exact ⟨0, by omega, rfl, fun j hj => absurd hj (by omega), L5, N5, B5, E5⟩
  case round =>
    obtain ⟨k, hk, rfl, HA, HL, HN6, HB6, HE6⟩ := hrel
    clear L5 N5 B5 E5
    by_cases hlt : k < 7
    · have hi := HIX.out k hlt
      have L6 := HL.out.alloc (.cells #[.int .i64 (fld k), .pointer (some ⟨bh, off k, none⟩)] 53)
      have N6 := HN6.out.alloc (.cells #[.int .i64 (fld k), .pointer (some ⟨bh, off k, none⟩)] 53)
      have B6 := HB6.out.alloc (Nat.le_of_lt HL.out.lt) (.cells #[.int .i64 (fld k), .pointer (some ⟨bh, off k, none⟩)] 53)
      have E6 := HE6.out.below ((Below.refl _ wr).alloc (Nat.le_refl _) (.cells #[.int .i64 (fld k), .pointer (some ⟨bh, off k, none⟩)] 53))
      have M6 := Lies.new wr 53 #[.int .i64 (fld k), .pointer (some ⟨bh, off k, none⟩)]
      have cn := num_cell L6 k hlt
      have m0 : (wr.alloc (.cells #[.int .i64 (fld k), .pointer (some ⟨bh, off k, none⟩)] 53)).cell? ⟨wr.heap.size, 0, none⟩ = some (.int .i64 (fld k)) := M6.cell rfl
      have m1 : (wr.alloc (.cells #[.int .i64 (fld k), .pointer (some ⟨bh, off k, none⟩)] 53)).cell? ⟨wr.heap.size, 1, none⟩ = some (.pointer (some ⟨bh, off k, none⟩)) := M6.cell rfl
      obtain ⟨hf16, hr16, _⟩ := rm_fld k hlt
      have HN7 : Hid (numOK h k = (decide (0 ≤ num h k) && decide (num h k ≤ mostN (fld k)))) := rfl
      have HNS : Hid (numOK h k = false → numsOK h = false) := by
        unfold Hid numsOK
        obtain rfl | rfl | rfl | rfl | rfl | rfl | rfl : k = 0 ∨ k = 1 ∨ k = 2 ∨ k = 3 ∨ k = 4 ∨ k = 5 ∨ k = 6 := by omega
        all_goals intro hh; rw [hh]; simp
      go_wp2
      generalize wr.alloc (.cells #[.int .i64 (fld k), .pointer (some ⟨bh, off k, none⟩)] 53) = W6 at *
      have hmo : ∀ n, Calls Tryz.prog 21 #[.int .i64 (fld k)] (W6.drewN n) fun e w' => e = .returned (.int .i64 (mostN (fld k))) ∧ ∃ m, w' = (W6.drewN n).drewN m := fun n => most_p (fld k) hf16 hr16 (W6.drewN n) E6.tab
      have HL6 : Hid (Lies W6 bh 28 (hcs h)) := L6
      have HN6' : Hid (Lies W6 bn 54 NB) := N6
      have HB6' : Hid (Below bh w W6) := B6
      have HE6' : Hid (Env W6) := E6
      clear L6 N6 B6 E6 M6 hi hr16
      generalize num h k = y at *
      generalize mostN (fld k) = mo at *
      by_cases hy0 : y < 0
      · have hy0' : decide (y < 0) = true := decide_eq_true hy0
        go_quiet (first | (go_at_call 21; exact Calls.quiet_of (hmo _)))
        go_wp2
        go_ret2
        exact ⟨by unfold encP; rw [if_neg (by rw [HF.out]; decide), if_neg (fun h => h H9.out), if_neg HLK.out, if_pos (HNS.out (by rw [HN7.out, decide_eq_false (by omega)]; rfl))]; rfl, by rw [HBH.out]; exact below_drawn HB6'.out _⟩
      · have hy0' : decide (y < 0) = false := decide_eq_false hy0
        by_cases hy1 : mo < y
        · have hy1' : decide (mo < y) = true := decide_eq_true hy1
          go_quiet (first | (go_at_call 21; exact Calls.quiet_of (hmo _)))
          go_wp2
          go_ret2
          exact ⟨by unfold encP; rw [if_neg (by rw [HF.out]; decide), if_neg (fun h => h H9.out), if_neg HLK.out, if_pos (HNS.out (by rw [HN7.out, decide_eq_false (show ¬ y ≤ mo by omega), Bool.and_false]))]; rfl, by rw [HBH.out]; exact below_drawn HB6'.out _⟩
        · have hy1' : decide (mo < y) = false := decide_eq_false hy1
          go_quiet (first | (go_at_call 21; exact Calls.quiet_of (hmo _)))
          go_wp2
          refine ⟨⟨k + 1, by omega, by go_num, fun j hj => ?_, HL6.out.drew _, HN6'.out.drew _, below_drawn HB6'.out _, HE6'.out.drew _⟩, by simp [intOf]; omega⟩
          rcases Nat.lt_or_ge j k with h1 | h1
          · exact HA.out j h1
          · obtain rfl : j = k := by omega
            rw [HN7.out, decide_eq_true (show 0 ≤ y by omega), decide_eq_true (show y ≤ mo by omega)]; rfl
    · obtain rfl : k = 7 := by omega
      go_wp2_with fail
      have S7 : St w (wr.alloc (.cells Tryz.zeroCells59 59)) bh bn wr.heap.size h NB zero512 := ⟨HL.out.alloc _, HN6.out.alloc _, by rw [zero_cells]; exact Lies.new wr _ _, HB6.out.alloc (Nat.le_of_lt HL.out.lt) _, HE6.out.below ((Below.refl _ wr).alloc (Nat.le_refl _) _), HBH.out.symm, HL.out.lt, HN6.out.lt, by rw [← HBH.out]; exact hE.gl⟩
      have HOK : Hid (numsOK h = true) := by
        unfold Hid numsOK
        rw [HA.out 0 (by omega), HA.out 1 (by omega), HA.out 2 (by omega), HA.out 3 (by omega), HA.out 4 (by omega), HA.out 5 (by omega), HA.out 6 (by omega)]; rfl
      generalize wr.alloc (.cells Tryz.zeroCells59 59) = W7 at *
      generalize wr.heap.size = bb at *
      clear HL HN6 HB6 HE6 HA
      have q0 : zero512.length = 512 := List.length_replicate
      generalize hz0 : zero512 = z0 at *
      have HZ0 : Hid (zero512 = z0) := hz0
      clear hz0
      refine (putText_p 0 (by omega) bb nam z0 W7 q0 S7.bl S7.env.tab).mono ?_
      rintro e W8 ⟨rfl, l8, t8⟩
      have S8 := S7.step t8 l8
      have q1 := putB_len512 z0 0 ((un nam).take 100) q0 (by have := take_le nam 100; omega)
      rw [show bg 0 = 0 from rfl, show rm 0 = 100 from rfl] at S8
      clear S7 t8 l8
      generalize hz1 : putB z0 0 ((un nam).take 100) = z1 at *
      have HZ1 : Hid (putB z0 0 ((un nam).take 100) = z1) := hz1
      clear hz1
      go_wp2_with fail
      refine (putText_p 14 (by omega) bb pre z1 W8 q1 S8.bl S8.env.tab).mono ?_
      rintro e W9 ⟨rfl, l9, t9⟩
      have S9 := S8.step t9 l9
      have q2 := putB_len512 z1 345 ((un pre).take 155) q1 (by have := take_le pre 155; omega)
      rw [show bg 14 = 345 from rfl, show rm 14 = 155 from rfl] at S9
      clear S8 t9 l9
      generalize hz2 : putB z1 345 ((un pre).take 155) = z2 at *
      have HZ2 : Hid (putB z1 345 ((un pre).take 155) = z2) := hz2
      clear hz2
      have c7 : W9.cell? ⟨bh, 7, none⟩ = some (.string h.link) := S9.hd.cell rfl
      go_wp2_with fail
      refine (putText_p 8 (by omega) bb h.link z2 W9 q2 S9.bl S9.env.tab).mono ?_
      rintro e W10 ⟨rfl, l10, t10⟩
      have S10 := S9.step t10 l10
      have q3 := putB_len512 z2 157 ((un h.link).take 100) q2 (by have := take_le h.link 100; omega)
      rw [show bg 8 = 157 from rfl, show rm 8 = 100 from rfl] at S10
      clear S9 t10 l10 c7
      generalize hz3 : putB z2 157 ((un h.link).take 100) = z3 at *
      have HZ3 : Hid (putB z2 157 ((un h.link).take 100) = z3) := hz3
      clear hz3
      have c8 : W10.cell? ⟨bh, 8, none⟩ = some (.string h.user) := S10.hd.cell rfl
      go_wp2_with fail
      refine (putText_p 10 (by omega) bb h.user z3 W10 q3 S10.bl S10.env.tab).mono ?_
      rintro e W11 ⟨rfl, l11, t11⟩
      have S11 := S10.step t11 l11
      have q4 := putB_len512 z3 265 ((un h.user).take 32) q3 (by have := take_le h.user 32; omega)
      rw [show bg 10 = 265 from rfl, show rm 10 = 32 from rfl] at S11
      clear S10 t11 l11 c8
      generalize hz4 : putB z3 265 ((un h.user).take 32) = z4 at *
      have HZ4 : Hid (putB z3 265 ((un h.user).take 32) = z4) := hz4
      clear hz4
      have c9 : W11.cell? ⟨bh, 9, none⟩ = some (.string h.group) := S11.hd.cell rfl
      go_wp2_with fail
      refine (putText_p 11 (by omega) bb h.group z4 W11 q4 S11.bl S11.env.tab).mono ?_
      rintro e W12 ⟨rfl, l12, t12⟩
      have S12 := S11.step t12 l12
      have q5 := putB_len512 z4 297 ((un h.group).take 32) q4 (by have := take_le h.group 32; omega)
      rw [show bg 11 = 297 from rfl, show rm 11 = 32 from rfl] at S12
      clear S11 t12 l12 c9
      generalize hz5 : putB z4 297 ((un h.group).take 32) = z5 at *
      have HZ5 : Hid (putB z4 297 ((un h.group).take 32) = z5) := hz5
      clear hz5
      go_wp2_with fail
      refine (putText_p 9 (by omega) bb ⟨#[117, 115, 116, 97, 114, 0, 48, 48]⟩ z5 W12 q5 S12.bl S12.env.tab).mono ?_
      rintro e W13 ⟨rfl, l13, t13⟩
      have S13 := S12.step t13 l13
      have q6 := putB_len512 z5 257 [117, 115, 116, 97, 114, 0, 48, 48] q5 (by decide)
      rw [show bg 9 = 257 from rfl, show rm 9 = 8 from rfl, show (un ⟨#[117, 115, 116, 97, 114, 0, 48, 48]⟩).take 8 = [117, 115, 116, 97, 114, 0, 48, 48] from rfl] at S13
      clear S12 t13 l13
      generalize hz6 : putB z5 257 [117, 115, 116, 97, 114, 0, 48, 48] = z6 at *
      have HZ6 : Hid (putB z5 257 [117, 115, 116, 97, 114, 0, 48, 48] = z6) := hz6
      clear hz6
      have c6 : W13.cell? ⟨bh, 6, none⟩ = some (.int .u8 h.typ.toNat) := S13.hd.cell rfl
      have d7 : W13.cell? ⟨0, 7, none⟩ = some (.int .i64 156) := S13.env.tab.cell 7 (by omega)
      have x6 : W13.cell? ⟨bb, 156, none⟩ = some (.int .u8 (z6[156]'(by omega)).toNat) := S13.bl.cell (bcs_get z6 156 (by omega))
      have f6 := S13.bl.frozen 156
      have S14 : St w (W13.setCell ⟨bb, 156, none⟩ (.int .u8 h.typ.toNat)) bh bn bb h NB (z6.set 156 h.typ) := S13.step (Turned.set bb W13 156 _) (by rw [← bcs_set]; exact S13.bl.set _)
      have q7 : (z6.set 156 h.typ).length = 512 := by rw [List.length_set]; exact q6
      have HT : Hid (z6.set 156 h.typ = numB h 0) := by
        unfold Hid
        rw [numB, textB, HZ0.out, HN.out, HP.out, HZ1.out, HZ2.out, HZ3.out, HZ4.out, HZ5.out, HZ6.out]
      go_wp2_with (refine wpList_load_row rfl 54 (.tmp 7) rfl bn rfl 54 NB (0, 0) _ S14.nb Tryz.underlying54 rfl hNB ?_)
      rw [HT.out] at S14
      generalize W13.setCell ⟨bb, 156, none⟩ (.int .u8 h.typ.toNat) = W14 at *
      clear HZ0 HZ1 HZ2 HZ3 HZ4 HZ5 HZ6 HT q0 q1 q2 q3 q4 q5 q6 q7 c6 d7 x6 f6 S13
      go_loopw [75] (fun n wr => ∃ k : Nat, k ≤ 7 ∧ n = .int .i64 k ∧ Hid (St w wr bh bn bb h NB (numB h k))) (fun n _ => 7 - (intOf n).toNat)
      case atStart => exact ⟨0, by omega, rfl, S14⟩
      case round =>
        obtain ⟨k, hk, rfl, HS⟩ := hrel
        clear S14
        by_cases hlt : k < 7
        · have hi := HIX.out k hlt
          have S15 := HS.out.alloc (.cells #[.int .i64 (fld k), .pointer (some ⟨bh, off k, none⟩)] 53)
          have M6 := Lies.new wr 53 #[.int .i64 (fld k), .pointer (some ⟨bh, off k, none⟩)]
          have cn := num_cell S15.hd k hlt
          have m0 : (wr.alloc (.cells #[.int .i64 (fld k), .pointer (some ⟨bh, off k, none⟩)] 53)).cell? ⟨wr.heap.size, 0, none⟩ = some (.int .i64 (fld k)) := M6.cell rfl
          have m1 : (wr.alloc (.cells #[.int .i64 (fld k), .pointer (some ⟨bh, off k, none⟩)] 53)).cell? ⟨wr.heap.size, 1, none⟩ = some (.pointer (some ⟨bh, off k, none⟩)) := M6.cell rfl
          obtain ⟨hf16, _, _⟩ := rm_fld k hlt
          obtain ⟨x, m, hx, hm, hm10, hx8⟩ := num_ok h HOK.out k hlt
          have HNB : Hid (numB h (k + 1) = putB (numB h k) (bg (fld k)) (octD x (m + 1))) := by
            unfold Hid; rw [numB, hx, hm]; rfl
          rw [hx] at cn
          go_wp2
          generalize wr.alloc (.cells #[.int .i64 (fld k), .pointer (some ⟨bh, off k, none⟩)] 53) = W6 at *
          generalize wr.heap.size = br at *
          have hpn := putNumber_p S (fld k) m hf16 hm hm10 bb x hx8 (numB h k) W6.drew (numB_length h k (by omega)) (S15.drew 1).bl (S15.drew 1).env
          have HS15 : Hid (St w W6 bh bn bb h NB (numB h k)) := S15
          clear S15 hi M6 hx hm hm10 hx8
          generalize fld k = fk at *
          generalize off k = ok at *
          go_region_with (first | (go_at_call 23; refine hpn.mono ?_; rintro e w9 ⟨rfl, l9, t9⟩))
          all_goals (go_wp2; exact ⟨⟨k + 1, by omega, by go_num, by rw [HNB.out]; exact (HS15.out.drew 1).step t9 l9⟩, by simp [intOf]; omega⟩)
        · obtain rfl : k = 7 := by omega
          have q9 := numB_length h 7 (Nat.le_refl _)
          go_wp2_with fail
          refine (putSum_p S bb (numB h 7) wr q9 HS.out.bl HS.out.env).mono ?_
          rintro e W16 ⟨rfl, l16, t16⟩
          have S16 := HS.out.step t16 l16
          have q10 : (encL h).length = 512 := putB_len512 _ _ _ q9 (by rw [List.length_append, octD_length]; decide)
          have hsl := slice_all bb W16
          have hcv := conv_lies (encL h) bb 0 512 512 W16 59 S16.bl (by omega)
          rw [List.drop_zero, List.take_of_length_le (by omega)] at hcv
          have HB : Hid (Below bh w W16) := S16.bel
          have HEP : Hid (encP h = (bs (encL h), 0)) := by
            unfold Hid encP; rw [if_neg (by rw [HF.out]; decide), if_neg (fun h => h H9.out), if_neg HLK.out, if_neg (by rw [HOK.out]; decide)]
          clear S16 l16 t16 q10 q9
          generalize bs (encL h) = R at *
          go_wp2
          go_ret2
          exact ⟨by rw [HEP.out]; rfl, by rw [HBH.out]; exact HB.out⟩
end Go.Proofs.YtgdkgdlgalinbaaGreatDoor
