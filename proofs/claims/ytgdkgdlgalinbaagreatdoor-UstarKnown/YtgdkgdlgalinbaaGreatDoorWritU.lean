/- The statements' own written: the examples of the chapter on what is written. -/
import Derived.Test.YtgdkgdlgalinbaaGreatDoorKnowM
import Derived.Test.YtgdkgdlgalinbaaGreatDoorWorksU
import Derived.Test.YtgdkgdlgalinbaaGreatDoorEndsU
namespace Go.Proofs.YtgdkgdlgalinbaaGreatDoor
open Go Go.RowKit

theorem tm_p (c : UInt8) (n : Nat) (hn : n ≤ 1000) (W : World) : Calls Tryz.prog 8 #[.string ⟨#[c]⟩, .int .i64 n] W fun e w' => e = .returned (.string (tm c n)) ∧ w' = W := times_p ⟨#[c]⟩ n hn (show 1 ≤ 1000 by decide) W
theorem nl6_cell (i : Nat) (n : Int) (h : nl6[i]? = some n) : (ints nl6).toArray[i]? = some (.int .i64 n) := by
  simp [ints, h]
set_option maxRecDepth 100000 in
set_option maxHeartbeats 2000000 in
theorem written_p (w : World) (hE : Env w) (hg : ErrType w) : Calls Tryz.prog 4 #[] w fun e w' => e = .returned (.bool true) ∧ Below w.heap.size w w' := by
  have h_t100 : ∀ W, Calls Tryz.prog 8 #[.string ⟨#[0]⟩, .int .i64 100] W fun e w' => e = .returned (.string (tm 0 100)) ∧ w' = W := fun W => tm_p 0 100 (by decide) W
  have z_t100 : (tm 0 100).size = 100 := tm_size 0 100
  have h_t101 : ∀ W, Calls Tryz.prog 8 #[.string ⟨#[0]⟩, .int .i64 101] W fun e w' => e = .returned (.string (tm 0 101)) ∧ w' = W := fun W => tm_p 0 101 (by decide) W
  have z_t101 : (tm 0 101).size = 101 := tm_size 0 101
  have h_t64 : ∀ W, Calls Tryz.prog 8 #[.string ⟨#[0]⟩, .int .i64 64] W fun e w' => e = .returned (.string (tm 0 64)) ∧ w' = W := fun W => tm_p 0 64 (by decide) W
  have z_t64 : (tm 0 64).size = 64 := tm_size 0 64
  have h_t167 : ∀ W, Calls Tryz.prog 8 #[.string ⟨#[0]⟩, .int .i64 167] W fun e w' => e = .returned (.string (tm 0 167)) ∧ w' = W := fun W => tm_p 0 167 (by decide) W
  have z_t167 : (tm 0 167).size = 167 := tm_size 0 167
  have h_a101 : ∀ W, Calls Tryz.prog 8 #[.string ⟨#[97]⟩, .int .i64 101] W fun e w' => e = .returned (.string (tm 97 101)) ∧ w' = W := fun W => tm_p 97 101 (by decide) W
  have z_a101 : (tm 97 101).size = 101 := tm_size 97 101
  have h_a99 : ∀ W, Calls Tryz.prog 8 #[.string ⟨#[97]⟩, .int .i64 99] W fun e w' => e = .returned (.string (tm 97 99)) ∧ w' = W := fun W => tm_p 97 99 (by decide) W
  have z_a99 : (tm 97 99).size = 99 := tm_size 97 99
  have h_b100 : ∀ W, Calls Tryz.prog 8 #[.string ⟨#[98]⟩, .int .i64 100] W fun e w' => e = .returned (.string (tm 98 100)) ∧ w' = W := fun W => tm_p 98 100 (by decide) W
  have z_b100 : (tm 98 100).size = 100 := tm_size 98 100
  have h_t56 : ∀ W, Calls Tryz.prog 8 #[.string ⟨#[0]⟩, .int .i64 56] W fun e w' => e = .returned (.string (tm 0 56)) ∧ w' = W := fun W => tm_p 0 56 (by decide) W
  have z_t56 : (tm 0 56).size = 56 := tm_size 0 56
  have h_x101 : ∀ W, Calls Tryz.prog 8 #[.string ⟨#[120]⟩, .int .i64 101] W fun e w' => e = .returned (.string (tm 120 101)) ∧ w' = W := fun W => tm_p 120 101 (by decide) W
  have z_x101 : (tm 120 101).size = 101 := tm_size 120 101
  have h_u32v : ∀ W, Calls Tryz.prog 8 #[.string ⟨#[117]⟩, .int .i64 32] W fun e w' => e = .returned (.string (tm 117 32)) ∧ w' = W := fun W => tm_p 117 32 (by decide) W
  have z_u32v : (tm 117 32).size = 32 := tm_size 117 32
  have HZ : ∀ W, Env W → Calls Tryz.prog 7 #[.agg #[.string ⟨#[]⟩, .int .i64 0, .int .i64 0, .int .i64 0, .int .i64 0, .int .i64 0, .int .u8 0, .string ⟨#[]⟩, .string ⟨#[]⟩, .string ⟨#[]⟩, .int .i64 0, .int .i64 0]] W fun e w' => e = .returned (.tuple #[.string (tm 0 100 ++ ⟨#[48, 48, 48, 48, 48, 48, 48, 0]⟩ ++ ⟨#[48, 48, 48, 48, 48, 48, 48, 0]⟩ ++ ⟨#[48, 48, 48, 48, 48, 48, 48, 0]⟩ ++ ⟨#[48, 48, 48, 48, 48, 48, 48, 48, 48, 48, 48, 0]⟩ ++ ⟨#[48, 48, 48, 48, 48, 48, 48, 48, 48, 48, 48, 0]⟩ ++ ⟨#[48, 48, 55, 48, 55, 55, 0, 32]⟩ ++ tm 0 101 ++ ⟨#[117, 115, 116, 97, 114, 0, 48, 48]⟩ ++ tm 0 64 ++ ⟨#[48, 48, 48, 48, 48, 48, 48, 0]⟩ ++ ⟨#[48, 48, 48, 48, 48, 48, 48, 0]⟩ ++ tm 0 167), .nilIface]) ∧ Below W.heap.size W w' := fun W hW => by
    have := encode_p shelf5 hZ W (by decide) hW
    rw [good_z.enc] at this
    have e := enc_z
    rw [show bs (encL hZ) = _ from enc_z] at this
    exact this
  have HQ : ∀ W, Env W → Calls Tryz.prog 7 #[.agg #[.string ⟨#[97]⟩, .int .i64 420, .int .i64 0, .int .i64 0, .int .i64 0, .int .i64 0, .int .u8 48, .string ⟨#[]⟩, .string ⟨#[]⟩, .string ⟨#[]⟩, .int .i64 0, .int .i64 0]] W fun e w' => e = .returned (.tuple #[.string (bs (encL hQ)), .nilIface]) ∧ Below W.heap.size W w' := fun W hW => by
    have := encode_p shelf5 hQ W (by decide) hW
    rw [good_q.enc] at this
    exact this
  have HL : ∀ W, Env W → Calls Tryz.prog 7 #[.agg #[.string (tm 97 101), .int .i64 0, .int .i64 0, .int .i64 0, .int .i64 0, .int .i64 0, .int .u8 0, .string ⟨#[]⟩, .string ⟨#[]⟩, .string ⟨#[]⟩, .int .i64 0, .int .i64 0]] W fun e w' => e = .returned (.tuple #[.string ⟨#[]⟩, .iface 46 (.int .i64 9)]) ∧ Below W.heap.size W w' := fun W hW => by
    have := encode_p shelf5 hL1 W (by show (tm 97 101).size < _; rw [tm_size]; decide) hW
    rw [enc_l1] at this
    exact this
  have HW : ∀ W, Env W → Calls Tryz.prog 7 #[.agg #[.string (tm 97 99 ++ ⟨#[47]⟩ ++ tm 98 100), .int .i64 0, .int .i64 0, .int .i64 0, .int .i64 0, .int .i64 0, .int .u8 0, .string ⟨#[]⟩, .string ⟨#[]⟩, .string ⟨#[]⟩, .int .i64 0, .int .i64 0]] W fun e w' => e = .returned (.tuple #[.string (bs (encL hW)), .nilIface]) ∧ Below W.heap.size W w' := fun W hW' => by
    have := encode_p shelf5 hW W (by show (tm 97 99 ++ ⟨#[47]⟩ ++ tm 98 100).size < _; rw [size_app, size_app, tm_size, tm_size]; decide) hW'
    rw [good_w.enc] at this
    exact this
  have q0 : (bs (encL hQ)).size = 512 := q_size
  have q1 := enc_q1
  have q2 := enc_q2
  have w0 : (bs (encL hW)).size = 512 := by rw [size_bs, enc_length good_w]
  have w1 := enc_w1
  have w2 := enc_w2
  have hat := fun i hi => hl6_at i hi
  have HAT : Hid _ := hat
  clear hat
  have hrow6 : hrow hl6 = hrow [{ hZ with path := ⟨#[97]⟩, mode := -1 }, { hZ with path := ⟨#[97]⟩, mode := 2097152 }, { hZ with path := ⟨#[97]⟩, size := 8589934592 }, { hZ with path := ⟨#[97]⟩, link := tm 120 101 }, { hZ with path := ⟨#[97]⟩, user := tm 117 32 }, { hZ with path := ⟨#[97, 0]⟩ }] := rfl
  have HRW : Hid _ := hrow6
  clear hrow6
  generalize tm 0 100 = t100 at *
  generalize tm 0 101 = t101 at *
  generalize tm 0 64 = t64 at *
  generalize tm 0 167 = t167 at *
  generalize tm 97 101 = a101 at *
  generalize tm 97 99 = a99 at *
  generalize tm 98 100 = b100 at *
  generalize tm 0 56 = t56 at *
  generalize tm 120 101 = x101 at *
  generalize tm 117 32 = u32v at *
  generalize bs (encL hQ) = RQ at *
  generalize bs (encL hW) = RW at *
  have hzz : ((t100 ++ ⟨#[48, 48, 48, 48, 48, 48, 48, 0]⟩ ++ ⟨#[48, 48, 48, 48, 48, 48, 48, 0]⟩ ++ ⟨#[48, 48, 48, 48, 48, 48, 48, 0]⟩ ++ ⟨#[48, 48, 48, 48, 48, 48, 48, 48, 48, 48, 48, 0]⟩ ++ ⟨#[48, 48, 48, 48, 48, 48, 48, 48, 48, 48, 48, 0]⟩ ++ ⟨#[48, 48, 55, 48, 55, 55, 0, 32]⟩ ++ t101 ++ ⟨#[117, 115, 116, 97, 114, 0, 48, 48]⟩ ++ t64 ++ ⟨#[48, 48, 48, 48, 48, 48, 48, 0]⟩ ++ ⟨#[48, 48, 48, 48, 48, 48, 48, 0]⟩ ++ t167).toList == (t100 ++ ⟨#[48, 48, 48, 48, 48, 48, 48, 0]⟩ ++ ⟨#[48, 48, 48, 48, 48, 48, 48, 0]⟩ ++ ⟨#[48, 48, 48, 48, 48, 48, 48, 0]⟩ ++ ⟨#[48, 48, 48, 48, 48, 48, 48, 48, 48, 48, 48, 0]⟩ ++ ⟨#[48, 48, 48, 48, 48, 48, 48, 48, 48, 48, 48, 0]⟩ ++ ⟨#[48, 48, 55, 48, 55, 55, 0, 32]⟩ ++ t101 ++ ⟨#[117, 115, 116, 97, 114, 0, 48, 48]⟩ ++ t64 ++ ⟨#[48, 48, 48, 48, 48, 48, 48, 0]⟩ ++ ⟨#[48, 48, 48, 48, 48, 48, 48, 0]⟩ ++ t167).toList) = true := by simp
  go_enter Tryz.func4, Tryz.ntmps4
  go_wp2_with (first
    | (go_at_call 8; first | (with_reducible refine (h_t100 _).mono ?_; rintro e w' ⟨rfl, rfl⟩) | (with_reducible refine (h_t101 _).mono ?_; rintro e w' ⟨rfl, rfl⟩) | (with_reducible refine (h_t64 _).mono ?_; rintro e w' ⟨rfl, rfl⟩) | (with_reducible refine (h_t167 _).mono ?_; rintro e w' ⟨rfl, rfl⟩) | (with_reducible refine (h_a101 _).mono ?_; rintro e w' ⟨rfl, rfl⟩) | (with_reducible refine (h_a99 _).mono ?_; rintro e w' ⟨rfl, rfl⟩) | (with_reducible refine (h_b100 _).mono ?_; rintro e w' ⟨rfl, rfl⟩) | (with_reducible refine (h_t56 _).mono ?_; rintro e w' ⟨rfl, rfl⟩) | (with_reducible refine (h_x101 _).mono ?_; rintro e w' ⟨rfl, rfl⟩) | (with_reducible refine (h_u32v _).mono ?_; rintro e w' ⟨rfl, rfl⟩))
    | (go_at_call 7; first
       | (with_reducible refine (HZ _ hE).mono ?_; rintro e v1 ⟨rfl, b1⟩; have B1 := b1; have E1 := hE.below b1; have G1 := hg.below b1)
       | (with_reducible refine (HQ _ E1).mono ?_; rintro e v2 ⟨rfl, b2⟩; have B2 := below_join B1 b2; have E2 := E1.below b2; have G2 := G1.below b2)
       | (with_reducible refine (HL _ E2).mono ?_; rintro e v3 ⟨rfl, b3⟩; have B3 := below_join B2 b3; have E3 := E2.below b3; have G3 := G2.below b3)
       | (with_reducible refine (HW _ E3).mono ?_; rintro e v4 ⟨rfl, b4⟩; have B4 := below_join B3 b4; have E4 := E3.below b4; have G4 := G3.below b4)))
  clear HZ HQ HL HW hzz q0 q1 q2
  have hpl := fun W hW => plain_some 9 (by decide) (by decide) W hW
  have hww : (b100.toList == b100.toList) = true := by simp
  have hwx : ((a99 ++ t56).toList == (a99 ++ t56).toList) = true := by simp
  go_cut [119] from 93 to 118 (fun c wx => c = .bool false ∧ Below w.heap.size w wx ∧ Env wx ∧ ErrType wx)
  case first =>
    go_region_held (fun _ => True) (trivial) (first
      | (go_at_call 8; first | (with_reducible refine (h_t100 _).mono ?_; rintro e w' ⟨rfl, rfl⟩) | (with_reducible refine (h_t101 _).mono ?_; rintro e w' ⟨rfl, rfl⟩) | (with_reducible refine (h_t64 _).mono ?_; rintro e w' ⟨rfl, rfl⟩) | (with_reducible refine (h_t167 _).mono ?_; rintro e w' ⟨rfl, rfl⟩) | (with_reducible refine (h_a101 _).mono ?_; rintro e w' ⟨rfl, rfl⟩) | (with_reducible refine (h_a99 _).mono ?_; rintro e w' ⟨rfl, rfl⟩) | (with_reducible refine (h_b100 _).mono ?_; rintro e w' ⟨rfl, rfl⟩) | (with_reducible refine (h_t56 _).mono ?_; rintro e w' ⟨rfl, rfl⟩) | (with_reducible refine (h_x101 _).mono ?_; rintro e w' ⟨rfl, rfl⟩) | (with_reducible refine (h_u32v _).mono ?_; rintro e w' ⟨rfl, rfl⟩))
      | (go_at_call 9; refine (hpl _ (G4.below (below_drawn (Below.refl _ _) 1))).mono ?_; rintro e v6 ⟨rfl, b6⟩; have B6 := below_join B4 ((below_drawn (Below.refl _ v4) 1).trans b6); have E6 := (E4.drew 1).below b6; have G6 := (G4.below (below_drawn (Below.refl _ v4) 1)).below b6))
    all_goals go_wp2
    all_goals go_meet
    all_goals exact ⟨rfl, B6, E6, G6⟩
  case rest =>
    obtain ⟨rfl, B6, E6, G6⟩ := hcut
    have HLN : Hid (Lies ((wc.alloc (.cells (hrow hl6) 28)).alloc (.cells (ints nl6).toArray 3)) wc.heap.size 28 (hrow hl6)) := (Lies.new wc _ _).alloc _
    have HNN : Hid (Lies ((wc.alloc (.cells (hrow hl6) 28)).alloc (.cells (ints nl6).toArray 3)) (wc.alloc (.cells (hrow hl6) 28)).heap.size 3 (ints nl6).toArray) := Lies.new _ _ _
    have HBN : Hid (Below w.heap.size w ((wc.alloc (.cells (hrow hl6) 28)).alloc (.cells (ints nl6).toArray 3))) := (B6.alloc B6.size _).alloc (Nat.le_trans B6.size (by simp)) _
    rw [show hrow hl6 = _ from HRW.out] at HLN HNN HBN
    rw [show (wc.alloc _).heap.size = wc.heap.size + 1 by simp] at HNN
    go_wp2_with (go_at_call 8; first | (with_reducible refine (h_t100 _).mono ?_; rintro e w' ⟨rfl, rfl⟩) | (with_reducible refine (h_t101 _).mono ?_; rintro e w' ⟨rfl, rfl⟩) | (with_reducible refine (h_t64 _).mono ?_; rintro e w' ⟨rfl, rfl⟩) | (with_reducible refine (h_t167 _).mono ?_; rintro e w' ⟨rfl, rfl⟩) | (with_reducible refine (h_a101 _).mono ?_; rintro e w' ⟨rfl, rfl⟩) | (with_reducible refine (h_a99 _).mono ?_; rintro e w' ⟨rfl, rfl⟩) | (with_reducible refine (h_b100 _).mono ?_; rintro e w' ⟨rfl, rfl⟩) | (with_reducible refine (h_t56 _).mono ?_; rintro e w' ⟨rfl, rfl⟩) | (with_reducible refine (h_x101 _).mono ?_; rintro e w' ⟨rfl, rfl⟩) | (with_reducible refine (h_u32v _).mono ?_; rintro e w' ⟨rfl, rfl⟩))
    generalize w'.heap.size = gL at *
    go_loopw [14] (fun i wr => ∃ k : Nat, k ≤ 6 ∧ i = .int .i64 k ∧ Lies wr gL 28 (hrow hl6) ∧ Lies wr (gL + 1) 3 (ints nl6).toArray ∧ Below w.heap.size w wr ∧ Env wr ∧ ErrType wr) (fun i _ => 6 - (intOf i).toNat)
    case atStart => exact ⟨0, by omega, rfl, by rw [show hrow hl6 = _ from HRW.out]; exact HLN.out, HNN.out, HBN.out, hE.below HBN.out, hg.below HBN.out⟩
    case round =>
      obtain ⟨k, hk, rfl, hL, hN, hB, hE', hG'⟩ := hrel
      by_cases hlt : k < 6
      · have hlt' : (k : Int) < 6 := by omega
        have hk0 : (0 : Int) ≤ (k : Int) := by omega
        obtain ⟨h, n, hh, hn, henc, hn0, hn32, hps⟩ := HAT.out k hlt
        have R1 := hrow_range hL k hh
        have hinf : (Tryz.prog.info? 28).map (·.size) = some (hcs h).toList.length := info_hd
        have HEN : Hid (∀ W, Env W → Calls Tryz.prog 7 #[.agg (hcs h)] W fun e w' => e = .returned (.tuple #[.string ⟨#[]⟩, .iface 46 (.int .i64 n)]) ∧ Below W.heap.size W w') := fun W hW => by
          have := encode_p shelf5 h W (by omega) hW
          rw [henc] at this
          rw [show errV n = _ from errV_some n (by omega)] at this
          exact this
        have hpn := fun W hW => plain_some n hn0 hn32 W hW
        have HNC := nl6_cell k n hn
        clear hh hn henc hps hpl
        go_wp2_with (first
          | (refine wpList_load_mid rfl 28 (.tmp 139) rfl gL (k * 12) rfl (hcs h).toList _ R1 Tryz.underlying28 rfl hinf ?_)
          | (go_at_call 7; refine (HEN.out _ hE').mono ?_; rintro e w1 ⟨rfl, b1⟩; have N1 := hN.below b1; have L1 := hL.below b1; have B1 := below_join hB b1; have E1 := hE'.below b1; have G1 := hG'.below b1; have c1 := N1.cell HNC)
          | (go_at_call 9; refine (hpn _ G1).mono ?_; rintro e w2 ⟨rfl, b2⟩))
        go_roundw
        case rel => exact ⟨k + 1, by omega, by go_num, L1.below b2, N1.below b2, below_join B1 b2, E1.below b2, G1.below b2⟩
        case measure => simp [intOf]; omega
      · have hge : ¬ (k : Int) < 6 := by omega
        go_wp2
        go_ret
        exact ⟨rfl, hB⟩
end Go.Proofs.YtgdkgdlgalinbaaGreatDoor
