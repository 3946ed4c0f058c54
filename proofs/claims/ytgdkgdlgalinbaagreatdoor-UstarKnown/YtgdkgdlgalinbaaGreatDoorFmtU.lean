/- strconv.FormatInt to the base 8. -/
import Derived.Test.YtgdkgdlgalinbaaGreatDoorOctM
import Derived.Laws.BitsAllLaws
namespace Go.Proofs.YtgdkgdlgalinbaaGreatDoor
open Go Go.RowKit

/-- The table of package math/bits, at the place that 8 is asked at. -/
def ZAt (w : World) : Prop := w.cell? ⟨7, 7, none⟩ = some (.int .u8 3)
theorem tz_p (w : World) (hz : ZAt w) : Calls Tryz.prog 106 #[.int .u64 8] w fun e w' => e = .returned (.int .i64 3) ∧ w' = w := by
  unfold ZAt at hz
  have he : IntKind.u64.wrap (bits .and .u64 8 (IntKind.u64.wrap (-8)) * 285870213051353865) / 288230376151711744 = 7 := by decide
  go_enter Tryz.func106, Tryz.ntmps106
  go_wp2
  go_ret
  exact ⟨rfl, rfl⟩
theorem tz2_p (w : World) (hz : ZAt w) : Calls Tryz.prog 102 #[.int .u64 8] w fun e w' => e = .returned (.int .i64 3) ∧ w' = w := by
  go_enter Tryz.func102, Tryz.ntmps102
  go_wp2_with (go_at_call 106; refine (tz_p _ hz).mono ?_; rintro e w' ⟨rfl, rfl⟩)
  go_ret
  exact ⟨rfl, rfl⟩
theorem pow2_p (w : World) : Calls Tryz.prog 101 #[.int .i64 8] w fun e w' => e = .returned (.bool true) ∧ w' = w := by
  go_enter Tryz.func101, Tryz.ntmps101
  go_wp2
  go_ret
  exact ⟨rfl, rfl⟩

theorem and7 (u : Nat) (h : u < 18446744073709551616) : bits .and .u64 (u : Int) 7 = ((u % 8 : Nat) : Int) := by
  rw [show (7 : Int) = ((7 : Nat) : Int) from rfl, u64_and_nat u 7 h (by decide), show (7 : Nat) = 2 ^ 3 - 1 from rfl, Nat.and_two_pow_sub_one_eq_mod]
theorem dig_get (k : Nat) (h8 : k < 8) (h : k < (⟨#[48, 49, 50, 51, 52, 53, 54, 55, 56, 57, 97, 98, 99, 100, 101, 102, 103, 104, 105, 106, 107, 108, 109, 110, 111, 112, 113, 114, 115, 116, 117, 118, 119, 120, 121, 122]⟩ : ByteArray).size) : (⟨#[48, 49, 50, 51, 52, 53, 54, 55, 56, 57, 97, 98, 99, 100, 101, 102, 103, 104, 105, 106, 107, 108, 109, 110, 111, 112, 113, 114, 115, 116, 117, 118, 119, 120, 121, 122]⟩ : ByteArray)[k] = dg k := by
  obtain rfl | rfl | rfl | rfl | rfl | rfl | rfl | rfl : k = 0 ∨ k = 1 ∨ k = 2 ∨ k = 3 ∨ k = 4 ∨ k = 5 ∨ k = 6 ∨ k = 7 := by omega
  all_goals rfl
def zero65 : List UInt8 := List.replicate 65 0
theorem info_65 : (Tryz.prog.info? 163).map (fun i => (i.zero, i.size)) = some (some (.agg (bcs zero65)), 65) := by kernel_rfl
theorem arr65_len : Tryz.prog.arrayLen 163 = 65 := by kernel_rfl
theorem arr65_elem : Tryz.prog.elem 163 = 5 := by kernel_rfl
theorem arr65_under : Tryz.prog.underlying 163 = some (.array (Tryz.prog.arrayLen 163) (Tryz.prog.elem 163)) := by rw [arr65_len, arr65_elem]; exact Tryz.underlying163
theorem slice65 (b l : Nat) (hl : l < 65) (w : World) :
    (Instr.sliceAt 163 (.pointer (some ⟨b, 0, none⟩)) (some (.int .i64 (l : Int))) none none).run Tryz.prog w = .ok (.slice (some ⟨b, l, none⟩) (65 - l) (65 - l)) w := by
  rw [run_sliceAt_array_l w 163 ⟨b, 0, none⟩ arr65_under .i64 l (by omega) (by rw [arr65_len]; omega), arr65_elem, Tryz.sizeOf5]
  simp only [Result.andThen_ok, slicedAt, arr65_len, Int.toNat_natCast, Nat.mul_one, Addr.add_mid, Nat.zero_add]
  rw [if_neg (by omega)]
set_option maxRecDepth 100000 in
set_option maxHeartbeats 1000000 in
theorem bits_p (u : Nat) (hu : u < 8 ^ 12) (w : World) (hz : ZAt w) : Calls Tryz.prog 88 #[.slice none 0 0, .int .u64 u, .int .i64 8, .bool false, .bool false] w fun e w' => e = .returned (.tuple #[.slice none 0 0, .string (bs (octM u))]) ∧ Below w.heap.size w w' := by
  have hz0 := (zero_of_info (P := Tryz.prog) info_65).1
  have hlt : 7 < w.heap.size := by
    rcases Nat.lt_or_ge 7 w.heap.size with h | h
    · exact h
    · unfold ZAt at hz; simp [World.cell?, Array.getElem?_eq_none h] at hz
  have hz1 : ZAt (w.alloc (.cells (bcs zero65) 163)) := by
    unfold ZAt; rw [World.cell?_alloc_lt _ _ ⟨7, 7, none⟩ hlt]; exact hz
  have L0 := Lies.new w 163 (bcs zero65)
  have B0 := (Below.refl _ w).alloc (Nat.le_refl _) (.cells (bcs zero65) 163)
  have hz65 : zero65.length = 65 := rfl
  go_enter Tryz.func88, Tryz.ntmps88
  generalize zero65 = z65 at *
  go_wp2_with (first | (go_at_call 101; refine (pow2_p _).mono ?_; rintro e w' ⟨rfl, rfl⟩) | (go_at_call 102; refine (tz2_p _ hz1).mono ?_; rintro e w' ⟨rfl, rfl⟩))
  generalize w.alloc (.cells (bcs z65) 163) = W at *
  clear hz1 hz0 hz
  go_loopw [1, 13] (fun v i wr => ∃ (x k : Nat) (l : List UInt8), k ≤ 65 ∧ 54 ≤ k ∧ x < 8 ^ (k - 53) ∧ v = .int .u64 x ∧ i = .int .i64 (k : Int) ∧ l.length = 65 ∧ octM u = octM x ++ l.drop k ∧ Lies wr w.heap.size 163 (bcs l) ∧ Below w.heap.size w wr) (fun _ i _ => (intOf i).toNat)
  case atStart => exact ⟨u, 65, z65, by omega, by omega, hu, rfl, rfl, hz65, by rw [List.drop_of_length_le (by omega), List.append_nil], L0, B0⟩
  case round =>
    obtain ⟨x, k, l, hk1, hk2, hx, rfl, rfl, hl, hoct, hL, hB⟩ := hrel
    obtain ⟨j, rfl⟩ : ∃ j, k = j + 1 := ⟨k - 1, by omega⟩
    have HO : Hid _ := hoct
    have hpw : 8 ^ (j + 1 - 53) ≤ 8 ^ 12 := Nat.pow_le_pow_right (by decide) (by omega)
    have hx64 : x < 68719476736 := Nat.lt_of_lt_of_le hx hpw
    have HX : Hid _ := hx
    have cf := hL.frozen j
    have cc : wr.cell? ⟨w.heap.size, j, none⟩ = some (.int .u8 (l.getD j 0).toNat) := by
      rw [hL.cell (bcs_get l j (by omega))]; simp [List.getD_eq_getElem?_getD, hl, show j < 65 by omega]
    have L2 : ∀ c : UInt8, Lies (wr.setCell ⟨w.heap.size, j, none⟩ (.int .u8 c.toNat)) w.heap.size 163 (bcs (l.set j c)) := fun c => by
      rw [← bcs_set]; exact hL.set _
    have B2 : ∀ v, Below w.heap.size w (wr.setCell ⟨w.heap.size, j, none⟩ v) := fun v => hB.setCell (p := ⟨w.heap.size, j, none⟩) (Nat.le_refl _) v
    have hdr : ∀ c : UInt8, (l.set j c).drop j = c :: l.drop (j + 1) := fun c => by
      rw [List.drop_eq_getElem_cons (by rw [List.length_set]; omega), List.getElem_set_self, List.drop_set_of_lt (by omega)]
    have HL2 : Hid _ := L2
    have HB2 : Hid _ := B2
    have HDR : Hid _ := hdr
    have e66 : (0 : Int) ≤ (j : Int) := by omega
    have e67 : (j : Int) < 65 := by omega
    clear L2 B2 hdr hoct hx hpw hL hB
    by_cases h8 : 8 ≤ x
    · have h8' : (8 : Int) ≤ (x : Int) := by omega
      have hd := dig_get (x % 8) (by omega) (Nat.lt_trans (Nat.mod_lt _ (by decide)) (by decide))
      have ha := and7 x (by omega)
      have g1 : (0 : Int) ≤ (x : Int) % 8 := by omega
      have g2 : (x : Int) % 8 < 36 := by omega
      go_wp2
      have hj : 54 ≤ j := by
        rcases Nat.lt_or_ge j 54 with h | h
        · have h1 := HX.out
          rw [show j + 1 - 53 = 1 by omega] at h1
          omega
        · exact h
      have hx8 : x / 8 < 8 ^ (j - 53) := Nat.div_lt_of_lt_mul (by rw [Nat.mul_comm, ← Nat.pow_succ, show (j - 53).succ = j + 1 - 53 by omega]; exact HX.out)
      exact ⟨⟨x / 8, j, l.set j (dg (x % 8)), by omega, hj, hx8, by go_num, rfl, by rw [List.length_set]; exact hl, by rw [HDR.out, HO.out, octM_step x h8, List.append_assoc]; rfl, HL2.out _, HB2.out _⟩, by simp [intOf]⟩
    · have h8' : ¬ (8 : Int) ≤ (x : Int) := by omega
      have g2 : (x : Int) < 36 := by omega
      have hd := dig_get x (by omega) (Nat.lt_trans (show x < 8 by omega) (by decide))
      have hsl := fun W => slice65 w.heap.size j (by omega) W
      have hcv := conv_lies (l.set j (dg x)) w.heap.size j (65 - j) (65 - j) _ _ (HL2.out (dg x)) (by rw [List.length_set]; omega)
      have HE : Hid (((l.set j (dg x)).drop j).take (65 - j) = octM u) := by
        unfold Hid
        rw [HDR.out, HO.out, octM_small x (by omega), List.take_of_length_le (by simp; omega)]; rfl
      rw [HE.out] at hcv
      go_wp2
      go_ret2
      exact ⟨rfl, HB2.out _⟩
theorem fmtInt_p (u : Nat) (hu : u < 8 ^ 12) (w : World) (hz : ZAt w) : Calls Tryz.prog 69 #[.int .i64 u, .int .i64 8] w fun e w' => e = .returned (.string (bs (octM u))) ∧ Below w.heap.size w w' := by
  have h1 : u < 68719476736 := hu
  have hb := bits_p u hu w hz
  have hnn : ¬ (u : Int) < 0 := by omega
  clear hu
  go_enter Tryz.func69, Tryz.ntmps69
  go_wp2_with (go_at_call 88; refine hb.mono ?_; rintro e w' ⟨rfl, b1⟩)
  go_ret
  exact ⟨rfl, b1⟩
theorem format_p (u : Nat) (hu : u < 8 ^ 12) (w : World) (hz : ZAt w) : Calls Tryz.prog 54 #[.int .i64 u, .int .i64 8] w fun e w' => e = .returned (.string (bs (octM u))) ∧ Below w.heap.size w w' := by
  have hb := fmtInt_p u hu w hz
  go_enter Tryz.func54, Tryz.ntmps54
  go_wp2_with (go_at_call 69; refine hb.mono ?_; rintro e w' ⟨rfl, b1⟩)
  go_ret
  exact ⟨rfl, b1⟩
end Go.Proofs.YtgdkgdlgalinbaaGreatDoor
