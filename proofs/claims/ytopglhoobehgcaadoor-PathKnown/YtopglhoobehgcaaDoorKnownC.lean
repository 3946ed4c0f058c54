/- PathKnown's checked: what is no path, at fixed texts. -/
import Derived.Test.YtopglhoobehgcaaDoorKnownS
import Derived.Test.YtopglhoobehgcaaDoorSet
namespace Go.Proofs.YtopglhoobehgcaaDoor
open Go.RowKit

def rD (n : Nat) : ByteArray := repB ⟨#[100]⟩ n
def rS (n : Nat) : ByteArray := repB ⟨#[97, 47]⟩ n
theorem rD_size (n : Nat) : (rD n).size = n := by unfold rD; rw [repB_size]; exact Nat.mul_one n
theorem rS_size (n : Nat) : (rS n).size = n * 2 := by unfold rS; rw [repB_size]; rfl
theorem mD (n : Nat) (w : World) (hn : n ≤ 4096) : Calls Tryd.prog 6 #[.string ⟨#[100]⟩, .int .i64 n] w fun e w' => e = .returned (.string (rD n)) ∧ w' = w := many_p _ n w (by decide) hn
theorem mS (n : Nat) (w : World) (hn : n ≤ 4096) : Calls Tryd.prog 6 #[.string ⟨#[97, 47]⟩, .int .i64 n] w fun e w' => e = .returned (.string (rS n)) ∧ w' = w := many_p _ n w (by decide) hn
theorem xv0 : checkN ⟨#[97, 47, 47, 98]⟩ = 8 := by decide +kernel
theorem xz0 : (⟨#[97, 47, 47, 98]⟩ : ByteArray).size < 4096 := by decide +kernel
theorem xv1 : checkN ⟨#[47, 97]⟩ = 8 := by decide +kernel
theorem xz1 : (⟨#[47, 97]⟩ : ByteArray).size < 4096 := by decide +kernel
theorem xv2 : checkN ⟨#[97, 47]⟩ = 8 := by decide +kernel
theorem xz2 : (⟨#[97, 47]⟩ : ByteArray).size < 4096 := by decide +kernel
theorem xv3 : checkN ⟨#[97, 47, 46, 46, 47, 98]⟩ = 8 := by decide +kernel
theorem xz3 : (⟨#[97, 47, 46, 46, 47, 98]⟩ : ByteArray).size < 4096 := by decide +kernel
theorem xv4 : checkN ⟨#[97, 47, 46, 119, 104, 46, 98]⟩ = 8 := by decide +kernel
theorem xz4 : (⟨#[97, 47, 46, 119, 104, 46, 98]⟩ : ByteArray).size < 4096 := by decide +kernel
theorem xv5 : checkN (rS 33 ++ ⟨#[46, 46]⟩) = 8 := by decide +kernel
theorem xz5 : ((rS 33 ++ ⟨#[46, 46]⟩) : ByteArray).size < 4096 := by decide +kernel
theorem xv6 : checkN (rA 300) = 8 := by decide +kernel
theorem xz6 : ((rA 300) : ByteArray).size < 4096 := by decide +kernel
theorem xv7 : checkN (⟨#[97, 47]⟩ ++ rA 97) = 8 := by decide +kernel
theorem xz7 : ((⟨#[97, 47]⟩ ++ rA 97) : ByteArray).size < 4096 := by decide +kernel
theorem yv0 : checkN (rA 95 ++ ⟨#[47]⟩ ++ rB 60 ++ ⟨#[47]⟩ ++ rC 38) = 9 := by decide +kernel
theorem yz0 : ((rA 95 ++ ⟨#[47]⟩ ++ rB 60 ++ ⟨#[47]⟩ ++ rC 38) : ByteArray).size < 4096 := by decide +kernel
theorem yv1 : checkN (rS 32 ++ ⟨#[97]⟩) = 9 := by decide +kernel
theorem yz1 : ((rS 32 ++ ⟨#[97]⟩) : ByteArray).size < 4096 := by decide +kernel
theorem yv2 : checkN (rA 96 ++ ⟨#[47]⟩ ++ rB 60 ++ ⟨#[47]⟩ ++ rA 96) = 9 := by decide +kernel
theorem yz2 : ((rA 96 ++ ⟨#[47]⟩ ++ rB 60 ++ ⟨#[47]⟩ ++ rA 96) : ByteArray).size < 4096 := by decide +kernel
theorem yv3 : checkN (rA 96 ++ ⟨#[47]⟩ ++ rA 96 ++ ⟨#[47]⟩ ++ rA 96) = 9 := by decide +kernel
theorem yz3 : ((rA 96 ++ ⟨#[47]⟩ ++ rA 96 ++ ⟨#[47]⟩ ++ rA 96) : ByteArray).size < 4096 := by decide +kernel
theorem yv4 : checkN (rA 96 ++ ⟨#[47]⟩ ++ rA 62 ++ ⟨#[47]⟩ ++ rA 95 ++ ⟨#[47, 97]⟩) = 9 := by decide +kernel
theorem yz4 : ((rA 96 ++ ⟨#[47]⟩ ++ rA 62 ++ ⟨#[47]⟩ ++ rA 95 ++ ⟨#[47, 97]⟩) : ByteArray).size < 4096 := by decide +kernel
theorem yv5 : checkN (rA 80 ++ ⟨#[47]⟩ ++ rB 80 ++ ⟨#[47]⟩ ++ rC 10 ++ ⟨#[47]⟩ ++ rD 83) = 9 := by decide +kernel
theorem yz5 : ((rA 80 ++ ⟨#[47]⟩ ++ rB 80 ++ ⟨#[47]⟩ ++ rC 10 ++ ⟨#[47]⟩ ++ rD 83) : ByteArray).size < 4096 := by decide +kernel

set_option maxRecDepth 100000 in
set_option maxHeartbeats 4000000 in
theorem checked_k (w : World) (hg : ErrType w) : Calls Tryd.prog 10 #[] w fun e w' => e = .returned (.bool true) ∧ Below w.heap.size w w' := by
  obtain ⟨s5, hs5⟩ : ∃ s, rS 33 ++ ⟨#[46, 46]⟩ = s := ⟨_, rfl⟩
  obtain ⟨s6, hs6⟩ : ∃ s, rA 300 = s := ⟨_, rfl⟩
  obtain ⟨s7, hs7⟩ : ∃ s, ⟨#[97, 47]⟩ ++ rA 97 = s := ⟨_, rfl⟩
  obtain ⟨p0, hp0⟩ : ∃ s, rA 95 ++ ⟨#[47]⟩ ++ rB 60 ++ ⟨#[47]⟩ ++ rC 38 = s := ⟨_, rfl⟩
  obtain ⟨p1, hp1⟩ : ∃ s, rS 32 ++ ⟨#[97]⟩ = s := ⟨_, rfl⟩
  obtain ⟨p2, hp2⟩ : ∃ s, rA 96 ++ ⟨#[47]⟩ ++ rB 60 ++ ⟨#[47]⟩ ++ rA 96 = s := ⟨_, rfl⟩
  obtain ⟨p3, hp3⟩ : ∃ s, rA 96 ++ ⟨#[47]⟩ ++ rA 96 ++ ⟨#[47]⟩ ++ rA 96 = s := ⟨_, rfl⟩
  obtain ⟨p4, hp4⟩ : ∃ s, rA 96 ++ ⟨#[47]⟩ ++ rA 62 ++ ⟨#[47]⟩ ++ rA 95 ++ ⟨#[47, 97]⟩ = s := ⟨_, rfl⟩
  obtain ⟨p5, hp5⟩ : ∃ s, rA 80 ++ ⟨#[47]⟩ ++ rB 80 ++ ⟨#[47]⟩ ++ rC 10 ++ ⟨#[47]⟩ ++ rD 83 = s := ⟨_, rfl⟩
  have HKx : Hid (∀ k, k < 8 → ∃ x, (#[.string ⟨#[97, 47, 47, 98]⟩, .string ⟨#[47, 97]⟩, .string ⟨#[97, 47]⟩, .string ⟨#[97, 47, 46, 46, 47, 98]⟩, .string ⟨#[97, 47, 46, 119, 104, 46, 98]⟩, .string s5, .string s6, .string s7] : Array Value)[k]? = some (.string x) ∧ checkN x = 8 ∧ x.size < 4096) := by
    intro k hk
    rcases k with _ | _ | _ | _ | _ | _ | _ | _ | k
    · exact ⟨_, rfl, xv0, xz0⟩
    · exact ⟨_, rfl, xv1, xz1⟩
    · exact ⟨_, rfl, xv2, xz2⟩
    · exact ⟨_, rfl, xv3, xz3⟩
    · exact ⟨_, rfl, xv4, xz4⟩
    · exact ⟨_, rfl, by rw [← hs5]; exact xv5, by rw [← hs5]; exact xz5⟩
    · exact ⟨_, rfl, by rw [← hs6]; exact xv6, by rw [← hs6]; exact xz6⟩
    · exact ⟨_, rfl, by rw [← hs7]; exact xv7, by rw [← hs7]; exact xz7⟩
    · omega
  have HKy : Hid (∀ k, k < 6 → ∃ x, (#[.string p0, .string p1, .string p2, .string p3, .string p4, .string p5] : Array Value)[k]? = some (.string x) ∧ checkN x = 9 ∧ x.size < 4096) := by
    intro k hk
    rcases k with _ | _ | _ | _ | _ | _ | k
    · exact ⟨_, rfl, by rw [← hp0]; exact yv0, by rw [← hp0]; exact yz0⟩
    · exact ⟨_, rfl, by rw [← hp1]; exact yv1, by rw [← hp1]; exact yz1⟩
    · exact ⟨_, rfl, by rw [← hp2]; exact yv2, by rw [← hp2]; exact yz2⟩
    · exact ⟨_, rfl, by rw [← hp3]; exact yv3, by rw [← hp3]; exact yz3⟩
    · exact ⟨_, rfl, by rw [← hp4]; exact yv4, by rw [← hp4]; exact yz4⟩
    · exact ⟨_, rfl, by rw [← hp5]; exact yv5, by rw [← hp5]; exact yz5⟩
    · omega
  have qa := rA_size
  have qb := rB_size
  have qc := rC_size
  have qd := rD_size
  have qs := rS_size
  have b0 : Below w.heap.size w w := Below.refl _ _
  go_enter Tryd.func10, Tryd.ntmps10
  go_wp2_with fail
  refine (mS 33 _ (by decide)).mono ?_
  rintro e w1 ⟨rfl, hw⟩
  replace hw := hw.symm
  subst hw
  go_wp2_with fail
  refine (mA 300 _ (by decide)).mono ?_
  rintro e w1 ⟨rfl, hw⟩
  replace hw := hw.symm
  subst hw
  go_wp2_with fail
  refine (mA 97 _ (by decide)).mono ?_
  rintro e w1 ⟨rfl, hw⟩
  replace hw := hw.symm
  subst hw
  go_wp2_with fail
  go_loopw [2] (fun i wr => ∃ k : Nat, i = .int .i64 k ∧ k ≤ 8 ∧ Lies wr w.heap.size 9 #[.string ⟨#[97, 47, 47, 98]⟩, .string ⟨#[47, 97]⟩, .string ⟨#[97, 47]⟩, .string ⟨#[97, 47, 46, 46, 47, 98]⟩, .string ⟨#[97, 47, 46, 119, 104, 46, 98]⟩, .string s5, .string s6, .string s7] ∧ Below w.heap.size w wr) (fun i _ => 8 - (intOf i).toNat)
  case atStart => exact ⟨0, rfl, by omega, Lies.new _ _ _, b0.alloc b0.size _⟩
  case round =>
    clear b0
    obtain ⟨k, rfl, hk, hL, b0⟩ := hrel
    by_cases hlt : k < 8
    · obtain ⟨x, hx, hv, hz⟩ := HKx.out k hlt
      have hc := hL.cell hx
      have d1 : (0 : Int) ≤ (k : Int) := by omega
      have d2 : (k : Int) < 8 := by omega
      have HL : Hid (Lies wr w.heap.size 9 #[.string ⟨#[97, 47, 47, 98]⟩, .string ⟨#[47, 97]⟩, .string ⟨#[97, 47]⟩, .string ⟨#[97, 47, 46, 46, 47, 98]⟩, .string ⟨#[97, 47, 46, 119, 104, 46, 98]⟩, .string s5, .string s6, .string s7]) := hL
      clear hL hx
      have hcall := check_p x wr (by omega) (fun y _ h => anyOK y h)
      rw [hv, errV_some 8 (by decide)] at hcall
      clear hv
      go_wp2_with fail
      refine hcall.mono ?_
      rintro e w2 ⟨rfl, b1⟩
      go_wp2_with fail
      refine (plain_some 8 (by decide) (by decide) _ (hg.below (below_join b0 b1))).mono ?_
      rintro e w3 ⟨rfl, b2⟩
      replace b1 := below_join b1 b2
      clear b2
      go_wp2_with fail
      go_roundw
      case rel => exact ⟨k + 1, by go_num, by omega, HL.out.below b1, below_join b0 b1⟩
      case measure => simp [intOf]; omega
    · have d1 : ¬ (k : Int) < 8 := by omega
      clear hL
      obtain ⟨wr0, hwr0⟩ : ∃ wr0, wr0 = wr := ⟨_, rfl⟩
      subst hwr0
      go_wp2_with fail
      refine (mA 96 _ (by decide)).mono ?_
      rintro e w1 ⟨rfl, hw⟩
      replace hw := hw.symm
      subst hw
      go_wp2_with fail
      refine (mA 95 _ (by decide)).mono ?_
      rintro e w1 ⟨rfl, hw⟩
      replace hw := hw.symm
      subst hw
      go_wp2_with fail
      refine (mB 60 _ (by decide)).mono ?_
      rintro e w1 ⟨rfl, hw⟩
      replace hw := hw.symm
      subst hw
      go_wp2_with fail
      refine (mC 38 _ (by decide)).mono ?_
      rintro e w1 ⟨rfl, hw⟩
      replace hw := hw.symm
      subst hw
      go_wp2_with fail
      refine (mS 32 _ (by decide)).mono ?_
      rintro e w1 ⟨rfl, hw⟩
      replace hw := hw.symm
      subst hw
      go_wp2_with fail
      refine (mB 60 _ (by decide)).mono ?_
      rintro e w1 ⟨rfl, hw⟩
      replace hw := hw.symm
      subst hw
      go_wp2_with fail
      refine (mA 62 _ (by decide)).mono ?_
      rintro e w1 ⟨rfl, hw⟩
      replace hw := hw.symm
      subst hw
      go_wp2_with fail
      refine (mA 95 _ (by decide)).mono ?_
      rintro e w1 ⟨rfl, hw⟩
      replace hw := hw.symm
      subst hw
      go_wp2_with fail
      refine (mA 80 _ (by decide)).mono ?_
      rintro e w1 ⟨rfl, hw⟩
      replace hw := hw.symm
      subst hw
      go_wp2_with fail
      refine (mB 80 _ (by decide)).mono ?_
      rintro e w1 ⟨rfl, hw⟩
      replace hw := hw.symm
      subst hw
      go_wp2_with fail
      refine (mC 10 _ (by decide)).mono ?_
      rintro e w1 ⟨rfl, hw⟩
      replace hw := hw.symm
      subst hw
      go_wp2_with fail
      refine (mD 83 _ (by decide)).mono ?_
      rintro e w1 ⟨rfl, hw⟩
      replace hw := hw.symm
      subst hw
      go_wp2_with fail
      go_loopw [5] (fun i wr => ∃ k : Nat, i = .int .i64 k ∧ k ≤ 6 ∧ Lies wr wr0.heap.size 9 #[.string p0, .string p1, .string p2, .string p3, .string p4, .string p5] ∧ Below w.heap.size w wr) (fun i _ => 6 - (intOf i).toNat)
      case atStart => exact ⟨0, rfl, by omega, Lies.new _ _ _, b0.alloc b0.size _⟩
      case round =>
        clear b0
        obtain ⟨k, rfl, hk, hL, b0⟩ := hrel
        by_cases hlt : k < 6
        · obtain ⟨x, hx, hv, hz⟩ := HKy.out k hlt
          have hc := hL.cell hx
          have d1 : (0 : Int) ≤ (k : Int) := by omega
          have d2 : (k : Int) < 6 := by omega
          have HL : Hid (Lies wr wr0.heap.size 9 #[.string p0, .string p1, .string p2, .string p3, .string p4, .string p5]) := hL
          clear hL hx
          have hcall := check_p x wr (by omega) (fun y _ h => anyOK y h)
          rw [hv, errV_some 9 (by decide)] at hcall
          clear hv
          go_wp2_with fail
          refine hcall.mono ?_
          rintro e w2 ⟨rfl, b1⟩
          go_wp2_with fail
          refine (plain_some 9 (by decide) (by decide) _ (hg.below (below_join b0 b1))).mono ?_
          rintro e w3 ⟨rfl, b2⟩
          replace b1 := below_join b1 b2
          clear b2
          go_wp2_with fail
          go_roundw
          case rel => exact ⟨k + 1, by go_num, by omega, HL.out.below b1, below_join b0 b1⟩
          case measure => simp [intOf]; omega
        · have d1 : ¬ (k : Int) < 6 := by omega
          clear hL
          go_wp2_with fail
          refine (c_check2 _).mono ?_
          rintro e w8 ⟨rfl, b1⟩
          replace b1 := below_join b0 b1
          go_wp2_with fail
          refine (plain_some 15 (by decide) (by decide) _ (hg.below b1)).mono ?_
          rintro e w9 ⟨rfl, b2⟩
          replace b2 := below_join b1 b2
          go_wp2_with fail
          go_ret
          exact ⟨rfl, b2⟩
end Go.Proofs.YtopglhoobehgcaaDoor
