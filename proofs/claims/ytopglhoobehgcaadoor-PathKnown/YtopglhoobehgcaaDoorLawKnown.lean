/- PathKnown, walked. -/
import Derived.Test.YtopglhoobehgcaaDoorKnownC
import Derived.Test.YtopglhoobehgcaaDoorSet
namespace Go.Proofs.YtopglhoobehgcaaDoor
open Go.RowKit

theorem av0 : nameN ⟨#[97]⟩ = 0 := by decide +kernel
theorem az0 : (⟨#[97]⟩ : ByteArray).size < 4096 := by decide +kernel
theorem av1 : nameN ⟨#[46, 46, 46]⟩ = 0 := by decide +kernel
theorem az1 : (⟨#[46, 46, 46]⟩ : ByteArray).size < 4096 := by decide +kernel
theorem av2 : nameN ⟨#[46, 119, 104]⟩ = 0 := by decide +kernel
theorem az2 : (⟨#[46, 119, 104]⟩ : ByteArray).size < 4096 := by decide +kernel
theorem av3 : nameN (rA 96) = 0 := by decide +kernel
theorem az3 : ((rA 96) : ByteArray).size < 4096 := by decide +kernel
theorem av4 : nameN ⟨#[97, 46, 119, 104, 46]⟩ = 0 := by decide +kernel
theorem az4 : (⟨#[97, 46, 119, 104, 46]⟩ : ByteArray).size < 4096 := by decide +kernel
theorem av5 : nameN ⟨#[255]⟩ = 0 := by decide +kernel
theorem az5 : (⟨#[255]⟩ : ByteArray).size < 4096 := by decide +kernel
theorem av6 : nameN ⟨#[32]⟩ = 0 := by decide +kernel
theorem az6 : (⟨#[32]⟩ : ByteArray).size < 4096 := by decide +kernel
theorem bv0 : nameN ⟨#[]⟩ = 8 := by decide +kernel
theorem bz0 : (⟨#[]⟩ : ByteArray).size < 4096 := by decide +kernel
theorem bv1 : nameN ⟨#[46]⟩ = 8 := by decide +kernel
theorem bz1 : (⟨#[46]⟩ : ByteArray).size < 4096 := by decide +kernel
theorem bv2 : nameN ⟨#[46, 46]⟩ = 8 := by decide +kernel
theorem bz2 : (⟨#[46, 46]⟩ : ByteArray).size < 4096 := by decide +kernel
theorem bv3 : nameN ⟨#[97, 47, 98]⟩ = 8 := by decide +kernel
theorem bz3 : (⟨#[97, 47, 98]⟩ : ByteArray).size < 4096 := by decide +kernel
theorem bv4 : nameN ⟨#[46, 119, 104, 46]⟩ = 8 := by decide +kernel
theorem bz4 : (⟨#[46, 119, 104, 46]⟩ : ByteArray).size < 4096 := by decide +kernel
theorem bv5 : nameN ⟨#[46, 119, 104, 46, 97]⟩ = 8 := by decide +kernel
theorem bz5 : (⟨#[46, 119, 104, 46, 97]⟩ : ByteArray).size < 4096 := by decide +kernel
theorem bv6 : nameN ⟨#[97, 0]⟩ = 8 := by decide +kernel
theorem bz6 : (⟨#[97, 0]⟩ : ByteArray).size < 4096 := by decide +kernel
theorem bv7 : nameN (rA 97) = 8 := by decide +kernel
theorem bz7 : ((rA 97) : ByteArray).size < 4096 := by decide +kernel
theorem bv8 : nameN ⟨#[47]⟩ = 8 := by decide +kernel
theorem bz8 : (⟨#[47]⟩ : ByteArray).size < 4096 := by decide +kernel
theorem cv0 : checkN ⟨#[97]⟩ = 0 := by decide +kernel
theorem cz0 : (⟨#[97]⟩ : ByteArray).size < 4096 := by decide +kernel
theorem cv1 : checkN (rS 31 ++ ⟨#[97]⟩) = 0 := by decide +kernel
theorem cz1 : ((rS 31 ++ ⟨#[97]⟩) : ByteArray).size < 4096 := by decide +kernel
theorem cv2 : checkN (rA 96 ++ ⟨#[47]⟩ ++ rA 96) = 0 := by decide +kernel
theorem cz2 : ((rA 96 ++ ⟨#[47]⟩ ++ rA 96) : ByteArray).size < 4096 := by decide +kernel
theorem cv3 : checkN (⟨#[97, 47]⟩ ++ rB 96) = 0 := by decide +kernel
theorem cz3 : ((⟨#[97, 47]⟩ ++ rB 96) : ByteArray).size < 4096 := by decide +kernel
theorem cv4 : checkN (rB 60 ++ ⟨#[47]⟩ ++ rB 60 ++ ⟨#[47]⟩ ++ rB 60) = 0 := by decide +kernel
theorem cz4 : ((rB 60 ++ ⟨#[47]⟩ ++ rB 60 ++ ⟨#[47]⟩ ++ rB 60) : ByteArray).size < 4096 := by decide +kernel
theorem cv5 : checkN (rA 94 ++ ⟨#[47]⟩ ++ rB 60 ++ ⟨#[47]⟩ ++ rC 96) = 0 := by decide +kernel
theorem cz5 : ((rA 94 ++ ⟨#[47]⟩ ++ rB 60 ++ ⟨#[47]⟩ ++ rC 96) : ByteArray).size < 4096 := by decide +kernel
theorem cv6 : checkN (rA 94 ++ ⟨#[47]⟩ ++ rB 60 ++ ⟨#[47]⟩ ++ rC 38) = 0 := by decide +kernel
theorem cz6 : ((rA 94 ++ ⟨#[47]⟩ ++ rB 60 ++ ⟨#[47]⟩ ++ rC 38) : ByteArray).size < 4096 := by decide +kernel

set_option maxRecDepth 100000 in
set_option maxHeartbeats 4000000 in
theorem known_law (w : World) (hg : ErrType w) : Calls Tryd.prog 3 #[] w fun e w' => e = .returned (.bool true) ∧ Below w.heap.size w w' := by
  obtain ⟨p1, hp1⟩ : ∃ s, rS 31 ++ ⟨#[97]⟩ = s := ⟨_, rfl⟩
  obtain ⟨p2, hp2⟩ : ∃ s, rA 96 ++ ⟨#[47]⟩ ++ rA 96 = s := ⟨_, rfl⟩
  obtain ⟨p3, hp3⟩ : ∃ s, ⟨#[97, 47]⟩ ++ rB 96 = s := ⟨_, rfl⟩
  obtain ⟨p4, hp4⟩ : ∃ s, rB 60 ++ ⟨#[47]⟩ ++ rB 60 ++ ⟨#[47]⟩ ++ rB 60 = s := ⟨_, rfl⟩
  obtain ⟨p5, hp5⟩ : ∃ s, rA 94 ++ ⟨#[47]⟩ ++ rB 60 ++ ⟨#[47]⟩ ++ rC 96 = s := ⟨_, rfl⟩
  obtain ⟨p6, hp6⟩ : ∃ s, rA 94 ++ ⟨#[47]⟩ ++ rB 60 ++ ⟨#[47]⟩ ++ rC 38 = s := ⟨_, rfl⟩
  have HKa : Hid (∀ k, k < 7 → ∃ x, (#[.string ⟨#[97]⟩, .string ⟨#[46, 46, 46]⟩, .string ⟨#[46, 119, 104]⟩, .string (rA 96), .string ⟨#[97, 46, 119, 104, 46]⟩, .string ⟨#[255]⟩, .string ⟨#[32]⟩] : Array Value)[k]? = some (.string x) ∧ nameN x = 0 ∧ x.size < 4096) := by
    intro k hk
    rcases k with _ | _ | _ | _ | _ | _ | _ | k
    · exact ⟨_, rfl, av0, az0⟩
    · exact ⟨_, rfl, av1, az1⟩
    · exact ⟨_, rfl, av2, az2⟩
    · exact ⟨_, rfl, av3, az3⟩
    · exact ⟨_, rfl, av4, az4⟩
    · exact ⟨_, rfl, av5, az5⟩
    · exact ⟨_, rfl, av6, az6⟩
    · omega
  have HKb : Hid (∀ k, k < 9 → ∃ x, (#[.string ⟨#[]⟩, .string ⟨#[46]⟩, .string ⟨#[46, 46]⟩, .string ⟨#[97, 47, 98]⟩, .string ⟨#[46, 119, 104, 46]⟩, .string ⟨#[46, 119, 104, 46, 97]⟩, .string ⟨#[97, 0]⟩, .string (rA 97), .string ⟨#[47]⟩] : Array Value)[k]? = some (.string x) ∧ nameN x = 8 ∧ x.size < 4096) := by
    intro k hk
    rcases k with _ | _ | _ | _ | _ | _ | _ | _ | _ | k
    · exact ⟨_, rfl, bv0, bz0⟩
    · exact ⟨_, rfl, bv1, bz1⟩
    · exact ⟨_, rfl, bv2, bz2⟩
    · exact ⟨_, rfl, bv3, bz3⟩
    · exact ⟨_, rfl, bv4, bz4⟩
    · exact ⟨_, rfl, bv5, bz5⟩
    · exact ⟨_, rfl, bv6, bz6⟩
    · exact ⟨_, rfl, bv7, bz7⟩
    · exact ⟨_, rfl, bv8, bz8⟩
    · omega
  have HKc : Hid (∀ k, k < 7 → ∃ x, (#[.string ⟨#[97]⟩, .string p1, .string p2, .string p3, .string p4, .string p5, .string p6] : Array Value)[k]? = some (.string x) ∧ checkN x = 0 ∧ x.size < 4096) := by
    intro k hk
    rcases k with _ | _ | _ | _ | _ | _ | _ | k
    · exact ⟨_, rfl, cv0, cz0⟩
    · exact ⟨_, rfl, by rw [← hp1]; exact cv1, by rw [← hp1]; exact cz1⟩
    · exact ⟨_, rfl, by rw [← hp2]; exact cv2, by rw [← hp2]; exact cz2⟩
    · exact ⟨_, rfl, by rw [← hp3]; exact cv3, by rw [← hp3]; exact cz3⟩
    · exact ⟨_, rfl, by rw [← hp4]; exact cv4, by rw [← hp4]; exact cz4⟩
    · exact ⟨_, rfl, by rw [← hp5]; exact cv5, by rw [← hp5]; exact cz5⟩
    · exact ⟨_, rfl, by rw [← hp6]; exact cv6, by rw [← hp6]; exact cz6⟩
    · omega
  have qa := rA_size
  have qb := rB_size
  have qc := rC_size
  have qd := rD_size
  have qs := rS_size
  have b0 : Below w.heap.size w w := Below.refl _ _
  go_enter Tryd.func3, Tryd.ntmps3
  go_wp2_with fail
  refine (mA 96 _ (by decide)).mono ?_
  rintro e w1 ⟨rfl, hw⟩
  replace hw := hw.symm
  subst hw
  go_wp2_with fail
  go_loopw [2] (fun i wr => ∃ k : Nat, i = .int .i64 k ∧ k ≤ 7 ∧ Lies wr w.heap.size 9 #[.string ⟨#[97]⟩, .string ⟨#[46, 46, 46]⟩, .string ⟨#[46, 119, 104]⟩, .string (rA 96), .string ⟨#[97, 46, 119, 104, 46]⟩, .string ⟨#[255]⟩, .string ⟨#[32]⟩] ∧ Below w.heap.size w wr) (fun i _ => 7 - (intOf i).toNat)
  case atStart => exact ⟨0, rfl, by omega, Lies.new _ _ _, b0.alloc b0.size _⟩
  case round =>
    clear b0
    obtain ⟨k, rfl, hk, hL, b0⟩ := hrel
    by_cases hlt : k < 7
    · obtain ⟨x, hx, hv, hz⟩ := HKa.out k hlt
      have hc := hL.cell hx
      have d1 : (0 : Int) ≤ (k : Int) := by omega
      have d2 : (k : Int) < 7 := by omega
      have HL : Hid (Lies wr w.heap.size 9 #[.string ⟨#[97]⟩, .string ⟨#[46, 46, 46]⟩, .string ⟨#[46, 119, 104]⟩, .string (rA 96), .string ⟨#[97, 46, 119, 104, 46]⟩, .string ⟨#[255]⟩, .string ⟨#[32]⟩]) := hL
      clear hL hx
      have hcall := name_p x wr (fun h => anyOK x h)
      rw [hv, errV_zero] at hcall
      clear hv
      go_wp2_with fail
      refine hcall.mono ?_
      rintro e w2 ⟨rfl, b1⟩
      go_wp2_with fail
      go_roundw
      case rel => exact ⟨k + 1, by go_num, by omega, HL.out.below b1, below_join b0 b1⟩
      case measure => simp [intOf]; omega
    · have d1 : ¬ (k : Int) < 7 := by omega
      clear hL
      obtain ⟨wr0, hwr0⟩ : ∃ wr0, wr0 = wr := ⟨_, rfl⟩
      subst hwr0
      go_wp2_with fail
      refine (mA 97 _ (by decide)).mono ?_
      rintro e w1 ⟨rfl, hw⟩
      replace hw := hw.symm
      subst hw
      go_wp2_with fail
      go_loopw [4] (fun i wr => ∃ k : Nat, i = .int .i64 k ∧ k ≤ 9 ∧ Lies wr wr0.heap.size 9 #[.string ⟨#[]⟩, .string ⟨#[46]⟩, .string ⟨#[46, 46]⟩, .string ⟨#[97, 47, 98]⟩, .string ⟨#[46, 119, 104, 46]⟩, .string ⟨#[46, 119, 104, 46, 97]⟩, .string ⟨#[97, 0]⟩, .string (rA 97), .string ⟨#[47]⟩] ∧ Below w.heap.size w wr) (fun i _ => 9 - (intOf i).toNat)
      case atStart => exact ⟨0, rfl, by omega, Lies.new _ _ _, b0.alloc b0.size _⟩
      case round =>
        clear b0
        obtain ⟨k, rfl, hk, hL, b0⟩ := hrel
        by_cases hlt : k < 9
        · obtain ⟨x, hx, hv, hz⟩ := HKb.out k hlt
          have hc := hL.cell hx
          have d1 : (0 : Int) ≤ (k : Int) := by omega
          have d2 : (k : Int) < 9 := by omega
          have HL : Hid (Lies wr wr0.heap.size 9 #[.string ⟨#[]⟩, .string ⟨#[46]⟩, .string ⟨#[46, 46]⟩, .string ⟨#[97, 47, 98]⟩, .string ⟨#[46, 119, 104, 46]⟩, .string ⟨#[46, 119, 104, 46, 97]⟩, .string ⟨#[97, 0]⟩, .string (rA 97), .string ⟨#[47]⟩]) := hL
          clear hL hx
          have hcall := name_p x wr (fun h => anyOK x h)
          rw [hv, errV_some 8 (by decide)] at hcall
          clear hv
          go_wp2_with fail
          refine hcall.mono ?_
          rintro e w2 ⟨rfl, b1⟩
          go_wp2_with fail
          refine (plain_some 8 (by decide) (by decide) _ (hg.below (below_join b0 b1))).mono ?_
          rintro e w3 ⟨rfl, b2⟩
          replace b1 := below_join b1 b2
          clear b2
          go_wp2_with fail
          go_roundw
          case rel => exact ⟨k + 1, by go_num, by omega, HL.out.below b1, below_join b0 b1⟩
          case measure => simp [intOf]; omega
        · have d1 : ¬ (k : Int) < 9 := by omega
          clear hL
          obtain ⟨wr1, hwr1⟩ : ∃ wr1, wr1 = wr := ⟨_, rfl⟩
          subst hwr1
          go_wp2_with fail
          refine (mB 60 _ (by decide)).mono ?_
          rintro e w1 ⟨rfl, hw⟩
          replace hw := hw.symm
          subst hw
          go_wp2_with fail
          refine (mS 31 _ (by decide)).mono ?_
          rintro e w1 ⟨rfl, hw⟩
          replace hw := hw.symm
          subst hw
          go_wp2_with fail
          refine (mA 96 _ (by decide)).mono ?_
          rintro e w1 ⟨rfl, hw⟩
          replace hw := hw.symm
          subst hw
          go_wp2_with fail
          refine (mA 96 _ (by decide)).mono ?_
          rintro e w1 ⟨rfl, hw⟩
          replace hw := hw.symm
          subst hw
          go_wp2_with fail
          refine (mB 96 _ (by decide)).mono ?_
          rintro e w1 ⟨rfl, hw⟩
          replace hw := hw.symm
          subst hw
          go_wp2_with fail
          refine (mA 94 _ (by decide)).mono ?_
          rintro e w1 ⟨rfl, hw⟩
          replace hw := hw.symm
          subst hw
          go_wp2_with fail
          refine (mC 96 _ (by decide)).mono ?_
          rintro e w1 ⟨rfl, hw⟩
          replace hw := hw.symm
          subst hw
          go_wp2_with fail
          refine (mA 94 _ (by decide)).mono ?_
          rintro e w1 ⟨rfl, hw⟩
          replace hw := hw.symm
          subst hw
          go_wp2_with fail
          refine (mC 38 _ (by decide)).mono ?_
          rintro e w1 ⟨rfl, hw⟩
          replace hw := hw.symm
          subst hw
          go_wp2_with fail
          go_loopw [7] (fun i wr => ∃ k : Nat, i = .int .i64 k ∧ k ≤ 7 ∧ Lies wr wr1.heap.size 9 #[.string ⟨#[97]⟩, .string p1, .string p2, .string p3, .string p4, .string p5, .string p6] ∧ Below w.heap.size w wr) (fun i _ => 7 - (intOf i).toNat)
          case atStart => exact ⟨0, rfl, by omega, Lies.new _ _ _, b0.alloc b0.size _⟩
          case round =>
            clear b0
            obtain ⟨k, rfl, hk, hL, b0⟩ := hrel
            by_cases hlt : k < 7
            · obtain ⟨x, hx, hv, hz⟩ := HKc.out k hlt
              have hc := hL.cell hx
              have d1 : (0 : Int) ≤ (k : Int) := by omega
              have d2 : (k : Int) < 7 := by omega
              have HL : Hid (Lies wr wr1.heap.size 9 #[.string ⟨#[97]⟩, .string p1, .string p2, .string p3, .string p4, .string p5, .string p6]) := hL
              clear hL hx
              have hcall := check_p x wr (by omega) (fun y _ h => anyOK y h)
              rw [hv, errV_zero] at hcall
              clear hv
              go_wp2_with fail
              refine hcall.mono ?_
              rintro e w2 ⟨rfl, b1⟩
              go_wp2_with fail
              go_roundw
              case rel => exact ⟨k + 1, by go_num, by omega, HL.out.below b1, below_join b0 b1⟩
              case measure => simp [intOf]; omega
            · have d1 : ¬ (k : Int) < 7 := by omega
              clear hL
              go_wp2_with fail
              refine (checked_k _ (hg.below b0)).mono ?_
              rintro e w5 ⟨rfl, b1⟩
              replace b1 := below_join b0 b1
              go_wp2_with fail
              refine (split_k _ (hg.below b1)).mono ?_
              rintro e w6 ⟨rfl, b2⟩
              replace b2 := below_join b1 b2
              go_wp2_with fail
              refine (parted_p _).mono ?_
              rintro e w7 ⟨rfl, b3⟩
              replace b3 := below_join b2 b3
              go_wp2_with fail
              refine (works_p _ (hg.below b3)).mono ?_
              rintro e w8 ⟨rfl, b4⟩
              replace b4 := below_join b3 b4
              go_wp2_with fail
              go_ret
              exact ⟨rfl, b4⟩
end Go.Proofs.YtopglhoobehgcaaDoor
