/- PathKnown's split: what a header says, at fixed texts. -/
import Derived.Test.YtopglhoobehgcaaDoorKnownP
namespace Go.Proofs.YtopglhoobehgcaaDoor
open Go.RowKit

def rA (n : Nat) : ByteArray := repB ⟨#[97]⟩ n
def rB (n : Nat) : ByteArray := repB ⟨#[98]⟩ n
def rC (n : Nat) : ByteArray := repB ⟨#[99]⟩ n
theorem rA_size (n : Nat) : (rA n).size = n := by unfold rA; rw [repB_size]; exact Nat.mul_one n
theorem rB_size (n : Nat) : (rB n).size = n := by unfold rB; rw [repB_size]; exact Nat.mul_one n
theorem rC_size (n : Nat) : (rC n).size = n := by unfold rC; rw [repB_size]; exact Nat.mul_one n
theorem mA (n : Nat) (w : World) (hn : n ≤ 4096) : Calls Tryd.prog 6 #[.string ⟨#[97]⟩, .int .i64 n] w fun e w' => e = .returned (.string (rA n)) ∧ w' = w := many_p _ n w (by decide) hn
theorem mB (n : Nat) (w : World) (hn : n ≤ 4096) : Calls Tryd.prog 6 #[.string ⟨#[98]⟩, .int .i64 n] w fun e w' => e = .returned (.string (rB n)) ∧ w' = w := many_p _ n w (by decide) hn
theorem mC (n : Nat) (w : World) (hn : n ≤ 4096) : Calls Tryd.prog 6 #[.string ⟨#[99]⟩, .int .i64 n] w fun e w' => e = .returned (.string (rC n)) ∧ w' = w := many_p _ n w (by decide) hn

theorem sx0 : (splitP (rA 100)).2.2 = 0 := by decide +kernel
theorem sf0 : (splitP (rA 100)).1 = ⟨#[]⟩ ∧ (splitP (rA 100)).2.1.size = 100 := by decide +kernel
theorem sc0 (s : ByteArray) (hs : rA 100 = s) (w : World) : Calls Tryd.prog 28 #[.string s] w fun e w' => e = .returned (.tuple #[.string (splitP s).1, .string (splitP s).2.1, .nilIface]) ∧ Below w.heap.size w w' := by
  subst hs
  have h := split_p (rA 100) w (by decide +kernel); rw [sx0, errV_zero] at h; exact h
theorem sx1 : (splitP (⟨#[97, 47]⟩ ++ rB 100)).2.2 = 0 := by decide +kernel
theorem sf1 : (splitP (⟨#[97, 47]⟩ ++ rB 100)).1 = ⟨#[97]⟩ ∧ (splitP (⟨#[97, 47]⟩ ++ rB 100)).2.1.size = 100 := by decide +kernel
theorem sc1 (s : ByteArray) (hs : ⟨#[97, 47]⟩ ++ rB 100 = s) (w : World) : Calls Tryd.prog 28 #[.string s] w fun e w' => e = .returned (.tuple #[.string (splitP s).1, .string (splitP s).2.1, .nilIface]) ∧ Below w.heap.size w w' := by
  subst hs
  have h := split_p (⟨#[97, 47]⟩ ++ rB 100) w (by decide +kernel); rw [sx1, errV_zero] at h; exact h
theorem sx2 : (splitP (rA 101)).2.2 = 9 := by decide +kernel
theorem sc2 (s : ByteArray) (hs : rA 101 = s) (w : World) : Calls Tryd.prog 28 #[.string s] w fun e w' => e = .returned (.tuple #[.string (splitP s).1, .string (splitP s).2.1, .iface 37 (.int .i64 9)]) ∧ Below w.heap.size w w' := by
  subst hs
  have h := split_p (rA 101) w (by decide +kernel); rw [sx2, errV_some 9 (by decide)] at h; exact h
theorem sx3 : (splitP (⟨#[47]⟩ ++ rB 100)).2.2 = 9 := by decide +kernel
theorem sc3 (s : ByteArray) (hs : ⟨#[47]⟩ ++ rB 100 = s) (w : World) : Calls Tryd.prog 28 #[.string s] w fun e w' => e = .returned (.tuple #[.string (splitP s).1, .string (splitP s).2.1, .iface 37 (.int .i64 9)]) ∧ Below w.heap.size w w' := by
  subst hs
  have h := split_p (⟨#[47]⟩ ++ rB 100) w (by decide +kernel); rw [sx3, errV_some 9 (by decide)] at h; exact h
theorem sx4 : (splitP (rA 155 ++ ⟨#[47]⟩ ++ rB 100)).2.2 = 0 := by decide +kernel
theorem sf4 : (splitP (rA 155 ++ ⟨#[47]⟩ ++ rB 100)).1.size = 155 ∧ (splitP (rA 155 ++ ⟨#[47]⟩ ++ rB 100)).2.1.size = 100 := by decide +kernel
theorem sc4 (s : ByteArray) (hs : rA 155 ++ ⟨#[47]⟩ ++ rB 100 = s) (w : World) : Calls Tryd.prog 28 #[.string s] w fun e w' => e = .returned (.tuple #[.string (splitP s).1, .string (splitP s).2.1, .nilIface]) ∧ Below w.heap.size w w' := by
  subst hs
  have h := split_p (rA 155 ++ ⟨#[47]⟩ ++ rB 100) w (by decide +kernel); rw [sx4, errV_zero] at h; exact h
theorem sx5 : (splitP (rA 156 ++ ⟨#[47]⟩ ++ rB 99)).2.2 = 9 := by decide +kernel
theorem sc5 (s : ByteArray) (hs : rA 156 ++ ⟨#[47]⟩ ++ rB 99 = s) (w : World) : Calls Tryd.prog 28 #[.string s] w fun e w' => e = .returned (.tuple #[.string (splitP s).1, .string (splitP s).2.1, .iface 37 (.int .i64 9)]) ∧ Below w.heap.size w w' := by
  subst hs
  have h := split_p (rA 156 ++ ⟨#[47]⟩ ++ rB 99) w (by decide +kernel); rw [sx5, errV_some 9 (by decide)] at h; exact h
theorem sx6 : (splitP (rA 60 ++ ⟨#[47]⟩ ++ rB 60 ++ ⟨#[47]⟩ ++ rC 60)).2.2 = 0 := by decide +kernel
theorem sf6 : (splitP (rA 60 ++ ⟨#[47]⟩ ++ rB 60 ++ ⟨#[47]⟩ ++ rC 60)).1.size = 121 ∧ (splitP (rA 60 ++ ⟨#[47]⟩ ++ rB 60 ++ ⟨#[47]⟩ ++ rC 60)).2.1 = rC 60 := by decide +kernel
theorem sc6 (s : ByteArray) (hs : rA 60 ++ ⟨#[47]⟩ ++ rB 60 ++ ⟨#[47]⟩ ++ rC 60 = s) (w : World) : Calls Tryd.prog 28 #[.string s] w fun e w' => e = .returned (.tuple #[.string (splitP s).1, .string (splitP s).2.1, .nilIface]) ∧ Below w.heap.size w w' := by
  subst hs
  have h := split_p (rA 60 ++ ⟨#[47]⟩ ++ rB 60 ++ ⟨#[47]⟩ ++ rC 60) w (by decide +kernel); rw [sx6, errV_zero] at h; exact h

set_option maxRecDepth 100000 in
set_option maxHeartbeats 4000000 in
theorem split_k (w : World) (hg : ErrType w) : Calls Tryd.prog 11 #[] w fun e w' => e = .returned (.bool true) ∧ Below w.heap.size w w' := by
  obtain ⟨s0, hs0⟩ : ∃ s, rA 100 = s := ⟨_, rfl⟩
  have k0 := sc0 s0 hs0
  obtain ⟨s1, hs1⟩ : ∃ s, ⟨#[97, 47]⟩ ++ rB 100 = s := ⟨_, rfl⟩
  have k1 := sc1 s1 hs1
  obtain ⟨s2, hs2⟩ : ∃ s, rA 101 = s := ⟨_, rfl⟩
  have k2 := sc2 s2 hs2
  obtain ⟨s3, hs3⟩ : ∃ s, ⟨#[47]⟩ ++ rB 100 = s := ⟨_, rfl⟩
  have k3 := sc3 s3 hs3
  obtain ⟨s4, hs4⟩ : ∃ s, rA 155 ++ ⟨#[47]⟩ ++ rB 100 = s := ⟨_, rfl⟩
  have k4 := sc4 s4 hs4
  obtain ⟨s5, hs5⟩ : ∃ s, rA 156 ++ ⟨#[47]⟩ ++ rB 99 = s := ⟨_, rfl⟩
  have k5 := sc5 s5 hs5
  obtain ⟨s6, hs6⟩ : ∃ s, rA 60 ++ ⟨#[47]⟩ ++ rB 60 ++ ⟨#[47]⟩ ++ rC 60 = s := ⟨_, rfl⟩
  have k6 := sc6 s6 hs6
  have f0 := sf0
  rw [hs0] at f0
  have f1 := sf1
  rw [hs1] at f1
  have f4 := sf4
  rw [hs4] at f4
  have f6 := sf6
  rw [hs6] at f6
  have qa := rA_size
  have qb := rB_size
  have qc := rC_size
  obtain ⟨f00, f01⟩ := f0
  obtain ⟨f10, f11⟩ := f1
  obtain ⟨f40, f41⟩ := f4
  obtain ⟨f60, f61⟩ := f6
  have b0 : Below w.heap.size w w := Below.refl _ _
  have ecc : ((rC 60).toList == (rC 60).toList) = true := by simp
  go_enter Tryd.func11, Tryd.ntmps11
  go_wp2_with fail
  refine (mA 100 _ (by decide)).mono ?_
  rintro e w1 ⟨rfl, hw⟩
  subst hw
  go_wp2_with fail
  refine (k0 _).mono ?_
  rintro e w2 ⟨rfl, b1⟩
  replace b0 := below_join b0 b1
  clear b1
  go_wp2_with fail
  refine (mB 100 _ (by decide)).mono ?_
  rintro e w1 ⟨rfl, hw⟩
  subst hw
  go_wp2_with fail
  refine (k1 _).mono ?_
  rintro e w2 ⟨rfl, b1⟩
  replace b0 := below_join b0 b1
  clear b1
  go_wp2_with fail
  refine (mA 101 _ (by decide)).mono ?_
  rintro e w1 ⟨rfl, hw⟩
  subst hw
  go_wp2_with fail
  refine (k2 _).mono ?_
  rintro e w2 ⟨rfl, b1⟩
  replace b0 := below_join b0 b1
  clear b1
  go_wp2_with fail
  refine (mB 100 _ (by decide)).mono ?_
  rintro e w1 ⟨rfl, hw⟩
  subst hw
  go_wp2_with fail
  refine (k3 _).mono ?_
  rintro e w2 ⟨rfl, b1⟩
  replace b0 := below_join b0 b1
  clear b1
  go_wp2_with fail
  refine (mA 155 _ (by decide)).mono ?_
  rintro e w1 ⟨rfl, hw⟩
  subst hw
  go_wp2_with fail
  refine (mB 100 _ (by decide)).mono ?_
  rintro e w1 ⟨rfl, hw⟩
  subst hw
  go_wp2_with fail
  refine (k4 _).mono ?_
  rintro e w2 ⟨rfl, b1⟩
  replace b0 := below_join b0 b1
  clear b1
  go_wp2_with fail
  refine (mA 156 _ (by decide)).mono ?_
  rintro e w1 ⟨rfl, hw⟩
  subst hw
  go_wp2_with fail
  refine (mB 99 _ (by decide)).mono ?_
  rintro e w1 ⟨rfl, hw⟩
  subst hw
  go_wp2_with fail
  refine (k5 _).mono ?_
  rintro e w2 ⟨rfl, b1⟩
  replace b0 := below_join b0 b1
  clear b1
  go_wp2_with fail
  refine (mA 60 _ (by decide)).mono ?_
  rintro e w1 ⟨rfl, hw⟩
  subst hw
  go_wp2_with fail
  refine (mB 60 _ (by decide)).mono ?_
  rintro e w1 ⟨rfl, hw⟩
  subst hw
  go_wp2_with fail
  refine (mC 60 _ (by decide)).mono ?_
  rintro e w1 ⟨rfl, hw⟩
  subst hw
  go_wp2_with fail
  refine (k6 _).mono ?_
  rintro e w2 ⟨rfl, b1⟩
  replace b0 := below_join b0 b1
  clear b1
  go_wp2_with fail
  refine (plain_some 9 (by decide) (by decide) _ (hg.below b0)).mono ?_
  rintro e w2 ⟨rfl, b1⟩
  replace b0 := below_join b0 b1
  clear b1
  go_wp2_with fail
  refine (plain_some 9 (by decide) (by decide) _ (hg.below b0)).mono ?_
  rintro e w2 ⟨rfl, b1⟩
  replace b0 := below_join b0 b1
  clear b1
  go_wp2_with fail
  refine (plain_some 9 (by decide) (by decide) _ (hg.below b0)).mono ?_
  rintro e w2 ⟨rfl, b1⟩
  replace b0 := below_join b0 b1
  clear b1
  go_wp2_with fail
  refine (mC 60 _ (by decide)).mono ?_
  rintro e w1 ⟨rfl, hw⟩
  subst hw
  go_wp2_with fail
  go_ret
  exact ⟨rfl, b0⟩
end Go.Proofs.YtopglhoobehgcaaDoor
