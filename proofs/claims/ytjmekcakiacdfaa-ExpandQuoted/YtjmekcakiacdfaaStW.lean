/- Package words' escapeOf; bytes held against each other. -/
import Derived.Test.YtjmekcakiacdfaaBytes
namespace Go.Proofs.Ytjmekcakiacdfaa
open Go Go.RowKit

def escN (c : UInt8) : UInt8 := if c = 96 then 96 else 92
theorem esc_p (c : UInt8) (w : World) : Calls Try.prog 25 #[.int .u8 c.toNat] w fun e w' => e = .returned (.int .u8 (escN c).toNat) ∧ w' = w := by
  have hc : ((c.toNat : Int) == 96) = (decide (c = 96)) := by
    by_cases h : c = 96
    · subst h; rfl
    · have : c.toNat ≠ 96 := fun e => h (UInt8.toNat_inj.1 e)
      simp [h]; omega
  unfold escN
  by_cases h : c = 96
  · subst h
    go_enter Try.func25, Try.ntmps25
    go_wp2
    go_ret
    exact ⟨rfl, rfl⟩
  · rw [if_neg h]
    rw [decide_eq_false h] at hc
    go_enter Try.func25, Try.ntmps25
    go_wp2
    go_ret
    exact ⟨rfl, rfl⟩
theorem beq_u8 (b : UInt8) (n : Nat) (hn : n < 256) : ((b.toNat : Int) == (n : Int)) = decide (b = UInt8.ofNat n) := by
  by_cases h : b = UInt8.ofNat n
  · subst h; simp [UInt8.toNat_ofNat']; omega
  · have : b.toNat ≠ n := fun e => h (by rw [← e]; simp)
    rw [decide_eq_false h]; simp; omega
theorem beq_u88 (b c : UInt8) : ((b.toNat : Int) == (c.toNat : Int)) = decide (b = c) := by
  by_cases h : b = c
  · subst h; simp
  · have : b.toNat ≠ c.toNat := fun e => h (UInt8.toNat_inj.1 e)
    rw [decide_eq_false h]; simp; omega
end Go.Proofs.Ytjmekcakiacdfaa
