/- Bytes held against each other. -/
import Derived.Test.YtjgijbeedgggdaaGreatDoorBytes
namespace Go.Proofs.YtjgijbeedgggdaaGreatDoor
open Go Go.RowKit

theorem beq_b8 (b : UInt8) (n : Nat) (hn : n < 256) : ((b.toNat : Int) == (n : Int)) = decide (b = UInt8.ofNat n) := by
  by_cases h : b = UInt8.ofNat n
  · subst h; simp [UInt8.toNat_ofNat']; omega
  · have : b.toNat ≠ n := fun e => h (by rw [← e]; simp)
    rw [decide_eq_false h]; simp; omega
theorem beq_b88 (b c : UInt8) : ((b.toNat : Int) == (c.toNat : Int)) = decide (b = c) := by
  by_cases h : b = c
  · subst h; simp
  · have : b.toNat ≠ c.toNat := fun e => h (UInt8.toNat_inj.1 e)
    rw [decide_eq_false h]; simp; omega
end Go.Proofs.YtjgijbeedgggdaaGreatDoor
