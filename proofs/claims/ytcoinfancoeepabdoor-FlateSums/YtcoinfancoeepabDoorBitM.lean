/- Bits of a text, the lowest of the first byte first: nothing of a program. -/
import Derived.Test.YtcoinfancoeepabDoorCrcM
namespace Go.Proofs.YtcoinfancoeepabDoor
open Go

def bitN (s : ByteArray) (a : Nat) : Nat := ((un s).getD (a / 8) 0).toNat / 2 ^ (a % 8) % 2
def bitsN (s : ByteArray) (a : Nat) : Nat → Nat
  | 0 => 0
  | k + 1 => bitsN s a k + bitN s (a + k) * 2 ^ k
theorem bitN_lt (s : ByteArray) (a : Nat) : bitN s a < 2 := Nat.mod_lt _ (by decide)
theorem bitsN_lt (s : ByteArray) (a : Nat) : ∀ k, bitsN s a k < 2 ^ k
  | 0 => by simp [bitsN]
  | k + 1 => by
    have h1 := bitsN_lt s a k
    have h2 := bitN_lt s (a + k)
    have h3 : bitN s (a + k) * 2 ^ k ≤ 1 * 2 ^ k := Nat.mul_le_mul_right _ (by omega)
    rw [bitsN, Nat.pow_succ]; omega
theorem wrap64 (n : Nat) (h : n < 9223372036854775808) : IntKind.i64.wrap (n : Int) = (n : Int) := by
  simp only [IntKind.wrap, IntKind.bits, IntKind.signed]
  simp
  omega
theorem wrapZ (x : Int) (h : -9223372036854775808 ≤ x ∧ x ≤ 9223372036854775807) : IntKind.i64.wrap x = x := by
  simp only [IntKind.wrap, IntKind.bits, IntKind.signed]
  simp
  split <;> omega
theorem toNat64 (a : Nat) (h : a < 9223372036854775808) : (BitVec.ofInt 64 (a : Int)).toNat = a := by
  rw [BitVec.ofInt_natCast, BitVec.toNat_ofNat]; exact Nat.mod_eq_of_lt (by omega)
theorem ba7 (a : Nat) (h : a < 9223372036854775808) : bits .and .i64 (a : Int) 7 = ((a % 8 : Nat) : Int) := by
  show IntKind.i64.wrap ((BitVec.ofInt 64 (a : Int) &&& BitVec.ofInt 64 7).toNat : Int) = _
  rw [BitVec.toNat_and, toNat64 a h, show (BitVec.ofInt 64 7).toNat = 2 ^ 3 - 1 from rfl, Nat.and_two_pow_sub_one_eq_mod, wrap64 _ (by omega)]
theorem ba1_8 (a : Nat) (h : a < 256) : bits .and .u8 (a : Int) 1 = ((a % 2 : Nat) : Int) := by
  have h1 : (BitVec.ofInt 8 (a : Int)).toNat = a := by
    rw [BitVec.ofInt_natCast, BitVec.toNat_ofNat]; exact Nat.mod_eq_of_lt (by omega)
  show IntKind.u8.wrap ((BitVec.ofInt 8 (a : Int) &&& BitVec.ofInt 8 1).toNat : Int) = _
  rw [BitVec.toNat_and, h1, show (BitVec.ofInt 8 1).toNat = 2 ^ 1 - 1 from rfl, Nat.and_two_pow_sub_one_eq_mod]
  simp [IntKind.wrap, IntKind.bits, IntKind.signed]
  omega
theorem bor64 (v b k : Nat) (hv : v < 2 ^ k) (hk : k ≤ 60) (hb : b < 2) : bits .or .i64 (v : Int) ((b * 2 ^ k : Nat) : Int) = ((v + b * 2 ^ k : Nat) : Int) := by
  have hp : 2 ^ k ≤ 2 ^ 60 := Nat.pow_le_pow_right (by decide) hk
  have h3 : b * 2 ^ k ≤ 1 * 2 ^ k := Nat.mul_le_mul_right _ (by omega)
  have h60 : (2 : Nat) ^ 60 = 1152921504606846976 := by decide
  show IntKind.i64.wrap ((BitVec.ofInt 64 (v : Int) ||| BitVec.ofInt 64 ((b * 2 ^ k : Nat) : Int)).toNat : Int) = _
  rw [BitVec.toNat_or, toNat64 v (by omega), toNat64 _ (by omega)]
  have e : v ||| b * 2 ^ k = v + b * 2 ^ k := by
    rw [Nat.or_comm, Nat.mul_comm b, ← Nat.two_pow_add_eq_or_of_lt hv b]; omega
  rw [e, wrap64 _ (by omega)]
end Go.Proofs.YtcoinfancoeepabDoor
