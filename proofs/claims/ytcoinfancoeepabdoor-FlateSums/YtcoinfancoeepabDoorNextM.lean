/- A symbol read bit by bit: nothing of a program. -/
import Derived.Test.YtcoinfancoeepabDoorCodeN
namespace Go.Proofs.YtcoinfancoeepabDoor
open Go

/-- Value, first, place behind j bits that were no symbol. -/
def nx (cs : List Nat) (s : ByteArray) (a : Nat) : Nat → Nat × Nat × Nat
  | 0 => (0, 0, 0)
  | j + 1 => (2 * (nx cs s a j).1 + bitN s (a + j), 2 * ((nx cs s a j).2.1 + cs.getD (j + 1) 0), (nx cs s a j).2.2 + cs.getD (j + 1) 0)
def nxV (cs : List Nat) (s : ByteArray) (a j : Nat) : Nat := 2 * (nx cs s a j).1 + bitN s (a + j)
def nxF (cs : List Nat) (s : ByteArray) (a j : Nat) : Nat := (nx cs s a j).2.1 + cs.getD (j + 1) 0
theorem nx_v (cs : List Nat) (s : ByteArray) (a : Nat) : ∀ j, (nx cs s a j).1 < 2 ^ j
  | 0 => by simp [nx]
  | j + 1 => by
    have h1 := nx_v cs s a j
    have h2 := bitN_lt s (a + j)
    rw [nx, Nat.pow_succ]; show 2 * (nx cs s a j).1 + bitN s (a + j) < _; omega
theorem nx_f (cs : List Nat) (s : ByteArray) (a n : Nat) (h : ∀ j, cs.getD j 0 ≤ n) : ∀ j, (nx cs s a j).2.1 + 2 * n ≤ 2 * n * 2 ^ j
  | 0 => by simp [nx]
  | j + 1 => by
    have h1 := nx_f cs s a n h j
    have h2 := h (j + 1)
    rw [nx, Nat.pow_succ]
    show 2 * ((nx cs s a j).2.1 + cs.getD (j + 1) 0) + 2 * n ≤ 2 * n * (2 ^ j * 2)
    have : 2 * n * (2 ^ j * 2) = 2 * (2 * n * 2 ^ j) := by rw [← Nat.mul_assoc]; omega
    omega
theorem nx_p (cs : List Nat) (s : ByteArray) (a n : Nat) (h : ∀ j, cs.getD j 0 ≤ n) : ∀ j, (nx cs s a j).2.2 ≤ n * j
  | 0 => by simp [nx]
  | j + 1 => by
    have h1 := nx_p cs s a n h j
    have h2 := h (j + 1)
    rw [nx]; show (nx cs s a j).2.2 + cs.getD (j + 1) 0 ≤ n * (j + 1)
    rw [Nat.mul_add, Nat.mul_one]; omega
theorem bor1 (v b : Nat) (hv : v < 1152921504606846976) (hb : b < 2) : bits .or .i64 ((2 * v : Nat) : Int) (b : Int) = ((2 * v + b : Nat) : Int) := by
  show IntKind.i64.wrap ((BitVec.ofInt 64 ((2 * v : Nat) : Int) ||| BitVec.ofInt 64 (b : Int)).toNat : Int) = _
  rw [BitVec.toNat_or, toNat64 _ (by omega), toNat64 _ (by omega)]
  have e : 2 * v ||| b = 2 * v + b := by
    rw [show (2 : Nat) * v = 2 ^ 1 * v from rfl, ← Nat.two_pow_add_eq_or_of_lt (i := 1) hb v]
  rw [e, wrap64 _ (by omega)]
end Go.Proofs.YtcoinfancoeepabDoor
