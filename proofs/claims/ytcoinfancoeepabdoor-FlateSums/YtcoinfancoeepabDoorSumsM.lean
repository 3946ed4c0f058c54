/- The sum of texts laid one over another: nothing of a program. -/
import Derived.Test.YtcoinfancoeepabDoorCrcM
import Derived.Laws.BitsAllLaws
namespace Go.Proofs.YtcoinfancoeepabDoor
open Go

theorem crcByte_xor (r q : Nat) (c d : UInt8) : crcByte (r ^^^ q) (c ^^^ d) = crcByte r c ^^^ crcByte q d := by
  unfold crcByte
  rw [UInt8.toNat_xor, show r ^^^ q ^^^ (c.toNat ^^^ d.toNat) = (r ^^^ c.toNat) ^^^ (q ^^^ d.toNat) by
    rw [Nat.xor_assoc, ← Nat.xor_assoc q, Nat.xor_comm q, Nat.xor_assoc, ← Nat.xor_assoc r], bit4_xor, bit4_xor]
/-- Three texts one over another, as far as k. -/
def over (a b c : List UInt8) (k : Nat) : List UInt8 := (List.range k).map fun i => a.getD i 0 ^^^ b.getD i 0 ^^^ c.getD i 0
theorem over_length (a b c : List UInt8) (k : Nat) : (over a b c k).length = k := by simp [over]
theorem over_succ (a b c : List UInt8) (k : Nat) : over a b c (k + 1) = over a b c k ++ [a.getD k 0 ^^^ b.getD k 0 ^^^ c.getD k 0] := by simp [over, List.range_succ]
theorem take_snoc (a : List UInt8) (k : Nat) (h : k < a.length) : a.take (k + 1) = a.take k ++ [a.getD k 0] := by
  rw [List.take_succ_eq_append_getElem h, List.getD_eq_getElem?_getD, List.getElem?_eq_getElem h]; rfl
theorem over_run (a b c : List UInt8) (r : Nat) : ∀ k, k ≤ a.length → k ≤ b.length → k ≤ c.length →
    crcRun r (over a b c k) = crcRun r (a.take k) ^^^ crcRun r (b.take k) ^^^ crcRun r (c.take k)
  | 0, _, _, _ => by
    show r = r ^^^ r ^^^ r
    rw [Nat.xor_self, Nat.zero_xor]
  | k + 1, ha, hb, hc => by
    rw [over_succ, take_snoc a k (by omega), take_snoc b k (by omega), take_snoc c k (by omega), crcRun_snoc, crcRun_snoc, crcRun_snoc, crcRun_snoc, over_run a b c r k (by omega) (by omega) (by omega), crcByte_xor, crcByte_xor]
theorem xor_four (A B C F : Nat) : A ^^^ B ^^^ C ^^^ F = (A ^^^ F) ^^^ (B ^^^ F) ^^^ (C ^^^ F) := by
  apply Nat.eq_of_testBit_eq
  intro i
  simp only [Nat.testBit_xor]
  cases A.testBit i <;> cases B.testBit i <;> cases C.testBit i <;> cases F.testBit i <;> rfl
theorem over_crc (a b c : List UInt8) (k : Nat) (ha : k ≤ a.length) (hb : k ≤ b.length) (hc : k ≤ c.length) :
    crcN (over a b c k) = crcN (a.take k) ^^^ crcN (b.take k) ^^^ crcN (c.take k) := by
  unfold crcN
  rw [over_run a b c _ k ha hb hc, xor_four]
theorem crcN_lt (l : List UInt8) : crcN l < 4294967296 := xor_lt32 (crcRun_lt l (by decide)) (by decide)
theorem bx8 (x y : UInt8) : bits .xor .u8 (x.toNat : Int) (y.toNat : Int) = ((x ^^^ y).toNat : Int) := by
  rw [UInt8.toNat_xor]
  exact u8_xor_nat _ _ x.toNat_lt y.toNat_lt
theorem over_set (a b c : List UInt8) (n k : Nat) (h : k < n) :
    (over a b c k ++ List.replicate (n - k) 0).set k (a.getD k 0 ^^^ b.getD k 0 ^^^ c.getD k 0) = over a b c (k + 1) ++ List.replicate (n - (k + 1)) 0 := by
  have hl := over_length a b c k
  rw [over_succ, List.set_append_right _ _ (by omega), hl, Nat.sub_self, show n - k = (n - (k + 1)) + 1 by omega, List.replicate_succ, List.set_cons_zero]
  simp
theorem run_min4 {P : Program} {w : World} (ts : Array TypeId) (t : TypeId) (a b c : Nat) : (Builtin.min_ ts t #[.int .i64 a, .int .i64 b, .int .i64 c, .int .i64 1048576]).run P w = .ok (.int .i64 (Nat.min (Nat.min (Nat.min a b) c) 1048576 : Nat)) w := by
  simp [Builtin.min_, Builtin.min2]
  (repeat' split) <;> omega
end Go.Proofs.YtcoinfancoeepabDoor
