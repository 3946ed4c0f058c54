/- The sum of a text, bit by bit and by four bits at once: nothing of a program. -/
import Derived.Test.YtcoinfancoeepabDoorSpec
import Derived.Laws.Bits64
namespace Go.Proofs.YtcoinfancoeepabDoor
open Go

def polyN : Nat := 3988292384
/-- One bit falls out. -/
def bit1 (r : Nat) : Nat := if r % 2 = 1 then (r / 2) ^^^ polyN else r / 2
def bit4 (r : Nat) : Nat := bit1 (bit1 (bit1 (bit1 r)))
def crcTab : List Nat := [0x00000000, 0x1db71064, 0x3b6e20c8, 0x26d930ac, 0x76dc4190, 0x6b6b51f4, 0x4db26158, 0x5005713c, 0xedb88320, 0xf00f9344, 0xd6d6a3e8, 0xcb61b38c, 0x9b64c2b0, 0x86d3d2d4, 0xa00ae278, 0xbdbdf21c]
def step4 (r : Nat) : Nat := r / 16 ^^^ crcTab.getD (r % 16) 0
theorem xor_mod2 (a b : Nat) : (a ^^^ b) % 2 = (a % 2 + b % 2) % 2 := by
  have h : (a ^^^ b) % 2 = (a % 2) ^^^ (b % 2) := by
    rw [show (2 : Nat) = 2 ^ 1 from rfl, Nat.xor_mod_two_pow]
  rw [h]
  rcases Nat.mod_two_eq_zero_or_one a with ha | ha <;> rcases Nat.mod_two_eq_zero_or_one b with hb | hb <;> rw [ha, hb] <;> rfl
theorem xor_div2 (a b : Nat) : (a ^^^ b) / 2 = (a / 2) ^^^ (b / 2) := by
  have := Nat.shiftRight_xor_distrib (a := a) (b := b) (i := 1)
  simpa [Nat.shiftRight_eq_div_pow] using this
theorem bit1_xor (a b : Nat) : bit1 (a ^^^ b) = bit1 a ^^^ bit1 b := by
  unfold bit1
  rw [xor_mod2, xor_div2]
  rcases Nat.mod_two_eq_zero_or_one a with ha | ha <;> rcases Nat.mod_two_eq_zero_or_one b with hb | hb <;> rw [ha, hb] <;> simp
  · rw [Nat.xor_assoc]
  · rw [Nat.xor_assoc, Nat.xor_assoc, Nat.xor_comm (b / 2)]
  · rw [Nat.xor_assoc, ← Nat.xor_assoc polyN, Nat.xor_comm polyN (b / 2), Nat.xor_assoc, Nat.xor_self, Nat.xor_zero]
theorem bit4_xor (a b : Nat) : bit4 (a ^^^ b) = bit4 a ^^^ bit4 b := by unfold bit4; rw [bit1_xor, bit1_xor, bit1_xor, bit1_xor]
theorem bit4_hi (q : Nat) : bit4 (16 * q) = q := by
  have h1 : bit1 (16 * q) = 8 * q := by unfold bit1; rw [if_neg (by omega)]; omega
  have h2 : bit1 (8 * q) = 4 * q := by unfold bit1; rw [if_neg (by omega)]; omega
  have h3 : bit1 (4 * q) = 2 * q := by unfold bit1; rw [if_neg (by omega)]; omega
  have h4 : bit1 (2 * q) = q := by unfold bit1; rw [if_neg (by omega)]; omega
  unfold bit4; rw [h1, h2, h3, h4]
theorem bit4_lo : ∀ k, k < 16 → bit4 k = crcTab.getD k 0 := by decide
theorem hi_lo (r : Nat) : r = 16 * (r / 16) ^^^ r % 16 := by
  have h := Nat.two_pow_add_eq_or_of_lt (i := 4) (b := r % 16) (Nat.mod_lt _ (by decide)) (r / 16)
  have h2 : 16 * (r / 16) ^^^ r % 16 = 16 * (r / 16) ||| r % 16 := by
    apply Nat.eq_of_testBit_eq
    intro i
    rw [Nat.testBit_xor, Nat.testBit_or]
    by_cases hi : i < 4
    · have : (16 * (r / 16)).testBit i = false := by
        rw [show 16 * (r / 16) = 2 ^ 4 * (r / 16) from rfl, Nat.testBit_two_pow_mul]; simp; omega
      rw [this]; simp
    · have : (r % 16).testBit i = false := Nat.testBit_lt_two_pow (Nat.lt_of_lt_of_le (Nat.mod_lt _ (by decide)) (show 2 ^ 4 ≤ 2 ^ i from Nat.pow_le_pow_right (by decide) (by omega)))
      rw [this]; simp
  rw [h2, show (16 : Nat) = 2 ^ 4 from rfl, ← h]
  have := Nat.div_add_mod r 16
  omega
theorem step4_eq (r : Nat) : step4 r = bit4 r := by
  conv => rhs; rw [hi_lo r]
  rw [bit4_xor, bit4_hi, bit4_lo _ (Nat.mod_lt _ (by decide))]; rfl
theorem xor_lt32 {a b : Nat} (ha : a < 4294967296) (hb : b < 4294967296) : a ^^^ b < 4294967296 := Nat.xor_lt_two_pow (n := 32) ha hb
theorem bit1_lt {r : Nat} (h : r < 4294967296) : bit1 r < 4294967296 := by
  unfold bit1
  split
  · exact xor_lt32 (by omega) (by decide)
  · omega
/-- What a byte does to a sum. -/
def crcByte (r : Nat) (c : UInt8) : Nat := bit4 (bit4 (r ^^^ c.toNat))
theorem crcByte_lt {r : Nat} (h : r < 4294967296) (c : UInt8) : crcByte r c < 4294967296 := by
  have h0 : r ^^^ c.toNat < 4294967296 := xor_lt32 h (by have := c.toNat_lt; omega)
  unfold crcByte bit4
  exact bit1_lt (bit1_lt (bit1_lt (bit1_lt (bit1_lt (bit1_lt (bit1_lt (bit1_lt h0)))))))
def crcRun (r : Nat) (l : List UInt8) : Nat := l.foldl crcByte r
def crcN (l : List UInt8) : Nat := crcRun 4294967295 l ^^^ 4294967295
theorem crcRun_lt : ∀ (l : List UInt8) {r : Nat}, r < 4294967296 → crcRun r l < 4294967296
  | [], _, h => h
  | c :: l, _, h => crcRun_lt l (crcByte_lt h c)
theorem crcRun_snoc (r : Nat) (l : List UInt8) (c : UInt8) : crcRun r (l ++ [c]) = crcByte (crcRun r l) c := by unfold crcRun; rw [List.foldl_append]; rfl
theorem wrap32 (n : Int) : IntKind.u32.wrap n = n % 4294967296 := by simp [IntKind.wrap, IntKind.bits, IntKind.signed]
/-- The model's own operations at numbers of 32 bits. -/
theorem bx32 (a b : Nat) (ha : a < 4294967296) (hb : b < 4294967296) : bits .xor .u32 (a : Int) (b : Int) = ((a ^^^ b : Nat) : Int) := by
  have hx : a ^^^ b < 4294967296 := xor_lt32 ha hb
  have h1 : (BitVec.ofInt 32 (a : Int)).toNat = a := by
    rw [BitVec.ofInt_natCast, BitVec.toNat_ofNat]; exact Nat.mod_eq_of_lt (by omega)
  have h2 : (BitVec.ofInt 32 (b : Int)).toNat = b := by
    rw [BitVec.ofInt_natCast, BitVec.toNat_ofNat]; exact Nat.mod_eq_of_lt (by omega)
  show IntKind.u32.wrap ((BitVec.ofInt 32 (a : Int) ^^^ BitVec.ofInt 32 (b : Int)).toNat : Int) = _
  rw [BitVec.toNat_xor, h1, h2, wrap32]
  omega
theorem ba32 (a : Nat) (ha : a < 4294967296) : bits .and .u32 (a : Int) 15 = ((a % 16 : Nat) : Int) := by
  have h1 : (BitVec.ofInt 32 (a : Int)).toNat = a := by
    rw [BitVec.ofInt_natCast, BitVec.toNat_ofNat]; exact Nat.mod_eq_of_lt (by omega)
  have h2 : (BitVec.ofInt 32 15).toNat = 15 := rfl
  show IntKind.u32.wrap ((BitVec.ofInt 32 (a : Int) &&& BitVec.ofInt 32 15).toNat : Int) = _
  rw [BitVec.toNat_and, h1, h2, show (15 : Nat) = 2 ^ 4 - 1 from rfl, Nat.and_two_pow_sub_one_eq_mod, wrap32]
  omega
end Go.Proofs.YtcoinfancoeepabDoor
