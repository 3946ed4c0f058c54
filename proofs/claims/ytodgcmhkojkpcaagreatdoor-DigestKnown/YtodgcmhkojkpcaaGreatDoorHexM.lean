/- Digits to the base 16, there and back. Nothing of a program. -/
import Derived.Test.YtodgcmhkojkpcaaGreatDoorBytes
namespace Go.Proofs.YtodgcmhkojkpcaaGreatDoor

def digs : List UInt8 := [48, 49, 50, 51, 52, 53, 54, 55, 56, 57, 97, 98, 99, 100, 101, 102]
def dig (n : Nat) : UInt8 := digs.getD n 0
def hexL (l : List UInt8) : List UInt8 := l.flatMap fun b => [dig (b.toNat / 16), dig (b.toNat % 16)]
def kindL : List UInt8 := [115, 104, 97, 50, 53, 54, 58]
def textL (l : List UInt8) : List UInt8 := kindL ++ hexL l
theorem hexL_length (l : List UInt8) : (hexL l).length = 2 * l.length := by
  induction l with
  | nil => rfl
  | cons b l ih => simp [hexL, List.flatMap_cons] at ih ⊢; omega
theorem hexL_append (a b : List UInt8) : hexL (a ++ b) = hexL a ++ hexL b := by simp [hexL]
theorem hexL_snoc (l : List UInt8) (k : Nat) (h : k < l.length) : hexL (l.take (k + 1)) = hexL (l.take k) ++ [dig (l[k].toNat / 16), dig (l[k].toNat % 16)] := by
  rw [List.take_add_one, List.getElem?_eq_getElem h, hexL_append]; rfl
theorem hexL_get : ∀ (l : List UInt8) (k : Nat) (h : k < l.length), (hexL l)[2 * k]? = some (dig (l[k].toNat / 16)) ∧ (hexL l)[2 * k + 1]? = some (dig (l[k].toNat % 16))
  | [], _, h => by simp at h
  | b :: l, 0, _ => ⟨rfl, rfl⟩
  | b :: l, k + 1, h => by
    have ih := hexL_get l k (by simpa using h)
    have e : hexL (b :: l) = dig (b.toNat / 16) :: dig (b.toNat % 16) :: hexL l := rfl
    rw [e, show 2 * (k + 1) = 2 * k + 1 + 1 by omega]
    simpa using ih
/-- A digit's number, or -1. -/
def val (c : UInt8) : Int := Lib.indexByte digs c
theorem val_dig : ∀ n : Fin 16, val (dig n.val) = n.val := by decide +kernel
theorem val_dig' (n : Nat) (h : n < 16) : val (dig n) = n := val_dig ⟨n, h⟩
theorem dig_lt : ∀ n : Fin 16, (dig n.val).toNat < 128 := by decide +kernel
theorem dig_extract (n : Nat) (h : n < 16) : un ((⟨#[48, 49, 50, 51, 52, 53, 54, 55, 56, 57, 97, 98, 99, 100, 101, 102]⟩ : ByteArray).extract n (n + 1)) = [dig n] := by
  have : ∀ n : Fin 16, un ((⟨#[48, 49, 50, 51, 52, 53, 54, 55, 56, 57, 97, 98, 99, 100, 101, 102]⟩ : ByteArray).extract n.val (n.val + 1)) = [dig n.val] := by decide +kernel
  exact this ⟨n, h⟩
theorem dig_at (n : Nat) (h2 : n < (⟨#[48, 49, 50, 51, 52, 53, 54, 55, 56, 57, 97, 98, 99, 100, 101, 102]⟩ : ByteArray).size) : (⟨#[48, 49, 50, 51, 52, 53, 54, 55, 56, 57, 97, 98, 99, 100, 101, 102]⟩ : ByteArray)[n]'h2 = dig n := by
  have hd : digs = un ⟨#[48, 49, 50, 51, 52, 53, 54, 55, 56, 57, 97, 98, 99, 100, 101, 102]⟩ := rfl
  have := un_getElem? _ n h2
  unfold dig
  rw [List.getD_eq_getElem?_getD, hd, this]; rfl
theorem val_range (c : UInt8) : -1 ≤ val c ∧ val c < 16 := by
  have : ∀ n : Fin 256, -1 ≤ val (UInt8.ofNat n.val) ∧ val (UInt8.ofNat n.val) < 16 := by decide +kernel
  have h := this ⟨c.toNat, c.toNat_lt⟩
  simpa using h
/-- The first k pairs of digits, as bytes. -/
def upTo (r : List UInt8) : Nat → Option (List UInt8)
  | 0 => some []
  | k + 1 => match upTo r k with
    | none => none
    | some d => if val (r.getD (2 * k) 0) < 0 ∨ val (r.getD (2 * k + 1) 0) < 0 then none else some (d ++ [UInt8.ofNat ((val (r.getD (2 * k) 0)).toNat * 16 + (val (r.getD (2 * k + 1) 0)).toNat)])
theorem upTo_none {r : List UInt8} {k : Nat} (h : upTo r k = none) : ∀ n, k ≤ n → upTo r n = none
  | 0, hn => by obtain rfl : k = 0 := by omega
                exact h
  | n + 1, hn => by
    rcases Nat.lt_or_ge k (n + 1) with h1 | h1
    · unfold upTo; rw [upTo_none h n (by omega)]
    · obtain rfl : k = n + 1 := by omega
      exact h
theorem upTo_length {r : List UInt8} : ∀ {k : Nat} {d : List UInt8}, upTo r k = some d → d.length = k
  | 0, d, h => by simp [upTo] at h; subst h; rfl
  | k + 1, d, h => by
    unfold upTo at h
    split at h
    · cases h
    · rename_i d0 h0
      have := upTo_length h0
      split at h
      · cases h
      · cases h; simp; omega
/-- The digest that a text tells. -/
def parseL (s : List UInt8) : Option (List UInt8) := if Lib.hasPrefix s kindL = true ∧ (s.drop 7).length = 64 then upTo (s.drop 7) 32 else none
theorem pair_byte (b : UInt8) : UInt8.ofNat (b.toNat / 16 * 16 + b.toNat % 16) = b := by
  rw [Nat.div_add_mod']; simp
theorem upTo_hex (l : List UInt8) : ∀ k, k ≤ l.length → upTo (hexL l) k = some (l.take k)
  | 0, _ => by simp [upTo]
  | k + 1, hk => by
    have hk2 : k < l.length := by omega
    obtain ⟨h1, h2⟩ := hexL_get l k hk2
    unfold upTo
    rw [upTo_hex l k (by omega)]
    simp only [List.getD_eq_getElem?_getD, h1, h2, Option.getD_some]
    have v1 := val_dig' (l[k].toNat / 16) (by have := l[k].toNat_lt; omega)
    have v2 := val_dig' (l[k].toNat % 16) (by omega)
    rw [v1, v2, if_neg (by omega), List.take_add_one, List.getElem?_eq_getElem hk2]
    simp only [Int.toNat_natCast, pair_byte, Option.toList_some]
theorem parse_text (l : List UInt8) (hl : l.length = 32) : parseL (textL l) = some l := by
  have h1 : (textL l).drop 7 = hexL l := rfl
  unfold parseL
  rw [h1, hexL_length, hl, if_pos ⟨by simp [Lib.hasPrefix, textL, kindL], rfl⟩, upTo_hex l 32 (by omega), ← hl, List.take_length]
end Go.Proofs.YtodgcmhkojkpcaaGreatDoor
