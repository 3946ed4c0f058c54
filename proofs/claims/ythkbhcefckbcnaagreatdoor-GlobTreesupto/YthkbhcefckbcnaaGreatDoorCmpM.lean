/- The order of paths, without a program. (Out of strata01's Compare.) -/
import Derived.Test.YthkbhcefckbcnaaGreatDoorSpec
namespace Go.Proofs.YthkbhcefckbcnaaGreatDoor
open Go

theorem compareBytes_self : ∀ l : List UInt8, Lib.compareBytes l l = 0
  | [] => rfl
  | c :: l => by simp [Lib.compareBytes, compareBytes_self l]
theorem compareBytes_zero : ∀ a b : List UInt8, Lib.compareBytes a b = 0 → a = b
  | [], [], _ => rfl
  | [], _ :: _, h => by simp [Lib.compareBytes] at h
  | _ :: _, [], h => by simp [Lib.compareBytes] at h
  | x :: a, y :: b, h => by
    unfold Lib.compareBytes at h
    by_cases h1 : x < y
    · simp [h1] at h
    · by_cases h2 : y < x
      · simp [h1, h2] at h
      · simp only [h1, h2, if_false] at h
        have : x = y := by
          have a1 : ¬ x.toNat < y.toNat := h1
          have a2 : ¬ y.toNat < x.toNat := h2
          exact UInt8.toNat_inj.1 (by omega)
        rw [this, compareBytes_zero a b h]
def cmpB (x y : ByteArray) : Int := Lib.compareBytes (un x) (un y)
theorem cmpB_self (x : ByteArray) : cmpB x x = 0 := compareBytes_self _
theorem cmpB_zero {x y : ByteArray} (h : cmpB x y = 0) : x = y := un_inj (compareBytes_zero _ _ h)
def compareP : List ByteArray → List ByteArray → Int
  | [], [] => 0
  | [], _ :: _ => -1
  | _ :: _, [] => 1
  | x :: xs, y :: ys => if cmpB x y = 0 then compareP xs ys else cmpB x y
theorem compareP_same : ∀ (pre xs ys : List ByteArray), compareP (pre ++ xs) (pre ++ ys) = compareP xs ys
  | [], _, _ => rfl
  | x :: pre, xs, ys => by simp [compareP, cmpB_self, compareP_same pre xs ys]
def compareN (a b : ByteArray) : Int := compareP (piecesB a) (piecesB b)
end Go.Proofs.YthkbhcefckbcnaaGreatDoor
