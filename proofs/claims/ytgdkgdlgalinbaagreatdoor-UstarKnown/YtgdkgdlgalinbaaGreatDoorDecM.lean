/- What Decode answers: nothing of a program. -/
import Derived.Test.YtgdkgdlgalinbaaGreatDoorNumU
import Derived.Test.YtgdkgdlgalinbaaGreatDoorEncM
namespace Go.Proofs.YtgdkgdlgalinbaaGreatDoor
open Go Go.RowKit

def zeroHd : Hd := ⟨⟨#[]⟩, 0, 0, 0, 0, 0, 0, ⟨#[]⟩, ⟨#[]⟩, ⟨#[]⟩, 0, 0⟩
def vk (cs : List UInt8) (k : Nat) : Int := ((numV (fieldL cs (fld k))).1 : Nat)
def okk (cs : List UInt8) (k : Nat) : Bool := (numV (fieldL cs (fld k))).2
/-- A header with its first k numbers. -/
def numHd (cs : List UInt8) (k : Nat) : Hd := ⟨⟨#[]⟩, if 0 < k then vk cs 0 else 0, if 1 < k then vk cs 1 else 0, if 2 < k then vk cs 2 else 0, if 3 < k then vk cs 3 else 0, if 4 < k then vk cs 4 else 0, 0, ⟨#[]⟩, ⟨#[]⟩, ⟨#[]⟩, if 5 < k then vk cs 5 else 0, if 6 < k then vk cs 6 else 0⟩
theorem numHd_step (cs : List UInt8) (k : Nat) (hk : k < 7) : (hcs (numHd cs k)).setIfInBounds (off k) (.int .i64 (vk cs k)) = hcs (numHd cs (k + 1)) := by
  obtain rfl | rfl | rfl | rfl | rfl | rfl | rfl : k = 0 ∨ k = 1 ∨ k = 2 ∨ k = 3 ∨ k = 4 ∨ k = 5 ∨ k = 6 := by omega
  all_goals rfl
def decHd (cs : List UInt8) : Hd := ⟨joinB (bs (textL (fieldL cs 14))) (bs (textL (fieldL cs 0))), vk cs 0, vk cs 1, vk cs 2, vk cs 3, vk cs 4, cs.getD 156 0, bs (textL (fieldL cs 8)), bs (textL (fieldL cs 10)), bs (textL (fieldL cs 11)), vk cs 5, vk cs 6⟩
def okAll (cs : List UInt8) : Bool := okk cs 0 && okk cs 1 && okk cs 2 && okk cs 3 && okk cs 4 && okk cs 5 && okk cs 6
def magicL : List UInt8 := [117, 115, 116, 97, 114, 0, 48, 48]
def decP (s : ByteArray) : Hd × Int :=
  if s.size < 512 then (zeroHd, 2) else if 512 < s.size then (zeroHd, 3) else if fieldL (un s) 9 ≠ magicL then (zeroHd, 4)
  else if okAll (un s) = false then (zeroHd, 6) else if (numV (fieldL (un s) 6)).2 = false then (zeroHd, 6) else if (numV (fieldL (un s) 6)).1 ≠ sumB (un s) then (zeroHd, 7) else (decHd (un s), 0)
theorem textL_length (cs : List UInt8) (f n : Nat) (h : rm f = n) : (textL (fieldL cs f)).length ≤ n := by
  unfold textL fieldL; simp; omega
end Go.Proofs.YtgdkgdlgalinbaaGreatDoor
