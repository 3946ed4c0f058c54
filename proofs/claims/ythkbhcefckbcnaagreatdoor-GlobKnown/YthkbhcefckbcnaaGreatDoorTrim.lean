/- strings.Trim of any text at the three blanks of a list's line. -/
import Derived.Test.YthkbhcefckbcnaaGreatDoorTrimS
import Derived.Test.YthkbhcefckbcnaaGreatDoorSpec
import Derived.WalkKit
namespace Go.Proofs.YthkbhcefckbcnaaGreatDoor
open Go.RowKit

/-- A text without the blanks at both ends. -/
def trimB (s : ByteArray) : ByteArray := bs (Lib.trimS (un s) [32, 9, 13])
theorem trim_p (s : ByteArray) (w : World) (hs : s.size ≤ 9223372036854775807) :
    Calls Tryz.prog 56 #[.string s, .string ⟨#[32, 9, 13]⟩] w fun e w' => e = .returned (.string (trimB s)) ∧ Below w.heap.size w w' :=
  Any.strings_Trim_laid Tryz.lays160 (by kernel_rfl) s ⟨#[32, 9, 13]⟩ w hs (by decide) (ascii_of_all (by decide))
theorem trimB_size (s : ByteArray) : (trimB s).size ≤ s.size := by
  unfold trimB
  rw [size_bs, ← un_length]
  unfold Lib.trimS Lib.trimLeftS Lib.trimRightS
  refine Nat.le_trans ((List.dropWhile_sublist _).length_le) ?_
  rw [List.length_reverse]
  exact Nat.le_trans ((List.dropWhile_sublist _).length_le) (by rw [List.length_reverse]; exact Nat.le_refl _)
end Go.Proofs.YthkbhcefckbcnaaGreatDoor
