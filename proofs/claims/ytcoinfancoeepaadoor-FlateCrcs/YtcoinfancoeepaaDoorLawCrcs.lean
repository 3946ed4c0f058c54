/- FlateCrcs: the sum of every text is the document's. -/
import Derived.Test.YtcoinfancoeepaaDoorWorksF
namespace Go.Proofs.YtcoinfancoeepaaDoor
open Go Go.RowKit

set_option maxRecDepth 100000 in
theorem crcs_law (s : ByteArray) (hs : s.size ≤ 9223372036854775806) (w : World) (hT : CrcAt w) : Calls Tryd.prog 4 #[.string s] w fun e w' => e = .returned (.bool true) ∧ Below w.heap.size w w' := by
  by_cases hb : (1048576 : Int) < (s.size : Int)
  · go_enter Tryd.func4, Tryd.ntmps4
    go_wp2
    go_ret
    exact ⟨rfl, Below.refl _ _⟩
  · have HC : Hid (Calls Tryd.prog 10 #[.string s] w fun e w' => e = .returned (.int .u32 (crcN (un s) : Nat)) ∧ w' = w) := crc_p s hs w hT
    have HR : Hid (Calls Tryd.prog 11 #[.string s] w fun e w' => e = .returned (.int .u32 (crcN (un s) : Nat)) ∧ w' = w) := crc_r s hs w
    generalize crcN (un s) = C at HC HR
    go_enter Tryd.func4, Tryd.ntmps4
    go_wp2_with (first
      | (go_at_call 10; refine HC.out.mono ?_; rintro e w2 ⟨rfl, hw⟩; have hw' := hw.symm; clear hw; subst hw')
      | (go_at_call 11; refine HR.out.mono ?_; rintro e w3 ⟨rfl, hw⟩; have hw' := hw.symm; clear hw; subst hw')
      | (go_at_call 9; refine (works_f w hT).mono ?_; rintro e w4 ⟨rfl, b4⟩))
    go_ret
    first
      | exact ⟨rfl, b4⟩
      | exact ⟨by simp, b4⟩
end Go.Proofs.YtcoinfancoeepaaDoor
