/- UstarKnown, walked: the examples of the chapter; and what ends asks. -/
import Derived.Test.YtgdkgdlgalinbaaGreatDoorReadU
import Derived.Test.YtgdkgdlgalinbaaGreatDoorLawEncU
import Derived.Test.YtgdkgdlgalinbaaGreatDoorLawBackU
import Derived.Test.YtgdkgdlgalinbaaGreatDoorLawForU
namespace Go.Proofs.YtgdkgdlgalinbaaGreatDoor
open Go Go.RowKit

set_option maxRecDepth 100000 in
set_option maxHeartbeats 1000000 in
theorem known_law (w : World) (hE : Env w) (hg : ErrType w) : Calls Tryz.prog 3 #[] w fun e w' => e = .returned (.bool true) ∧ Below w.heap.size w w' := by
  have HE : Hid (Says (fun W => Env W ∧ ErrType W) 14) := fun h o W hW => encode_law h (by have := o.p; omega) (by have := o.l; omega) (by have := o.u; omega) (by have := o.g; omega) W hW.1 hW.2
  have HB : Hid (Says (fun W => Env W ∧ ErrType W) 15) := fun h o W hW => back_law h (by have := o.p; omega) W hW.1 hW.2
  have HF : Hid (SaysF (fun W => Env W ∧ ErrType W) 16) := fun h o a p W hW => forged_law h (by have := o.p; omega) (by have := o.l; omega) (by have := o.u; omega) (by have := o.g; omega) a p W hW.1 hW.2
  have hends := fun W (hW : Env W ∧ ErrType W) => ends_p (fun W => Env W ∧ ErrType W) (fun hu hb => ⟨hu.1.below hb, hu.2.below hb⟩) HE HB HF W hW
  clear HE HB HF
  go_enter Tryz.func3, Tryz.ntmps3
  go_wp2_with (first
    | (go_at_call 4; refine (written_p _ hE hg).mono ?_; rintro e w1 ⟨rfl, b1⟩)
    | (go_at_call 5; refine (read_p _ (hE.below b1) (hg.below b1)).mono ?_; rintro e w2 ⟨rfl, b2⟩; have B2 := below_join b1 b2)
    | (go_at_call 6; refine (hends _ ⟨hE.below B2, hg.below B2⟩).mono ?_; rintro e w3 ⟨rfl, b3⟩))
  go_ret
  exact ⟨rfl, below_join B2 b3⟩
end Go.Proofs.YtgdkgdlgalinbaaGreatDoor
