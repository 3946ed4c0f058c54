/- What every statement of layer 6 asks besides: the known text there and back. -/
import Derived.Test.YtcoinfancoeepabDoorShortK
import Derived.Test.YtcoinfancoeepabDoorGunK
namespace Go.Proofs.YtcoinfancoeepabDoor
open Go Go.RowKit

set_option maxRecDepth 100000 in
theorem stored_k (w : World) : Calls Tryd.prog 17 #[.string ⟨#[97]⟩] w fun e w' => e = .returned (.int .i64 6) ∧ w' = w := by
  go_enter Tryd.func17, Tryd.ntmps17
  go_wp2
  go_ret
  exact ⟨rfl, rfl⟩
set_option maxRecDepth 100000 in
theorem deflate_k (w : World) : Calls Tryd.prog 7 #[.string ⟨#[97]⟩] w fun e w' => e = .returned (.string ⟨#[75, 4, 0]⟩) ∧ Below w.heap.size w w' := by
  have hz : (⟨#[75, 4, 0]⟩ : ByteArray).size = 3 := rfl
  go_enter Tryd.func7, Tryd.ntmps7
  go_wp2_with (first
    | (go_at_call 16; refine (short_k w).mono ?_; rintro e w2 ⟨rfl, b2⟩)
    | (go_at_call 17; refine (stored_k w2).mono ?_; rintro e w3 ⟨rfl, hw⟩; have hw' := hw.symm; clear hw; subst hw'))
  go_ret
  exact ⟨rfl, b2⟩
set_option maxRecDepth 100000 in
theorem gzip_k (w : World) (hT : CrcAt w) : Calls Tryd.prog 8 #[.string ⟨#[97]⟩] w fun e w' => e = .returned (.string z0) ∧ Below w.heap.size w w' := by
  have HZ : Hid ((⟨#[31, 139, 8, 0, 0, 0, 0, 0, 0, 255]⟩ : ByteArray) ++ ⟨#[75, 4, 0]⟩ ++ ⟨#[67, 190, 183, 232]⟩ ++ ⟨#[1, 0, 0, 0]⟩ = z0) := rfl
  go_enter Tryd.func8, Tryd.ntmps8
  go_wp2_with (first
    | (go_at_call 7; refine (deflate_k w).mono ?_; rintro e w2 ⟨rfl, b2⟩; have T2 := hT.below b2)
    | (go_at_call 15; refine (crcA_p w2 T2).mono ?_; rintro e w3 ⟨rfl, hw⟩; have hw' := hw.symm; clear hw; subst hw')
    | (go_at_call 19; with_reducible refine (fourA_p w2).mono ?_; rintro e w3 ⟨rfl, b3⟩)
    | (go_at_call 19; with_reducible refine (four1_p w3).mono ?_; rintro e w4 ⟨rfl, b4⟩))
  go_ret
  exact ⟨by rw [← HZ.out]; rfl, below_join (below_join b2 b3) b4⟩
set_option maxRecDepth 100000 in
set_option maxHeartbeats 2000000 in
theorem works_f (w : World) (hT : CrcAt w) : Calls Tryd.prog 14 #[] w fun e w' => e = .returned (.bool true) ∧ Below w.heap.size w w' := by
  have HIN : Hid (Calls Tryd.prog 9 #[.string ⟨#[75, 4, 0]⟩, .int .i64 1] w fun e w' => e = .returned (.tuple #[.string ⟨#[97]⟩, .int .i64 3, .nilIface]) ∧ Below w.heap.size w w') := inflate_k (s := ⟨#[75, 4, 0]⟩) rfl (by decide) (by decide) w
  have HGU : Hid (∀ W, CrcAt W → Calls Tryd.prog 12 #[.string ⟨#[31, 139, 8, 0, 0, 0, 0, 0, 0, 255, 75, 4, 0, 67, 190, 183, 232, 1, 0, 0, 0]⟩, .int .i64 1] W fun e w' => e = .returned (.tuple #[.string ⟨#[97]⟩, .nilIface]) ∧ Below W.heap.size W w') := fun W hW => gunzip_k W hW
  have HGZ : Hid (∀ W, CrcAt W → Calls Tryd.prog 8 #[.string ⟨#[97]⟩] W fun e w' => e = .returned (.string ⟨#[31, 139, 8, 0, 0, 0, 0, 0, 0, 255, 75, 4, 0, 67, 190, 183, 232, 1, 0, 0, 0]⟩) ∧ Below W.heap.size W w') := fun W hW => gzip_k W hW
  go_enter Tryd.func14, Tryd.ntmps14
  go_wp2_with (first
    | (go_at_call 9; refine HIN.out.mono ?_; rintro e w2 ⟨rfl, b2⟩; have T2 := hT.below b2)
    | (go_at_call 12; refine (HGU.out w2 T2).mono ?_; rintro e w3 ⟨rfl, b3⟩; have T3 := T2.below b3)
    | (go_at_call 7; refine (deflate_k w3).mono ?_; rintro e w4 ⟨rfl, b4⟩; have T4 := T3.below b4)
    | (go_at_call 15; refine (crc9_p w4 T4).mono ?_; rintro e w5 ⟨rfl, hw⟩; have hw' := hw.symm; clear hw; subst hw')
    | (go_at_call 8; refine (HGZ.out w4 T4).mono ?_; rintro e w6 ⟨rfl, b6⟩))
  go_ret
  exact ⟨rfl, below_join (below_join (below_join b2 b3) b4) b6⟩
end Go.Proofs.YtcoinfancoeepabDoor
