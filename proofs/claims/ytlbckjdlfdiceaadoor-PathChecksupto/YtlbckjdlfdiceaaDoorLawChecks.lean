/- PathChecks, walked, at texts of at most 2^40 bytes: of every text whether it is a path, and what it lacks, is as the document's answer has it. -/
import Derived.Test.YtlbckjdlfdiceaaDoorLawNames
import Derived.Test.YtlbckjdlfdiceaaDoorRefE
namespace Go.Proofs.YtlbckjdlfdiceaaDoor
open Go.RowKit

theorem checkN_range (p : ByteArray) : 0 ≤ checkN p ∧ checkN p ≤ 32 := by
  have h := splitP_cases (whiteoutB p)
  unfold checkN
  repeat' split
  all_goals omega
set_option maxHeartbeats 1000000 in
theorem checks_law (p : ByteArray) (w : World) (hg : ErrType w) (hp : p.size ≤ 1048576) :
    Calls Tryd.prog 4 #[.string p] w fun e w' => e = .returned (.bool true) ∧ Below w.heap.size w w' := by
  obtain ⟨hn0, hn1⟩ := checkN_range p
  go_enter Tryd.func4, Tryd.ntmps4
  go_wp2_with fail
  refine (check_p p _ (by omega) (fun x _ h => anyOK x h)).mono ?_
  rintro e w1 ⟨rfl, b1⟩
  go_wp2_with fail
  refine (check_r p _ (by omega)).mono ?_
  rintro e w2 ⟨rfl, b2⟩
  replace b2 := below_join b1 b2
  clear b1
  go_wp2_with fail
  refine (plain_v _ hn0 hn1 _ (hg.below b2)).mono ?_
  rintro e w3 ⟨rfl, b3⟩
  replace b3 := below_join b2 b3
  clear b2
  go_wp2_with fail
  refine (works_p _ (hg.below b3)).mono ?_
  rintro e w4 ⟨rfl, b4⟩
  replace b4 := below_join b3 b4
  go_wp2_with fail
  go_ret
  exact ⟨rfl, b4⟩
end Go.Proofs.YtlbckjdlfdiceaaDoor
