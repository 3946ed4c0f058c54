/- The kit's At and Num of no error. -/
import Derived.Test.YtmnggnmgiflhjaaDoorPlaceF
namespace Go.Proofs.YtmnggnmgiflhjaaDoor
open Go Go.RowKit

theorem at_nil (l a : Int) (w : World) : Calls Tryd.prog 11 #[.nilIface, .int .i64 0, .int .i64 l, .int .i64 a] w fun e w' => e = .returned (.bool true) ∧ w' = w := by
  go_enter Tryd.func11, Tryd.ntmps11
  go_wp2
  go_ret
  exact ⟨rfl, rfl⟩
theorem num_nil' (w : World) : Calls Tryd.prog 18 #[.nilIface] w fun e w' => e = .returned (.int .i64 0) ∧ w' = w := by
  go_enter Tryd.func18, Tryd.ntmps18
  go_wp2
  go_ret
  exact ⟨rfl, rfl⟩
end Go.Proofs.YtmnggnmgiflhjaaDoor
