/- DigestClashes: the statement walked. -/
import Derived.Test.YtmohlmodaibbaaaDoorRefClash
import Derived.Test.YtmohlmodaibbaaaDoorLent
import Derived.Test.YtmohlmodaibbaaaDoorWorks3
namespace Go.Proofs.YtmohlmodaibbaaaDoor
open Go Go.RowKit

set_option maxHeartbeats 4000000 in
set_option maxRecDepth 100000 in
theorem clashes_law (n : Int) (l : List ByteArray) (v : Value) (w : World) (hk : KTab w) (hr : RTab w) (hbt : BTab w) (hp : Pow10 w) (h : TextsAt w v l) (hz : wt l ≤ 1048576) : Calls Tryd.prog 3 #[.int .i64 n, v] w fun e w' => e = .returned (.bool true) ∧ Below w.heap.size w w' := by
  have hg := var_lt l_k hk
  have hln := length_wt l
  have hll : l.length ≤ 8796093021952 := by omega
  go_enter Tryd.func3, Tryd.ntmps3
  go_wp2_with fail
  refine (few_p l v w h hz).mono ?_
  rintro e w0 ⟨rfl, hw0⟩
  replace hw0 : w = w0 := hw0.symm
  subst hw0
  go_wp2_with fail
  refine (clash_r n l v w hr hbt h hz).mono ?_
  rintro e w1 ⟨i, j, ok, rfl, hc1, B1⟩
  have h1 := h.below B1
  go_wp2_with fail
  refine (lent_p l v w1 h1 hll).mono ?_
  rintro e w2 ⟨u, rfl, hu2, b2⟩
  have B2 := below_join B1 b2
  have h2 := h.below B2
  clear b2 h1
  go_wp2_with fail
  refine (clash_p n l u w2 (var?_below B2 l_k hg hk) hu2.texts hz).mono ?_
  rintro e w3 ⟨i2, j2, ok2, rfl, hc3, b3⟩
  obtain ⟨rfl, rfl, rfl⟩ := hc3.same hc1
  have hu3 := hu2.below b3
  have B3 := below_join B2 b3
  have h3 := h.below B3
  clear b3 hu2 h2 B2 hc1 hc3
  cases ok2
  all_goals go_wp2_with fail
  all_goals refine (kept_p l u v w3 hu3 h3 hll).mono ?_
  all_goals rintro e w4 ⟨rfl, b4⟩
  all_goals have B4 := below_join B3 b4
  all_goals go_wp2_with fail
  all_goals refine (works_p _ (var?_below B4 l_k hg hk) (hp.below B4)).mono ?_
  all_goals rintro e w5 ⟨rfl, b5⟩
  all_goals have B5 := below_join B4 b5
  all_goals go_wp2
  all_goals go_ret
  all_goals exact ⟨rfl, B5⟩
end Go.Proofs.YtmohlmodaibbaaaDoor
