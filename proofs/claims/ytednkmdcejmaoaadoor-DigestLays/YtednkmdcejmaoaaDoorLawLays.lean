/- DigestLays: the statement walked. -/
import Derived.Test.YtednkmdcejmaoaaDoorRefPieces
import Derived.Test.YtednkmdcejmaoaaDoorLent
import Derived.Test.YtednkmdcejmaoaaDoorWorks3
namespace Go.Proofs.YtednkmdcejmaoaaDoor
open Go Go.RowKit

set_option maxHeartbeats 2000000 in
set_option maxRecDepth 100000 in
theorem lays_law (l : List ByteArray) (v : Value) (w : World) (hk : KTab w) (hp : Pow10 w) (h : TextsAt w v l) (hll : l.length ≤ 8796093021952) (hxs : ∀ x ∈ l, x.size ≤ 140737488351232) : Calls Tryd.prog 6 #[v] w fun e w' => e = .returned (.bool true) ∧ Below w.heap.size w w' := by
  have hg := var_lt l_k hk
  have hss : ((piecesB l).toList == (piecesB l).toList) = true := by simp
  go_enter Tryd.func6, Tryd.ntmps6
  go_wp2_with fail
  refine (few_q l v w h (by omega) hxs).mono ?_
  clear hxs
  rintro e w0 ⟨rfl | ⟨rfl, hz⟩, hw0⟩
  · replace hw0 : w = w0 := hw0.symm
    subst hw0
    go_wp2
    go_ret
    exact ⟨rfl, Below.refl _ _⟩
  replace hw0 : w = w0 := hw0.symm
  subst hw0
  go_wp2_with fail
  refine (lent_p l v w h hll).mono ?_
  rintro e w1 ⟨u, rfl, hu1, B1⟩
  have h1 := h.below B1
  have p1 := hp.below B1
  go_wp2_with fail
  refine (pieces_q l u w1 p1 hu1.texts hll hz).mono ?_
  rintro e w2 ⟨rfl, b2⟩
  have hu2 := hu1.below b2
  have B2 := below_join B1 b2
  have h2 := h.below B2
  clear b2 hu1 h1 p1
  go_wp2_with fail
  refine (pieces_r l v w2 h2 hll hz).mono ?_
  rintro e w3 ⟨rfl, b3⟩
  have hu3 := hu2.below b3
  have B3 := below_join B2 b3
  have h3 := h.below B3
  clear b3 hu2 h2 B2
  go_wp2_with fail
  refine (kept_p l u v w3 hu3 h3 hll).mono ?_
  rintro e w4 ⟨rfl, b4⟩
  have B4 := below_join B3 b4
  go_wp2_with fail
  refine (works_p _ (var?_below B4 l_k hg hk) (hp.below B4)).mono ?_
  rintro e w5 ⟨rfl, b5⟩
  have B5 := below_join B4 b5
  go_wp2
  go_ret
  exact ⟨rfl, B5⟩
end Go.Proofs.YtednkmdcejmaoaaDoor
