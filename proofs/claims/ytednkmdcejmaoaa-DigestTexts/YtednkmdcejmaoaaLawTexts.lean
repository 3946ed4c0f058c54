/- DigestTexts: the statement walked. -/
import Derived.Test.YtednkmdcejmaoaaDigEq
import Derived.Test.YtednkmdcejmaoaaText
import Derived.Test.YtednkmdcejmaoaaRefText
import Derived.Test.YtednkmdcejmaoaaParse3
namespace Go.Proofs.Ytednkmdcejmaoaa
open Go Go.RowKit

set_option maxRecDepth 100000 in
set_option maxHeartbeats 4000000 in
theorem texts_law (l : List UInt8) (hl : l.length = 32) (w : World) : Calls Try.prog 3 #[.agg (dig32 l)] w fun e w' => e = .returned (.bool true) ∧ Below w.heap.size w w' := by
  have hz := (zero_of_info (P := Try.prog) info_digest).1
  have hi : (Try.prog.info? 23).map (·.size) = some (dig32 l).size := by rw [dig32_size, hl]; kernel_rfl
  have hP := fun W => parse_p (bs (textL l)) W
  unfold ParsePost at hP
  simp only [un_bs, parse_text l hl] at hP
  have hll : (l == l) = true := by simp
  have heq := fun W => eq_dig l l hl hl W
  simp only [hll] at heq
  clear hll
  have hss : ((bs (textL l)).toList == (bs (textL l)).toList) = true := by simp
  have hL0 := Lies.new w 23 (dig32 l)
  have hB0 : Below w.heap.size w (w.alloc (.cells (dig32 l) 23)) := (Below.refl _ w).alloc (Nat.le_refl _) _
  go_enter Try.func3, Try.ntmps3
  go_wp2_with (refine wpList_load_row rfl 23 (.tmp 1) rfl w.heap.size rfl 23 (dig32 l) (0, 0) _ hL0 Try.underlying23 rfl hi ?_)
  refine (text_p l hl _).mono ?_
  rintro e w1 ⟨rfl, b1⟩
  have hL1 := hL0.below b1
  have hB1 := below_join hB0 b1
  clear hL0 hB0 b1
  go_wp2_with fail
  refine (hP _).mono ?_
  rintro e w2 ⟨rfl, b2⟩
  have hL2 := hL1.below b2
  have hB2 := below_join hB1 b2
  clear hL1 hB1 b2
  have hL3 : Lies ((w2.alloc (.cells (dig32 zeros) 23)).setRow w2.heap.size (dig32 l)) w.heap.size 23 (dig32 l) := (hL2.alloc _).otherRow _ (by have := hL2.lt; omega)
  have hN3 : Lies ((w2.alloc (.cells (dig32 zeros) 23)).setRow w2.heap.size (dig32 l)) w2.heap.size 23 (dig32 l) := (Lies.new w2 _ _).row _
  have hB3 : Below w.heap.size w ((w2.alloc (.cells (dig32 zeros) 23)).setRow w2.heap.size (dig32 l)) := below_setRow (hB2.alloc hB2.size _) hB2.size _
  go_wp2_with (first
    | (refine wpList_store_row rfl 23 (.tmp 4) (.tmp 11) rfl w2.heap.size (dig32 l) rfl rfl 23 (dig32 zeros) (Lies.new w2 _ _) hi (by rw [dig32_size, dig32_size, hl]; rfl) (dig32_one _) ?_)
    | (refine wpList_load_row rfl 23 (.tmp 1) rfl w.heap.size rfl 23 (dig32 l) (0, 0) _ hL3 Try.underlying23 rfl hi ?_))
  refine (text_r l hl _).mono ?_
  rintro e w4 ⟨rfl, b4⟩
  have hL4 := hL3.below b4
  have hN4 := hN3.below b4
  have hB4 := below_join hB3 b4
  clear hL3 hN3 hB3 b4
  go_wp2_with (first
    | (refine wpList_load_row_g rfl 23 (.tmp 4) rfl w2.heap.size rfl 23 (dig32 l) (0, 0) _ hN4 Try.underlying23 rfl hi ?_)
    | (refine wpList_load_row_g rfl 23 (.tmp 1) rfl w.heap.size rfl 23 (dig32 l) (0, 0) _ hL4 Try.underlying23 rfl hi ?_))
  go_ret
  exact ⟨rfl, hB4⟩
end Go.Proofs.Ytednkmdcejmaoaa
