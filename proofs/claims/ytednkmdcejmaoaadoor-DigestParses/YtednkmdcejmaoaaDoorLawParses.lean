/- DigestParses: the statement walked. -/
import Derived.Test.YtednkmdcejmaoaaDoorRefParse
import Derived.Test.YtednkmdcejmaoaaDoorPlain
import Derived.Test.YtednkmdcejmaoaaDoorWorks3
import Derived.Test.YtednkmdcejmaoaaDoorDigEq
namespace Go.Proofs.YtednkmdcejmaoaaDoor
open Go Go.RowKit

set_option maxRecDepth 100000 in
theorem eq_self (m : List UInt8) (hm : m.length = 32) (w : World) : (Op.equalIn 10000 44 (.agg (dig32 m)) (.agg (dig32 m))).run Tryd.prog w = .ok true w := by
  have h := eq_dig m m hm hm w
  have e : (m == m) = true := by simp
  rwa [e] at h
theorem parseL_length {s d : List UInt8} (h : parseL s = some d) : d.length = 32 := by
  unfold parseL at h
  split at h
  · exact upTo_length h
  · cases h

set_option maxRecDepth 100000 in
set_option maxHeartbeats 4000000 in
theorem parses_core (s : ByteArray) (w : World) (hk : KTab w) (hp : Pow10 w) (he : ErrType w) (D : List UInt8) (hdl : D.length = 32) (n : Int) (ev : Value)
    (hR : Calls Tryd.prog 21 #[.string s] w fun e w' => e = .returned (.tuple #[.agg (dig32 D), .int .i64 n]) ∧ Below w.heap.size w w')
    (hP : ∀ W, Calls Tryd.prog 22 #[.string s] W fun e w' => e = .returned (.tuple #[.agg (dig32 D), ev]) ∧ Below W.heap.size W w')
    (hPl : ∀ W, ErrType W → Calls Tryd.prog 23 #[ev, .int .i64 n] W fun e w' => e = .returned (.bool true) ∧ Below W.heap.size W w') :
    Calls Tryd.prog 7 #[.string s] w fun e w' => e = .returned (.bool true) ∧ Below w.heap.size w w' := by
  have hz := (zero_of_info (P := Tryd.prog) info_digest).1
  have hi : (Tryd.prog.info? 44).map (·.size) = some (dig32 D).size := by rw [dig32_size, hdl]; kernel_rfl
  have hzd : (dig32 zeros).size = (dig32 D).size := by rw [zeros_size, dig32_size, hdl]
  have ho := dig32_one D
  have hg := var_lt l_k hk
  have heq := fun W => eq_self D hdl W
  generalize dig32 D = X at *
  go_enter Tryd.func7, Tryd.ntmps7
  go_wp2_with fail
  refine hR.mono ?_
  rintro e w1 ⟨rfl, B1⟩
  have A1 : Lies (w1.alloc (.cells (dig32 zeros) 44)) w1.heap.size 44 (dig32 zeros) := Lies.new _ _ _
  have L1 : Lies ((w1.alloc (.cells (dig32 zeros) 44)).setRow w1.heap.size X) w1.heap.size 44 X := A1.row _
  have B2 : Below w.heap.size w ((w1.alloc (.cells (dig32 zeros) 44)).setRow w1.heap.size X) := below_setRow (B1.alloc B1.size _) B1.size _
  go_wp2_with (refine wpList_store_row rfl 44 (.tmp 3) (.tmp 10) rfl w1.heap.size X rfl rfl 44 (dig32 zeros) A1 hi hzd ho ?_)
  generalize hW2 : (w1.alloc (.cells (dig32 zeros) 44)).setRow w1.heap.size X = w2 at *
  have hlt1 := L1.lt
  clear hW2 A1 B1
  refine (hP _).mono ?_
  rintro e w3 ⟨rfl, b3⟩
  have B3 := below_join B2 b3
  have L3 := L1.below b3
  have A3 : Lies (w3.alloc (.cells (dig32 zeros) 44)) w3.heap.size 44 (dig32 zeros) := Lies.new _ _ _
  have LY : Lies ((w3.alloc (.cells (dig32 zeros) 44)).setRow w3.heap.size X) w3.heap.size 44 X := A3.row _
  have LX : Lies ((w3.alloc (.cells (dig32 zeros) 44)).setRow w3.heap.size X) w1.heap.size 44 X := (L3.alloc _).otherRow _ (by have := L3.lt; omega)
  have B4 : Below w.heap.size w ((w3.alloc (.cells (dig32 zeros) 44)).setRow w3.heap.size X) := below_setRow (B3.alloc B3.size _) B3.size _
  generalize hW4 : (w3.alloc (.cells (dig32 zeros) 44)).setRow w3.heap.size X = w4 at *
  go_wp2_with (first
    | (refine wpList_store_row rfl 44 (.tmp 5) (.tmp 15) rfl w3.heap.size X rfl rfl 44 (dig32 zeros) A3 hi hzd ho ?_; rw [hW4])
    | (refine wpList_load_row rfl 44 (.tmp 5) rfl w3.heap.size rfl 44 X (0, 0) _ LY Tryd.underlying44 rfl hi ?_)
    | (refine wpList_load_row rfl 44 (.tmp 3) rfl w1.heap.size rfl 44 X (0, 0) _ LX Tryd.underlying44 rfl hi ?_))
  refine (hPl _ (he.below B4)).mono ?_
  rintro e w5 ⟨rfl, b5⟩
  have B5 := below_join B4 b5
  go_wp2_with fail
  refine (works_p _ (var?_below B5 l_k hg hk) (hp.below B5)).mono ?_
  rintro e w6 ⟨rfl, b6⟩
  have B6 := below_join B5 b6
  go_wp2
  go_ret
  exact ⟨rfl, B6⟩

theorem parses_law (s : ByteArray) (w : World) (hk : KTab w) (hp : Pow10 w) (he : ErrType w) : Calls Tryd.prog 7 #[.string s] w fun e w' => e = .returned (.bool true) ∧ Below w.heap.size w w' := by
  have hR := parse_r s w
  have hP := fun W => parse_p s W
  unfold RPost at hR
  unfold ParsePost at hP
  cases hd : parseL (un s) with
  | some d =>
    simp only [hd] at hR hP
    exact parses_core s w hk hp he d (parseL_length hd) 0 .nilIface hR hP (fun W _ => plain_nil W)
  | none =>
    simp only [hd] at hR hP
    exact parses_core s w hk hp he zeros rfl 4 errForm hR hP (fun W h => plain_some 4 (by omega) (by omega) W h)
end Go.Proofs.YtednkmdcejmaoaaDoor
