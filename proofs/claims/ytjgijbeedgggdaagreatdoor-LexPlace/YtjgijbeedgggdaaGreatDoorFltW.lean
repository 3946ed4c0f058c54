/- The program's faultAt, quoteFault. -/
import Derived.Test.YtjgijbeedgggdaaGreatDoorPlW
import Derived.Test.YtjgijbeedgggdaaGreatDoorPlaceF
namespace Go.Proofs.YtjgijbeedgggdaaGreatDoor
open Go Go.RowKit

set_option maxRecDepth 100000 in
theorem faultAt_p (no : Int) (n : Nat) (t : ByteArray) (u d : Value) (ms : List Mk) (k : Nat) (w : World) (hu : MksAt w u (ms.map Mk.z)) (hs : t.size ≤ 1099511627776) (hl : ms.length ≤ 1099511627776) (hm : ∀ m ∈ ms, m.pos ≤ 1099511627776 ∧ m.col ≤ 1099511627776) :
    Calls Tryz.prog 156 #[.int .i64 no, .agg #[.int .i64 n, .string t, u, d], .int .i64 k] w fun e w' => e = .returned (fltV no (placeL n (un t) ms k).1 (placeL n (un t) ms k).2) ∧ Below w.heap.size w w' := by
  have hB0 : Below w.heap.size w (w.alloc (.cells #[.int .i64 n, .string t, u, d] 64)) := (Below.refl _ w).alloc (Nat.le_refl _) _
  have L0 := Lies.new w 64 #[.int .i64 n, .string t, u, d]
  have hP := fun W (hW : Below w.heap.size w W) => place_n n t u d ms k W (hu.below hW) hs hl hm
  generalize placeL n (un t) ms k = P at *
  go_enter Tryz.func156, Tryz.ntmps156
  go_wp2_with (first
    | (refine wpList_load_row rfl 64 (.tmp 4) rfl w.heap.size rfl 64 #[.int .i64 n, .string t, u, d] (0, 0) _ L0 Tryz.underlying64 rfl ln_info ?_)
    | (go_at_call 19; refine (hP _ hB0).mono ?_; rintro e w1 ⟨rfl, b1⟩))
  go_ret
  exact ⟨rfl, below_join hB0 b1⟩
set_option maxRecDepth 100000 in
set_option maxHeartbeats 1000000 in
theorem quoteFault_p (n : Nat) (t : ByteArray) (u d : Value) (ms : List Mk) (k : Nat) (w : World) (he : ErrType w) (hu : MksAt w u (ms.map Mk.z)) (hs : t.size ≤ 1099511627776) (hl : ms.length ≤ 1099511627776) (hm : ∀ m ∈ ms, m.pos ≤ 1099511627776 ∧ m.col ≤ 1099511627776) :
    Calls Tryz.prog 154 #[.agg #[.int .i64 n, .string t, u, d], fltV 18 0 k] w fun e w' => e = .returned (fltV 18 (placeL n (un t) ms k).1 (placeL n (un t) ms k).2) ∧ Below w.heap.size w w' := by
  have hB0 : Below w.heap.size w (w.alloc (.cells #[.int .i64 n, .string t, u, d] 64)) := (Below.refl _ w).alloc (Nat.le_refl _) _
  have L0 := Lies.new w 64 #[.int .i64 n, .string t, u, d]
  generalize hw0 : w.alloc (.cells #[.int .i64 n, .string t, u, d] 64) = w0 at *
  have hle : Hid (w.heap.size ≤ w0.heap.size) := hB0.size
  have B1 : Below w0.heap.size w0 (w0.alloc (.cells (fltC 0 0 0) 150)) := (Below.refl _ w0).alloc (Nat.le_refl _) _
  have LF : Lies (w0.alloc (.cells (fltC 0 0 0) 150)) w0.heap.size 150 (fltC 0 0 0) := Lies.new _ _ _
  have hE := (he.below hB0).below B1
  have LF1 := asWF_lies w0.heap.size 18 0 k _ _ LF
  have B2 := asWF_below w0.heap.size w0.heap.size 18 0 k _ _ B1 (Nat.le_refl _) (by simp)
  have hA := as_hitF 18 0 k w0.heap.size (fltC 0 0 0) (w0.alloc (.cells (fltC 0 0 0) 150)) hE LF rfl
  have hP := fun W (hW : Below w.heap.size w W) => faultAt_p 18 n t u d ms k W (hu.below hW) hs hl hm
  generalize placeL n (un t) ms k = P at *
  go_enter Tryz.func154, Tryz.ntmps154
  go_wp2_with fail
  refine hA.mono ?_
  rintro e w1 ⟨rfl, hw1⟩
  rw [← hw1] at LF1 B2
  clear hw1 hA LF hE B1 hw0
  have L1 := L0.below B2
  have c2 : w1.cell? ⟨w0.heap.size, 2, none⟩ = some (.int .i64 k) := LF1.cell rfl
  go_wp2_with (first
    | (refine wpList_load_row rfl 64 (.tmp 2) rfl w.heap.size rfl 64 #[.int .i64 n, .string t, u, d] (0, 0) _ L1 Tryz.underlying64 rfl ln_info ?_)
    | (go_at_call 156; refine (hP _ (hB0.trans (B2.mono hle.out))).mono ?_; rintro e w2 ⟨rfl, b2⟩))
  go_ret
  exact ⟨rfl, below_join (hB0.trans (B2.mono hle.out)) b2⟩
end Go.Proofs.YtjgijbeedgggdaaGreatDoor
