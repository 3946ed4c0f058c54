/- Marks in lists of words. -/
import Derived.Test.YtmnggnmgiflhjaaDoorWdW
import Derived.Laws.IdiomStrings
import Derived.Laws.CopyOwn
namespace Go.Proofs.YtmnggnmgiflhjaaDoor
open Go Go.RowKit

def mkb8 (x : Int) : UInt8 := UInt8.ofNat (x % 256).toNat
theorem mkb8_int (x : Int) : ((mkb8 x).toNat : Int) = x % 256 := by
  unfold mkb8
  rw [UInt8.toNat_ofNat']; omega
def mkTx (k i : Int) : ByteArray := bs [35, mkb8 k, mkb8 (k / 256), mkb8 i, mkb8 (i / 256)]
set_option maxRecDepth 100000 in
theorem mkTx_conv (k i : Int) (w : World) : (convert 45 9 (.slice (some ⟨w.heap.size, 0, none⟩) 5 5)).run Tryd.prog (w.alloc (.cells #[.int .u8 35, .int .u8 (k % 256), .int .u8 (k / 256 % 256), .int .u8 (i % 256), .int .u8 (i / 256 % 256)] 5)) = .ok (.string (mkTx k i)) (w.alloc (.cells #[.int .u8 35, .int .u8 (k % 256), .int .u8 (k / 256 % 256), .int .u8 (i % 256), .int .u8 (i / 256 % 256)] 5)) := by
  refine run_convert_bytes_back _ 45 9 5 ⟨w.heap.size, 0, none⟩ 5 [35, mkb8 k, mkb8 (k / 256), mkb8 i, mkb8 (i / 256)] Tryd.underlying45 Tryd.underlying5 Tryd.underlying9 ?_
  intro j hj
  simp only [← mkb8_int]
  have hc := fun v (h : (#[.int .u8 35, .int .u8 ((mkb8 k).toNat : Int), .int .u8 ((mkb8 (k / 256)).toNat : Int), .int .u8 ((mkb8 i).toNat : Int), .int .u8 ((mkb8 (i / 256)).toNat : Int)] : Array Value)[j]? = some v) => (Lies.new w 5 #[.int .u8 35, .int .u8 ((mkb8 k).toNat : Int), .int .u8 ((mkb8 (k / 256)).toNat : Int), .int .u8 ((mkb8 i).toNat : Int), .int .u8 ((mkb8 (i / 256)).toNat : Int)]).cell h
  have e : (⟨w.heap.size, 0, none⟩ : Addr).add j = ⟨w.heap.size, j, none⟩ := by rw [Addr.add_mid, Nat.zero_add]
  rw [e]
  refine hc _ ?_
  rcases j with _ | _ | _ | _ | _ | j
  · rfl
  · rfl
  · rfl
  · rfl
  · rfl
  · simp at hj; omega
set_option maxRecDepth 100000 in
set_option maxHeartbeats 2000000 in
theorem mkTx_p (k i : Int) (w : World) : Calls Tryd.prog 39 #[.int .i64 k, .int .i64 i] w fun e w' => e = .returned (.string (mkTx k i)) ∧ Below w.heap.size w w' := by
  have hcv := mkTx_conv k i w
  go_enter Tryd.func39, Tryd.ntmps39
  go_wp2
  go_ret
  exact ⟨rfl, (Below.refl _ w).alloc (Nat.le_refl _) _⟩
/-- A mark. -/
def markW (k i : Int) : Wd := ⟨-7 - k, mkTx k i⟩
set_option maxRecDepth 100000 in
set_option maxHeartbeats 2000000 in
theorem markW_p (k i : Int) (h0 : 0 ≤ k) (h1 : k ≤ 1000000) (w : World) : Calls Tryd.prog 29 #[.int .i64 k, .int .i64 i] w fun e w' => e = .returned (.agg #[.int .i64 (markW k i).p, .string (markW k i).r]) ∧ Below w.heap.size w w' := by
  have b0 : Below w.heap.size w (w.alloc (.cells #[.int .i64 0, .string ⟨#[]⟩] 41)) := (Below.refl _ w).alloc (Nat.le_refl _) _
  have L0 := Lies.new w 41 #[.int .i64 0, .string ⟨#[]⟩]
  have hw : IntKind.i64.wrap (-7 - k) = -7 - k := by
    simp only [IntKind.wrap, IntKind.bits, IntKind.signed]
    simp
    omega
  have hinf : (Tryd.prog.info? 41).map (·.size) = some 2 := by kernel_rfl
  have hone : (#[.int .i64 (-7 - k), .string (mkTx k i)] : Array Value).all (·.oneCell') = true := by simp [Value.oneCell']
  go_enter Tryd.func29, Tryd.ntmps29
  go_wp2_with (first
    | (go_at_call 39; refine (mkTx_p k i _).mono ?_; rintro e w1 ⟨rfl, b1⟩; have L1 := L0.below b1)
    | (refine wpList_store_row rfl 41 (.tmp 4) (.tmp 10) rfl w.heap.size #[.int .i64 (-7 - k), .string (mkTx k i)] rfl rfl 41 #[.int .i64 0, .string ⟨#[]⟩] L1 hinf rfl hone ?_))
  dsimp only [Act.put]
  refine bodyPost_ret (results_cell_row rfl _ _ w.heap.size 41 #[.int .i64 (-7 - k), .string (mkTx k i)] (0, 0) _ rfl (setRow_heap w1 w.heap.size _ _ _ (0, 0) L1) Tryd.underlying41 rfl hinf) rfl ?_
  exact ⟨rfl, below_setRow (b0.trans (b1.mono b0.size)) (Nat.le_refl _) _⟩
end Go.Proofs.YtmnggnmgiflhjaaDoor
