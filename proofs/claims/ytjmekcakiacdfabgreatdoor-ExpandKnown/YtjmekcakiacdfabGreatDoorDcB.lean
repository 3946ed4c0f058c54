/- The document's bytes and met. -/
import Derived.Test.YtjmekcakiacdfabGreatDoorDcN
namespace Go.Proofs.YtjmekcakiacdfabGreatDoor
open Go Go.RowKit

def pcD (t n : ByteArray) (o : UInt8) (v : Value) : Value := .agg #[.string t, .string n, .int .u8 o.toNat, v]
theorem pcD_info : (Tryz.prog.info? 108).map (·.size) = some 4 := by kernel_rfl
theorem pcD_heap (W : World) (cs : Array Value) : ((((W.alloc (.cells cs 108)).alloc (.cells cs 108)).drew).heap)[W.heap.size]? = some (.cells cs 108 (0, 0)) :=
  show Lies ((W.alloc (.cells cs 108)).alloc (.cells cs 108)) W.heap.size 108 cs from
  (Lies.new W 108 cs).below ((Below.refl _ _).alloc (Nat.le_refl _) _)
set_option maxHeartbeats 2000000 in
set_option maxRecDepth 100000 in
theorem bytes_r (n : Nat) (W : World) (B R : Nat) (s : ByteArray) (e : UInt8) (k no : Nat) (v : Value) (ns : List (List UInt8)) (h : DR W B R s e k no v ns) (hk : k + n ≤ s.size) (hs : s.size ≤ 1099511627776) : Calls Tryz.prog 51 #[.pointer (some ⟨R, 0, none⟩), .int .i64 (n : Int)] W fun x w' => x = .returned (pcD (bs (((un s).drop k).take n)) ⟨#[]⟩ 0 (.slice none 0 0)) ∧ DR w' B R s e (k + n) no v ns ∧ Rnd (rdS R v) (rdS R v) W w' := by
  have f0 := h.lies.cell (i := 0) rfl
  have f1 := h.lies.cell (i := 1) rfl
  have fr := h.lies.frozen 1
  have hRW := h.lies.lt
  have HR : Hid (DR W B R s e k no v ns) := h
  have w1 : IntKind.i64.wrap ((k : Int) + (n : Int)) = ((k + n : Nat) : Int) := by rw [wrap_small _ (by omega) (by omega)]; omega
  have d0 : (0 : Int) ≤ (k : Int) := by omega
  have d1 : (k : Int) ≤ ((k + n : Nat) : Int) := by omega
  have d2 : ((k + n : Nat) : Int) ≤ (s.size : Int) := by omega
  have HX : Hid (s.extract k (k + n) = bs (((un s).drop k).take n)) := ext_part s k n
  clear h
  generalize hkn : k + n = kn at *
  go_enter Tryz.func51, Tryz.ntmps51
  go_wp2
  go_region
  all_goals
    go_wp2
    have h2 := HR.out.move kn
    have r2 := (Rnd.refl (rdS R v) W).set (b := R) (i := 1) (.inl rfl) (.int .i64 (kn : Int))
    have hsz : (W.setCell ⟨R, 1, none⟩ (.int .i64 (kn : Int))).heap.size = W.heap.size := by simp [World.setCell]
    generalize (W.setCell ⟨R, 1, none⟩ (.int .i64 (kn : Int))) = W2 at *
    rw [← hsz]
    refine bodyPost_ret (results_cell_row rfl _ _ W2.heap.size 108 _ (0, 0) _ rfl (pcD_heap W2 _) Tryz.underlying108 rfl pcD_info) rfl ?_
    exact ⟨by rw [← HX.out]; rfl, (h2.belowK (((Below.refl _ W2).alloc (Nat.le_refl _) _).alloc (by rw [World.size_alloc]; omega) _)).drew 1, ((r2.alloc _).alloc _).drewR 1⟩
end Go.Proofs.YtjmekcakiacdfabGreatDoor
