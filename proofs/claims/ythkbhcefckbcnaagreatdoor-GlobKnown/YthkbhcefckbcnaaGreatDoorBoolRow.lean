/- Rows of bools, made and written. -/
import Derived.Test.YthkbhcefckbcnaaGreatDoorSet
import Derived.Laws.MakeOwn
import Derived.OwnWalk
namespace Go.Proofs.YthkbhcefckbcnaaGreatDoor
open Go Go.RowKit

/-- n bools. -/
def rowB (n : Nat) (f : Nat → Bool) : Array Value := ((List.range n).map fun k => Value.bool (f k)).toArray
theorem rowB_size (n : Nat) (f : Nat → Bool) : (rowB n f).size = n := by simp [rowB]
theorem rowB_get (n : Nat) (f : Nat → Bool) (k : Nat) (h : k < n) : (rowB n f)[k]? = some (.bool (f k)) := by simp [rowB, h]
theorem rowB_congr {n : Nat} {f g : Nat → Bool} (h : ∀ k, k < n → f k = g k) : rowB n f = rowB n g := by
  unfold rowB
  congr 1
  apply List.map_congr_left
  intro k hk
  rw [h k (List.mem_range.1 hk)]
theorem rowB_set (n : Nat) (f : Nat → Bool) (k : Nat) (b : Bool) (h : k < n) : (rowB n f).setIfInBounds k (.bool b) = rowB n (fun i => if i = k then b else f i) := by
  apply Array.ext_getElem?
  intro i
  rw [Array.getElem?_setIfInBounds]
  by_cases hi : i < n
  · by_cases hk : k = i
    · subst hk; rw [if_pos rfl, if_pos (by rw [rowB_size]; exact h), rowB_get _ _ _ hi, if_pos rfl]
    · rw [if_neg hk, rowB_get _ _ _ hi, rowB_get _ _ _ hi, if_neg (fun e => hk e.symm)]
  · have h1 : (rowB n (fun i => if i = k then b else f i))[i]? = none := by simp [rowB]; omega
    have h2 : (rowB n f)[i]? = none := by simp [rowB]; omega
    rw [h1, if_neg (by omega), h2]
theorem info_bool : (Tryz.prog.info? 4).map (fun i => (i.zero, i.size, i.bytes)) = some (some (.bool false), 1, 1) := by kernel_rfl
set_option maxRecDepth 20000 in
theorem make_bools (n : Nat) (hn : n ≤ 1099511627777) (w : World) : (Instr.makeSlice 66 (.int .i64 n) (.int .i64 n)).run Tryz.prog w = .ok (.slice (some ⟨w.heap.size, 0, none⟩) n n) (w.alloc (.cells (rowB n fun _ => false) 4)) := by
  obtain ⟨i0, hi, hz0, hz1, hz2⟩ := info_parts info_bool
  have h := run_make w (P := Tryz.prog) 66 4 i0 (.bool false) Tryz.underlying66 hi hz0 .i64 .i64 n n (by omega) (by omega) (by rw [hz2]; omega) (by omega)
  have e : madeCells (Value.bool false).cells ((n : Int).toNat * i0.size) = rowB n fun _ => false := by
    rw [hz1, Int.toNat_natCast, Nat.mul_one]
    unfold madeCells rowB
    apply Array.toList_inj.1
    simp [Value.cells, Nat.mod_one]
  rw [e] at h
  exact h
end Go.Proofs.YthkbhcefckbcnaaGreatDoor
