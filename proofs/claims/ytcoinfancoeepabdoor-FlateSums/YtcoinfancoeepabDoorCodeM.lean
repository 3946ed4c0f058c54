/- Codes, as they are made of the symbols' sizes: nothing of a program. -/
import Derived.Test.YtcoinfancoeepabDoorBitM
namespace Go.Proofs.YtcoinfancoeepabDoor
open Go

def ints (l : List Nat) : List Value := l.map fun (n : Nat) => Value.int .i64 (n : Int)
theorem ints_length (l : List Nat) : (ints l).length = l.length := by simp [ints]
theorem ints_get (l : List Nat) (k : Nat) (h : k < l.length) : (ints l)[k]? = some (.int .i64 (l.getD k 0 : Nat)) := by
  simp [ints, List.getElem?_eq_getElem h]
theorem ints_set (l : List Nat) (k n : Nat) : (ints l).set k (.int .i64 n) = ints (l.set k n) := by simp [ints]
def cntS (cs : List Nat) (x : Nat) : List Nat := cs.set x (cs.getD x 0 + 1)
def cntRun (xs : List Nat) : Nat → List Nat
  | 0 => List.replicate 16 0
  | k + 1 => cntS (cntRun xs k) (xs.getD k 0)
def lngRun (xs : List Nat) : Nat → Nat
  | 0 => 0
  | k + 1 => max (lngRun xs k) (xs.getD k 0)
def counts (xs : List Nat) : List Nat := (cntRun xs xs.length).set 0 0
def plRun (cs : List Nat) : Nat → List Nat
  | 0 => List.replicate 17 0
  | k + 1 => (plRun cs k).set (k + 1) ((plRun cs k).getD k 0 + cs.getD k 0)
def manyN (xs : List Nat) : Nat := (plRun (counts xs) 16).getD 16 0
def symRun (xs : List Nat) : Nat → List Nat × List Nat
  | 0 => (plRun (counts xs) 16, List.replicate (manyN xs) 0)
  | k + 1 => if xs.getD k 0 = 0 then symRun xs k else ((symRun xs k).1.set (xs.getD k 0) ((symRun xs k).1.getD (xs.getD k 0) 0 + 1), (symRun xs k).2.set ((symRun xs k).1.getD (xs.getD k 0) 0) k)
theorem cntRun_length (xs : List Nat) : ∀ k, (cntRun xs k).length = 16
  | 0 => rfl
  | k + 1 => by rw [cntRun, cntS, List.length_set, cntRun_length xs k]
theorem getD_set' (l : List Nat) (i k n : Nat) : (l.set i n).getD k 0 = if i = k ∧ i < l.length then n else l.getD k 0 := by
  rw [List.getD_eq_getElem?_getD, List.getD_eq_getElem?_getD, List.getElem?_set]
  by_cases h : i = k
  · subst h
    by_cases h2 : i < l.length
    · simp [h2]
    · simp [h2]
  · simp [h]
theorem cntRun_le (xs : List Nat) : ∀ k j, (cntRun xs k).getD j 0 ≤ k
  | 0, j => by
    rw [cntRun, List.getD_eq_getElem?_getD, List.getElem?_replicate]; split <;> simp
  | k + 1, j => by
    have h1 := cntRun_le xs k j
    have h2 := cntRun_le xs k (xs.getD k 0)
    rw [cntRun, cntS, getD_set']; split <;> omega
theorem lngRun_le (xs : List Nat) (h : ∀ x ∈ xs, x ≤ 15) : ∀ k, lngRun xs k ≤ 15
  | 0 => by simp [lngRun]
  | k + 1 => by
    have h1 := lngRun_le xs h k
    have h2 : xs.getD k 0 ≤ 15 := by
      rw [List.getD_eq_getElem?_getD]
      cases hx : xs[k]? with
      | none => simp
      | some x => exact h x (List.mem_of_getElem? hx)
    rw [lngRun]; omega
theorem counts_length (xs : List Nat) : (counts xs).length = 16 := by unfold counts; rw [List.length_set, cntRun_length]
theorem counts_le (xs : List Nat) (j : Nat) : (counts xs).getD j 0 ≤ xs.length := by
  unfold counts
  rw [getD_set']
  have := cntRun_le xs xs.length j
  split <;> omega
theorem plRun_length (cs : List Nat) : ∀ k, (plRun cs k).length = 17
  | 0 => rfl
  | k + 1 => by rw [plRun, List.length_set, plRun_length cs k]
theorem plRun_le (cs : List Nat) (n : Nat) (h : ∀ j, cs.getD j 0 ≤ n) : ∀ k j, (plRun cs k).getD j 0 ≤ n * k
  | 0, j => by
    rw [plRun, List.getD_eq_getElem?_getD, List.getElem?_replicate]; split <;> simp
  | k + 1, j => by
    have h1 := plRun_le cs n h k j
    have h2 := plRun_le cs n h k k
    have h3 := h k
    rw [plRun, getD_set', Nat.mul_add, Nat.mul_one]; split <;> omega
theorem manyN_le (xs : List Nat) : manyN xs ≤ xs.length * 16 := by
  have h := plRun_le (counts xs) xs.length (counts_le xs) 16 16
  unfold manyN; exact h
theorem symRun_len (xs : List Nat) : ∀ k, (symRun xs k).1.length = 17 ∧ (symRun xs k).2.length = manyN xs
  | 0 => by rw [symRun]; exact ⟨plRun_length _ _, by simp⟩
  | k + 1 => by
    have := symRun_len xs k
    rw [symRun]
    split
    · exact this
    · exact ⟨by rw [List.length_set]; exact this.1, by rw [List.length_set]; exact this.2⟩
theorem symRun_le (xs : List Nat) : ∀ k j, (symRun xs k).1.getD j 0 ≤ xs.length * 16 + k
  | 0, j => by
    have h := plRun_le (counts xs) xs.length (counts_le xs) 16 j
    have e : (symRun xs 0).1 = plRun (counts xs) 16 := by rw [symRun]
    rw [e]
    exact Nat.le_trans h (Nat.le_add_right _ _)
  | k + 1, j => by
    have h1 := symRun_le xs k j
    have h2 := symRun_le xs k (xs.getD k 0)
    rw [symRun]
    split
    · omega
    · rw [getD_set']; split <;> omega
/-- A code's cells. -/
def codeC (cs : List Nat) (sym : Value) (lng : Nat) : Array Value := (ints cs ++ [sym, .int .i64 lng]).toArray
end Go.Proofs.YtcoinfancoeepabDoor
