/- The places that codeOf writes to are there. -/
import Derived.Test.YtcoinfancoeepabDoorCodeM
namespace Go.Proofs.YtcoinfancoeepabDoor
open Go

theorem getD_take (xs : List Nat) (k : Nat) (h : k < xs.length) : xs.take (k + 1) = xs.take k ++ [xs.getD k 0] := by
  rw [List.take_succ_eq_append_getElem h, List.getD_eq_getElem?_getD, List.getElem?_eq_getElem h]; rfl
theorem cnt_count (xs : List Nat) (hx : ∀ x ∈ xs, x ≤ 15) (j : Nat) : ∀ k, k ≤ xs.length → (cntRun xs k).getD j 0 = (xs.take k).count j
  | 0, _ => by
    rw [cntRun, List.getD_eq_getElem?_getD, List.getElem?_replicate]; split <;> simp
  | k + 1, h => by
    have ih := cnt_count xs hx j k (by omega)
    have h15 : xs.getD k 0 ≤ 15 := by
      rw [List.getD_eq_getElem?_getD, List.getElem?_eq_getElem (by omega)]; exact hx _ (List.getElem_mem _)
    rw [getD_take xs k (by omega), List.count_append, cntRun, cntS, getD_set', cntRun_length]
    by_cases e : xs.getD k 0 = j
    · rw [if_pos ⟨e, by omega⟩, e, ih]; simp
    · rw [if_neg (fun h => e h.1), ih]
      have : List.count j [xs.getD k 0] = 0 := List.count_eq_zero.2 (fun h => e (List.mem_singleton.1 h).symm)
      omega
theorem pl_next (cs : List Nat) : ∀ k, k ≤ 16 → ∀ j, j < k → (plRun cs k).getD (j + 1) 0 = (plRun cs k).getD j 0 + cs.getD j 0
  | 0, _, j, h => by omega
  | k + 1, hk, j, h => by
    have hl := plRun_length cs k
    rw [plRun, getD_set', getD_set']
    by_cases e : j = k
    · subst e
      rw [if_pos ⟨rfl, by omega⟩, if_neg (by omega)]
    · rw [if_neg (by omega), if_neg (by omega)]
      exact pl_next cs k (by omega) j (by omega)
theorem pl_mono (cs : List Nat) (P : List Nat) (h : ∀ j, j < 16 → P.getD (j + 1) 0 = P.getD j 0 + cs.getD j 0) : ∀ d j, j + d = 16 → P.getD j 0 ≤ P.getD 16 0
  | 0, j, e => by rw [show j = 16 by omega]; exact Nat.le_refl _
  | d + 1, j, e => by
    have h1 := h j (by omega)
    have h2 := pl_mono cs P h d (j + 1) (by omega)
    omega
theorem sym_at (xs : List Nat) (x : Nat) (hx0 : x ≠ 0) (hx : ∀ x ∈ xs, x ≤ 15) : ∀ k, k ≤ xs.length → (symRun xs k).1.getD x 0 = (plRun (counts xs) 16).getD x 0 + (xs.take k).count x
  | 0, _ => by rw [symRun]; simp
  | k + 1, h => by
    have ih := sym_at xs x hx0 hx k (by omega)
    have h15 : xs.getD k 0 ≤ 15 := by
      rw [List.getD_eq_getElem?_getD, List.getElem?_eq_getElem (by omega)]; exact hx _ (List.getElem_mem _)
    have hl := (symRun_len xs k).1
    rw [getD_take xs k (by omega), List.count_append, symRun]
    by_cases e : xs.getD k 0 = x
    · rw [if_neg (by omega)]
      show ((symRun xs k).1.set (xs.getD k 0) ((symRun xs k).1.getD (xs.getD k 0) 0 + 1)).getD x 0 = _
      rw [getD_set', if_pos ⟨e, by omega⟩, e, ih]; simp; omega
    · have c0 : List.count x [xs.getD k 0] = 0 := List.count_eq_zero.2 (fun h => e (List.mem_singleton.1 h).symm)
      split
      · rw [ih, c0]; omega
      · show ((symRun xs k).1.set (xs.getD k 0) ((symRun xs k).1.getD (xs.getD k 0) 0 + 1)).getD x 0 = _
        rw [getD_set', if_neg (fun h => e h.1), ih, c0]; omega
theorem sym_in (xs : List Nat) (hx : ∀ x ∈ xs, x ≤ 15) (k : Nat) (hk : k < xs.length) (h0 : xs.getD k 0 ≠ 0) : (symRun xs k).1.getD (xs.getD k 0) 0 < manyN xs := by
  have h15 : xs.getD k 0 ≤ 15 := by
    rw [List.getD_eq_getElem?_getD, List.getElem?_eq_getElem (by omega)]; exact hx _ (List.getElem_mem _)
  have h1 := sym_at xs (xs.getD k 0) h0 hx k (by omega)
  have h2 := pl_next (counts xs) 16 (Nat.le_refl _)
  have h3 := h2 (xs.getD k 0) (by omega)
  have h4 := pl_mono (counts xs) _ h2 (16 - (xs.getD k 0 + 1)) (xs.getD k 0 + 1) (by omega)
  have h5 : (counts xs).getD (xs.getD k 0) 0 = xs.count (xs.getD k 0) := by
    unfold counts
    rw [getD_set', if_neg (fun h => h0 h.1.symm), cnt_count xs hx _ xs.length (Nat.le_refl _), List.take_length]
  have h6 : (xs.take (k + 1)).count (xs.getD k 0) ≤ xs.count (xs.getD k 0) := List.Sublist.count_le _ (List.take_sublist _ _)
  rw [getD_take xs k hk, List.count_append] at h6
  have h7 : List.count (xs.getD k 0) [xs.getD k 0] = 1 := by rw [List.count_singleton]; simp
  have h8 : manyN xs = (plRun (counts xs) 16).getD 16 0 := by unfold manyN; rfl
  generalize xs.getD k 0 = X at *
  omega
end Go.Proofs.YtcoinfancoeepabDoor
