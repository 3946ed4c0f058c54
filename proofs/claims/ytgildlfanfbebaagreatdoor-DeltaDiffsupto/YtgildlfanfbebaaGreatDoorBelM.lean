/- What lies below a path, by its beginning. (Out of strata01's Name and BelowM.) -/
import Derived.Test.YtgildlfanfbebaaGreatDoorSpec
namespace Go.Proofs.YtgildlfanfbebaaGreatDoor
open Go

/-- Does p lie below dir? -/
def belowB (dir p : ByteArray) : Bool := if dir.toList.isEmpty then !p.toList.isEmpty else (Lib.hasPrefix (un p) (un dir) && Lib.hasPrefix (Lib.trimPrefix (un p) (un dir)) [47])
theorem hasPrefix_take (l h : List UInt8) : Lib.hasPrefix l h = (decide (h.length ≤ l.length) && (l.take h.length == h)) := by
  unfold Lib.hasPrefix
  rw [Bool.eq_iff_iff]
  simp only [List.isPrefixOf_iff_prefix, Bool.and_eq_true, decide_eq_true_eq, beq_iff_eq]
  constructor
  · rintro ⟨t, rfl⟩; simp
  · rintro ⟨_, h2⟩; exact ⟨l.drop h.length, by have h3 := List.take_append_drop h.length l; rw [h2] at h3; exact h3⟩
theorem belowB_r (a b : ByteArray) (h : a.toList.isEmpty = false) : belowB a b = Lib.hasPrefix (un b) (un a ++ [47]) := by
  unfold belowB
  rw [h]
  simp only [Bool.false_eq_true, if_false, Lib.trimPrefix]
  rw [Bool.eq_iff_iff]
  constructor
  · intro hh
    rw [Bool.and_eq_true] at hh
    obtain ⟨h1, h2⟩ := hh
    rw [if_pos h1] at h2
    unfold Lib.hasPrefix at *
    rw [List.isPrefixOf_iff_prefix] at *
    obtain ⟨t, ht⟩ := h1
    obtain ⟨u, hu⟩ := h2
    rw [← ht] at hu
    simp at hu
    exact ⟨u, by rw [← ht, ← hu]; simp⟩
  · intro hh
    have h1 : Lib.hasPrefix (un b) (un a) = true := by
      unfold Lib.hasPrefix at *
      rw [List.isPrefixOf_iff_prefix] at *
      obtain ⟨u, hu⟩ := hh
      exact ⟨47 :: u, by rw [← hu]; simp⟩
    rw [h1, if_pos rfl]
    unfold Lib.hasPrefix at *
    simp only [Bool.true_and]
    rw [List.isPrefixOf_iff_prefix] at *
    obtain ⟨u, hu⟩ := hh
    exact ⟨u, by rw [← hu]; simp⟩
end Go.Proofs.YtgildlfanfbebaaGreatDoor
