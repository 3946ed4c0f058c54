/- Pure: a text cut at a byte, as the document's cut does it byte by byte. -/
import Derived.Test.YtbmakfdljddhcaaGreatDoorNamC
namespace Go.Proofs.YtbmakfdljddhcaaGreatDoor
open Go Go.RowKit

def sepL (c : UInt8) : List UInt8 → List (List UInt8)
  | [] => [[]]
  | b :: l => if b = c then [] :: sepL c l else ((b :: (sepL c l).headD []) :: (sepL c l).tail)
theorem sepL_ne (c : UInt8) (l : List UInt8) : sepL c l ≠ [] := by
  cases l with
  | nil => simp [sepL]
  | cons b l => unfold sepL; split <;> simp
theorem sepL_cut (l : List UInt8) : cutL l = sepL 47 l := by
  induction l with
  | nil => rfl
  | cons b l ih =>
    rw [cutL_cons, sepL, ih]
    by_cases h : b = 47
    · simp [h]
    · simp [h]
/-- What a byte more makes of the pieces. -/
def sepStep (c b : UInt8) (ps : List (List UInt8)) : List (List UInt8) := if b = c then ps ++ [[]] else ps.set (ps.length - 1) (ps.getLastD [] ++ [b])
theorem sep_snoc (c b : UInt8) (l : List UInt8) : sepL c (l ++ [b]) = sepStep c b (sepL c l) := by
  induction l with
  | nil =>
    unfold sepStep
    simp only [List.nil_append, sepL]
    by_cases h : b = c <;> simp [h]
  | cons a l ih =>
    obtain ⟨z, zs, hz⟩ : ∃ z zs, sepL c l = z :: zs := List.exists_cons_of_ne_nil (sepL_ne c l)
    have e1 : sepL c (a :: l ++ [b]) = if a = c then [] :: sepL c (l ++ [b]) else ((a :: (sepL c (l ++ [b])).headD []) :: (sepL c (l ++ [b])).tail) := rfl
    have e2 : sepL c (a :: l) = if a = c then [] :: sepL c l else ((a :: (sepL c l).headD []) :: (sepL c l).tail) := rfl
    rw [e1, e2, ih, hz]
    unfold sepStep
    by_cases h : b = c
    · by_cases h2 : a = c <;> simp [h, h2]
    · rcases zs with _ | ⟨y, ys⟩
      · by_cases h2 : a = c <;> simp [h, h2]
      · by_cases h2 : a = c <;> simp [h, h2]
theorem sep_length (c : UInt8) : ∀ l : List UInt8, (sepL c l).length ≤ l.length + 1
  | [] => by simp [sepL]
  | b :: l => by
    have ih := sep_length c l
    have hp := List.length_pos_iff.2 (sepL_ne c l)
    unfold sepL
    split <;> simp <;> omega
theorem sep_miss (c : UInt8) : ∀ l : List UInt8, Lib.indexByte l c < 0 → sepL c l = [l]
  | [], _ => rfl
  | b :: l, h => by
    have hr := indexByte_range c l
    unfold Lib.indexByte at h
    by_cases hb : b = c
    · rw [if_pos (by simp [hb])] at h; omega
    · rw [if_neg (by simp [hb])] at h
      have hl : Lib.indexByte l c < 0 := by
        split at h
        · rename_i h2; have : Lib.indexByte l c = -1 := by simpa using h2
          omega
        · omega
      unfold sepL
      rw [if_neg hb, sep_miss c l hl]; rfl
theorem sep_hit (c : UInt8) : ∀ (l : List UInt8) (i : Nat), Lib.indexByte l c = i → sepL c l = l.take i :: sepL c (l.drop (i + 1))
  | [], i, h => by simp [Lib.indexByte] at h
  | b :: l, i, h => by
    have hr := indexByte_range c l
    unfold Lib.indexByte at h
    by_cases hb : b = c
    · rw [if_pos (by simp [hb])] at h
      obtain rfl : i = 0 := by omega
      have e2 : sepL c (b :: l) = if b = c then [] :: sepL c l else ((b :: (sepL c l).headD []) :: (sepL c l).tail) := rfl
      rw [e2, if_pos hb]; simp
    · rw [if_neg (by simp [hb])] at h
      have hl : ¬ (Lib.indexByte l c == -1) = true := by
        intro h2
        rw [if_pos h2] at h; omega
      rw [if_neg hl] at h
      obtain ⟨j, rfl⟩ : ∃ j, i = j + 1 := ⟨i - 1, by
        have : Lib.indexByte l c ≠ -1 := by simpa using hl
        omega⟩
      have ih := sep_hit c l j (by omega)
      have e2 : sepL c (b :: l) = if b = c then [] :: sepL c l else ((b :: (sepL c l).headD []) :: (sepL c l).tail) := rfl
      rw [e2, if_neg hb, ih]
      simp
end Go.Proofs.YtbmakfdljddhcaaGreatDoor
