/- A text as a header says it: where the first slash stands behind which at most a hundred bytes stand. -/
import Derived.Test.YtgildlfanfbebaaGreatDoorSpec
namespace Go.Proofs.YtgildlfanfbebaaGreatDoor

def splitP (p : ByteArray) : ByteArray × ByteArray × Int :=
  if p.size ≤ 100 then (⟨#[]⟩, p, 0)
  else if ix (p.extract (p.size - 100 - 1) p.size) < 0 then (⟨#[]⟩, ⟨#[]⟩, 9)
  else if (p.extract (p.size - 100 - 1 + (ix (p.extract (p.size - 100 - 1) p.size)).toNat + 1) p.size).toList.isEmpty then (⟨#[]⟩, ⟨#[]⟩, 9)
  else if (p.extract 0 (p.size - 100 - 1 + (ix (p.extract (p.size - 100 - 1) p.size)).toNat)).toList.isEmpty then (⟨#[]⟩, ⟨#[]⟩, 9)
  else if 155 < (p.extract 0 (p.size - 100 - 1 + (ix (p.extract (p.size - 100 - 1) p.size)).toNat)).size then (⟨#[]⟩, ⟨#[]⟩, 9)
  else (p.extract 0 (p.size - 100 - 1 + (ix (p.extract (p.size - 100 - 1) p.size)).toNat), p.extract (p.size - 100 - 1 + (ix (p.extract (p.size - 100 - 1) p.size)).toNat + 1) p.size, 0)


theorem indexByte_miss (c : UInt8) : ∀ l : List UInt8, Lib.indexByte l c = -1 → ∀ j : Nat, l[j]? ≠ some c
  | [], _, j => by simp
  | b :: l, h, j => by
    unfold Lib.indexByte at h
    by_cases hb : (b == c) = true
    · rw [if_pos hb] at h; omega
    · rw [if_neg hb] at h
      have hl : Lib.indexByte l c = -1 := by
        by_cases hx : (Lib.indexByte l c == -1) = true
        · simpa using hx
        · rw [if_neg hx] at h; have := (indexByte_range c l).1; omega
      cases j with
      | zero => simpa using hb
      | succ j => simpa using indexByte_miss c l hl j
theorem indexByte_hit (c : UInt8) : ∀ (l : List UInt8) (i : Nat), Lib.indexByte l c = i → l[i]? = some c ∧ ∀ j : Nat, j < i → l[j]? ≠ some c
  | [], i, h => by simp [Lib.indexByte] at h
  | b :: l, i, h => by
    unfold Lib.indexByte at h
    by_cases hb : (b == c) = true
    · rw [if_pos hb] at h
      obtain rfl : i = 0 := by omega
      exact ⟨by simpa using hb, fun j hj => by omega⟩
    · rw [if_neg hb] at h
      by_cases hx : (Lib.indexByte l c == -1) = true
      · rw [if_pos hx] at h; omega
      · rw [if_neg hx] at h
        have h1 := (indexByte_range c l).1
        have h2 : Lib.indexByte l c ≠ -1 := by simpa using hx
        obtain ⟨k, rfl⟩ : ∃ k, i = k + 1 := ⟨i - 1, by omega⟩
        have ih := indexByte_hit c l k (by omega)
        refine ⟨by simpa using ih.1, fun j hj => ?_⟩
        cases j with
        | zero => simpa using hb
        | succ j => simpa using ih.2 j (by omega)
theorem un_getElem? (s : ByteArray) (k : Nat) (h : k < s.size) : (un s)[k]? = some s[k] := by
  show s.data.toList[k]? = some s.data[k]
  simp
theorem un_none (s : ByteArray) (k : Nat) (h : s.size ≤ k) : (un s)[k]? = none := List.getElem?_eq_none (by rw [un_length]; exact h)
theorem size_extract' (s : ByteArray) (i j : Nat) (h : j ≤ s.size) : (s.extract i j).size = j - i := by
  rw [← un_length, un_extract]; simp only [List.length_drop, List.length_take, un_length]; omega
theorem un_extract_get (s : ByteArray) (f j : Nat) : (un (s.extract f s.size))[j]? = (un s)[f + j]? := by
  rw [un_extract, List.take_of_length_le (by rw [un_length]; omega), List.getElem?_drop]

/-- Behind the slash at j at least one byte stands, and at most a hundred. -/
def good (p : ByteArray) (j : Nat) : Prop := (un p)[j]? = some 47 ∧ j + 2 ≤ p.size ∧ p.size ≤ j + 101
theorem split_hit (p : ByteArray) (k : Nat) (h : 100 < p.size) (hk : ix (p.extract (p.size - 100 - 1) p.size) = k) :
    splitP p = if p.size ≤ p.size - 100 - 1 + k + 1 then (⟨#[]⟩, ⟨#[]⟩, 9) else if p.size - 100 - 1 + k < 1 ∨ 155 < p.size - 100 - 1 + k then (⟨#[]⟩, ⟨#[]⟩, 9) else (p.extract 0 (p.size - 100 - 1 + k), p.extract (p.size - 100 - 1 + k + 1) p.size, 0) := by
  have hr := (ix_range (p.extract (p.size - 100 - 1) p.size)).2
  rw [hk, size_extract' _ _ _ (Nat.le_refl _)] at hr
  unfold splitP
  rw [if_neg (by omega), hk, if_neg (by omega), Int.toNat_natCast]
  have e1 := size_extract' p (p.size - 100 - 1 + k + 1) p.size (Nat.le_refl _)
  have e2 := size_extract' p 0 (p.size - 100 - 1 + k) (by omega)
  by_cases c1 : p.size ≤ p.size - 100 - 1 + k + 1
  · rw [if_pos c1, if_pos ((isEmpty_iff _).2 (by omega))]
  · rw [if_neg c1, if_neg (by rw [isEmpty_iff]; omega)]
    by_cases c2 : p.size - 100 - 1 + k < 1
    · rw [if_pos (Or.inl c2), if_pos ((isEmpty_iff _).2 (by omega))]
    · rw [if_neg (by rw [isEmpty_iff]; omega)]
      by_cases c3 : 155 < p.size - 100 - 1 + k
      · rw [if_pos (by omega), if_pos (Or.inr c3)]
      · rw [if_neg (by omega), if_neg (by omega)]
theorem split_cases (p : ByteArray) (h : 100 < p.size) :
    (splitP p = (⟨#[]⟩, ⟨#[]⟩, 9) ∧ ∀ j, ¬ good p j) ∨ ∃ i, good p i ∧ (∀ j, j < i → ¬ good p j) ∧ splitP p = if i < 1 ∨ 155 < i then (⟨#[]⟩, ⟨#[]⟩, 9) else (p.extract 0 i, p.extract (i + 1) p.size, 0) := by
  have hr := ix_range (p.extract (p.size - 100 - 1) p.size)
  rw [size_extract' _ _ _ (Nat.le_refl _)] at hr
  by_cases hm : ix (p.extract (p.size - 100 - 1) p.size) = -1
  · refine .inl ⟨by unfold splitP; rw [if_neg (by omega), if_pos (by omega)], fun j hg => ?_⟩
    have h1 := indexByte_miss 47 _ hm (j - (p.size - 100 - 1))
    rw [un_extract_get, show p.size - 100 - 1 + (j - (p.size - 100 - 1)) = j by have := hg.2.2; omega] at h1
    exact h1 hg.1
  · obtain ⟨k, hk⟩ : ∃ k : Nat, ix (p.extract (p.size - 100 - 1) p.size) = k := ⟨(ix (p.extract (p.size - 100 - 1) p.size)).toNat, by omega⟩
    have hh := indexByte_hit 47 _ k hk
    rw [un_extract_get] at hh
    have hs := split_hit p k h hk
    have first : ∀ j, j < p.size - 100 - 1 + k → ¬ good p j := fun j hj hg => by
      have h1 := hh.2 (j - (p.size - 100 - 1)) (by have := hg.2.2; omega)
      rw [un_extract_get, show p.size - 100 - 1 + (j - (p.size - 100 - 1)) = j by have := hg.2.2; omega] at h1
      exact h1 hg.1
    by_cases c1 : p.size ≤ p.size - 100 - 1 + k + 1
    · rw [if_pos c1] at hs
      exact .inl ⟨hs, fun j hg => first j (by have := hg.2.1; omega) hg⟩
    · rw [if_neg c1] at hs
      exact .inr ⟨_, ⟨hh.1, by omega, by omega⟩, first, hs⟩
theorem splitP_none (p : ByteArray) (h : 100 < p.size) (hn : ∀ j, j < p.size → ¬ good p j) : splitP p = (⟨#[]⟩, ⟨#[]⟩, 9) := by
  rcases split_cases p h with ⟨e, _⟩ | ⟨i, hg, _⟩
  · exact e
  · exact absurd hg (hn i (by have := hg.2.1; omega))
theorem splitP_at (p : ByteArray) (i : Nat) (h : 100 < p.size) (hi : good p i) (hn : ∀ j, j < i → ¬ good p j) : splitP p = if i < 1 ∨ 155 < i then (⟨#[]⟩, ⟨#[]⟩, 9) else (p.extract 0 i, p.extract (i + 1) p.size, 0) := by
  rcases split_cases p h with ⟨_, e⟩ | ⟨k, hg, hk, e⟩
  · exact absurd hi (e i)
  · rcases Nat.lt_trichotomy i k with h1 | h1 | h1
    · exact absurd hi (hk i h1)
    · rw [h1]; exact e
    · exact absurd hg (hn k h1)
end Go.Proofs.YtgildlfanfbebaaGreatDoor
