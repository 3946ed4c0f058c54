/- Where the words stand: purely. -/
import Derived.Test.YtjgijbeedgggdaaGreatDoorDocM
namespace Go.Proofs.YtjgijbeedgggdaaGreatDoor
open Go

/-- The end of the word ahead of the i-th. -/
def prevE (xs : List (Nat × Nat)) : Nat → Nat
  | 0 => 0
  | i + 1 => (xs[i]?.map (·.2)).getD 0
theorem prevE_append (xs ys : List (Nat × Nat)) (i : Nat) (h : i ≤ xs.length) : prevE (xs ++ ys) i = prevE xs i := by
  cases i with
  | zero => rfl
  | succ i =>
    show ((xs ++ ys)[i]?.map (·.2)).getD 0 = (xs[i]?.map (·.2)).getD 0
    rw [List.getElem?_append_left (by omega)]
theorem prevE_last (xs : List (Nat × Nat)) (y : Nat × Nat) : prevE (xs ++ [y]) (xs.length + 1) = y.2 := by
  unfold prevE; simp
def Bls (l : List UInt8) (a b : Nat) : Prop := ∀ j c, a ≤ j → j < b → l[j]? = some c → isBl c = true
/-- Each word stands behind the one ahead, and there are none but blanks between. -/
def PCov (l : List UInt8) (xs : List (Nat × Nat)) : Prop := ∀ i a b, xs[i]? = some (a, b) → a < b ∧ b ≤ l.length ∧ (∃ c, l[a]? = some c ∧ isBl c = false) ∧ prevE xs i ≤ a ∧ (0 < i → prevE xs i < a) ∧ Bls l (prevE xs i) a
theorem PCov.snoc {l : List UInt8} {xs : List (Nat × Nat)} {a b : Nat} (h : PCov l xs) (h1 : a < b) (h2 : b ≤ l.length) (h3 : ∃ c, l[a]? = some c ∧ isBl c = false) (h4 : prevE xs xs.length ≤ a) (h5 : xs ≠ [] → prevE xs xs.length < a) (h6 : Bls l (prevE xs xs.length) a) : PCov l (xs ++ [(a, b)]) := by
  intro i x y hxy
  have hi := (List.getElem?_eq_some_iff.1 hxy).1
  rw [List.length_append] at hi
  simp at hi
  by_cases hlt : i < xs.length
  · rw [List.getElem?_append_left hlt] at hxy
    rw [prevE_append _ _ _ (by omega)]
    exact h i x y hxy
  · obtain rfl : i = xs.length := by omega
    rw [prevE_append _ _ _ (Nat.le_refl _)]
    rw [List.getElem?_append_right (Nat.le_refl _)] at hxy
    simp at hxy
    obtain ⟨rfl, rfl⟩ := hxy
    exact ⟨h1, h2, h3, h4, fun hp => h5 (fun e => by rw [e] at hp; simp at hp), h6⟩
structure CI (l : List UInt8) (k : Nat) (s : St) : Prop where
  cov : PCov l s.out
  low : prevE s.out s.out.length ≤ k
  free : s.now = 0 → Bls l (prevE s.out s.out.length) k ∧ (s.out ≠ [] → prevE s.out s.out.length < k)
  word : s.now ≠ 0 → prevE s.out s.out.length ≤ s.beg ∧ s.beg < k ∧ (∃ c, l[s.beg]? = some c ∧ isBl c = false) ∧ Bls l (prevE s.out s.out.length) s.beg ∧ (s.out ≠ [] → prevE s.out s.out.length < s.beg)
  quot : 3 ≤ s.now → s.quo < k ∧ (l[s.quo]? = some 34 ∨ l[s.quo]? = some 39)
theorem behN_zero (now : Nat) (b e : UInt8) (h : behN now b e = 0) : isBl b = true ∧ now ≠ 2 ∧ now ≠ 3 ∧ now ≠ 4 ∧ now ≠ 5 := by
  unfold behN at h
  by_cases h2 : now = 2
  · rw [if_pos h2] at h; omega
  rw [if_neg h2] at h
  by_cases h3 : now = 3
  · rw [if_pos h3] at h; split at h <;> omega
  rw [if_neg h3] at h
  by_cases h5 : now = 5
  · rw [if_pos h5] at h; omega
  rw [if_neg h5] at h
  by_cases h4 : now = 4
  · rw [if_pos h4] at h
    split at h
    · omega
    · split at h <;> omega
  rw [if_neg h4] at h
  refine ⟨?_, h2, h3, h4, h5⟩
  cases hb : isBl b
  · exact absurd h (outN_ne b e hb)
  · rfl
theorem behN_quote (now : Nat) (b e : UInt8) (hn : now < 3) (h : 3 ≤ behN now b e) : b = 34 ∨ b = 39 := by
  unfold behN at h
  by_cases h2 : now = 2
  · rw [if_pos h2] at h; omega
  rw [if_neg h2, if_neg (by omega), if_neg (by omega), if_neg (by omega)] at h
  unfold outN at h
  by_cases h3 : b = 39
  · exact .inr h3
  · by_cases h4 : b = 34
    · exact .inl h4
    · rw [if_neg h3, if_neg h4] at h
      repeat' split at h
      all_goals omega
theorem behN_nb (b e : UInt8) (h : behN 0 b e ≠ 0) : isBl b = false := by
  cases hb : isBl b
  · rfl
  · exact absurd (by simp [behN, outN, hb]) h
theorem cov_all (e : UInt8) (l : List UInt8) (k : Nat) (hk : k ≤ l.length) : CI l k (stA e l k) := by
  refine stA_ind e l (fun k s => CI l k s) ⟨fun i a b h => by simp [st0] at h, Nat.le_refl _, fun _ => ⟨fun j c h1 h2 => by omega, fun h => absurd rfl h⟩, fun h => absurd rfl h, fun h => by simp [st0] at h⟩ ?_ k hk
  intro k b hg hc
  have hkl := (List.getElem?_eq_some_iff.1 hg).1
  generalize stA e l k = s at *
  obtain ⟨out, now, beg, quo⟩ := s
  obtain ⟨c1, c2, c3, c4, c5⟩ := hc
  simp only at c1 c2 c3 c4 c5
  have q5 : 3 ≤ behN now b e → (if now < 3 ∧ 3 ≤ behN now b e then k else quo) < k + 1 ∧ (l[(if now < 3 ∧ 3 ≤ behN now b e then k else quo)]? = some 34 ∨ l[(if now < 3 ∧ 3 ≤ behN now b e then k else quo)]? = some 39) := by
    intro h3
    by_cases hn : now < 3
    · rw [if_pos ⟨hn, h3⟩]
      refine ⟨by omega, ?_⟩
      rw [hg]
      rcases behN_quote now b e hn h3 with h | h <;> rw [h]
      · exact .inl rfl
      · exact .inr rfl
    · rw [if_neg (fun h => hn h.1)]
      have := c5 (by omega)
      exact ⟨by omega, this.2⟩
  by_cases hn : now = 0
  · subst hn
    obtain ⟨f1, f2⟩ := c3 rfl
    by_cases ht : behN 0 b e = 0
    · have hb := (behN_zero 0 b e ht).1
      have E : stepS e b k ⟨out, 0, beg, quo⟩ = ⟨out, 0, beg, quo⟩ := step_0b e b k _ rfl hb
      rw [E]
      refine ⟨c1, by simp only; omega, fun _ => ⟨fun j c h1 h2 h3 => ?_, fun h => by have := f2 h; simp only; omega⟩, fun h => absurd rfl h, fun h => by simp at h⟩
      rcases Nat.lt_succ_iff_lt_or_eq.1 h2 with h4 | h4
      · exact f1 j c h1 h4 h3
      · subst h4; rw [hg] at h3; cases h3; exact hb
    · have hb := behN_nb b e ht
      have hw : CI l (k + 1) ⟨out, behN 0 b e, k, if 0 < 3 ∧ 3 ≤ behN 0 b e then k else quo⟩ := ⟨c1, by simp only; omega, fun h => absurd h ht, fun _ => ⟨c2, by simp only; omega, ⟨b, hg, hb⟩, f1, f2⟩, q5⟩
      have E : stepS e b k ⟨out, 0, beg, quo⟩ = ⟨out, behN 0 b e, k, if 0 < 3 ∧ 3 ≤ behN 0 b e then k else quo⟩ := by
        simp [stepS, ht]
      rw [E]; exact hw
  · obtain ⟨w1, w2, w3, w4, w5⟩ := c4 hn
    by_cases ht : behN now b e = 0
    · have hb := (behN_zero now b e ht).1
      have E : stepS e b k ⟨out, now, beg, quo⟩ = ⟨out ++ [(beg, k)], 0, beg, quo⟩ := by
        unfold stepS
        simp only
        rw [if_pos ⟨hn, ht⟩, if_neg (fun h => hn h.1), if_neg (fun h => by omega), ht]
      rw [E]
      have hl : prevE (out ++ [(beg, k)]) (out ++ [(beg, k)]).length = k := by rw [List.length_append]; exact prevE_last out (beg, k)
      refine ⟨c1.snoc w2 (by omega) w3 w1 w5 w4, by simp only; rw [hl]; omega, fun _ => ⟨?_, fun _ => by simp only; rw [hl]; omega⟩, fun h => absurd rfl h, fun h => by simp at h⟩
      simp only
      rw [hl]
      intro j c h1 h2 h3
      obtain rfl : j = k := by omega
      rw [hg] at h3; cases h3; exact hb
    · have E : stepS e b k ⟨out, now, beg, quo⟩ = ⟨out, behN now b e, beg, if now < 3 ∧ 3 ≤ behN now b e then k else quo⟩ := by
        unfold stepS
        simp only
        rw [if_neg (fun h => ht h.2), if_neg (fun h => hn h.1)]
      rw [E]
      exact ⟨c1, by simp only; omega, fun h => absurd h ht, fun _ => ⟨w1, by simp only; omega, w3, w4, w5⟩, q5⟩
theorem split_cov (e : UInt8) (l : List UInt8) (xs : List (Nat × Nat)) (h : splitR e l = .ok xs) : PCov l xs ∧ Bls l (prevE xs xs.length) l.length ∧ prevE xs xs.length ≤ l.length := by
  have hc := cov_all e l l.length (Nat.le_refl _)
  unfold splitR at h
  by_cases h3 : 3 ≤ (stA e l l.length).now
  · rw [if_pos h3] at h; cases h
  rw [if_neg h3] at h
  cases h
  by_cases h0 : (stA e l l.length).now = 0
  · rw [if_neg (fun h => h h0)]
    exact ⟨hc.cov, (hc.free h0).1, hc.low⟩
  · rw [if_pos h0]
    obtain ⟨w1, w2, w3, w4, w5⟩ := hc.word h0
    have hl : prevE ((stA e l l.length).out ++ [((stA e l l.length).beg, l.length)]) ((stA e l l.length).out ++ [((stA e l l.length).beg, l.length)]).length = l.length := by rw [List.length_append]; exact prevE_last _ _
    rw [hl]
    exact ⟨hc.cov.snoc w2 (Nat.le_refl _) w3 w1 w5 w4, fun j c h1 h2 => by omega, Nat.le_refl _⟩
theorem split_quo (e : UInt8) (l : List UInt8) (q : Nat) (h : splitR e l = .error q) : q < l.length ∧ (l[q]? = some 34 ∨ l[q]? = some 39) := by
  have hc := cov_all e l l.length (Nat.le_refl _)
  unfold splitR at h
  by_cases h3 : 3 ≤ (stA e l l.length).now
  · rw [if_pos h3] at h; cases h
    exact hc.quot h3
  · rw [if_neg h3] at h; cases h
end Go.Proofs.YtjgijbeedgggdaaGreatDoor
