/- Takers, one behind the other, and things: what they take, told from the front and from the back; and why only the last taker of many needs to be tried again. Nothing of a program. -/
import Derived.WalkKit
namespace Go.Proofs.YthkbhcefckbcnaaGreatDoor

/-- The first k takers take just the first i things. -/
def Rch (m : Nat → Bool) (t : Nat → Nat → Bool) : Nat → Nat → Prop
  | 0, i => i = 0
  | k + 1, i => (m k = true ∧ ∃ j, j ≤ i ∧ Rch m t k j) ∨ (m k = false ∧ ∃ j, i = j + 1 ∧ t k j = true ∧ Rch m t k j)
/-- The last r takers of n take just the things from j on, of T. -/
def Rst (m : Nat → Bool) (t : Nat → Nat → Bool) (n T : Nat) : Nat → Nat → Prop
  | 0, j => j = T
  | r + 1, j => (m (n - (r + 1)) = true ∧ ∃ i, j ≤ i ∧ i ≤ T ∧ Rst m t n T r i) ∨ (m (n - (r + 1)) = false ∧ j < T ∧ t (n - (r + 1)) j = true ∧ Rst m t n T r (j + 1))

section
variable {m : Nat → Bool} {t : Nat → Nat → Bool} {n T : Nat}

/-- The takers from k on, and the things from j on. -/
def Rest (m : Nat → Bool) (t : Nat → Nat → Bool) (n T k j : Nat) : Prop := Rst m t n T (n - k) j
theorem rest_end (j : Nat) : Rest m t n T n j ↔ j = T := by unfold Rest; simp [Rst]
theorem rest_many {k : Nat} (h : k < n) (hm : m k = true) (j : Nat) : Rest m t n T k j ↔ ∃ i, j ≤ i ∧ i ≤ T ∧ Rest m t n T (k + 1) i := by
  unfold Rest
  obtain ⟨r, hr⟩ : ∃ r, n - k = r + 1 := ⟨n - k - 1, by omega⟩
  rw [hr, show n - (k + 1) = r by omega]
  simp only [Rst, show n - (r + 1) = k by omega, hm]; simp
theorem rest_one {k : Nat} (h : k < n) (hm : m k = false) (j : Nat) : Rest m t n T k j ↔ j < T ∧ t k j = true ∧ Rest m t n T (k + 1) (j + 1) := by
  unfold Rest
  obtain ⟨r, hr⟩ : ∃ r, n - k = r + 1 := ⟨n - k - 1, by omega⟩
  rw [hr, show n - (k + 1) = r by omega]
  simp only [Rst, show n - (r + 1) = k by omega, hm]; simp
theorem rest_le : ∀ {r k j : Nat}, n - k = r → Rest m t n T k j → j ≤ T
  | 0, k, j, hr, h => by unfold Rest at h; rw [hr] at h; simp [Rst] at h; omega
  | r + 1, k, j, hr, h => by
    cases hm : m k
    · have := (rest_one (by omega) hm j).1 h; omega
    · obtain ⟨i, h1, h2, _⟩ := (rest_many (by omega) hm j).1 h; omega
/-- What is taken up to k from the front, and from k on: the same at every k. -/
theorem meet (k : Nat) (hk : k ≤ n) : (∃ i, Rch m t k i ∧ Rest m t n T k i) ↔ Rest m t n T 0 0 := by
  induction k with
  | zero => simp [Rch]
  | succ k ih =>
    rw [← ih (by omega)]
    cases hm : m k
    · constructor
      · rintro ⟨i, h1, h2⟩
        rcases h1 with ⟨h, _⟩ | ⟨_, j, rfl, ht, hj⟩
        · rw [hm] at h; cases h
        · exact ⟨j, hj, (rest_one (by omega) hm j).2 ⟨by have := rest_le rfl h2; omega, ht, h2⟩⟩
      · rintro ⟨i, h1, h2⟩
        obtain ⟨_, ht, h3⟩ := (rest_one (by omega) hm i).1 h2
        exact ⟨i + 1, .inr ⟨hm, i, rfl, ht, h1⟩, h3⟩
    · constructor
      · rintro ⟨i, h1, h2⟩
        rcases h1 with ⟨_, j, hji, hj⟩ | ⟨h, _⟩
        · exact ⟨j, hj, (rest_many (by omega) hm j).2 ⟨i, hji, rest_le rfl h2, h2⟩⟩
        · rw [hm] at h; cases h
      · rintro ⟨i, h1, h2⟩
        obtain ⟨i2, h3, _, h4⟩ := (rest_many (by omega) hm i).1 h2
        exact ⟨i2, .inl ⟨hm, i, h3, h1⟩, h4⟩
theorem all_taken : Rch m t n T ↔ Rest m t n T 0 0 := by
  rw [← meet (m := m) (t := t) (T := T) n (Nat.le_refl n)]
  constructor
  · intro h; exact ⟨T, h, (rest_end T).2 rfl⟩
  · rintro ⟨i, h1, h2⟩; rw [rest_end] at h2; subst h2; exact h1

/-- Takers first to i - 1 are takers of one, and took what stands from `from` on. -/
def Run (m : Nat → Bool) (t : Nat → Nat → Bool) (first i frm : Nat) : Prop := first ≤ i ∧ ∀ c, c < i - first → m (first + c) = false ∧ t (first + c) (frm + c) = true
theorem Run.nil (first frm : Nat) : Run m t first first frm := ⟨Nat.le_refl _, fun c h => by omega⟩
theorem Run.snoc {first i frm : Nat} (h : Run m t first i frm) (hm : m i = false) (ht : t i (frm + (i - first)) = true) : Run m t first (i + 1) frm := by
  obtain ⟨h1, h2⟩ := h
  refine ⟨by omega, fun c hc => ?_⟩
  by_cases he : c = i - first
  · subst he; rw [show first + (i - first) = i by omega]; exact ⟨hm, ht⟩
  · exact h2 c (by omega)
theorem Run.rest {first frm : Nat} : ∀ {i : Nat}, i ≤ n → Run m t first i frm → frm + (i - first) ≤ T → (Rest m t n T first frm ↔ Rest m t n T i (frm + (i - first)))
  | 0, _, h, _ => by obtain ⟨h1, _⟩ := h; obtain rfl : first = 0 := by omega
                     simp
  | i + 1, hi, h, hT => by
    obtain ⟨h1, h2⟩ := h
    by_cases he : first = i + 1
    · subst he; simp
    · have hr : Run m t first i frm := ⟨by omega, fun c hc => h2 c (by omega)⟩
      rw [Run.rest (by omega) hr (by omega)]
      have h3 := h2 (i - first) (by omega)
      rw [show first + (i - first) = i by omega] at h3
      rw [rest_one (by omega) h3.1, show frm + (i + 1 - first) = frm + (i - first) + 1 by omega]
      constructor
      · exact fun h => h.2.2
      · exact fun h => ⟨by omega, h3.2, h⟩
theorem Run.shift {first frm : Nat} : ∀ {i j : Nat}, i ≤ n → Run m t first i frm → Rest m t n T first j → Rest m t n T i (j + (i - first))
  | 0, j, _, h, hr => by obtain ⟨h1, _⟩ := h; obtain rfl : first = 0 := by omega
                         simpa using hr
  | i + 1, j, hi, h, hr => by
    obtain ⟨h1, h2⟩ := h
    by_cases he : first = i + 1
    · subst he; simpa using hr
    · have h4 := Run.shift (i := i) (by omega) ⟨by omega, fun c hc => h2 c (by omega)⟩ hr
      have h3 := h2 (i - first) (by omega)
      rw [show first + (i - first) = i by omega] at h3
      have h5 := (rest_one (by omega) h3.1 _).1 h4
      rw [show j + (i + 1 - first) = j + (i - first) + 1 by omega]; exact h5.2.2

/-- What the loop keeps: where a taker of many stands ahead, some place from `from` on is one from which the rest is taken; else it is the beginning. -/
def Keeps (m : Nat → Bool) (t : Nat → Nat → Bool) (n T first frm : Nat) (free : Bool) : Prop :=
  if free = true then (Rest m t n T 0 0 ↔ ∃ j, frm ≤ j ∧ Rest m t n T first j) else (Rest m t n T 0 0 ↔ Rest m t n T first frm)
theorem Keeps.start : Keeps m t n T 0 0 false := by unfold Keeps; simp
theorem Keeps.many {first frm i : Nat} {free : Bool} (h : Keeps m t n T first frm free) (hr : Run m t first i frm) (hi : i < n) (hT : frm + (i - first) ≤ T) (hm : m i = true) : Keeps m t n T (i + 1) (frm + (i - first)) true := by
  unfold Keeps at h ⊢
  rw [if_pos rfl]
  cases free
  · simp only [Bool.false_eq_true, if_false] at h
    rw [h, hr.rest (by omega) hT, rest_many hi hm]
    constructor
    · rintro ⟨j, h1, _, h2⟩; exact ⟨j, h1, h2⟩
    · rintro ⟨j, h1, h2⟩; exact ⟨j, h1, rest_le rfl h2, h2⟩
  · simp only [if_true] at h
    rw [h]
    constructor
    · rintro ⟨j, h1, h2⟩
      have h3 := hr.shift (by omega) h2
      obtain ⟨j2, h4, _, h5⟩ := (rest_many hi hm _).1 h3
      exact ⟨j2, by omega, h5⟩
    · rintro ⟨j, h1, h2⟩
      exact ⟨frm, Nat.le_refl _, (hr.rest (by omega) hT).2 ((rest_many hi hm _).2 ⟨j, h1, rest_le rfl h2, h2⟩)⟩
theorem Keeps.on {first frm : Nat} (h : Keeps m t n T first frm true) (hn : ¬ Rest m t n T first frm) : Keeps m t n T first (frm + 1) true := by
  unfold Keeps at h ⊢
  rw [if_pos rfl] at h ⊢
  rw [h]
  constructor
  · rintro ⟨j, h1, h2⟩
    by_cases he : j = frm
    · subst he; exact (hn h2).elim
    · exact ⟨j, by omega, h2⟩
  · rintro ⟨j, h1, h2⟩; exact ⟨j, by omega, h2⟩
theorem Keeps.yes {first frm : Nat} {free : Bool} (h : Keeps m t n T first frm free) (hy : Rest m t n T first frm) : Rest m t n T 0 0 := by
  unfold Keeps at h
  cases free
  · simp only [Bool.false_eq_true, if_false] at h; exact h.2 hy
  · simp only [if_true] at h; exact h.2 ⟨frm, Nat.le_refl _, hy⟩
theorem Keeps.no {first frm : Nat} (h : Keeps m t n T first frm false) (hn : ¬ Rest m t n T first frm) : ¬ Rest m t n T 0 0 := by
  unfold Keeps at h
  simp only [Bool.false_eq_true, if_false] at h; exact fun h2 => hn (h.1 h2)
theorem Keeps.over {first frm : Nat} (h : Keeps m t n T first frm true) (hf : T < frm) : ¬ Rest m t n T 0 0 := by
  unfold Keeps at h
  rw [if_pos rfl] at h
  intro h2
  obtain ⟨j, h3, h4⟩ := h.1 h2
  have := rest_le rfl h4; omega
theorem Run.stuck {first frm i : Nat} (hr : Run m t first i frm) (hi : i < n) (hT : frm + (i - first) ≤ T) (hm : m i = false) (ht : ¬ (frm + (i - first) < T ∧ t i (frm + (i - first)) = true)) : ¬ Rest m t n T first frm := by
  rw [hr.rest (by omega) hT, rest_one hi hm]
  exact fun h => ht ⟨h.1, h.2.1⟩
theorem Run.whole {first frm : Nat} (hr : Run m t first n frm) (hT : frm + (n - first) ≤ T) : Rest m t n T first frm ↔ frm + (n - first) = T := by
  rw [hr.rest (Nat.le_refl _) hT, rest_end]
end

/-- Do the takers take all things? -/
def takenB (m : Nat → Bool) (t : Nat → Nat → Bool) : Nat → Nat → Bool
  | 0, i => i == 0
  | k + 1, i => if m k then (List.range (i + 1)).any (fun j => takenB m t k j) else match i with | 0 => false | j + 1 => t k j && takenB m t k j
theorem takenB_rch (m : Nat → Bool) (t : Nat → Nat → Bool) : ∀ k i : Nat, takenB m t k i = true ↔ Rch m t k i
  | 0, i => by simp [takenB, Rch]
  | k + 1, i => by
    unfold takenB Rch
    cases hm : m k
    · cases i with
      | zero => simp
      | succ j => simp [takenB_rch m t k]
    · simp [takenB_rch m t k, Nat.lt_succ_iff]
theorem takenB_rest (m : Nat → Bool) (t : Nat → Nat → Bool) (n T : Nat) : takenB m t n T = true ↔ Rest m t n T 0 0 := by rw [takenB_rch, all_taken]
theorem takenB_yes {m : Nat → Bool} {t : Nat → Nat → Bool} {n T : Nat} (h : Rest m t n T 0 0) : takenB m t n T = true := (takenB_rest m t n T).2 h
theorem takenB_no {m : Nat → Bool} {t : Nat → Nat → Bool} {n T : Nat} (h : ¬ Rest m t n T 0 0) : takenB m t n T = false := by
  cases hb : takenB m t n T
  · rfl
  · exact (h ((takenB_rest m t n T).1 hb)).elim
end Go.Proofs.YthkbhcefckbcnaaGreatDoor
