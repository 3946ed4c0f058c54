/- Lines of a build file, purely: heads, ends, lines that go on, places. -/
import Derived.Test.YtjgijbeedgggdaaGreatDoorWordM
namespace Go.Proofs.YtjgijbeedgggdaaGreatDoor
open Go

abbrev Ln := List UInt8
/-- Where a line's head is: its length, if it has none. -/
def hd (x : Ln) : Nat := (x.takeWhile isBl).length
/-- The place behind the last byte that is no blank: 0, if there is none. -/
def en (x : Ln) : Nat := (x.reverse.dropWhile isBl).length
/-- Is a line empty, or a remark? -/
def noth (x : Ln) : Bool := x[hd x]? == none || x[hd x]? == some 35
structure Mk where
  pos : Nat
  line : Nat
  col : Nat
deriving DecidableEq
/-- Does a line go on, from a place on? -/
def goesOn (e : UInt8) (fr : Nat) (x : Ln) : Bool := decide (fr < en x) && x[en x - 1]? == some e
def edN (e : UInt8) (fr : Nat) (x : Ln) : Nat := if goesOn e fr x = true then en x - 1 else x.length
def segN (e : UInt8) (fr : Nat) (x : Ln) : Ln := (x.take (edN e fr x)).drop fr
def mksN (e : UInt8) (fr n i : Nat) (x : Ln) : List Mk := if fr < edN e fr x then [⟨n, i + 1, fr + 1⟩] else []
/-- The marks, the text and the line behind, of an l-line: the lines from the i-th on, the place in the first one, how long the text is so far, whether lines that say nothing are passed over. -/
def joinG (e : UInt8) : List Ln → Nat → Nat → Nat → Bool → List Mk × Ln × Nat
  | [], i, _, _, _ => ([], [], i)
  | x :: r, i, fr, n, sk =>
    if (sk && noth x) = true then joinG e r (i + 1) fr n sk
    else if goesOn e fr x = true then
      (mksN e fr n i x ++ (joinG e r (i + 1) 0 (n + (segN e fr x).length) true).1, segN e fr x ++ (joinG e r (i + 1) 0 (n + (segN e fr x).length) true).2.1, (joinG e r (i + 1) 0 (n + (segN e fr x).length) true).2.2)
    else (mksN e fr n i x, segN e fr x, i + 1)

theorem segN_length (e : UInt8) (fr : Nat) (x : Ln) : (segN e fr x).length = min (edN e fr x) x.length - fr := by simp [segN]
theorem en_le (x : Ln) : en x ≤ x.length := by
  unfold en
  have := (List.dropWhile_sublist isBl (l := x.reverse)).length_le
  rwa [List.length_reverse] at this
theorem edN_le (e : UInt8) (fr : Nat) (x : Ln) : edN e fr x ≤ x.length := by
  have := en_le x
  unfold edN; split <;> omega
theorem segN_len (e : UInt8) (fr : Nat) (x : Ln) : (segN e fr x).length = edN e fr x - fr := by
  rw [segN_length, Nat.min_eq_left (edN_le e fr x)]
theorem segN_get (e : UInt8) (fr : Nat) (x : Ln) (k : Nat) (h : k < (segN e fr x).length) : (segN e fr x)[k]? = x[fr + k]? ∧ fr + k < x.length := by
  rw [segN_len] at h
  have := edN_le e fr x
  refine ⟨?_, by omega⟩
  unfold segN
  rw [List.getElem?_drop, List.getElem?_take, if_pos (by omega)]
/-- Where the marks lie: not ahead of the text so far, their lines rise from the i-th on, the next line is behind them. -/
theorem join_marks (e : UInt8) : ∀ (l : List Ln) (i fr n : Nat) (sk : Bool), (∀ q ∈ (joinG e l i fr n sk).1, n ≤ q.pos ∧ i < q.line ∧ q.line ≤ (joinG e l i fr n sk).2.2) ∧ (joinG e l i fr n sk).1.Pairwise (fun a b => a.line < b.line) ∧ i ≤ (joinG e l i fr n sk).2.2 ∧ (joinG e l i fr n sk).2.2 ≤ i + l.length
  | [], i, fr, n, sk => by simp [joinG]
  | x :: r, i, fr, n, sk => by
    unfold joinG
    by_cases h1 : (sk && noth x) = true
    · rw [if_pos h1]
      obtain ⟨a1, a2, a3, a4⟩ := join_marks e r (i + 1) fr n sk
      refine ⟨fun q hq => ?_, a2, by omega, by rw [List.length_cons]; omega⟩
      obtain ⟨b1, b2, b3⟩ := a1 q hq
      exact ⟨b1, by omega, b3⟩
    · rw [if_neg h1]
      have hm : ∀ q ∈ mksN e fr n i x, q.pos = n ∧ q.line = i + 1 := by
        intro q hq
        unfold mksN at hq
        split at hq
        · simp at hq; subst hq; exact ⟨rfl, rfl⟩
        · simp at hq
      by_cases h2 : goesOn e fr x = true
      · rw [if_pos h2]
        obtain ⟨a1, a2, a3, a4⟩ := join_marks e r (i + 1) 0 (n + (segN e fr x).length) true
        refine ⟨fun q hq => ?_, ?_, by simp only; omega, by simp only [List.length_cons]; omega⟩
        · rcases List.mem_append.1 hq with h | h
          · obtain ⟨b1, b2⟩ := hm q h
            exact ⟨by omega, by omega, by simp only; omega⟩
          · obtain ⟨b1, b2, b3⟩ := a1 q h
            exact ⟨by omega, by omega, b3⟩
        · rw [List.pairwise_append]
          refine ⟨?_, a2, fun a ha b hb => ?_⟩
          · unfold mksN; split <;> simp
          · have := (hm a ha).2; have := (a1 b hb).2.1; omega
      · rw [if_neg h2]
        refine ⟨fun q hq => ?_, ?_, by simp only; omega, by simp only [List.length_cons]; omega⟩
        · obtain ⟨b1, b2⟩ := hm q hq
          exact ⟨by omega, by omega, by simp only; omega⟩
        · show (mksN e fr n i x).Pairwise _
          unfold mksN; split <;> simp
/-- Each byte of the text stands in the file where the last mark that is not behind it tells. -/
theorem join_place (e : UInt8) (f : List Ln) : ∀ (l : List Ln) (i fr n : Nat) (sk : Bool), f.drop i = l → ∀ k, k < (joinG e l i fr n sk).2.1.length →
    ∃ (pre post : List Mk) (q : Mk) (y : Ln), (joinG e l i fr n sk).1 = pre ++ q :: post ∧ q.pos ≤ n + k ∧ (∀ p ∈ post, n + k < p.pos) ∧ 1 ≤ q.line ∧ 1 ≤ q.col ∧ f[q.line - 1]? = some y ∧ y[q.col - 1 + (n + k - q.pos)]? = (joinG e l i fr n sk).2.1[k]? ∧ q.col - 1 + (n + k - q.pos) < y.length
  | [], i, fr, n, sk, _, k, hk => by simp [joinG] at hk
  | x :: r, i, fr, n, sk, hf, k, hk => by
    have hfr : f.drop (i + 1) = r := by rw [← List.tail_drop, hf]; rfl
    have hfi : f[i]? = some x := by
      have := List.getElem?_drop (xs := f) (i := i) (j := 0)
      rw [hf] at this; simpa using this.symm
    unfold joinG at hk ⊢
    by_cases h1 : (sk && noth x) = true
    · rw [if_pos h1] at hk ⊢
      exact join_place e f r (i + 1) fr n sk hfr k hk
    · rw [if_neg h1] at hk ⊢
      have key : ∀ (post : List Mk) (T : Ln), (∀ p ∈ post, n + (segN e fr x).length ≤ p.pos) → k < (segN e fr x).length →
          ∃ (pre post' : List Mk) (q : Mk) (y : Ln), mksN e fr n i x ++ post = pre ++ q :: post' ∧ q.pos ≤ n + k ∧ (∀ p ∈ post', n + k < p.pos) ∧ 1 ≤ q.line ∧ 1 ≤ q.col ∧ f[q.line - 1]? = some y ∧ y[q.col - 1 + (n + k - q.pos)]? = (segN e fr x ++ T)[k]? ∧ q.col - 1 + (n + k - q.pos) < y.length := by
        intro post T hp hlt
        have hlen := hlt
        rw [segN_len] at hlen
        obtain ⟨g1, g2⟩ := segN_get e fr x k hlt
        refine ⟨[], post, ⟨n, i + 1, fr + 1⟩, x, ?_, by simp only; omega, fun p h => by have := hp p h; omega, by simp, by simp, by simpa using hfi, ?_, ?_⟩
        · unfold mksN; rw [if_pos (by omega)]; rfl
        · rw [List.getElem?_append_left hlt, g1]; simp
        · simp only [Nat.add_sub_cancel, Nat.add_sub_cancel_left]; exact g2
      by_cases h2 : goesOn e fr x = true
      · rw [if_pos h2] at hk ⊢
        simp only at hk ⊢
        by_cases hlt : k < (segN e fr x).length
        · exact key _ _ (fun p hp => ((join_marks e r (i + 1) 0 (n + (segN e fr x).length) true).1 p hp).1) hlt
        · rw [List.length_append] at hk
          obtain ⟨pre, post, q, y, c1, c2, c3, c4, c5, c6, c7, c8⟩ := join_place e f r (i + 1) 0 (n + (segN e fr x).length) true hfr (k - (segN e fr x).length) (by omega)
          have hnk : n + (segN e fr x).length + (k - (segN e fr x).length) = n + k := by omega
          rw [hnk] at c2 c3 c7 c8
          refine ⟨mksN e fr n i x ++ pre, post, q, y, by rw [c1, List.append_assoc], c2, c3, c4, c5, c6, ?_, c8⟩
          rw [c7, List.getElem?_append_right (by omega)]
      · rw [if_neg h2] at hk ⊢
        simp only at hk ⊢
        have := key [] [] (fun p hp => by cases hp) hk
        simpa using this
end Go.Proofs.YtjgijbeedgggdaaGreatDoor
