/- Texts without blanks at their ends, purely. -/
import Derived.Test.YtjgijbeedgggdaaGreatDoorReM
import Derived.Lib.SlTrimSet
namespace Go.Proofs.YtjgijbeedgggdaaGreatDoor
open Go

theorem bl3 : (fun b : UInt8 => [32, 9, 13].contains b) = isBl := by
  funext b
  simp [isBl, List.contains, List.elem]
  cases h1 : b == 32 <;> cases h2 : b == 9 <;> cases h3 : b == 13 <;> simp_all
theorem dropWhile_drop (p : UInt8 → Bool) : ∀ l : Ln, l.dropWhile p = l.drop (l.takeWhile p).length
  | [] => rfl
  | b :: l => by
    by_cases h : p b = true
    · rw [List.dropWhile_cons_of_pos h, List.takeWhile_cons_of_pos h, List.length_cons, List.drop_succ_cons, dropWhile_drop p l]
    · rw [List.dropWhile_cons_of_neg h, List.takeWhile_cons_of_neg h]; rfl
theorem trimLeft3 (x : Ln) : Lib.trimLeftS x [32, 9, 13] = x.drop (hd x) := by
  unfold Lib.trimLeftS; rw [bl3, dropWhile_drop]; rfl
theorem dropWhile_rev_take (p : UInt8 → Bool) (x : Ln) : (x.reverse.dropWhile p).reverse = x.take (x.reverse.dropWhile p).length := by
  have h : x.reverse.takeWhile p ++ x.reverse.dropWhile p = x.reverse := List.takeWhile_append_dropWhile
  have h2 := congrArg List.reverse h
  rw [List.reverse_append, List.reverse_reverse] at h2
  have hl : (x.reverse.dropWhile p).length = ((x.reverse.dropWhile p).reverse).length := (List.length_reverse).symm
  calc (x.reverse.dropWhile p).reverse = ((x.reverse.dropWhile p).reverse ++ (x.reverse.takeWhile p).reverse).take (x.reverse.dropWhile p).length := by rw [hl, List.take_left']; rfl
    _ = _ := by rw [h2]
theorem trimRight3 (x : Ln) : Lib.trimRightS x [32, 9, 13] = x.take (en x) := by
  unfold Lib.trimRightS; rw [bl3, dropWhile_rev_take]; rfl
theorem tw_all (p : UInt8 → Bool) (l : Ln) : ∀ b ∈ l.takeWhile p, p b = true := fun b hb => List.all_eq_true.1 List.all_takeWhile b hb
theorem dw_nil (p : UInt8 → Bool) : ∀ l : Ln, (∀ b ∈ l, p b = true) → l.dropWhile p = []
  | [], _ => rfl
  | b :: l, h => by rw [List.dropWhile_cons_of_pos (h b List.mem_cons_self)]; exact dw_nil p l (fun c hc => h c (List.mem_cons_of_mem _ hc))
theorem dw_nil' (p : UInt8 → Bool) (l : Ln) (h : l.dropWhile p = []) : ∀ b ∈ l, p b = true := by
  have e := List.takeWhile_append_dropWhile (p := p) (l := l)
  rw [h, List.append_nil] at e
  intro b hb; rw [← e] at hb; exact tw_all p l b hb
theorem tw_self (p : UInt8 → Bool) (l : Ln) (h : ∀ b ∈ l, p b = true) : l.takeWhile p = l := by
  have e := List.takeWhile_append_dropWhile (p := p) (l := l)
  rwa [dw_nil p l h, List.append_nil] at e
theorem hd_leT (x : Ln) : hd x ≤ x.length := (List.takeWhile_sublist _).length_le
theorem hd_allT (x : Ln) (h : hd x = x.length) : ∀ b ∈ x, isBl b = true := by
  have e : x.takeWhile isBl = x := (List.takeWhile_sublist _).eq_of_length h
  intro b hb
  rw [← e] at hb
  exact tw_all isBl x b hb
theorem en_allT (x : Ln) (h : ∀ b ∈ x, isBl b = true) : en x = 0 := by
  unfold en
  rw [dw_nil isBl _ (fun b hb => h b (List.mem_reverse.1 hb))]; rfl
theorem en_zero (x : Ln) (h : en x = 0) : hd x = x.length := by
  unfold en at h
  have h1 := dw_nil' isBl _ (List.eq_nil_of_length_eq_zero h)
  unfold hd
  rw [tw_self isBl _ (fun b hb => h1 b (List.mem_reverse.2 hb))]
/-- The head of a line stands ahead of its end. -/
theorem hd_enT (x : Ln) (h : hd x < x.length) : hd x < en x := by
  rcases Nat.lt_or_ge (hd x) (en x) with h1 | h1
  · exact h1
  · exfalso
    have hb : (x.drop (en x)).all isBl = true := by
      have e : x.reverse.takeWhile isBl ++ x.reverse.dropWhile isBl = x.reverse := List.takeWhile_append_dropWhile
      have e2 := congrArg List.reverse e
      rw [List.reverse_append, List.reverse_reverse] at e2
      have e3 : x.drop (en x) = (x.reverse.takeWhile isBl).reverse := by
        have e4 : x.drop (en x) = ((x.reverse.dropWhile isBl).reverse ++ (x.reverse.takeWhile isBl).reverse).drop (en x) := by rw [e2]
        rw [e4, List.drop_left' (by rw [List.length_reverse]; rfl)]
      rw [e3, List.all_reverse, List.all_takeWhile]
    have hx : isBl (x[hd x]) = true := List.all_eq_true.1 hb _ (by
      rw [List.mem_iff_getElem?]
      exact ⟨hd x - en x, by rw [List.getElem?_drop, show en x + (hd x - en x) = hd x by omega, List.getElem?_eq_getElem h]⟩)
    have : ¬ isBl (x[hd x]) = true := by
      have e := List.takeWhile_append_dropWhile (p := isBl) (l := x)
      have hne : x.dropWhile isBl ≠ [] := fun e2 => by rw [e2, List.append_nil] at e; have := congrArg List.length e; unfold hd at h; omega
      have h0 := List.head_dropWhile_not isBl hne
      have h2 : x[hd x] = (x.dropWhile isBl).head hne := by
        rw [List.head_eq_getElem]
        simp only [dropWhile_drop isBl x]
        rw [List.getElem_drop]; rfl
      rw [h2, h0]; decide
    exact this hx
theorem takeWhile_take (p : UInt8 → Bool) : ∀ (x : Ln) (k : Nat), (x.takeWhile p).length < k → ((x.take k).takeWhile p).length = (x.takeWhile p).length
  | [], k, _ => by simp
  | b :: x, 0, h => by omega
  | b :: x, k + 1, h => by
    rw [List.take_succ_cons]
    by_cases hb : p b = true
    · rw [List.takeWhile_cons_of_pos hb] at h ⊢
      rw [List.takeWhile_cons_of_pos hb, List.length_cons, List.length_cons, takeWhile_take p x k (by rw [List.length_cons] at h; omega)]
    · rw [List.takeWhile_cons_of_neg hb, List.takeWhile_cons_of_neg hb]
theorem trim3 (x : Ln) : Lib.trimS x [32, 9, 13] = trimL x := by
  unfold Lib.trimS trimL
  rw [trimRight3, trimLeft3]
  rcases Nat.lt_or_ge (hd x) x.length with h | h
  · have h1 := hd_enT x h
    congr 1
    exact takeWhile_take isBl x (en x) h1
  · have e := en_allT x (hd_allT x (Nat.le_antisymm (hd_leT x) h))
    rw [e]; simp
theorem trimL_nil (x : Ln) : trimL x = [] ↔ hd x = x.length := by
  unfold trimL
  constructor
  · intro h
    rcases Nat.lt_or_ge (hd x) x.length with h2 | h2
    · have h1 := hd_enT x h2
      have := congrArg List.length h
      rw [List.length_drop, List.length_take, Nat.min_eq_left (en_le x), List.length_nil] at this
      omega
    · exact Nat.le_antisymm (hd_leT x) h2
  · intro h
    rw [en_allT x (hd_allT x h)]; simp
end Go.Proofs.YtjgijbeedgggdaaGreatDoor
