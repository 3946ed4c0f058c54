/- A reader of lines, purely: where it stands, and what is left. -/
import Derived.Test.YtjgijbeedgggdaaGreatDoorLexJ
namespace Go.Proofs.YtjgijbeedgggdaaGreatDoor
open Go

theorem segs_end (acc x : Ln) (h : 10 ∉ x) : segsG acc x = if acc ++ x = [] then [] else [acc ++ x] := by
  induction x generalizing acc with
  | nil => rw [List.append_nil]; rfl
  | cons b x ih =>
    have hb : b ≠ 10 := fun e => h (by rw [e]; exact List.mem_cons_self)
    rw [segsG, if_neg hb, ih _ (fun hx => h (List.mem_cons_of_mem _ hx)), List.append_assoc]; rfl
theorem cut_line (x r : Ln) (h : 10 ∉ x) : cutL (x ++ 10 :: r) = trimR x :: cutL r := by
  unfold cutL; rw [segs_line [] x r h]; simp
theorem cut_end (x : Ln) (h : 10 ∉ x) (h0 : x ≠ []) : cutL x = [trimR x] := by
  unfold cutL; rw [segs_end [] x h, List.nil_append, if_neg h0]; rfl
theorem cut_nil : cutL [] = [] := rfl
/-- A reader behind c lines of a text stands at the byte p. -/
structure Stands (s : Ln) (p c : Nat) : Prop where
  le : p ≤ s.length
  cut : cutL (s.drop p) = (cutL s).drop c
theorem Stands.start (s : Ln) : Stands s 0 0 := ⟨Nat.zero_le _, rfl⟩
theorem Stands.done {s : Ln} {p c : Nat} (h : Stands s p c) (hp : s.length ≤ p) : (cutL s)[c]? = none := by
  have e := h.cut
  rw [List.drop_of_length_le hp, cut_nil] at e
  have := congrArg List.length e
  rw [List.length_nil, List.length_drop] at this
  exact List.getElem?_eq_none (by omega)
theorem drop_succ {α : Type} {l : List α} {c : Nat} {x : α} {r : List α} (h : l.drop c = x :: r) : l[c]? = some x ∧ l.drop (c + 1) = r := by
  refine ⟨?_, ?_⟩
  · have := congrArg (fun y : List α => y[0]?) h
    simpa using this
  · have := congrArg (List.drop 1) h
    rw [List.drop_drop] at this
    simpa using this
theorem Stands.next {s : Ln} {p c k : Nat} (h : Stands s p c) (hk : (s.drop p)[k]? = some 10) (hn : 10 ∉ (s.drop p).take k) : (cutL s)[c]? = some (trimR ((s.drop p).take k)) ∧ Stands s (p + k + 1) (c + 1) := by
  have hkl := (List.getElem?_eq_some_iff.1 hk).1
  have e1 : s.drop p = (s.drop p).take k ++ 10 :: (s.drop p).drop (k + 1) := by
    have e2 : (s.drop p).drop k = 10 :: (s.drop p).drop (k + 1) := by
      rw [List.drop_eq_getElem_cons hkl]; congr 1
      rw [List.getElem?_eq_getElem hkl] at hk; exact Option.some.inj hk
    rw [← e2, List.take_append_drop]
  have e := h.cut
  rw [e1, cut_line _ _ hn] at e
  obtain ⟨f1, f2⟩ := drop_succ e.symm
  rw [List.length_drop] at hkl
  refine ⟨f1, by omega, ?_⟩
  rw [f2, List.drop_drop]; congr 2
theorem Stands.last {s : Ln} {p c : Nat} (h : Stands s p c) (hp : p < s.length) (hn : 10 ∉ s.drop p) : (cutL s)[c]? = some (trimR (s.drop p)) ∧ Stands s s.length (c + 1) := by
  have e := h.cut
  rw [cut_end _ hn (fun e => by have := congrArg List.length e; rw [List.length_drop, List.length_nil] at this; omega)] at e
  obtain ⟨f1, f2⟩ := drop_succ e.symm
  exact ⟨f1, Nat.le_refl _, by rw [f2, List.drop_length]; rfl⟩
theorem Stands.has {s : Ln} {p c : Nat} (h : Stands s p c) (hp : p < s.length) : ∃ x, (cutL s)[c]? = some x := by
  cases hc : (cutL s)[c]? with
  | some x => exact ⟨x, rfl⟩
  | none =>
    exfalso
    by_cases hn : 10 ∈ s.drop p
    · obtain ⟨i, hi, hix⟩ := List.getElem_of_mem hn
      have e := h.cut
      rw [List.drop_of_length_le (List.getElem?_eq_none_iff.1 hc)] at e
      obtain ⟨a, b, hab, hnot⟩ : ∃ a b, s.drop p = a ++ 10 :: b ∧ 10 ∉ a := by
        obtain ⟨a, b, h1, h2⟩ := List.eq_append_cons_of_mem hn
        exact ⟨a, b, h1, h2⟩
      rw [hab, cut_line _ _ hnot] at e
      cases e
    · rw [(h.last hp hn).1] at hc; cases hc
theorem trimR_eq (x : Ln) : trimR x = (x.reverse.dropWhile (· == 13)).reverse := rfl
end Go.Proofs.YtjgijbeedgggdaaGreatDoor
