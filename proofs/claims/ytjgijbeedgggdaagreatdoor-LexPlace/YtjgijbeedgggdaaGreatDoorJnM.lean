/- Lines that are joined, purely: told by the next line that says something. -/
import Derived.Test.YtjgijbeedgggdaaGreatDoorEndW
namespace Go.Proofs.YtjgijbeedgggdaaGreatDoor
open Go

theorem drop_consT {α : Type} {l : List α} {c : Nat} {x : α} (h : l[c]? = some x) : l.drop c = x :: l.drop (c + 1) := by
  have hc := (List.getElem?_eq_some_iff.1 h).1
  rw [List.drop_eq_getElem_cons hc]; congr 1
  rw [List.getElem?_eq_getElem hc] at h; exact Option.some.inj h
theorem join_skip (e : UInt8) (f : List Ln) (n : Nat) : ∀ (fu c : Nat), f.length + 1 ≤ c + fu → c ≤ f.length → joinG e (f.drop c) c 0 n true = (match nextS f fu c with
    | none => ([], [], f.length)
    | some j => joinG e (f.drop j) j 0 n false)
  | 0, c, h1, h2 => by omega
  | fu + 1, c, h1, h2 => by
    cases hc : f[c]? with
    | none =>
      have hl := List.getElem?_eq_none_iff.1 hc
      rw [nextS, hc, List.drop_of_length_le hl]
      have : c = f.length := by omega
      subst this; rfl
    | some x =>
      have hl := (List.getElem?_eq_some_iff.1 hc).1
      rw [nextS_step hc]
      rw [drop_consT hc]
      by_cases hn : noth x = true
      · rw [if_pos hn, joinG, if_pos (by rw [hn]; rfl)]
        exact join_skip e f n fu (c + 1) (by omega) (by omega)
      · rw [if_neg hn]
        show joinG e (x :: f.drop (c + 1)) c 0 n true = joinG e (f.drop c) c 0 n false
        rw [drop_consT hc]
        have hn2 : noth x = false := by simpa using hn
        simp only [joinG, hn2, Bool.and_false, Bool.false_eq_true, if_false]
theorem nextS_some {f : List Ln} : ∀ {fu c j : Nat}, nextS f fu c = some j → c ≤ j ∧ j < f.length
  | 0, c, j, h => by cases h
  | fu + 1, c, j, h => by
    cases hc : f[c]? with
    | none => rw [nextS, hc] at h; cases h
    | some x =>
      rw [nextS_step hc] at h
      by_cases hn : noth x = true
      · rw [if_pos hn] at h
        have := nextS_some h
        omega
      · rw [if_neg hn] at h; cases h
        exact ⟨Nat.le_refl _, (List.getElem?_eq_some_iff.1 hc).1⟩
theorem noth_hd {x : Ln} (h : noth x = false) : hd x < x.length := by
  rcases Nat.lt_or_ge (hd x) x.length with h1 | h1
  · exact h1
  · unfold noth at h; rw [List.getElem?_eq_none h1] at h; cases h
theorem goes_fr (e : UInt8) {fr : Nat} {x : Ln} (h : fr ≤ hd x) (hn : noth x = false) : goesOn e fr x = goesOn e 0 x ∧ edN e fr x = edN e 0 x := by
  have h1 := hd_enT x (noth_hd hn)
  have e1 : goesOn e fr x = goesOn e 0 x := by unfold goesOn; rw [decide_eq_true (by omega), decide_eq_true (by omega)]
  exact ⟨e1, by unfold edN; rw [e1]⟩
theorem join_len (e : UInt8) : ∀ (l : List Ln) (i fr n : Nat) (sk : Bool), (joinG e l i fr n sk).2.1.length ≤ l.flatten.length ∧ (joinG e l i fr n sk).1.length ≤ l.length
  | [], i, fr, n, sk => by simp [joinG]
  | x :: r, i, fr, n, sk => by
    have hsg : (segN e fr x).length ≤ x.length := by rw [segN_len]; have := edN_le e fr x; omega
    have hmk : (mksN e fr n i x).length ≤ 1 := by unfold mksN; split <;> simp
    rw [joinG, List.flatten_cons, List.length_append, List.length_cons]
    split
    · have := join_len e r (i + 1) fr n sk
      omega
    · split
      · have := join_len e r (i + 1) 0 (n + (segN e fr x).length) true
        simp only [List.length_append]
        omega
      · simp only
        omega
theorem segs_sum (acc s : Ln) : (segsG acc s).flatten.length ≤ acc.length + s.length := by
  induction s generalizing acc with
  | nil => rw [segsG]; split <;> simp
  | cons b s ih =>
    rw [segsG]
    split
    · have := ih []
      simp at this ⊢; omega
    · have := ih (acc ++ [b])
      simp at this ⊢; omega
theorem cut_sum (s : Ln) : (cutL s).flatten.length ≤ s.length := by
  have h : ∀ l : List Ln, (l.map trimR).flatten.length ≤ l.flatten.length := by
    intro l
    induction l with
    | nil => simp
    | cons x l ih => have := trimR_le x; simp at ih ⊢; omega
  have := segs_sum [] s
  have := h (segsG [] s)
  unfold cutL; simp at *; omega
theorem drop_flat (l : List Ln) (i : Nat) : (l.drop i).flatten.length ≤ l.flatten.length := by
  have : (l.take i ++ l.drop i).flatten.length = l.flatten.length := by rw [List.take_append_drop]
  rw [List.flatten_append, List.length_append] at this; omega
/-- What stands between the rounds of join. -/
structure JI (ec : UInt8) (f : List Ln) (J : List Mk × Ln × Nat) (j fr : Nat) (y : Ln) (M : List Mk) (T : Ln) : Prop where
  at_ : f[j]? = some y
  says : noth y = false
  le : fr ≤ hd y
  marks : J.1 = M ++ (joinG ec (f.drop j) j fr T.length false).1
  text : J.2.1 = T ++ (joinG ec (f.drop j) j fr T.length false).2.1
  line : J.2.2 = (joinG ec (f.drop j) j fr T.length false).2.2
theorem JI.small {ec : UInt8} {f : List Ln} {J : List Mk × Ln × Nat} {j fr : Nat} {y : Ln} {M : List Mk} {T : Ln} (h : JI ec f J j fr y M T) : T.length ≤ J.2.1.length ∧ M.length ≤ J.1.length := by
  rw [h.marks, h.text, List.length_append, List.length_append]; omega
theorem JI.start {ec : UInt8} {f : List Ln} {i : Nat} {x : Ln} (h : f[i]? = some x) (hn : noth x = false) : JI ec f (joinG ec (f.drop i) i (hd x) 0 false) i (hd x) x [] [] := ⟨h, hn, Nat.le_refl _, rfl, rfl, rfl⟩
theorem JI.stop {ec : UInt8} {f : List Ln} {J : List Mk × Ln × Nat} {j fr : Nat} {y : Ln} {M : List Mk} {T : Ln} (h : JI ec f J j fr y M T) (hg : goesOn ec 0 y = false) : J.1 = M ++ mksN ec fr T.length j y ∧ J.2.1 = T ++ segN ec fr y ∧ J.2.2 = j + 1 := by
  have e1 := (goes_fr ec h.le h.says).1
  have e2 : joinG ec (f.drop j) j fr T.length false = (mksN ec fr T.length j y, segN ec fr y, j + 1) := by
    rw [drop_consT h.at_, joinG, if_neg (by simp), if_neg (by rw [e1, hg]; decide)]
  refine ⟨?_, ?_, ?_⟩
  · rw [h.marks, e2]
  · rw [h.text, e2]
  · rw [h.line, e2]
theorem JI.go {ec : UInt8} {f : List Ln} {J : List Mk × Ln × Nat} {j fr : Nat} {y : Ln} {M : List Mk} {T : Ln} (h : JI ec f J j fr y M T) (hg : goesOn ec 0 y = true) {fu : Nat} (hfu : f.length + 1 ≤ fu) :
    (nextS f fu (j + 1) = none → J.1 = M ++ mksN ec fr T.length j y ∧ J.2.1 = T ++ segN ec fr y ∧ J.2.2 = f.length) ∧
    (∀ k z, nextS f fu (j + 1) = some k → f[k]? = some z → noth z = false → JI ec f J k 0 z (M ++ mksN ec fr T.length j y) (T ++ segN ec fr y)) := by
  have e1 := (goes_fr ec h.le h.says).1
  have hl := (List.getElem?_eq_some_iff.1 h.at_).1
  have hs := join_skip ec f (T.length + (segN ec fr y).length) fu (j + 1) (by omega) (by omega)
  have e2 : joinG ec (f.drop j) j fr T.length false = (mksN ec fr T.length j y ++ (joinG ec (f.drop (j + 1)) (j + 1) 0 (T.length + (segN ec fr y).length) true).1, segN ec fr y ++ (joinG ec (f.drop (j + 1)) (j + 1) 0 (T.length + (segN ec fr y).length) true).2.1, (joinG ec (f.drop (j + 1)) (j + 1) 0 (T.length + (segN ec fr y).length) true).2.2) := by
    conv => lhs; rw [drop_consT h.at_, joinG, if_neg (by simp), if_pos (by rw [e1, hg])]
  refine ⟨fun hn => ?_, fun k z hk hz hnz => ?_⟩
  · rw [hn] at hs
    simp only at hs
    rw [hs] at e2
    refine ⟨?_, ?_, ?_⟩
    · rw [h.marks, e2]; simp
    · rw [h.text, e2]; simp
    · rw [h.line, e2]
  · rw [hk] at hs
    simp only at hs
    rw [hs] at e2
    refine ⟨hz, hnz, Nat.zero_le _, ?_, ?_, ?_⟩
    · rw [h.marks, e2, List.length_append]; simp
    · rw [h.text, e2, List.length_append]; simp
    · rw [h.line, e2, List.length_append]
end Go.Proofs.YtjgijbeedgggdaaGreatDoor
