/- What is quoted comes out as it was, purely. -/
import Derived.Test.YtjmekcakiacdfaaExE
import Derived.Test.YtjmekcakiacdfaaQuoM
namespace Go.Proofs.Ytjmekcakiacdfaa
open Go

theorem pl_free {e c : UInt8} (he : e = 92 ∨ e = 96) (h : plB c = true) : freeB e [0] c = true := by
  have h1 : c ≠ 36 := by rintro rfl; simp [plB] at h; revert h; decide
  have h2 : c ≠ 34 := by rintro rfl; simp [plB] at h; revert h; decide
  have h3 : c ≠ 39 := by rintro rfl; simp [plB] at h; revert h; decide
  have h4 : c ≠ e := by
    rintro rfl
    rcases he with rfl | rfl <;> (simp [plB] at h; revert h; decide)
  simp [freeB, h1, h2, h3, h4, opq]
theorem quo_free {e c : UInt8} (h : mrk e c = false) : freeB e [3, 0] c = true := by
  unfold mrk at h
  simp only [Bool.or_eq_false_iff, beq_eq_false_iff_ne] at h
  obtain ⟨⟨h1, h2⟩, h3⟩ := h
  simp [freeB, h1, h2, h3, opq]
theorem quo_esc {e c : UInt8} (h : mrk e c = true) (t : List UInt8) : takeS e [3, 0] e (c :: t) = .good (.lit [c]) 2 [3, 0] := by
  unfold takeS escS
  rw [if_pos rfl]
  have : escs ([3, 0].headD 0) c e = true := by
    unfold mrk at h
    simp only [Bool.or_eq_true, beq_iff_eq] at h
    show (if (3 : Nat) = 1 then _ else if (3 : Nat) = 3 then (c == 36 || c == e || c == 34) else true) = true
    rw [if_neg (by decide), if_pos rfl]
    rcases h with (rfl | rfl) | rfl <;> simp
  simp only [this, if_true]
theorem body_each (e : UInt8) : ∀ l : List UInt8, (eachL e [3, 0] (bodyL e l ++ [34])).2 = (eachL e [3, 0] [34]).2 ∧ Eqv (eachL e [3, 0] (bodyL e l ++ [34])).1 (.lit l :: (eachL e [3, 0] [34]).1)
  | [] => ⟨rfl, (eqv_nil _).symm⟩
  | c :: l => by
    obtain ⟨h1, h2⟩ := body_each e l
    have hb : bodyL e (c :: l) ++ [34] = (if mrk e c = true then [e, c] else [c]) ++ (bodyL e l ++ [34]) := by
      show ((if mrk e c = true then [e, c] else [c]) ++ bodyL e l) ++ [34] = _
      rw [List.append_assoc]
    rw [hb]
    cases hm : mrk e c with
    | true =>
      simp only [if_true]
      show (eachL e [3, 0] (e :: c :: (bodyL e l ++ [34]))).2 = _ ∧ _
      rw [show [e, c] ++ (bodyL e l ++ [34]) = e :: c :: (bodyL e l ++ [34]) from rfl]
      rw [eachL_good (quo_esc hm _)]
      exact ⟨h1, (h2.cons _).trans (eqv_lit _ _ _).symm⟩
    | false =>
      simp only [Bool.false_eq_true, if_false]
      obtain ⟨h3, h4⟩ := each_free (quo_free hm) (bodyL e l ++ [34])
      rw [show [c] ++ (bodyL e l ++ [34]) = c :: (bodyL e l ++ [34]) from rfl]
      exact ⟨h3.trans h1, h4.trans ((h2.cons _).trans (eqv_lit _ _ _).symm)⟩
/-- P15.4: Word of a quoted text. -/
theorem word_quoted {e : UInt8} (he : e = 92 ∨ e = 96) (vs : List (List UInt8 × List UInt8)) (l : List UInt8) (hl : l.length ≤ 65536) : wordL e vs (quoL e l) = (0, l) := by
  have fin : ∀ r : List Pc × Nat, r.2 = 0 → den vs r.1 d0 = l → ansL vs r = (0, l) := fun r h1 h2 => by
    unfold ansL
    rw [if_neg (by rw [h1]; simp), h2, if_neg (by omega)]
  unfold wordL quoL
  by_cases hp : plL l = true
  · rw [if_pos hp]
    obtain ⟨h1, h2, _⟩ := plain_ans (e := e) (m := 0) (by decide) vs l (fun c hc => by
      unfold plL at hp
      rw [Bool.and_eq_true] at hp
      exact pl_free he (List.all_eq_true.1 hp.1 c hc))
    exact fin _ h1 h2
  · rw [if_neg hp]
    have h34 : e ≠ 34 := by rcases he with rfl | rfl <;> decide
    have ht : takeS e [0] 34 (bodyL e l ++ [34]) = .good (.lit []) 1 [3, 0] := by
      unfold takeS
      rw [if_neg (fun h => h34 h.symm), if_neg (by decide), if_neg (fun h => by have := h.2; simp at this), if_pos ⟨rfl, rfl⟩]
    have ht2 : takeS e [3, 0] 34 [] = .good (.lit []) 1 [0] := by
      unfold takeS
      rw [if_neg (fun h => h34 h.symm), if_neg (by decide), if_pos ⟨rfl, rfl⟩]
      rfl
    have he2 : eachL e [3, 0] [34] = ([.lit []], 0) := by rw [eachL_good ht2]; rfl
    obtain ⟨h1, h2⟩ := body_each e l
    rw [he2] at h1 h2
    rw [eachL_good ht]
    refine fin _ h1 ?_
    show den vs (.lit [] :: (eachL e [3, 0] (bodyL e l ++ [34])).1) d0 = l
    rw [((eqv_nil _).1 vs d0).1, (h2.1 vs d0).1]
    simp [den, layP, d0, stepD]
end Go.Proofs.Ytjmekcakiacdfaa
