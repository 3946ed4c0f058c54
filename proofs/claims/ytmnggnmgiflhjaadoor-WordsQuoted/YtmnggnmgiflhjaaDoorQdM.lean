/- What is quoted is one word: purely. -/
import Derived.Test.YtmnggnmgiflhjaaDoorQuoM
import Derived.Test.YtmnggnmgiflhjaaDoorDocM
namespace Go.Proofs.YtmnggnmgiflhjaaDoor
open Go

theorem plB_not (b e : UInt8) (he : e = 92 ∨ e = 96) (h : plB b = true) : isBl b = false ∧ outN b e = 1 := by
  have hb : isBl b = false ∧ b ≠ 39 ∧ b ≠ 34 ∧ b ≠ 92 ∧ b ≠ 96 := by
    have key : ∀ n : Fin 256, plB (UInt8.ofNat n.val) = true → (isBl (UInt8.ofNat n.val) = false ∧ UInt8.ofNat n.val ≠ 39 ∧ UInt8.ofNat n.val ≠ 34 ∧ UInt8.ofNat n.val ≠ 92 ∧ UInt8.ofNat n.val ≠ 96) := by decide +kernel
    have hk := key ⟨b.toNat, b.toNat_lt⟩
    simp only [UInt8.ofNat_toNat] at hk
    exact hk h
  obtain ⟨h1, h2, h3, h4, h5⟩ := hb
  refine ⟨h1, ?_⟩
  unfold outN
  rw [h1, if_neg (by decide), if_neg h2, if_neg h3, if_neg]
  rcases he with rfl | rfl
  · exact h4
  · exact h5
theorem escN_or (c : UInt8) : escN c = 92 ∨ escN c = 96 := by unfold escN; split <;> simp
theorem run_plain (e : UInt8) (he : e = 92 ∨ e = 96) (l : List UInt8) (h : l.all plB = true) (i : Nat) (T : St) (hT : T.now = 1) : runS e l i T = T := by
  induction l generalizing i with
  | nil => rfl
  | cons b l ih =>
    simp only [List.all_cons, Bool.and_eq_true] at h
    obtain ⟨h1, h2⟩ := plB_not b e he h.1
    have E : stepS e b i T = T := by
      rw [step_01 e b i T (.inr hT) h1, h2, hT]
      obtain ⟨o, n, bg, q⟩ := T
      simp only at hT; subst hT
      rfl
    show runS e l (i + 1) (stepS e b i T) = T
    rw [E]; exact ih h.2 (i + 1)
theorem run_body (e : UInt8) (l : List UInt8) (i : Nat) (T : St) (hT : T.now = 4) : runS e (bodyL e l) i T = T := by
  induction l generalizing i with
  | nil => rfl
  | cons b l ih =>
    have hb : bodyL e (b :: l) = (if mrk e b = true then [e, b] else [b]) ++ bodyL e l := rfl
    rw [hb, runS_append]
    have h0 : runS e (if mrk e b = true then [e, b] else [b]) i T = T := by
      cases hm : mrk e b
      · have h1 : b ≠ 34 ∧ b ≠ e := by
          unfold mrk at hm
          simp at hm
          exact ⟨hm.1.1, hm.2⟩
        show stepS e b i T = T
        rw [step_4 e b i T hT h1.2, if_neg h1.1]
      · show stepS e b (i + 1) (stepS e e i T) = T
        rw [step_4e e e i T hT rfl, step_5 e b (i + 1) _ rfl]
        obtain ⟨o, n, bg, q⟩ := T
        simp only at hT; subst hT
        rfl
    rw [h0]
    exact ih _
theorem run_quo (e : UInt8) (he : e = 92 ∨ e = 96) (t : List UInt8) (i : Nat) (T : St) (hT : T.now = 0) : ∃ q, runS e (quoL e t) i T = ⟨T.out, 1, i, q⟩ := by
  unfold quoL
  by_cases hp : plL t = true
  · rw [if_pos hp]
    unfold plL at hp
    simp only [Bool.and_eq_true] at hp
    obtain ⟨h1, h2⟩ := hp
    cases t with
    | nil => simp at h2
    | cons b t =>
      simp only [List.all_cons, Bool.and_eq_true] at h1
      obtain ⟨g1, g2⟩ := plB_not b e he h1.1
      show ∃ q, runS e t (i + 1) (stepS e b i T) = _
      rw [step_01 e b i T (.inl hT) g1, g2, run_plain e he t h1.2 (i + 1) _ rfl, if_pos hT]
      exact ⟨_, rfl⟩
  · rw [if_neg hp]
    show ∃ q, runS e (bodyL e t ++ [34]) (i + 1) (stepS e 34 i T) = _
    have he34 : e ≠ 34 := by rcases he with rfl | rfl <;> decide
    rw [step_01 e 34 i T (.inl hT) (by decide), show outN 34 e = 4 from rfl, if_pos hT, if_pos (by omega), runS_append, run_body e t (i + 1) _ rfl]
    refine ⟨i, ?_⟩
    show stepS e 34 _ _ = _
    rw [step_4 e 34 _ _ rfl he34.symm, if_pos rfl]
/-- The texts quoted, a blank behind each. -/
def joinQ (e : UInt8) : List (List UInt8) → List UInt8
  | [] => []
  | t :: ts => quoL e t ++ (32 :: joinQ e ts)
def plcQ (e : UInt8) : List (List UInt8) → Nat → List (Nat × Nat)
  | [], _ => []
  | t :: ts, i => (i, i + (quoL e t).length) :: plcQ e ts (i + (quoL e t).length + 1)
theorem joinQ_append (e : UInt8) (a b : List (List UInt8)) : joinQ e (a ++ b) = joinQ e a ++ joinQ e b := by
  induction a with
  | nil => rfl
  | cons t a ih => simp only [List.cons_append, joinQ, ih, List.append_assoc]
theorem run_join (e : UInt8) (he : e = 92 ∨ e = 96) (ts : List (List UInt8)) (i : Nat) (T : St) (hT : T.now = 0) : ∃ b q, runS e (joinQ e ts) i T = ⟨T.out ++ plcQ e ts i, 0, b, q⟩ := by
  induction ts generalizing i T with
  | nil =>
    obtain ⟨o, n, bg, q⟩ := T
    simp only at hT; subst hT
    exact ⟨bg, q, by simp [joinQ, plcQ, runS]⟩
  | cons t ts ih =>
    obtain ⟨q, hq⟩ := run_quo e he t i T hT
    unfold joinQ
    rw [runS_append, hq]
    show ∃ b q', runS e (joinQ e ts) (i + (quoL e t).length + 1) (stepS e 32 (i + (quoL e t).length) ⟨T.out, 1, i, q⟩) = _
    rw [step_1b e 32 _ _ rfl (by decide)]
    obtain ⟨b, q', h⟩ := ih (i + (quoL e t).length + 1) ⟨T.out ++ [(i, i + (quoL e t).length)], 0, i, q⟩ rfl
    refine ⟨b, q', ?_⟩
    rw [h]
    simp [plcQ]
theorem split_join (e : UInt8) (he : e = 92 ∨ e = 96) (ts : List (List UInt8)) : splitR e (joinQ e ts) = .ok (plcQ e ts 0) := by
  obtain ⟨b, q, h⟩ := run_join e he ts 0 st0 rfl
  have hs : stA e (joinQ e ts) (joinQ e ts).length = ⟨plcQ e ts 0, 0, b, q⟩ := by
    unfold stA; rw [List.take_length, h]; rfl
  unfold splitR
  rw [hs]
  rfl
theorem plcQ_length (e : UInt8) (ts : List (List UInt8)) (i : Nat) : (plcQ e ts i).length = ts.length := by
  induction ts generalizing i with
  | nil => rfl
  | cons t ts ih => simp [plcQ, ih]
/-- The k-th place holds the k-th text, quoted. -/
theorem plcQ_get (e : UInt8) (ts : List (List UInt8)) (pre : List UInt8) (k : Nat) (t : List UInt8) (h : ts[k]? = some t) : ∃ a b, (plcQ e ts pre.length)[k]? = some (a, b) ∧ ((pre ++ joinQ e ts).take b).drop a = quoL e t := by
  induction ts generalizing pre k with
  | nil => simp at h
  | cons x ts ih =>
    cases k with
    | zero =>
      simp at h; subst h
      refine ⟨pre.length, pre.length + (quoL e x).length, rfl, ?_⟩
      unfold joinQ
      rw [← List.append_assoc, List.take_append_of_le_length (by simp), List.take_of_length_le (by simp), List.drop_append_of_le_length (Nat.le_refl _), List.drop_length, List.nil_append]
    | succ k =>
      have h2 := ih (pre ++ quoL e x ++ [32]) k (by simpa using h)
      obtain ⟨a, b, h3, h4⟩ := h2
      refine ⟨a, b, ?_, ?_⟩
      · show (plcQ e ts (pre.length + (quoL e x).length + 1))[k]? = _
        rw [← h3]; simp [Nat.add_assoc]
      · rw [← h4]; simp [joinQ]
end Go.Proofs.YtmnggnmgiflhjaaDoor
