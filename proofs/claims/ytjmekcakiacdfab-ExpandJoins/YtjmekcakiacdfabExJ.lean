/- Two right texts one behind the other, purely. -/
import Derived.Test.YtjmekcakiacdfabExE
import Derived.Test.YtjmekcakiacdfabTkX
namespace Go.Proofs.Ytjmekcakiacdfab
open Go

def endB (e c : UInt8) : Bool := c == e || c == 36 || nmB c false
def endsL (e : UInt8) (l : List UInt8) : Bool := match l.getLast? with
  | none => false
  | some c => endB e c
theorem ends_cons {e c : UInt8} {t : List UInt8} (ht : t ≠ []) : endsL e (c :: t) = endsL e t := by
  unfold endsL
  rw [List.getLast?_cons_of_ne_nil ht]
theorem ends_drop {e : UInt8} : ∀ (k : Nat) (l : List UInt8), endsL e l = false → endsL e (l.drop k) = false
  | 0, l, h => by simpa using h
  | k + 1, [], _ => rfl
  | k + 1, c :: t, h => by
    by_cases ht : t = []
    · subst ht; simp [endsL]
    · rw [List.drop_succ_cons]
      exact ends_drop k t (by rw [← ends_cons (c := c) ht]; exact h)
theorem nmB_first {c : UInt8} (h : nmB c true = true) : nmB c false = true := by
  unfold nmB at h ⊢
  simp only [Bool.or_eq_true, Bool.and_eq_true, decide_eq_true_eq, beq_iff_eq, Bool.not_true, Bool.false_eq_true, false_and, or_false, Bool.not_false, true_and] at h ⊢
  exact .inl h
theorem tw_all {p : UInt8 → Bool} : ∀ {t : List UInt8}, (t.takeWhile p).length = t.length → ∀ c ∈ t, p c = true
  | [], _, c, hc => by cases hc
  | x :: t, h, c, hc => by
    cases hp : p x with
    | false => simp [hp] at h
    | true =>
      simp only [List.takeWhile_cons, hp, if_true, List.length_cons] at h
      rcases List.mem_cons.1 hc with rfl | hc
      · exact hp
      · exact tw_all (by omega) c hc
theorem nmL_full {t : List UInt8} (h0 : t ≠ []) (h : nmL t = t.length) : ∃ c, t.getLast? = some c ∧ nmB c false = true := by
  obtain ⟨c, hc⟩ : ∃ c, t.getLast? = some c := by
    cases hg : t.getLast? with
    | none => exact absurd (List.getLast?_eq_none_iff.1 hg) h0
    | some c => exact ⟨c, rfl⟩
  refine ⟨c, hc, ?_⟩
  have hm := List.mem_of_getLast? hc
  cases t with
  | nil => cases hm
  | cons x t =>
    by_cases hx : nmB x true = true
    · rw [nmL, if_pos hx, List.length_cons] at h
      rcases List.mem_cons.1 hm with rfl | hm
      · exact nmB_first hx
      · exact tw_all (p := (nmB · false)) (by omega) c hm
    · rw [nmL, if_neg hx] at h; simp at h
theorem tw_app {p : UInt8 → Bool} (b : List UInt8) : ∀ {t : List UInt8}, (t.takeWhile p).length < t.length → ((t ++ b).takeWhile p).length = (t.takeWhile p).length
  | [], h => by simp at h
  | x :: t, h => by
    cases hp : p x with
    | false => simp [hp]
    | true =>
      simp only [List.cons_append, List.takeWhile_cons, hp, if_true, List.length_cons] at h ⊢
      rw [tw_app b (by omega)]
theorem nmL_app {u : List UInt8} (b : List UInt8) (h : nmL u < u.length) : nmL (u ++ b) = nmL u := by
  cases u with
  | nil => simp at h
  | cons x t =>
    rw [List.cons_append]
    by_cases hx : nmB x true = true
    · rw [nmL, if_pos hx] at h ⊢
      rw [nmL, if_pos hx, tw_app b (by simp at h; omega)]
    · rw [nmL, if_neg hx, nmL, if_neg hx]
theorem idx_app (c : UInt8) (b : List UInt8) : ∀ {t : List UInt8} {k : Nat}, idx c t = some k → idx c (t ++ b) = some k
  | [], k, h => by simp [idx] at h
  | x :: t, k, h => by
    rw [List.cons_append]
    unfold idx at h ⊢
    split at h
    · rename_i hx; rw [if_pos hx]; exact h
    · rename_i hx
      rw [if_neg hx]
      obtain ⟨j, hj, rfl⟩ := Option.map_eq_some_iff.1 h
      rw [idx_app c b hj]; rfl
theorem pre_app1 {x : UInt8} {r : List UInt8} (b : List UInt8) (h : r ≠ []) : [x].isPrefixOf (r ++ b) = [x].isPrefixOf r := by
  cases r with
  | nil => exact absurd rfl h
  | cons y r => simp [List.isPrefixOf]
theorem pre_true {p r : List UInt8} (b : List UInt8) (h : p.isPrefixOf r = true) : p.isPrefixOf (r ++ b) = true := by
  rw [List.isPrefixOf_iff_prefix] at h ⊢
  exact h.trans (List.prefix_append _ _)
theorem braces_app {st : List Nat} {u : List UInt8} {p : Pc} {k : Nat} {st2 : List Nat} (b : List UInt8) (h : bracesS st u = .good p k st2) : bracesS st (u ++ b) = .good p k st2 := by
  unfold bracesS at h
  split at h
  · cases h
  rename_i h0
  have key : ∀ r, u.drop (nmL u) = r → r ≠ [] → nmL (u ++ b) = nmL u ∧ (u ++ b).drop (nmL u) = r ++ b ∧ (u ++ b).take (nmL u) = u.take (nmL u) := by
    intro r hr hne
    have hl : nmL u < u.length := by
      rcases Nat.lt_or_ge (nmL u) u.length with h1 | h1
      · exact h1
      · rw [List.drop_of_length_le h1] at hr; exact absurd hr.symm hne
    refine ⟨nmL_app b hl, by rw [List.drop_append_of_le_length (by omega), hr], List.take_append_of_le_length (by omega)⟩
  split at h
  · rename_i h1
    have hne : u.drop (nmL u) ≠ [] := by intro e; rw [e] at h1; simp [List.isPrefixOf] at h1
    obtain ⟨k1, k2, k3⟩ := key _ rfl hne
    unfold bracesS
    rw [k1, if_neg h0, k2, if_pos (pre_true b h1), k3]; exact h
  rename_i h1
  split at h
  · rename_i h2
    have hne : u.drop (nmL u) ≠ [] := by intro e; rw [e] at h2; simp [List.isPrefixOf] at h2
    obtain ⟨k1, k2, k3⟩ := key _ rfl hne
    unfold bracesS
    rw [k1, if_neg h0, k2, pre_app1 b hne, if_neg h1, if_pos (pre_true b h2), k3]; exact h
  rename_i h2
  split at h
  · rename_i h3
    have hne : u.drop (nmL u) ≠ [] := by intro e; rw [e] at h3; simp [List.isPrefixOf] at h3
    obtain ⟨k1, k2, k3⟩ := key _ rfl hne
    have h2' : [58, 45].isPrefixOf (u.drop (nmL u) ++ b) ≠ true := by
      obtain ⟨r, hr⟩ := List.isPrefixOf_iff_prefix.1 h3
      rw [← hr]; simp [List.isPrefixOf]
    unfold bracesS
    rw [k1, if_neg h0, k2, pre_app1 b hne, if_neg h1, if_neg h2', if_pos (pre_true b h3), k3]; exact h
  · cases h
theorem take_app {e : UInt8} {st : List Nat} {c : UInt8} {t : List UInt8} {p : Pc} {k : Nat} {st2 : List Nat} (b : List UInt8) (h : takeS e st c t = .good p k st2) (hf : freeB e st c = false) (he : endsL e (c :: t) = false) : takeS e st c (t ++ b) = .good p k st2 := by
  unfold takeS at h ⊢
  split at h
  · rename_i h1
    rw [if_pos h1]
    cases t with
    | nil => subst h1; simp [endsL, endB] at he
    | cons d t => exact h
  rename_i h1
  rw [if_neg h1]
  split at h
  · rename_i h2
    rw [if_pos h2]
    by_cases ht : t = []
    · subst ht; subst h2; simp [endsL, endB] at he
    rw [ends_cons ht] at he
    unfold dollarS at h ⊢
    rw [pre_app1 b ht]
    split at h
    · rename_i h3
      rw [if_pos h3]
      cases t with
      | nil => exact absurd rfl ht
      | cons d t => exact braces_app b h
    rename_i h3
    rw [if_neg h3]
    have hlt : nmL t < t.length := by
      rcases Nat.lt_or_ge (nmL t) t.length with h4 | h4
      · exact h4
      · obtain ⟨x, hx, hn⟩ := nmL_full ht (Nat.le_antisymm (nmL_le t) h4)
        unfold endsL at he
        rw [hx] at he
        simp [endB, hn] at he
    rw [nmL_app b hlt]
    split at h
    · rename_i h5; rw [if_pos h5]; exact h
    · rename_i h5; rw [if_neg h5, List.take_append_of_le_length (by omega)]; exact h
  rename_i h2
  rw [if_neg h2]
  split at h
  · rename_i h3; rw [if_pos h3]; exact h
  rename_i h3
  rw [if_neg h3]
  split at h
  · rename_i h4; rw [if_pos h4]; exact h
  rename_i h4
  rw [if_neg h4]
  split at h
  · rename_i h5
    rw [if_pos h5]
    unfold singS at h ⊢
    cases hx : idx 39 t with
    | none => rw [hx] at h; cases h
    | some j =>
      rw [hx] at h
      rw [idx_app 39 b hx]
      have := idx_le 39 t j hx
      simp only at h ⊢
      rw [List.take_append_of_le_length (by omega)]; exact h
  rename_i h5
  rw [if_neg h5]
  split at h
  · rename_i h6; rw [if_pos h6]; exact h
  · rename_i h6
    exfalso
    simp only [freeB, Bool.not_eq_false', Bool.or_eq_true, Bool.and_eq_true, beq_iff_eq, decide_eq_true_eq] at hf
    rcases hf with (((hf | hf) | ⟨hf, hf2⟩) | hf) | hf
    · exact h1 hf
    · exact h2 hf
    · rcases hf2 with hf2 | hf2
      · exact h3 ⟨hf, hf2⟩
      · exact h4 ⟨hf, hf2⟩
    · exact h5 hf
    · exact h6 hf
theorem take_bad {e : UInt8} {st : List Nat} {c : UInt8} {t : List UInt8} {n : Nat} (h : takeS e st c t = .bad n) : n ≠ 0 := by
  unfold takeS escS dollarS bracesS singS runS at h
  repeat' split at h
  all_goals first
    | (cases h; omega)
    | cases h
theorem take_bot {e : UInt8} {st : List Nat} {c : UInt8} {t : List UInt8} {p : Pc} {k : Nat} {st2 : List Nat} (h : takeS e st c t = .good p k st2) (hs : okS st = true) : st2.getLast? = st.getLast? := by
  have hpush : ∀ x : Nat, (x :: st).getLast? = st.getLast? := fun x => List.getLast?_cons_of_ne_nil (okS_ne hs)
  have hpop : (st.headD 0 = 2 ∨ st.headD 0 = 3) → st.tail.getLast? = st.getLast? := fun hq => by
    match st, hs with
    | [b], hs => simp [okS] at hs; simp at hq; omega
    | x :: y :: l, hs => exact (List.getLast?_cons_of_ne_nil (by simp)).symm
  unfold takeS escS dollarS bracesS singS runS at h
  repeat' split at h
  all_goals first
    | (cases h; done)
    | (cases h; rfl)
    | (cases h; exact hpush _)
    | (rename_i hq; cases h; exact hpop (.inr hq.2))
    | (rename_i hq; cases h; exact hpop (.inl hq.2))
theorem end_one {st : List Nat} {m : Nat} (hs : okS st = true) (hb : st.getLast? = some m) (he : endS st = 0) : st = [m] := by
  match st, hs with
  | [b], _ => simpa using hb
  | x :: y :: l, hs =>
    simp [okS] at hs
    unfold endS at he
    rcases hs.1 with rfl | rfl <;> simp at he
/-- P15.4: one behind the other. -/
theorem each_join (e : UInt8) (m : Nat) (b : List UInt8) : ∀ (n : Nat) (l : List UInt8) (st : List Nat), l.length ≤ n → okS st = true → st.getLast? = some m → (eachL e st l).2 = 0 → endsL e l = false →
    (eachL e st (l ++ b)).2 = (eachL e [m] b).2 ∧ Eqv (eachL e st (l ++ b)).1 ((eachL e st l).1 ++ (eachL e [m] b).1)
  | _, [], st, _, hs, hb, h, _ => by
    obtain rfl := end_one hs hb h
    exact ⟨rfl, Eqv.refl _⟩
  | 0, c :: t, st, hl, _, _, _, _ => by simp at hl
  | n + 1, c :: t, st, hl, hs, hb, h, hends => by
    rw [List.length_cons] at hl
    cases hfr : freeB e st c with
    | true =>
      obtain ⟨h1, h2⟩ := each_free hfr (t ++ b)
      obtain ⟨h3, h4⟩ := each_free hfr t
      have hends2 : endsL e t = false := by
        by_cases ht : t = []
        · subst ht; rfl
        · rw [← ends_cons (c := c) ht]; exact hends
      obtain ⟨h5, h6⟩ := each_join e m b n t st (by omega) hs hb (h3.symm.trans h) hends2
      refine ⟨h1.trans h5, h2.trans ((h6.cons _).trans ?_)⟩
      exact (h4.append (Eqv.refl _)).symm
    | false =>
      cases hk : takeS e st c t with
      | bad q => rw [eachL_bad hk] at h; exact absurd h (take_bad hk)
      | good p k st2 =>
        obtain ⟨k1, k2, k3, _⟩ := takeS_good hk hs
        rw [eachL_good hk] at h ⊢
        rw [List.cons_append, eachL_good (take_app b hk hfr hends)]
        have e1 : (c :: (t ++ b)).drop k = (c :: t).drop k ++ b := by rw [← List.cons_append, List.drop_append_of_le_length (by rw [List.length_cons]; omega)]
        rw [e1]
        obtain ⟨h5, h6⟩ := each_join e m b n ((c :: t).drop k) st2 (by rw [List.length_drop, List.length_cons]; omega) k3 ((take_bot hk hs).trans hb) h (ends_drop k _ hends)
        exact ⟨h5, h6.cons _⟩
/-- .. as Word and Doc tell it. -/
theorem ans_join {e : UInt8} {m : Nat} (hm : m ≤ 1) (vs : List (List UInt8 × List UInt8)) (a b : List UInt8) (he : endsL e a = false) (ha : (ansL vs (eachL e [m] a)).1 = 0) (hb : (ansL vs (eachL e [m] b)).1 = 0)
    (hl : (ansL vs (eachL e [m] a)).2.length + (ansL vs (eachL e [m] b)).2.length ≤ 65536) : ansL vs (eachL e [m] (a ++ b)) = (0, (ansL vs (eachL e [m] a)).2 ++ (ansL vs (eachL e [m] b)).2) := by
  have right : ∀ r : List Pc × Nat, (ansL vs r).1 = 0 → r.2 = 0 ∧ (ansL vs r).2 = den vs r.1 d0 := fun r hr => by
    unfold ansL at hr ⊢
    by_cases h0 : r.2 ≠ 0
    · rw [if_pos h0] at hr; exact absurd hr h0
    · rw [if_neg h0] at hr ⊢
      by_cases h1 : 65536 < (den vs r.1 d0).length
      · rw [if_pos h1] at hr; cases hr
      · rw [if_neg h1]; exact ⟨by omega, rfl⟩
  obtain ⟨a1, a2⟩ := right _ ha
  obtain ⟨b1, b2⟩ := right _ hb
  rw [a2, b2] at hl ⊢
  obtain ⟨j1, j2⟩ := each_join e m b _ a [m] (Nat.le_refl _) (by simp [okS, hm]) rfl a1 he
  have hd : den vs (eachL e [m] (a ++ b)).1 d0 = den vs (eachL e [m] a).1 d0 ++ den vs (eachL e [m] b).1 d0 := by
    rw [(j2.1 vs d0).1, den_append, depth_end hm vs a a1]
  unfold ansL
  rw [if_neg (by rw [j1, b1]; simp), hd, if_neg (by rw [List.length_append]; omega)]
end Go.Proofs.Ytjmekcakiacdfab
