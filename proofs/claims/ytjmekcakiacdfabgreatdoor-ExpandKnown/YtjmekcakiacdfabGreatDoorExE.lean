/- Words and documents, purely: byte by byte; what is balanced; what hangs on what. -/
import Derived.Test.YtjmekcakiacdfabGreatDoorExM
namespace Go.Proofs.YtjmekcakiacdfabGreatDoor
open Go

/-- Two rows of pieces that come to the same, and ask for the same. -/
def Eqv (a b : List Pc) : Prop := (∀ vs d, den vs a d = den vs b d ∧ depL vs a d = depL vs b d) ∧ ∀ ms, metL a ms = metL b ms
theorem Eqv.refl (a : List Pc) : Eqv a a := ⟨fun _ _ => ⟨rfl, rfl⟩, fun _ => rfl⟩
theorem Eqv.symm {a b : List Pc} (h : Eqv a b) : Eqv b a := ⟨fun vs d => ⟨(h.1 vs d).1.symm, (h.1 vs d).2.symm⟩, fun ms => (h.2 ms).symm⟩
theorem Eqv.trans {a b c : List Pc} (h : Eqv a b) (k : Eqv b c) : Eqv a c := ⟨fun vs d => ⟨(h.1 vs d).1.trans (k.1 vs d).1, (h.1 vs d).2.trans (k.1 vs d).2⟩, fun ms => (h.2 ms).trans (k.2 ms)⟩
theorem Eqv.cons (p : Pc) {a b : List Pc} (h : Eqv a b) : Eqv (p :: a) (p :: b) := ⟨fun vs d => ⟨by simp only [den, (h.1 vs _).1], (h.1 vs _).2⟩, fun ms => h.2 _⟩
theorem Eqv.append {a b c d : List Pc} (h : Eqv a b) (k : Eqv c d) : Eqv (a ++ c) (b ++ d) :=
  ⟨fun vs x => ⟨by rw [den_append, den_append, (h.1 vs x).1, (h.1 vs x).2, (k.1 vs _).1], by rw [depL_append, depL_append, (h.1 vs x).2, (k.1 vs _).2]⟩, fun ms => by rw [metL_append, metL_append, h.2, k.2]⟩
/-- A literal is its bytes. -/
theorem eqv_lit (b : UInt8) (l : List UInt8) (r : List Pc) : Eqv (.lit (b :: l) :: r) (.lit [b] :: .lit l :: r) := by
  refine ⟨fun vs d => ⟨?_, rfl⟩, fun ms => rfl⟩
  simp only [den, layP, stepD]
  by_cases h : 0 < d.hid
  · simp [h]
  · simp [h]
theorem eqv_nil (r : List Pc) : Eqv (.lit [] :: r) r := by
  refine ⟨fun vs d => ⟨?_, rfl⟩, fun ms => rfl⟩
  simp only [den, layP, stepD]
  by_cases h : 0 < d.hid
  · simp [h]
  · simp [h]
/-- A byte that does nothing where these things are open. -/
def freeB (e : UInt8) (st : List Nat) (c : UInt8) : Bool := !(c == e || c == 36 || (c == 34 && (decide (st.headD 0 = 3) || opq (st.headD 0))) || (c == 39 && opq (st.headD 0)) || (c == 125 && decide (st.headD 0 = 2)))
theorem take_free {e : UInt8} {st : List Nat} {c : UInt8} (h : freeB e st c = true) (t : List UInt8) : takeS e st c t = runS e st c t := by
  unfold freeB at h
  simp only [Bool.not_eq_true', Bool.or_eq_false_iff, Bool.and_eq_false_imp, beq_iff_eq, decide_eq_false_iff_not, beq_eq_false_iff_ne] at h
  obtain ⟨⟨⟨⟨h1, h2⟩, h3⟩, h4⟩, h5⟩ := h
  unfold takeS
  rw [if_neg h1, if_neg h2, if_neg (fun ⟨a, b⟩ => (h3 a).1 b), if_neg (fun ⟨a, b⟩ => by rw [(h3 a).2] at b; cases b), if_neg (fun ⟨a, b⟩ => by rw [h4 a] at b; cases b), if_neg (fun ⟨a, b⟩ => h5 a b)]
theorem free_act {e : UInt8} {st : List Nat} {c : UInt8} (h : act e c = false) : freeB e st c = true := by
  unfold act at h
  simp only [Bool.or_eq_false_iff] at h
  obtain ⟨⟨⟨⟨h1, h2⟩, h3⟩, h4⟩, h5⟩ := h
  simp [freeB, h1, h2, h3, h4, h5]
/-- Byte by byte. -/
theorem each_free {e : UInt8} {st : List Nat} {c : UInt8} (h : freeB e st c = true) (t : List UInt8) : (eachL e st (c :: t)).2 = (eachL e st t).2 ∧ Eqv (eachL e st (c :: t)).1 (.lit [c] :: (eachL e st t).1) := by
  rw [eachL_good (take_free h t)]
  cases t with
  | nil =>
    show (eachL e st []).2 = (eachL e st []).2 ∧ _
    exact ⟨rfl, Eqv.refl _⟩
  | cons x t =>
    cases hx : act e x with
    | true =>
      have h1 : (x :: t).takeWhile (fun c => !act e c) = [] := by simp [hx]
      rw [h1]
      exact ⟨rfl, Eqv.refl _⟩
    | false =>
      have h1 : (x :: t).takeWhile (fun c => !act e c) = x :: t.takeWhile (fun c => !act e c) := by simp [hx]
      rw [h1, eachL_good (take_free (free_act hx) t)]
      have e1 : (c :: x :: t).drop (1 + (x :: t.takeWhile (fun c => !act e c)).length) = (x :: t).drop (1 + (t.takeWhile (fun c => !act e c)).length) := by
        rw [List.length_cons, show 1 + ((t.takeWhile (fun c => !act e c)).length + 1) = (1 + (t.takeWhile (fun c => !act e c)).length) + 1 by omega, List.drop_succ_cons]
      rw [e1]
      exact ⟨rfl, eqv_lit _ _ _⟩
/-- A text of bytes that do nothing. -/
theorem each_plain {e : UInt8} {st : List Nat} : ∀ (l r : List UInt8), (∀ c ∈ l, freeB e st c = true) → (eachL e st (l ++ r)).2 = (eachL e st r).2 ∧ Eqv (eachL e st (l ++ r)).1 (.lit l :: (eachL e st r).1)
  | [], r, _ => ⟨rfl, (eqv_nil _).symm⟩
  | c :: l, r, h => by
    obtain ⟨h1, h2⟩ := each_free (h c (List.mem_cons_self ..)) (l ++ r)
    obtain ⟨h3, h4⟩ := each_plain l r (fun x hx => h x (List.mem_cons_of_mem _ hx))
    exact ⟨h1.trans h3, h2.trans ((h4.cons _).trans (eqv_lit _ _ _).symm)⟩
theorem den_lit (vs : List (List UInt8 × List UInt8)) (l : List UInt8) : den vs [.lit l] d0 = l := by simp [den, layP, d0]
/-- What follows for a text of such bytes: P15.4. -/
theorem plain_ans {e : UInt8} {m : Nat} (hm : m ≤ 1) (vs : List (List UInt8 × List UInt8)) (l : List UInt8) (h : ∀ c ∈ l, freeB e [m] c = true) : (eachL e [m] l).2 = 0 ∧ den vs (eachL e [m] l).1 d0 = l ∧ metL (eachL e [m] l).1 [] = [] := by
  obtain ⟨h1, h2⟩ := each_plain l [] h
  rw [List.append_nil] at h1 h2
  have e0 : endS [m] = 0 := by
    have : m = 0 ∨ m = 1 := by omega
    rcases this with rfl | rfl <;> rfl
  refine ⟨h1.trans e0, ?_, ?_⟩
  · rw [(h2.1 vs d0).1]; exact den_lit vs l
  · rw [h2.2]; rfl

/-- How deep, by what is open. -/
def cnt2 (st : List Nat) : Int := ((st.filter (· == 2)).length : Int)
def Bal (st : List Nat) (d : Dp) : Prop := d.depth = cnt2 st ∧ 0 ≤ d.hid ∧ d.hid ≤ d.depth
theorem bal_step {e : UInt8} {st : List Nat} {b : UInt8} {t : List UInt8} {p : Pc} {k : Nat} {st2 : List Nat} (h : takeS e st b t = .good p k st2) (hs : okS st = true) (vs : List (List UInt8 × List UInt8)) (d : Dp) (hb : Bal st d) : Bal st2 (stepD vs p d) := by
  obtain ⟨h1, h2, h3⟩ := hb
  have push2 : ∀ c : Bool, Bal (2 :: st) (begD c d) := fun c => by
    refine ⟨?_, ?_, ?_⟩
    · show d.depth + 1 = cnt2 (2 :: st); rw [h1]; simp [cnt2]
    · unfold begD; dsimp only; split <;> omega
    · unfold begD; dsimp only; split <;> omega
  unfold takeS at h
  split at h
  · unfold escS at h
    repeat' split at h
    all_goals (cases h; exact ⟨h1, h2, h3⟩)
  split at h
  · unfold dollarS bracesS at h
    repeat' split at h
    all_goals first
      | cases h; done
      | (cases h; exact ⟨h1, h2, h3⟩)
      | (cases h; exact push2 _)
  split at h
  · rename_i hq
    cases h
    refine ⟨?_, h2, h3⟩
    show d.depth = _
    cases st with
    | nil => simp [okS] at hs
    | cons x st =>
      have hx : x = 3 := by simpa using hq.2
      subst hx; rw [h1]; simp [cnt2]
  split at h
  · cases h
    refine ⟨?_, h2, h3⟩
    show d.depth = _
    rw [h1]; simp [cnt2]
  split at h
  · unfold singS at h
    split at h
    · cases h
    · cases h; exact ⟨h1, h2, h3⟩
  split at h
  · rename_i hq
    cases h
    cases st with
    | nil => simp [okS] at hs
    | cons x st =>
      have hx : x = 2 := by simpa using hq.2
      subst hx
      have e1 : cnt2 (2 :: st) = cnt2 st + 1 := by simp [cnt2]
      rw [e1] at h1
      refine ⟨?_, ?_, ?_⟩
      · show d.depth - 1 = cnt2 st; omega
      · show 0 ≤ (if d.hid = d.depth then 0 else d.hid); split <;> omega
      · show (if d.hid = d.depth then 0 else d.hid) ≤ d.depth - 1
        have : 0 ≤ cnt2 st := by unfold cnt2; omega
        split <;> omega
  · unfold runS at h
    cases h; exact ⟨h1, h2, h3⟩
theorem cnt2_end : ∀ {st : List Nat}, okS st = true → endS st = 0 → cnt2 st = 0
  | [b], h, _ => by simp [okS] at h; simp [cnt2]; omega
  | x :: y :: l, h, h2 => by
    simp [okS] at h
    unfold endS at h2
    rcases h.1 with rfl | rfl <;> simp at h2
/-- A right text leaves nothing open. -/
theorem bal_end (e : UInt8) (vs : List (List UInt8 × List UInt8)) : ∀ (f : Nat) (st : List Nat) (l : List UInt8) (d : Dp), l.length ≤ f → okS st = true → Bal st d → (eachF e f st l).2 = 0 → depL vs (eachF e f st l).1 d = d0
  | 0, st, [], d, _, hs, hb, h => by
    have := cnt2_end hs h
    obtain ⟨h1, h2, h3⟩ := hb
    cases d
    simp only at h1 h2 h3
    simp only [eachF, depL, d0]
    congr 1 <;> omega
  | 0, st, b :: t, d, hl, _, _, _ => by simp at hl
  | f + 1, st, [], d, _, hs, hb, h => by
    have := cnt2_end hs h
    obtain ⟨h1, h2, h3⟩ := hb
    cases d
    simp only at h1 h2 h3
    simp only [eachF, depL, d0]
    congr 1 <;> omega
  | f + 1, st, b :: t, d, hl, hs, hb, h => by
    unfold eachF at h ⊢
    cases hk : takeS e st b t with
    | bad n =>
      rw [hk] at h
      simp only at h
      exfalso
      unfold takeS escS dollarS bracesS singS runS at hk
      repeat' split at hk
      all_goals first
        | (cases hk; omega)
        | cases hk
    | good p k st2 =>
      rw [hk] at h
      simp only at h ⊢
      obtain ⟨k1, k2, k3, k4⟩ := takeS_good hk hs
      rw [List.length_cons] at hl
      exact bal_end e vs f st2 _ _ (by rw [List.length_drop, List.length_cons]; omega) k3 (bal_step hk hs vs d hb) h
theorem bal0 (m : Nat) (hm : m ≤ 1) : Bal [m] d0 := by
  have : m = 0 ∨ m = 1 := by omega
  rcases this with rfl | rfl <;> exact ⟨rfl, Int.le_refl _, Int.le_refl _⟩
theorem depth_end {e : UInt8} {m : Nat} (hm : m ≤ 1) (vs : List (List UInt8 × List UInt8)) (l : List UInt8) (h : (eachL e [m] l).2 = 0) : depL vs (eachL e [m] l).1 d0 = d0 :=
  bal_end e vs _ _ _ _ (Nat.le_refl _) (by simp [okS, hm]) (bal0 m hm) h

/-- What pieces come to hangs on the values of their names alone. -/
theorem den_hangs (vs ws : List (List UInt8 × List UInt8)) : ∀ (ps : List Pc) (d : Dp), (∀ p ∈ ps, (∃ l, p = .lit l) ∨ p = .fin ∨ valL vs (askP p) = valL ws (askP p)) → den vs ps d = den ws ps d ∧ depL vs ps d = depL ws ps d
  | [], d, _ => ⟨rfl, rfl⟩
  | p :: ps, d, h => by
    have hp := h p (List.mem_cons_self ..)
    have h1 : stepD vs p d = stepD ws p d := by
      rcases hp with ⟨l, rfl⟩ | rfl | hp
      · rfl
      · rfl
      · cases p <;> first | rfl | (simp only [askP] at hp; simp only [stepD, hp])
    have h2 : layP vs p d = layP ws p d := by
      rcases hp with ⟨l, rfl⟩ | rfl | hp
      · rfl
      · rfl
      · cases p <;> first | rfl | (simp only [askP] at hp; simp only [layP, hp])
    obtain ⟨h3, h4⟩ := den_hangs vs ws ps (stepD ws p d) (fun q hq => h q (List.mem_cons_of_mem _ hq))
    exact ⟨by simp only [den, h1, h2, h3], by simp only [depL, h1, h4]⟩
theorem met_mem : ∀ (ps : List Pc) (ms : List (List UInt8)), (∀ n ∈ ms, n ∈ metL ps ms) ∧ ∀ p ∈ ps, askP p ≠ [] → askP p ∈ metL ps ms
  | [], ms => ⟨fun _ h => h, fun p h => by cases h⟩
  | q :: ps, ms => by
    obtain ⟨h1, h2⟩ := met_mem ps (if askP q = [] ∨ askP q ∈ ms then ms else ms ++ [askP q])
    refine ⟨fun n hn => h1 n ?_, fun p hp hne => ?_⟩
    · split
      · exact hn
      · exact List.mem_append_left _ hn
    · rcases List.mem_cons.1 hp with rfl | hp
      · refine h1 _ ?_
        by_cases hm : askP p ∈ ms
        · rw [if_pos (.inr hm)]; exact hm
        · rw [if_neg (by rintro (h | h); exact hne h; exact hm h)]; simp
      · exact h2 p hp hne
end Go.Proofs.YtjmekcakiacdfabGreatDoor
