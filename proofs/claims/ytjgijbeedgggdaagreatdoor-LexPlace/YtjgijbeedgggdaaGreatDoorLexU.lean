/- Texts of whole characters (UTF-8), purely. -/
import Derived.Test.YtjgijbeedgggdaaGreatDoorLexT
namespace Go.Proofs.YtjgijbeedgggdaaGreatDoor
open Go

def leadN (c : UInt8) : Nat := if c < 128 then 1 else if 194 ≤ c ∧ c ≤ 223 then 2 else if 224 ≤ c ∧ c ≤ 239 then 3 else if 240 ≤ c ∧ c ≤ 244 then 4 else 0
def lowU (c : UInt8) : UInt8 := if c = 224 then 160 else if c = 240 then 144 else 128
def highU (c : UInt8) : UInt8 := if c = 237 then 159 else if c = 244 then 143 else 191
def contU (b : UInt8) : Bool := decide (128 ≤ b) && decide (b ≤ 191)
def chrT (c : UInt8) : Ln → Nat
  | [] => 0
  | a :: r => if (decide (lowU c ≤ a) && decide (a ≤ highU c) && (r.take (leadN c - 2)).all contU) = true then leadN c else 0
/-- How many bytes the character has that begins a text; 0: none does. -/
def chrN : Ln → Nat
  | [] => 0
  | c :: r => if leadN c = 1 then 1 else if leadN c = 0 ∨ r.length + 1 < leadN c then 0 else chrT c r
theorem chrN_cons (c : UInt8) (r : Ln) : chrN (c :: r) = if leadN c = 1 then 1 else if leadN c = 0 ∨ r.length + 1 < leadN c then 0 else chrT c r := rfl
theorem chrT_cons (c a : UInt8) (r : Ln) : chrT c (a :: r) = if (decide (lowU c ≤ a) && decide (a ≤ highU c) && (r.take (leadN c - 2)).all contU) = true then leadN c else 0 := rfl
/-- Is a text one of whole characters? -/
inductive Val : Ln → Prop
  | nil : Val []
  | step (s : Ln) (h : 0 < chrN s) (hv : Val (s.drop (chrN s))) : Val s
theorem lowU_ge (c : UInt8) : 128 ≤ lowU c := by
  unfold lowU
  split
  · decide
  · split <;> decide
theorem highU_le (c : UInt8) : highU c ≤ 191 := by
  unfold highU
  split
  · decide
  · split <;> decide
theorem cont_of (c a : UInt8) (h1 : lowU c ≤ a) (h2 : a ≤ highU c) : contU a = true := by
  have g1 := lowU_ge c
  have g2 := highU_le c
  unfold contU
  simp only [Bool.and_eq_true, decide_eq_true_eq]
  simp only [UInt8.le_iff_toNat_le] at h1 h2 g1 g2 ⊢
  exact ⟨Nat.le_trans g1 h1, Nat.le_trans h2 g2⟩
theorem leadN_le (c : UInt8) : leadN c ≤ 4 := by unfold leadN; repeat' split
                                                 all_goals omega
/-- A character's length, and that all but its first byte go on. -/
theorem chrN_cont (s : Ln) (h : 0 < chrN s) : chrN s ≤ s.length ∧ ∀ k b, 0 < k → k < chrN s → s[k]? = some b → contU b = true := by
  cases s with
  | nil => simp [chrN] at h
  | cons c r =>
    rw [chrN_cons] at h ⊢
    by_cases h1 : leadN c = 1
    · rw [if_pos h1]
      exact ⟨by simp, fun k b hk hk2 => by omega⟩
    rw [if_neg h1] at h ⊢
    by_cases h2 : leadN c = 0 ∨ r.length + 1 < leadN c
    · rw [if_pos h2] at h; omega
    rw [if_neg h2] at h ⊢
    cases r with
    | nil => simp [chrT] at h
    | cons a r =>
      rw [chrT_cons] at h ⊢
      by_cases h3 : (decide (lowU c ≤ a) && decide (a ≤ highU c) && (r.take (leadN c - 2)).all contU) = true
      · rw [if_pos h3] at h ⊢
        simp only [Bool.and_eq_true, decide_eq_true_eq] at h3
        simp only [List.length_cons] at h2 ⊢
        refine ⟨by omega, fun k b hk hk2 hb => ?_⟩
        rcases k with _ | _ | k
        · omega
        · simp at hb; subst hb; exact cont_of c a h3.1.1 h3.1.2
        · simp at hb
          have : b ∈ r.take (leadN c - 2) := by
            apply List.mem_of_getElem? (i := k)
            rw [List.getElem?_take, if_pos (by omega)]; exact hb
          exact List.all_eq_true.1 h3.2 b this
      · rw [if_neg h3] at h; omega
/-- What begins a text begins it whatever stands behind, and in a beginning that holds it. -/
theorem chrN_append (a b : Ln) (h : 0 < chrN a) : chrN (a ++ b) = chrN a := by
  cases a with
  | nil => simp [chrN] at h
  | cons c r =>
    rw [List.cons_append, chrN_cons, chrN_cons]
    rw [chrN_cons] at h
    by_cases h1 : leadN c = 1
    · rw [if_pos h1, if_pos h1]
    rw [if_neg h1] at h ⊢
    rw [if_neg h1]
    by_cases h2 : leadN c = 0 ∨ r.length + 1 < leadN c
    · rw [if_pos h2] at h; omega
    rw [if_neg h2] at h ⊢
    rw [if_neg (by rw [List.length_append]; omega)]
    cases r with
    | nil => simp [chrT] at h
    | cons d r =>
      rw [List.cons_append, chrT_cons, chrT_cons]
      have : (r ++ b).take (leadN c - 2) = r.take (leadN c - 2) := List.take_append_of_le_length (by simp only [List.length_cons] at h2; omega)
      rw [this]
theorem Val.append {a b : Ln} (ha : Val a) (hb : Val b) : Val (a ++ b) := by
  induction ha with
  | nil => exact hb
  | step s h hv ih =>
    have hc := chrN_append s b h
    have hl := (chrN_cont s h).1
    refine Val.step _ (by rw [hc]; exact h) ?_
    rw [hc, List.drop_append_of_le_length hl]
    exact ih
theorem chrN_take (s : Ln) (k : Nat) (h : 0 < chrN s) (hk : chrN s ≤ k) : chrN (s.take k) = chrN s := by
  cases s with
  | nil => simp [chrN] at h
  | cons c r =>
    obtain ⟨k, rfl⟩ : ∃ j, k = j + 1 := ⟨k - 1, by omega⟩
    rw [List.take_succ_cons, chrN_cons, chrN_cons]
    rw [chrN_cons] at h hk
    by_cases h1 : leadN c = 1
    · rw [if_pos h1, if_pos h1]
    rw [if_neg h1] at h hk ⊢
    rw [if_neg h1]
    by_cases h2 : leadN c = 0 ∨ r.length + 1 < leadN c
    · rw [if_pos h2] at h; omega
    rw [if_neg h2] at h hk ⊢
    cases r with
    | nil => simp [chrT] at h
    | cons d r =>
      rw [chrT_cons] at h hk ⊢
      by_cases h3 : (decide (lowU c ≤ d) && decide (d ≤ highU c) && (r.take (leadN c - 2)).all contU) = true
      · rw [if_pos h3] at h hk ⊢
        obtain ⟨k, rfl⟩ : ∃ j, k = j + 1 := ⟨k - 1, by omega⟩
        rw [List.take_succ_cons]
        simp only [List.length_cons] at h2
        rw [if_neg (by rw [List.length_cons, List.length_take]; omega)]
        rw [chrT_cons, List.take_take, Nat.min_eq_left (by omega), if_pos h3]
      · rw [if_neg h3] at h; omega
/-- A text of whole characters is parted where a character begins. -/
theorem Val.part {s : Ln} (hs : Val s) : ∀ k, k ≤ s.length → (∀ b, s[k]? = some b → contU b = false) → Val (s.take k) ∧ Val (s.drop k) := by
  induction hs with
  | nil => intro k hk _; simp at hk; subst hk; exact ⟨Val.nil, Val.nil⟩
  | step s h hv ih =>
    intro k hk hb
    obtain ⟨hl, hc⟩ := chrN_cont s h
    by_cases hk0 : k = 0
    · subst hk0; exact ⟨Val.nil, Val.step s h hv⟩
    by_cases hkn : chrN s ≤ k
    · have hd : (s.drop (chrN s)).length = s.length - chrN s := List.length_drop ..
      obtain ⟨v1, v2⟩ := ih (k - chrN s) (by omega) (fun b hbb => hb b (by rw [List.getElem?_drop] at hbb; rw [← hbb]; congr 1; omega))
      rw [List.drop_drop, show chrN s + (k - chrN s) = k by omega] at v2
      refine ⟨Val.step _ (by rw [chrN_take s k h hkn]; exact h) ?_, v2⟩
      rw [chrN_take s k h hkn, List.drop_take]
      exact v1
    · exfalso
      obtain ⟨b, hbk⟩ : ∃ b, s[k]? = some b := ⟨_, List.getElem?_eq_getElem (by omega)⟩
      have h1 := hc k b (by omega) (by omega) hbk
      rw [hb b hbk] at h1
      cases h1
theorem Val.ascii (x : Ln) (h : ∀ b ∈ x, b < 128) : Val x := by
  induction x with
  | nil => exact Val.nil
  | cons b x ih =>
    have hb : chrN (b :: x) = 1 := by
      have : leadN b = 1 := by unfold leadN; rw [if_pos (h b List.mem_cons_self)]
      rw [chrN_cons, if_pos this]
    refine Val.step _ (by rw [hb]; omega) ?_
    rw [hb]
    exact ih (fun c hc => h c (List.mem_cons_of_mem _ hc))
/-- The line and the byte at which no character begins. -/
def wrongU : Nat → Ln → Nat → Nat → Option (Nat × Nat)
  | 0, _, _, _ => none
  | _ + 1, [], _, _ => none
  | fu + 1, c :: r, line, col => if chrN (c :: r) = 0 then some (line, col) else if c = 10 then wrongU fu ((c :: r).drop (chrN (c :: r))) (line + 1) 1 else wrongU fu ((c :: r).drop (chrN (c :: r))) line (col + chrN (c :: r))
theorem wrong_val : ∀ (fu : Nat) (s : Ln) (line col : Nat), s.length ≤ fu → (wrongU fu s line col = none ↔ Val s)
  | 0, s, _, _, h => by
    have : s = [] := List.eq_nil_of_length_eq_zero (by omega)
    subst this
    exact ⟨fun _ => Val.nil, fun _ => rfl⟩
  | fu + 1, [], _, _, _ => ⟨fun _ => Val.nil, fun _ => rfl⟩
  | fu + 1, c :: r, line, col, h => by
    unfold wrongU
    by_cases h0 : chrN (c :: r) = 0
    · rw [if_pos h0]
      refine ⟨fun e => (by cases e), fun hv => ?_⟩
      cases hv with
      | step _ h1 _ => omega
    · rw [if_neg h0]
      have hl : ((c :: r).drop (chrN (c :: r))).length ≤ fu := by rw [List.length_drop]; rw [List.length_cons] at h ⊢; omega
      have key : ∀ a b, (wrongU fu ((c :: r).drop (chrN (c :: r))) a b = none ↔ Val (c :: r)) := fun a b => by
        rw [wrong_val fu _ a b hl]
        refine ⟨fun hv => Val.step _ (by omega) hv, fun hv => ?_⟩
        cases hv with
        | step _ _ h2 => exact h2
      split
      · exact key _ _
      · exact key _ _
end Go.Proofs.YtjgijbeedgggdaaGreatDoor
