/- Words and documents with variables, purely: how a text is taken apart, and what its pieces come to. -/
import Derived.Test.YtbmakfdljddhcaaGreatDoorBytes
namespace Go.Proofs.YtbmakfdljddhcaaGreatDoor
open Go

def nmB (b : UInt8) (first : Bool) : Bool := (decide (65 ≤ b.toNat) && decide (b.toNat ≤ 90)) || (decide (97 ≤ b.toNat) && decide (b.toNat ≤ 122)) || b == 95 || (!first && decide (48 ≤ b.toNat) && decide (b.toNat ≤ 57))
def nmL : List UInt8 → Nat
  | [] => 0
  | b :: t => if nmB b true = true then 1 + (t.takeWhile (nmB · false)).length else 0
/-- A piece of a text. -/
inductive Pc where
  | lit (l : List UInt8)
  | var (n : List UInt8)
  | ifE (n : List UInt8)
  | ifF (n : List UInt8)
  | fin
deriving DecidableEq
/-- What stands at the next byte: something wrong, or a piece, how many bytes it has, and what is open behind it (the last opened first: 0 a word, 1 a document, 2 braces, 3 quotes). -/
inductive Tk where
  | bad (n : Nat)
  | good (p : Pc) (k : Nat) (st : List Nat)
deriving DecidableEq
def escs (m : Nat) (d e : UInt8) : Bool := if m = 1 then d == 36 || d == e else if m = 3 then d == 36 || d == e || d == 34 else true
def act (e b : UInt8) : Bool := b == e || b == 36 || b == 34 || b == 39 || b == 125
def opq (m : Nat) : Bool := m == 0 || m == 2
def idx (c : UInt8) : List UInt8 → Option Nat
  | [] => none
  | b :: t => if b = c then some 0 else (idx c t).map (· + 1)
def bracesS (st : List Nat) (u : List UInt8) : Tk :=
  if nmL u = 0 then .bad 4
  else if [125].isPrefixOf (u.drop (nmL u)) = true then .good (.var (u.take (nmL u))) (2 + nmL u + 1) st
  else if [58, 45].isPrefixOf (u.drop (nmL u)) = true then .good (.ifE (u.take (nmL u))) (2 + nmL u + 2) (2 :: st)
  else if [58, 43].isPrefixOf (u.drop (nmL u)) = true then .good (.ifF (u.take (nmL u))) (2 + nmL u + 2) (2 :: st)
  else .bad 4
def dollarS (st : List Nat) (t : List UInt8) : Tk :=
  if [123].isPrefixOf t = true then bracesS st t.tail
  else if nmL t = 0 then .good (.lit [36]) 1 st
  else .good (.var (t.take (nmL t))) (1 + nmL t) st
def escS (e : UInt8) (st : List Nat) (b : UInt8) (t : List UInt8) : Tk :=
  match t with
  | [] => .good (.lit [b]) 1 st
  | d :: _ => if escs (st.headD 0) d e = true then .good (.lit [d]) 2 st else .good (.lit [b]) 1 st
def singS (st : List Nat) (t : List UInt8) : Tk :=
  match idx 39 t with
  | none => .bad 18
  | some k => .good (.lit (t.take k)) (k + 2) st
def runS (e : UInt8) (st : List Nat) (b : UInt8) (t : List UInt8) : Tk := .good (.lit (b :: t.takeWhile (fun c => !act e c))) (1 + (t.takeWhile (fun c => !act e c)).length) st
def takeS (e : UInt8) (st : List Nat) (b : UInt8) (t : List UInt8) : Tk :=
  if b = e then escS e st b t
  else if b = 36 then dollarS st t
  else if b = 34 ∧ st.headD 0 = 3 then .good (.lit []) 1 st.tail
  else if b = 34 ∧ opq (st.headD 0) = true then .good (.lit []) 1 (3 :: st)
  else if b = 39 ∧ opq (st.headD 0) = true then singS st t
  else if b = 125 ∧ st.headD 0 = 2 then .good .fin 1 st.tail
  else runS e st b t
def endS (st : List Nat) : Nat := if st.headD 0 = 3 then 18 else if st.headD 0 = 2 then 4 else 0
def eachF (e : UInt8) : Nat → List Nat → List UInt8 → List Pc × Nat
  | 0, st, _ => ([], endS st)
  | _ + 1, st, [] => ([], endS st)
  | f + 1, st, b :: t => match takeS e st b t with
    | .bad n => ([], n)
    | .good p k st2 => (p :: (eachF e f st2 ((b :: t).drop k)).1, (eachF e f st2 ((b :: t).drop k)).2)
/-- All pieces, up to the first thing that is wrong; and its number. -/
def eachL (e : UInt8) (st : List Nat) (l : List UInt8) : List Pc × Nat := eachF e l.length st l
theorem takeS_pos (e : UInt8) (st : List Nat) (b : UInt8) (t : List UInt8) (p : Pc) (k : Nat) (st2 : List Nat) (h : takeS e st b t = .good p k st2) : 1 ≤ k := by
  unfold takeS escS dollarS bracesS singS runS at h
  repeat' split at h
  all_goals first | (cases h; omega) | cases h
theorem eachF_any (e : UInt8) : ∀ (f g : Nat) (st : List Nat) (l : List UInt8), l.length ≤ f → l.length ≤ g → eachF e f st l = eachF e g st l
  | 0, 0, _, _, _, _ => rfl
  | 0, g + 1, st, l, h, _ => by
    obtain rfl : l = [] := List.eq_nil_of_length_eq_zero (by omega)
    rfl
  | f + 1, 0, st, l, _, h => by
    obtain rfl : l = [] := List.eq_nil_of_length_eq_zero (by omega)
    rfl
  | f + 1, g + 1, st, [], _, _ => rfl
  | f + 1, g + 1, st, b :: t, h1, h2 => by
    unfold eachF
    cases hk : takeS e st b t with
    | bad n => rfl
    | good p k st2 =>
      have hp := takeS_pos e st b t p k st2 hk
      simp only [List.length_cons] at h1 h2
      have hl : ((b :: t).drop k).length ≤ t.length := by rw [List.length_drop, List.length_cons]; omega
      simp only [eachF_any e f g st2 ((b :: t).drop k) (by omega) (by omega)]
theorem eachL_nil (e : UInt8) (st : List Nat) : eachL e st [] = ([], endS st) := rfl
theorem eachL_bad {e : UInt8} {st : List Nat} {b : UInt8} {t : List UInt8} {n : Nat} (h : takeS e st b t = .bad n) : eachL e st (b :: t) = ([], n) := by
  show eachF e (t.length + 1) st (b :: t) = _
  unfold eachF; rw [h]
theorem eachL_good {e : UInt8} {st : List Nat} {b : UInt8} {t : List UInt8} {p : Pc} {k : Nat} {st2 : List Nat} (h : takeS e st b t = .good p k st2) : eachL e st (b :: t) = (p :: (eachL e st2 ((b :: t).drop k)).1, (eachL e st2 ((b :: t).drop k)).2) := by
  have hp := takeS_pos e st b t p k st2 h
  show eachF e (t.length + 1) st (b :: t) = _
  unfold eachF; rw [h]
  have hl : ((b :: t).drop k).length ≤ t.length := by rw [List.length_drop, List.length_cons]; omega
  simp only [eachL, eachF_any e t.length ((b :: t).drop k).length st2 ((b :: t).drop k) hl (Nat.le_refl _)]
/-- What is open: at the bottom a word or a document, above it braces and quotes. -/
def okS : List Nat → Bool
  | [] => false
  | [b] => decide (b ≤ 1)
  | x :: y :: l => (x == 2 || x == 3) && okS (y :: l)
theorem okS_ne {st : List Nat} (h : okS st = true) : st ≠ [] := by rintro rfl; simp [okS] at h
theorem okS_push {st : List Nat} (h : okS st = true) (m : Nat) (hm : m = 2 ∨ m = 3) : okS (m :: st) = true := by
  cases st with
  | nil => simp [okS] at h
  | cons y l => rcases hm with rfl | rfl <;> simp [okS, h]
theorem okS_pop {st : List Nat} (h : okS st = true) (hm : st.headD 0 = 2 ∨ st.headD 0 = 3) : okS st.tail = true := by
  match st, h with
  | [b], h => simp [okS] at h; simp at hm; omega
  | x :: y :: l, h => simp [okS] at h; simpa using h.2
theorem okS_le {st : List Nat} (h : okS st = true) : st.headD 0 ≤ 3 := by
  match st, h with
  | [b], h => simp [okS] at h; simp; omega
  | x :: y :: l, h => simp [okS] at h; simp; omega
theorem okS_mem : ∀ {st : List Nat}, okS st = true → ∀ x ∈ st, x ≤ 3
  | [b], h, x, hx => by simp [okS] at h; simp at hx; omega
  | a :: y :: l, h, x, hx => by
    simp [okS] at h
    rcases List.mem_cons.1 hx with rfl | hx
    · omega
    · exact okS_mem (st := y :: l) h.2 x hx
theorem nmL_le (l : List UInt8) : nmL l ≤ l.length := by
  cases l with
  | nil => exact Nat.le_refl _
  | cons b t =>
    have := (List.takeWhile_sublist (nmB · false) (l := t)).length_le
    by_cases h : nmB b true = true
    · rw [nmL, if_pos h, List.length_cons]; omega
    · rw [nmL, if_neg h]; exact Nat.zero_le _
theorem idx_le (c : UInt8) : ∀ (l : List UInt8) (k : Nat), idx c l = some k → k < l.length
  | [], k, h => by simp [idx] at h
  | b :: t, k, h => by
    unfold idx at h
    split at h
    · simp at h; subst h; simp
    · obtain ⟨j, hj, rfl⟩ := Option.map_eq_some_iff.1 h
      have := idx_le c t j hj
      simp; omega
theorem pre_len {p l : List UInt8} (h : p.isPrefixOf l = true) : p.length ≤ l.length := (List.isPrefixOf_iff_prefix.1 h).length_le
theorem takeS_good {e : UInt8} {st : List Nat} {b : UInt8} {t : List UInt8} {p : Pc} {k : Nat} {st2 : List Nat} (h : takeS e st b t = .good p k st2) (hs : okS st = true) : 1 ≤ k ∧ k ≤ t.length + 1 ∧ okS st2 = true ∧ st2.length ≤ st.length + 1 := by
  have hq := nmL_le t
  have hq2 := nmL_le t.tail
  unfold takeS at h
  split at h
  · unfold escS at h
    repeat' split at h
    all_goals (cases h; simp [hs])
  split at h
  · unfold dollarS bracesS at h
    split at h
    · rename_i h1
      have := pre_len h1
      simp at this
      split at h
      · cases h
      split at h
      · rename_i h2
        have := pre_len h2
        simp at this hq2
        cases h; refine ⟨?_, ?_, hs, ?_⟩ <;> omega
      split at h
      · rename_i h2
        have := pre_len h2
        simp at this hq2
        cases h; refine ⟨?_, ?_, okS_push hs 2 (.inl rfl), ?_⟩ <;> simp <;> omega
      split at h
      · rename_i h2
        have := pre_len h2
        simp at this hq2
        cases h; refine ⟨?_, ?_, okS_push hs 2 (.inl rfl), ?_⟩ <;> simp <;> omega
      · cases h
    split at h
    · cases h; simp [hs]
    · cases h; refine ⟨?_, ?_, hs, ?_⟩ <;> omega
  split at h
  · rename_i h1
    cases h; refine ⟨Nat.le_refl _, by omega, okS_pop hs (.inr h1.2), by simp; omega⟩
  split at h
  · cases h; refine ⟨Nat.le_refl _, by omega, okS_push hs 3 (.inr rfl), by simp⟩
  split at h
  · unfold singS at h
    split at h
    · cases h
    · rename_i k2 hk
      have := idx_le _ _ _ hk
      cases h; refine ⟨?_, ?_, hs, ?_⟩ <;> omega
  split at h
  · rename_i h1
    cases h; refine ⟨Nat.le_refl _, by omega, okS_pop hs (.inl h1.2), by simp; omega⟩
  · unfold runS at h
    have := (List.takeWhile_sublist (fun c => !act e c) (l := t)).length_le
    cases h; refine ⟨?_, ?_, hs, ?_⟩ <;> omega

/-- A variable: the last pair's value. -/
def valL (vars : List (List UInt8 × List UInt8)) (n : List UInt8) : List UInt8 :=
  match vars with
  | [] => []
  | (k, v) :: r => if r.any (fun x => x.1 == n) = true then valL r n else if k = n then v else []
/-- How deep pieces stand, and in which depth they are hid. -/
structure Dp where
  depth : Int
  hid : Int
deriving DecidableEq
def begD (t : Bool) (d : Dp) : Dp := ⟨d.depth + 1, if t = false ∧ d.hid = 0 then d.depth + 1 else d.hid⟩
def endD (d : Dp) : Dp := ⟨d.depth - 1, if d.hid = d.depth then 0 else d.hid⟩
def isE (l : List UInt8) : Bool := l.isEmpty
def stepD (vars : List (List UInt8 × List UInt8)) (p : Pc) (d : Dp) : Dp :=
  match p with
  | .lit _ | .var _ => d
  | .ifE n => begD (valL vars n).isEmpty d
  | .ifF n => begD (!(valL vars n).isEmpty) d
  | .fin => endD d
/-- What a piece lays. -/
def layP (vars : List (List UInt8 × List UInt8)) (p : Pc) (d : Dp) : List UInt8 :=
  if 0 < d.hid then [] else match p with
  | .lit l => l
  | .var n | .ifE n => valL vars n
  | .ifF _ | .fin => []
def depL (vars : List (List UInt8 × List UInt8)) : List Pc → Dp → Dp
  | [], d => d
  | p :: l, d => depL vars l (stepD vars p d)
def den (vars : List (List UInt8 × List UInt8)) : List Pc → Dp → List UInt8
  | [], _ => []
  | p :: l, d => layP vars p d ++ den vars l (stepD vars p d)
theorem depL_append (vars : List (List UInt8 × List UInt8)) (a b : List Pc) (d : Dp) : depL vars (a ++ b) d = depL vars b (depL vars a d) := by
  induction a generalizing d with
  | nil => rfl
  | cons p a ih => exact ih _
theorem den_append (vars : List (List UInt8 × List UInt8)) (a b : List Pc) (d : Dp) : den vars (a ++ b) d = den vars a d ++ den vars b (depL vars a d) := by
  induction a generalizing d with
  | nil => rfl
  | cons p a ih => simp only [List.cons_append, den, depL, ih, List.append_assoc]
def d0 : Dp := ⟨0, 0⟩
/-- What a text comes to, or its error. -/
def ansL (vars : List (List UInt8 × List UInt8)) (r : List Pc × Nat) : Nat × List UInt8 :=
  if r.2 ≠ 0 then (r.2, []) else if 65536 < (den vars r.1 d0).length then (5, []) else (0, den vars r.1 d0)
def wordL (e : UInt8) (vars : List (List UInt8 × List UInt8)) (l : List UInt8) : Nat × List UInt8 := ansL vars (eachL e [0] l)
def docL (e : UInt8) (vars : List (List UInt8 × List UInt8)) (l : List UInt8) : Nat × List UInt8 := ansL vars (eachL e [1] l)
/-- The name that a piece asks for. -/
def askP : Pc → List UInt8
  | .lit _ | .fin => []
  | .var n | .ifE n | .ifF n => n
/-- The names of pieces, each once. -/
def metL : List Pc → List (List UInt8) → List (List UInt8)
  | [], ms => ms
  | p :: l, ms => metL l (if askP p = [] ∨ askP p ∈ ms then ms else ms ++ [askP p])
def namesL (e : UInt8) (l : List UInt8) : List (List UInt8) := if (eachL e [0] l).2 ≠ 0 then [] else metL (eachL e [0] l).1 []
theorem metL_append (a b : List Pc) (ms : List (List UInt8)) : metL (a ++ b) ms = metL b (metL a ms) := by
  induction a generalizing ms with
  | nil => rfl
  | cons p a ih => exact ih _
end Go.Proofs.YtbmakfdljddhcaaGreatDoor
