/- What a line put behind a list makes of it. -/
import Derived.Test.YtmgoknlpimfmnaaDoorOutP
import Derived.Test.YtmgoknlpimfmnaaDoorMeets
import Derived.Test.YtmgoknlpimfmnaaDoorTrimmed
import Derived.Test.YtmgoknlpimfmnaaDoorWithout
namespace Go.Proofs.YtmgoknlpimfmnaaDoor
open Go Go.RowKit

theorem dropWhile_twice {α : Type} (p : α → Bool) : ∀ l : List α, (l.dropWhile p).dropWhile p = l.dropWhile p
  | [] => rfl
  | x :: l => by
    by_cases h : p x = true
    · rw [List.dropWhile_cons_of_pos h]; exact dropWhile_twice p l
    · rw [List.dropWhile_cons_of_neg h, List.dropWhile_cons_of_neg h]
theorem dropWhile_snoc {α : Type} (p : α → Bool) (x : α) (hx : p x = false) : ∀ l : List α, (l ++ [x]).dropWhile p = l.dropWhile p ++ [x]
  | [] => by simp [hx]
  | y :: l => by
    by_cases h : p y = true
    · rw [List.cons_append, List.dropWhile_cons_of_pos h, List.dropWhile_cons_of_pos h]; exact dropWhile_snoc p x hx l
    · rw [List.cons_append, List.dropWhile_cons_of_neg h, List.dropWhile_cons_of_neg h]; rfl
theorem bang_trim (l : List UInt8) : Lib.trimS (33 :: l) [32, 9, 13] = 33 :: Lib.trimRightS l [32, 9, 13] := by
  unfold Lib.trimS Lib.trimRightS
  rw [List.reverse_cons, dropWhile_snoc _ _ (by decide), List.reverse_append]
  unfold Lib.trimLeftS
  simp
theorem trim_right (l : List UInt8) : Lib.trimS (Lib.trimRightS l [32, 9, 13]) [32, 9, 13] = Lib.trimS l [32, 9, 13] := by
  unfold Lib.trimS
  congr 1
  unfold Lib.trimRightS
  rw [List.reverse_reverse, dropWhile_twice]

theorem bang_prefix (l : List UInt8) : Lib.hasPrefix (33 :: l) [33] = true ∧ Lib.trimPrefix (33 :: l) [33] = l := by
  constructor
  · simp [Lib.hasPrefix]
  · simp [Lib.trimPrefix, Lib.hasPrefix]
theorem lineRule_bang (P : ByteArray) : lineRule (bs (33 :: un P)) = (patOf (trimB P)).map fun ps => some (true, ps ++ [none]) := by
  have e1 : un (trimB (bs (33 :: un P))) = 33 :: Lib.trimRightS (un P) [32, 9, 13] := by unfold trimB; rw [un_bs, un_bs, bang_trim]
  have e2 : trimB (bs (Lib.trimPrefix (un (trimB (bs (33 :: un P)))) [33])) = trimB P := by
    rw [e1, (bang_prefix _).2]; unfold trimB; rw [un_bs, trim_right]
  unfold lineRule
  rw [if_neg (by
    rintro (a | a)
    · rw [← un_length, e1] at a; simp at a
    · rw [e1] at a; simp at a), e2, e1, (bang_prefix _).1]
  rfl
theorem lineRule_none {P : ByteArray} (h : (trimB P).size = 0 ∨ (un (trimB P))[0]? = some 35) : lineRule P = some none := by unfold lineRule; rw [if_pos h]
theorem lineRule_back {P : ByteArray} (h : (un (trimB P))[0]? = some 33) : lineRule P = (patOf (trimB ((trimB P).extract 1 (trimB P).size))).map fun ps => some (true, ps ++ [none]) := by
  obtain ⟨l, hl⟩ : ∃ l, un (trimB P) = 33 :: l := by
    cases e : un (trimB P) with
    | nil => rw [e] at h; simp at h
    | cons a l => rw [e] at h; simp at h; exact ⟨l, by rw [h]⟩
  have e3 : (trimB P).extract 1 (trimB P).size = bs l := un_inj (by rw [un_extract, ← un_length, List.take_length, hl, un_bs]; rfl)
  unfold lineRule
  rw [if_neg (by
    rintro (a | a)
    · rw [← un_length, hl] at a; simp at a
    · rw [hl] at a; simp at a), e3, hl, (bang_prefix l).1, (bang_prefix l).2]
  rfl
theorem lineRule_plain {P : ByteArray} (h0 : 0 < (trimB P).size) (h1 : (un (trimB P))[0]? ≠ some 35) (h2 : (un (trimB P))[0]? ≠ some 33) : lineRule P = (patOf (trimB P)).map fun ps => some (false, ps ++ [none]) := by
  have hp : Lib.hasPrefix (un (trimB P)) [33] = false := by
    cases e : un (trimB P) with
    | nil => rfl
    | cons a l =>
      rw [e] at h2
      simp at h2
      show (((33 : UInt8) == a) && _) = false
      rw [beq_eq_false_iff_ne.2 (Ne.symm h2)]
      rfl
  unfold lineRule
  rw [if_neg (by rintro (a | a); omega; exact h1 a), hp]
  rfl

theorem out_snoc (rs : List Rule) (r : Rule) (xs : List ByteArray) : outB (rs ++ [r]) xs = if takeP r.2 xs then !r.1 else outB rs xs := by
  unfold outB
  rw [List.reverse_append]
  show (match (r :: rs.reverse).find? _ with | none => false | some r => !r.1) = _
  rw [List.find?_cons]
  cases takeP r.2 xs <;> rfl

theorem fine_pat {s : ByteArray} {ps : List Pc} (h : patOf s = some ps) : Short (ps ++ [none]) ∧ (ps ++ [none]).length ≤ 1099511627776 := by
  obtain ⟨h1, h2⟩ := pat_facts h
  refine ⟨fun qs hq => ?_, by simp; omega⟩
  rcases List.mem_append.1 hq with a | a
  · have := h2 qs a; omega
  · simp at a
theorem fine_line {line : ByteArray} {r : Rule} (h : lineRule line = some (some r)) : Short r.2 ∧ r.2.length ≤ 1099511627776 := by
  by_cases h0 : (trimB line).size = 0 ∨ (un (trimB line))[0]? = some 35
  · rw [lineRule_none h0] at h; cases h
  · have h1 : 0 < (trimB line).size := by omega
    have h2 : (un (trimB line))[0]? ≠ some 35 := fun e => h0 (.inr e)
    by_cases h3 : (un (trimB line))[0]? = some 33
    · rw [lineRule_back h3] at h
      cases hp : patOf (trimB ((trimB line).extract 1 (trimB line).size)) with
      | none => rw [hp] at h; cases h
      | some ps => rw [hp] at h; cases h; exact fine_pat hp
    · rw [lineRule_plain h1 h2 h3] at h
      cases hp : patOf (trimB line) with
      | none => rw [hp] at h; cases h
      | some ps => rw [hp] at h; cases h; exact fine_pat hp
theorem fine_add {rs rs2 : List Rule} {line : ByteArray} (hf : Fine rs) (h : addLine rs line = .ok rs2) : Fine rs2 := by
  refine ⟨addLine_le h hf.1, ?_⟩
  unfold addLine at h
  split at h
  · cases h; exact hf.2
  · split at h <;> cases h
  · rename_i r hr
    split at h
    · cases h
    · cases h
      intro q hq
      rcases List.mem_append.1 hq with a | a
      · exact hf.2 q a
      · simp at a; subst a; exact fine_line hr
theorem fine_lines : ∀ {ls : List (List UInt8)} {rs rs2 : List Rule}, Fine rs → addLines rs ls = .ok rs2 → Fine rs2
  | [], _, _, hf, h => by cases h; exact hf
  | x :: ls, rs, rs2, hf, h => by
    rw [addLines_cons] at h
    cases ha : addLine rs (bs x) with
    | error n => rw [ha] at h; cases h
    | ok r3 => rw [ha] at h; exact fine_lines (fine_add hf ha) h
theorem fine_parse {s : ByteArray} {rs : List Rule} (h : parseB s = .ok rs) : Fine rs := fine_lines (rs := []) ⟨by simp, fun r hr => by cases hr⟩ h

theorem addLines_one (rs : List Rule) (x : List UInt8) : addLines rs [x] = addLine rs (bs x) := by
  rw [addLines_cons]; cases addLine rs (bs x) <;> rfl
theorem parse_one {P : ByteArray} (h : (10 : UInt8) ∉ un P) : parseB P = addLine [] P := by
  unfold parseB; rw [linesL_none _ h, addLines_one, bs_un]
theorem parse_more {T S : ByteArray} {l : List UInt8} (hs : un S = un T ++ 10 :: l) (h : (10 : UInt8) ∉ l) : parseB S = match parseB T with | .error n => .error n | .ok rs => addLine rs (bs l) := by
  unfold parseB; rw [hs, linesL_append, addLines_append, linesL_none _ h]
  cases addLines [] (linesL (un T)) with
  | error n => rfl
  | ok rs => exact addLines_one rs l
end Go.Proofs.YtmgoknlpimfmnaaDoor
