/- The lines of a file, whole: P14.5 and P14.6, purely. -/
import Derived.Test.YtjgijbeedgggdaaGreatDoorLexU
namespace Go.Proofs.YtjgijbeedgggdaaGreatDoor
open Go

/-- The escape and the l-lines of a file; or the error, its line, its byte. -/
def lexL (s : Ln) : Except Flt (UInt8 × List LL) :=
  if 65536 < s.length then .error (5, 0, 0)
  else match wrongU s.length s 1 1 with
    | some (l, a) => .error (6, l, a)
    | none =>
      if 4096 < (cutL s).length then .error (5, 4097, 1)
      else match dirsL (cutL s) with
        | .error x => .error x
        | .ok (i, e) => match linesG e (cutL s) ((cutL s).length + 1) i with
          | .error x => .error x
          | .ok ls => .ok (e, ls)
theorem lexL_ok (s : Ln) (e : UInt8) (ls : List LL) (h : lexL s = .ok (e, ls)) : s.length ≤ 65536 ∧ Val s ∧ (cutL s).length ≤ 4096 ∧ ∃ i, dirsL (cutL s) = .ok (i, e) ∧ linesG e (cutL s) ((cutL s).length + 1) i = .ok ls := by
  unfold lexL at h
  split at h
  · cases h
  · rename_i h1
    split at h
    · cases h
    · rename_i h2
      split at h
      · cases h
      · rename_i h3
        split at h
        · cases h
        · rename_i i e' h4
          split at h
          · cases h
          · rename_i ls' h5
            cases h
            exact ⟨by omega, (wrong_val _ s 1 1 (Nat.le_refl _)).1 h2, by omega, i, h4, h5⟩
theorem lexL_mk (s : Ln) (e : UInt8) (ls : List LL) (i : Nat) (h1 : s.length ≤ 65536) (h2 : Val s) (h3 : (cutL s).length ≤ 4096) (h4 : dirsL (cutL s) = .ok (i, e)) (h5 : linesG e (cutL s) ((cutL s).length + 1) i = .ok ls) : lexL s = .ok (e, ls) := by
  unfold lexL
  rw [if_neg (by omega), (wrong_val _ s 1 1 (Nat.le_refl _)).2 h2]
  simp only
  rw [if_neg (by omega), h4]
  simp only
  rw [h5]
theorem dirs_none (x : Ln) (r : List Ln) (b : UInt8) (h : x[0]? = some b) (hb : isBl b = false) (h35 : b ≠ 35) : dirsL (x :: r) = .ok (0, 92) := by
  unfold dirsL
  simp only
  rw [dir_none x b h hb h35]
/-- One l-line of a text without documents, at the end of the file. -/
theorem lines_last (f : List Ln) (x : Ln) (i j : Nat) (fu : Nat) (text : Ln) (ms : List Mk) (hx : f[i]? = some x) (hn : noth x = false) (hJ : joinG 92 (f.drop i) i (hd x) 0 false = (ms, text, j)) (hh : hd text ≠ text.length) (hj : f[j]? = none) (ho : ∀ k : Nat, text[k]? = some (60 : UInt8) → text[k + 1]? ≠ some (60 : UInt8)) :
    (∀ q, copiesL text = true → splitR 92 text ≠ .error q) → linesG 92 f (fu + 2) i = .ok [⟨i + 1, text, ms, []⟩] := by
  intro hsp
  have hd2 : docsL 92 f (i + 1) text ms j = .ok ([], j) := by
    unfold docsL
    by_cases hc : copiesL text = true
    · rw [if_pos hc]
      cases hs : splitR 92 text with
      | error q => exact absurd hs (hsp q hc)
      | ok ws => exact docs_none f (i + 1) text ms ho _ j
    · rw [if_neg hc]
  have hl : linesG 92 f (fu + 1) j = .ok [] := by
    unfold linesG
    rw [hj]
  unfold linesG
  rw [hx]
  simp only
  rw [if_neg (by rw [hn]; decide), hJ]
  simp only
  rw [if_neg hh, hd2]
  simp only
  rw [hl]
theorem lines_last_err (f : List Ln) (x : Ln) (i j : Nat) (fu : Nat) (text : Ln) (ms : List Mk) (hx : f[i]? = some x) (hn : noth x = false) (hJ : joinG 92 (f.drop i) i (hd x) 0 false = (ms, text, j)) (hh : hd text ≠ text.length) (q : Nat) (hc : copiesL text = true) (hs : splitR 92 text = .error q) :
    ∀ ls, linesG 92 f (fu + 1) i ≠ .ok ls := by
  intro ls h
  unfold linesG at h
  rw [hx] at h
  simp only at h
  rw [if_neg (by rw [hn]; decide), hJ] at h
  simp only at h
  rw [if_neg hh] at h
  unfold docsL at h
  rw [if_pos hc, hs] at h
  cases h
/-- P14.5: a line is its own text, and so is the same line in two. -/
theorem lex_joined (s : Ln) (h : Single s) (hs : s.length ≤ 60000) (e : UInt8) (ls : List LL) (hl : lexL s = .ok (e, ls)) : (∃ ms, ls = [⟨1, s, ms, []⟩]) ∧ ∀ k b, s[k]? = some b → isBl b = false → b ≠ 35 → contU b = false → ∃ ms, lexL (s.take k ++ [92, 10] ++ s.drop k) = .ok (92, [⟨1, s, ms, []⟩]) := by
  obtain ⟨h1, h2, h3, i, h4, h5⟩ := lexL_ok s e ls hl
  obtain ⟨b0, hb0, hbl0, h350⟩ := h.first
  have hlen : 0 < s.length := (List.getElem?_eq_some_iff.1 hb0).1
  rw [cut_one s h] at h4 h5
  rw [dirs_none s [] b0 hb0 hbl0 h350] at h4
  cases h4
  have hhd : hd s = 0 := hd_zero s b0 hb0 hbl0
  have hJ : joinG 92 ([s].drop 0) 0 (hd s) 0 false = ([⟨0, 1, 1⟩], s, 1) := by rw [hhd]; exact join_single s h [] 0 0
  have hsp : ∀ q, copiesL s = true → splitR 92 s ≠ .error q := fun q hc he =>
    lines_last_err [s] s 0 1 1 s _ rfl (noth_not s b0 hb0 hbl0 h350) hJ (by omega) q hc he ls h5
  have hA := lines_last [s] s 0 1 0 s _ rfl (noth_not s b0 hb0 hbl0 h350) hJ (by omega) rfl h.noOpen hsp
  have e5 : Except.ok ls = .ok [⟨1, s, [⟨0, 1, 1⟩], []⟩] := h5.symm.trans hA
  cases e5
  refine ⟨⟨_, rfl⟩, fun k b hk hbl h35 hcont => ?_⟩
  have hkl := (List.getElem?_eq_some_iff.1 hk).1
  obtain ⟨ms, hms⟩ := join_split2 s h k b hk hbl h35
  have hx0 : ∃ c, (s.take k ++ [92])[0]? = some c ∧ isBl c = false ∧ c ≠ 35 := by
    cases k with
    | zero => exact ⟨92, rfl, by decide, by decide⟩
    | succ k =>
      refine ⟨b0, ?_, hbl0, h350⟩
      rw [List.getElem?_append_left (by rw [List.length_take]; omega), List.getElem?_take, if_pos (by omega)]
      exact hb0
  obtain ⟨c, hc0, hcbl, hc35⟩ := hx0
  have hcut := cut_two s h k hkl
  obtain ⟨v1, v2⟩ := h2.part k (by omega) (fun b' hb' => by rw [hk] at hb'; cases hb'; exact hcont)
  refine ⟨ms, lexL_mk _ 92 _ 0 ?_ ?_ ?_ ?_ ?_⟩
  · simp; omega
  · exact (v1.append (Val.ascii [92, 10] (by decide))).append v2
  · rw [hcut]; simp
  · rw [hcut]; exact dirs_none _ _ c hc0 hcbl hc35
  · rw [hcut]
    exact lines_last [s.take k ++ [92], s.drop k] (s.take k ++ [92]) 0 2 1 s ms rfl (noth_not _ c hc0 hcbl hc35) (by rw [hd_zero _ c hc0 hcbl]; exact hms) (by omega) rfl h.noOpen hsp
end Go.Proofs.YtjgijbeedgggdaaGreatDoor
