/- How the states go on, case by case. -/
import Derived.Test.YtjgijbeedgggdaaGreatDoorWordM
namespace Go.Proofs.YtjgijbeedgggdaaGreatDoor
open Go

theorem escN_ne (c : UInt8) : escN c ≠ 34 ∧ escN c ≠ 39 ∧ isBl (escN c) = false := by
  unfold escN; split <;> decide
theorem step_3 (e b : UInt8) (k : Nat) (T : St) (h : T.now = 3) : stepS e b k T = if b = 39 then { T with now := 1 } else T := by
  obtain ⟨o, n, bg, q⟩ := T; simp only at h; subst h
  by_cases hb : b = 39 <;> simp [stepS, behN, hb]
theorem step_4e (e b : UInt8) (k : Nat) (T : St) (h : T.now = 4) (hb : b = e) : stepS e b k T = { T with now := 5 } := by
  obtain ⟨o, n, bg, q⟩ := T; simp only at h; subst h; simp [stepS, behN, hb]
theorem step_4 (e b : UInt8) (k : Nat) (T : St) (h : T.now = 4) (hb : b ≠ e) : stepS e b k T = if b = 34 then { T with now := 1 } else T := by
  obtain ⟨o, n, bg, q⟩ := T; simp only at h; subst h
  by_cases h2 : b = 34
  · simp only [stepS, behN, h2]; simp
    simp only [h2] at hb; simp [hb]
  · simp [stepS, behN, hb, h2]
theorem step_5 (e b : UInt8) (k : Nat) (T : St) (h : T.now = 5) : stepS e b k T = { T with now := 4 } := by
  obtain ⟨o, n, bg, q⟩ := T; simp only at h; subst h; simp [stepS, behN]
theorem step_2 (e b : UInt8) (k : Nat) (T : St) (h : T.now = 2) : stepS e b k T = { T with now := 1 } := by
  obtain ⟨o, n, bg, q⟩ := T; simp only at h; subst h; simp [stepS, behN]
theorem outN_ne (b e : UInt8) (hb : isBl b = false) : outN b e ≠ 0 := by
  unfold outN; rw [hb]; simp only [Bool.false_eq_true, if_false]; repeat' split
  all_goals omega
theorem step_01 (e b : UInt8) (k : Nat) (T : St) (h : T.now = 0 ∨ T.now = 1) (hb : isBl b = false) : stepS e b k T = ⟨T.out, outN b e, if T.now = 0 then k else T.beg, if 3 ≤ outN b e then k else T.quo⟩ := by
  have hn := outN_ne b e hb
  obtain ⟨o, n, bg, q⟩ := T
  rcases h with h | h <;> (simp only at h; subst h; simp [stepS, behN, hn])
theorem step_0b (e b : UInt8) (k : Nat) (T : St) (h : T.now = 0) (hb : isBl b = true) : stepS e b k T = T := by
  obtain ⟨o, n, bg, q⟩ := T; simp only at h; subst h; simp [stepS, behN, outN, hb]
theorem step_1b (e b : UInt8) (k : Nat) (T : St) (h : T.now = 1) (hb : isBl b = true) : stepS e b k T = ⟨T.out ++ [(T.beg, k)], 0, T.beg, T.quo⟩ := by
  obtain ⟨o, n, bg, q⟩ := T; simp only at h; subst h; simp [stepS, behN, outN, hb]
end Go.Proofs.YtjgijbeedgggdaaGreatDoor
