/- A field's number, told by places: blanks, digits, and what stands behind them. Nothing of a program. -/
import Derived.Test.YtgdkgdlgalinbaaGreatDoorNumU
namespace Go.Proofs.YtgdkgdlgalinbaaGreatDoor
open Go Go.RowKit

theorem blanks_eq : ∀ (q : Nat) (l : List UInt8), (∀ j, j < q → l[j]? = some 32) → l[q]? ≠ some 32 → blanks l = q
  | 0, [], _, _ => rfl
  | 0, c :: l, _, h => by
    have hc : (c == 32) = false := beq_eq_false_iff_ne.2 (fun e => h (by rw [e]; rfl))
    unfold blanks
    rw [List.takeWhile_cons, hc]; rfl
  | q + 1, [], h, _ => by have := h 0 (by omega); simp at this
  | q + 1, c :: l, h, h2 => by
    have hc : c = 32 := by have := h 0 (by omega); simpa using this
    have ih := blanks_eq q l (fun j hj => by have := h (j + 1) (by omega); simpa using this) (by simpa using h2)
    unfold blanks at ih ⊢
    rw [List.takeWhile_cons, hc, show ((32 : UInt8) == 32) = true from rfl, if_pos rfl, List.length_cons, ih]
theorem dw_ge (p : UInt8 → Bool) (B : List UInt8) (c : UInt8) (hc : p c = false) : ∀ A : List UInt8, B.length + 1 ≤ ((A ++ c :: B).dropWhile p).length
  | [] => by rw [List.nil_append, List.dropWhile_cons, hc]; simp
  | a :: A => by
    rw [List.cons_append, List.dropWhile_cons]
    cases p a with
    | true => exact dw_ge p B c hc A
    | false => simp; omega
theorem dw_le (p : UInt8 → Bool) (B : List UInt8) : ∀ A : List UInt8, (∀ a ∈ A, p a = true) → ((A ++ B).dropWhile p).length ≤ B.length
  | [], _ => by
    rw [List.nil_append]
    have := congrArg List.length (List.takeWhile_append_dropWhile (p := p) (l := B))
    rw [List.length_append] at this; omega
  | a :: A, h => by
    rw [List.cons_append, List.dropWhile_cons, h a List.mem_cons_self, if_pos rfl]
    exact dw_le p B A (fun x hx => h x (List.mem_cons_of_mem _ hx))
theorem coreN_ge (t : List UInt8) (p : Nat) (c : UInt8) (h : t[p]? = some c) (h0 : c ≠ 0) (h32 : c ≠ 32) : p < coreN t := by
  obtain ⟨hp, he⟩ := List.getElem?_eq_some_iff.1 h
  have e : t.reverse = (t.drop (p + 1)).reverse ++ c :: (t.take p).reverse := by
    have e1 : t = t.take p ++ c :: t.drop (p + 1) := by rw [← he, List.getElem_cons_drop, List.take_append_drop]
    calc t.reverse = (t.take p ++ c :: t.drop (p + 1)).reverse := congrArg List.reverse e1
      _ = _ := by simp
  unfold coreN
  rw [e]
  have := dw_ge (fun c => c == 0 || c == 32) (t.take p).reverse c (by simp [h0, h32]) (t.drop (p + 1)).reverse
  rw [List.length_reverse, List.length_take] at this
  omega
theorem coreN_le' (t : List UInt8) (m : Nat) (h : ∀ j c, m ≤ j → t[j]? = some c → c = 0 ∨ c = 32) : coreN t ≤ m := by
  have e : t.reverse = (t.drop m).reverse ++ (t.take m).reverse := by
    rw [← List.reverse_append, List.take_append_drop]
  unfold coreN
  rw [e]
  have := dw_le (fun c => c == 0 || c == 32) (t.take m).reverse (t.drop m).reverse (fun a ha => by
    obtain ⟨j, hj⟩ := List.mem_iff_getElem?.1 (List.mem_reverse.1 ha)
    rw [List.getElem?_drop] at hj
    rcases h _ a (by omega) hj with rfl | rfl <;> rfl)
  rw [List.length_reverse, List.length_take] at this
  omega
theorem num_not (l : List UInt8) (k : Nat) (c : UInt8) (h : (coreL l)[k]? = some c) (hc : isOct c = false) : numV l = (0, false) := by
  unfold numV
  by_cases h0 : coreL l = []
  · rw [if_pos h0]
  · rw [if_neg h0, if_neg]
    intro ha
    have := List.all_eq_true.1 ha c (List.mem_of_getElem? h)
    rw [hc] at this; cases this
theorem coreL_get (l : List UInt8) (q k : Nat) (hq : blanks l = q) (hk : k < coreN (l.drop q)) : (coreL l)[k]? = l[q + k]? := by
  unfold coreL
  rw [hq, List.getElem?_take_of_lt hk, List.getElem?_drop]
/-- Behind the blanks stands no digit. -/
theorem num_none (l : List UInt8) (q : Nat) (h1 : ∀ j, j < q → l[j]? = some 32) (h2 : ∀ c, l[q]? = some c → c ≠ 32 ∧ isOct c = false) : numV l = (0, false) := by
  have hb : blanks l = q := blanks_eq q l h1 (fun e => (h2 32 e).1 rfl)
  by_cases h0 : coreN (l.drop q) = 0
  · have : coreL l = [] := by unfold coreL; rw [hb, h0]; rfl
    unfold numV
    rw [if_pos this]
  · have hg := coreL_get l q 0 hb (by omega)
    have hlen := coreN_le (l.drop q)
    rw [List.length_drop] at hlen
    obtain ⟨c, hc⟩ : ∃ c, l[q]? = some c := ⟨_, List.getElem?_eq_getElem (by omega)⟩
    exact num_not l 0 c (hg.trans hc) (h2 c hc).2
/-- Behind the digits stands what is no blank and no byte 0. -/
theorem num_bad (l : List UInt8) (q m p : Nat) (c d : UInt8) (h1 : ∀ j, j < q → l[j]? = some 32) (h2 : l[q]? ≠ some 32) (hqm : q ≤ m) (hmp : m ≤ p) (hd : l[m]? = some d) (hd2 : isOct d = false) (hc : l[p]? = some c) (h0 : c ≠ 0) (h32 : c ≠ 32) : numV l = (0, false) := by
  have hb : blanks l = q := blanks_eq q l h1 h2
  have hp := coreN_ge (l.drop q) (p - q) c (by rw [List.getElem?_drop, show q + (p - q) = p by omega]; exact hc) h0 h32
  have hg := coreL_get l q (m - q) hb (by omega)
  rw [show q + (m - q) = m by omega, hd] at hg
  exact num_not l _ d hg hd2
theorem num_good (l : List UInt8) (q m : Nat) (h1 : ∀ j, j < q → l[j]? = some 32) (hqm : q < m) (hm : m ≤ l.length) (hD : ∀ c ∈ (l.drop q).take (m - q), isOct c = true) (hr : ∀ j c, m ≤ j → l[j]? = some c → c = 0 ∨ c = 32) : numV l = (valO ((l.drop q).take (m - q)), true) := by
  have hget : ∀ j, j < m - q → ∃ c, (l.drop q)[j]? = some c ∧ isOct c = true := fun j hj => by
    have hlt : j < (l.drop q).length := by rw [List.length_drop]; omega
    refine ⟨(l.drop q)[j], List.getElem?_eq_getElem hlt, hD _ ?_⟩
    exact List.mem_of_getElem? (i := j) (by rw [List.getElem?_take_of_lt hj]; exact List.getElem?_eq_getElem hlt)
  obtain ⟨c0, g0, o0⟩ := hget 0 (by omega)
  rw [List.getElem?_drop, Nat.add_zero] at g0
  have hb : blanks l = q := blanks_eq q l h1 (fun e => by rw [g0] at e; rw [Option.some.inj e] at o0; cases o0)
  obtain ⟨c1, g1, o1⟩ := hget (m - q - 1) (by omega)
  have a1 := coreN_ge (l.drop q) (m - q - 1) c1 g1 (fun e => by rw [e] at o1; cases o1) (fun e => by rw [e] at o1; cases o1)
  have a2 := coreN_le' (l.drop q) (m - q) (fun j c hj hc => hr (q + j) c (by omega) (by rw [← List.getElem?_drop]; exact hc))
  have hcore : coreL l = (l.drop q).take (m - q) := by unfold coreL; rw [hb, show coreN (l.drop q) = m - q by omega]
  unfold numV
  rw [hcore, if_neg, if_pos (List.all_eq_true.2 hD)]
  intro e
  have := congrArg List.length e
  rw [List.length_take, List.length_drop] at this
  simp at this; omega
end Go.Proofs.YtgdkgdlgalinbaaGreatDoor
