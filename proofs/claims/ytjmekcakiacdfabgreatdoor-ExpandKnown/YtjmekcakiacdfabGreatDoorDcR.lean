/- What the document's pieces come to, purely: byte by byte, and as the pieces that they read as. -/
import Derived.Test.YtjmekcakiacdfabGreatDoorDcL
namespace Go.Proofs.YtjmekcakiacdfabGreatDoor
open Go Go.RowKit

mutual
def txtP (vs : List (List UInt8 × List UInt8)) : Pt → List UInt8
  | .mk t n o ks => (if o = 43 then [] else (if n = [] then t else valL vs n)) ++ (if (o = 45 ∧ (if n = [] then t else valL vs n) = []) ∨ (o = 43 ∧ (if n = [] then t else valL vs n) ≠ []) then txtL vs ks else [])
def txtL (vs : List (List UInt8 × List UInt8)) : List Pt → List UInt8
  | [] => []
  | p :: l => txtP vs p ++ txtL vs l
end
theorem txtL_append (vs : List (List UInt8 × List UInt8)) (a b : List Pt) : txtL vs (a ++ b) = txtL vs a ++ txtL vs b := by
  induction a with
  | nil => rw [txtL]; rfl
  | cons p a ih => rw [List.cons_append, txtL, txtL, ih, List.append_assoc]
theorem txtL_one (vs : List (List UInt8 × List UInt8)) (p : Pt) : txtL vs [p] = txtP vs p := by rw [txtL, txtL, List.append_nil]
mutual
/-- Hid pieces come to nothing, and leave the depth as it was. -/
theorem hid_P (vs : List (List UInt8 × List UInt8)) : ∀ (p : Pt) (d : Dp), 0 < d.hid → d.hid ≤ d.depth → den vs (flatP p) d = [] ∧ depL vs (flatP p) d = d
  | .mk t n o ks, d, h1, h2 => by
    have hl := hid_L vs ks
    rw [flatP]
    have e1 : ∀ p : Pc, layP vs p d = [] := fun p => by unfold layP; rw [if_pos h1]
    have e2 : ∀ c : Bool, begD c d = ⟨d.depth + 1, d.hid⟩ := fun c => by
      unfold begD
      rw [if_neg (by rintro ⟨_, h⟩; omega)]
    have e3 : endD ⟨d.depth + 1, d.hid⟩ = d := by
      unfold endD
      cases d with
      | mk a b =>
        simp only at h1 h2 ⊢
        rw [if_neg (by omega)]
        congr 1
        omega
    have e4 := hl ⟨d.depth + 1, d.hid⟩ h1 (by simp only; omega)
    have e5 : layP vs .fin ⟨d.depth + 1, d.hid⟩ = [] := by unfold layP; rw [if_pos h1]
    split
    · split
      · split
        · have := hl d h1 h2
          simp only [den, depL, e1, stepD, this.1, this.2]
          all_goals (refine ⟨?_, ?_⟩ <;> first | rfl | trivial | simp)
        · simp only [den, depL, e1, stepD]
          all_goals (refine ⟨?_, ?_⟩ <;> first | rfl | trivial | simp)
      · split
        · split
          · exact ⟨rfl, rfl⟩
          · exact hl d h1 h2
        · simp only [den, depL, e1, stepD]
          all_goals (refine ⟨?_, ?_⟩ <;> first | rfl | trivial | simp)
    · split
      · rw [den_append, depL_append]
        simp only [den, depL, e1, stepD, e2, e4.1, e4.2, e5, e3]
        all_goals (refine ⟨?_, ?_⟩ <;> first | rfl | trivial | simp)
      · split
        · rw [den_append, depL_append]
          simp only [den, depL, e1, stepD, e2, e4.1, e4.2, e5, e3]
          all_goals (refine ⟨?_, ?_⟩ <;> first | rfl | trivial | simp)
        · simp only [den, depL, e1, stepD]
          all_goals (refine ⟨?_, ?_⟩ <;> first | rfl | trivial | simp)
theorem hid_L (vs : List (List UInt8 × List UInt8)) : ∀ (l : List Pt) (d : Dp), 0 < d.hid → d.hid ≤ d.depth → den vs (flatL l) d = [] ∧ depL vs (flatL l) d = d
  | [], d, _, _ => by rw [flatL]; exact ⟨rfl, rfl⟩
  | p :: l, d, h1, h2 => by
    rw [flatL, den_append, depL_append]
    obtain ⟨a1, a2⟩ := hid_P vs p d h1 h2
    obtain ⟨b1, b2⟩ := hid_L vs l d h1 h2
    rw [a1, a2, b1, b2]
    exact ⟨rfl, rfl⟩
end
mutual
theorem txt_P (vs : List (List UInt8 × List UInt8)) : ∀ (p : Pt) (dep : Int), 0 ≤ dep → den vs (flatP p) ⟨dep, 0⟩ = txtP vs p ∧ depL vs (flatP p) ⟨dep, 0⟩ = ⟨dep, 0⟩
  | .mk t n o ks, dep, hd => by
    have hl := txt_L vs ks
    have hh := hid_L vs ks
    rw [flatP, txtP]
    have e0 : ¬ (0 : Int) < 0 := by omega
    by_cases hn : n = []
    · rw [if_pos hn]
      simp only [hn, if_true]
      by_cases h5 : o = 45
      · subst h5
        simp only [if_true, true_and, show ¬ ((45 : UInt8) = 43) by decide, if_false, false_and, or_false]
        by_cases ht : t = []
        · subst ht
          have := hl dep hd
          simp only [if_true, den, depL, stepD, layP, e0, if_false, this.1, this.2]
          all_goals (refine ⟨?_, ?_⟩ <;> first | rfl | trivial | simp)
        · simp only [ht, if_false, den, depL, stepD, layP, e0]
          all_goals (refine ⟨?_, ?_⟩ <;> first | rfl | trivial | simp)
      · by_cases h3 : o = 43
        · subst h3
          simp only [if_true, true_and, show ¬ ((43 : UInt8) = 45) by decide, if_false, false_and, false_or]
          by_cases ht : t = []
          · subst ht
            simp
            all_goals (refine ⟨?_, ?_⟩ <;> first | rfl | trivial | simp)
          · have := hl dep hd
            simp only [ht, if_false, ne_eq, not_false_eq_true, if_true, this.1, this.2]
            all_goals (refine ⟨?_, ?_⟩ <;> first | rfl | trivial | simp)
        · simp only [h5, h3, if_false, false_and, or_self, den, depL, stepD, layP, e0]
          all_goals (refine ⟨?_, ?_⟩ <;> first | rfl | trivial | simp)
    · rw [if_neg hn]
      simp only [hn, if_false]
      by_cases h5 : o = 45
      · subst h5
        simp only [if_true, true_and, show ¬ ((45 : UInt8) = 43) by decide, if_false, false_and, or_false]
        rw [den_append, depL_append]
        by_cases hv : valL vs n = []
        · have := hl (dep + 1) (by omega)
          have e1 : begD true ⟨dep, 0⟩ = ⟨dep + 1, 0⟩ := rfl
          have e2 : endD ⟨dep + 1, 0⟩ = ⟨dep, 0⟩ := by
            unfold endD
            simp only
            rw [if_neg (by omega)]
            congr 1
            omega
          simp only [den, depL, stepD, layP, e0, if_false, hv, List.isEmpty_nil, e1, this.1, this.2, e2, if_true]
          all_goals (refine ⟨?_, ?_⟩ <;> first | rfl | trivial | simp)
        · have e1 : begD (valL vs n).isEmpty ⟨dep, 0⟩ = ⟨dep + 1, dep + 1⟩ := by
            cases h : valL vs n with
            | nil => exact (hv h).elim
            | cons a b => rfl
          have := hh ⟨dep + 1, dep + 1⟩ (by simp only; omega) (by simp only; omega)
          have e2 : endD ⟨dep + 1, dep + 1⟩ = ⟨dep, 0⟩ := by
            unfold endD
            simp only [if_true]
            congr 1
            omega
          have e3 : (0 : Int) < dep + 1 := by omega
          simp only [den, depL, stepD, layP, e0, if_false, e1, this.1, this.2, e2, hv, e3, if_true]
          all_goals (refine ⟨?_, ?_⟩ <;> first | rfl | trivial | simp)
      · by_cases h3 : o = 43
        · subst h3
          simp only [if_true, true_and, show ¬ ((43 : UInt8) = 45) by decide, if_false, false_and, false_or]
          rw [den_append, depL_append]
          by_cases hv : valL vs n = []
          · have e1 : begD (!true) ⟨dep, 0⟩ = ⟨dep + 1, dep + 1⟩ := rfl
            have := hh ⟨dep + 1, dep + 1⟩ (by simp only; omega) (by simp only; omega)
            have e2 : endD ⟨dep + 1, dep + 1⟩ = ⟨dep, 0⟩ := by
              unfold endD
              simp only [if_true]
              congr 1
              omega
            have e3 : (0 : Int) < dep + 1 := by omega
            simp only [den, depL, stepD, layP, e0, if_false, hv, List.isEmpty_nil, e1, this.1, this.2, e2, e3, if_true, ne_eq, not_true_eq_false]
            all_goals (refine ⟨?_, ?_⟩ <;> first | rfl | trivial | simp)
          · have e1 : begD (!(valL vs n).isEmpty) ⟨dep, 0⟩ = ⟨dep + 1, 0⟩ := by
              cases h : valL vs n with
              | nil => exact (hv h).elim
              | cons a b => rfl
            have := hl (dep + 1) (by omega)
            have e2 : endD ⟨dep + 1, 0⟩ = ⟨dep, 0⟩ := by
              unfold endD
              simp only
              rw [if_neg (by omega)]
              congr 1
              omega
            simp only [den, depL, stepD, layP, e0, if_false, e1, this.1, this.2, e2, hv, ne_eq, not_false_eq_true, if_true]
            all_goals (refine ⟨?_, ?_⟩ <;> first | rfl | trivial | simp)
        · simp only [h5, h3, if_false, false_and, or_self, den, depL, stepD, layP, e0]
          all_goals (refine ⟨?_, ?_⟩ <;> first | rfl | trivial | simp)
theorem txt_L (vs : List (List UInt8 × List UInt8)) : ∀ (l : List Pt) (dep : Int), 0 ≤ dep → den vs (flatL l) ⟨dep, 0⟩ = txtL vs l ∧ depL vs (flatL l) ⟨dep, 0⟩ = ⟨dep, 0⟩
  | [], dep, _ => by rw [flatL, txtL]; exact ⟨rfl, rfl⟩
  | p :: l, dep, hd => by
    rw [flatL, txtL, den_append, depL_append]
    obtain ⟨a1, a2⟩ := txt_P vs p dep hd
    obtain ⟨b1, b2⟩ := txt_L vs l dep hd
    rw [a1, a2, b1, b2]
    exact ⟨rfl, rfl⟩
end
/-- What a whole text comes to. -/
theorem ans_txt {e : UInt8} {m : Nat} (hm : m ≤ 1) (vs : List (List UInt8 × List UInt8)) {l : List UInt8} {ts : List Pt} (h : Run e [m] l [m] [] (flatL ts)) : ansL vs (eachL e [m] l) = if 65536 < (txtL vs ts).length then (5, []) else (0, txtL vs ts) := by
  obtain ⟨h1, h2⟩ := whole_ok hm h
  unfold ansL
  rw [if_neg (by omega), (h2.1 vs d0).1, show d0 = ⟨0, 0⟩ from rfl, (txt_L vs ts 0 (Int.le_refl _)).1]
end Go.Proofs.YtjmekcakiacdfabGreatDoor
