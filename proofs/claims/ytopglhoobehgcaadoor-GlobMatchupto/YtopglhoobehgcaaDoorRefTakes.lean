/- The document's answer for whether a piece takes a name. -/
import Derived.Test.YtopglhoobehgcaaDoorRefParts
import Derived.Test.YtopglhoobehgcaaDoorTakeN
namespace Go.Proofs.YtopglhoobehgcaaDoor
open Go Go.RowKit

def anyTo (f : Nat → Bool) (i : Nat) : Bool := (List.range (i + 1)).any f
theorem anyTo_succ (f : Nat → Bool) (i : Nat) : anyTo f (i + 1) = (anyTo f i || f (i + 1)) := by unfold anyTo; rw [List.range_succ (n := i + 1)]; simp
theorem anyTo_zero (f : Nat → Bool) : anyTo f 0 = f 0 := by unfold anyTo; simp
theorem Lies.setB {W : World} {g n k : Nat} {f : Nat → Bool} (h : Lies W g 4 (rowB n f)) (b : Bool) (hk : k < n) : Lies (W.setCell ⟨g, k, none⟩ (.bool b)) g 4 (rowB n (fun i => if i = k then b else f i)) := by
  rw [← rowB_set n f k b hk]; exact h.set _

set_option maxHeartbeats 2000000 in
theorem spread_r (g n : Nat) (f : Nat → Bool) (w : World) (hn : n ≤ 1099511627777) (hl : Lies w g 4 (rowB n f)) : Calls Tryd.prog 58 #[.slice (some ⟨g, 0, none⟩) n n] w fun e w' => e = .returned (.tuple #[]) ∧ Lies w' g 4 (rowB n (anyTo f)) ∧ w.grownBy w' (some g) := by
  go_enter Tryd.func58, Tryd.ntmps58
  go_wp2
  go_loopw [2] (fun i wr => ∃ k : Nat, i = .int .i64 k ∧ 1 ≤ k ∧ (k ≤ n ∨ k = 1) ∧ Lies wr g 4 (rowB n (fun i => if i < k then anyTo f i else f i)) ∧ w.grownBy wr (some g)) (fun i _ => n - (intOf i).toNat)
  case atStart =>
    refine ⟨1, rfl, Nat.le_refl _, .inr rfl, ?_, grown_refl _ _⟩
    rw [rowB_congr (g := f) (fun i _ => by
      by_cases h : i < 1
      · obtain rfl : i = 0 := by omega
        rw [if_pos h, anyTo_zero]
      · rw [if_neg h])]
    exact hl
  case round =>
    obtain ⟨k, rfl, hk1, hk2, hL, hG⟩ := hrel
    by_cases hlt : k < n
    · have c1 := hL.cell (rowB_get n (fun i => if i < k then anyTo f i else f i) k hlt)
      have c2 := hL.cell (rowB_get n (fun i => if i < k then anyTo f i else f i) (k - 1) (by omega))
      rw [if_neg (by omega)] at c1
      rw [if_pos (by omega)] at c2
      have hf := hL.frozen k
      have HLs : Hid (∀ b, Lies (wr.setCell ⟨g, k, none⟩ (.bool b)) g 4 (rowB n (fun i => if i = k then b else if i < k then anyTo f i else f i))) := fun b => hL.setB b hlt
      have HGs : Hid (∀ v, w.grownBy (wr.setCell ⟨g, k, none⟩ v) (some g)) := fun v => grown_set v hG
      have hstep : anyTo f k = (anyTo f (k - 1) || f k) := by obtain ⟨m, rfl⟩ : ∃ m, k = m + 1 := ⟨k - 1, by omega⟩; exact anyTo_succ f m
      have HE : Hid (∀ b, b = anyTo f k → rowB n (fun i => if i = k then b else if i < k then anyTo f i else f i) = rowB n (fun i => if i < k + 1 then anyTo f i else f i)) := fun b hb => rowB_congr (fun i _ => by
        by_cases h : i = k
        · subst h; rw [if_pos rfl, if_pos (by omega), hb]
        · rw [if_neg h]
          by_cases h2 : i < k
          · rw [if_pos h2, if_pos (by omega)]
          · rw [if_neg h2, if_neg (by omega)])
      have d1 : (0 : Int) ≤ (k : Int) := by omega
      have d2 : (k : Int) < (n : Int) := by omega
      have d3 : (0 : Int) ≤ (k : Int) - 1 := by omega
      have d4 : (k : Int) - 1 < (n : Int) := by omega
      have d5 : ((k : Int) - 1).toNat = k - 1 := by omega
      cases hfk : f k
      · have HV : Hid (anyTo f (k - 1) = anyTo f k) := by unfold Hid; rw [hstep, hfk]; simp
        rw [hfk] at c1
        clear hL hG hl hstep hfk
        go_wp2
        go_roundw
        case rel => exact ⟨k + 1, by go_num, by omega, .inl (by omega), by rw [← HE.out _ HV.out]; exact HLs.out _, HGs.out _⟩
        case measure => simp [intOf]; omega
      · have HV : Hid (true = anyTo f k) := by unfold Hid; rw [hstep, hfk]; simp
        rw [hfk] at c1
        clear hL hG hl hstep hfk
        go_wp2
        go_roundw
        case rel => exact ⟨k + 1, by go_num, by omega, .inl (by omega), by rw [← HE.out _ HV.out]; exact HLs.out _, HGs.out _⟩
        case measure => simp [intOf]; omega
    · have HE : Hid (rowB n (fun i => if i < k then anyTo f i else f i) = rowB n (anyTo f)) := rowB_congr (fun i hi => by rw [if_pos (by omega)])
      have HL : Hid (Lies wr g 4 (rowB n (fun i => if i < k then anyTo f i else f i))) := hL
      clear hL hl
      go_wp2
      go_end0
      exact ⟨rfl, by rw [← HE.out]; exact HL.out, hG⟩
end Go.Proofs.YtopglhoobehgcaaDoor
