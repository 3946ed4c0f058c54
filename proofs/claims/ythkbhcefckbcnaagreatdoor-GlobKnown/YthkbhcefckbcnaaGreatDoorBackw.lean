/- Package slices' Backward over a list's rules: it hands on each place and its rule, the last one first. -/
import Derived.Test.YthkbhcefckbcnaaGreatDoorRangeP
import Derived.Test.YthkbhcefckbcnaaGreatDoorEvery
namespace Go.Proofs.YthkbhcefckbcnaaGreatDoor
open Go Go.RowKit Go.Shelf
attribute [local go_sem] Oper.semAt_some

theorem backward_p (o : Option Addr) (k cap : Nat) (w : World) : Calls Tryz.prog 41 #[.slice o k cap] w fun e w' => e = .returned (.func (.func 71) #[] #[.pointer (some ⟨w.heap.size, 0, none⟩)]) ∧ w' = w.alloc (.cells #[.slice o k cap] 51) := by
  go_enter Tryz.func41, Tryz.ntmps41
  go_wp2
  go_ret
  exact ⟨rfl, rfl⟩

/-- The places from j on, the last one first. -/
def backs (k j : Nat) : List Nat := ((List.range k).drop j).reverse
theorem backs_end (k : Nat) : backs k k = [] := by simp [backs]
theorem backs_all (k : Nat) : backs k 0 = (List.range k).reverse := by simp [backs]
theorem backs_step (k j : Nat) (h : j < k) : backs k j = backs k (j + 1) ++ [j] := by
  unfold backs
  rw [List.drop_eq_getElem_cons (by simpa using h)]
  simp
theorem backs_prefix (k j : Nat) (h : j < k) : backs k (j + 1) ++ [j] <+: (List.range k).reverse := by
  rw [← backs_step k j h, ← backs_all]
  refine ⟨((List.range k).take j).reverse, ?_⟩
  rw [backs_all]; unfold backs
  rw [← List.reverse_append, List.take_append_drop]

def ruleV (r : Bool × Value) : Value := .agg #[.bool r.1, r.2]

set_option maxRecDepth 100000 in
set_option maxHeartbeats 4000000 in
theorem back_gives (g cap k B n₀ : Nat) (o : Option Addr) (R : Nat → Bool × Value) (w : World) (hB : w.cell? ⟨B, 0, none⟩ = some (.slice o k cap)) (hBn : B < n₀) (hk : k ≤ 256)
    (hrow : ∀ i, i < k → o = some ⟨g, 0, none⟩ ∧ g < n₀ ∧ w.cell? ⟨g, i * 2, none⟩ = some (.bool (R i).1) ∧ w.cell? ⟨g, i * 2 + 1, none⟩ = some (R i).2) (hn0 : n₀ ≤ w.heap.size) :
    GivesP Tryz.prog 71 #[.pointer (some ⟨B, 0, none⟩)] (fun i => #[.int .i64 (i : Nat), ruleV (R i)]) (List.range k).reverse n₀ w := by
  intro n l J Jx W hW hJ hJx hY h0
  have hWn := hW.mono (Nat.le_refl _)
  have HB : Hid (∀ wr : World, Below n₀ W wr → wr.cell? ⟨B, 0, none⟩ = some (.slice o k cap)) := fun wr hb => (hb.cell (p := ⟨B, 0, none⟩) hBn).trans ((hW.cell (p := ⟨B, 0, none⟩) (by simp; omega)).trans hB)
  have HR : Hid (∀ i, i < k → ∀ wr : World, Below n₀ W wr → o = some ⟨g, 0, none⟩ ∧ wr.cell? ⟨g, i * 2, none⟩ = some (.bool (R i).1) ∧ wr.cell? ⟨g, i * 2 + 1, none⟩ = some (R i).2) := fun i hi wr hb => by
    obtain ⟨h1, h2, h3, h4⟩ := hrow i hi
    exact ⟨h1, (hb.cell (p := ⟨g, i * 2, none⟩) h2).trans ((hW.cell (p := ⟨g, i * 2, none⟩) (by simp; omega)).trans h3), (hb.cell (p := ⟨g, i * 2 + 1, none⟩) h2).trans ((hW.cell (p := ⟨g, i * 2 + 1, none⟩) (by simp; omega)).trans h4)⟩
  have hBW := HB.out W (Below.refl _ _)
  clear hrow hB
  refine callsIn_of_wp Tryz.func71 rfl trivial ?_ rfl
  simp only [Tryz.ntmps71, List.size_toArray, List.length_cons, List.length_nil, Nat.reduceAdd, Nat.reduceSub, Array.replicate_succ, Array.replicate_zero, List.push_toArray, List.append_toArray, List.nil_append, List.cons_append]
  gi_wp2
  gi_loopw [3] (fun i wr => ∃ j : Nat, i = .int .i64 ((j : Int) - 1) ∧ j ≤ k ∧ J (backs k j) wr ∧ W.heap.size ≤ wr.heap.size ∧ Below n₀ W wr) (fun i _ => (intOf i + 1).toNat)
  case atStart => exact ⟨k, by go_num, Nat.le_refl _, by rw [backs_end]; exact h0, Nat.le_refl _, Below.refl _ _⟩
  case round =>
    obtain ⟨j, rfl, hjk, hj, hws, hBl⟩ := hrel
    cases j with
    | zero =>
      gi_wp2
      go_end0
      exact ⟨⟨_, rfl⟩, .inl (by rw [← backs_all]; exact hj)⟩
    | succ j =>
      have hj1 : ((j + 1 : Nat) : Int) - 1 = j := by omega
      rw [hj1]
      obtain ⟨rfl, c1, c2⟩ := HR.out j (by omega) wr hBl
      have cB := HB.out wr hBl
      obtain ⟨fn, tmps, assign, body, hy, hR⟩ := hY (n - 1) (backs k (j + 1)) j wr hj (backs_prefix k j (by omega)) hws
      simp only [ruleV] at hy
      clear hj1 hBW hY
      gi_wp2
      refine ⟨wd _, hR.mono ?_⟩
      rintro e W3 ⟨⟨rfl, hJ3, hB3⟩ | ⟨rfl, hJx3⟩, hk3⟩
      all_goals have hz3 := Nat.le_trans hws hk3.size
      · gi_wp2
        go_roundw
        case rel => exact ⟨j, by go_num, by omega, by rw [backs_step k j (by omega)]; exact hJ3, hz3, hBl.trans hB3⟩
        case measure => simp [intOf]
      · gi_wp2
        refine bodyPost_ret (results_none rfl _ _ _) rfl ?_
        exact ⟨⟨_, rfl⟩, .inr ⟨_, backs_prefix k j (by omega), hJx3⟩⟩
end Go.Proofs.YthkbhcefckbcnaaGreatDoor
