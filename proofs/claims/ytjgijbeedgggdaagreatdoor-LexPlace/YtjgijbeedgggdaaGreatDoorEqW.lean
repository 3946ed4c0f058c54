/- unicode.SimpleFold at the letters of the words that are looked for, and at U+017F; strings.EqualFold at a text with a byte above 127. -/
import Derived.Test.YtjgijbeedgggdaaGreatDoorCwW
import Derived.Test.YtjgijbeedgggdaaGreatDoorDecM
namespace Go.Proofs.YtjgijbeedgggdaaGreatDoor
open Go Go.RowKit

abbrev lets : List Nat := [97, 99, 101, 111, 112, 115, 121]
theorem lets_bnd {c : Nat} (h : c ∈ lets) : 97 ≤ c ∧ c ≤ 121 := by
  simp only [lets, List.mem_cons, List.not_mem_nil, or_false] at h; omega
theorem cell_lt {w : World} {a : Addr} {v : Value} (h : w.cell? a = some v) : a.block < w.heap.size := by
  unfold World.cell? at h
  cases hh : w.heap[a.block]? with
  | none => rw [hh] at h; simp at h
  | some o => exact (Array.getElem?_eq_some_iff.1 hh).1
theorem cell_belowE {w w' : World} {a : Addr} {v : Value} (hb : Below w.heap.size w w') (h : w.cell? a = some v) : w'.cell? a = some v := (hb.cell (cell_lt h)).trans h
theorem Tabs.below {w w' : World} (h : Tabs w) (hb : Below w.heap.size w w') : Tabs w' := by
  obtain ⟨⟨a1, a2⟩, h2, R, o, cap, h3, h4, h5⟩ := h
  refine ⟨⟨fun c hc => cell_belowE hb (a1 c hc), fun i hi => ⟨cell_belowE hb (a2 i hi).1, cell_belowE hb (a2 i hi).2⟩⟩, fun c hc => ⟨cell_belowE hb (h2 c hc).1, cell_belowE hb (h2 c hc).2⟩, R, o, cap, Nat.lt_of_lt_of_le h3 hb.size, cell_belowE hb h4, ?_⟩
  simp only [hb.cell (p := ⟨R, _, none⟩) h3]
  exact h5
set_option maxRecDepth 100000 in
theorem fold_low (c : Nat) (hc : c ∈ lets) (w : World) (h : Tabs w) : Calls Tryz.prog 186 #[.int .i32 c] w fun e w' => e = .returned (.int .i32 (if c = 115 then 383 else ((c - 32 : Nat) : Int))) ∧ w' = w := by
  have k := (h.2.1 c hc).1
  have hb := lets_bnd hc
  have d1 : ¬ (c : Int) < 0 := by omega
  have d2 : ¬ (1114111 : Int) < (c : Int) := by omega
  have d3 : (c : Int) < 128 := by omega
  have d4 : (0 : Int) ≤ (c : Int) := by omega
  by_cases h5 : c = 115
  · subst h5
    go_enter Tryz.func186, Tryz.ntmps186
    go_wp2
    go_ret
    exact ⟨rfl, rfl⟩
  · rw [if_neg h5] at k ⊢
    have w1 : IntKind.i32.wrap ((c - 32 : Nat) : Int) = ((c - 32 : Nat) : Int) := wraps_i32 _ (by omega) (by omega)
    generalize hd : c - 32 = d at *
    go_enter Tryz.func186, Tryz.ntmps186
    go_wp2
    go_ret
    exact ⟨rfl, rfl⟩
set_option maxRecDepth 100000 in
theorem fold_up (c : Nat) (hc : c ∈ lets) (w : World) (h : Tabs w) : Calls Tryz.prog 186 #[.int .i32 ((c - 32 : Nat) : Int)] w fun e w' => e = .returned (.int .i32 c) ∧ w' = w := by
  have k := (h.2.1 c hc).2
  have hb := lets_bnd hc
  have w1 : IntKind.i32.wrap ((c : Nat) : Int) = ((c : Nat) : Int) := wraps_i32 _ (by omega) (by omega)
  have d0 : c - 32 < 128 := by omega
  generalize hd : c - 32 = d at *
  have d1 : ¬ (d : Int) < 0 := by omega
  have d2 : ¬ (1114111 : Int) < (d : Int) := by omega
  have d3 : (d : Int) < 128 := by omega
  have d4 : (0 : Int) ≤ (d : Int) := by omega
  go_enter Tryz.func186, Tryz.ntmps186
  go_wp2
  go_ret
  exact ⟨rfl, rfl⟩
set_option maxRecDepth 100000 in
set_option maxHeartbeats 1000000 in
theorem fold_383 (w : World) (h : Tabs w) : Calls Tryz.prog 186 #[.int .i32 383] w fun e w' => e = .returned (.int .i32 83) ∧ w' = w := by
  obtain ⟨R, o, cap, hR, h0, h47, h23, h11, h5, h8, h10, h9, hto⟩ := h.2.2
  go_enter Tryz.func186, Tryz.ntmps186
  go_wp2
  go_loopw [3, 4] (fun v3 v4 wr => wr = w ∧ ((v3 = .int .i64 0 ∧ v4 = .int .i64 94) ∨ (v3 = .int .i64 0 ∧ v4 = .int .i64 47) ∨ (v3 = .int .i64 0 ∧ v4 = .int .i64 23) ∨ (v3 = .int .i64 0 ∧ v4 = .int .i64 11) ∨ (v3 = .int .i64 6 ∧ v4 = .int .i64 11) ∨ (v3 = .int .i64 9 ∧ v4 = .int .i64 11) ∨ (v3 = .int .i64 9 ∧ v4 = .int .i64 10) ∨ (v3 = .int .i64 10 ∧ v4 = .int .i64 10))) (fun v3 v4 _ => (intOf v4).toNat - (intOf v3).toNat)
  case atStart => exact ⟨rfl, .inl ⟨rfl, rfl⟩⟩
  case round =>
    obtain ⟨rfl, hc⟩ := hrel
    rcases hc with ⟨rfl, rfl⟩ | ⟨rfl, rfl⟩ | ⟨rfl, rfl⟩ | ⟨rfl, rfl⟩ | ⟨rfl, rfl⟩ | ⟨rfl, rfl⟩ | ⟨rfl, rfl⟩ | ⟨rfl, rfl⟩
    case inr.inr.inr.inr.inr.inr.inr =>
      go_wp2
      go_ret
      exact ⟨rfl, rfl⟩
    all_goals
      go_wp2
      go_roundw
      case rel => simp
      case measure => simp [intOf]
end Go.Proofs.YtjgijbeedgggdaaGreatDoor
