/- The places of the known text. -/
import Derived.Test.YtcoinfancoeepabDoorPlaceN
namespace Go.Proofs.YtcoinfancoeepabDoor
open Go Go.RowKit

def plC (R Q : Value) (gb : Nat) : Array Value := #[.string ⟨#[97]⟩, R, Q, .slice (some ⟨gb, 0, none⟩) 1 1]
set_option maxRecDepth 100000 in
set_option maxHeartbeats 4000000 in
theorem newPl_k (w : World) : Calls Tryd.prog 28 #[.string ⟨#[97]⟩] w fun e w' => ∃ gp gb R Q, e = .returned (.pointer (some ⟨gp, 0, none⟩)) ∧ Lies w' gp 97 (plC R Q gb) ∧ Lies w' gb 21 #[.int .i32 0] ∧ w.heap.size ≤ gp ∧ w.heap.size ≤ gb ∧ Below w.heap.size w w' := by
  go_enter Tryd.func28, Tryd.ntmps28
  go_wp2
  refine regionP (w := w) rfl rfl (Below.refl _ w) ?_
  intro g1 g2 g3 g4 W2 h1 h3 h4 b1 b3 b4 bl
  have n14 : g1 ≠ g4 := fun e => by
    subst e
    have := h1.symm.trans h4
    cases this
  have n13 : g1 ≠ g3 := fun e => by
    subst e
    have := h1.symm.trans h3
    cases this
  simp only [putAll, dsP, vsP, Act.put, List.setIfInBounds_toArray, List.set_cons_zero, List.set_cons_succ]
  have r1 : W2.cell? ⟨g4, 1, none⟩ = some (.slice (some ⟨g1, 0, none⟩) 2 2) := h4.cell rfl
  go_wp2
  go_loopw [28] (fun i wr => ∃ k : Nat, k ≤ 2 ∧ i = .int .i64 k ∧ (∃ c0 c1, Lies wr g1 21 #[c0, c1]) ∧ Lies wr g3 21 #[.int .i32 0] ∧ Lies wr g4 97 #[.string ⟨#[97]⟩, .slice (some ⟨g1, 0, none⟩) 2 2, .slice (some ⟨g2, 0, none⟩) 1 1, .slice (some ⟨g3, 0, none⟩) 1 1] ∧ Below w.heap.size w wr) (fun i _ => 2 - (intOf i).toNat)
  case atStart => exact ⟨0, by omega, rfl, ⟨_, _, h1⟩, h3, h4, bl⟩
  case round =>
    clear h1 h3 h4 bl r1
    obtain ⟨k, hk, rfl, ⟨c0, c1, h1⟩, h3, h4, bl⟩ := hrel
    have r1 : wr.cell? ⟨g4, 1, none⟩ = some (.slice (some ⟨g1, 0, none⟩) 2 2) := h4.cell rfl
    obtain rfl | rfl | rfl : k = 0 ∨ k = 1 ∨ k = 2 := by omega
    · have q1 := h1.cell (i := 0) rfl
      have q2 := h1.frozen 0
      go_wp2
      exact ⟨⟨1, by omega, by go_num, ⟨_, _, h1.set (i := 0) _⟩, h3.other _ n13, h4.other _ n14, bl.setCell (p := ⟨g1, 0, none⟩) b1 _⟩, by simp [intOf]⟩
    · have q1 := h1.cell (i := 1) rfl
      have q2 := h1.frozen 1
      go_wp2
      exact ⟨⟨2, by omega, by go_num, ⟨_, _, h1.set (i := 1) _⟩, h3.other _ n13, h4.other _ n14, bl.setCell (p := ⟨g1, 1, none⟩) b1 _⟩, by simp [intOf]⟩
    · go_wp2
      go_ret
      exact ⟨g4, g3, _, _, rfl, h4, h3, b4, b3, bl⟩
set_option maxRecDepth 100000 in
theorem note_k (gp gb : Nat) (R Q : Value) (w : World) (hp : Lies w gp 97 (plC R Q gb)) (hb : Lies w gb 21 #[.int .i32 0]) :
    Calls Tryd.prog 29 #[.pointer (some ⟨gp, 0, none⟩), .int .i64 0] w fun e w' => e = .returned (.tuple #[]) ∧ w' = w.setCell ⟨gb, 0, none⟩ (.int .i32 (-32769)) := by
  have n : gb ≠ gp := fun e => by
    subst e
    have := hb.symm.trans hp
    cases this
  have c3 : w.cell? ⟨gp, 3, none⟩ = some (.slice (some ⟨gb, 0, none⟩) 1 1) := hp.cell rfl
  have q1 : w.cell? ⟨gb, 0, none⟩ = some (.int .i32 0) := hb.cell rfl
  have q2 := hb.frozen 0
  have c0 : (w.setCell ⟨gb, 0, none⟩ (.int .i32 (-32769))).cell? ⟨gp, 0, none⟩ = some (.string ⟨#[97]⟩) := (hp.other _ n).cell rfl
  have c0' : w.cell? ⟨gp, 0, none⟩ = some (.string ⟨#[97]⟩) := hp.cell rfl
  go_enter Tryd.func29, Tryd.ntmps29
  go_wp2
  refine bodyPost_ret (results_none rfl _ _ _) rfl ?_
  exact ⟨rfl, rfl⟩
set_option maxRecDepth 100000 in
theorem best_k (gp gb : Nat) (R Q : Value) (w : World) (hp : Lies w gp 97 (plC R Q gb)) (hb : Lies w gb 21 #[.int .i32 (-32769)]) :
    Calls Tryd.prog 30 #[.pointer (some ⟨gp, 0, none⟩), .int .i64 0] w fun e w' => e = .returned (.tuple #[.int .i64 0, .int .i64 0]) ∧ w' = w := by
  have c3 : w.cell? ⟨gp, 3, none⟩ = some (.slice (some ⟨gb, 0, none⟩) 1 1) := hp.cell rfl
  have q1 : w.cell? ⟨gb, 0, none⟩ = some (.int .i32 (-32769)) := hb.cell rfl
  have c0' : w.cell? ⟨gp, 0, none⟩ = some (.string ⟨#[97]⟩) := hp.cell rfl
  go_enter Tryd.func30, Tryd.ntmps30
  go_wp2
  go_loop [4, 5, 7, 26] (fun a b c i => a = .int .i64 0 ∧ b = .int .i64 0 ∧ c = .int .i64 (-32769) ∧ i = .int .i64 0) (fun _ _ _ _ => 0)
  case atStart => exact ⟨rfl, rfl, rfl, rfl⟩
  case round =>
    obtain ⟨rfl, rfl, rfl, rfl⟩ := hrel
    go_wp2
    go_ret2
    exact ⟨rfl, rfl⟩
end Go.Proofs.YtcoinfancoeepabDoor
