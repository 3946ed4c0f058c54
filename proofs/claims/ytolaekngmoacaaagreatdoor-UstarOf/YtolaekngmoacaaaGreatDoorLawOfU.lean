/- UstarOf, walked: of every entry its header. -/
import Derived.Test.YtolaekngmoacaaaGreatDoorWorksU
import Derived.Test.YtolaekngmoacaaaGreatDoorOfU
namespace Go.Proofs.YtolaekngmoacaaaGreatDoor
open Go Go.RowKit

set_option maxRecDepth 100000 in
set_option maxHeartbeats 2000000 in
theorem of_law (e : En) (w : World) (hE : Env w) (hg : ErrType w) : Calls Tryz.prog 6 #[.agg (ecs e)] w fun r w' => r = .returned (.bool true) ∧ Below w.heap.size w w' := by
  have L := Lies.new w 43 (ecs e)
  have B := (Below.refl _ w).alloc (Nat.le_refl _) (.cells (ecs e) 43)
  have E := hE.below B
  have G := hg.below B
  have hp := fun W => of_p e W
  have hr := fun W => of_r e W
  have heq := fun W => eq_hd (ofP e) (ofP e) W
  rw [(eqHd_iff (ofP e) (ofP e)).2 rfl] at heq
  generalize hcs (ofP e) = CH at *
  have hF : ∀ W, Lies W w.heap.size 43 (ecs e) → W.cell? ⟨w.heap.size, 0, none⟩ = some (.string e.path) ∧ W.cell? ⟨w.heap.size, 1, none⟩ = some (.int .i64 e.kind) ∧ W.cell? ⟨w.heap.size, 2, none⟩ = some (.int .i64 e.mode) ∧ W.cell? ⟨w.heap.size, 3, none⟩ = some (.string e.data) ∧ W.cell? ⟨w.heap.size, 4, none⟩ = some (.string e.link) := fun W h => ⟨h.cell rfl, h.cell rfl, h.cell rfl, h.cell rfl, h.cell rfl⟩
  have HF : Hid _ := hF
  have HL : Hid (Lies (w.alloc (.cells (ecs e) 43)) w.heap.size 43 (ecs e)) := L
  obtain ⟨c0, c1, c2, c3, c4⟩ := hF _ L
  clear hF L
  go_enter Tryz.func6, Tryz.ntmps6
  go_wp2
  have HC : Hid (ecs e = #[.string e.path, .int .i64 e.kind, .int .i64 e.mode, .string e.data, .string e.link]) := rfl
  have BD : Below w.heap.size w (w.alloc (.cells (ecs e) 43)).drew := below_drawn B 1
  have ED := E.drew 1
  have GD : ErrType (w.alloc (.cells (ecs e) 43)).drew := G
  have HLD : Hid (Lies (w.alloc (.cells (ecs e) 43)).drew w.heap.size 43 (ecs e)) := HL.out.drew 1
  generalize w.alloc (.cells (ecs e) 43) = W0 at *
  rw [HC.out] at hp hr
  have hpD := hp W0.drew
  clear HL
  have HP : Hid _ := hp
  have HR : Hid _ := hr
  have HW : Hid (∀ W, Env W → ErrType W → Calls Tryz.prog 12 #[] W fun e w' => e = .returned (.bool true) ∧ Below W.heap.size W w') := fun W h1 h2 => works_p W h1 h2
  have HNX : Hid (∀ W1 W2, Below W1.heap.size W1 W2 → Below w.heap.size w W1 → Env W1 → ErrType W1 → Lies W1 w.heap.size 43 (ecs e) → Below w.heap.size w W2 ∧ Env W2 ∧ ErrType W2 ∧ Lies W2 w.heap.size 43 (ecs e)) := fun W1 W2 b h1 h2 h3 h4 => ⟨below_join h1 b, h2.below b, h3.below b, h4.below b⟩
  clear hp hr hpD B E G
  go_region_with (first
    | (go_at_call 17; refine (HP.out _).mono ?_; rintro r1 w1 ⟨rfl, b1⟩; obtain ⟨BD1, ED1, GD1, HLD1⟩ := HNX.out _ _ b1 BD ED GD HLD.out; obtain ⟨d0, d1, d2, d3, d4⟩ := HF.out w1 HLD1)
    | (go_at_call 18; refine (HR.out _).mono ?_; rintro r2 w2 ⟨rfl, b2⟩; obtain ⟨BD2, ED2, GD2, HLD2⟩ := HNX.out _ _ b2 BD1 ED1 GD1 HLD1)
    | (go_at_call 12; refine (HW.out _ ED2 GD2).mono ?_; rintro r3 w3 ⟨rfl, b3⟩))
  all_goals (dsimp [Act.put]; (try simp only [List.setIfInBounds_toArray, List.set_cons_succ, List.set_cons_zero]); go_wp2; go_ret; exact ⟨rfl, below_join BD2 b3⟩)
end Go.Proofs.YtolaekngmoacaaaGreatDoor
