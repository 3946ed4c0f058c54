/- (*Tree).lay. -/
import Derived.Test.YtgildlfanfbebaaGreatDoorTreeW
import Derived.Test.YtgildlfanfbebaaGreatDoorStr
import Derived.Deep.Cut
import Derived.RegionTactic
import Derived.Deep.QuietTactic
import Derived.Deep.RegionHeld3
namespace Go.Proofs.YtgildlfanfbebaaGreatDoor
open Go Go.RowKit

def errE (n : Int) : Value := if n = 0 then .nilIface else .iface 77 (.int .i64 n)
/-- What lay answers. -/
def layN (F : Pic) (n : Nat) (q : Int) (x : Ent) : Int :=
  match F (namesP (parentB x.path)) with
  | none => 10
  | some u => if u.e.kind ≠ 1 then 13 else
    match F (namesP (parentB x.path) ++ [un (lastB x.path)]) with
    | none => if 4096 < n + 1 ∨ 16777216 < q + x.data.size then 5 else 0
    | some o => if (o.e.kind == 1) ≠ (x.kind == 1) then 14 else if 4096 < n ∨ 16777216 < q + x.data.size - o.e.data.size then 5 else 0
abbrev entA (x : Ent) : Array Value := #[.string x.path, .int .i64 x.kind, .int .i64 x.mode, .string x.data, .string x.link]

theorem below_drewN {B : Nat} {a b : World} (h : Below B a b) (n : Nat) : Below B a (b.drewN n) := ⟨h.os, h.tape, h.output, h.size, h.block⟩
/-- The head's cells, and the entry's, behind the entry's own block. -/
theorem head_cells {W : World} {tb : Nat} {v : Value} {n : Nat} {q : Int} (h : W.heap[tb]? = some (.cells #[v, .int .i64 n, .int .i64 q] 151)) :
    W.cell? ⟨tb, 0, none⟩ = some v ∧ W.cell? ⟨tb, 1, none⟩ = some (.int .i64 n) ∧ W.cell? ⟨tb, 2, none⟩ = some (.int .i64 q) := by
  refine ⟨?_, ?_, ?_⟩ <;> (unfold World.cell?; simp only [h]; rfl)

set_option maxRecDepth 100000 in
set_option maxHeartbeats 4000000 in
theorem lay_10 (tb base N : Nat) (F : Pic) (n : Nat) (q : Int) (x : Ent) (w : World) (hp : x.path.size ≤ 1073741824) (hT : TreeAt w tb base N F n q) (hpar : F (namesP (parentB x.path)) = none) :
    Calls Tryz.prog 87 #[.pointer (some ⟨tb, 0, none⟩), .agg #[.string x.path, .int .i64 x.kind, .int .i64 x.mode, .string x.data, .string x.link]] w fun e w' => e = .returned (errE 10) ∧ Below w.heap.size w w' := by
  have hps := parentB_size x.path
  have hbA : Below w.heap.size w (w.alloc (.cells #[.string x.path, .int .i64 x.kind, .int .i64 x.mode, .string x.data, .string x.link] 52)) := (Below.refl _ _).alloc (Nat.le_refl _) _
  have hT0 := hT.below hbA
  obtain ⟨rt, rm, hrt, hrm, hhead⟩ := hT0.root
  have hF0 := hT0.tree
  have hc0 := (head_cells hhead).1
  go_enter Tryz.func87, Tryz.ntmps87
  go_wp2_with (first | (go_at_call 78; refine (parent_p _ _ (by omega)).mono ?_; rintro e w' ⟨rfl, rfl⟩) | (go_at_call 118; refine (at_p tb base N F rt _ _ (by omega) hrt hc0 hF0).mono ?_; rintro e w' ⟨k, rfl, rfl⟩; simp only [hpar, Option.map, toPtr]))
  go_ret
  exact ⟨rfl, below_drewN hbA k⟩
set_option maxRecDepth 100000 in
set_option maxHeartbeats 4000000 in
theorem lay_13 (tb base N : Nat) (F : Pic) (n : Nat) (q : Int) (x : Ent) (w : World) (hp : x.path.size ≤ 1073741824) (hT : TreeAt w tb base N F n q) (u : Nd) (hpar : F (namesP (parentB x.path)) = some u) (hk : u.e.kind ≠ 1) :
    Calls Tryz.prog 87 #[.pointer (some ⟨tb, 0, none⟩), .agg #[.string x.path, .int .i64 x.kind, .int .i64 x.mode, .string x.data, .string x.link]] w fun e w' => e = .returned (errE 13) ∧ Below w.heap.size w w' := by
  have hps := parentB_size x.path
  have hbA : Below w.heap.size w (w.alloc (.cells #[.string x.path, .int .i64 x.kind, .int .i64 x.mode, .string x.data, .string x.link] 52)) := (Below.refl _ _).alloc (Nat.le_refl _) _
  have hT0 := hT.below hbA
  obtain ⟨rt, rm, hrt, hrm, hhead⟩ := hT0.root
  have hF0 := hT0.tree
  have hc0 := (head_cells hhead).1
  have hk2 : (u.e.kind != 1) = true := by simpa using hk
  have hcu : ∀ k, ((w.alloc (.cells #[.string x.path, .int .i64 x.kind, .int .i64 x.mode, .string x.data, .string x.link] 52)).drewN k).cell? ⟨u.b, 1, none⟩ = some (.int .i64 u.e.kind) := fun k => node_cell (hF0.node _ u hpar).2 rfl
  go_enter Tryz.func87, Tryz.ntmps87
  go_wp2_with (first | (go_at_call 78; refine (parent_p _ _ (by omega)).mono ?_; rintro e w' ⟨rfl, rfl⟩) | (go_at_call 118; refine (at_p tb base N F rt _ _ (by omega) hrt hc0 hF0).mono ?_; rintro e w' ⟨k, rfl, rfl⟩; simp only [hpar, Option.map, toPtr]; have hcu1 := hcu k))
  go_ret
  exact ⟨rfl, below_drewN hbA k⟩
end Go.Proofs.YtgildlfanfbebaaGreatDoor
