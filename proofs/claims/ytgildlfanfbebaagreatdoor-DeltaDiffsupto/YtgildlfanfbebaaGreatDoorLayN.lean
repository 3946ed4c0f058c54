/- (*Tree).lay, at a path where nothing stands: too many. -/
import Derived.Test.YtgildlfanfbebaaGreatDoorLayW
namespace Go.Proofs.YtgildlfanfbebaaGreatDoor
open Go Go.RowKit

set_option maxRecDepth 100000 in
set_option maxHeartbeats 4000000 in
theorem lay_5n (tb base N : Nat) (F : Pic) (n : Nat) (q : Int) (x : Ent) (w : World) (hp : x.path.size ≤ 1073741824) (hd : x.data.size ≤ 1073741824) (hn : n ≤ 1073741824) (hq : 0 ≤ q ∧ q ≤ 1073741824) (hT : TreeAt w tb base N F n q) (u : Nd) (hpar : F (namesP (parentB x.path)) = some u) (hk : u.e.kind = 1)
    (hold : F (namesP (parentB x.path) ++ [un (lastB x.path)]) = none) (h5 : 4096 < n + 1 ∨ 16777216 < q + x.data.size) :
    Calls Tryz.prog 87 #[.pointer (some ⟨tb, 0, none⟩), .agg #[.string x.path, .int .i64 x.kind, .int .i64 x.mode, .string x.data, .string x.link]] w fun e w' => e = .returned (errE 5) ∧ Below w.heap.size w w' := by
  have hps := parentB_size x.path
  have hls := lastB_size x.path
  have hbA : Below w.heap.size w (w.alloc (.cells #[.string x.path, .int .i64 x.kind, .int .i64 x.mode, .string x.data, .string x.link] 52)) := (Below.refl _ _).alloc (Nat.le_refl _) _
  have hT0 := hT.below hbA
  obtain ⟨rt, rm, hrt, hrm, hhead⟩ := hT0.root
  have hF0 := hT0.tree
  have hc0 := (head_cells hhead).1
  have hk2 : (u.e.kind != 1) = false := by simpa using hk
  have hcu : ∀ k, ((w.alloc (.cells #[.string x.path, .int .i64 x.kind, .int .i64 x.mode, .string x.data, .string x.link] 52)).drewN k).cell? ⟨u.b, 1, none⟩ = some (.int .i64 u.e.kind) := fun k => node_cell (hF0.node _ u hpar).2 rfl
  have hec : ∀ k j v, (entA x)[j]? = some v → ((w.alloc (.cells #[.string x.path, .int .i64 x.kind, .int .i64 x.mode, .string x.data, .string x.link] 52)).drewN k).cell? ⟨w.heap.size, j, none⟩ = some v := fun k j v hv => by
    show (w.alloc _).cell? _ = _
    unfold World.cell?
    rw [show (w.alloc (.cells #[.string x.path, .int .i64 x.kind, .int .i64 x.mode, .string x.data, .string x.link] 52)).heap[w.heap.size]? = _ from heap_alloc_new w _]
    exact hv
  go_enter Tryz.func87, Tryz.ntmps87
  go_upto_region 6 with (first | (go_at_call 78; refine (parent_p _ _ (by omega)).mono ?_; rintro e w' ⟨rfl, rfl⟩) | (go_at_call 118; refine (at_p tb base N F rt _ _ (by omega) hrt hc0 hF0).mono ?_; rintro e w' ⟨k, rfl, rfl⟩; simp only [hpar, Option.map, toPtr]; have hcu1 := hcu k))
  have hTk : TreeAt ((w.alloc (.cells #[.string x.path, .int .i64 x.kind, .int .i64 x.mode, .string x.data, .string x.link] 52)).drewN k) tb base N F n q := hT0.below (below_drewN (Below.refl _ _) k)
  have hBk : Below w.heap.size w ((w.alloc (.cells #[.string x.path, .int .i64 x.kind, .int .i64 x.mode, .string x.data, .string x.link] 52)).drewN k) := below_drewN hbA k
  have hek := hec k
  clear hcu hec hF0 hc0 hT0 hbA hhead hcu1
  generalize (w.alloc (.cells #[.string x.path, .int .i64 x.kind, .int .i64 x.mode, .string x.data, .string x.link] 52)).drewN k = V at *
  obtain ⟨rt2, rm2, hrt2, hrm2, hhead⟩ := hTk.root
  obtain ⟨c0, c1, c2⟩ := head_cells hhead
  have e0 := hek 0 _ rfl
  have e1 := hek 1 _ rfl
  have e3 := hek 3 _ rfl
  have hum : V.cell? ⟨u.b, 5, none⟩ = some (.map u.m) := node_cell (hTk.tree.node _ u hpar).2 rfl
  have hlook : ∀ k, (Instr.lookup 153 (.map u.m) (.string (lastB x.path)) false).run Tryz.prog (V.drewN k) = .ok (.pointer none) (V.drewN k) := fun k => by
    have := (hTk.tree.drewN k).look Tryz.underlying9 Tryz.underlying153 rfl hpar (s := lastB x.path) (Nat.le_trans (by omega : _ ≤ 1073741824) (by decide))
    rw [this]
    show Result.ok (toPtr ((F (namesP (parentB x.path) ++ [un (lastB x.path)])).map Nd.b)) _ = _
    rw [hold]; rfl
  have HS : Hid (TreeAt V tb base N F n q ∧ Below w.heap.size w V) := ⟨hTk, hBk⟩
  clear hTk hBk hek hhead hrt hrm hrt2 hrm2 hpar hT hold
  go_region_held (fun W => W.cell? ⟨tb, 1, none⟩ = some (.int .i64 n) ∧ W.cell? ⟨tb, 2, none⟩ = some (.int .i64 q) ∧ W.cell? ⟨w.heap.size, 3, none⟩ = some (.string x.data)) (go_keep) (fail)
  have hwr : IntKind.i64.wrap (q + (x.data.size : Int)) = q + x.data.size := by
    unfold IntKind.wrap; simp [IntKind.bits, IntKind.signed]; omega
  rw [hwr]
  have HS1 : Hid (TreeAt V.drew tb base N F n q ∧ Below w.heap.size w V.drew) := ⟨HS.out.1.below (below_drewN (Below.refl _ _) 1), below_drewN HS.out.2 1⟩
  have hl1 : (Instr.lookup 153 (.map u.m) (.string (lastB x.path)) false).run Tryz.prog V.drew.drew = .ok (.pointer none) V.drew.drew := hlook 2
  replace hum : V.drew.cell? ⟨u.b, 5, none⟩ = some (.map u.m) := hum
  replace e0 : V.drew.cell? ⟨w.heap.size, 0, none⟩ = some (.string x.path) := e0
  replace e1 : V.drew.cell? ⟨w.heap.size, 1, none⟩ = some (.int .i64 x.kind) := e1
  clear hlook HS c0 c1 c2 e3
  generalize V.drew = V1 at *
  go_upto_region 7 with fail
  go_region_held (fun W => W.cell? ⟨u.b, 5, none⟩ = some (.map u.m) ∧ W.cell? ⟨w.heap.size, 0, none⟩ = some (.string x.path) ∧ (Instr.lookup 153 (.map u.m) (.string (lastB x.path)) false).run Tryz.prog W = .ok (.pointer none) W) (go_keep) ((go_at_call 79; refine (last_p _ _ (by omega)).mono ?_; rintro e w' ⟨rfl, rfl⟩))
  have HS2 : Hid (TreeAt V1.drew tb base N F n q ∧ Below w.heap.size w V1.drew) := ⟨HS1.out.1.below (below_drewN (Below.refl _ _) 1), below_drewN HS1.out.2 1⟩
  clear HS1 hl1 hum e0 e1
  generalize V1.drew = V2 at *
  have hwr3 : IntKind.i64.wrap ((n : Int) + 1) = (n : Int) + 1 := by
    unfold IntKind.wrap; simp [IntKind.bits, IntKind.signed]; omega
  by_cases h51 : 4096 < n + 1
  · have h51' : decide ((4096 : Int) < (n : Int) + 1) = true := by simp; omega
    go_wp2
    go_ret
    exact ⟨rfl, HS2.out.2⟩
  · have h51' : decide ((4096 : Int) < (n : Int) + 1) = false := by simp; omega
    have h52' : decide ((16777216 : Int) < q + x.data.size) = true := by simp; omega
    go_wp2
    go_ret
    exact ⟨rfl, HS2.out.2⟩
end Go.Proofs.YtgildlfanfbebaaGreatDoor
