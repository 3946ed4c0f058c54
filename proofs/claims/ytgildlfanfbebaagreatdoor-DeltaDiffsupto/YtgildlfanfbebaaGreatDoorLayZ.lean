/- (*Tree).lay, where the parent is a directory: up to what stands at the path. -/
import Derived.Test.YtgildlfanfbebaaGreatDoorStoW
namespace Go.Proofs.YtgildlfanfbebaaGreatDoor
open Go Go.RowKit

set_option maxRecDepth 100000 in
set_option maxHeartbeats 4000000 in
theorem lay_0o (tb base N : Nat) (F : Pic) (n : Nat) (q : Int) (x : Ent) (w : World) (hp : x.path.size ≤ 1073741824) (hd : x.data.size ≤ 1073741824) (hn : n ≤ 1073741824) (hq : 0 ≤ q ∧ q ≤ 1073741824) (hT : TreeAt w tb base N F n q) (u o : Nd) (hpar : F (namesP (parentB x.path)) = some u) (hk : u.e.kind = 1)
    (hold : F (namesP (parentB x.path) ++ [un (lastB x.path)]) = some o) (h14 : (o.e.kind == 1) = (x.kind == 1)) (hod : o.e.data.size ≤ 1073741824) (hn5 : n ≤ 4096) (hq5 : q + x.data.size - o.e.data.size ≤ 16777216) :
    Calls Tryz.prog 87 #[.pointer (some ⟨tb, 0, none⟩), .agg #[.string x.path, .int .i64 x.kind, .int .i64 x.mode, .string x.data, .string x.link]] w fun e w' => e = .returned (errE 0) ∧ Below base w w' ∧ TreeAt w' tb base N (setPic F (namesP (parentB x.path) ++ [un (lastB x.path)]) (some { o with e := x })) n (q + x.data.size - o.e.data.size) ∧ Rnd (MineT tb F) (MineT tb (setPic F (namesP (parentB x.path) ++ [un (lastB x.path)]) (some { o with e := x }))) w w' := by
  have hps := parentB_size x.path
  have hls := lastB_size x.path
  have hbA : Below w.heap.size w (w.alloc (.cells #[.string x.path, .int .i64 x.kind, .int .i64 x.mode, .string x.data, .string x.link] 52)) := (Below.refl _ _).alloc (Nat.le_refl _) _
  have hT0 := hT.below hbA
  obtain ⟨rt, rm, hrt, hrm, hhead⟩ := hT0.root
  have hF0 := hT0.tree
  have hc0 := (head_cells hhead).1
  have hk2 : (u.e.kind != 1) = false := by simpa using hk
  have hcu : ∀ k, ((w.alloc (.cells #[.string x.path, .int .i64 x.kind, .int .i64 x.mode, .string x.data, .string x.link] 52)).drewN k).cell? ⟨u.b, 1, none⟩ = some (.int .i64 u.e.kind) := fun k => node_cell (hF0.node _ u hpar).2 rfl
  have hec : ∀ k j v, (entA x)[j]? = some v → ((w.alloc (.cells #[.string x.path, .int .i64 x.kind, .int .i64 x.mode, .string x.data, .string x.link] 52)).drewN k).cell? ⟨w.heap.size, j, none⟩ = some v := fun k j v hv => by
    show (w.alloc _).cell? _ = _
    unfold World.cell?
    rw [show (w.alloc (.cells #[.string x.path, .int .i64 x.kind, .int .i64 x.mode, .string x.data, .string x.link] 52)).heap[w.heap.size]? = _ from heap_alloc_new w _]
    exact hv
  go_enter Tryz.func87, Tryz.ntmps87
  go_upto_region 6 with (first | (go_at_call 78; refine (parent_p _ _ (by omega)).mono ?_; rintro e w' ⟨rfl, rfl⟩) | (go_at_call 118; refine (at_p tb base N F rt _ _ (by omega) hrt hc0 hF0).mono ?_; rintro e w' ⟨k, rfl, rfl⟩; simp only [hpar, Option.map, toPtr]; have hcu1 := hcu k))
  have hTk : TreeAt ((w.alloc (.cells #[.string x.path, .int .i64 x.kind, .int .i64 x.mode, .string x.data, .string x.link] 52)).drewN k) tb base N F n q := hT0.below (below_drewN (Below.refl _ _) k)
  have hBk : Below w.heap.size w ((w.alloc (.cells #[.string x.path, .int .i64 x.kind, .int .i64 x.mode, .string x.data, .string x.link] 52)).drewN k) := below_drewN hbA k
  have hek := hec k
  have HEB : Hid (((w.alloc (.cells #[.string x.path, .int .i64 x.kind, .int .i64 x.mode, .string x.data, .string x.link] 52)).drewN k).heap[w.heap.size]? = some (.cells (entA x) 52)) := heap_alloc_new w _
  clear hcu hec hF0 hc0 hT0 hbA hhead hcu1
  generalize (w.alloc (.cells #[.string x.path, .int .i64 x.kind, .int .i64 x.mode, .string x.data, .string x.link] 52)).drewN k = V at *
  obtain ⟨rt2, rm2, hrt2, hrm2, hhead⟩ := hTk.root
  obtain ⟨c0, c1, c2⟩ := head_cells hhead
  have e0 := hek 0 _ rfl
  have e1 := hek 1 _ rfl
  have e3 := hek 3 _ rfl
  have hum : V.cell? ⟨u.b, 5, none⟩ = some (.map u.m) := node_cell (hTk.tree.node _ u hpar).2 rfl
  have hok : V.cell? ⟨o.b, 1, none⟩ = some (.int .i64 o.e.kind) := node_cell (hTk.tree.node _ o hold).2 rfl
  have hod3 : V.cell? ⟨o.b, 3, none⟩ = some (.string o.e.data) := node_cell (hTk.tree.node _ o hold).2 rfl
  have hlook : ∀ k, (Instr.lookup 153 (.map u.m) (.string (lastB x.path)) false).run Tryz.prog (V.drewN k) = .ok (.pointer (some ⟨o.b, 0, none⟩)) (V.drewN k) := fun k => by
    have := (hTk.tree.drewN k).look Tryz.underlying9 Tryz.underlying153 rfl hpar (s := lastB x.path) (Nat.le_trans (by omega : _ ≤ 1073741824) (by decide))
    rw [this]
    show Result.ok (toPtr ((F (namesP (parentB x.path) ++ [un (lastB x.path)])).map Nd.b)) _ = _
    rw [hold]; rfl
  have HO : Hid (F (namesP (parentB x.path) ++ [un (lastB x.path)]) = some o) := hold
  have HTB : Hid (tb < w.heap.size) := hT.lt
  have HS : Hid (TreeAt V tb base N F n q ∧ Below w.heap.size w V) := ⟨hTk, hBk⟩
  clear hTk hBk hek hhead hrt hrm hrt2 hrm2 hpar hT hold
  go_region_held (fun W => W.cell? ⟨tb, 1, none⟩ = some (.int .i64 n) ∧ W.cell? ⟨tb, 2, none⟩ = some (.int .i64 q) ∧ W.cell? ⟨w.heap.size, 3, none⟩ = some (.string x.data)) (go_keep) (fail)
  have hwr : IntKind.i64.wrap (q + (x.data.size : Int)) = q + x.data.size := by
    unfold IntKind.wrap; simp [IntKind.bits, IntKind.signed]; omega
  rw [hwr]
  have HS1 : Hid (TreeAt V.drew tb base N F n q ∧ Below w.heap.size w V.drew) := ⟨HS.out.1.below (below_drewN (Below.refl _ _) 1), below_drewN HS.out.2 1⟩
  have hl1 : (Instr.lookup 153 (.map u.m) (.string (lastB x.path)) false).run Tryz.prog V.drew.drew = .ok (.pointer (some ⟨o.b, 0, none⟩)) V.drew.drew := hlook 2
  replace hum : V.drew.cell? ⟨u.b, 5, none⟩ = some (.map u.m) := hum
  replace hok : V.drew.cell? ⟨o.b, 1, none⟩ = some (.int .i64 o.e.kind) := hok
  replace e0 : V.drew.cell? ⟨w.heap.size, 0, none⟩ = some (.string x.path) := e0
  replace e1 : V.drew.cell? ⟨w.heap.size, 1, none⟩ = some (.int .i64 x.kind) := e1
  clear hlook HS c0 c1 c2 e3
  replace hod3 : V.drew.cell? ⟨o.b, 3, none⟩ = some (.string o.e.data) := hod3
  replace HEB : Hid (V.drew.heap[w.heap.size]? = some (.cells (entA x) 52)) := HEB
  generalize V.drew = V1 at *
  go_upto_region 7 with fail
  go_region_held (fun W => W.cell? ⟨u.b, 5, none⟩ = some (.map u.m) ∧ W.cell? ⟨w.heap.size, 0, none⟩ = some (.string x.path) ∧ (Instr.lookup 153 (.map u.m) (.string (lastB x.path)) false).run Tryz.prog W = .ok (.pointer (some ⟨o.b, 0, none⟩)) W) (go_keep) ((go_at_call 79; refine (last_p _ _ (by omega)).mono ?_; rintro e w' ⟨rfl, rfl⟩))
  have HS2 : Hid (TreeAt V1.drew tb base N F n q ∧ Below w.heap.size w V1.drew) := ⟨HS1.out.1.below (below_drewN (Below.refl _ _) 1), below_drewN HS1.out.2 1⟩
  replace hok : V1.drew.cell? ⟨o.b, 1, none⟩ = some (.int .i64 o.e.kind) := hok
  replace e1 : V1.drew.cell? ⟨w.heap.size, 1, none⟩ = some (.int .i64 x.kind) := e1
  clear HS1 hl1 hum e0
  replace hod3 : V1.drew.cell? ⟨o.b, 3, none⟩ = some (.string o.e.data) := hod3
  replace HEB : Hid (V1.drew.heap[w.heap.size]? = some (.cells (entA x) 52)) := HEB
  generalize V1.drew = V2 at *
  go_upto_region 10 with fail
  go_region_held (fun W => W.cell? ⟨o.b, 1, none⟩ = some (.int .i64 o.e.kind) ∧ W.cell? ⟨w.heap.size, 1, none⟩ = some (.int .i64 x.kind)) (go_keep) (fail)
  have hb14 : (!((o.e.kind == 1) == (x.kind == 1))) = false := by simpa using h14
  have hwr2 : IntKind.i64.wrap (q + (x.data.size : Int) - o.e.data.size) = q + x.data.size - o.e.data.size := by
    unfold IntKind.wrap; simp [IntKind.bits, IntKind.signed]; omega
  replace hod3 : V2.drew.cell? ⟨o.b, 3, none⟩ = some (.string o.e.data) := hod3
  have h51' : decide ((4096 : Int) < n) = false := by simp; omega
  have h52' : decide ((16777216 : Int) < q + x.data.size - o.e.data.size) = false := by simp; omega
  go_upto_region 15 with fail
  have HS3 : Hid (TreeAt V2.drew tb base N F n q ∧ Below w.heap.size w V2.drew ∧ V2.drew.heap[w.heap.size]? = some (.cells (entA x) 52)) := ⟨HS2.out.1.below (below_drewN (Below.refl _ _) 1), below_drewN HS2.out.2 1, HEB.out⟩
  clear HS2 HEB hok e1 hod3 hb14 hwr hwr2
  generalize V2.drew = V3 at *
  obtain ⟨rt3, rm3, hrt3, hrm3, hh3⟩ := HS3.out.1.root
  obtain ⟨c0, c1, c2⟩ := head_cells hh3
  have f1 : V3.frozen? ⟨tb, 1, none⟩ = false := by simp [World.frozen?, hh3]
  have f2 : V3.frozen? ⟨tb, 2, none⟩ = false := by simp [World.frozen?, hh3]
  have HH3 : Hid (F [] = some rt3 ∧ rt3.m = some rm3 ∧ V3.heap[tb]? = some (.cells #[.pointer (some ⟨rt3.b, 0, none⟩), .int .i64 n, .int .i64 q] 151)) := ⟨hrt3, hrm3, hh3⟩
  clear hrt3 hrm3 hh3
  go_upto_region 18 with fail
  obtain ⟨hT4, hg4⟩ := HS3.out.1.counts n (q + x.data.size - o.e.data.size)
  have hno := hT4.tree.node _ o HO.out
  obtain ⟨hT5, hg5⟩ := hT4.entry HO.out x ⟨fun h => by rw [h] at h14; simpa using h14.symm, fun h => by rw [h] at h14; simpa using h14⟩
  have hse : ((V3.setCell ⟨tb, 1, none⟩ (.int .i64 n)).setCell ⟨tb, 2, none⟩ (.int .i64 (q + x.data.size - o.e.data.size))).heap[w.heap.size]? = some (.cells (entA x) 52) :=
    (hg4.block _ (Array.getElem?_eq_some_iff.1 HS3.out.2.2).1 (by have := HTB.out; simp; omega)).trans HS3.out.2.2
  have hbase : base ≤ tb ∧ base ≤ o.b ∧ base ≤ w.heap.size := ⟨hT4.from', hno.1, by have := HTB.out; have := hT4.from'; omega⟩
  have HF : Hid (Below base w (((V3.setCell ⟨tb, 1, none⟩ (.int .i64 n)).setCell ⟨tb, 2, none⟩ (.int .i64 (q + x.data.size - o.e.data.size))).setCells o.b 0 [.string x.path, .int .i64 x.kind, .int .i64 x.mode, .string x.data, .string x.link]) ∧ TreeAt (((V3.setCell ⟨tb, 1, none⟩ (.int .i64 n)).setCell ⟨tb, 2, none⟩ (.int .i64 (q + x.data.size - o.e.data.size))).setCells o.b 0 [.string x.path, .int .i64 x.kind, .int .i64 x.mode, .string x.data, .string x.link]) tb base N (setPic F (namesP (parentB x.path) ++ [un (lastB x.path)]) (some { o with e := x })) n (q + x.data.size - o.e.data.size) ∧ Rnd (MineT tb F) (MineT tb (setPic F (namesP (parentB x.path) ++ [un (lastB x.path)]) (some { o with e := x }))) w (((V3.setCell ⟨tb, 1, none⟩ (.int .i64 n)).setCell ⟨tb, 2, none⟩ (.int .i64 (q + x.data.size - o.e.data.size))).setCells o.b 0 [.string x.path, .int .i64 x.kind, .int .i64 x.mode, .string x.data, .string x.link])) := by
    have b3 : Below base w V3 := ⟨HS3.out.2.1.os, HS3.out.2.1.tape, HS3.out.2.1.output, HS3.out.2.1.size, fun j hj => HS3.out.2.1.block j (by omega)⟩
    have hs3 := b3.size
    have hs4 := hg4.size
    have hs5 := hg5.size
    have BB := (b3.trans (grown_below hg4 hbase.1 (by omega))).trans (grown_below hg5 hbase.2.1 (by omega))
    refine ⟨BB, hT5, BB.os, BB.tape, BB.output, BB.size, fun k hk hn => ?_, fun k hk => ?_⟩
    · have k1 : k ≠ tb := fun e => hn (.inl e)
      have k2 : k ≠ o.b := fun e => hn (.inr ⟨_, o, HO.out, .inl e⟩)
      exact (hg5.block k (by omega) (by simpa using k2)).trans ((hg4.block k (by omega) (by simpa using k1)).trans (HS3.out.2.1.block k hk))
    · rcases hk with rfl | ⟨ns, v, hv, hv2⟩
      · exact .inl (.inl rfl)
      · by_cases e : ns = namesP (parentB x.path) ++ [un (lastB x.path)]
        · subst e
          rw [setPic_same] at hv; cases hv
          exact .inl (.inr ⟨_, o, HO.out, hv2⟩)
        · rw [setPic_other _ _ _ e] at hv
          exact .inl (.inr ⟨ns, v, hv, hv2⟩)
  have hth := there_node rfl hno.2
  have hrg : ((V3.setCell ⟨tb, 1, none⟩ (.int .i64 n)).setCell ⟨tb, 2, none⟩ (.int .i64 (q + x.data.size - o.e.data.size))).rangeAt w.heap.size 0 [.string x.path, .int .i64 x.kind, .int .i64 x.mode, .string x.data, .string x.link] := World.rangeAt_of_block hse 0 5
  clear hT4 hg4 hno hT5 hg5 hse HS3 HH3 c0 c1 c2 f1 f2 HO HTB
  generalize (V3.setCell ⟨tb, 1, none⟩ (.int .i64 n)).setCell ⟨tb, 2, none⟩ (.int .i64 (q + x.data.size - o.e.data.size)) = V4 at *
  have hi5 : (Tryz.prog.info? 52).map (·.size) = some (#[Value.string x.path, .int .i64 x.kind, .int .i64 x.mode, .string x.data, .string x.link] : Array Value).size := by kernel_rfl
  have ho5 : (#[Value.string x.path, .int .i64 x.kind, .int .i64 x.mode, .string x.data, .string x.link] : Array Value).all (·.oneCell') = true := all_oneCell_toArray (cs := [Value.string x.path, .int .i64 x.kind, .int .i64 x.mode, .string x.data, .string x.link]) (by intro v hv; simp at hv; rcases hv with rfl | rfl | rfl | rfl | rfl <;> rfl)
  go_wp2_with (first
    | (refine wpList_load_mid rfl 52 (.tmp 3) rfl w.heap.size 0 rfl _ _ hrg Tryz.underlying52 rfl (by kernel_rfl) ?_)
    | (refine wpList_store_mid rfl 52 (.tmp 96) (.tmp 94) rfl o.b 0 #[.string x.path, .int .i64 x.kind, .int .i64 x.mode, .string x.data, .string x.link] rfl rfl hth hi5 ho5 ?_))
  go_ret
  exact ⟨rfl, HF.out⟩
end Go.Proofs.YtgildlfanfbebaaGreatDoor
