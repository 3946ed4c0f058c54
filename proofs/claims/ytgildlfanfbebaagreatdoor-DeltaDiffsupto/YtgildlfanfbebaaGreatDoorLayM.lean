/- (*Tree).lay, at a path where nothing stands: a new node. -/
import Derived.Test.YtgildlfanfbebaaGreatDoorStoW
namespace Go.Proofs.YtgildlfanfbebaaGreatDoor
open Go Go.RowKit

theorem TreeAt.grown {W W1 W2 : World} {tb base N n : Nat} {F : Pic} {q : Int} (h : TreeAt W tb base N F n q) (hb : Below W.heap.size W W1) {ns : List (List UInt8)} {y : List UInt8} {u z : Nd} {m : Nat}
    (hu : F ns = some u) (hm : u.m = some m) (h0 : F (ns ++ [y]) = none) (hz : W.heap.size ≤ z.b) (hzc : W1.heap[z.b]? = some (.cells (ncells z) 155))
    (hzm : ∀ p, z.m = some p → W.heap.size ≤ p ∧ KidsAt W1 Tryz.prog 9 p 0 (fun _ => none)) (hzk : z.m = none ↔ z.e.kind ≠ 1)
    (h2 : KidsAt W2 Tryz.prog 9 m (N + 1) (setKid (kidsOf F ns) y (some z.b))) (ht : W1.mapTurned W2 m) :
    TreeAt W2 tb base (N + 1) (setPic F (ns ++ [y]) (some z)) n q := by
  have hlt := h.lt
  obtain ⟨rt, rm, h1, h3, h4⟩ := h.root
  have hbs := hb.size
  refine ⟨h.from', ⟨rt, rm, by rw [setPic_other _ _ _ (by simp)]; exact h1, h3, ?_⟩, h.tree.grown (by have := h.from'; omega) hb hu hm h0 hz hzc hzm h2 ht, fun a v hv => ?_⟩
  · exact (ht.grown.block tb (by omega) (by simpa using Ne.symm (h.head_map hu hm))).trans ((hb.block tb hlt).trans h4)
  · by_cases e : a = ns ++ [y]
    · subst e
      rw [setPic_same] at hv; cases hv
      exact hzk
    · rw [setPic_other _ _ _ e] at hv
      exact h.kinds a v hv

set_option maxRecDepth 100000 in
set_option maxHeartbeats 4000000 in
theorem lay_0n (tb base N : Nat) (F : Pic) (n : Nat) (q : Int) (x : Ent) (w : World) (hp : x.path.size ≤ 1073741824) (hd : x.data.size ≤ 1073741824) (hn : n ≤ 1073741824) (hq : 0 ≤ q ∧ q ≤ 1073741824) (hT : TreeAt w tb base N F n q) (u : Nd) (hpar : F (namesP (parentB x.path)) = some u) (hk : u.e.kind = 1)
    (hold : F (namesP (parentB x.path) ++ [un (lastB x.path)]) = none) (hn5 : n + 1 ≤ 4096) (hq5 : q + x.data.size ≤ 16777216) (hN : N < 1073741824) :
    Calls Tryz.prog 87 #[.pointer (some ⟨tb, 0, none⟩), .agg #[.string x.path, .int .i64 x.kind, .int .i64 x.mode, .string x.data, .string x.link]] w fun e w' => e = .returned (errE 0) ∧ Below base w w' ∧ ∃ z : Nd, z.e = x ∧ TreeAt w' tb base (N + 1) (setPic F (namesP (parentB x.path) ++ [un (lastB x.path)]) (some z)) (n + 1) (q + x.data.size) ∧ Rnd (MineT tb F) (MineT tb (setPic F (namesP (parentB x.path) ++ [un (lastB x.path)]) (some z))) w w' := by
  have hps := parentB_size x.path
  have hls := lastB_size x.path
  have hbA : Below w.heap.size w (w.alloc (.cells #[.string x.path, .int .i64 x.kind, .int .i64 x.mode, .string x.data, .string x.link] 52)) := (Below.refl _ _).alloc (Nat.le_refl _) _
  have hT0 := hT.below hbA
  obtain ⟨rt, rm, hrt, hrm, hhead⟩ := hT0.root
  have hF0 := hT0.tree
  have hc0 := (head_cells hhead).1
  have hk2 : (u.e.kind != 1) = false := by simpa using hk
  have hcu : ∀ k, ((w.alloc (.cells #[.string x.path, .int .i64 x.kind, .int .i64 x.mode, .string x.data, .string x.link] 52)).drewN k).cell? ⟨u.b, 1, none⟩ = some (.int .i64 u.e.kind) := fun k => node_cell (hF0.node _ u hpar).2 rfl
  have hec : ∀ k j v, (entA x)[j]? = some v → ((w.alloc (.cells #[.string x.path, .int .i64 x.kind, .int .i64 x.mode, .string x.data, .string x.link] 52)).drewN k).cell? ⟨w.heap.size, j, none⟩ = some v := fun k j v hv => by
    show (w.alloc _).cell? _ = _
    unfold World.cell?
    rw [show (w.alloc (.cells #[.string x.path, .int .i64 x.kind, .int .i64 x.mode, .string x.data, .string x.link] 52)).heap[w.heap.size]? = _ from heap_alloc_new w _]
    exact hv
  go_enter Tryz.func87, Tryz.ntmps87
  go_upto_region 6 with (first | (go_at_call 78; refine (parent_p _ _ (by omega)).mono ?_; rintro e w' ⟨rfl, rfl⟩) | (go_at_call 118; refine (at_p tb base N F rt _ _ (by omega) hrt hc0 hF0).mono ?_; rintro e w' ⟨k, rfl, rfl⟩; simp only [hpar, Option.map, toPtr]; have hcu1 := hcu k))
  have hTk : TreeAt ((w.alloc (.cells #[.string x.path, .int .i64 x.kind, .int .i64 x.mode, .string x.data, .string x.link] 52)).drewN k) tb base N F n q := hT0.below (below_drewN (Below.refl _ _) k)
  have hBk : Below w.heap.size w ((w.alloc (.cells #[.string x.path, .int .i64 x.kind, .int .i64 x.mode, .string x.data, .string x.link] 52)).drewN k) := below_drewN hbA k
  have hek := hec k
  have HEB : Hid (((w.alloc (.cells #[.string x.path, .int .i64 x.kind, .int .i64 x.mode, .string x.data, .string x.link] 52)).drewN k).heap[w.heap.size]? = some (.cells (entA x) 52)) := heap_alloc_new w _
  clear hcu hec hF0 hc0 hT0 hbA hhead hcu1
  generalize (w.alloc (.cells #[.string x.path, .int .i64 x.kind, .int .i64 x.mode, .string x.data, .string x.link] 52)).drewN k = V at *
  obtain ⟨rt2, rm2, hrt2, hrm2, hhead⟩ := hTk.root
  obtain ⟨c0, c1, c2⟩ := head_cells hhead
  have e0 := hek 0 _ rfl
  have e1 := hek 1 _ rfl
  have e3 := hek 3 _ rfl
  have hum : V.cell? ⟨u.b, 5, none⟩ = some (.map u.m) := node_cell (hTk.tree.node _ u hpar).2 rfl
  have hlook : ∀ k, (Instr.lookup 153 (.map u.m) (.string (lastB x.path)) false).run Tryz.prog (V.drewN k) = .ok (.pointer none) (V.drewN k) := fun k => by
    have := (hTk.tree.drewN k).look Tryz.underlying9 Tryz.underlying153 rfl hpar (s := lastB x.path) (Nat.le_trans (by omega : _ ≤ 1073741824) (by decide))
    rw [this]
    show Result.ok (toPtr ((F (namesP (parentB x.path) ++ [un (lastB x.path)])).map Nd.b)) _ = _
    rw [hold]; rfl
  have HO : Hid (F (namesP (parentB x.path) ++ [un (lastB x.path)]) = none ∧ F (namesP (parentB x.path)) = some u) := ⟨hold, hpar⟩
  have HTB : Hid (tb < w.heap.size) := hT.lt
  have HS : Hid (TreeAt V tb base N F n q ∧ Below w.heap.size w V) := ⟨hTk, hBk⟩
  clear hTk hBk hek hhead hrt hrm hrt2 hrm2 hpar hT hold
  go_region_held (fun W => W.cell? ⟨tb, 1, none⟩ = some (.int .i64 n) ∧ W.cell? ⟨tb, 2, none⟩ = some (.int .i64 q) ∧ W.cell? ⟨w.heap.size, 3, none⟩ = some (.string x.data)) (go_keep) (fail)
  have hwr : IntKind.i64.wrap (q + (x.data.size : Int)) = q + x.data.size := by
    unfold IntKind.wrap; simp [IntKind.bits, IntKind.signed]; omega
  rw [hwr]
  have HS1 : Hid (TreeAt V.drew tb base N F n q ∧ Below w.heap.size w V.drew) := ⟨HS.out.1.below (below_drewN (Below.refl _ _) 1), below_drewN HS.out.2 1⟩
  have hl1 : (Instr.lookup 153 (.map u.m) (.string (lastB x.path)) false).run Tryz.prog V.drew.drew = .ok (.pointer none) V.drew.drew := hlook 2
  replace hum : V.drew.cell? ⟨u.b, 5, none⟩ = some (.map u.m) := hum
  replace e0 : V.drew.cell? ⟨w.heap.size, 0, none⟩ = some (.string x.path) := e0
  replace e1 : V.drew.cell? ⟨w.heap.size, 1, none⟩ = some (.int .i64 x.kind) := e1
  clear hlook HS c0 c1 c2 e3
  replace HEB : Hid (V.drew.heap[w.heap.size]? = some (.cells (entA x) 52)) := HEB
  generalize V.drew = V1 at *
  go_upto_region 7 with fail
  go_region_held (fun W => W.cell? ⟨u.b, 5, none⟩ = some (.map u.m) ∧ W.cell? ⟨w.heap.size, 0, none⟩ = some (.string x.path) ∧ (Instr.lookup 153 (.map u.m) (.string (lastB x.path)) false).run Tryz.prog W = .ok (.pointer none) W) (go_keep) ((go_at_call 79; refine (last_p _ _ (by omega)).mono ?_; rintro e w' ⟨rfl, rfl⟩))
  have HS2 : Hid (TreeAt V1.drew tb base N F n q ∧ Below w.heap.size w V1.drew) := ⟨HS1.out.1.below (below_drewN (Below.refl _ _) 1), below_drewN HS1.out.2 1⟩
  clear HS1 hl1 hum e0 e1
  replace HEB : Hid (V1.drew.heap[w.heap.size]? = some (.cells (entA x) 52)) := HEB
  generalize V1.drew = V2 at *
  have hwr3 : IntKind.i64.wrap ((n : Int) + 1) = (n : Int) + 1 := by
    unfold IntKind.wrap; simp [IntKind.bits, IntKind.signed]; omega
  have h51' : decide ((4096 : Int) < (n : Int) + 1) = false := by simp; omega
  have h52' : decide ((16777216 : Int) < q + x.data.size) = false := by simp; omega
  obtain ⟨rt3, rm3, hrt3, hrm3, hh3⟩ := HS2.out.1.root
  obtain ⟨c0, c1, c2⟩ := head_cells hh3
  have f1 : V2.frozen? ⟨tb, 1, none⟩ = false := by simp [World.frozen?, hh3]
  have f2 : V2.frozen? ⟨tb, 2, none⟩ = false := by simp [World.frozen?, hh3]
  clear hrt3 hrm3 hh3
  go_upto_region 17 with fail
  have hT4 := (HS2.out.1.counts (n + 1) (q + x.data.size)).1
  have hg4 := (HS2.out.1.counts (n + 1) (q + x.data.size)).2
  rw [show ((n + 1 : Nat) : Int) = (n : Int) + 1 by omega] at hT4 hg4
  have hse : ((V2.setCell ⟨tb, 1, none⟩ (.int .i64 ((n : Int) + 1))).setCell ⟨tb, 2, none⟩ (.int .i64 (q + x.data.size))).heap[w.heap.size]? = some (.cells (entA x) 52) :=
    (hg4.block _ (Array.getElem?_eq_some_iff.1 HEB.out).1 (by have := HTB.out; simp; omega)).trans HEB.out
  have HB4 : Hid (Below base w ((V2.setCell ⟨tb, 1, none⟩ (.int .i64 ((n : Int) + 1))).setCell ⟨tb, 2, none⟩ (.int .i64 (q + x.data.size)))) := by
    have hb0 : base ≤ w.heap.size := by have := HTB.out; have := hT4.from'; omega
    have b3 : Below base w V2 := ⟨HS2.out.2.os, HS2.out.2.tape, HS2.out.2.output, HS2.out.2.size, fun j hj => HS2.out.2.block j (by omega)⟩
    have hs3 := b3.size
    exact b3.trans (grown_below hg4 hT4.from' (by omega))
  have HK4 : Hid (∀ k, k < w.heap.size → k ≠ tb → ((V2.setCell ⟨tb, 1, none⟩ (.int .i64 ((n : Int) + 1))).setCell ⟨tb, 2, none⟩ (.int .i64 (q + x.data.size))).heap[k]? = w.heap[k]?) := fun k hk hne => (hg4.block k (by have := HS2.out.2.size; omega) (by simpa using hne)).trans (HS2.out.2.block k hk)
  clear HS2 HEB c0 c1 c2 f1 f2 hg4
  generalize (V2.setCell ⟨tb, 1, none⟩ (.int .i64 ((n : Int) + 1))).setCell ⟨tb, 2, none⟩ (.int .i64 (q + x.data.size)) = V4 at *
  have p5 : V4.cell? ⟨u.b, 5, none⟩ = some (.map u.m) := node_cell (hT4.tree.node _ u HO.out.2).2 rfl
  have hu4 := hT4.tree.lt HO.out.2
  have hw4 : w.heap.size < V4.heap.size := (Array.getElem?_eq_some_iff.1 hse).1
  have q0 : V4.cell? ⟨w.heap.size, 0, none⟩ = some (.string x.path) := by unfold World.cell?; simp only [hse]; rfl
  have q1 : V4.cell? ⟨w.heap.size, 1, none⟩ = some (.int .i64 x.kind) := by unfold World.cell?; simp only [hse]; rfl
  have q2 : V4.cell? ⟨w.heap.size, 2, none⟩ = some (.int .i64 x.mode) := by unfold World.cell?; simp only [hse]; rfl
  have q3 : V4.cell? ⟨w.heap.size, 3, none⟩ = some (.string x.data) := by unfold World.cell?; simp only [hse]; rfl
  have q4 : V4.cell? ⟨w.heap.size, 4, none⟩ = some (.string x.link) := by unfold World.cell?; simp only [hse]; rfl
  have HT4 : Hid (TreeAt V4 tb base N F (n + 1) (q + x.data.size)) := hT4
  obtain ⟨m, hm⟩ : ∃ m, u.m = some m := by
    cases hz : u.m with
    | none => exact absurd hk ((hT4.kinds _ u HO.out.2).1 hz)
    | some m => exact ⟨m, rfl⟩
  have hml := hT4.tree.mlt HO.out.2 hm
  have hmb := (hT4.tree.kids _ u m HO.out.2 hm).1
  have STORE : ∀ (w1 : World) (b : Nat), Below V4.drew.heap.size V4.drew w1 → ∃ W6, (Instr.mapUpdate 153 (.map (some m)) (.string (lastB x.path)) (.pointer (some ⟨b, 0, none⟩))).run Tryz.prog w1 = .ok () W6 ∧ KidsAt W6 Tryz.prog 9 m (N + 1) (setKid (kidsOf F (namesP (parentB x.path))) (un (lastB x.path)) (some b)) ∧ w1.mapTurned W6 m := fun w1 b hb => by
    exact ((hT4.tree.drewN 1).below hb |>.kids _ u m HO.out.2 hm).2.store Tryz.underlying9 Tryz.underlying153 (Nat.lt_of_lt_of_le hN (by decide)) (Nat.le_trans (by omega : _ ≤ 1073741824) (by decide)) b
  have HFIN : Hid (∀ (w1 W6 : World) (z : Nd), z.e = x → Below V4.drew.heap.size V4.drew w1 → V4.drew.heap.size ≤ z.b → w1.heap[z.b]? = some (.cells (ncells z) 155) → (∀ p, z.m = some p → V4.drew.heap.size ≤ p ∧ KidsAt w1 Tryz.prog 9 p 0 (fun _ => none)) → (z.m = none ↔ x.kind ≠ 1) →
      KidsAt W6 Tryz.prog 9 m (N + 1) (setKid (kidsOf F (namesP (parentB x.path))) (un (lastB x.path)) (some z.b)) → w1.mapTurned W6 m →
      Below base w W6 ∧ ∃ z : Nd, z.e = x ∧ TreeAt W6 tb base (N + 1) (setPic F (namesP (parentB x.path) ++ [un (lastB x.path)]) (some z)) (n + 1) (q + x.data.size) ∧ Rnd (MineT tb F) (MineT tb (setPic F (namesP (parentB x.path) ++ [un (lastB x.path)]) (some z))) w W6) := by
    intro w1 W6 z h1 h2 h3 h4 h5 h6 h7 h8
    have hbs : base ≤ V4.heap.size := by omega
    have h2s : V4.heap.size ≤ w1.heap.size := h2.size
    have bA : Below base V4 w1 := ⟨h2.os, h2.tape, h2.output, h2.size, fun j hj => h2.block j (by show j < V4.heap.size; omega)⟩
    have BB := (HB4.out.trans bA).trans (grown_below h8.grown hmb (by omega))
    have hT6 := (hT4.below (below_drewN (Below.refl _ _) 1)).grown h2 HO.out.2 hm HO.out.1 h3 h4 h5 (by rw [h1]; exact h6) h7 h8
    have hsw : w.heap.size ≤ V4.heap.size := HB4.out.size
    have h3' : V4.heap.size ≤ z.b := h3
    have h8s := h8.grown.size
    refine ⟨BB, z, h1, hT6, BB.os, BB.tape, BB.output, BB.size, fun k hk hn => ?_, fun k hk => ?_⟩
    · have k1 : k ≠ tb := fun e => hn (.inl e)
      have k2 : k ≠ m := fun e => hn (.inr ⟨_, u, HO.out.2, .inr (by rw [hm, e])⟩)
      exact (h8.grown.block k (by omega) (by simpa using k2)).trans ((h2.block k (by show k < V4.heap.size; omega)).trans (HK4.out k hk k1))
    · rcases hk with rfl | ⟨ns, v, hv, hv2⟩
      · exact .inl (.inl rfl)
      · by_cases e : ns = namesP (parentB x.path) ++ [un (lastB x.path)]
        · subst e
          rw [setPic_same] at hv; cases hv
          rcases hv2 with rfl | hv2
          · exact .inr ⟨by omega, hT6.tree.lt (setPic_same _ _ _)⟩
          · have := (h5 k hv2).1
            exact .inr ⟨by have h9 : V4.heap.size ≤ k := this; omega, hT6.tree.mlt (setPic_same _ _ _) hv2⟩
        · rw [setPic_other _ _ _ e] at hv
          exact .inl (.inr ⟨ns, v, hv, hv2⟩)
  have hmu : some u.b ≠ some m := by simpa using hT4.tree.other HO.out.2 HO.out.2 hm
  have hme : some w.heap.size ≠ some m := by
    intro e
    obtain ⟨_, ⟨es, clock, hq, _⟩, _⟩ := (hT4.tree.kids _ u m HO.out.2 hm).2
    rw [← Option.some.inj e, hse] at hq
    cases hq
  clear hse hT4
  go_region_held3 (fun W => W.cell? ⟨u.b, 5, none⟩ = some (.map u.m) ∧ W.cell? ⟨w.heap.size, 0, none⟩ = some (.string x.path) ∧ W.cell? ⟨w.heap.size, 1, none⟩ = some (.int .i64 x.kind) ∧ W.cell? ⟨w.heap.size, 2, none⟩ = some (.int .i64 x.mode) ∧ W.cell? ⟨w.heap.size, 3, none⟩ = some (.string x.data) ∧ W.cell? ⟨w.heap.size, 4, none⟩ = some (.string x.link))
    (first
      | exact ⟨p5, q0, q1, q2, q3, q4⟩
      | exact ⟨(h2.cell (p := ⟨u.b, 5, none⟩) hu4).trans p5, (h2.cell (p := ⟨w.heap.size, 0, none⟩) hw4).trans q0, (h2.cell (p := ⟨w.heap.size, 1, none⟩) hw4).trans q1, (h2.cell (p := ⟨w.heap.size, 2, none⟩) hw4).trans q2, (h2.cell (p := ⟨w.heap.size, 3, none⟩) hw4).trans q3, (h2.cell (p := ⟨w.heap.size, 4, none⟩) hw4).trans q4⟩
      | exact ⟨t6.grown.cell ((h2.cell (p := ⟨u.b, 5, none⟩) hu4).trans p5) hmu, t6.grown.cell ((h2.cell (p := ⟨w.heap.size, 0, none⟩) hw4).trans q0) hme, t6.grown.cell ((h2.cell (p := ⟨w.heap.size, 1, none⟩) hw4).trans q1) hme, t6.grown.cell ((h2.cell (p := ⟨w.heap.size, 2, none⟩) hw4).trans q2) hme, t6.grown.cell ((h2.cell (p := ⟨w.heap.size, 3, none⟩) hw4).trans q3) hme, t6.grown.cell ((h2.cell (p := ⟨w.heap.size, 4, none⟩) hw4).trans q4) hme⟩
      | go_keep)
    (first
      | (go_at_call 79; refine (last_p _ _ (by omega)).mono ?_; rintro e w' ⟨rfl, rfl⟩)
      | (go_at_call 115; refine (new_p x _).mono ?_; rintro e w1 ⟨z, rfl, h1, h2, h3, h4, h5, h6⟩; obtain ⟨W6, r6, k6, t6⟩ := STORE w1 z.b h2))
  go_wp2
  go_ret
  exact ⟨rfl, HFIN.out w1 W6 z h1 h2 h3 h4 h5 h6 k6 t6⟩
end Go.Proofs.YtgildlfanfbebaaGreatDoor
