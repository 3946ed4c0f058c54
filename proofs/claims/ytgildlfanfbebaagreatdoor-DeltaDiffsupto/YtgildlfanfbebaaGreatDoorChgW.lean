/- Changes in memory; delta's do, tooMuch, atChange, ofSecond. -/
import Derived.Test.YtgildlfanfbebaaGreatDoorTrD
import Derived.Test.YtgildlfanfbebaaGreatDoorAsE

namespace Go.Proofs.YtgildlfanfbebaaGreatDoor
open Go Go.RowKit Go.Shelf

def layDN (L : List Ent) (x : Ent) : Int := if wrongN x ≠ 0 then wrongN x else if upN L x.path ≠ 0 then upN L x.path else match L.find? (pathIs x.path) with | none => 0 | some o => if sortB o x then 0 else 14
theorem up_of {F : Pic} {L : List Ent} (h : Says F L) (p : ByteArray) : upN L p = match F (namesP (parentB p)) with | none => 10 | some u => if u.e.kind ≠ 1 then 13 else 0 := by
  unfold upN
  by_cases hz : (parentB p).size = 0
  · obtain ⟨rt, h1, h2, _⟩ := h.root
    have h3 : namesP (parentB p) = [] := by unfold namesP; rw [if_pos hz]
    rw [if_pos hz, h3, h1]; simp [h2]
  · rw [if_neg hz, ← h.find (parentB p) hz]
    cases F (namesP (parentB p)) <;> rfl
set_option maxRecDepth 100000 in
set_option maxHeartbeats 4000000 in
theorem layd_wrong (b base N : Nat) (F : Pic) (L : List Ent) (x : Ent) (hp : x.path.size < 1152921504606846976) (w : World) (h : TreeD w b base N F L) (hw : wrongN x ≠ 0) :
    Calls Tryz.prog 81 #[.pointer (some ⟨b, 0, none⟩), entV x] w (DPost b base N F (laidL L x) (layDN L x) w) := by
  obtain ⟨rt, rm, hrt, rfl, hrm⟩ := h.root
  have hps := parentB_size x.path
  have hls := lastB_size x.path
  have hWR := fun W => wrong_d x W hp
  have hbA : Below w.heap.size w (w.alloc (.cells #[.string x.path, .int .i64 x.kind, .int .i64 x.mode, .string x.data, .string x.link] 52)) := (Below.refl _ _).alloc (Nat.le_refl _) _
  have hEB : (w.alloc (.cells #[.string x.path, .int .i64 x.kind, .int .i64 x.mode, .string x.data, .string x.link] 52)).heap[w.heap.size]? = some (.cells (entA x) 52) := heap_alloc_new w _
  have hsA : (w.alloc (.cells #[.string x.path, .int .i64 x.kind, .int .i64 x.mode, .string x.data, .string x.link] 52)).heap.size = w.heap.size + 1 := by simp
  have HN : Hid (layDN L x = wrongN x ∧ wrongN x ≠ 0) := ⟨if_pos hw, hw⟩
  rw [errE_some hw] at hWR
  unfold entV
  go_enter Tryz.func81, Tryz.ntmps81
  go_wp2_with (go_at_call 111; refine (hWR _).mono ?_; rintro e w1 ⟨rfl, h1⟩)
  go_ret
  exact ⟨by rw [HN.out.1, errE_some HN.out.2]; rfl, .inl ⟨by rw [HN.out.1]; exact HN.out.2, below_join hbA h1⟩⟩
set_option maxRecDepth 100000 in
set_option maxHeartbeats 4000000 in
theorem layd_10 (b base N : Nat) (F : Pic) (L : List Ent) (x : Ent) (hp : x.path.size < 1152921504606846976) (w : World) (h : TreeD w b base N F L) (hw : wrongN x = 0) (hu : F (namesP (parentB x.path)) = none) :
    Calls Tryz.prog 81 #[.pointer (some ⟨b, 0, none⟩), entV x] w (DPost b base N F (laidL L x) (layDN L x) w) := by
  obtain ⟨rt, rm, hrt, rfl, hrm⟩ := h.root
  have hps := parentB_size x.path
  have hls := lastB_size x.path
  have hWR := fun W => wrong_d x W hp
  have hbA : Below w.heap.size w (w.alloc (.cells #[.string x.path, .int .i64 x.kind, .int .i64 x.mode, .string x.data, .string x.link] 52)) := (Below.refl _ _).alloc (Nat.le_refl _) _
  have hEB : (w.alloc (.cells #[.string x.path, .int .i64 x.kind, .int .i64 x.mode, .string x.data, .string x.link] 52)).heap[w.heap.size]? = some (.cells (entA x) 52) := heap_alloc_new w _
  have hsA : (w.alloc (.cells #[.string x.path, .int .i64 x.kind, .int .i64 x.mode, .string x.data, .string x.link] 52)).heap.size = w.heap.size + 1 := by simp
  have hck := wrong_check hw
  have hsp := names_split hck
  rw [hw, errE_zero] at hWR
  have hAP := fun W (hb : Below w.heap.size w W) => at_d base N F rt (parentB x.path) W (by omega) hrt (h.tree.below hb)
  have HN : Hid (layDN L x = 10) := by
    unfold Hid layDN
    rw [up_of h.says, hu, if_neg (by simpa using hw), if_pos (by decide)]
  rw [hu] at hAP
  replace hAP : ∀ W, Below w.heap.size w W → Calls Tryz.prog 77 #[.pointer (some ⟨rt.b, 0, none⟩), .string (parentB x.path)] W fun e w' => e = .returned (.pointer none) ∧ Below W.heap.size W w' := hAP
  clear hck hsp hw hu h hrt
  unfold entV
  go_enter Tryz.func81, Tryz.ntmps81
  go_wp2_with (first
      | (go_at_call 111; refine (hWR _).mono ?_; rintro e w1 ⟨rfl, h1⟩; have hB1 := below_join hbA h1; have hE1 : w1.cell? ⟨w.heap.size, 0, none⟩ = some (.string x.path) := (by have h9 := (h1.block w.heap.size (by omega)).trans hEB; unfold World.cell?; simp only [h9]; rfl))
      | (go_at_call 78; refine (parent_p _ _ (by omega)).mono ?_; rintro e w' ⟨rfl, hw9⟩; obtain rfl := hw9.symm)
      | (go_at_call 77; refine (hAP _ hB1).mono ?_; rintro e w2 ⟨rfl, h2⟩))
  go_ret
  exact ⟨by rw [HN.out]; rfl, .inl ⟨by rw [HN.out]; decide, below_join hB1 h2⟩⟩
set_option maxRecDepth 100000 in
set_option maxHeartbeats 4000000 in
theorem layd_13 (b base N : Nat) (F : Pic) (L : List Ent) (x : Ent) (hp : x.path.size < 1152921504606846976) (w : World) (h : TreeD w b base N F L) (hw : wrongN x = 0) (u : Nd) (hu : F (namesP (parentB x.path)) = some u) (hk : u.e.kind ≠ 1) :
    Calls Tryz.prog 81 #[.pointer (some ⟨b, 0, none⟩), entV x] w (DPost b base N F (laidL L x) (layDN L x) w) := by
  obtain ⟨rt, rm, hrt, rfl, hrm⟩ := h.root
  have hps := parentB_size x.path
  have hls := lastB_size x.path
  have hWR := fun W => wrong_d x W hp
  have hbA : Below w.heap.size w (w.alloc (.cells #[.string x.path, .int .i64 x.kind, .int .i64 x.mode, .string x.data, .string x.link] 52)) := (Below.refl _ _).alloc (Nat.le_refl _) _
  have hEB : (w.alloc (.cells #[.string x.path, .int .i64 x.kind, .int .i64 x.mode, .string x.data, .string x.link] 52)).heap[w.heap.size]? = some (.cells (entA x) 52) := heap_alloc_new w _
  have hsA : (w.alloc (.cells #[.string x.path, .int .i64 x.kind, .int .i64 x.mode, .string x.data, .string x.link] 52)).heap.size = w.heap.size + 1 := by simp
  have hck := wrong_check hw
  have hsp := names_split hck
  rw [hw, errE_zero] at hWR
  have hAP := fun W (hb : Below w.heap.size w W) => at_d base N F rt (parentB x.path) W (by omega) hrt (h.tree.below hb)
  have HN : Hid (layDN L x = 13) := by
    unfold Hid layDN
    rw [up_of h.says, hu, if_neg (by simpa using hw)]
    simp [hk]
  rw [hu] at hAP
  replace hAP : ∀ W, Below w.heap.size w W → Calls Tryz.prog 77 #[.pointer (some ⟨rt.b, 0, none⟩), .string (parentB x.path)] W fun e w' => e = .returned (.pointer (some ⟨u.b, 0, none⟩)) ∧ Below W.heap.size W w' := hAP
  have hcu : ∀ W, Below w.heap.size w W → W.cell? ⟨u.b, 1, none⟩ = some (.int .i64 u.e.kind) := fun W hb => node_cell ((h.tree.below hb).node _ u hu).2 rfl
  have hk2 : (u.e.kind != 1) = true := by simpa using hk
  clear hck hsp hw hu h hrt
  unfold entV
  go_enter Tryz.func81, Tryz.ntmps81
  go_wp2_with (first
      | (go_at_call 111; refine (hWR _).mono ?_; rintro e w1 ⟨rfl, h1⟩; have hB1 := below_join hbA h1; have hE1 : w1.cell? ⟨w.heap.size, 0, none⟩ = some (.string x.path) := (by have h9 := (h1.block w.heap.size (by omega)).trans hEB; unfold World.cell?; simp only [h9]; rfl))
      | (go_at_call 78; refine (parent_p _ _ (by omega)).mono ?_; rintro e w' ⟨rfl, hw9⟩; obtain rfl := hw9.symm)
      | (go_at_call 77; refine (hAP _ hB1).mono ?_; rintro e w2 ⟨rfl, h2⟩; have hcu2 := hcu _ (below_join hB1 h2)))
  go_ret
  exact ⟨by rw [HN.out]; rfl, .inl ⟨by rw [HN.out]; decide, below_join hB1 h2⟩⟩
set_option maxRecDepth 100000 in
set_option maxHeartbeats 4000000 in
theorem layd_14 (b base N : Nat) (F : Pic) (L : List Ent) (x : Ent) (hp : x.path.size < 1152921504606846976) (w : World) (h : TreeD w b base N F L) (hw : wrongN x = 0) (u : Nd) (hu : F (namesP (parentB x.path)) = some u) (hk : u.e.kind = 1) (o : Nd) (hold : F (namesP x.path) = some o) (hs : sortB o.e x = false) :
    Calls Tryz.prog 81 #[.pointer (some ⟨b, 0, none⟩), entV x] w (DPost b base N F (laidL L x) (layDN L x) w) := by
  obtain ⟨rt, rm, hrt, rfl, hrm⟩ := h.root
  have hps := parentB_size x.path
  have hls := lastB_size x.path
  have hWR := fun W => wrong_d x W hp
  have hbA : Below w.heap.size w (w.alloc (.cells #[.string x.path, .int .i64 x.kind, .int .i64 x.mode, .string x.data, .string x.link] 52)) := (Below.refl _ _).alloc (Nat.le_refl _) _
  have hEB : (w.alloc (.cells #[.string x.path, .int .i64 x.kind, .int .i64 x.mode, .string x.data, .string x.link] 52)).heap[w.heap.size]? = some (.cells (entA x) 52) := heap_alloc_new w _
  have hsA : (w.alloc (.cells #[.string x.path, .int .i64 x.kind, .int .i64 x.mode, .string x.data, .string x.link] 52)).heap.size = w.heap.size + 1 := by simp
  have hck := wrong_check hw
  have hsp := names_split hck
  rw [hw, errE_zero] at hWR
  have hAP := fun W (hb : Below w.heap.size w W) => at_d base N F rt (parentB x.path) W (by omega) hrt (h.tree.below hb)
  rw [hu] at hAP
  replace hAP : ∀ W, Below w.heap.size w W → Calls Tryz.prog 77 #[.pointer (some ⟨rt.b, 0, none⟩), .string (parentB x.path)] W fun e w' => e = .returned (.pointer (some ⟨u.b, 0, none⟩)) ∧ Below W.heap.size W w' := hAP
  have hcu : ∀ W, Below w.heap.size w W → W.cell? ⟨u.b, 1, none⟩ = some (.int .i64 u.e.kind) := fun W hb => node_cell ((h.tree.below hb).node _ u hu).2 rfl
  have hk2 : (u.e.kind != 1) = false := by simpa using hk
  have HUP : Hid (upN L x.path = 0) := by unfold Hid; rw [up_of h.says, hu]; simp [hk]
  have hlook : ∀ W, Below w.heap.size w W → (Instr.lookup 111 (.map u.m) (.string (lastB x.path)) false).run Tryz.prog W = .ok (.pointer (some ⟨o.b, 0, none⟩)) W := fun W hb => by
    have := (h.tree.below hb).look Tryz.underlying9 Tryz.underlying111 rfl hu (s := lastB x.path) (Nat.le_trans (by omega : _ ≤ 1152921504606846976) (by decide))
    rw [this]
    show Result.ok (toPtr ((F (namesP (parentB x.path) ++ [un (lastB x.path)])).map Nd.b)) _ = _
    rw [hsp, hold]; rfl
  have hum : ∀ W, Below w.heap.size w W → W.cell? ⟨u.b, 5, none⟩ = some (.map u.m) := fun W hb => node_cell ((h.tree.below hb).node _ u hu).2 rfl
  have HH : Hid (TreeD w rt.b base N F L) := h
  have HU : Hid (F (namesP (parentB x.path)) = some u ∧ F (namesP x.path) = some o ∧ namesP (parentB x.path) ++ [un (lastB x.path)] = namesP x.path ∧ checkN x.path = 0 ∧ wrongN x = 0 ∧ u.e.kind = 1) := ⟨hu, hold, hsp, hck, hw, hk⟩
  have HN : Hid (layDN L x = 14) := by
    unfold Hid layDN
    rw [HUP.out, if_neg (by simpa using hw), if_neg (by simp), ← h.says.find x.path (check_facts hck).1, hold]
    simp [hs]
  clear hck hsp hw hu h hrt hold
  unfold entV
  go_enter Tryz.func81, Tryz.ntmps81
  go_upto_region 9 with (first
      | (go_at_call 111; refine (hWR _).mono ?_; rintro e w1 ⟨rfl, h1⟩; have hB1 := below_join hbA h1; have hE1 : w1.cell? ⟨w.heap.size, 0, none⟩ = some (.string x.path) := (by have h9 := (h1.block w.heap.size (by omega)).trans hEB; unfold World.cell?; simp only [h9]; rfl))
      | (go_at_call 78; refine (parent_p _ _ (by omega)).mono ?_; rintro e w' ⟨rfl, hw9⟩; obtain rfl := hw9.symm)
      | (go_at_call 77; refine (hAP _ hB1).mono ?_; rintro e w2 ⟨rfl, h2⟩; have hcu2 := hcu _ (below_join hB1 h2)))
  have HB2 : Hid (Below w.heap.size w w2) := below_join hB1 h2
  have hEB2 : w2.heap[w.heap.size]? = some (.cells (entA x) 52) := (h2.block w.heap.size (by have := h1.size; omega)).trans ((h1.block w.heap.size (by omega)).trans hEB)
  have hl1 := hlook _ (below_drewN HB2.out 1)
  replace hl1 : (Instr.lookup 111 (.map u.m) (.string (lastB x.path)) false).run Tryz.prog w2.drew = .ok (.pointer (some ⟨o.b, 0, none⟩)) w2.drew := hl1
  have hum2 := hum _ HB2.out
  have e0 : w2.cell? ⟨w.heap.size, 0, none⟩ = some (.string x.path) := by unfold World.cell?; simp only [hEB2]; rfl
  have HEB : Hid (w2.heap[w.heap.size]? = some (.cells (entA x) 52)) := hEB2
  clear h1 h2 hB1 hE1 hEB hEB2 hcu2 hWR hAP hbA hcu
  go_region_held (fun W => W.cell? ⟨u.b, 5, none⟩ = some (.map u.m) ∧ W.cell? ⟨w.heap.size, 0, none⟩ = some (.string x.path) ∧ (Instr.lookup 111 (.map u.m) (.string (lastB x.path)) false).run Tryz.prog W = .ok (.pointer (some ⟨o.b, 0, none⟩)) W) (go_keep) ((go_at_call 79; refine (last_p _ _ (by omega)).mono ?_; rintro e w' ⟨rfl, hw9⟩; obtain rfl := hw9.symm))
  have HB3 : Hid (Below w.heap.size w w2.drew) := below_drewN HB2.out 1
  replace HEB : Hid (w2.drew.heap[w.heap.size]? = some (.cells (entA x) 52)) := HEB
  clear HB2 hl1 hum2 e0
  generalize w2.drew = V at *
  have hno := ((HH.out.tree.below HB3.out).node _ o HU.out.2.1).2
  have o0 : V.cell? ⟨o.b, 0, none⟩ = some (.string o.e.path) := node_cell hno rfl
  have o1 : V.cell? ⟨o.b, 1, none⟩ = some (.int .i64 o.e.kind) := node_cell hno rfl
  have o2 : V.cell? ⟨o.b, 2, none⟩ = some (.int .i64 o.e.mode) := node_cell hno rfl
  have o3 : V.cell? ⟨o.b, 3, none⟩ = some (.string o.e.data) := node_cell hno rfl
  have o4 : V.cell? ⟨o.b, 4, none⟩ = some (.string o.e.link) := node_cell hno rfl
  have q0 : V.cell? ⟨w.heap.size, 0, none⟩ = some (.string x.path) := by unfold World.cell?; simp only [HEB.out]; rfl
  have q1 : V.cell? ⟨w.heap.size, 1, none⟩ = some (.int .i64 x.kind) := by unfold World.cell?; simp only [HEB.out]; rfl
  have q2 : V.cell? ⟨w.heap.size, 2, none⟩ = some (.int .i64 x.mode) := by unfold World.cell?; simp only [HEB.out]; rfl
  have q3 : V.cell? ⟨w.heap.size, 3, none⟩ = some (.string x.data) := by unfold World.cell?; simp only [HEB.out]; rfl
  have q4 : V.cell? ⟨w.heap.size, 4, none⟩ = some (.string x.link) := by unfold World.cell?; simp only [HEB.out]; rfl
  have hoV : o.b < V.drew.heap.size := (Array.getElem?_eq_some_iff.1 hno).1
  have hwV : w.heap.size < V.drew.heap.size := (Array.getElem?_eq_some_iff.1 HEB.out).1
  have hSS := fun W => sameSort_p o.e x W
  rw [hs] at hSS
  unfold entV at hSS
  clear hno
  go_upto_region 13 with fail
  go_region_held3 (fun W => W.cell? ⟨o.b, 0, none⟩ = some (.string o.e.path) ∧ W.cell? ⟨o.b, 1, none⟩ = some (.int .i64 o.e.kind) ∧ W.cell? ⟨o.b, 2, none⟩ = some (.int .i64 o.e.mode) ∧ W.cell? ⟨o.b, 3, none⟩ = some (.string o.e.data) ∧ W.cell? ⟨o.b, 4, none⟩ = some (.string o.e.link) ∧ W.cell? ⟨w.heap.size, 0, none⟩ = some (.string x.path) ∧ W.cell? ⟨w.heap.size, 1, none⟩ = some (.int .i64 x.kind) ∧ W.cell? ⟨w.heap.size, 2, none⟩ = some (.int .i64 x.mode) ∧ W.cell? ⟨w.heap.size, 3, none⟩ = some (.string x.data) ∧ W.cell? ⟨w.heap.size, 4, none⟩ = some (.string x.link))
    (first | exact ⟨o0, o1, o2, o3, o4, q0, q1, q2, q3, q4⟩ | exact ⟨(h3.cell (p := ⟨o.b, 0, none⟩) hoV).trans o0, (h3.cell (p := ⟨o.b, 1, none⟩) hoV).trans o1, (h3.cell (p := ⟨o.b, 2, none⟩) hoV).trans o2, (h3.cell (p := ⟨o.b, 3, none⟩) hoV).trans o3, (h3.cell (p := ⟨o.b, 4, none⟩) hoV).trans o4, (h3.cell (p := ⟨w.heap.size, 0, none⟩) hwV).trans q0, (h3.cell (p := ⟨w.heap.size, 1, none⟩) hwV).trans q1, (h3.cell (p := ⟨w.heap.size, 2, none⟩) hwV).trans q2, (h3.cell (p := ⟨w.heap.size, 3, none⟩) hwV).trans q3, (h3.cell (p := ⟨w.heap.size, 4, none⟩) hwV).trans q4⟩ | go_keep)
    ((go_at_call 67; refine (hSS _).mono ?_; rintro e w3 ⟨rfl, h3⟩))
  have HB4 : Hid (Below w.heap.size w w3) := below_join (below_drewN HB3.out 1) h3
  go_wp2
  go_ret
  exact ⟨by rw [HN.out]; rfl, .inl ⟨by rw [HN.out]; decide, HB4.out⟩⟩
set_option maxRecDepth 100000 in
set_option maxHeartbeats 4000000 in
theorem layd_over (b base N : Nat) (F : Pic) (L : List Ent) (x : Ent) (hp : x.path.size < 1152921504606846976) (w : World) (h : TreeD w b base N F L) (hw : wrongN x = 0) (u : Nd) (hu : F (namesP (parentB x.path)) = some u) (hk : u.e.kind = 1) (o : Nd) (hold : F (namesP x.path) = some o) (hs : sortB o.e x = true) :
    Calls Tryz.prog 81 #[.pointer (some ⟨b, 0, none⟩), entV x] w (DPost b base N F (laidL L x) (layDN L x) w) := by
  obtain ⟨rt, rm, hrt, rfl, hrm⟩ := h.root
  have hps := parentB_size x.path
  have hls := lastB_size x.path
  have hWR := fun W => wrong_d x W hp
  have hbA : Below w.heap.size w (w.alloc (.cells #[.string x.path, .int .i64 x.kind, .int .i64 x.mode, .string x.data, .string x.link] 52)) := (Below.refl _ _).alloc (Nat.le_refl _) _
  have hEB : (w.alloc (.cells #[.string x.path, .int .i64 x.kind, .int .i64 x.mode, .string x.data, .string x.link] 52)).heap[w.heap.size]? = some (.cells (entA x) 52) := heap_alloc_new w _
  have hsA : (w.alloc (.cells #[.string x.path, .int .i64 x.kind, .int .i64 x.mode, .string x.data, .string x.link] 52)).heap.size = w.heap.size + 1 := by simp
  have hck := wrong_check hw
  have hsp := names_split hck
  rw [hw, errE_zero] at hWR
  have hAP := fun W (hb : Below w.heap.size w W) => at_d base N F rt (parentB x.path) W (by omega) hrt (h.tree.below hb)
  rw [hu] at hAP
  replace hAP : ∀ W, Below w.heap.size w W → Calls Tryz.prog 77 #[.pointer (some ⟨rt.b, 0, none⟩), .string (parentB x.path)] W fun e w' => e = .returned (.pointer (some ⟨u.b, 0, none⟩)) ∧ Below W.heap.size W w' := hAP
  have hcu : ∀ W, Below w.heap.size w W → W.cell? ⟨u.b, 1, none⟩ = some (.int .i64 u.e.kind) := fun W hb => node_cell ((h.tree.below hb).node _ u hu).2 rfl
  have hk2 : (u.e.kind != 1) = false := by simpa using hk
  have HUP : Hid (upN L x.path = 0) := by unfold Hid; rw [up_of h.says, hu]; simp [hk]
  have hlook : ∀ W, Below w.heap.size w W → (Instr.lookup 111 (.map u.m) (.string (lastB x.path)) false).run Tryz.prog W = .ok (.pointer (some ⟨o.b, 0, none⟩)) W := fun W hb => by
    have := (h.tree.below hb).look Tryz.underlying9 Tryz.underlying111 rfl hu (s := lastB x.path) (Nat.le_trans (by omega : _ ≤ 1152921504606846976) (by decide))
    rw [this]
    show Result.ok (toPtr ((F (namesP (parentB x.path) ++ [un (lastB x.path)])).map Nd.b)) _ = _
    rw [hsp, hold]; rfl
  have hum : ∀ W, Below w.heap.size w W → W.cell? ⟨u.b, 5, none⟩ = some (.map u.m) := fun W hb => node_cell ((h.tree.below hb).node _ u hu).2 rfl
  have HH : Hid (TreeD w rt.b base N F L) := h
  have HU : Hid (F (namesP (parentB x.path)) = some u ∧ F (namesP x.path) = some o ∧ namesP (parentB x.path) ++ [un (lastB x.path)] = namesP x.path ∧ checkN x.path = 0 ∧ wrongN x = 0 ∧ u.e.kind = 1) := ⟨hu, hold, hsp, hck, hw, hk⟩
  have HN : Hid (layDN L x = 0) := by
    unfold Hid layDN
    rw [HUP.out, if_neg (by simpa using hw), if_neg (by simp), ← h.says.find x.path (check_facts hck).1, hold]
    simp [hs]
  have HSO : Hid (sortB o.e x = true) := hs
  clear hck hsp hw hu h hrt hold
  unfold entV
  go_enter Tryz.func81, Tryz.ntmps81
  go_upto_region 9 with (first
      | (go_at_call 111; refine (hWR _).mono ?_; rintro e w1 ⟨rfl, h1⟩; have hB1 := below_join hbA h1; have hE1 : w1.cell? ⟨w.heap.size, 0, none⟩ = some (.string x.path) := (by have h9 := (h1.block w.heap.size (by omega)).trans hEB; unfold World.cell?; simp only [h9]; rfl))
      | (go_at_call 78; refine (parent_p _ _ (by omega)).mono ?_; rintro e w' ⟨rfl, hw9⟩; obtain rfl := hw9.symm)
      | (go_at_call 77; refine (hAP _ hB1).mono ?_; rintro e w2 ⟨rfl, h2⟩; have hcu2 := hcu _ (below_join hB1 h2)))
  have HB2 : Hid (Below w.heap.size w w2) := below_join hB1 h2
  have hEB2 : w2.heap[w.heap.size]? = some (.cells (entA x) 52) := (h2.block w.heap.size (by have := h1.size; omega)).trans ((h1.block w.heap.size (by omega)).trans hEB)
  have hl1 := hlook _ (below_drewN HB2.out 1)
  replace hl1 : (Instr.lookup 111 (.map u.m) (.string (lastB x.path)) false).run Tryz.prog w2.drew = .ok (.pointer (some ⟨o.b, 0, none⟩)) w2.drew := hl1
  have hum2 := hum _ HB2.out
  have e0 : w2.cell? ⟨w.heap.size, 0, none⟩ = some (.string x.path) := by unfold World.cell?; simp only [hEB2]; rfl
  have HEB : Hid (w2.heap[w.heap.size]? = some (.cells (entA x) 52)) := hEB2
  clear h1 h2 hB1 hE1 hEB hEB2 hcu2 hWR hAP hbA hcu
  go_region_held (fun W => W.cell? ⟨u.b, 5, none⟩ = some (.map u.m) ∧ W.cell? ⟨w.heap.size, 0, none⟩ = some (.string x.path) ∧ (Instr.lookup 111 (.map u.m) (.string (lastB x.path)) false).run Tryz.prog W = .ok (.pointer (some ⟨o.b, 0, none⟩)) W) (go_keep) ((go_at_call 79; refine (last_p _ _ (by omega)).mono ?_; rintro e w' ⟨rfl, hw9⟩; obtain rfl := hw9.symm))
  have HB3 : Hid (Below w.heap.size w w2.drew) := below_drewN HB2.out 1
  replace HEB : Hid (w2.drew.heap[w.heap.size]? = some (.cells (entA x) 52)) := HEB
  clear HB2 hl1 hum2 e0
  generalize w2.drew = V at *
  have hno := ((HH.out.tree.below HB3.out).node _ o HU.out.2.1).2
  have o0 : V.cell? ⟨o.b, 0, none⟩ = some (.string o.e.path) := node_cell hno rfl
  have o1 : V.cell? ⟨o.b, 1, none⟩ = some (.int .i64 o.e.kind) := node_cell hno rfl
  have o2 : V.cell? ⟨o.b, 2, none⟩ = some (.int .i64 o.e.mode) := node_cell hno rfl
  have o3 : V.cell? ⟨o.b, 3, none⟩ = some (.string o.e.data) := node_cell hno rfl
  have o4 : V.cell? ⟨o.b, 4, none⟩ = some (.string o.e.link) := node_cell hno rfl
  have q0 : V.cell? ⟨w.heap.size, 0, none⟩ = some (.string x.path) := by unfold World.cell?; simp only [HEB.out]; rfl
  have q1 : V.cell? ⟨w.heap.size, 1, none⟩ = some (.int .i64 x.kind) := by unfold World.cell?; simp only [HEB.out]; rfl
  have q2 : V.cell? ⟨w.heap.size, 2, none⟩ = some (.int .i64 x.mode) := by unfold World.cell?; simp only [HEB.out]; rfl
  have q3 : V.cell? ⟨w.heap.size, 3, none⟩ = some (.string x.data) := by unfold World.cell?; simp only [HEB.out]; rfl
  have q4 : V.cell? ⟨w.heap.size, 4, none⟩ = some (.string x.link) := by unfold World.cell?; simp only [HEB.out]; rfl
  have hoV : o.b < V.drew.heap.size := (Array.getElem?_eq_some_iff.1 hno).1
  have hwV : w.heap.size < V.drew.heap.size := (Array.getElem?_eq_some_iff.1 HEB.out).1
  have hSS := fun W => sameSort_p o.e x W
  rw [hs] at hSS
  unfold entV at hSS
  clear hno
  go_upto_region 13 with fail
  go_region_held3 (fun W => W.cell? ⟨o.b, 0, none⟩ = some (.string o.e.path) ∧ W.cell? ⟨o.b, 1, none⟩ = some (.int .i64 o.e.kind) ∧ W.cell? ⟨o.b, 2, none⟩ = some (.int .i64 o.e.mode) ∧ W.cell? ⟨o.b, 3, none⟩ = some (.string o.e.data) ∧ W.cell? ⟨o.b, 4, none⟩ = some (.string o.e.link) ∧ W.cell? ⟨w.heap.size, 0, none⟩ = some (.string x.path) ∧ W.cell? ⟨w.heap.size, 1, none⟩ = some (.int .i64 x.kind) ∧ W.cell? ⟨w.heap.size, 2, none⟩ = some (.int .i64 x.mode) ∧ W.cell? ⟨w.heap.size, 3, none⟩ = some (.string x.data) ∧ W.cell? ⟨w.heap.size, 4, none⟩ = some (.string x.link))
    (first | exact ⟨o0, o1, o2, o3, o4, q0, q1, q2, q3, q4⟩ | exact ⟨(h3.cell (p := ⟨o.b, 0, none⟩) hoV).trans o0, (h3.cell (p := ⟨o.b, 1, none⟩) hoV).trans o1, (h3.cell (p := ⟨o.b, 2, none⟩) hoV).trans o2, (h3.cell (p := ⟨o.b, 3, none⟩) hoV).trans o3, (h3.cell (p := ⟨o.b, 4, none⟩) hoV).trans o4, (h3.cell (p := ⟨w.heap.size, 0, none⟩) hwV).trans q0, (h3.cell (p := ⟨w.heap.size, 1, none⟩) hwV).trans q1, (h3.cell (p := ⟨w.heap.size, 2, none⟩) hwV).trans q2, (h3.cell (p := ⟨w.heap.size, 3, none⟩) hwV).trans q3, (h3.cell (p := ⟨w.heap.size, 4, none⟩) hwV).trans q4⟩ | go_keep)
    ((go_at_call 67; refine (hSS _).mono ?_; rintro e w3 ⟨rfl, h3⟩))
  have HB4 : Hid (Below w.heap.size w w3) := below_join (below_drewN HB3.out 1) h3
  have HEB4 : w3.heap[w.heap.size]? = some (.cells (entA x) 52) := (h3.block _ hwV).trans HEB.out
  have hT4 := HH.out.below HB4.out
  have hno4 := hT4.tree.node _ o HU.out.2.1
  obtain ⟨hc5, hg5⟩ := five_set hno4.2 x
  have hth := there_node rfl hno4.2
  have hrg : w3.rangeAt w.heap.size 0 [.string x.path, .int .i64 x.kind, .int .i64 x.mode, .string x.data, .string x.link] := World.rangeAt_of_block HEB4 0 5
  have HF : Hid (∃ F', TreeD (w3.setCells o.b 0 [.string x.path, .int .i64 x.kind, .int .i64 x.mode, .string x.data, .string x.link]) rt.b base (N + 1) F' (laidL L x) ∧ Rnd (MineD F) (MineD F') w (w3.setCells o.b 0 [.string x.path, .int .i64 x.kind, .int .i64 x.mode, .string x.data, .string x.link])) := by
    have hT5 := hT4.tree.written (e' := x) HU.out.2.1 hg5 hc5
    obtain ⟨r2, m2, hr1, hr2, hr3⟩ := hT4.root
    have hne : ([] : List (List UInt8)) ≠ namesP x.path := fun e => names_ne (check_facts HU.out.2.2.2.1).1 e.symm
    have hkk : (o.e.kind = 1 ↔ x.kind = 1) := by
      have h9 := HSO.out
      unfold sortB at h9
      simp only [Bool.and_eq_true, beq_iff_eq] at h9
      have h10 := h9.2
      constructor
      · intro h11; rw [h11] at h10; simpa using h10.symm
      · intro h11; rw [h11] at h10; simpa using h10
    refine ⟨setPic F (namesP x.path) (some { o with e := x }), ⟨⟨r2, m2, by rw [setPic_other _ _ _ hne]; exact hr1, hr2, hr3⟩, hT5.mono (Nat.le_succ _), fun ns y hy => ?_, hT4.says.laid HU.out.2.2.2.1 HUP.out rfl, fun e he => ?_⟩, ?_⟩
    · by_cases e : ns = namesP x.path
      · subst e
        rw [setPic_same] at hy; cases hy
        have := hT4.kinds _ o HU.out.2.1
        show o.m = none ↔ x.kind ≠ 1
        rw [this]; simp [hkk]
      · rw [setPic_other _ _ _ e] at hy
        exact hT4.kinds ns y hy
    · rcases laid_mem.1 he with rfl | ⟨h9, _⟩
      · exact HU.out.2.2.2.2.1
      · exact hT4.right e h9
    · have hs4 := HB4.out.size
      refine ⟨hg5.os.trans HB4.out.os, hg5.tape.trans HB4.out.tape, hg5.output.trans HB4.out.output, Nat.le_trans hs4 hg5.size, fun k hk hn => ?_, ?_⟩
      · exact (hg5.block k (by omega) (by simp; rintro rfl; exact hn ⟨_, o, HU.out.2.1, .inl rfl⟩)).trans (HB4.out.block k hk)
      · rintro k ⟨ns, y, hy, h1⟩
        left
        by_cases e : ns = namesP x.path
        · subst e
          rw [setPic_same] at hy; cases hy
          exact ⟨_, o, HU.out.2.1, h1⟩
        · rw [setPic_other _ _ _ e] at hy
          exact ⟨ns, y, hy, h1⟩
  clear hT4 hno4 hc5 hg5 HEB4 HB3 HEB h3
  have hi5 : (Tryz.prog.info? 52).map (·.size) = some (#[Value.string x.path, .int .i64 x.kind, .int .i64 x.mode, .string x.data, .string x.link] : Array Value).size := by kernel_rfl
  have ho5 : (#[Value.string x.path, .int .i64 x.kind, .int .i64 x.mode, .string x.data, .string x.link] : Array Value).all (·.oneCell') = true := all_oneCell_toArray (cs := [Value.string x.path, .int .i64 x.kind, .int .i64 x.mode, .string x.data, .string x.link]) (by intro v hv; simp at hv; rcases hv with rfl | rfl | rfl | rfl | rfl <;> rfl)
  go_wp2_with (first
    | (refine wpList_load_mid rfl 52 (.tmp 3) rfl w.heap.size 0 rfl _ _ hrg Tryz.underlying52 rfl (by kernel_rfl) ?_)
    | (refine wpList_store_mid rfl 52 (.tmp 58) (.tmp 56) rfl o.b 0 #[.string x.path, .int .i64 x.kind, .int .i64 x.mode, .string x.data, .string x.link] rfl rfl hth hi5 ho5 ?_))
  go_ret
  exact ⟨by rw [HN.out]; rfl, .inr ⟨HN.out, HF.out⟩⟩
set_option maxRecDepth 100000 in
set_option maxHeartbeats 4000000 in
theorem layd_new (b base N : Nat) (F : Pic) (L : List Ent) (x : Ent) (hp : x.path.size < 1152921504606846976) (w : World) (h : TreeD w b base N F L) (hw : wrongN x = 0) (u : Nd) (hu : F (namesP (parentB x.path)) = some u) (hk : u.e.kind = 1) (hold : F (namesP x.path) = none) (hN : N < 4611686018427387904) :
    Calls Tryz.prog 81 #[.pointer (some ⟨b, 0, none⟩), entV x] w (DPost b base N F (laidL L x) (layDN L x) w) := by
  obtain ⟨rt, rm, hrt, rfl, hrm⟩ := h.root
  have hps := parentB_size x.path
  have hls := lastB_size x.path
  have hWR := fun W => wrong_d x W hp
  have hbA : Below w.heap.size w (w.alloc (.cells #[.string x.path, .int .i64 x.kind, .int .i64 x.mode, .string x.data, .string x.link] 52)) := (Below.refl _ _).alloc (Nat.le_refl _) _
  have hEB : (w.alloc (.cells #[.string x.path, .int .i64 x.kind, .int .i64 x.mode, .string x.data, .string x.link] 52)).heap[w.heap.size]? = some (.cells (entA x) 52) := heap_alloc_new w _
  have hsA : (w.alloc (.cells #[.string x.path, .int .i64 x.kind, .int .i64 x.mode, .string x.data, .string x.link] 52)).heap.size = w.heap.size + 1 := by simp
  have hck := wrong_check hw
  have hsp := names_split hck
  rw [hw, errE_zero] at hWR
  have hAP := fun W (hb : Below w.heap.size w W) => at_d base N F rt (parentB x.path) W (by omega) hrt (h.tree.below hb)
  rw [hu] at hAP
  replace hAP : ∀ W, Below w.heap.size w W → Calls Tryz.prog 77 #[.pointer (some ⟨rt.b, 0, none⟩), .string (parentB x.path)] W fun e w' => e = .returned (.pointer (some ⟨u.b, 0, none⟩)) ∧ Below W.heap.size W w' := hAP
  have hcu : ∀ W, Below w.heap.size w W → W.cell? ⟨u.b, 1, none⟩ = some (.int .i64 u.e.kind) := fun W hb => node_cell ((h.tree.below hb).node _ u hu).2 rfl
  have hk2 : (u.e.kind != 1) = false := by simpa using hk
  have HUP : Hid (upN L x.path = 0) := by unfold Hid; rw [up_of h.says, hu]; simp [hk]
  have hlook : ∀ W, Below w.heap.size w W → (Instr.lookup 111 (.map u.m) (.string (lastB x.path)) false).run Tryz.prog W = .ok (.pointer none) W := fun W hb => by
    have := (h.tree.below hb).look Tryz.underlying9 Tryz.underlying111 rfl hu (s := lastB x.path) (Nat.le_trans (by omega : _ ≤ 1152921504606846976) (by decide))
    rw [this]
    show Result.ok (toPtr ((F (namesP (parentB x.path) ++ [un (lastB x.path)])).map Nd.b)) _ = _
    rw [hsp, hold]; rfl
  have hum : ∀ W, Below w.heap.size w W → W.cell? ⟨u.b, 5, none⟩ = some (.map u.m) := fun W hb => node_cell ((h.tree.below hb).node _ u hu).2 rfl
  have HH : Hid (TreeD w rt.b base N F L) := h
  have HU : Hid (F (namesP (parentB x.path)) = some u ∧ F (namesP x.path) = none ∧ namesP (parentB x.path) ++ [un (lastB x.path)] = namesP x.path ∧ checkN x.path = 0 ∧ wrongN x = 0 ∧ u.e.kind = 1) := ⟨hu, hold, hsp, hck, hw, hk⟩
  have HN : Hid (layDN L x = 0) := by
    unfold Hid layDN
    rw [HUP.out, if_neg (by simpa using hw), if_neg (by simp), ← h.says.find x.path (check_facts hck).1, hold]
    rfl
  have HNN : Hid (N < 4611686018427387904) := hN
  clear hck hsp hw hu h hrt hold hN
  unfold entV
  go_enter Tryz.func81, Tryz.ntmps81
  go_upto_region 9 with (first
      | (go_at_call 111; refine (hWR _).mono ?_; rintro e w1 ⟨rfl, h1⟩; have hB1 := below_join hbA h1; have hE1 : w1.cell? ⟨w.heap.size, 0, none⟩ = some (.string x.path) := (by have h9 := (h1.block w.heap.size (by omega)).trans hEB; unfold World.cell?; simp only [h9]; rfl))
      | (go_at_call 78; refine (parent_p _ _ (by omega)).mono ?_; rintro e w' ⟨rfl, hw9⟩; obtain rfl := hw9.symm)
      | (go_at_call 77; refine (hAP _ hB1).mono ?_; rintro e w2 ⟨rfl, h2⟩; have hcu2 := hcu _ (below_join hB1 h2)))
  have HB2 : Hid (Below w.heap.size w w2) := below_join hB1 h2
  have hEB2 : w2.heap[w.heap.size]? = some (.cells (entA x) 52) := (h2.block w.heap.size (by have := h1.size; omega)).trans ((h1.block w.heap.size (by omega)).trans hEB)
  have hl1 := hlook _ (below_drewN HB2.out 1)
  replace hl1 : (Instr.lookup 111 (.map u.m) (.string (lastB x.path)) false).run Tryz.prog w2.drew = .ok (.pointer none) w2.drew := hl1
  have hum2 := hum _ HB2.out
  have e0 : w2.cell? ⟨w.heap.size, 0, none⟩ = some (.string x.path) := by unfold World.cell?; simp only [hEB2]; rfl
  have HEB : Hid (w2.heap[w.heap.size]? = some (.cells (entA x) 52)) := hEB2
  clear h1 h2 hB1 hE1 hEB hEB2 hcu2 hWR hAP hbA hcu
  go_region_held (fun W => W.cell? ⟨u.b, 5, none⟩ = some (.map u.m) ∧ W.cell? ⟨w.heap.size, 0, none⟩ = some (.string x.path) ∧ (Instr.lookup 111 (.map u.m) (.string (lastB x.path)) false).run Tryz.prog W = .ok (.pointer none) W) (go_keep) ((go_at_call 79; refine (last_p _ _ (by omega)).mono ?_; rintro e w' ⟨rfl, hw9⟩; obtain rfl := hw9.symm))
  have HB3 : Hid (Below w.heap.size w w2.drew) := below_drewN HB2.out 1
  replace HEB : Hid (w2.drew.heap[w.heap.size]? = some (.cells (entA x) 52)) := HEB
  clear HB2 hl1 hum2 e0
  generalize w2.drew = V at *
  have hT4 := HH.out.below HB3.out
  have p5 : V.cell? ⟨u.b, 5, none⟩ = some (.map u.m) := node_cell (hT4.tree.node _ u HU.out.1).2 rfl
  have q0 : V.cell? ⟨w.heap.size, 0, none⟩ = some (.string x.path) := by unfold World.cell?; simp only [HEB.out]; rfl
  have q1 : V.cell? ⟨w.heap.size, 1, none⟩ = some (.int .i64 x.kind) := by unfold World.cell?; simp only [HEB.out]; rfl
  have q2 : V.cell? ⟨w.heap.size, 2, none⟩ = some (.int .i64 x.mode) := by unfold World.cell?; simp only [HEB.out]; rfl
  have q3 : V.cell? ⟨w.heap.size, 3, none⟩ = some (.string x.data) := by unfold World.cell?; simp only [HEB.out]; rfl
  have q4 : V.cell? ⟨w.heap.size, 4, none⟩ = some (.string x.link) := by unfold World.cell?; simp only [HEB.out]; rfl
  have hu4 : u.b < V.drew.heap.size := hT4.tree.lt HU.out.1
  have hw4 : w.heap.size < V.drew.heap.size := (Array.getElem?_eq_some_iff.1 HEB.out).1
  obtain ⟨m, hm⟩ : ∃ m, u.m = some m := by
    cases hz : u.m with
    | none => exact absurd HU.out.2.2.2.2.2 ((hT4.kinds _ u HU.out.1).1 hz)
    | some m => exact ⟨m, rfl⟩
  have hmu : some u.b ≠ some m := by simpa using hT4.tree.other HU.out.1 HU.out.1 hm
  have hme : some w.heap.size ≠ some m := by
    intro e
    obtain ⟨_, ⟨es, clock, hq, _⟩, _⟩ := (hT4.tree.kids _ u m HU.out.1 hm).2
    rw [← Option.some.inj e, HEB.out] at hq
    cases hq
  have STORE : ∀ (w1 : World) (b : Nat), Below V.drew.heap.size V.drew w1 → ∃ W6, (Instr.mapUpdate 111 (.map (some m)) (.string (lastB x.path)) (.pointer (some ⟨b, 0, none⟩))).run Tryz.prog w1 = .ok () W6 ∧ KidsAt W6 Tryz.prog 9 m (N + 1) (setKid (kidsOf F (namesP (parentB x.path))) (un (lastB x.path)) (some b)) ∧ w1.mapTurned W6 m := fun w1 b hb => by
    exact ((hT4.tree.drewN 1).below hb |>.kids _ u m HU.out.1 hm).2.store Tryz.underlying9 Tryz.underlying111 (Nat.lt_of_lt_of_le HNN.out (by decide)) (Nat.le_trans (by omega : _ ≤ 1152921504606846976) (by decide)) b
  have HFIN : Hid (∀ (w1 W6 : World) (z : Nd), z.e = x → Below V.drew.heap.size V.drew w1 → V.drew.heap.size ≤ z.b → w1.heap[z.b]? = some (.cells (ncells z) 113) → (∀ p, z.m = some p → V.drew.heap.size ≤ p ∧ KidsAt w1 Tryz.prog 9 p 0 (fun _ => none)) → (z.m = none ↔ x.kind ≠ 1) →
      KidsAt W6 Tryz.prog 9 m (N + 1) (setKid (kidsOf F (namesP (parentB x.path))) (un (lastB x.path)) (some z.b)) → w1.mapTurned W6 m →
      ∃ F', TreeD W6 rt.b base (N + 1) F' (laidL L x) ∧ Rnd (MineD F) (MineD F') w W6) := by
    intro w1 W6 z h1 h2 h3 h4 h5 h6 h7 h8
    have hTd := hT4.tree.drewN 1
    have hbV : base ≤ V.drew.heap.size := by
      have e1 := (hT4.tree.node _ u HU.out.1).1
      have e2 : u.b < V.heap.size := hT4.tree.lt HU.out.1
      show base ≤ V.heap.size
      omega
    have hT6 := hTd.grown hbV h2 HU.out.1 hm (by rw [HU.out.2.2.1]; exact HU.out.2.1) h3 h4 h5 h7 h8
    rw [HU.out.2.2.1] at hT6
    obtain ⟨r2, m2, hr1, hr2, hr3⟩ := hT4.root
    have hne : ([] : List (List UInt8)) ≠ namesP x.path := fun e => names_ne (check_facts HU.out.2.2.2.1).1 e.symm
    have hwV : w.heap.size ≤ V.heap.size := HB3.out.size
    have h3' : V.heap.size ≤ z.b := h3
    refine ⟨setPic F (namesP x.path) (some z), ⟨⟨r2, m2, by rw [setPic_other _ _ _ hne]; exact hr1, hr2, hr3⟩, hT6, fun ns y hy => ?_, hT4.says.laid HU.out.2.2.2.1 HUP.out h1, fun e he => ?_⟩, rnd_turned (below_join (below_drewN HB3.out 1) h2) h8 ⟨_, u, HU.out.1, .inr hm⟩ ?_⟩
    · by_cases e : ns = namesP x.path
      · subst e
        rw [setPic_same] at hy; cases hy
        rw [h1]; exact h6
      · rw [setPic_other _ _ _ e] at hy
        exact hT4.kinds ns y hy
    · rcases laid_mem.1 he with rfl | ⟨h9, _⟩
      · exact HU.out.2.2.2.2.1
      · exact hT4.right e h9
    · rintro k ⟨ns, y, hy, h9⟩
      by_cases e : ns = namesP x.path
      · subst e
        rw [setPic_same] at hy; cases hy
        rcases h9 with rfl | h9
        · exact .inr ⟨by omega, hT6.lt (setPic_same _ _ _)⟩
        · have h10 : V.heap.size ≤ k := (h5 k h9).1
          exact .inr ⟨by omega, hT6.mlt (setPic_same _ _ _) h9⟩
      · rw [setPic_other _ _ _ e] at hy
        exact .inl ⟨ns, y, hy, h9⟩
  have hND := fun W => new_d x W
  unfold entV at hND
  clear hT4
  go_upto_region 11 with fail
  go_region_held3 (fun W => W.cell? ⟨u.b, 5, none⟩ = some (.map u.m) ∧ W.cell? ⟨w.heap.size, 0, none⟩ = some (.string x.path) ∧ W.cell? ⟨w.heap.size, 1, none⟩ = some (.int .i64 x.kind) ∧ W.cell? ⟨w.heap.size, 2, none⟩ = some (.int .i64 x.mode) ∧ W.cell? ⟨w.heap.size, 3, none⟩ = some (.string x.data) ∧ W.cell? ⟨w.heap.size, 4, none⟩ = some (.string x.link))
    (first
      | exact ⟨p5, q0, q1, q2, q3, q4⟩
      | exact ⟨(h2.cell (p := ⟨u.b, 5, none⟩) hu4).trans p5, (h2.cell (p := ⟨w.heap.size, 0, none⟩) hw4).trans q0, (h2.cell (p := ⟨w.heap.size, 1, none⟩) hw4).trans q1, (h2.cell (p := ⟨w.heap.size, 2, none⟩) hw4).trans q2, (h2.cell (p := ⟨w.heap.size, 3, none⟩) hw4).trans q3, (h2.cell (p := ⟨w.heap.size, 4, none⟩) hw4).trans q4⟩
      | exact ⟨t6.grown.cell ((h2.cell (p := ⟨u.b, 5, none⟩) hu4).trans p5) hmu, t6.grown.cell ((h2.cell (p := ⟨w.heap.size, 0, none⟩) hw4).trans q0) hme, t6.grown.cell ((h2.cell (p := ⟨w.heap.size, 1, none⟩) hw4).trans q1) hme, t6.grown.cell ((h2.cell (p := ⟨w.heap.size, 2, none⟩) hw4).trans q2) hme, t6.grown.cell ((h2.cell (p := ⟨w.heap.size, 3, none⟩) hw4).trans q3) hme, t6.grown.cell ((h2.cell (p := ⟨w.heap.size, 4, none⟩) hw4).trans q4) hme⟩
      | go_keep)
    (first
      | (go_at_call 79; refine (last_p _ _ (by omega)).mono ?_; rintro e w' ⟨rfl, rfl⟩)
      | (go_at_call 76; refine (hND _).mono ?_; rintro e w1 ⟨z, rfl, h1, h2, h3, h4, h5, h6⟩; obtain ⟨W6, r6, k6, t6⟩ := STORE w1 z.b h2))
  go_wp2
  go_ret
  exact ⟨by rw [HN.out]; rfl, .inr ⟨HN.out, HFIN.out _ _ z h1 h2 h3 h4 h5 h6 k6 t6⟩⟩
theorem lay_d (b base N : Nat) (F : Pic) (L : List Ent) (x : Ent) (hp : x.path.size < 1152921504606846976) (w : World) (h : TreeD w b base N F L) (hN : N < 4611686018427387904) :
    Calls Tryz.prog 81 #[.pointer (some ⟨b, 0, none⟩), entV x] w (DPost b base N F (laidL L x) (layDN L x) w) := by
  by_cases hw : wrongN x = 0
  · cases hu : F (namesP (parentB x.path)) with
    | none => exact layd_10 b base N F L x hp w h hw hu
    | some u =>
      by_cases hk : u.e.kind = 1
      · cases hold : F (namesP x.path) with
        | none => exact layd_new b base N F L x hp w h hw u hu hk hold hN
        | some o =>
          cases hs : sortB o.e x with
          | false => exact layd_14 b base N F L x hp w h hw u hu hk o hold hs
          | true => exact layd_over b base N F L x hp w h hw u hu hk o hold hs
      · exact layd_13 b base N F L x hp w h hw u hu hk
  · exact layd_wrong b base N F L x hp w h hw
end Go.Proofs.YtgildlfanfbebaaGreatDoor

namespace Go.Proofs.YtgildlfanfbebaaGreatDoor
open Go Go.RowKit Go.Shelf

theorem checkGo_pre : ∀ (r L : List Ent), (checkGo L r).1 = 0 → ∀ (k : Nat) (e : Ent), r[k]? = some e → oneN (L ++ r.take k) e = 0
  | [], L, h, k, e, he => by simp at he
  | a :: r, L, h, k, e, he => by
    rw [checkGo] at h
    by_cases h1 : oneN L a ≠ 0
    · rw [if_pos h1] at h; exact absurd h h1
    · rw [if_neg h1] at h
      cases k with
      | zero => simp at he; subst he; simpa using h1
      | succ k =>
        have := checkGo_pre r (L ++ [a]) h k e (by simpa using he)
        simpa using this
/-- What a tree says of each entry, with those ahead of it. -/
theorem tree_one {t : List Ent} (h : (checkGo [] t).1 = 0) {k : Nat} {e : Ent} (he : t[k]? = some e) : wrongN e = 0 ∧ ooN (lastP (t.take k)) e.path = 0 ∧ putN (t.take k) e = 0 := by
  have := checkGo_pre t [] h k e he
  rw [List.nil_append] at this
  unfold oneN at this
  by_cases h1 : wrongN e ≠ 0
  · rw [if_pos h1] at this; exact absurd this h1
  · rw [if_neg h1] at this
    by_cases h2 : ooN (lastP (t.take k)) e.path ≠ 0
    · rw [if_pos h2] at this; exact absurd this h2
    · rw [if_neg h2] at this
      exact ⟨by simpa using h1, by simpa using h2, this⟩
theorem tree_up {t : List Ent} (h : (checkGo [] t).1 = 0) {k : Nat} {e : Ent} (he : t[k]? = some e) : upN (t.take k) e.path = 0 := by
  have := (tree_one h he).2.2
  unfold putN at this
  by_cases h1 : upN (t.take k) e.path ≠ 0
  · rw [if_pos h1] at this; exact absurd this h1
  · simpa using h1
theorem tree_order {t : List Ent} (h : (checkGo [] t).1 = 0) : ∀ k, k ≤ t.length → (t.take k).Pairwise ltE := by
  intro k
  induction k with
  | zero => intro _; simp
  | succ k ih =>
    intro hk
    obtain ⟨e, he⟩ : ∃ e, t[k]? = some e := ⟨_, List.getElem?_eq_getElem (by omega)⟩
    rw [List.take_add_one, he]
    have hp := ih (by omega)
    refine List.pairwise_append.2 ⟨hp, by simp, fun x hx y hy => ?_⟩
    simp at hy
    subst hy
    exact oo_behind hp (tree_one h he).2.1 x hx
theorem tree_behind {t : List Ent} (h : (checkGo [] t).1 = 0) {k : Nat} {e : Ent} (he : t[k]? = some e) : ∀ x ∈ t.take k, ltE x e :=
  oo_behind (tree_order h k (by have := (List.getElem?_eq_some_iff.1 he).1; omega)) (tree_one h he).2.1
theorem tree_tr {t : List Ent} (h : (checkGo [] t).1 = 0) : TrL t := by
  have ho : t.Pairwise ltE := by have := tree_order h t.length (Nat.le_refl _); rwa [List.take_length] at this
  refine ⟨ho, fun e he => ?_, fun e he => ?_⟩
  · obtain ⟨k, hk⟩ := List.getElem?_of_mem he
    exact (tree_one h hk).1
  · obtain ⟨k, hk⟩ := List.getElem?_of_mem he
    have hu := tree_up h hk
    have hl := (List.getElem?_eq_some_iff.1 hk).1
    rcases (up_iff (tree_order h k (by omega)) e.path).1 hu with h1 | ⟨f, hf, h1, h2⟩
    · exact (up_iff ho e.path).2 (.inl h1)
    · exact (up_iff ho e.path).2 (.inr ⟨f, List.mem_of_mem_take hf, h1, h2⟩)
def rootDE : Ent := ⟨⟨#[]⟩, 1, 0, ⟨#[]⟩, ⟨#[]⟩⟩
theorem treeD_root {w w' : World} {z : Nd} (hz : z.e = rootDE) (h1 : w.heap.size ≤ z.b) (h2 : w'.heap[z.b]? = some (.cells (ncells z) 113)) (h3 : ∀ q, z.m = some q → w.heap.size ≤ q ∧ KidsAt w' Tryz.prog 9 q 0 fun _ => none) (h4 : z.m = none ↔ rootDE.kind ≠ 1) : TreeD w' z.b w.heap.size 0 (rootPic z) [] := by
  obtain ⟨m, hm⟩ : ∃ m, z.m = some m := by
    cases hm : z.m with
    | none => exact absurd rfl (h4.1 hm)
    | some m => exact ⟨m, rfl⟩
  refine ⟨⟨z, m, rfl, rfl, hm⟩, ⟨fun ns x hx => ?_, fun ns x q hx hq => ?_, fun ns x y hx _ => rootPic_snoc z ns y, fun ns y _ => rootPic_snoc z ns y, fun ns ns' x x' hx hx' hne => ?_⟩, fun ns x hx => ?_, says_root hz, by simp⟩
  · obtain ⟨rfl, rfl⟩ := rootPic_some hx
    exact ⟨h1, h2⟩
  · obtain ⟨rfl, rfl⟩ := rootPic_some hx
    rw [rootPic_kids]
    exact h3 q hq
  · obtain ⟨rfl, rfl⟩ := rootPic_some hx
    obtain ⟨rfl, rfl⟩ := rootPic_some hx'
    exact absurd rfl hne
  · obtain ⟨rfl, rfl⟩ := rootPic_some hx
    rw [hz]; exact h4
def GrownD (t : List Ent) (w : World) (e : Ending) (w' : World) : Prop := ∃ b F, e = .returned (.pointer (some ⟨b, 0, none⟩)) ∧ TreeD w' b w.heap.size t.length F t ∧ Below w.heap.size w w'
set_option maxRecDepth 100000 in
set_option maxHeartbeats 4000000 in
theorem grown_d (v : Value) (t : List Ent) (w : World) (hv : EntsAt w v t) (hc : (checkGo [] t).1 = 0) (hl : t.length ≤ 1073741824) :
    Calls Tryz.prog 46 #[v] w (GrownD t w) := by
  have hNR := new_d rootDE w
  have HV : Hid (EntsAt w v t) := hv
  obtain ⟨av, cap, bv, ov, rfl, hav, hcap, hcv⟩ := hv
  have HC : Hid ((checkGo [] t).1 = 0) := hc
  unfold entV rootDE at hNR
  clear hc hcv
  go_enter Tryz.func46, Tryz.ntmps46
  go_wp2_with (go_at_call 76; refine hNR.mono ?_; rintro e w1 ⟨z, rfl, hz, hb1, h1, h2, h3, h4⟩)
  have HT1 : Hid (TreeD w1 z.b w.heap.size 0 (rootPic z) []) := treeD_root hz h1 h2 h3 h4
  have HB1 : Hid (Below w.heap.size w w1) := hb1
  clear h1 h2 h3 h4 hb1 hNR
  go_loopw [10] (fun i wr => ∃ (k : Nat) (F : Pic), i = .int .i64 k ∧ k ≤ t.length ∧ TreeD wr z.b w.heap.size k F (t.take k) ∧ Below w.heap.size w wr) (fun i _ => t.length - (intOf i).toNat)
  case atStart => exact ⟨0, rootPic z, rfl, Nat.zero_le _, HT1.out, HB1.out⟩
  case round =>
    obtain ⟨k, F, rfl, hk, hT, hB⟩ := hrel
    by_cases hlt : k < t.length
    · have hlt' : (k : Int) < (t.length : Int) := by omega
      have hk0 : (0 : Int) ≤ (k : Int) := by omega
      obtain ⟨x, hx⟩ : ∃ x, t[k]? = some x := ⟨_, List.getElem?_eq_getElem hlt⟩
      obtain ⟨hw, _, hput⟩ := tree_one HC.out hx
      have hup := tree_up HC.out hx
      have hbeh := tree_behind HC.out hx
      have hck := wrong_check hw
      have hsp := names_split hck
      have hpp := (check_facts hck).2.1
      have hps := parentB_size x.path
      have hls := lastB_size x.path
      obtain ⟨u, hu, huk⟩ := up_there hT.says hup
      have hold : F (namesP x.path) = none := by
        have h9 := hT.says.find x.path (check_facts hck).1
        rw [put_end hbeh] at h9
        cases hq : F (namesP x.path) with
        | none => rfl
        | some o => rw [hq] at h9; cases h9
      have hlaid : laidL (t.take k) x = t.take (k + 1) := by
        rw [laid_end hbeh, List.take_add_one, hx]; rfl
      obtain ⟨m, hm⟩ : ∃ m, u.m = some m := by
        cases hz : u.m with
        | none => exact absurd huk ((hT.kinds _ u hu).1 hz)
        | some m => exact ⟨m, rfl⟩
      obtain ⟨a2, cap2, b2, o2, e2, ha2, _, hc2⟩ := HV.out.below hB
      cases e2
      obtain rfl := ha2 (fun e => by rw [e] at hlt; simp at hlt)
      obtain ⟨d0, d1, d2, d3, d4⟩ := hc2 k x hx
      obtain ⟨rt, rm, hrt, hrb, hrm⟩ := hT.root
      have hAP := fun W (hb : Below wr.heap.size wr W) => at_d w.heap.size k F rt (parentB x.path) W (by omega) hrt (hT.tree.below hb)
      rw [hu, hrb] at hAP
      replace hAP : ∀ W, Below wr.heap.size wr W → Calls Tryz.prog 77 #[.pointer (some ⟨z.b, 0, none⟩), .string (parentB x.path)] W fun e w' => e = .returned (.pointer (some ⟨u.b, 0, none⟩)) ∧ Below W.heap.size W w' := hAP
      have HT : Hid (TreeD wr z.b w.heap.size k F (t.take k)) := hT
      have HB : Hid (Below w.heap.size w wr) := hB
      have HU : Hid (F (namesP (parentB x.path)) = some u ∧ F (namesP x.path) = none ∧ namesP (parentB x.path) ++ [un (lastB x.path)] = namesP x.path ∧ checkN x.path = 0 ∧ wrongN x = 0 ∧ upN (t.take k) x.path = 0 ∧ laidL (t.take k) x = t.take (k + 1)) := ⟨hu, hold, hsp, hck, hw, hup, hlaid⟩
      have HM : Hid (u.m = some m) := hm
      clear hT hB hc2 ha2 hput hbeh hck hsp hw hup hold hlaid hu huk hm hrt hrb hrm hav hx
      go_upto_region 5 with fail
      have hbA : Below wr.heap.size wr (wr.alloc (.cells #[.string x.path, .int .i64 x.kind, .int .i64 x.mode, .string x.data, .string x.link] 52)) := (Below.refl _ _).alloc (Nat.le_refl _) _
      have hEB : (wr.alloc (.cells #[.string x.path, .int .i64 x.kind, .int .i64 x.mode, .string x.data, .string x.link] 52)).heap[wr.heap.size]? = some (.cells (entA x) 52) := heap_alloc_new wr _
      have hsA : (wr.alloc (.cells #[.string x.path, .int .i64 x.kind, .int .i64 x.mode, .string x.data, .string x.link] 52)).heap.size = wr.heap.size + 1 := by simp
      clear d0 d1 d2 d3 d4
      generalize (wr.alloc (.cells #[.string x.path, .int .i64 x.kind, .int .i64 x.mode, .string x.data, .string x.link] 52)) = V at *
      have hT4 := HT.out.below hbA
      have p5 : V.cell? ⟨u.b, 5, none⟩ = some (.map (some m)) := by
        have h5 : V.cell? ⟨u.b, 5, none⟩ = some (.map u.m) := node_cell (hT4.tree.node _ u HU.out.1).2 rfl
        rw [h5, HM.out]
      have q0 : V.cell? ⟨wr.heap.size, 0, none⟩ = some (.string x.path) := by unfold World.cell?; simp only [hEB]; rfl
      have q1 : V.cell? ⟨wr.heap.size, 1, none⟩ = some (.int .i64 x.kind) := by unfold World.cell?; simp only [hEB]; rfl
      have q2 : V.cell? ⟨wr.heap.size, 2, none⟩ = some (.int .i64 x.mode) := by unfold World.cell?; simp only [hEB]; rfl
      have q3 : V.cell? ⟨wr.heap.size, 3, none⟩ = some (.string x.data) := by unfold World.cell?; simp only [hEB]; rfl
      have q4 : V.cell? ⟨wr.heap.size, 4, none⟩ = some (.string x.link) := by unfold World.cell?; simp only [hEB]; rfl
      have hu4 : u.b < V.drew.heap.size := hT4.tree.lt HU.out.1
      have hw4 : wr.heap.size < V.drew.heap.size := (Array.getElem?_eq_some_iff.1 hEB).1
      have hmu : some u.b ≠ some m := by simpa using hT4.tree.other HU.out.1 HU.out.1 HM.out
      have hme : some wr.heap.size ≠ some m := by
        intro e
        obtain ⟨_, ⟨es, clock, hq, _⟩, _⟩ := (hT4.tree.kids _ u m HU.out.1 HM.out).2
        rw [← Option.some.inj e, hEB] at hq
        cases hq
      have STORE : ∀ (w1 : World) (b : Nat), Below V.drew.heap.size V.drew w1 → ∃ W6, (Instr.mapUpdate 111 (.map (some m)) (.string (lastB x.path)) (.pointer (some ⟨b, 0, none⟩))).run Tryz.prog w1 = .ok () W6 ∧ KidsAt W6 Tryz.prog 9 m (k + 1) (setKid (kidsOf F (namesP (parentB x.path))) (un (lastB x.path)) (some b)) ∧ w1.mapTurned W6 m := fun w1 b hb => by
        exact ((hT4.tree.drewN 1).below hb |>.kids _ u m HU.out.1 HM.out).2.store Tryz.underlying9 Tryz.underlying111 (Nat.lt_of_lt_of_le (by omega : k < 1073741824) (by decide)) (Nat.le_trans (by omega : _ ≤ 1073741824) (by decide)) b
      have HFIN : Hid (∀ (w2 w3 W6 : World) (y : Nd), y.e = x → Below V.drew.heap.size V.drew w2 → Below w2.heap.size w2 w3 → w2.heap.size ≤ y.b → w3.heap[y.b]? = some (.cells (ncells y) 113) → (∀ p, y.m = some p → w2.heap.size ≤ p ∧ KidsAt w3 Tryz.prog 9 p 0 (fun _ => none)) → (y.m = none ↔ x.kind ≠ 1) →
          KidsAt W6 Tryz.prog 9 m (k + 1) (setKid (kidsOf F (namesP (parentB x.path))) (un (lastB x.path)) (some y.b)) → w3.mapTurned W6 m →
          ∃ F', TreeD W6 z.b w.heap.size (k + 1) F' (t.take (k + 1)) ∧ Below w.heap.size w W6) := by
        intro w2 w3 W6 y h1 h2 h3 h4 h5 h6 h7 h8 h9
        have hTd := (hT4.tree.drewN 1).below h2
        have hs2 := h2.size
        have hbV : w.heap.size ≤ w2.heap.size := by
          have e1 := HB.out.size
          have e2 : V.heap.size ≤ w2.heap.size := h2.size
          omega
        have hT6 := hTd.grown hbV h3 HU.out.1 HM.out (by rw [HU.out.2.2.1]; exact HU.out.2.1) h4 h5 h6 h8 h9
        rw [HU.out.2.2.1] at hT6
        obtain ⟨r2, m2, hr1, hr2, hr3⟩ := hT4.root
        have hne : ([] : List (List UInt8)) ≠ namesP x.path := fun e => names_ne (check_facts HU.out.2.2.2.1).1 e.symm
        have hB3 : Below w.heap.size w w3 := below_join (below_join (below_join HB.out hbA |> fun h => below_drewN h 1) h2) h3
        refine ⟨setPic F (namesP x.path) (some y), ⟨⟨r2, m2, by rw [setPic_other _ _ _ hne]; exact hr1, hr2, hr3⟩, hT6, fun ns v hv => ?_, by rw [← HU.out.2.2.2.2.2.2]; exact hT4.says.laid HU.out.2.2.2.1 HU.out.2.2.2.2.2.1 h1, fun e he => ?_⟩, ?_⟩
        · by_cases e : ns = namesP x.path
          · subst e
            rw [setPic_same] at hv; cases hv
            rw [h1]; exact h7
          · rw [setPic_other _ _ _ e] at hv
            exact hT4.kinds ns v hv
        · rw [← HU.out.2.2.2.2.2.2] at he
          rcases laid_mem.1 he with rfl | ⟨h10, _⟩
          · exact HU.out.2.2.2.2.1
          · exact hT4.right e h10
        · exact hB3.trans (grown_below h9.grown (hT4.tree.kids _ u m HU.out.1 HM.out).1 hB3.size)
      have hND := fun W => new_d x W
      unfold entV at hND
      have hbVd : Hid (Below wr.heap.size wr V.drew) := below_drewN hbA 1
      clear hT4 hEB hbA
      go_region_held3 (fun W => W.cell? ⟨u.b, 5, none⟩ = some (.map (some m)) ∧ W.cell? ⟨wr.heap.size, 0, none⟩ = some (.string x.path) ∧ W.cell? ⟨wr.heap.size, 1, none⟩ = some (.int .i64 x.kind) ∧ W.cell? ⟨wr.heap.size, 2, none⟩ = some (.int .i64 x.mode) ∧ W.cell? ⟨wr.heap.size, 3, none⟩ = some (.string x.data) ∧ W.cell? ⟨wr.heap.size, 4, none⟩ = some (.string x.link))
        (first
          | exact ⟨p5, q0, q1, q2, q3, q4⟩
          | exact ⟨(h2.cell (p := ⟨u.b, 5, none⟩) hu4).trans p5, (h2.cell (p := ⟨wr.heap.size, 0, none⟩) hw4).trans q0, (h2.cell (p := ⟨wr.heap.size, 1, none⟩) hw4).trans q1, (h2.cell (p := ⟨wr.heap.size, 2, none⟩) hw4).trans q2, (h2.cell (p := ⟨wr.heap.size, 3, none⟩) hw4).trans q3, (h2.cell (p := ⟨wr.heap.size, 4, none⟩) hw4).trans q4⟩
          | exact ⟨(h3.cell (p := ⟨u.b, 5, none⟩) (Nat.lt_of_lt_of_le hu4 h2.size)).trans ((h2.cell (p := ⟨u.b, 5, none⟩) hu4).trans p5), (h3.cell (p := ⟨wr.heap.size, 0, none⟩) (Nat.lt_of_lt_of_le hw4 h2.size)).trans ((h2.cell (p := ⟨wr.heap.size, 0, none⟩) hw4).trans q0), (h3.cell (p := ⟨wr.heap.size, 1, none⟩) (Nat.lt_of_lt_of_le hw4 h2.size)).trans ((h2.cell (p := ⟨wr.heap.size, 1, none⟩) hw4).trans q1), (h3.cell (p := ⟨wr.heap.size, 2, none⟩) (Nat.lt_of_lt_of_le hw4 h2.size)).trans ((h2.cell (p := ⟨wr.heap.size, 2, none⟩) hw4).trans q2), (h3.cell (p := ⟨wr.heap.size, 3, none⟩) (Nat.lt_of_lt_of_le hw4 h2.size)).trans ((h2.cell (p := ⟨wr.heap.size, 3, none⟩) hw4).trans q3), (h3.cell (p := ⟨wr.heap.size, 4, none⟩) (Nat.lt_of_lt_of_le hw4 h2.size)).trans ((h2.cell (p := ⟨wr.heap.size, 4, none⟩) hw4).trans q4)⟩
          | exact ⟨t6.grown.cell ((h3.cell (p := ⟨u.b, 5, none⟩) (Nat.lt_of_lt_of_le hu4 h2.size)).trans ((h2.cell (p := ⟨u.b, 5, none⟩) hu4).trans p5)) hmu, t6.grown.cell ((h3.cell (p := ⟨wr.heap.size, 0, none⟩) (Nat.lt_of_lt_of_le hw4 h2.size)).trans ((h2.cell (p := ⟨wr.heap.size, 0, none⟩) hw4).trans q0)) hme, t6.grown.cell ((h3.cell (p := ⟨wr.heap.size, 1, none⟩) (Nat.lt_of_lt_of_le hw4 h2.size)).trans ((h2.cell (p := ⟨wr.heap.size, 1, none⟩) hw4).trans q1)) hme, t6.grown.cell ((h3.cell (p := ⟨wr.heap.size, 2, none⟩) (Nat.lt_of_lt_of_le hw4 h2.size)).trans ((h2.cell (p := ⟨wr.heap.size, 2, none⟩) hw4).trans q2)) hme, t6.grown.cell ((h3.cell (p := ⟨wr.heap.size, 3, none⟩) (Nat.lt_of_lt_of_le hw4 h2.size)).trans ((h2.cell (p := ⟨wr.heap.size, 3, none⟩) hw4).trans q3)) hme, t6.grown.cell ((h3.cell (p := ⟨wr.heap.size, 4, none⟩) (Nat.lt_of_lt_of_le hw4 h2.size)).trans ((h2.cell (p := ⟨wr.heap.size, 4, none⟩) hw4).trans q4)) hme⟩
          | go_keep)
        (first
          | (go_at_call 78; refine (parent_p _ _ (by omega)).mono ?_; rintro e w' ⟨rfl, hw9⟩; obtain rfl := hw9.symm)
          | (go_at_call 79; refine (last_p _ _ (by omega)).mono ?_; rintro e w' ⟨rfl, hw9⟩; obtain rfl := hw9.symm)
          | (go_at_call 77; refine (hAP _ hbVd.out).mono ?_; rintro e w2 ⟨rfl, h2⟩)
          | (go_at_call 76; refine (hND w2).mono ?_; rintro e w3 ⟨y, rfl, h1, h3, h4, h5, h6, h7⟩; obtain ⟨W6, r6, k6, t6⟩ := STORE w3 y.b (below_join h2 h3)))
      go_wp2
      go_roundw
      case rel =>
        obtain ⟨F', hT', hB'⟩ := HFIN.out _ _ _ y h1 h2 h3 h4 h5 h6 h7 k6 t6
        exact ⟨k + 1, F', by go_num, by omega, hT', hB'⟩
      case measure => simp [intOf]; omega
    · have hge : ¬ (k : Int) < (t.length : Int) := by omega
      have HALL : Hid (t.take k = t ∧ k = t.length) := ⟨List.take_of_length_le (by omega), by omega⟩
      have HT : Hid (TreeD wr z.b w.heap.size k F (t.take k) ∧ Below w.heap.size w wr) := ⟨hT, hB⟩
      clear hT hB
      go_wp2
      go_ret
      refine ⟨z.b, F, rfl, ?_, HT.out.2⟩
      have := HT.out.1
      rw [HALL.out.1, HALL.out.2] at this
      exact this
end Go.Proofs.YtgildlfanfbebaaGreatDoor

namespace Go.Proofs.YtgildlfanfbebaaGreatDoor
open Go Go.RowKit Go.Shelf

theorem info_chg : (Tryz.prog.info? 54).map (fun i => (i.zero, i.size, i.bytes)) = some (some (.agg #[.string ⟨#[]⟩, .bool false, .string ⟨#[]⟩, .int .i64 0, .int .i64 0, .string ⟨#[]⟩, .string ⟨#[]⟩]), 7, 88) := by kernel_rfl
def ccs (c : Chg) : List Value := [.string c.path, .bool c.gone, .string c.e.path, .int .i64 c.e.kind, .int .i64 c.e.mode, .string c.e.data, .string c.e.link]
def ccells (l : List Chg) : List Value := l.flatMap ccs
def chgV (c : Chg) : Value := .agg #[.string c.path, .bool c.gone, .string c.e.path, .int .i64 c.e.kind, .int .i64 c.e.mode, .string c.e.data, .string c.e.link]
theorem ccells_cons (c : Chg) (l : List Chg) : ccells (c :: l) = ccs c ++ ccells l := rfl
theorem ccells_append (a b : List Chg) : ccells (a ++ b) = ccells a ++ ccells b := by simp [ccells]
theorem ccells_get : ∀ (es : List Chg) (k : Nat) (e : Chg), es[k]? = some e → ∀ j v, (ccs e)[j]? = some v → (ccells es)[k * 7 + j]? = some v
  | [], k, e, h, _, _, _ => by simp at h
  | q :: es, 0, e, h, j, v, hj => by
    have hq : q = e := by simpa using h
    subst hq
    have hl : j < (ccs q).length := (List.getElem?_eq_some_iff.1 hj).1
    rw [ccells_cons, Nat.zero_mul, Nat.zero_add, List.getElem?_append_left hl]; exact hj
  | q :: es, k + 1, e, h, j, v, hj => by
    have ih := ccells_get es k e (by simpa using h) j v hj
    rw [ccells_cons, List.getElem?_append_right (by simp [ccs]; omega)]
    rw [← ih]; congr 1; simp [ccs]; omega
structure ChgC (W : World) (b q : Nat) (c : Chg) : Prop where
  c0 : W.cell? ⟨b, q, none⟩ = some (.string c.path)
  c1 : W.cell? ⟨b, q + 1, none⟩ = some (.bool c.gone)
  c2 : W.cell? ⟨b, q + 2, none⟩ = some (.string c.e.path)
  c3 : W.cell? ⟨b, q + 3, none⟩ = some (.int .i64 c.e.kind)
  c4 : W.cell? ⟨b, q + 4, none⟩ = some (.int .i64 c.e.mode)
  c5 : W.cell? ⟨b, q + 5, none⟩ = some (.string c.e.data)
  c6 : W.cell? ⟨b, q + 6, none⟩ = some (.string c.e.link)
theorem ChgC.below {W W2 : World} {b q : Nat} {c : Chg} (h : ChgC W b q c) (hb : Below W.heap.size W W2) : ChgC W2 b q c := by
  have hl := World.block_lt_of_cell? W _ h.c0
  exact ⟨(hb.cell (p := ⟨b, q, none⟩) hl).trans h.c0, (hb.cell (p := ⟨b, q + 1, none⟩) hl).trans h.c1, (hb.cell (p := ⟨b, q + 2, none⟩) hl).trans h.c2, (hb.cell (p := ⟨b, q + 3, none⟩) hl).trans h.c3, (hb.cell (p := ⟨b, q + 4, none⟩) hl).trans h.c4, (hb.cell (p := ⟨b, q + 5, none⟩) hl).trans h.c5, (hb.cell (p := ⟨b, q + 6, none⟩) hl).trans h.c6⟩
/-- A row of changes. -/
def ChgsAt (W : World) (v : Value) (l : List Chg) : Prop :=
  ∃ (a : Option Addr) (cap b o : Nat), v = .slice a l.length cap ∧ (l ≠ [] → a = some ⟨b, o, none⟩) ∧ l.length ≤ cap ∧ ∀ i c, l[i]? = some c → ChgC W b (o + i * 7) c
theorem ChgsAt.below {W W2 : World} {v : Value} {l : List Chg} (h : ChgsAt W v l) (hb : Below W.heap.size W W2) : ChgsAt W2 v l := by
  obtain ⟨a, cap, b, o, h1, h2, h3, h4⟩ := h
  exact ⟨a, cap, b, o, h1, h2, h3, fun i e he => (h4 i e he).below hb⟩
theorem chgs_of_owns {W : World} {base : Nat} {v : Value} {l : List Chg} (h : W.ownsRow base 54 7 v l.length (ccells l)) : ChgsAt W v l := by
  rcases h.2 with ⟨rfl, h0⟩ | ⟨g, cap, cur, rfl, hg, hgb, hcap, _⟩
  · have : l = [] := List.eq_nil_of_length_eq_zero h0
    subst this
    exact ⟨none, 0, 0, 0, rfl, fun h => absurd rfl h, Nat.le_refl _, fun i e he => by simp at he⟩
  · refine ⟨some ⟨g, 0, none⟩, cap, g, 0, rfl, fun _ => rfl, hcap, fun i e he => ?_⟩
    have hi := (List.getElem?_eq_some_iff.1 he).1
    have hc : ∀ j v, (ccs e)[j]? = some v → W.cell? ⟨g, 0 + i * 7 + j, none⟩ = some v := fun j v hj => by
      have hj2 : j < 7 := (List.getElem?_eq_some_iff.1 hj).1
      rw [Nat.zero_add, h.cellAt (i * 7 + j) (by omega)]
      exact ccells_get l i e he j v hj
    exact ⟨hc 0 _ rfl, hc 1 _ rfl, hc 2 _ rfl, hc 3 _ rfl, hc 4 _ rfl, hc 5 _ rfl, hc 6 _ rfl⟩
theorem chg_new (W : World) (t : TypeId) (c : Chg) : ChgC (W.alloc (.cells #[.string c.path, .bool c.gone, .string c.e.path, .int .i64 c.e.kind, .int .i64 c.e.mode, .string c.e.data, .string c.e.link] t)) W.heap.size 0 c := by
  have h : ∀ (j : Nat) (v : Value), (#[.string c.path, .bool c.gone, .string c.e.path, .int .i64 c.e.kind, .int .i64 c.e.mode, .string c.e.data, .string c.e.link] : Array Value)[j]? = some v → (W.alloc (.cells #[.string c.path, .bool c.gone, .string c.e.path, .int .i64 c.e.kind, .int .i64 c.e.mode, .string c.e.data, .string c.e.link] t)).cell? ⟨W.heap.size, j, none⟩ = some v := fun j v hv => by
    unfold World.cell?
    rw [World.alloc_heap_new]
    exact hv
  exact ⟨h 0 _ rfl, h 1 _ rfl, h 2 _ rfl, h 3 _ rfl, h 4 _ rfl, h 5 _ rfl, h 6 _ rfl⟩
theorem chg_cells {W : World} {b : Nat} {c : Chg} (h : ChgC W b 0 c) : ∀ j u, (ccs c)[j]? = some u → W.cell? ((⟨b, 0, none⟩ : Addr).add j) = some u := by
  intro j u hj
  rw [Addr.add_mid, Nat.zero_add]
  rcases j with _ | _ | _ | _ | _ | _ | _ | j
  · cases hj; exact h.c0
  · cases hj; exact h.c1
  · cases hj; exact h.c2
  · cases hj; exact h.c3
  · cases hj; exact h.c4
  · cases hj; exact h.c5
  · cases hj; exact h.c6
  · simp [ccs] at hj
theorem chg_one (c : Chg) : ∀ u ∈ ccs c, u.oneCell' = true := by
  intro u hu
  simp [ccs] at hu
  rcases hu with rfl | rfl | rfl | rfl | rfl | rfl | rfl <;> rfl

theorem doN_gone {L : List Ent} {c : Chg} (h : c.gone = true) : doN L c = takeN L c.path ∧ doL L c = goneL L (namesP c.path) := by
  constructor
  · unfold doN; rw [if_pos h]; rfl
  · unfold doL; rw [if_pos h]
theorem doN_arg {L : List Ent} {c : Chg} (h : c.gone = false) (hp : c.e.path ≠ c.path) : doN L c = 1 := by
  unfold doN; simp [h, hp]
theorem doN_laid {L : List Ent} {c : Chg} (h : c.gone = false) (hp : c.e.path = c.path) : doN L c = layDN L c.e ∧ doL L c = laidL L c.e := by
  constructor
  · unfold doN; rw [if_neg (by simp [h]), if_neg (by simpa using hp)]; rfl
  · unfold doL; rw [if_neg (by simp [h])]
set_option maxRecDepth 100000 in
set_option maxHeartbeats 4000000 in
theorem do_d (b base N : Nat) (F : Pic) (L : List Ent) (c : Chg) (hp : c.path.size < 1152921504606846976) (hp2 : c.e.path.size < 1152921504606846976) (w : World) (h : TreeD w b base N F L) (hN : N < 4611686018427387904) :
    Calls Tryz.prog 47 #[.pointer (some ⟨b, 0, none⟩), chgV c] w (DPost b base N F (doL L c) (doN L c) w) := by
  have hbA : Below w.heap.size w (w.alloc (.cells #[.string c.path, .bool c.gone, .string c.e.path, .int .i64 c.e.kind, .int .i64 c.e.mode, .string c.e.data, .string c.e.link] 54)) := (Below.refl _ _).alloc (Nat.le_refl _) _
  have hT := fun W (hb : Below w.heap.size w W) => take_d b base N F L c.path (by omega) W (h.below hb)
  have hL := fun W (hb : Below w.heap.size w W) => lay_d b base N F L c.e hp2 W (h.below hb) hN
  have fin : ∀ (W W2 : World) (L' : List Ent) (n : Int) (e : Ending), Below w.heap.size w W → DPost b base N F L' n W e W2 → DPost b base N F L' n w e W2 := by
    rintro W W2 L' n e hb ⟨rfl, hh⟩
    refine ⟨rfl, ?_⟩
    rcases hh with ⟨h1, h2⟩ | ⟨h1, F', h2, h3⟩
    · exact .inl ⟨h1, below_join hb h2⟩
    · exact .inr ⟨h1, F', h2, (Rnd.of_below hb).trans h3⟩
  unfold chgV
  cases hg : c.gone with
  | true =>
    obtain ⟨h1, h2⟩ := doN_gone (L := L) hg
    rw [h1, h2]
    rw [hg] at hbA
    clear h1 h2 hL
    go_enter Tryz.func47, Tryz.ntmps47
    go_wp2_with (go_at_call 80; refine (hT _ hbA).mono ?_; intro e w2 hh; obtain ⟨rfl, hh2⟩ := hh)
    go_ret
    exact fin _ _ _ _ _ hbA ⟨rfl, hh2⟩
  | false =>
    rw [hg] at hbA
    by_cases hq : c.e.path = c.path
    · obtain ⟨h1, h2⟩ := doN_laid (L := L) hg hq
      rw [h1, h2]
      have hq2 : (c.e.path.toList == c.path.toList) = true := by rw [hq]; simp
      clear h1 h2 hT hq
      unfold entV at hL
      go_enter Tryz.func47, Tryz.ntmps47
      go_wp2_with (go_at_call 81; refine (hL _ hbA).mono ?_; intro e w2 hh; obtain ⟨rfl, hh2⟩ := hh)
      go_ret
      exact fin _ _ _ _ _ hbA ⟨rfl, hh2⟩
    · have h1 := doN_arg (L := L) hg hq
      have hq2 : (c.e.path.toList == c.path.toList) = false := by
        cases h9 : (c.e.path.toList == c.path.toList) with
        | false => rfl
        | true => simp only [beq_iff_eq, toList_un] at h9; exact absurd (un_inj h9) hq
      rw [h1]
      clear h1 hT hL hq
      go_enter Tryz.func47, Tryz.ntmps47
      go_wp2
      go_ret
      exact ⟨rfl, .inl ⟨by decide, hbA⟩⟩
def overB (L : List Ent) : Bool := decide (4096 < L.length) || decide (16777216 < bytesL L)
theorem bytes_take {L : List Ent} {k : Nat} {e : Ent} (h : L[k]? = some e) : bytesL (L.take (k + 1)) = bytesL (L.take k) + e.data.size := by
  unfold bytesL
  rw [List.take_add_one, h]; simp
theorem bytes_le (L : List Ent) (D : Nat) (h : ∀ e ∈ L, e.data.size ≤ D) : bytesL L ≤ L.length * D := by
  induction L with
  | nil => simp [bytesL]
  | cons a L ih =>
    have h1 := ih (fun e he => h e (by simp [he]))
    have h2 := h a (by simp)
    unfold bytesL at h1 ⊢
    simp only [List.map_cons, List.sum_cons, List.length_cons]
    rw [Nat.add_mul]; omega
set_option maxRecDepth 100000 in
set_option maxHeartbeats 4000000 in
theorem tooMuch_d (v : Value) (L : List Ent) (w : World) (hv : EntsAt w v L) (hl : L.length ≤ 2000000000000) (hd : ∀ e ∈ L, e.data.size ≤ 1048576) :
    Calls Tryz.prog 50 #[v] w fun e w' => e = .returned (.bool (overB L)) ∧ Below w.heap.size w w' := by
  have HV : Hid (EntsAt w v L) := hv
  obtain ⟨av, cap, bv, ov, rfl, hav, hcap, hcv⟩ := hv
  have hsum : ∀ k, bytesL (L.take k) ≤ 2097152000000000000 := fun k => by
    have h1 := bytes_le (L.take k) 1048576 (fun e he => hd e (List.mem_of_mem_take he))
    have h2 : (L.take k).length ≤ 2000000000000 := by rw [List.length_take]; omega
    have h3 : (L.take k).length * 1048576 ≤ 2000000000000 * 1048576 := Nat.mul_le_mul_right _ h2
    omega
  have HSUM : Hid (∀ k, bytesL (L.take k) ≤ 2097152000000000000) := hsum
  have HD : Hid (∀ e ∈ L, e.data.size ≤ 1048576) := hd
  clear hsum hcv hd
  go_enter Tryz.func50, Tryz.ntmps50
  go_wp2
  go_loopw [8, 3] (fun i s wr => ∃ k : Nat, i = .int .i64 k ∧ s = .int .i64 (bytesL (L.take k) : Nat) ∧ k ≤ L.length ∧ Below w.heap.size w wr) (fun i _ _ => L.length - (intOf i).toNat)
  case atStart => exact ⟨0, rfl, by simp [bytesL], Nat.zero_le _, Below.refl _ _⟩
  case round =>
    obtain ⟨k, rfl, rfl, hk, hB⟩ := hrel
    by_cases hlt : k < L.length
    · have hlt' : (k : Int) < (L.length : Int) := by omega
      have hk0 : (0 : Int) ≤ (k : Int) := by omega
      obtain ⟨x, hx⟩ : ∃ x, L[k]? = some x := ⟨_, List.getElem?_eq_getElem hlt⟩
      obtain ⟨a2, cap2, b2, o2, e2, ha2, _, hc2⟩ := HV.out.below hB
      cases e2
      obtain rfl := ha2 (fun e => by rw [e] at hlt; simp at hlt)
      obtain ⟨d0, d1, d2, d3, d4⟩ := hc2 k x hx
      have hbt := bytes_take hx
      have HBT : Hid ((bytesL (L.take (k + 1)) : Int) = (bytesL (L.take k) : Int) + (x.data.size : Int)) := by unfold Hid; omega
      have hb1 : (bytesL (L.take k) : Int) ≤ 2097152000000000000 := by have := HSUM.out k; omega
      have hb2 : (x.data.size : Int) ≤ 1048576 := by have := HD.out x (List.mem_of_getElem? hx); omega
      have hb3 : (0 : Int) ≤ (bytesL (L.take k) : Int) := by omega
      have HB : Hid (Below w.heap.size w wr) := hB
      clear hc2 ha2 hav hbt hx hB
      generalize (bytesL (L.take k) : Int) = s0 at *
      go_wp2
      go_roundw
      case rel => exact ⟨k + 1, by go_num, by rw [HBT.out], by omega, HB.out.alloc HB.out.size _⟩
      case measure => simp [intOf]; omega
    · have hge : ¬ (k : Int) < (L.length : Int) := by omega
      have hall : L.take k = L := List.take_of_length_le (by omega)
      rw [hall]
      have HB : Hid (Below w.heap.size w wr) := hB
      clear hB hall
      by_cases h1 : 4096 < L.length
      · have HO : Hid (overB L = true) := by unfold Hid overB; simp [h1]
        have h1' : decide ((4096 : Int) < (L.length : Int)) = true := by simp; omega
        go_wp2
        go_ret
        exact ⟨by rw [HO.out]; rfl, HB.out⟩
      · have h1' : decide ((4096 : Int) < (L.length : Int)) = false := by simp; omega
        have HO : Hid (overB L = decide ((16777216 : Int) < (bytesL L : Int))) := by
          unfold Hid overB
          rw [show decide (4096 < L.length) = false by simpa using h1, Bool.false_or]
          congr 1
          simp; omega
        go_wp2
        go_ret
        exact ⟨by rw [HO.out]; rfl, HB.out⟩
def fltL (no ln at' : Int) : Value := .iface 94 (.agg #[.int .i64 no, .int .i64 ln, .int .i64 at'])
set_option maxRecDepth 100000 in
theorem atChange_i (n k : Int) (w : World) (hg : ErrType w) : Calls Tryz.prog 48 #[.iface 77 (.int .i64 n), .int .i64 k] w fun e w' => e = .returned (fltL n 1 k) ∧ Below w.heap.size w w' := by
  have hb1 : Below w.heap.size w (w.alloc (.cells #[.int .i64 0] 77)) := (Below.refl _ _).alloc (Nat.le_refl _) _
  have hbx : Boxed (w.alloc (.cells #[.int .i64 0] 77)) w.heap.size 77 (.int .i64 0) := Boxed.new w _ _
  have hA := as_hit2 n w.heap.size _ (hg.below hb1) hbx
  go_enter Tryz.func48, Tryz.ntmps48
  go_wp2_with (go_at_call 64; refine hA.mono ?_; rintro e w2 ⟨rfl, hb2, h2⟩; have hc2 := hb2.cell)
  go_ret
  exact ⟨rfl, hb1.trans h2⟩
end Go.Proofs.YtgildlfanfbebaaGreatDoor
