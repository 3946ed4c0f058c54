/- The document's walk: Step, where a link is followed. -/
import Derived.Test.YtcefgnjgcnboeaaGreatDoorRefH
import Derived.Test.YtcefgnjgcnboeaaGreatDoorStepX
import Derived.Deep.RegionHeld3

namespace Go.Proofs.YtcefgnjgcnboeaaGreatDoor
open Go Go.RowKit

/-- What Step comes to. -/
def DocPost (g : Nat) (w : World) (tv : Value) (trv : Value) (m : Mn) (st : St) (c : ByteArray) (rest : List ByteArray) (e : Ending) (w' : World) : Prop :=
  Below w.heap.size w w' ∧ ∃ (hh : ByteArray) (lv' : Value) (ho : Nat) (dn : Bool) (an : ByteArray), e = .returned (.agg (wk8 tv hh lv' ho trv dn an (stepN m st c rest).1)) ∧ (∃ a n c, lv' = .slice a n c) ∧
    ((stepN m st c rest).1 = 0 → (dn = false ∧ an = ⟨#[]⟩ ∧ hh = (stepN m st c rest).2.here ∧ ho = (stepN m st c rest).2.hops ∧ LeftB (fun k => k = g ∨ w.heap.size ≤ k) w' lv' (stepN m st c rest).2.left) ∨ (dn = true ∧ an = (stepN m st c rest).2.here ∧ (stepN m st c rest).2.left = []))
variable {a1 a3 : Option Addr} {n1 n3 c1 c3 : Nat}
/-- The tail of a row of pieces: where it lies. -/
def tailA (g o cap : Nat) : Option Addr := if cap = 1 then some ⟨g, o, none⟩ else some ⟨g, o + 1, none⟩
theorem left_tail {W : World} {g o cap : Nat} (n : Nat) {c : ByteArray} {rest : List ByteArray} (hcap : rest.length + 1 ≤ cap) (hcm : cap ≤ 9223372036854775807) (hc : ∀ i x, (c :: rest)[i]? = some x → W.cell? ⟨g, o + i, none⟩ = some (.string x)) : LeftB (fun k => k = g ∨ n ≤ k) W (.slice (tailA g o cap) rest.length (cap - 1)) rest :=
  ⟨_, cap - 1, g, o + 1, rfl, fun hr => ⟨by
    unfold tailA
    rw [if_neg]
    intro h1
    have := List.length_pos_iff.2 hr
    omega, .inl rfl⟩, by omega, by omega, fun i x hx => by
    have := hc (i + 1) x (by simpa using hx)
    rw [show o + 1 + i = o + (i + 1) by omega]; exact this⟩
theorem slice_tail (g o cap n : Nat) (hcap : n + 1 ≤ cap) (hcm : cap ≤ 9223372036854775807) : ∀ W, (Instr.slice 38 (.slice (some ⟨g, o, none⟩) (n + 1) cap) (some (.int .i64 1)) none none).run Tryz.prog W = .ok (.slice (tailA g o cap) n (cap - 1)) W := by
  intro W
  have ht : Tryz.prog.underlying 38 = some (.slice (Tryz.prog.elem 38)) := by kernel_rfl
  have he : Tryz.prog.elem 38 = 9 := by kernel_rfl
  have h := run_slice_l (P := Tryz.prog) W 38 (some ⟨g, o, none⟩) (n + 1) cap ht .i64 1 (by omega) (by omega)
  rw [he] at h
  rw [h, show (sizeOf 9).run Tryz.prog W = .ok 1 W from Tryz.sizeOf9 W]
  unfold tailA sliced
  simp only [Result.andThen]
  by_cases h1 : cap = 1
  · subst h1; simp
  · rw [if_neg (by simpa using h1), if_neg h1]
    simp [Addr.add]
set_option maxRecDepth 100000 in
set_option maxHeartbeats 4000000 in
theorem docstep_dot (srt : Int) (stay : Bool) (g o cap : Nat) (st : St) (rest : List ByteArray) (w : World) (hcap : rest.length + 1 ≤ cap) (hcm : cap ≤ 9223372036854775807) (hc : ∀ i x, (dotB :: rest)[i]? = some x → w.cell? ⟨g, o + i, none⟩ = some (.string x))  :
    Calls Tryz.prog 52 #[.agg (wk8 (.slice a1 n1 c1) st.here (.slice (some ⟨g, o, none⟩) (rest.length + 1) cap) st.hops (.slice a3 n3 c3) false ⟨#[]⟩ 0), .int .i64 srt] w (DocPost g w (.slice a1 n1 c1) (.slice a3 n3 c3) ⟨0, false, stay⟩ st dotB rest) := by
  have k0 : w.cell? ⟨g, o, none⟩ = some (.string dotB) := hc 0 _ rfl
  have hlt := left_tail w.heap.size hcap hcm hc
  have hT := slice_tail g o cap rest.length hcap hcm
  have HST : Hid (stepN ⟨0, false, stay⟩ st dotB rest = (0, { st with left := rest })) := by unfold Hid stepN; rw [if_pos rfl]
  unfold dotB at k0
  have hgl := World.block_lt_of_cell? w _ k0
  have HLT : Hid (LeftB (fun k => k = g ∨ w.heap.size ≤ k) w (.slice (tailA g o cap) rest.length (cap - 1)) rest) := hlt
  clear hc hlt
  go_enter Tryz.func52, Tryz.ntmps52
  go_wp2
  refine bodyPost_ret (results_cell_row rfl _ _ (w.heap.size + 1) 81 _ (0, 0) _ rfl (new_two w _ _ _) Tryz.underlying81 rfl (info_w8 _ rfl)) rfl ?_
  exact ⟨two_below _ _ _, st.here, _, st.hops, false, ⟨#[]⟩, by rw [HST.out], ⟨_, _, _, rfl⟩, fun _ => .inl ⟨rfl, rfl, by rw [HST.out], by rw [HST.out], by rw [HST.out]; exact HLT.out.below (two_below _ _ _)⟩⟩
set_option maxRecDepth 100000 in
set_option maxHeartbeats 4000000 in
theorem docstep_dd (srt : Int) (stay : Bool) (g o cap : Nat) (st : St) (rest : List ByteArray) (w : World) (hcap : rest.length + 1 ≤ cap) (hcm : cap ≤ 9223372036854775807) (hc : ∀ i x, (ddB :: rest)[i]? = some x → w.cell? ⟨g, o + i, none⟩ = some (.string x)) (hs : st.here.size ≤ 255) :
    Calls Tryz.prog 52 #[.agg (wk8 (.slice a1 n1 c1) st.here (.slice (some ⟨g, o, none⟩) (rest.length + 1) cap) st.hops (.slice a3 n3 c3) false ⟨#[]⟩ 0), .int .i64 srt] w (DocPost g w (.slice a1 n1 c1) (.slice a3 n3 c3) ⟨0, false, stay⟩ st ddB rest) := by
  have k0 : w.cell? ⟨g, o, none⟩ = some (.string ddB) := hc 0 _ rfl
  have hlt := left_tail w.heap.size hcap hcm hc
  have hT := slice_tail g o cap rest.length hcap hcm
  have HST : Hid (stepN ⟨0, false, stay⟩ st ddB rest = (0, { st with here := parentB st.here, left := rest })) := by unfold Hid stepN; rw [if_neg (by decide), if_pos rfl]
  unfold ddB at k0
  have hgl := World.block_lt_of_cell? w _ k0
  have HLT : Hid (LeftB (fun k => k = g ∨ w.heap.size ≤ k) w (.slice (tailA g o cap) rest.length (cap - 1)) rest) := hlt
  clear hc hlt
  go_enter Tryz.func52, Tryz.ntmps52
  go_wp2_with (go_at_call 77; refine (parent_r _ _ (by omega)).mono ?_; rintro e w1 ⟨rfl, hw1⟩; replace hw1 := hw1.symm; subst hw1)
  refine bodyPost_ret (results_cell_row rfl _ _ (w.heap.size + 1) 81 _ (0, 0) _ rfl (new_two w _ _ _) Tryz.underlying81 rfl (info_w8 _ rfl)) rfl ?_
  exact ⟨two_below _ _ _, parentB st.here, _, st.hops, false, ⟨#[]⟩, by rw [HST.out], ⟨_, _, _, rfl⟩, fun _ => .inl ⟨rfl, rfl, by rw [HST.out], by rw [HST.out], by rw [HST.out]; exact HLT.out.below (two_below _ _ _)⟩⟩
set_option maxRecDepth 100000 in
set_option maxHeartbeats 4000000 in
theorem docstep_10_0 (g o cap : Nat) (st : St) (c : ByteArray) (rest : List ByteArray) (w : World) (hcap : rest.length + 1 ≤ cap) (hcm : cap ≤ 9223372036854775807) (hc : ∀ i x, (c :: rest)[i]? = some x → w.cell? ⟨g, o + i, none⟩ = some (.string x)) (hF : Far st c) (hEv : EntsAt w (.slice a1 st.L.length c1) st.L) (hLl : st.L.length ≤ 1073741824) (hg : getE st.L (joinB st.here c) = none) (hz : (joinB st.here c).size ≠ 0) :
    Calls Tryz.prog 52 #[.agg (wk8 (.slice a1 st.L.length c1) st.here (.slice (some ⟨g, o, none⟩) (rest.length + 1) cap) st.hops (.slice a3 n3 c3) false ⟨#[]⟩ 0), .int .i64 0] w (DocPost g w (.slice a1 st.L.length c1) (.slice a3 n3 c3) ⟨0, false, false⟩ st c rest) := by
  obtain ⟨hn1, hn2, hs, hcs⟩ := hF
  have hb1 := ne_dot hn1
  have hb2 := ne_dd hn2
  have hjs := join_size st.here c
  have k0 : w.cell? ⟨g, o, none⟩ = some (.string c) := hc 0 _ rfl
  have hgl := World.block_lt_of_cell? w _ k0
  have hlt := left_tail w.heap.size hcap hcm hc
  have hT := slice_tail g o cap rest.length hcap hcm
  have HLT : Hid (LeftB (fun k => k = g ∨ w.heap.size ≤ k) w (.slice (tailA g o cap) rest.length (cap - 1)) rest) := hlt
  have HAT : Hid (atN st.L (joinB st.here c) = -1) := at_none (by unfold getE at hg; rw [if_neg hz] at hg; exact hg)
  have HST : Hid ((stepN ⟨0, false, false⟩ st c rest).1 = 10) := by unfold Hid stepN; rw [if_neg hn1, if_neg hn2, hg]; rfl
  clear hg hz
  have hb0 : Below w.heap.size w ((w.alloc (.cells (wk8 (.slice a1 st.L.length c1) st.here (.slice (tailA g o cap) rest.length (cap - 1)) st.hops (.slice a3 n3 c3) false ⟨#[]⟩ 0) 81)).alloc (.cells zw8 81)) := two_below _ _ _
  have hL : ∀ w3, Below ((w.alloc (.cells (wk8 (.slice a1 st.L.length c1) st.here (.slice (tailA g o cap) rest.length (cap - 1)) st.hops (.slice a3 n3 c3) false ⟨#[]⟩ 0) 81)).alloc (.cells zw8 81)).heap.size ((w.alloc (.cells (wk8 (.slice a1 st.L.length c1) st.here (.slice (tailA g o cap) rest.length (cap - 1)) st.hops (.slice a3 n3 c3) false ⟨#[]⟩ 0) 81)).alloc (.cells zw8 81)) w3 → w3.heap[w.heap.size + 1]? = some (.cells zw8 81 (0, 0)) := fun w3 hb => (hb.block _ (by simp)).trans (new_two w _ _ _)
  clear hc hlt hn1 hn2
  go_enter Tryz.func52, Tryz.ntmps52
  go_wp2_with (first | (go_at_call 78; refine (join_r _ _ _ (by omega)).mono ?_; rintro e w1 ⟨rfl, hw1⟩; replace hw1 := hw1.symm; subst hw1) | (go_at_call 79; refine (at_r _ st.L _ _ (hEv.below (two_below _ _ _)) hLl).mono ?_; rintro e w1 ⟨rfl, hw1⟩; replace hw1 := hw1.symm; subst hw1; rw [HAT.out]) | (go_at_call 80; refine (missing_0 _ _ _).mono ?_; rintro e w3 ⟨rfl, hb3⟩; have hL3 := hL _ hb3) | (refine wpList_store_row rfl 81 (.tmp 4) (.tmp 41) rfl (w.heap.size + 1) (wk8 (.slice a1 st.L.length c1) st.here (.slice (tailA g o cap) rest.length (cap - 1)) st.hops (.slice a3 n3 c3) false ⟨#[]⟩ 10) rfl rfl 81 zw8 hL3 (info_w8 _ rfl) rfl (one_w8 _ _ _ _ _ _ _ _ _ _ _ _ _ _) ?_))
  refine bodyPost_ret (results_cell_row rfl _ _ (w.heap.size + 1) 81 _ (0, 0) _ rfl (setRow_heap _ (w.heap.size + 1) _ _ _ (0, 0) hL3) Tryz.underlying81 rfl (info_w8 _ rfl)) rfl ?_
  exact ⟨below_setRow' (below_join hb0 hb3) (by omega) _, st.here, _, st.hops, false, ⟨#[]⟩, by rw [HST.out], ⟨_, _, _, rfl⟩, fun h => absurd h (by rw [HST.out]; decide)⟩
set_option maxRecDepth 100000 in
set_option maxHeartbeats 4000000 in
theorem docstep_dir_0 (g o cap : Nat) (st : St) (c : ByteArray) (rest : List ByteArray) (w : World) (hcap : rest.length + 1 ≤ cap) (hcm : cap ≤ 9223372036854775807) (hc : ∀ i x, (c :: rest)[i]? = some x → w.cell? ⟨g, o + i, none⟩ = some (.string x)) (hF : Far st c) (hEv : EntsAt w (.slice a1 st.L.length c1) st.L) (hLl : st.L.length ≤ 1073741824) (e : Ent) (hg : getE st.L (joinB st.here c) = some e) (hk : e.kind = 1) :
    Calls Tryz.prog 52 #[.agg (wk8 (.slice a1 st.L.length c1) st.here (.slice (some ⟨g, o, none⟩) (rest.length + 1) cap) st.hops (.slice a3 n3 c3) false ⟨#[]⟩ 0), .int .i64 0] w (DocPost g w (.slice a1 st.L.length c1) (.slice a3 n3 c3) ⟨0, false, false⟩ st c rest) := by
  obtain ⟨hn1, hn2, hs, hcs⟩ := hF
  have hb1 := ne_dot hn1
  have hb2 := ne_dd hn2
  have hjs := join_size st.here c
  have k0 : w.cell? ⟨g, o, none⟩ = some (.string c) := hc 0 _ rfl
  have hgl := World.block_lt_of_cell? w _ k0
  have hlt := left_tail w.heap.size hcap hcm hc
  have hT := slice_tail g o cap rest.length hcap hcm
  have HLT : Hid (LeftB (fun k => k = g ∨ w.heap.size ≤ k) w (.slice (tailA g o cap) rest.length (cap - 1)) rest) := hlt
  obtain ⟨ai, hai, hLi⟩ := at_some (show st.L.find? (pathIs (joinB st.here c)) = some e by have := hg; unfold getE at this; split at this <;> first | cases this | exact this)
  have HAT : Hid (atN st.L (joinB st.here c) = (ai : Int)) := hai
  have hLt := (List.getElem?_eq_some_iff.1 hLi).1
  obtain ⟨av, cav, bb, oo, hveq, hva, hvc, hvv⟩ := id hEv
  obtain ⟨rfl, -⟩ : a1 = av ∧ c1 = cav := by simpa using hveq
  obtain rfl := hva (fun e => by rw [e] at hLt; simp at hLt)
  have hbl := World.block_lt_of_cell? w _ (hvv ai e hLi).c0
  have hE2 := (hvv ai e hLi).below (two_below w (.cells (wk8 (.slice (some ⟨bb, oo, none⟩) st.L.length c1) st.here (.slice (tailA g o cap) rest.length (cap - 1)) st.hops (.slice a3 n3 c3) false ⟨#[]⟩ 0) 81) (.cells zw8 81))
  have d1 := hE2.c1
  have d4 := hE2.c4
  have j1 : ¬ (ai : Int) < 0 := by omega
  have j2 : (0 : Int) ≤ (ai : Int) := by omega
  have j3 : (ai : Int) < (st.L.length : Int) := by omega
  have HST : Hid (stepN ⟨0, false, false⟩ st c rest = (0, { st with here := joinB st.here c, left := rest })) := by unfold Hid stepN; rw [if_neg hn1, if_neg hn2, hg]; simp only [thereN, isFile, isLink, hk]; rfl
  rw [hk] at d1
  have e1 := (hvv ai e hLi).below (two_below w (.cells (wk8 (.slice (some ⟨bb, oo, none⟩) st.L.length c1) (joinB st.here c) (.slice (tailA g o cap) rest.length (cap - 1)) st.hops (.slice a3 n3 c3) false ⟨#[]⟩ 0) 81) (.cells zw8 81))
  clear hg hvv hva hLi hai hveq
  clear hc hlt hn1 hn2
  go_enter Tryz.func52, Tryz.ntmps52
  go_wp2_with (first | (go_at_call 78; refine (join_r _ _ _ (by omega)).mono ?_; rintro e w1 ⟨rfl, hw1⟩; replace hw1 := hw1.symm; subst hw1) | (go_at_call 79; refine (at_r _ st.L _ _ (hEv.below (two_below _ _ _)) hLl).mono ?_; rintro e w1 ⟨rfl, hw1⟩; replace hw1 := hw1.symm; subst hw1; rw [HAT.out]))
  refine bodyPost_ret (results_cell_row rfl _ _ (w.heap.size + 1) 81 _ (0, 0) _ rfl (new_two w _ _ _) Tryz.underlying81 rfl (info_w8 _ rfl)) rfl ?_
  exact ⟨two_below _ _ _, joinB st.here c, _, st.hops, false, ⟨#[]⟩, by rw [HST.out], ⟨_, _, _, rfl⟩, fun _ => .inl ⟨rfl, rfl, by rw [HST.out], by rw [HST.out], by rw [HST.out]; exact HLT.out.below (two_below _ _ _)⟩⟩
set_option maxRecDepth 100000 in
set_option maxHeartbeats 4000000 in
theorem docstep_13_0 (g o cap : Nat) (st : St) (c : ByteArray) (rest : List ByteArray) (w : World) (hcap : rest.length + 1 ≤ cap) (hcm : cap ≤ 9223372036854775807) (hc : ∀ i x, (c :: rest)[i]? = some x → w.cell? ⟨g, o + i, none⟩ = some (.string x)) (hF : Far st c) (hEv : EntsAt w (.slice a1 st.L.length c1) st.L) (hLl : st.L.length ≤ 1073741824) (e : Ent) (hg : getE st.L (joinB st.here c) = some e) (hk : e.kind = 2) (hr : rest ≠ []) :
    Calls Tryz.prog 52 #[.agg (wk8 (.slice a1 st.L.length c1) st.here (.slice (some ⟨g, o, none⟩) (rest.length + 1) cap) st.hops (.slice a3 n3 c3) false ⟨#[]⟩ 0), .int .i64 0] w (DocPost g w (.slice a1 st.L.length c1) (.slice a3 n3 c3) ⟨0, false, false⟩ st c rest) := by
  obtain ⟨hn1, hn2, hs, hcs⟩ := hF
  have hb1 := ne_dot hn1
  have hb2 := ne_dd hn2
  have hjs := join_size st.here c
  have k0 : w.cell? ⟨g, o, none⟩ = some (.string c) := hc 0 _ rfl
  have hgl := World.block_lt_of_cell? w _ k0
  have hlt := left_tail w.heap.size hcap hcm hc
  have hT := slice_tail g o cap rest.length hcap hcm
  have HLT : Hid (LeftB (fun k => k = g ∨ w.heap.size ≤ k) w (.slice (tailA g o cap) rest.length (cap - 1)) rest) := hlt
  obtain ⟨ai, hai, hLi⟩ := at_some (show st.L.find? (pathIs (joinB st.here c)) = some e by have := hg; unfold getE at this; split at this <;> first | cases this | exact this)
  have HAT : Hid (atN st.L (joinB st.here c) = (ai : Int)) := hai
  have hLt := (List.getElem?_eq_some_iff.1 hLi).1
  obtain ⟨av, cav, bb, oo, hveq, hva, hvc, hvv⟩ := id hEv
  obtain ⟨rfl, -⟩ : a1 = av ∧ c1 = cav := by simpa using hveq
  obtain rfl := hva (fun e => by rw [e] at hLt; simp at hLt)
  have hbl := World.block_lt_of_cell? w _ (hvv ai e hLi).c0
  have hE2 := (hvv ai e hLi).below (two_below w (.cells (wk8 (.slice (some ⟨bb, oo, none⟩) st.L.length c1) st.here (.slice (tailA g o cap) rest.length (cap - 1)) st.hops (.slice a3 n3 c3) false ⟨#[]⟩ 0) 81) (.cells zw8 81))
  have d1 := hE2.c1
  have d4 := hE2.c4
  have j1 : ¬ (ai : Int) < 0 := by omega
  have j2 : (0 : Int) ≤ (ai : Int) := by omega
  have j3 : (ai : Int) < (st.L.length : Int) := by omega
  have hrl : rest.length ≠ 0 := fun e => hr (List.eq_nil_of_length_eq_zero e)
  have hrd : ((rest.length : Int) == 0) = false := by rw [beq_eq_false_iff_ne]; omega
  have hre : rest.isEmpty = false := by cases rest with | nil => exact absurd rfl hr | cons a b => rfl
  have HST : Hid ((stepN ⟨0, false, false⟩ st c rest).1 = 13) := by unfold Hid stepN; rw [if_neg hn1, if_neg hn2, hg]; simp only [thereN, isFile, isLink, hk, hre]; rfl
  rw [hk] at d1
  clear hg hvv hva hLi hai hveq
  have hb0 : Below w.heap.size w ((w.alloc (.cells (wk8 (.slice (some ⟨bb, oo, none⟩) st.L.length c1) st.here (.slice (tailA g o cap) rest.length (cap - 1)) st.hops (.slice a3 n3 c3) false ⟨#[]⟩ 0) 81)).alloc (.cells zw8 81)) := two_below _ _ _
  have hL : ∀ w3, Below ((w.alloc (.cells (wk8 (.slice (some ⟨bb, oo, none⟩) st.L.length c1) st.here (.slice (tailA g o cap) rest.length (cap - 1)) st.hops (.slice a3 n3 c3) false ⟨#[]⟩ 0) 81)).alloc (.cells zw8 81)).heap.size ((w.alloc (.cells (wk8 (.slice (some ⟨bb, oo, none⟩) st.L.length c1) st.here (.slice (tailA g o cap) rest.length (cap - 1)) st.hops (.slice a3 n3 c3) false ⟨#[]⟩ 0) 81)).alloc (.cells zw8 81)) w3 → w3.heap[w.heap.size + 1]? = some (.cells zw8 81 (0, 0)) := fun w3 hb => (hb.block _ (by simp)).trans (new_two w _ _ _)
  clear hc hlt hn1 hn2
  go_enter Tryz.func52, Tryz.ntmps52
  go_wp2_with (first | (go_at_call 78; refine (join_r _ _ _ (by omega)).mono ?_; rintro e w1 ⟨rfl, hw1⟩; replace hw1 := hw1.symm; subst hw1) | (go_at_call 79; refine (at_r _ st.L _ _ (hEv.below (two_below _ _ _)) hLl).mono ?_; rintro e w1 ⟨rfl, hw1⟩; replace hw1 := hw1.symm; subst hw1; rw [HAT.out]) | (go_at_call 81; refine (refused_r _ _).mono ?_; rintro e w3 ⟨rfl, hb3⟩; have hL3 := hL _ hb3) | (refine wpList_store_row rfl 81 (.tmp 4) (.tmp 66) rfl (w.heap.size + 1) (wk8 (.slice (some ⟨bb, oo, none⟩) st.L.length c1) st.here (.slice (tailA g o cap) rest.length (cap - 1)) st.hops (.slice a3 n3 c3) false ⟨#[]⟩ 13) rfl rfl 81 zw8 hL3 (info_w8 _ rfl) rfl (one_w8 _ _ _ _ _ _ _ _ _ _ _ _ _ _) ?_))
  refine bodyPost_ret (results_cell_row rfl _ _ (w.heap.size + 1) 81 _ (0, 0) _ rfl (setRow_heap _ (w.heap.size + 1) _ _ _ (0, 0) hL3) Tryz.underlying81 rfl (info_w8 _ rfl)) rfl ?_
  exact ⟨below_setRow' (below_join hb0 hb3) (by omega) _, st.here, _, st.hops, false, ⟨#[]⟩, by rw [HST.out], ⟨_, _, _, rfl⟩, fun h => absurd h (by rw [HST.out]; decide)⟩
set_option maxRecDepth 100000 in
set_option maxHeartbeats 4000000 in
theorem docstep_file_0 (g o cap : Nat) (st : St) (c : ByteArray) (rest : List ByteArray) (w : World) (hcap : rest.length + 1 ≤ cap) (hcm : cap ≤ 9223372036854775807) (hc : ∀ i x, (c :: rest)[i]? = some x → w.cell? ⟨g, o + i, none⟩ = some (.string x)) (hF : Far st c) (hEv : EntsAt w (.slice a1 st.L.length c1) st.L) (hLl : st.L.length ≤ 1073741824) (e : Ent) (hg : getE st.L (joinB st.here c) = some e) (hk : e.kind = 2) (hr : rest = []) :
    Calls Tryz.prog 52 #[.agg (wk8 (.slice a1 st.L.length c1) st.here (.slice (some ⟨g, o, none⟩) (rest.length + 1) cap) st.hops (.slice a3 n3 c3) false ⟨#[]⟩ 0), .int .i64 0] w (DocPost g w (.slice a1 st.L.length c1) (.slice a3 n3 c3) ⟨0, false, false⟩ st c rest) := by
  obtain ⟨hn1, hn2, hs, hcs⟩ := hF
  have hb1 := ne_dot hn1
  have hb2 := ne_dd hn2
  have hjs := join_size st.here c
  have k0 : w.cell? ⟨g, o, none⟩ = some (.string c) := hc 0 _ rfl
  have hgl := World.block_lt_of_cell? w _ k0
  have hlt := left_tail w.heap.size hcap hcm hc
  have hT := slice_tail g o cap rest.length hcap hcm
  have HLT : Hid (LeftB (fun k => k = g ∨ w.heap.size ≤ k) w (.slice (tailA g o cap) rest.length (cap - 1)) rest) := hlt
  subst hr
  obtain ⟨ai, hai, hLi⟩ := at_some (show st.L.find? (pathIs (joinB st.here c)) = some e by have := hg; unfold getE at this; split at this <;> first | cases this | exact this)
  have HAT : Hid (atN st.L (joinB st.here c) = (ai : Int)) := hai
  have hLt := (List.getElem?_eq_some_iff.1 hLi).1
  obtain ⟨av, cav, bb, oo, hveq, hva, hvc, hvv⟩ := id hEv
  obtain ⟨rfl, -⟩ : a1 = av ∧ c1 = cav := by simpa using hveq
  obtain rfl := hva (fun e => by rw [e] at hLt; simp at hLt)
  have hbl := World.block_lt_of_cell? w _ (hvv ai e hLi).c0
  have hE2 := (hvv ai e hLi).below (two_below w (.cells (wk8 (.slice (some ⟨bb, oo, none⟩) st.L.length c1) st.here (.slice (tailA g o cap) ([] : List ByteArray).length (cap - 1)) st.hops (.slice a3 n3 c3) false ⟨#[]⟩ 0) 81) (.cells zw8 81))
  have d1 := hE2.c1
  have d4 := hE2.c4
  have j1 : ¬ (ai : Int) < 0 := by omega
  have j2 : (0 : Int) ≤ (ai : Int) := by omega
  have j3 : (ai : Int) < (st.L.length : Int) := by omega
  have HST : Hid (stepN ⟨0, false, false⟩ st c [] = (0, { st with here := joinB st.here c, left := [] })) := by unfold Hid stepN; rw [if_neg hn1, if_neg hn2, hg]; simp only [thereN, isFile, isLink, hk]; rfl
  rw [hk] at d1
  simp only [List.length_nil] at *
  clear hg hvv hva hLi hai hveq
  have hb0 : Below w.heap.size w ((w.alloc (.cells (wk8 (.slice (some ⟨bb, oo, none⟩) st.L.length c1) st.here (.slice (tailA g o cap) 0 (cap - 1)) st.hops (.slice a3 n3 c3) false ⟨#[]⟩ 0) 81)).alloc (.cells zw8 81)) := two_below _ _ _
  have hL : ∀ w3, Below ((w.alloc (.cells (wk8 (.slice (some ⟨bb, oo, none⟩) st.L.length c1) st.here (.slice (tailA g o cap) 0 (cap - 1)) st.hops (.slice a3 n3 c3) false ⟨#[]⟩ 0) 81)).alloc (.cells zw8 81)).heap.size ((w.alloc (.cells (wk8 (.slice (some ⟨bb, oo, none⟩) st.L.length c1) st.here (.slice (tailA g o cap) 0 (cap - 1)) st.hops (.slice a3 n3 c3) false ⟨#[]⟩ 0) 81)).alloc (.cells zw8 81)) w3 → w3.heap[w.heap.size + 1]? = some (.cells zw8 81 (0, 0)) := fun w3 hb => (hb.block _ (by simp)).trans (new_two w _ _ _)
  clear hc hlt hn1 hn2
  go_enter Tryz.func52, Tryz.ntmps52
  go_wp2_with (first | (go_at_call 78; refine (join_r _ _ _ (by omega)).mono ?_; rintro e w1 ⟨rfl, hw1⟩; replace hw1 := hw1.symm; subst hw1) | (go_at_call 79; refine (at_r _ st.L _ _ (hEv.below (two_below _ _ _)) hLl).mono ?_; rintro e w1 ⟨rfl, hw1⟩; replace hw1 := hw1.symm; subst hw1; rw [HAT.out]) | (go_at_call 53; refine (ended_r _ _).mono ?_; rintro e w3 ⟨rfl, hb3⟩; have hL3 := hL _ hb3) | (refine wpList_store_row rfl 81 (.tmp 4) (.tmp 69) rfl (w.heap.size + 1) (wk8 (.slice (some ⟨bb, oo, none⟩) st.L.length c1) st.here (.slice (tailA g o cap) 0 (cap - 1)) st.hops (.slice a3 n3 c3) true (joinB st.here c) 0) rfl rfl 81 zw8 hL3 (info_w8 _ rfl) rfl (one_w8 _ _ _ _ _ _ _ _ _ _ _ _ _ _) ?_))
  refine bodyPost_ret (results_cell_row rfl _ _ (w.heap.size + 1) 81 _ (0, 0) _ rfl (setRow_heap _ (w.heap.size + 1) _ _ _ (0, 0) hL3) Tryz.underlying81 rfl (info_w8 _ rfl)) rfl ?_
  exact ⟨below_setRow' (below_join hb0 hb3) (by omega) _, st.here, _, st.hops, true, joinB st.here c, by rw [HST.out], ⟨_, _, _, rfl⟩, fun _ => .inr ⟨rfl, by rw [HST.out], by rw [HST.out]⟩⟩
set_option maxRecDepth 100000 in
set_option maxHeartbeats 4000000 in
theorem docstep_10_1 (g o cap : Nat) (st : St) (c : ByteArray) (rest : List ByteArray) (w : World) (hcap : rest.length + 1 ≤ cap) (hcm : cap ≤ 9223372036854775807) (hc : ∀ i x, (c :: rest)[i]? = some x → w.cell? ⟨g, o + i, none⟩ = some (.string x)) (hF : Far st c) (hEv : EntsAt w (.slice a1 st.L.length c1) st.L) (hLl : st.L.length ≤ 1073741824) (hg : getE st.L (joinB st.here c) = none) (hz : (joinB st.here c).size ≠ 0) :
    Calls Tryz.prog 52 #[.agg (wk8 (.slice a1 st.L.length c1) st.here (.slice (some ⟨g, o, none⟩) (rest.length + 1) cap) st.hops (.slice a3 n3 c3) false ⟨#[]⟩ 0), .int .i64 1] w (DocPost g w (.slice a1 st.L.length c1) (.slice a3 n3 c3) ⟨0, false, true⟩ st c rest) := by
  obtain ⟨hn1, hn2, hs, hcs⟩ := hF
  have hb1 := ne_dot hn1
  have hb2 := ne_dd hn2
  have hjs := join_size st.here c
  have k0 : w.cell? ⟨g, o, none⟩ = some (.string c) := hc 0 _ rfl
  have hgl := World.block_lt_of_cell? w _ k0
  have hlt := left_tail w.heap.size hcap hcm hc
  have hT := slice_tail g o cap rest.length hcap hcm
  have HLT : Hid (LeftB (fun k => k = g ∨ w.heap.size ≤ k) w (.slice (tailA g o cap) rest.length (cap - 1)) rest) := hlt
  have HAT : Hid (atN st.L (joinB st.here c) = -1) := at_none (by unfold getE at hg; rw [if_neg hz] at hg; exact hg)
  have HST : Hid ((stepN ⟨0, false, true⟩ st c rest).1 = 10) := by unfold Hid stepN; rw [if_neg hn1, if_neg hn2, hg]; rfl
  clear hg hz
  have hb0 : Below w.heap.size w ((w.alloc (.cells (wk8 (.slice a1 st.L.length c1) st.here (.slice (tailA g o cap) rest.length (cap - 1)) st.hops (.slice a3 n3 c3) false ⟨#[]⟩ 0) 81)).alloc (.cells zw8 81)) := two_below _ _ _
  have hL : ∀ w3, Below ((w.alloc (.cells (wk8 (.slice a1 st.L.length c1) st.here (.slice (tailA g o cap) rest.length (cap - 1)) st.hops (.slice a3 n3 c3) false ⟨#[]⟩ 0) 81)).alloc (.cells zw8 81)).heap.size ((w.alloc (.cells (wk8 (.slice a1 st.L.length c1) st.here (.slice (tailA g o cap) rest.length (cap - 1)) st.hops (.slice a3 n3 c3) false ⟨#[]⟩ 0) 81)).alloc (.cells zw8 81)) w3 → w3.heap[w.heap.size + 1]? = some (.cells zw8 81 (0, 0)) := fun w3 hb => (hb.block _ (by simp)).trans (new_two w _ _ _)
  clear hc hlt hn1 hn2
  go_enter Tryz.func52, Tryz.ntmps52
  go_wp2_with (first | (go_at_call 78; refine (join_r _ _ _ (by omega)).mono ?_; rintro e w1 ⟨rfl, hw1⟩; replace hw1 := hw1.symm; subst hw1) | (go_at_call 79; refine (at_r _ st.L _ _ (hEv.below (two_below _ _ _)) hLl).mono ?_; rintro e w1 ⟨rfl, hw1⟩; replace hw1 := hw1.symm; subst hw1; rw [HAT.out]) | (go_at_call 80; refine (missing_1 _ _ _).mono ?_; rintro e w3 ⟨rfl, hb3⟩; have hL3 := hL _ hb3) | (refine wpList_store_row rfl 81 (.tmp 4) (.tmp 41) rfl (w.heap.size + 1) (wk8 (.slice a1 st.L.length c1) st.here (.slice (tailA g o cap) rest.length (cap - 1)) st.hops (.slice a3 n3 c3) false ⟨#[]⟩ 10) rfl rfl 81 zw8 hL3 (info_w8 _ rfl) rfl (one_w8 _ _ _ _ _ _ _ _ _ _ _ _ _ _) ?_))
  refine bodyPost_ret (results_cell_row rfl _ _ (w.heap.size + 1) 81 _ (0, 0) _ rfl (setRow_heap _ (w.heap.size + 1) _ _ _ (0, 0) hL3) Tryz.underlying81 rfl (info_w8 _ rfl)) rfl ?_
  exact ⟨below_setRow' (below_join hb0 hb3) (by omega) _, st.here, _, st.hops, false, ⟨#[]⟩, by rw [HST.out], ⟨_, _, _, rfl⟩, fun h => absurd h (by rw [HST.out]; decide)⟩
set_option maxRecDepth 100000 in
set_option maxHeartbeats 4000000 in
theorem docstep_dir_1 (g o cap : Nat) (st : St) (c : ByteArray) (rest : List ByteArray) (w : World) (hcap : rest.length + 1 ≤ cap) (hcm : cap ≤ 9223372036854775807) (hc : ∀ i x, (c :: rest)[i]? = some x → w.cell? ⟨g, o + i, none⟩ = some (.string x)) (hF : Far st c) (hEv : EntsAt w (.slice a1 st.L.length c1) st.L) (hLl : st.L.length ≤ 1073741824) (e : Ent) (hg : getE st.L (joinB st.here c) = some e) (hk : e.kind = 1) :
    Calls Tryz.prog 52 #[.agg (wk8 (.slice a1 st.L.length c1) st.here (.slice (some ⟨g, o, none⟩) (rest.length + 1) cap) st.hops (.slice a3 n3 c3) false ⟨#[]⟩ 0), .int .i64 1] w (DocPost g w (.slice a1 st.L.length c1) (.slice a3 n3 c3) ⟨0, false, true⟩ st c rest) := by
  obtain ⟨hn1, hn2, hs, hcs⟩ := hF
  have hb1 := ne_dot hn1
  have hb2 := ne_dd hn2
  have hjs := join_size st.here c
  have k0 : w.cell? ⟨g, o, none⟩ = some (.string c) := hc 0 _ rfl
  have hgl := World.block_lt_of_cell? w _ k0
  have hlt := left_tail w.heap.size hcap hcm hc
  have hT := slice_tail g o cap rest.length hcap hcm
  have HLT : Hid (LeftB (fun k => k = g ∨ w.heap.size ≤ k) w (.slice (tailA g o cap) rest.length (cap - 1)) rest) := hlt
  obtain ⟨ai, hai, hLi⟩ := at_some (show st.L.find? (pathIs (joinB st.here c)) = some e by have := hg; unfold getE at this; split at this <;> first | cases this | exact this)
  have HAT : Hid (atN st.L (joinB st.here c) = (ai : Int)) := hai
  have hLt := (List.getElem?_eq_some_iff.1 hLi).1
  obtain ⟨av, cav, bb, oo, hveq, hva, hvc, hvv⟩ := id hEv
  obtain ⟨rfl, -⟩ : a1 = av ∧ c1 = cav := by simpa using hveq
  obtain rfl := hva (fun e => by rw [e] at hLt; simp at hLt)
  have hbl := World.block_lt_of_cell? w _ (hvv ai e hLi).c0
  have hE2 := (hvv ai e hLi).below (two_below w (.cells (wk8 (.slice (some ⟨bb, oo, none⟩) st.L.length c1) st.here (.slice (tailA g o cap) rest.length (cap - 1)) st.hops (.slice a3 n3 c3) false ⟨#[]⟩ 0) 81) (.cells zw8 81))
  have d1 := hE2.c1
  have d4 := hE2.c4
  have j1 : ¬ (ai : Int) < 0 := by omega
  have j2 : (0 : Int) ≤ (ai : Int) := by omega
  have j3 : (ai : Int) < (st.L.length : Int) := by omega
  have HST : Hid (stepN ⟨0, false, true⟩ st c rest = (0, { st with here := joinB st.here c, left := rest })) := by unfold Hid stepN; rw [if_neg hn1, if_neg hn2, hg]; simp only [thereN, isFile, isLink, hk]; rfl
  rw [hk] at d1
  have e1 := (hvv ai e hLi).below (two_below w (.cells (wk8 (.slice (some ⟨bb, oo, none⟩) st.L.length c1) (joinB st.here c) (.slice (tailA g o cap) rest.length (cap - 1)) st.hops (.slice a3 n3 c3) false ⟨#[]⟩ 0) 81) (.cells zw8 81))
  clear hg hvv hva hLi hai hveq
  clear hc hlt hn1 hn2
  go_enter Tryz.func52, Tryz.ntmps52
  go_wp2_with (first | (go_at_call 78; refine (join_r _ _ _ (by omega)).mono ?_; rintro e w1 ⟨rfl, hw1⟩; replace hw1 := hw1.symm; subst hw1) | (go_at_call 79; refine (at_r _ st.L _ _ (hEv.below (two_below _ _ _)) hLl).mono ?_; rintro e w1 ⟨rfl, hw1⟩; replace hw1 := hw1.symm; subst hw1; rw [HAT.out]))
  refine bodyPost_ret (results_cell_row rfl _ _ (w.heap.size + 1) 81 _ (0, 0) _ rfl (new_two w _ _ _) Tryz.underlying81 rfl (info_w8 _ rfl)) rfl ?_
  exact ⟨two_below _ _ _, joinB st.here c, _, st.hops, false, ⟨#[]⟩, by rw [HST.out], ⟨_, _, _, rfl⟩, fun _ => .inl ⟨rfl, rfl, by rw [HST.out], by rw [HST.out], by rw [HST.out]; exact HLT.out.below (two_below _ _ _)⟩⟩
set_option maxRecDepth 100000 in
set_option maxHeartbeats 4000000 in
theorem docstep_13_1 (g o cap : Nat) (st : St) (c : ByteArray) (rest : List ByteArray) (w : World) (hcap : rest.length + 1 ≤ cap) (hcm : cap ≤ 9223372036854775807) (hc : ∀ i x, (c :: rest)[i]? = some x → w.cell? ⟨g, o + i, none⟩ = some (.string x)) (hF : Far st c) (hEv : EntsAt w (.slice a1 st.L.length c1) st.L) (hLl : st.L.length ≤ 1073741824) (e : Ent) (hg : getE st.L (joinB st.here c) = some e) (hk : e.kind = 2) (hr : rest ≠ []) :
    Calls Tryz.prog 52 #[.agg (wk8 (.slice a1 st.L.length c1) st.here (.slice (some ⟨g, o, none⟩) (rest.length + 1) cap) st.hops (.slice a3 n3 c3) false ⟨#[]⟩ 0), .int .i64 1] w (DocPost g w (.slice a1 st.L.length c1) (.slice a3 n3 c3) ⟨0, false, true⟩ st c rest) := by
  obtain ⟨hn1, hn2, hs, hcs⟩ := hF
  have hb1 := ne_dot hn1
  have hb2 := ne_dd hn2
  have hjs := join_size st.here c
  have k0 : w.cell? ⟨g, o, none⟩ = some (.string c) := hc 0 _ rfl
  have hgl := World.block_lt_of_cell? w _ k0
  have hlt := left_tail w.heap.size hcap hcm hc
  have hT := slice_tail g o cap rest.length hcap hcm
  have HLT : Hid (LeftB (fun k => k = g ∨ w.heap.size ≤ k) w (.slice (tailA g o cap) rest.length (cap - 1)) rest) := hlt
  obtain ⟨ai, hai, hLi⟩ := at_some (show st.L.find? (pathIs (joinB st.here c)) = some e by have := hg; unfold getE at this; split at this <;> first | cases this | exact this)
  have HAT : Hid (atN st.L (joinB st.here c) = (ai : Int)) := hai
  have hLt := (List.getElem?_eq_some_iff.1 hLi).1
  obtain ⟨av, cav, bb, oo, hveq, hva, hvc, hvv⟩ := id hEv
  obtain ⟨rfl, -⟩ : a1 = av ∧ c1 = cav := by simpa using hveq
  obtain rfl := hva (fun e => by rw [e] at hLt; simp at hLt)
  have hbl := World.block_lt_of_cell? w _ (hvv ai e hLi).c0
  have hE2 := (hvv ai e hLi).below (two_below w (.cells (wk8 (.slice (some ⟨bb, oo, none⟩) st.L.length c1) st.here (.slice (tailA g o cap) rest.length (cap - 1)) st.hops (.slice a3 n3 c3) false ⟨#[]⟩ 0) 81) (.cells zw8 81))
  have d1 := hE2.c1
  have d4 := hE2.c4
  have j1 : ¬ (ai : Int) < 0 := by omega
  have j2 : (0 : Int) ≤ (ai : Int) := by omega
  have j3 : (ai : Int) < (st.L.length : Int) := by omega
  have hrl : rest.length ≠ 0 := fun e => hr (List.eq_nil_of_length_eq_zero e)
  have hrd : ((rest.length : Int) == 0) = false := by rw [beq_eq_false_iff_ne]; omega
  have hre : rest.isEmpty = false := by cases rest with | nil => exact absurd rfl hr | cons a b => rfl
  have HST : Hid ((stepN ⟨0, false, true⟩ st c rest).1 = 13) := by unfold Hid stepN; rw [if_neg hn1, if_neg hn2, hg]; simp only [thereN, isFile, isLink, hk, hre]; rfl
  rw [hk] at d1
  clear hg hvv hva hLi hai hveq
  have hb0 : Below w.heap.size w ((w.alloc (.cells (wk8 (.slice (some ⟨bb, oo, none⟩) st.L.length c1) st.here (.slice (tailA g o cap) rest.length (cap - 1)) st.hops (.slice a3 n3 c3) false ⟨#[]⟩ 0) 81)).alloc (.cells zw8 81)) := two_below _ _ _
  have hL : ∀ w3, Below ((w.alloc (.cells (wk8 (.slice (some ⟨bb, oo, none⟩) st.L.length c1) st.here (.slice (tailA g o cap) rest.length (cap - 1)) st.hops (.slice a3 n3 c3) false ⟨#[]⟩ 0) 81)).alloc (.cells zw8 81)).heap.size ((w.alloc (.cells (wk8 (.slice (some ⟨bb, oo, none⟩) st.L.length c1) st.here (.slice (tailA g o cap) rest.length (cap - 1)) st.hops (.slice a3 n3 c3) false ⟨#[]⟩ 0) 81)).alloc (.cells zw8 81)) w3 → w3.heap[w.heap.size + 1]? = some (.cells zw8 81 (0, 0)) := fun w3 hb => (hb.block _ (by simp)).trans (new_two w _ _ _)
  clear hc hlt hn1 hn2
  go_enter Tryz.func52, Tryz.ntmps52
  go_wp2_with (first | (go_at_call 78; refine (join_r _ _ _ (by omega)).mono ?_; rintro e w1 ⟨rfl, hw1⟩; replace hw1 := hw1.symm; subst hw1) | (go_at_call 79; refine (at_r _ st.L _ _ (hEv.below (two_below _ _ _)) hLl).mono ?_; rintro e w1 ⟨rfl, hw1⟩; replace hw1 := hw1.symm; subst hw1; rw [HAT.out]) | (go_at_call 81; refine (refused_r _ _).mono ?_; rintro e w3 ⟨rfl, hb3⟩; have hL3 := hL _ hb3) | (refine wpList_store_row rfl 81 (.tmp 4) (.tmp 66) rfl (w.heap.size + 1) (wk8 (.slice (some ⟨bb, oo, none⟩) st.L.length c1) st.here (.slice (tailA g o cap) rest.length (cap - 1)) st.hops (.slice a3 n3 c3) false ⟨#[]⟩ 13) rfl rfl 81 zw8 hL3 (info_w8 _ rfl) rfl (one_w8 _ _ _ _ _ _ _ _ _ _ _ _ _ _) ?_))
  refine bodyPost_ret (results_cell_row rfl _ _ (w.heap.size + 1) 81 _ (0, 0) _ rfl (setRow_heap _ (w.heap.size + 1) _ _ _ (0, 0) hL3) Tryz.underlying81 rfl (info_w8 _ rfl)) rfl ?_
  exact ⟨below_setRow' (below_join hb0 hb3) (by omega) _, st.here, _, st.hops, false, ⟨#[]⟩, by rw [HST.out], ⟨_, _, _, rfl⟩, fun h => absurd h (by rw [HST.out]; decide)⟩
set_option maxRecDepth 100000 in
set_option maxHeartbeats 4000000 in
theorem docstep_file_1 (g o cap : Nat) (st : St) (c : ByteArray) (rest : List ByteArray) (w : World) (hcap : rest.length + 1 ≤ cap) (hcm : cap ≤ 9223372036854775807) (hc : ∀ i x, (c :: rest)[i]? = some x → w.cell? ⟨g, o + i, none⟩ = some (.string x)) (hF : Far st c) (hEv : EntsAt w (.slice a1 st.L.length c1) st.L) (hLl : st.L.length ≤ 1073741824) (e : Ent) (hg : getE st.L (joinB st.here c) = some e) (hk : e.kind = 2) (hr : rest = []) :
    Calls Tryz.prog 52 #[.agg (wk8 (.slice a1 st.L.length c1) st.here (.slice (some ⟨g, o, none⟩) (rest.length + 1) cap) st.hops (.slice a3 n3 c3) false ⟨#[]⟩ 0), .int .i64 1] w (DocPost g w (.slice a1 st.L.length c1) (.slice a3 n3 c3) ⟨0, false, true⟩ st c rest) := by
  obtain ⟨hn1, hn2, hs, hcs⟩ := hF
  have hb1 := ne_dot hn1
  have hb2 := ne_dd hn2
  have hjs := join_size st.here c
  have k0 : w.cell? ⟨g, o, none⟩ = some (.string c) := hc 0 _ rfl
  have hgl := World.block_lt_of_cell? w _ k0
  have hlt := left_tail w.heap.size hcap hcm hc
  have hT := slice_tail g o cap rest.length hcap hcm
  have HLT : Hid (LeftB (fun k => k = g ∨ w.heap.size ≤ k) w (.slice (tailA g o cap) rest.length (cap - 1)) rest) := hlt
  subst hr
  obtain ⟨ai, hai, hLi⟩ := at_some (show st.L.find? (pathIs (joinB st.here c)) = some e by have := hg; unfold getE at this; split at this <;> first | cases this | exact this)
  have HAT : Hid (atN st.L (joinB st.here c) = (ai : Int)) := hai
  have hLt := (List.getElem?_eq_some_iff.1 hLi).1
  obtain ⟨av, cav, bb, oo, hveq, hva, hvc, hvv⟩ := id hEv
  obtain ⟨rfl, -⟩ : a1 = av ∧ c1 = cav := by simpa using hveq
  obtain rfl := hva (fun e => by rw [e] at hLt; simp at hLt)
  have hbl := World.block_lt_of_cell? w _ (hvv ai e hLi).c0
  have hE2 := (hvv ai e hLi).below (two_below w (.cells (wk8 (.slice (some ⟨bb, oo, none⟩) st.L.length c1) st.here (.slice (tailA g o cap) ([] : List ByteArray).length (cap - 1)) st.hops (.slice a3 n3 c3) false ⟨#[]⟩ 0) 81) (.cells zw8 81))
  have d1 := hE2.c1
  have d4 := hE2.c4
  have j1 : ¬ (ai : Int) < 0 := by omega
  have j2 : (0 : Int) ≤ (ai : Int) := by omega
  have j3 : (ai : Int) < (st.L.length : Int) := by omega
  have HST : Hid (stepN ⟨0, false, true⟩ st c [] = (0, { st with here := joinB st.here c, left := [] })) := by unfold Hid stepN; rw [if_neg hn1, if_neg hn2, hg]; simp only [thereN, isFile, isLink, hk]; rfl
  rw [hk] at d1
  simp only [List.length_nil] at *
  clear hg hvv hva hLi hai hveq
  have hb0 : Below w.heap.size w ((w.alloc (.cells (wk8 (.slice (some ⟨bb, oo, none⟩) st.L.length c1) st.here (.slice (tailA g o cap) 0 (cap - 1)) st.hops (.slice a3 n3 c3) false ⟨#[]⟩ 0) 81)).alloc (.cells zw8 81)) := two_below _ _ _
  have hL : ∀ w3, Below ((w.alloc (.cells (wk8 (.slice (some ⟨bb, oo, none⟩) st.L.length c1) st.here (.slice (tailA g o cap) 0 (cap - 1)) st.hops (.slice a3 n3 c3) false ⟨#[]⟩ 0) 81)).alloc (.cells zw8 81)).heap.size ((w.alloc (.cells (wk8 (.slice (some ⟨bb, oo, none⟩) st.L.length c1) st.here (.slice (tailA g o cap) 0 (cap - 1)) st.hops (.slice a3 n3 c3) false ⟨#[]⟩ 0) 81)).alloc (.cells zw8 81)) w3 → w3.heap[w.heap.size + 1]? = some (.cells zw8 81 (0, 0)) := fun w3 hb => (hb.block _ (by simp)).trans (new_two w _ _ _)
  clear hc hlt hn1 hn2
  go_enter Tryz.func52, Tryz.ntmps52
  go_wp2_with (first | (go_at_call 78; refine (join_r _ _ _ (by omega)).mono ?_; rintro e w1 ⟨rfl, hw1⟩; replace hw1 := hw1.symm; subst hw1) | (go_at_call 79; refine (at_r _ st.L _ _ (hEv.below (two_below _ _ _)) hLl).mono ?_; rintro e w1 ⟨rfl, hw1⟩; replace hw1 := hw1.symm; subst hw1; rw [HAT.out]) | (go_at_call 53; refine (ended_r _ _).mono ?_; rintro e w3 ⟨rfl, hb3⟩; have hL3 := hL _ hb3) | (refine wpList_store_row rfl 81 (.tmp 4) (.tmp 69) rfl (w.heap.size + 1) (wk8 (.slice (some ⟨bb, oo, none⟩) st.L.length c1) st.here (.slice (tailA g o cap) 0 (cap - 1)) st.hops (.slice a3 n3 c3) true (joinB st.here c) 0) rfl rfl 81 zw8 hL3 (info_w8 _ rfl) rfl (one_w8 _ _ _ _ _ _ _ _ _ _ _ _ _ _) ?_))
  refine bodyPost_ret (results_cell_row rfl _ _ (w.heap.size + 1) 81 _ (0, 0) _ rfl (setRow_heap _ (w.heap.size + 1) _ _ _ (0, 0) hL3) Tryz.underlying81 rfl (info_w8 _ rfl)) rfl ?_
  exact ⟨below_setRow' (below_join hb0 hb3) (by omega) _, st.here, _, st.hops, true, joinB st.here c, by rw [HST.out], ⟨_, _, _, rfl⟩, fun _ => .inr ⟨rfl, by rw [HST.out], by rw [HST.out]⟩⟩
set_option maxRecDepth 100000 in
set_option maxHeartbeats 4000000 in
theorem docstep_stay (g o cap : Nat) (st : St) (c : ByteArray) (rest : List ByteArray) (w : World) (hcap : rest.length + 1 ≤ cap) (hcm : cap ≤ 9223372036854775807) (hc : ∀ i x, (c :: rest)[i]? = some x → w.cell? ⟨g, o + i, none⟩ = some (.string x)) (hF : Far st c) (hEv : EntsAt w (.slice a1 st.L.length c1) st.L) (hLl : st.L.length ≤ 1073741824) (e : Ent) (hg : getE st.L (joinB st.here c) = some e) (hk : e.kind = 3) (hr : rest = []) :
    Calls Tryz.prog 52 #[.agg (wk8 (.slice a1 st.L.length c1) st.here (.slice (some ⟨g, o, none⟩) (rest.length + 1) cap) st.hops (.slice a3 n3 c3) false ⟨#[]⟩ 0), .int .i64 1] w (DocPost g w (.slice a1 st.L.length c1) (.slice a3 n3 c3) ⟨0, false, true⟩ st c rest) := by
  obtain ⟨hn1, hn2, hs, hcs⟩ := hF
  have hb1 := ne_dot hn1
  have hb2 := ne_dd hn2
  have hjs := join_size st.here c
  have k0 : w.cell? ⟨g, o, none⟩ = some (.string c) := hc 0 _ rfl
  have hgl := World.block_lt_of_cell? w _ k0
  have hlt := left_tail w.heap.size hcap hcm hc
  have hT := slice_tail g o cap rest.length hcap hcm
  have HLT : Hid (LeftB (fun k => k = g ∨ w.heap.size ≤ k) w (.slice (tailA g o cap) rest.length (cap - 1)) rest) := hlt
  subst hr
  obtain ⟨ai, hai, hLi⟩ := at_some (show st.L.find? (pathIs (joinB st.here c)) = some e by have := hg; unfold getE at this; split at this <;> first | cases this | exact this)
  have HAT : Hid (atN st.L (joinB st.here c) = (ai : Int)) := hai
  have hLt := (List.getElem?_eq_some_iff.1 hLi).1
  obtain ⟨av, cav, bb, oo, hveq, hva, hvc, hvv⟩ := id hEv
  obtain ⟨rfl, -⟩ : a1 = av ∧ c1 = cav := by simpa using hveq
  obtain rfl := hva (fun e => by rw [e] at hLt; simp at hLt)
  have hbl := World.block_lt_of_cell? w _ (hvv ai e hLi).c0
  have hE2 := (hvv ai e hLi).below (two_below w (.cells (wk8 (.slice (some ⟨bb, oo, none⟩) st.L.length c1) st.here (.slice (tailA g o cap) ([] : List ByteArray).length (cap - 1)) st.hops (.slice a3 n3 c3) false ⟨#[]⟩ 0) 81) (.cells zw8 81))
  have d1 := hE2.c1
  have d4 := hE2.c4
  have j1 : ¬ (ai : Int) < 0 := by omega
  have j2 : (0 : Int) ≤ (ai : Int) := by omega
  have j3 : (ai : Int) < (st.L.length : Int) := by omega
  have HST : Hid (stepN ⟨0, false, true⟩ st c [] = (0, { st with here := joinB st.here c, left := [] })) := by unfold Hid stepN; rw [if_neg hn1, if_neg hn2, hg]; simp only [thereN, isFile, isLink, hk]; rfl
  rw [hk] at d1
  simp only [List.length_nil] at *
  clear hg hvv hva hLi hai hveq
  have hb0 : Below w.heap.size w ((w.alloc (.cells (wk8 (.slice (some ⟨bb, oo, none⟩) st.L.length c1) st.here (.slice (tailA g o cap) 0 (cap - 1)) st.hops (.slice a3 n3 c3) false ⟨#[]⟩ 0) 81)).alloc (.cells zw8 81)) := two_below _ _ _
  have hL : ∀ w3, Below ((w.alloc (.cells (wk8 (.slice (some ⟨bb, oo, none⟩) st.L.length c1) st.here (.slice (tailA g o cap) 0 (cap - 1)) st.hops (.slice a3 n3 c3) false ⟨#[]⟩ 0) 81)).alloc (.cells zw8 81)).heap.size ((w.alloc (.cells (wk8 (.slice (some ⟨bb, oo, none⟩) st.L.length c1) st.here (.slice (tailA g o cap) 0 (cap - 1)) st.hops (.slice a3 n3 c3) false ⟨#[]⟩ 0) 81)).alloc (.cells zw8 81)) w3 → w3.heap[w.heap.size + 1]? = some (.cells zw8 81 (0, 0)) := fun w3 hb => (hb.block _ (by simp)).trans (new_two w _ _ _)
  clear hc hlt hn1 hn2
  go_enter Tryz.func52, Tryz.ntmps52
  go_wp2_with (first | (go_at_call 78; refine (join_r _ _ _ (by omega)).mono ?_; rintro e w1 ⟨rfl, hw1⟩; replace hw1 := hw1.symm; subst hw1) | (go_at_call 79; refine (at_r _ st.L _ _ (hEv.below (two_below _ _ _)) hLl).mono ?_; rintro e w1 ⟨rfl, hw1⟩; replace hw1 := hw1.symm; subst hw1; rw [HAT.out]) | (go_at_call 53; refine (ended_r _ _).mono ?_; rintro e w3 ⟨rfl, hb3⟩; have hL3 := hL _ hb3) | (refine wpList_store_row rfl 81 (.tmp 4) (.tmp 77) rfl (w.heap.size + 1) (wk8 (.slice (some ⟨bb, oo, none⟩) st.L.length c1) st.here (.slice (tailA g o cap) 0 (cap - 1)) st.hops (.slice a3 n3 c3) true (joinB st.here c) 0) rfl rfl 81 zw8 hL3 (info_w8 _ rfl) rfl (one_w8 _ _ _ _ _ _ _ _ _ _ _ _ _ _) ?_))
  refine bodyPost_ret (results_cell_row rfl _ _ (w.heap.size + 1) 81 _ (0, 0) _ rfl (setRow_heap _ (w.heap.size + 1) _ _ _ (0, 0) hL3) Tryz.underlying81 rfl (info_w8 _ rfl)) rfl ?_
  exact ⟨below_setRow' (below_join hb0 hb3) (by omega) _, st.here, _, st.hops, true, joinB st.here c, by rw [HST.out], ⟨_, _, _, rfl⟩, fun _ => .inr ⟨rfl, by rw [HST.out], by rw [HST.out]⟩⟩
end Go.Proofs.YtcefgnjgcnboeaaGreatDoor

namespace Go.Proofs.YtcefgnjgcnboeaaGreatDoor
open Go Go.RowKit
variable {a1 a3 : Option Addr} {n1 n3 c1 c3 : Nat}
set_option maxRecDepth 100000 in
set_option maxHeartbeats 4000000 in
theorem docstep_12_0 (g o cap : Nat) (st : St) (c : ByteArray) (rest : List ByteArray) (w : World) (hcap : rest.length + 1 ≤ cap) (hcm : cap ≤ 9223372036854775807) (hc : ∀ i x, (c :: rest)[i]? = some x → w.cell? ⟨g, o + i, none⟩ = some (.string x)) (hF : Far st c) (hEv : EntsAt w (.slice a1 st.L.length c1) st.L) (hLl : st.L.length ≤ 1073741824) (e : Ent) (hg : getE st.L (joinB st.here c) = some e) (hk : e.kind = 3) (h40 : st.hops = 40) :
    Calls Tryz.prog 52 #[.agg (wk8 (.slice a1 st.L.length c1) st.here (.slice (some ⟨g, o, none⟩) (rest.length + 1) cap) st.hops (.slice a3 n3 c3) false ⟨#[]⟩ 0), .int .i64 0] w (DocPost g w (.slice a1 st.L.length c1) (.slice a3 n3 c3) ⟨0, false, false⟩ st c rest) := by
  obtain ⟨hn1, hn2, hs, hcs⟩ := hF
  have hb1 := ne_dot hn1
  have hb2 := ne_dd hn2
  have hjs := join_size st.here c
  have k0 : w.cell? ⟨g, o, none⟩ = some (.string c) := hc 0 _ rfl
  have hgl := World.block_lt_of_cell? w _ k0
  have hlt := left_tail w.heap.size hcap hcm hc
  have hT := slice_tail g o cap rest.length hcap hcm
  have HLT : Hid (LeftB (fun k => k = g ∨ w.heap.size ≤ k) w (.slice (tailA g o cap) rest.length (cap - 1)) rest) := hlt
  obtain ⟨ai, hai, hLi⟩ := at_some (show st.L.find? (pathIs (joinB st.here c)) = some e by have := hg; unfold getE at this; split at this <;> first | cases this | exact this)
  have HAT : Hid (atN st.L (joinB st.here c) = (ai : Int)) := hai
  have hLt := (List.getElem?_eq_some_iff.1 hLi).1
  obtain ⟨av, cav, bb, oo, hveq, hva, hvc, hvv⟩ := id hEv
  obtain ⟨rfl, -⟩ : a1 = av ∧ c1 = cav := by simpa using hveq
  obtain rfl := hva (fun e => by rw [e] at hLt; simp at hLt)
  have hbl := World.block_lt_of_cell? w _ (hvv ai e hLi).c0
  have hE2 := (hvv ai e hLi).below (two_below w (.cells (wk8 (.slice (some ⟨bb, oo, none⟩) st.L.length c1) st.here (.slice (tailA g o cap) rest.length (cap - 1)) st.hops (.slice a3 n3 c3) false ⟨#[]⟩ 0) 81) (.cells zw8 81))
  have d1 := hE2.c1
  have d4 := hE2.c4
  have j1 : ¬ (ai : Int) < 0 := by omega
  have j2 : (0 : Int) ≤ (ai : Int) := by omega
  have j3 : (ai : Int) < (st.L.length : Int) := by omega
  have HST : Hid ((stepN ⟨0, false, false⟩ st c rest).1 = 12) := by unfold Hid stepN; rw [if_neg hn1, if_neg hn2, hg]; simp only [thereN, isFile, isLink, hk, linkS, h40]; rfl
  have H40 : Hid (st.hops = 40) := h40
  clear h40
  rw [hk] at d1
  have hb0 : Below w.heap.size w ((w.alloc (.cells (wk8 (.slice (some ⟨bb, oo, none⟩) st.L.length c1) st.here (.slice (tailA g o cap) rest.length (cap - 1)) st.hops (.slice a3 n3 c3) false ⟨#[]⟩ 0) 81)).alloc (.cells zw8 81)) := two_below _ _ _
  have hk0 : ((w.alloc (.cells (wk8 (.slice (some ⟨bb, oo, none⟩) st.L.length c1) st.here (.slice (tailA g o cap) rest.length (cap - 1)) st.hops (.slice a3 n3 c3) false ⟨#[]⟩ 0) 81)).alloc (.cells zw8 81)).heap[w.heap.size]? = some (.cells (wk8 (.slice (some ⟨bb, oo, none⟩) st.L.length c1) st.here (.slice (tailA g o cap) rest.length (cap - 1)) st.hops (.slice a3 n3 c3) false ⟨#[]⟩ 0) 81) := (Below.heap_alloc _ _ _ (by simp)).trans (World.alloc_heap_new w _)
  have hk1 : ((w.alloc (.cells (wk8 (.slice (some ⟨bb, oo, none⟩) st.L.length c1) st.here (.slice (tailA g o cap) rest.length (cap - 1)) st.hops (.slice a3 n3 c3) false ⟨#[]⟩ 0) 81)).alloc (.cells zw8 81)).heap[w.heap.size + 1]? = some (.cells zw8 81 (0, 0)) := new_two w _ _ _
  have hsw : ((w.alloc (.cells (wk8 (.slice (some ⟨bb, oo, none⟩) st.L.length c1) st.here (.slice (tailA g o cap) rest.length (cap - 1)) st.hops (.slice a3 n3 c3) false ⟨#[]⟩ 0) 81)).alloc (.cells zw8 81)).heap.size = w.heap.size + 2 := by simp
  clear hc hlt hn1 hn2 hg hvv hva hLi hai hveq
  go_enter Tryz.func52, Tryz.ntmps52
  go_wp2_with (first | (go_at_call 78; refine (join_r _ _ _ (by omega)).mono ?_; rintro e w1 ⟨rfl, hw1⟩; replace hw1 := hw1.symm; subst hw1) | (go_at_call 79; refine (at_r _ st.L _ _ (hEv.below (two_below _ _ _)) hLl).mono ?_; rintro e w1 ⟨rfl, hw1⟩; replace hw1 := hw1.symm; subst hw1; rw [HAT.out]))
  generalize (w.alloc (.cells (wk8 (.slice (some ⟨bb, oo, none⟩) st.L.length c1) st.here (.slice (tailA g o cap) rest.length (cap - 1)) st.hops (.slice a3 n3 c3) false ⟨#[]⟩ 0) 81)).alloc (.cells zw8 81) = W0 at *
  refine wp_region_noPanic ?_
  refine wp_region_held_drew (S := fun W => W.heap[w.heap.size]? = some (.cells (wk8 (.slice (some ⟨bb, oo, none⟩) st.L.length c1) st.here (.slice (tailA g o cap) rest.length (cap - 1)) st.hops (.slice a3 n3 c3) false ⟨#[]⟩ 0) 81) ∧ W.cell? ⟨bb, oo + ai * 5 + 4, none⟩ = some (.string e.link) ∧ (∃ cs : Array Value, cs.size = 8 ∧ W.heap[w.heap.size + 1]? = some (.cells cs 81 (0, 0))) ∧ Below w.heap.size w W) (by kernel_rfl) ⟨hk0, d4, ⟨zw8, rfl, hk1⟩, hb0.trans ⟨rfl, rfl, rfl, Nat.le_refl _, fun _ _ => rfl⟩⟩ (fun h0 => ?_)
  have hsd : W0.drew.heap.size = w.heap.size + 2 := hsw
  have HW0 : Hid (Below W0.heap.size W0 W0.drew) := ⟨rfl, rfl, rfl, Nat.le_refl _, fun _ _ => rfl⟩
  generalize W0.drew = wd at *
  refine wpAnyH_take (i := 0) (v := .agg (wk8 (.slice (some ⟨bb, oo, none⟩) st.L.length c1) st.here (.slice (tailA g o cap) rest.length (cap - 1)) st.hops (.slice a3 n3 c3) false ⟨#[]⟩ 0)) rfl (by kernel_rfl) (by kernel_rfl) (by kernel_rfl) (fun _ _ _ h => h) (Or.inl ⟨by rfl, fun w hSw => by obtain ⟨s0, s1, s2, s3⟩ := hSw; have q0 := w8_cells (j := 0) s0 rfl; have q1 := w8_cells (j := 1) s0 rfl; have q2 := w8_cells (j := 2) s0 rfl; have q3 := w8_cells (j := 3) s0 rfl; have q4 := w8_cells (j := 4) s0 rfl; have q5 := w8_cells (j := 5) s0 rfl; have q6 := w8_cells (j := 6) s0 rfl; have q7 := w8_cells (j := 7) s0 rfl; simp only [List.getElem_toArray, List.getElem_cons_zero, List.getElem_cons_succ] at q0 q1 q2 q3 q4 q5 q6 q7; go_simp <;> first | omega | rfl⟩) h0 ?_
  try dsimp [Act.put]
  try simp only [List.setIfInBounds_toArray, List.set_cons_succ, List.set_cons_zero]
  refine wpAnyH_take (i := 1) (v := .pointer (some ⟨w.heap.size, 0, none⟩)) rfl (by kernel_rfl) (by kernel_rfl) (by kernel_rfl) (fun _ _ _ h => h) (Or.inl ⟨by rfl, fun w hSw => by obtain ⟨s0, s1, s2, s3⟩ := hSw; go_simp <;> first | omega | rfl⟩) h0 ?_
  try dsimp [Act.put]
  try simp only [List.setIfInBounds_toArray, List.set_cons_succ, List.set_cons_zero]
  refine wpAnyH_take (i := 2) (v := .slice (some ⟨bb, oo, none⟩) st.L.length c1) rfl (by kernel_rfl) (by kernel_rfl) (by kernel_rfl) (fun _ _ _ h => h) (Or.inl ⟨by rfl, fun w hSw => by obtain ⟨s0, s1, s2, s3⟩ := hSw; have q0 := w8_cells (j := 0) s0 rfl; have q1 := w8_cells (j := 1) s0 rfl; have q2 := w8_cells (j := 2) s0 rfl; have q3 := w8_cells (j := 3) s0 rfl; have q4 := w8_cells (j := 4) s0 rfl; have q5 := w8_cells (j := 5) s0 rfl; have q6 := w8_cells (j := 6) s0 rfl; have q7 := w8_cells (j := 7) s0 rfl; simp only [List.getElem_toArray, List.getElem_cons_zero, List.getElem_cons_succ] at q0 q1 q2 q3 q4 q5 q6 q7; go_simp <;> first | omega | rfl⟩) h0 ?_
  try dsimp [Act.put]
  try simp only [List.setIfInBounds_toArray, List.set_cons_succ, List.set_cons_zero]
  refine wpAnyH_take (i := 3) (v := .int .i64 ai) rfl (by kernel_rfl) (by kernel_rfl) (by kernel_rfl) (fun _ _ _ h => h) (Or.inl ⟨by rfl, fun w hSw => by obtain ⟨s0, s1, s2, s3⟩ := hSw; go_simp <;> first | omega | rfl⟩) h0 ?_
  try dsimp [Act.put]
  try simp only [List.setIfInBounds_toArray, List.set_cons_succ, List.set_cons_zero]
  refine wpAnyH_take (i := 4) (v := .pointer (some ⟨bb, oo + ai * 5, none⟩)) rfl (by kernel_rfl) (by kernel_rfl) (by kernel_rfl) (fun _ _ _ h => h) (Or.inl ⟨by rfl, fun w hSw => by obtain ⟨s0, s1, s2, s3⟩ := hSw; go_simp <;> first | omega | rfl⟩) h0 ?_
  try dsimp [Act.put]
  try simp only [List.setIfInBounds_toArray, List.set_cons_succ, List.set_cons_zero]
  refine wpAnyH_take (i := 5) (v := .pointer (some ⟨bb, oo + ai * 5 + 4, none⟩)) rfl (by kernel_rfl) (by kernel_rfl) (by kernel_rfl) (fun _ _ _ h => h) (Or.inl ⟨by rfl, fun w hSw => by obtain ⟨s0, s1, s2, s3⟩ := hSw; go_simp <;> first | omega | rfl⟩) h0 ?_
  try dsimp [Act.put]
  try simp only [List.setIfInBounds_toArray, List.set_cons_succ, List.set_cons_zero]
  refine wpAnyH_take (i := 6) (v := .string e.link) rfl (by kernel_rfl) (by kernel_rfl) (by kernel_rfl) (fun _ _ _ h => h) (Or.inl ⟨by rfl, fun w hSw => by obtain ⟨s0, s1, s2, s3⟩ := hSw; go_simp <;> first | omega | rfl⟩) h0 ?_
  try dsimp [Act.put]
  try simp only [List.setIfInBounds_toArray, List.set_cons_succ, List.set_cons_zero]
  refine wpAnyH_ready (rs := [7]) (by kernel_rfl) (by simp) ?_
  refine AllReadyH.cons rfl ?_ AllReadyH.nil
  intro K' hK
  rw [if_pos (by rfl)]
  go_simp
  refine (followed_12 _ _ H40.out).mono ?_
  rintro e3 w3 ⟨rfl, hb3⟩
  have hS3 : w3.heap[w.heap.size]? = some (.cells (wk8 (.slice (some ⟨bb, oo, none⟩) st.L.length c1) st.here (.slice (tailA g o cap) rest.length (cap - 1)) st.hops (.slice a3 n3 c3) false ⟨#[]⟩ 0) 81) ∧ w3.cell? ⟨bb, oo + ai * 5 + 4, none⟩ = some (.string e.link) ∧ (∃ cs : Array Value, cs.size = 8 ∧ w3.heap[w.heap.size + 1]? = some (.cells cs 81 (0, 0))) ∧ Below w.heap.size w w3 := ⟨(hb3.block _ (by omega)).trans h0.1, (hb3.cell (p := ⟨bb, oo + ai * 5 + 4, none⟩) (show bb < wd.heap.size by omega)).trans h0.2.1, by obtain ⟨cs, h1, h2⟩ := h0.2.2.1; exact ⟨cs, h1, (hb3.block _ (by omega)).trans h2⟩, h0.2.2.2.trans (hb3.mono (by omega))⟩
  refine hK.out _ _ hS3 (fun _ => ?_)
  clear hK
  try dsimp [Act.put]
  try simp only [List.setIfInBounds_toArray, List.set_cons_succ, List.set_cons_zero]
  refine wpAnyH_ready (rs := [8]) (by kernel_rfl) (by simp) ?_
  refine AllReadyH.cons rfl ?_ AllReadyH.nil
  intro K' hK
  rw [if_pos (by rfl)]
  obtain ⟨cz, hz1, hz2⟩ := hS3.2.2.1
  refine wp_store_row 81 (.tmp 4) (.tmp 85) rfl (w.heap.size + 1) (wk8 (.slice (some ⟨bb, oo, none⟩) st.L.length c1) st.here (.slice (tailA g o cap) rest.length (cap - 1)) st.hops (.slice a3 n3 c3) false ⟨#[]⟩ 12) rfl rfl 81 cz hz2 (info_w8 _ rfl) hz1 (one_w8 _ _ _ _ _ _ _ _ _ _ _ _ _ _) ?_
  have hb0s : w.heap.size < w3.heap.size := (Array.getElem?_eq_some_iff.1 hS3.1).1
  have hbF : Below w.heap.size w (w3.setRow (w.heap.size + 1) (wk8 (.slice (some ⟨bb, oo, none⟩) st.L.length c1) st.here (.slice (tailA g o cap) rest.length (cap - 1)) st.hops (.slice a3 n3 c3) false ⟨#[]⟩ 12)) := below_setRow' hS3.2.2.2 (by omega) _
  refine hK.out _ _ ⟨(setRow_other _ _ _ _ (by omega)).trans hS3.1, (by have h4 := hS3.2.1; unfold World.cell? at h4 ⊢; rw [show (w3.setRow (w.heap.size + 1) (wk8 (.slice (some ⟨bb, oo, none⟩) st.L.length c1) st.here (.slice (tailA g o cap) rest.length (cap - 1)) st.hops (.slice a3 n3 c3) false ⟨#[]⟩ 12)).heap[bb]? = w3.heap[bb]? from setRow_other _ _ _ _ (by omega)]; exact h4), ⟨_, rfl, setRow_heap _ _ _ _ _ _ hz2⟩, hbF⟩ (fun _ => ?_)
  clear hK
  try dsimp [Act.put]
  try simp only [List.setIfInBounds_toArray, List.set_cons_succ, List.set_cons_zero]
  refine wpAnyH_done (by kernel_rfl) ?_ _
  refine NoPanic.normal ?_
  go_wp2
  refine bodyPost_ret (results_cell_row rfl _ _ (w.heap.size + 1) 81 _ (0, 0) _ rfl (setRow_heap _ (w.heap.size + 1) _ _ _ (0, 0) hz2) Tryz.underlying81 rfl (info_w8 _ rfl)) rfl ?_
  exact ⟨hbF, st.here, _, st.hops, false, ⟨#[]⟩, by rw [HST.out], ⟨_, _, _, rfl⟩, fun h => absurd h (by rw [HST.out]; decide)⟩
set_option maxRecDepth 100000 in
set_option maxHeartbeats 4000000 in
theorem docstep_link_0 (g o cap : Nat) (st : St) (c : ByteArray) (rest : List ByteArray) (w : World) (hcap : rest.length + 1 ≤ cap) (hcm : cap ≤ 9223372036854775807) (hc : ∀ i x, (c :: rest)[i]? = some x → w.cell? ⟨g, o + i, none⟩ = some (.string x)) (hF : Far st c) (hEv : EntsAt w (.slice a1 st.L.length c1) st.L) (hLl : st.L.length ≤ 1073741824) (e : Ent) (hg : getE st.L (joinB st.here c) = some e) (hk : e.kind = 3) (h40 : st.hops ≠ 40) (hh : st.hops ≤ 40) (hls : e.link.size ≤ 100) (hl0 : e.link.size ≠ 0) (hrl : rest.length ≤ 2199023255552) :
    Calls Tryz.prog 52 #[.agg (wk8 (.slice a1 st.L.length c1) st.here (.slice (some ⟨g, o, none⟩) (rest.length + 1) cap) st.hops (.slice a3 n3 c3) false ⟨#[]⟩ 0), .int .i64 0] w (DocPost g w (.slice a1 st.L.length c1) (.slice a3 n3 c3) ⟨0, false, false⟩ st c rest) := by
  obtain ⟨hn1, hn2, hs, hcs⟩ := hF
  have hb1 := ne_dot hn1
  have hb2 := ne_dd hn2
  have hjs := join_size st.here c
  have k0 : w.cell? ⟨g, o, none⟩ = some (.string c) := hc 0 _ rfl
  have hgl := World.block_lt_of_cell? w _ k0
  have hlt := left_tail w.heap.size hcap hcm hc
  have hT := slice_tail g o cap rest.length hcap hcm
  have HLT : Hid (LeftB (fun k => k = g ∨ w.heap.size ≤ k) w (.slice (tailA g o cap) rest.length (cap - 1)) rest) := hlt
  obtain ⟨ai, hai, hLi⟩ := at_some (show st.L.find? (pathIs (joinB st.here c)) = some e by have := hg; unfold getE at this; split at this <;> first | cases this | exact this)
  have HAT : Hid (atN st.L (joinB st.here c) = (ai : Int)) := hai
  have hLt := (List.getElem?_eq_some_iff.1 hLi).1
  obtain ⟨av, cav, bb, oo, hveq, hva, hvc, hvv⟩ := id hEv
  obtain ⟨rfl, -⟩ : a1 = av ∧ c1 = cav := by simpa using hveq
  obtain rfl := hva (fun e => by rw [e] at hLt; simp at hLt)
  have hbl := World.block_lt_of_cell? w _ (hvv ai e hLi).c0
  have hE2 := (hvv ai e hLi).below (two_below w (.cells (wk8 (.slice (some ⟨bb, oo, none⟩) st.L.length c1) st.here (.slice (tailA g o cap) rest.length (cap - 1)) st.hops (.slice a3 n3 c3) false ⟨#[]⟩ 0) 81) (.cells zw8 81))
  have d1 := hE2.c1
  have d4 := hE2.c4
  have j1 : ¬ (ai : Int) < 0 := by omega
  have j2 : (0 : Int) ≤ (ai : Int) := by omega
  have j3 : (ai : Int) < (st.L.length : Int) := by omega
  have HST : Hid (stepN ⟨0, false, false⟩ st c rest = (0, { st with here := if slashed e.link then ⟨#[]⟩ else st.here, left := namesB e.link ++ rest, hops := st.hops + 1 })) := by unfold Hid stepN; rw [if_neg hn1, if_neg hn2, hg]; simp only [thereN, isFile, isLink, hk, linkS, h40]; rfl
  rw [hk] at d1
  have hb0 : Below w.heap.size w ((w.alloc (.cells (wk8 (.slice (some ⟨bb, oo, none⟩) st.L.length c1) st.here (.slice (tailA g o cap) rest.length (cap - 1)) st.hops (.slice a3 n3 c3) false ⟨#[]⟩ 0) 81)).alloc (.cells zw8 81)) := two_below _ _ _
  have hk0 : ((w.alloc (.cells (wk8 (.slice (some ⟨bb, oo, none⟩) st.L.length c1) st.here (.slice (tailA g o cap) rest.length (cap - 1)) st.hops (.slice a3 n3 c3) false ⟨#[]⟩ 0) 81)).alloc (.cells zw8 81)).heap[w.heap.size]? = some (.cells (wk8 (.slice (some ⟨bb, oo, none⟩) st.L.length c1) st.here (.slice (tailA g o cap) rest.length (cap - 1)) st.hops (.slice a3 n3 c3) false ⟨#[]⟩ 0) 81) := (Below.heap_alloc _ _ _ (by simp)).trans (World.alloc_heap_new w _)
  have hk1 : ((w.alloc (.cells (wk8 (.slice (some ⟨bb, oo, none⟩) st.L.length c1) st.here (.slice (tailA g o cap) rest.length (cap - 1)) st.hops (.slice a3 n3 c3) false ⟨#[]⟩ 0) 81)).alloc (.cells zw8 81)).heap[w.heap.size + 1]? = some (.cells zw8 81 (0, 0)) := new_two w _ _ _
  have hsw : ((w.alloc (.cells (wk8 (.slice (some ⟨bb, oo, none⟩) st.L.length c1) st.here (.slice (tailA g o cap) rest.length (cap - 1)) st.hops (.slice a3 n3 c3) false ⟨#[]⟩ 0) 81)).alloc (.cells zw8 81)).heap.size = w.heap.size + 2 := by simp
  clear hc hlt hn1 hn2 hg hvv hva hLi hai hveq
  go_enter Tryz.func52, Tryz.ntmps52
  go_wp2_with (first | (go_at_call 78; refine (join_r _ _ _ (by omega)).mono ?_; rintro e w1 ⟨rfl, hw1⟩; replace hw1 := hw1.symm; subst hw1) | (go_at_call 79; refine (at_r _ st.L _ _ (hEv.below (two_below _ _ _)) hLl).mono ?_; rintro e w1 ⟨rfl, hw1⟩; replace hw1 := hw1.symm; subst hw1; rw [HAT.out]))
  generalize (w.alloc (.cells (wk8 (.slice (some ⟨bb, oo, none⟩) st.L.length c1) st.here (.slice (tailA g o cap) rest.length (cap - 1)) st.hops (.slice a3 n3 c3) false ⟨#[]⟩ 0) 81)).alloc (.cells zw8 81) = W0 at *
  refine wp_region_noPanic ?_
  refine wp_region_held_drew (S := fun W => W.heap[w.heap.size]? = some (.cells (wk8 (.slice (some ⟨bb, oo, none⟩) st.L.length c1) st.here (.slice (tailA g o cap) rest.length (cap - 1)) st.hops (.slice a3 n3 c3) false ⟨#[]⟩ 0) 81) ∧ W.cell? ⟨bb, oo + ai * 5 + 4, none⟩ = some (.string e.link) ∧ (∃ cs : Array Value, cs.size = 8 ∧ W.heap[w.heap.size + 1]? = some (.cells cs 81 (0, 0))) ∧ Below w.heap.size w W) (by kernel_rfl) ⟨hk0, d4, ⟨zw8, rfl, hk1⟩, hb0.trans ⟨rfl, rfl, rfl, Nat.le_refl _, fun _ _ => rfl⟩⟩ (fun h0 => ?_)
  have hsd : W0.drew.heap.size = w.heap.size + 2 := hsw
  have HW0 : Hid (Below W0.heap.size W0 W0.drew) := ⟨rfl, rfl, rfl, Nat.le_refl _, fun _ _ => rfl⟩
  generalize W0.drew = wd at *
  refine wpAnyH_take (i := 0) (v := .agg (wk8 (.slice (some ⟨bb, oo, none⟩) st.L.length c1) st.here (.slice (tailA g o cap) rest.length (cap - 1)) st.hops (.slice a3 n3 c3) false ⟨#[]⟩ 0)) rfl (by kernel_rfl) (by kernel_rfl) (by kernel_rfl) (fun _ _ _ h => h) (Or.inl ⟨by rfl, fun w hSw => by obtain ⟨s0, s1, s2, s3⟩ := hSw; have q0 := w8_cells (j := 0) s0 rfl; have q1 := w8_cells (j := 1) s0 rfl; have q2 := w8_cells (j := 2) s0 rfl; have q3 := w8_cells (j := 3) s0 rfl; have q4 := w8_cells (j := 4) s0 rfl; have q5 := w8_cells (j := 5) s0 rfl; have q6 := w8_cells (j := 6) s0 rfl; have q7 := w8_cells (j := 7) s0 rfl; simp only [List.getElem_toArray, List.getElem_cons_zero, List.getElem_cons_succ] at q0 q1 q2 q3 q4 q5 q6 q7; go_simp <;> first | omega | rfl⟩) h0 ?_
  try dsimp [Act.put]
  try simp only [List.setIfInBounds_toArray, List.set_cons_succ, List.set_cons_zero]
  refine wpAnyH_take (i := 1) (v := .pointer (some ⟨w.heap.size, 0, none⟩)) rfl (by kernel_rfl) (by kernel_rfl) (by kernel_rfl) (fun _ _ _ h => h) (Or.inl ⟨by rfl, fun w hSw => by obtain ⟨s0, s1, s2, s3⟩ := hSw; go_simp <;> first | omega | rfl⟩) h0 ?_
  try dsimp [Act.put]
  try simp only [List.setIfInBounds_toArray, List.set_cons_succ, List.set_cons_zero]
  refine wpAnyH_take (i := 2) (v := .slice (some ⟨bb, oo, none⟩) st.L.length c1) rfl (by kernel_rfl) (by kernel_rfl) (by kernel_rfl) (fun _ _ _ h => h) (Or.inl ⟨by rfl, fun w hSw => by obtain ⟨s0, s1, s2, s3⟩ := hSw; have q0 := w8_cells (j := 0) s0 rfl; have q1 := w8_cells (j := 1) s0 rfl; have q2 := w8_cells (j := 2) s0 rfl; have q3 := w8_cells (j := 3) s0 rfl; have q4 := w8_cells (j := 4) s0 rfl; have q5 := w8_cells (j := 5) s0 rfl; have q6 := w8_cells (j := 6) s0 rfl; have q7 := w8_cells (j := 7) s0 rfl; simp only [List.getElem_toArray, List.getElem_cons_zero, List.getElem_cons_succ] at q0 q1 q2 q3 q4 q5 q6 q7; go_simp <;> first | omega | rfl⟩) h0 ?_
  try dsimp [Act.put]
  try simp only [List.setIfInBounds_toArray, List.set_cons_succ, List.set_cons_zero]
  refine wpAnyH_take (i := 3) (v := .int .i64 ai) rfl (by kernel_rfl) (by kernel_rfl) (by kernel_rfl) (fun _ _ _ h => h) (Or.inl ⟨by rfl, fun w hSw => by obtain ⟨s0, s1, s2, s3⟩ := hSw; go_simp <;> first | omega | rfl⟩) h0 ?_
  try dsimp [Act.put]
  try simp only [List.setIfInBounds_toArray, List.set_cons_succ, List.set_cons_zero]
  refine wpAnyH_take (i := 4) (v := .pointer (some ⟨bb, oo + ai * 5, none⟩)) rfl (by kernel_rfl) (by kernel_rfl) (by kernel_rfl) (fun _ _ _ h => h) (Or.inl ⟨by rfl, fun w hSw => by obtain ⟨s0, s1, s2, s3⟩ := hSw; go_simp <;> first | omega | rfl⟩) h0 ?_
  try dsimp [Act.put]
  try simp only [List.setIfInBounds_toArray, List.set_cons_succ, List.set_cons_zero]
  refine wpAnyH_take (i := 5) (v := .pointer (some ⟨bb, oo + ai * 5 + 4, none⟩)) rfl (by kernel_rfl) (by kernel_rfl) (by kernel_rfl) (fun _ _ _ h => h) (Or.inl ⟨by rfl, fun w hSw => by obtain ⟨s0, s1, s2, s3⟩ := hSw; go_simp <;> first | omega | rfl⟩) h0 ?_
  try dsimp [Act.put]
  try simp only [List.setIfInBounds_toArray, List.set_cons_succ, List.set_cons_zero]
  refine wpAnyH_take (i := 6) (v := .string e.link) rfl (by kernel_rfl) (by kernel_rfl) (by kernel_rfl) (fun _ _ _ h => h) (Or.inl ⟨by rfl, fun w hSw => by obtain ⟨s0, s1, s2, s3⟩ := hSw; go_simp <;> first | omega | rfl⟩) h0 ?_
  try dsimp [Act.put]
  try simp only [List.setIfInBounds_toArray, List.set_cons_succ, List.set_cons_zero]
  refine wpAnyH_ready (rs := [7]) (by kernel_rfl) (by simp) ?_
  refine AllReadyH.cons rfl ?_ AllReadyH.nil
  intro K' hK
  rw [if_pos (by rfl)]
  go_simp
  refine (followed_0 e.link rest _ (HLT.out.below h0.2.2.2).toAt h40 hh hls hl0 hrl).mono ?_
  rintro e3 w3 ⟨lv3, rfl, how3, hb3⟩
  obtain ⟨u1, u3, rfl⟩ := row_form how3
  have hS3 : w3.heap[w.heap.size]? = some (.cells (wk8 (.slice (some ⟨bb, oo, none⟩) st.L.length c1) st.here (.slice (tailA g o cap) rest.length (cap - 1)) st.hops (.slice a3 n3 c3) false ⟨#[]⟩ 0) 81) ∧ w3.cell? ⟨bb, oo + ai * 5 + 4, none⟩ = some (.string e.link) ∧ (∃ cs : Array Value, cs.size = 8 ∧ w3.heap[w.heap.size + 1]? = some (.cells cs 81 (0, 0))) ∧ Below w.heap.size w w3 := ⟨(hb3.block _ (by omega)).trans h0.1, (hb3.cell (p := ⟨bb, oo + ai * 5 + 4, none⟩) (show bb < wd.heap.size by omega)).trans h0.2.1, by obtain ⟨cs, h1, h2⟩ := h0.2.2.1; exact ⟨cs, h1, (hb3.block _ (by omega)).trans h2⟩, h0.2.2.2.trans (hb3.mono (by omega))⟩
  refine hK.out _ _ hS3 (fun _ => ?_)
  clear hK
  try dsimp [Act.put]
  try simp only [List.setIfInBounds_toArray, List.set_cons_succ, List.set_cons_zero]
  refine wpAnyH_ready (rs := [8]) (by kernel_rfl) (by simp) ?_
  refine AllReadyH.cons rfl ?_ AllReadyH.nil
  intro K' hK
  rw [if_pos (by rfl)]
  obtain ⟨cz, hz1, hz2⟩ := hS3.2.2.1
  refine wp_store_row 81 (.tmp 4) (.tmp 85) rfl (w.heap.size + 1) (wk8 (.slice (some ⟨bb, oo, none⟩) st.L.length c1) (hereS st.here e.link) (.slice u1 (namesB e.link ++ rest).length u3) (st.hops + 1) (.slice a3 n3 c3) false ⟨#[]⟩ 0) rfl rfl 81 cz hz2 (info_w8 _ rfl) hz1 (one_w8 _ _ _ _ _ _ _ _ _ _ _ _ _ _) ?_
  have hb0s : w.heap.size < w3.heap.size := (Array.getElem?_eq_some_iff.1 hS3.1).1
  have hbF : Below w.heap.size w (w3.setRow (w.heap.size + 1) (wk8 (.slice (some ⟨bb, oo, none⟩) st.L.length c1) (hereS st.here e.link) (.slice u1 (namesB e.link ++ rest).length u3) (st.hops + 1) (.slice a3 n3 c3) false ⟨#[]⟩ 0)) := below_setRow' hS3.2.2.2 (by omega) _
  refine hK.out _ _ ⟨(setRow_other _ _ _ _ (by omega)).trans hS3.1, (by have h4 := hS3.2.1; unfold World.cell? at h4 ⊢; rw [show (w3.setRow (w.heap.size + 1) (wk8 (.slice (some ⟨bb, oo, none⟩) st.L.length c1) (hereS st.here e.link) (.slice u1 (namesB e.link ++ rest).length u3) (st.hops + 1) (.slice a3 n3 c3) false ⟨#[]⟩ 0)).heap[bb]? = w3.heap[bb]? from setRow_other _ _ _ _ (by omega)]; exact h4), ⟨_, rfl, setRow_heap _ _ _ _ _ _ hz2⟩, hbF⟩ (fun _ => ?_)
  clear hK
  try dsimp [Act.put]
  try simp only [List.setIfInBounds_toArray, List.set_cons_succ, List.set_cons_zero]
  refine wpAnyH_done (by kernel_rfl) ?_ _
  refine NoPanic.normal ?_
  go_wp2
  refine bodyPost_ret (results_cell_row rfl _ _ (w.heap.size + 1) 81 _ (0, 0) _ rfl (setRow_heap _ (w.heap.size + 1) _ _ _ (0, 0) hz2) Tryz.underlying81 rfl (info_w8 _ rfl)) rfl ?_
  exact ⟨hbF, hereS st.here e.link, _, st.hops + 1, false, ⟨#[]⟩, by rw [HST.out], ⟨_, _, _, rfl⟩, fun _ => .inl ⟨rfl, rfl, by rw [HST.out]; rfl, by rw [HST.out], by rw [HST.out]; exact leftB_of_owns (row_loc how3 (fun k hk => setRow_other _ _ _ _ (by have := (how3.lt k hk).1; omega))) (fun k hk => .inr (by omega))⟩⟩
set_option maxRecDepth 100000 in
set_option maxHeartbeats 4000000 in
theorem docstep_12_1 (g o cap : Nat) (st : St) (c : ByteArray) (rest : List ByteArray) (w : World) (hcap : rest.length + 1 ≤ cap) (hcm : cap ≤ 9223372036854775807) (hc : ∀ i x, (c :: rest)[i]? = some x → w.cell? ⟨g, o + i, none⟩ = some (.string x)) (hF : Far st c) (hEv : EntsAt w (.slice a1 st.L.length c1) st.L) (hLl : st.L.length ≤ 1073741824) (e : Ent) (hg : getE st.L (joinB st.here c) = some e) (hk : e.kind = 3) (h40 : st.hops = 40) (hr : rest ≠ []) :
    Calls Tryz.prog 52 #[.agg (wk8 (.slice a1 st.L.length c1) st.here (.slice (some ⟨g, o, none⟩) (rest.length + 1) cap) st.hops (.slice a3 n3 c3) false ⟨#[]⟩ 0), .int .i64 1] w (DocPost g w (.slice a1 st.L.length c1) (.slice a3 n3 c3) ⟨0, false, true⟩ st c rest) := by
  obtain ⟨hn1, hn2, hs, hcs⟩ := hF
  have hb1 := ne_dot hn1
  have hb2 := ne_dd hn2
  have hjs := join_size st.here c
  have k0 : w.cell? ⟨g, o, none⟩ = some (.string c) := hc 0 _ rfl
  have hgl := World.block_lt_of_cell? w _ k0
  have hlt := left_tail w.heap.size hcap hcm hc
  have hT := slice_tail g o cap rest.length hcap hcm
  have HLT : Hid (LeftB (fun k => k = g ∨ w.heap.size ≤ k) w (.slice (tailA g o cap) rest.length (cap - 1)) rest) := hlt
  obtain ⟨ai, hai, hLi⟩ := at_some (show st.L.find? (pathIs (joinB st.here c)) = some e by have := hg; unfold getE at this; split at this <;> first | cases this | exact this)
  have HAT : Hid (atN st.L (joinB st.here c) = (ai : Int)) := hai
  have hLt := (List.getElem?_eq_some_iff.1 hLi).1
  obtain ⟨av, cav, bb, oo, hveq, hva, hvc, hvv⟩ := id hEv
  obtain ⟨rfl, -⟩ : a1 = av ∧ c1 = cav := by simpa using hveq
  obtain rfl := hva (fun e => by rw [e] at hLt; simp at hLt)
  have hbl := World.block_lt_of_cell? w _ (hvv ai e hLi).c0
  have hE2 := (hvv ai e hLi).below (two_below w (.cells (wk8 (.slice (some ⟨bb, oo, none⟩) st.L.length c1) st.here (.slice (tailA g o cap) rest.length (cap - 1)) st.hops (.slice a3 n3 c3) false ⟨#[]⟩ 0) 81) (.cells zw8 81))
  have d1 := hE2.c1
  have d4 := hE2.c4
  have j1 : ¬ (ai : Int) < 0 := by omega
  have j2 : (0 : Int) ≤ (ai : Int) := by omega
  have j3 : (ai : Int) < (st.L.length : Int) := by omega
  have hrd : ((rest.length : Int) == 0) = false := by rw [beq_eq_false_iff_ne]; have h7 : rest.length ≠ 0 := fun e => hr (List.eq_nil_of_length_eq_zero e); omega
  have hre : rest.isEmpty = false := by cases rest with | nil => exact absurd rfl hr | cons a b => rfl
  have HST : Hid ((stepN ⟨0, false, true⟩ st c rest).1 = 12) := by unfold Hid stepN; rw [if_neg hn1, if_neg hn2, hg]; simp only [thereN, isFile, isLink, hk, linkS, h40, hre]; rfl
  have H40 : Hid (st.hops = 40) := h40
  clear h40
  rw [hk] at d1
  have hb0 : Below w.heap.size w ((w.alloc (.cells (wk8 (.slice (some ⟨bb, oo, none⟩) st.L.length c1) st.here (.slice (tailA g o cap) rest.length (cap - 1)) st.hops (.slice a3 n3 c3) false ⟨#[]⟩ 0) 81)).alloc (.cells zw8 81)) := two_below _ _ _
  have hk0 : ((w.alloc (.cells (wk8 (.slice (some ⟨bb, oo, none⟩) st.L.length c1) st.here (.slice (tailA g o cap) rest.length (cap - 1)) st.hops (.slice a3 n3 c3) false ⟨#[]⟩ 0) 81)).alloc (.cells zw8 81)).heap[w.heap.size]? = some (.cells (wk8 (.slice (some ⟨bb, oo, none⟩) st.L.length c1) st.here (.slice (tailA g o cap) rest.length (cap - 1)) st.hops (.slice a3 n3 c3) false ⟨#[]⟩ 0) 81) := (Below.heap_alloc _ _ _ (by simp)).trans (World.alloc_heap_new w _)
  have hk1 : ((w.alloc (.cells (wk8 (.slice (some ⟨bb, oo, none⟩) st.L.length c1) st.here (.slice (tailA g o cap) rest.length (cap - 1)) st.hops (.slice a3 n3 c3) false ⟨#[]⟩ 0) 81)).alloc (.cells zw8 81)).heap[w.heap.size + 1]? = some (.cells zw8 81 (0, 0)) := new_two w _ _ _
  have hsw : ((w.alloc (.cells (wk8 (.slice (some ⟨bb, oo, none⟩) st.L.length c1) st.here (.slice (tailA g o cap) rest.length (cap - 1)) st.hops (.slice a3 n3 c3) false ⟨#[]⟩ 0) 81)).alloc (.cells zw8 81)).heap.size = w.heap.size + 2 := by simp
  clear hc hlt hn1 hn2 hg hvv hva hLi hai hveq
  go_enter Tryz.func52, Tryz.ntmps52
  go_wp2_with (first | (go_at_call 78; refine (join_r _ _ _ (by omega)).mono ?_; rintro e w1 ⟨rfl, hw1⟩; replace hw1 := hw1.symm; subst hw1) | (go_at_call 79; refine (at_r _ st.L _ _ (hEv.below (two_below _ _ _)) hLl).mono ?_; rintro e w1 ⟨rfl, hw1⟩; replace hw1 := hw1.symm; subst hw1; rw [HAT.out]))
  generalize (w.alloc (.cells (wk8 (.slice (some ⟨bb, oo, none⟩) st.L.length c1) st.here (.slice (tailA g o cap) rest.length (cap - 1)) st.hops (.slice a3 n3 c3) false ⟨#[]⟩ 0) 81)).alloc (.cells zw8 81) = W0 at *
  refine wp_region_noPanic ?_
  refine wp_region_held_drew (S := fun W => W.heap[w.heap.size]? = some (.cells (wk8 (.slice (some ⟨bb, oo, none⟩) st.L.length c1) st.here (.slice (tailA g o cap) rest.length (cap - 1)) st.hops (.slice a3 n3 c3) false ⟨#[]⟩ 0) 81) ∧ W.cell? ⟨bb, oo + ai * 5 + 4, none⟩ = some (.string e.link) ∧ (∃ cs : Array Value, cs.size = 8 ∧ W.heap[w.heap.size + 1]? = some (.cells cs 81 (0, 0))) ∧ Below w.heap.size w W) (by kernel_rfl) ⟨hk0, d4, ⟨zw8, rfl, hk1⟩, hb0.trans ⟨rfl, rfl, rfl, Nat.le_refl _, fun _ _ => rfl⟩⟩ (fun h0 => ?_)
  have hsd : W0.drew.heap.size = w.heap.size + 2 := hsw
  have HW0 : Hid (Below W0.heap.size W0 W0.drew) := ⟨rfl, rfl, rfl, Nat.le_refl _, fun _ _ => rfl⟩
  generalize W0.drew = wd at *
  refine wpAnyH_take (i := 0) (v := .agg (wk8 (.slice (some ⟨bb, oo, none⟩) st.L.length c1) st.here (.slice (tailA g o cap) rest.length (cap - 1)) st.hops (.slice a3 n3 c3) false ⟨#[]⟩ 0)) rfl (by kernel_rfl) (by kernel_rfl) (by kernel_rfl) (fun _ _ _ h => h) (Or.inl ⟨by rfl, fun w hSw => by obtain ⟨s0, s1, s2, s3⟩ := hSw; have q0 := w8_cells (j := 0) s0 rfl; have q1 := w8_cells (j := 1) s0 rfl; have q2 := w8_cells (j := 2) s0 rfl; have q3 := w8_cells (j := 3) s0 rfl; have q4 := w8_cells (j := 4) s0 rfl; have q5 := w8_cells (j := 5) s0 rfl; have q6 := w8_cells (j := 6) s0 rfl; have q7 := w8_cells (j := 7) s0 rfl; simp only [List.getElem_toArray, List.getElem_cons_zero, List.getElem_cons_succ] at q0 q1 q2 q3 q4 q5 q6 q7; go_simp <;> first | omega | rfl⟩) h0 ?_
  try dsimp [Act.put]
  try simp only [List.setIfInBounds_toArray, List.set_cons_succ, List.set_cons_zero]
  refine wpAnyH_take (i := 1) (v := .pointer (some ⟨w.heap.size, 0, none⟩)) rfl (by kernel_rfl) (by kernel_rfl) (by kernel_rfl) (fun _ _ _ h => h) (Or.inl ⟨by rfl, fun w hSw => by obtain ⟨s0, s1, s2, s3⟩ := hSw; go_simp <;> first | omega | rfl⟩) h0 ?_
  try dsimp [Act.put]
  try simp only [List.setIfInBounds_toArray, List.set_cons_succ, List.set_cons_zero]
  refine wpAnyH_take (i := 2) (v := .slice (some ⟨bb, oo, none⟩) st.L.length c1) rfl (by kernel_rfl) (by kernel_rfl) (by kernel_rfl) (fun _ _ _ h => h) (Or.inl ⟨by rfl, fun w hSw => by obtain ⟨s0, s1, s2, s3⟩ := hSw; have q0 := w8_cells (j := 0) s0 rfl; have q1 := w8_cells (j := 1) s0 rfl; have q2 := w8_cells (j := 2) s0 rfl; have q3 := w8_cells (j := 3) s0 rfl; have q4 := w8_cells (j := 4) s0 rfl; have q5 := w8_cells (j := 5) s0 rfl; have q6 := w8_cells (j := 6) s0 rfl; have q7 := w8_cells (j := 7) s0 rfl; simp only [List.getElem_toArray, List.getElem_cons_zero, List.getElem_cons_succ] at q0 q1 q2 q3 q4 q5 q6 q7; go_simp <;> first | omega | rfl⟩) h0 ?_
  try dsimp [Act.put]
  try simp only [List.setIfInBounds_toArray, List.set_cons_succ, List.set_cons_zero]
  refine wpAnyH_take (i := 3) (v := .int .i64 ai) rfl (by kernel_rfl) (by kernel_rfl) (by kernel_rfl) (fun _ _ _ h => h) (Or.inl ⟨by rfl, fun w hSw => by obtain ⟨s0, s1, s2, s3⟩ := hSw; go_simp <;> first | omega | rfl⟩) h0 ?_
  try dsimp [Act.put]
  try simp only [List.setIfInBounds_toArray, List.set_cons_succ, List.set_cons_zero]
  refine wpAnyH_take (i := 4) (v := .pointer (some ⟨bb, oo + ai * 5, none⟩)) rfl (by kernel_rfl) (by kernel_rfl) (by kernel_rfl) (fun _ _ _ h => h) (Or.inl ⟨by rfl, fun w hSw => by obtain ⟨s0, s1, s2, s3⟩ := hSw; go_simp <;> first | omega | rfl⟩) h0 ?_
  try dsimp [Act.put]
  try simp only [List.setIfInBounds_toArray, List.set_cons_succ, List.set_cons_zero]
  refine wpAnyH_take (i := 5) (v := .pointer (some ⟨bb, oo + ai * 5 + 4, none⟩)) rfl (by kernel_rfl) (by kernel_rfl) (by kernel_rfl) (fun _ _ _ h => h) (Or.inl ⟨by rfl, fun w hSw => by obtain ⟨s0, s1, s2, s3⟩ := hSw; go_simp <;> first | omega | rfl⟩) h0 ?_
  try dsimp [Act.put]
  try simp only [List.setIfInBounds_toArray, List.set_cons_succ, List.set_cons_zero]
  refine wpAnyH_take (i := 6) (v := .string e.link) rfl (by kernel_rfl) (by kernel_rfl) (by kernel_rfl) (fun _ _ _ h => h) (Or.inl ⟨by rfl, fun w hSw => by obtain ⟨s0, s1, s2, s3⟩ := hSw; go_simp <;> first | omega | rfl⟩) h0 ?_
  try dsimp [Act.put]
  try simp only [List.setIfInBounds_toArray, List.set_cons_succ, List.set_cons_zero]
  refine wpAnyH_ready (rs := [7]) (by kernel_rfl) (by simp) ?_
  refine AllReadyH.cons rfl ?_ AllReadyH.nil
  intro K' hK
  rw [if_pos (by rfl)]
  go_simp
  refine (followed_12 _ _ H40.out).mono ?_
  rintro e3 w3 ⟨rfl, hb3⟩
  have hS3 : w3.heap[w.heap.size]? = some (.cells (wk8 (.slice (some ⟨bb, oo, none⟩) st.L.length c1) st.here (.slice (tailA g o cap) rest.length (cap - 1)) st.hops (.slice a3 n3 c3) false ⟨#[]⟩ 0) 81) ∧ w3.cell? ⟨bb, oo + ai * 5 + 4, none⟩ = some (.string e.link) ∧ (∃ cs : Array Value, cs.size = 8 ∧ w3.heap[w.heap.size + 1]? = some (.cells cs 81 (0, 0))) ∧ Below w.heap.size w w3 := ⟨(hb3.block _ (by omega)).trans h0.1, (hb3.cell (p := ⟨bb, oo + ai * 5 + 4, none⟩) (show bb < wd.heap.size by omega)).trans h0.2.1, by obtain ⟨cs, h1, h2⟩ := h0.2.2.1; exact ⟨cs, h1, (hb3.block _ (by omega)).trans h2⟩, h0.2.2.2.trans (hb3.mono (by omega))⟩
  refine hK.out _ _ hS3 (fun _ => ?_)
  clear hK
  try dsimp [Act.put]
  try simp only [List.setIfInBounds_toArray, List.set_cons_succ, List.set_cons_zero]
  refine wpAnyH_ready (rs := [8]) (by kernel_rfl) (by simp) ?_
  refine AllReadyH.cons rfl ?_ AllReadyH.nil
  intro K' hK
  rw [if_pos (by rfl)]
  obtain ⟨cz, hz1, hz2⟩ := hS3.2.2.1
  refine wp_store_row 81 (.tmp 4) (.tmp 85) rfl (w.heap.size + 1) (wk8 (.slice (some ⟨bb, oo, none⟩) st.L.length c1) st.here (.slice (tailA g o cap) rest.length (cap - 1)) st.hops (.slice a3 n3 c3) false ⟨#[]⟩ 12) rfl rfl 81 cz hz2 (info_w8 _ rfl) hz1 (one_w8 _ _ _ _ _ _ _ _ _ _ _ _ _ _) ?_
  have hb0s : w.heap.size < w3.heap.size := (Array.getElem?_eq_some_iff.1 hS3.1).1
  have hbF : Below w.heap.size w (w3.setRow (w.heap.size + 1) (wk8 (.slice (some ⟨bb, oo, none⟩) st.L.length c1) st.here (.slice (tailA g o cap) rest.length (cap - 1)) st.hops (.slice a3 n3 c3) false ⟨#[]⟩ 12)) := below_setRow' hS3.2.2.2 (by omega) _
  refine hK.out _ _ ⟨(setRow_other _ _ _ _ (by omega)).trans hS3.1, (by have h4 := hS3.2.1; unfold World.cell? at h4 ⊢; rw [show (w3.setRow (w.heap.size + 1) (wk8 (.slice (some ⟨bb, oo, none⟩) st.L.length c1) st.here (.slice (tailA g o cap) rest.length (cap - 1)) st.hops (.slice a3 n3 c3) false ⟨#[]⟩ 12)).heap[bb]? = w3.heap[bb]? from setRow_other _ _ _ _ (by omega)]; exact h4), ⟨_, rfl, setRow_heap _ _ _ _ _ _ hz2⟩, hbF⟩ (fun _ => ?_)
  clear hK
  try dsimp [Act.put]
  try simp only [List.setIfInBounds_toArray, List.set_cons_succ, List.set_cons_zero]
  refine wpAnyH_done (by kernel_rfl) ?_ _
  refine NoPanic.normal ?_
  go_wp2
  refine bodyPost_ret (results_cell_row rfl _ _ (w.heap.size + 1) 81 _ (0, 0) _ rfl (setRow_heap _ (w.heap.size + 1) _ _ _ (0, 0) hz2) Tryz.underlying81 rfl (info_w8 _ rfl)) rfl ?_
  exact ⟨hbF, st.here, _, st.hops, false, ⟨#[]⟩, by rw [HST.out], ⟨_, _, _, rfl⟩, fun h => absurd h (by rw [HST.out]; decide)⟩
set_option maxRecDepth 100000 in
set_option maxHeartbeats 4000000 in
theorem docstep_link_1 (g o cap : Nat) (st : St) (c : ByteArray) (rest : List ByteArray) (w : World) (hcap : rest.length + 1 ≤ cap) (hcm : cap ≤ 9223372036854775807) (hc : ∀ i x, (c :: rest)[i]? = some x → w.cell? ⟨g, o + i, none⟩ = some (.string x)) (hF : Far st c) (hEv : EntsAt w (.slice a1 st.L.length c1) st.L) (hLl : st.L.length ≤ 1073741824) (e : Ent) (hg : getE st.L (joinB st.here c) = some e) (hk : e.kind = 3) (h40 : st.hops ≠ 40) (hh : st.hops ≤ 40) (hls : e.link.size ≤ 100) (hl0 : e.link.size ≠ 0) (hrl : rest.length ≤ 2199023255552) (hr : rest ≠ []) :
    Calls Tryz.prog 52 #[.agg (wk8 (.slice a1 st.L.length c1) st.here (.slice (some ⟨g, o, none⟩) (rest.length + 1) cap) st.hops (.slice a3 n3 c3) false ⟨#[]⟩ 0), .int .i64 1] w (DocPost g w (.slice a1 st.L.length c1) (.slice a3 n3 c3) ⟨0, false, true⟩ st c rest) := by
  obtain ⟨hn1, hn2, hs, hcs⟩ := hF
  have hb1 := ne_dot hn1
  have hb2 := ne_dd hn2
  have hjs := join_size st.here c
  have k0 : w.cell? ⟨g, o, none⟩ = some (.string c) := hc 0 _ rfl
  have hgl := World.block_lt_of_cell? w _ k0
  have hlt := left_tail w.heap.size hcap hcm hc
  have hT := slice_tail g o cap rest.length hcap hcm
  have HLT : Hid (LeftB (fun k => k = g ∨ w.heap.size ≤ k) w (.slice (tailA g o cap) rest.length (cap - 1)) rest) := hlt
  obtain ⟨ai, hai, hLi⟩ := at_some (show st.L.find? (pathIs (joinB st.here c)) = some e by have := hg; unfold getE at this; split at this <;> first | cases this | exact this)
  have HAT : Hid (atN st.L (joinB st.here c) = (ai : Int)) := hai
  have hLt := (List.getElem?_eq_some_iff.1 hLi).1
  obtain ⟨av, cav, bb, oo, hveq, hva, hvc, hvv⟩ := id hEv
  obtain ⟨rfl, -⟩ : a1 = av ∧ c1 = cav := by simpa using hveq
  obtain rfl := hva (fun e => by rw [e] at hLt; simp at hLt)
  have hbl := World.block_lt_of_cell? w _ (hvv ai e hLi).c0
  have hE2 := (hvv ai e hLi).below (two_below w (.cells (wk8 (.slice (some ⟨bb, oo, none⟩) st.L.length c1) st.here (.slice (tailA g o cap) rest.length (cap - 1)) st.hops (.slice a3 n3 c3) false ⟨#[]⟩ 0) 81) (.cells zw8 81))
  have d1 := hE2.c1
  have d4 := hE2.c4
  have j1 : ¬ (ai : Int) < 0 := by omega
  have j2 : (0 : Int) ≤ (ai : Int) := by omega
  have j3 : (ai : Int) < (st.L.length : Int) := by omega
  have hrd : ((rest.length : Int) == 0) = false := by rw [beq_eq_false_iff_ne]; have h7 : rest.length ≠ 0 := fun e => hr (List.eq_nil_of_length_eq_zero e); omega
  have hre : rest.isEmpty = false := by cases rest with | nil => exact absurd rfl hr | cons a b => rfl
  have HST : Hid (stepN ⟨0, false, true⟩ st c rest = (0, { st with here := if slashed e.link then ⟨#[]⟩ else st.here, left := namesB e.link ++ rest, hops := st.hops + 1 })) := by unfold Hid stepN; rw [if_neg hn1, if_neg hn2, hg]; simp only [thereN, isFile, isLink, hk, linkS, h40, hre]; rfl
  rw [hk] at d1
  have hb0 : Below w.heap.size w ((w.alloc (.cells (wk8 (.slice (some ⟨bb, oo, none⟩) st.L.length c1) st.here (.slice (tailA g o cap) rest.length (cap - 1)) st.hops (.slice a3 n3 c3) false ⟨#[]⟩ 0) 81)).alloc (.cells zw8 81)) := two_below _ _ _
  have hk0 : ((w.alloc (.cells (wk8 (.slice (some ⟨bb, oo, none⟩) st.L.length c1) st.here (.slice (tailA g o cap) rest.length (cap - 1)) st.hops (.slice a3 n3 c3) false ⟨#[]⟩ 0) 81)).alloc (.cells zw8 81)).heap[w.heap.size]? = some (.cells (wk8 (.slice (some ⟨bb, oo, none⟩) st.L.length c1) st.here (.slice (tailA g o cap) rest.length (cap - 1)) st.hops (.slice a3 n3 c3) false ⟨#[]⟩ 0) 81) := (Below.heap_alloc _ _ _ (by simp)).trans (World.alloc_heap_new w _)
  have hk1 : ((w.alloc (.cells (wk8 (.slice (some ⟨bb, oo, none⟩) st.L.length c1) st.here (.slice (tailA g o cap) rest.length (cap - 1)) st.hops (.slice a3 n3 c3) false ⟨#[]⟩ 0) 81)).alloc (.cells zw8 81)).heap[w.heap.size + 1]? = some (.cells zw8 81 (0, 0)) := new_two w _ _ _
  have hsw : ((w.alloc (.cells (wk8 (.slice (some ⟨bb, oo, none⟩) st.L.length c1) st.here (.slice (tailA g o cap) rest.length (cap - 1)) st.hops (.slice a3 n3 c3) false ⟨#[]⟩ 0) 81)).alloc (.cells zw8 81)).heap.size = w.heap.size + 2 := by simp
  clear hc hlt hn1 hn2 hg hvv hva hLi hai hveq
  go_enter Tryz.func52, Tryz.ntmps52
  go_wp2_with (first | (go_at_call 78; refine (join_r _ _ _ (by omega)).mono ?_; rintro e w1 ⟨rfl, hw1⟩; replace hw1 := hw1.symm; subst hw1) | (go_at_call 79; refine (at_r _ st.L _ _ (hEv.below (two_below _ _ _)) hLl).mono ?_; rintro e w1 ⟨rfl, hw1⟩; replace hw1 := hw1.symm; subst hw1; rw [HAT.out]))
  generalize (w.alloc (.cells (wk8 (.slice (some ⟨bb, oo, none⟩) st.L.length c1) st.here (.slice (tailA g o cap) rest.length (cap - 1)) st.hops (.slice a3 n3 c3) false ⟨#[]⟩ 0) 81)).alloc (.cells zw8 81) = W0 at *
  refine wp_region_noPanic ?_
  refine wp_region_held_drew (S := fun W => W.heap[w.heap.size]? = some (.cells (wk8 (.slice (some ⟨bb, oo, none⟩) st.L.length c1) st.here (.slice (tailA g o cap) rest.length (cap - 1)) st.hops (.slice a3 n3 c3) false ⟨#[]⟩ 0) 81) ∧ W.cell? ⟨bb, oo + ai * 5 + 4, none⟩ = some (.string e.link) ∧ (∃ cs : Array Value, cs.size = 8 ∧ W.heap[w.heap.size + 1]? = some (.cells cs 81 (0, 0))) ∧ Below w.heap.size w W) (by kernel_rfl) ⟨hk0, d4, ⟨zw8, rfl, hk1⟩, hb0.trans ⟨rfl, rfl, rfl, Nat.le_refl _, fun _ _ => rfl⟩⟩ (fun h0 => ?_)
  have hsd : W0.drew.heap.size = w.heap.size + 2 := hsw
  have HW0 : Hid (Below W0.heap.size W0 W0.drew) := ⟨rfl, rfl, rfl, Nat.le_refl _, fun _ _ => rfl⟩
  generalize W0.drew = wd at *
  refine wpAnyH_take (i := 0) (v := .agg (wk8 (.slice (some ⟨bb, oo, none⟩) st.L.length c1) st.here (.slice (tailA g o cap) rest.length (cap - 1)) st.hops (.slice a3 n3 c3) false ⟨#[]⟩ 0)) rfl (by kernel_rfl) (by kernel_rfl) (by kernel_rfl) (fun _ _ _ h => h) (Or.inl ⟨by rfl, fun w hSw => by obtain ⟨s0, s1, s2, s3⟩ := hSw; have q0 := w8_cells (j := 0) s0 rfl; have q1 := w8_cells (j := 1) s0 rfl; have q2 := w8_cells (j := 2) s0 rfl; have q3 := w8_cells (j := 3) s0 rfl; have q4 := w8_cells (j := 4) s0 rfl; have q5 := w8_cells (j := 5) s0 rfl; have q6 := w8_cells (j := 6) s0 rfl; have q7 := w8_cells (j := 7) s0 rfl; simp only [List.getElem_toArray, List.getElem_cons_zero, List.getElem_cons_succ] at q0 q1 q2 q3 q4 q5 q6 q7; go_simp <;> first | omega | rfl⟩) h0 ?_
  try dsimp [Act.put]
  try simp only [List.setIfInBounds_toArray, List.set_cons_succ, List.set_cons_zero]
  refine wpAnyH_take (i := 1) (v := .pointer (some ⟨w.heap.size, 0, none⟩)) rfl (by kernel_rfl) (by kernel_rfl) (by kernel_rfl) (fun _ _ _ h => h) (Or.inl ⟨by rfl, fun w hSw => by obtain ⟨s0, s1, s2, s3⟩ := hSw; go_simp <;> first | omega | rfl⟩) h0 ?_
  try dsimp [Act.put]
  try simp only [List.setIfInBounds_toArray, List.set_cons_succ, List.set_cons_zero]
  refine wpAnyH_take (i := 2) (v := .slice (some ⟨bb, oo, none⟩) st.L.length c1) rfl (by kernel_rfl) (by kernel_rfl) (by kernel_rfl) (fun _ _ _ h => h) (Or.inl ⟨by rfl, fun w hSw => by obtain ⟨s0, s1, s2, s3⟩ := hSw; have q0 := w8_cells (j := 0) s0 rfl; have q1 := w8_cells (j := 1) s0 rfl; have q2 := w8_cells (j := 2) s0 rfl; have q3 := w8_cells (j := 3) s0 rfl; have q4 := w8_cells (j := 4) s0 rfl; have q5 := w8_cells (j := 5) s0 rfl; have q6 := w8_cells (j := 6) s0 rfl; have q7 := w8_cells (j := 7) s0 rfl; simp only [List.getElem_toArray, List.getElem_cons_zero, List.getElem_cons_succ] at q0 q1 q2 q3 q4 q5 q6 q7; go_simp <;> first | omega | rfl⟩) h0 ?_
  try dsimp [Act.put]
  try simp only [List.setIfInBounds_toArray, List.set_cons_succ, List.set_cons_zero]
  refine wpAnyH_take (i := 3) (v := .int .i64 ai) rfl (by kernel_rfl) (by kernel_rfl) (by kernel_rfl) (fun _ _ _ h => h) (Or.inl ⟨by rfl, fun w hSw => by obtain ⟨s0, s1, s2, s3⟩ := hSw; go_simp <;> first | omega | rfl⟩) h0 ?_
  try dsimp [Act.put]
  try simp only [List.setIfInBounds_toArray, List.set_cons_succ, List.set_cons_zero]
  refine wpAnyH_take (i := 4) (v := .pointer (some ⟨bb, oo + ai * 5, none⟩)) rfl (by kernel_rfl) (by kernel_rfl) (by kernel_rfl) (fun _ _ _ h => h) (Or.inl ⟨by rfl, fun w hSw => by obtain ⟨s0, s1, s2, s3⟩ := hSw; go_simp <;> first | omega | rfl⟩) h0 ?_
  try dsimp [Act.put]
  try simp only [List.setIfInBounds_toArray, List.set_cons_succ, List.set_cons_zero]
  refine wpAnyH_take (i := 5) (v := .pointer (some ⟨bb, oo + ai * 5 + 4, none⟩)) rfl (by kernel_rfl) (by kernel_rfl) (by kernel_rfl) (fun _ _ _ h => h) (Or.inl ⟨by rfl, fun w hSw => by obtain ⟨s0, s1, s2, s3⟩ := hSw; go_simp <;> first | omega | rfl⟩) h0 ?_
  try dsimp [Act.put]
  try simp only [List.setIfInBounds_toArray, List.set_cons_succ, List.set_cons_zero]
  refine wpAnyH_take (i := 6) (v := .string e.link) rfl (by kernel_rfl) (by kernel_rfl) (by kernel_rfl) (fun _ _ _ h => h) (Or.inl ⟨by rfl, fun w hSw => by obtain ⟨s0, s1, s2, s3⟩ := hSw; go_simp <;> first | omega | rfl⟩) h0 ?_
  try dsimp [Act.put]
  try simp only [List.setIfInBounds_toArray, List.set_cons_succ, List.set_cons_zero]
  refine wpAnyH_ready (rs := [7]) (by kernel_rfl) (by simp) ?_
  refine AllReadyH.cons rfl ?_ AllReadyH.nil
  intro K' hK
  rw [if_pos (by rfl)]
  go_simp
  refine (followed_0 e.link rest _ (HLT.out.below h0.2.2.2).toAt h40 hh hls hl0 hrl).mono ?_
  rintro e3 w3 ⟨lv3, rfl, how3, hb3⟩
  obtain ⟨u1, u3, rfl⟩ := row_form how3
  have hS3 : w3.heap[w.heap.size]? = some (.cells (wk8 (.slice (some ⟨bb, oo, none⟩) st.L.length c1) st.here (.slice (tailA g o cap) rest.length (cap - 1)) st.hops (.slice a3 n3 c3) false ⟨#[]⟩ 0) 81) ∧ w3.cell? ⟨bb, oo + ai * 5 + 4, none⟩ = some (.string e.link) ∧ (∃ cs : Array Value, cs.size = 8 ∧ w3.heap[w.heap.size + 1]? = some (.cells cs 81 (0, 0))) ∧ Below w.heap.size w w3 := ⟨(hb3.block _ (by omega)).trans h0.1, (hb3.cell (p := ⟨bb, oo + ai * 5 + 4, none⟩) (show bb < wd.heap.size by omega)).trans h0.2.1, by obtain ⟨cs, h1, h2⟩ := h0.2.2.1; exact ⟨cs, h1, (hb3.block _ (by omega)).trans h2⟩, h0.2.2.2.trans (hb3.mono (by omega))⟩
  refine hK.out _ _ hS3 (fun _ => ?_)
  clear hK
  try dsimp [Act.put]
  try simp only [List.setIfInBounds_toArray, List.set_cons_succ, List.set_cons_zero]
  refine wpAnyH_ready (rs := [8]) (by kernel_rfl) (by simp) ?_
  refine AllReadyH.cons rfl ?_ AllReadyH.nil
  intro K' hK
  rw [if_pos (by rfl)]
  obtain ⟨cz, hz1, hz2⟩ := hS3.2.2.1
  refine wp_store_row 81 (.tmp 4) (.tmp 85) rfl (w.heap.size + 1) (wk8 (.slice (some ⟨bb, oo, none⟩) st.L.length c1) (hereS st.here e.link) (.slice u1 (namesB e.link ++ rest).length u3) (st.hops + 1) (.slice a3 n3 c3) false ⟨#[]⟩ 0) rfl rfl 81 cz hz2 (info_w8 _ rfl) hz1 (one_w8 _ _ _ _ _ _ _ _ _ _ _ _ _ _) ?_
  have hb0s : w.heap.size < w3.heap.size := (Array.getElem?_eq_some_iff.1 hS3.1).1
  have hbF : Below w.heap.size w (w3.setRow (w.heap.size + 1) (wk8 (.slice (some ⟨bb, oo, none⟩) st.L.length c1) (hereS st.here e.link) (.slice u1 (namesB e.link ++ rest).length u3) (st.hops + 1) (.slice a3 n3 c3) false ⟨#[]⟩ 0)) := below_setRow' hS3.2.2.2 (by omega) _
  refine hK.out _ _ ⟨(setRow_other _ _ _ _ (by omega)).trans hS3.1, (by have h4 := hS3.2.1; unfold World.cell? at h4 ⊢; rw [show (w3.setRow (w.heap.size + 1) (wk8 (.slice (some ⟨bb, oo, none⟩) st.L.length c1) (hereS st.here e.link) (.slice u1 (namesB e.link ++ rest).length u3) (st.hops + 1) (.slice a3 n3 c3) false ⟨#[]⟩ 0)).heap[bb]? = w3.heap[bb]? from setRow_other _ _ _ _ (by omega)]; exact h4), ⟨_, rfl, setRow_heap _ _ _ _ _ _ hz2⟩, hbF⟩ (fun _ => ?_)
  clear hK
  try dsimp [Act.put]
  try simp only [List.setIfInBounds_toArray, List.set_cons_succ, List.set_cons_zero]
  refine wpAnyH_done (by kernel_rfl) ?_ _
  refine NoPanic.normal ?_
  go_wp2
  refine bodyPost_ret (results_cell_row rfl _ _ (w.heap.size + 1) 81 _ (0, 0) _ rfl (setRow_heap _ (w.heap.size + 1) _ _ _ (0, 0) hz2) Tryz.underlying81 rfl (info_w8 _ rfl)) rfl ?_
  exact ⟨hbF, hereS st.here e.link, _, st.hops + 1, false, ⟨#[]⟩, by rw [HST.out], ⟨_, _, _, rfl⟩, fun _ => .inl ⟨rfl, rfl, by rw [HST.out]; rfl, by rw [HST.out], by rw [HST.out]; exact leftB_of_owns (row_loc how3 (fun k hk => setRow_other _ _ _ _ (by have := (how3.lt k hk).1; omega))) (fun k hk => .inr (by omega))⟩⟩
end Go.Proofs.YtcefgnjgcnboeaaGreatDoor
