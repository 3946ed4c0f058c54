/- tree.Check, Of; what works answers. -/
import Derived.Test.YtfglanibbngdmaaGreatDoorTakeX
import Derived.Test.YtfglanibbngdmaaGreatDoorPlaceFO

namespace Go.Proofs.YtfglanibbngdmaaGreatDoor
open Go Go.RowKit

def e1 : Ent := ⟨⟨#[97]⟩, 1, 493, ⟨#[]⟩, ⟨#[]⟩⟩
def e2 : Ent := ⟨⟨#[97, 47, 98]⟩, 2, 420, ⟨#[120]⟩, ⟨#[]⟩⟩
def e3 : Ent := ⟨⟨#[98, 47, 99]⟩, 2, 420, ⟨#[120]⟩, ⟨#[]⟩⟩
def e4 : Ent := ⟨⟨#[99]⟩, 2, 420, ⟨#[121, 122]⟩, ⟨#[]⟩⟩
theorem kp_a : piecesB ⟨#[97]⟩ = [⟨#[97]⟩] := by decide +kernel
theorem kp_ab : piecesB ⟨#[97, 47, 98]⟩ = [⟨#[97]⟩, ⟨#[98]⟩] := by decide +kernel
theorem kp_bc : piecesB ⟨#[98, 47, 99]⟩ = [⟨#[98]⟩, ⟨#[99]⟩] := by decide +kernel
theorem kp_c : piecesB ⟨#[99]⟩ = [⟨#[99]⟩] := by decide +kernel
theorem kc_a : checkN ⟨#[97]⟩ = 0 := by simp only [checkN, kp_a, toList_un, splitP, whiteoutB, joinB, nameN]; decide +kernel
theorem kc_ab : checkN ⟨#[97, 47, 98]⟩ = 0 := by simp only [checkN, kp_ab, toList_un, splitP, whiteoutB, joinB, nameN]; decide +kernel
theorem kc_bc : checkN ⟨#[98, 47, 99]⟩ = 0 := by simp only [checkN, kp_bc, toList_un, splitP, whiteoutB, joinB, nameN]; decide +kernel
theorem kc_c : checkN ⟨#[99]⟩ = 0 := by simp only [checkN, kp_c, toList_un, splitP, whiteoutB, joinB, nameN]; decide +kernel
theorem kw1 : wrongN e1 = 0 := by simp only [wrongN, e1, kc_a, toList_un]; decide +kernel
theorem kw2 : wrongN e2 = 0 := by simp only [wrongN, e2, kc_ab, toList_un]; decide +kernel
theorem kw3 : wrongN e3 = 0 := by simp only [wrongN, e3, kc_bc, toList_un]; decide +kernel
theorem kw4 : wrongN e4 = 0 := by simp only [wrongN, e4, kc_c, toList_un]; decide +kernel
theorem ko1 : oneN [] e1 = 0 := by simp only [oneN, kw1]; decide +kernel
theorem ko2 : oneN [e1] e2 = 0 := by simp only [oneN, kw2]; decide +kernel
theorem ko3 : oneN [e1] e3 = 10 := by simp only [oneN, kw3]; decide +kernel
theorem kg12 : checkGo [] [e1, e2] = (0, 0) := by simp [checkGo, ko1, ko2]
theorem kg13 : checkGo [] [e1, e3] = (10, 1) := by simp [checkGo, ko1, ko3]
theorem kput : putAll [e1, e2] e4 = 0 := by simp only [putAll, kw4]; decide +kernel
theorem klaid : laidL [e1, e2] e4 = [e1, e2, e4] := laid_end (by
  intro x hx
  simp at hx
  rcases hx with rfl | rfl
  · show compareN ⟨#[97]⟩ ⟨#[99]⟩ < 0; decide +kernel
  · show compareN ⟨#[97, 47, 98]⟩ ⟨#[99]⟩ < 0; decide +kernel)
theorem kget : getE [e1, e2, e4] ⟨#[99]⟩ = some e4 := by
  have h1 : pathIs ⟨#[99]⟩ e1 = false := by decide +kernel
  have h2 : pathIs ⟨#[99]⟩ e2 = false := by decide +kernel
  have h3 : pathIs ⟨#[99]⟩ e4 = true := by decide +kernel
  unfold getE
  rw [if_neg (by decide)]
  simp [List.find?, h1, h2, h3]
theorem kbytes : bytesL [e1, e2, e4] = 3 := by decide +kernel
theorem kgone : goneL [e1, e2, e4] (namesP ⟨#[97]⟩) = [e4] := by
  have h1 : (namesP ⟨#[97]⟩).isPrefixOf (namesP e1.path) = true := by decide +kernel
  have h2 : (namesP ⟨#[97]⟩).isPrefixOf (namesP e2.path) = true := by decide +kernel
  have h3 : (namesP ⟨#[97]⟩).isPrefixOf (namesP e4.path) = false := by decide +kernel
  simp [goneL, h1, h2, h3]
theorem kfind : ([e1, e2, e4] : List Ent).find? (pathIs ⟨#[97]⟩) = some e1 := by
  have h1 : pathIs ⟨#[97]⟩ e1 = true := by decide +kernel
  simp [List.find?, h1]
end Go.Proofs.YtfglanibbngdmaaGreatDoor

namespace Go.Proofs.YtfglanibbngdmaaGreatDoor
open Go Go.RowKit

theorem at_nil (l a : Int) (w : World) : Calls Tryz.prog 11 #[.nilIface, .int .i64 0, .int .i64 l, .int .i64 a] w fun e w' => e = .returned (.bool true) ∧ w' = w := by
  go_enter Tryz.func11, Tryz.ntmps11
  go_wp2
  go_ret
  exact ⟨rfl, rfl⟩
theorem num_nil' (w : World) : Calls Tryz.prog 47 #[.nilIface] w fun e w' => e = .returned (.int .i64 0) ∧ w' = w := by
  go_enter Tryz.func47, Tryz.ntmps47
  go_wp2
  go_ret
  exact ⟨rfl, rfl⟩
end Go.Proofs.YtfglanibbngdmaaGreatDoor

namespace Go.Proofs.YtfglanibbngdmaaGreatDoor
open Go Go.RowKit

set_option maxRecDepth 100000 in
theorem dir_p (p : ByteArray) (w : World) : Calls Tryz.prog 36 #[.string p] w fun e w' => e = .returned (.agg #[.string p, .int .i64 1, .int .i64 493, .string ⟨#[]⟩, .string ⟨#[]⟩]) ∧ Below w.heap.size w w' := by
  have L0 : (w.alloc (.cells #[.string ⟨#[]⟩, .int .i64 0, .int .i64 0, .string ⟨#[]⟩, .string ⟨#[]⟩] 52)).heap[w.heap.size]? = some (.cells #[.string ⟨#[]⟩, .int .i64 0, .int .i64 0, .string ⟨#[]⟩, .string ⟨#[]⟩] 52 (0, 0)) := World.alloc_heap_new w _
  go_enter Tryz.func36, Tryz.ntmps36
  go_wp2_with (refine wpList_store_row rfl 52 (.tmp 2) (.tmp 4) rfl w.heap.size #[.string p, .int .i64 1, .int .i64 493, .string ⟨#[]⟩, .string ⟨#[]⟩] rfl rfl 52 #[.string ⟨#[]⟩, .int .i64 0, .int .i64 0, .string ⟨#[]⟩, .string ⟨#[]⟩] L0 (info_five _ _ _ _ _) rfl (one_five _ _ _ _ _) ?_)
  refine bodyPost_ret (results_cell_row rfl _ _ w.heap.size 52 #[.string p, .int .i64 1, .int .i64 493, .string ⟨#[]⟩, .string ⟨#[]⟩] (0, 0) _ rfl (setRow_heap _ w.heap.size _ _ _ (0, 0) L0) Tryz.underlying52 rfl (info_five _ _ _ _ _)) rfl ?_
  exact ⟨rfl, below_setRow' ((Below.refl _ w).alloc (Nat.le_refl _) _) (Nat.le_refl _) _⟩
set_option maxRecDepth 100000 in
theorem file_p (p d : ByteArray) (w : World) : Calls Tryz.prog 37 #[.string p, .string d] w fun e w' => e = .returned (.agg #[.string p, .int .i64 2, .int .i64 420, .string d, .string ⟨#[]⟩]) ∧ Below w.heap.size w w' := by
  have L0 : (w.alloc (.cells #[.string ⟨#[]⟩, .int .i64 0, .int .i64 0, .string ⟨#[]⟩, .string ⟨#[]⟩] 52)).heap[w.heap.size]? = some (.cells #[.string ⟨#[]⟩, .int .i64 0, .int .i64 0, .string ⟨#[]⟩, .string ⟨#[]⟩] 52 (0, 0)) := World.alloc_heap_new w _
  go_enter Tryz.func37, Tryz.ntmps37
  go_wp2_with (refine wpList_store_row rfl 52 (.tmp 4) (.tmp 7) rfl w.heap.size #[.string p, .int .i64 2, .int .i64 420, .string d, .string ⟨#[]⟩] rfl rfl 52 #[.string ⟨#[]⟩, .int .i64 0, .int .i64 0, .string ⟨#[]⟩, .string ⟨#[]⟩] L0 (info_five _ _ _ _ _) rfl (one_five _ _ _ _ _) ?_)
  refine bodyPost_ret (results_cell_row rfl _ _ w.heap.size 52 #[.string p, .int .i64 2, .int .i64 420, .string d, .string ⟨#[]⟩] (0, 0) _ rfl (setRow_heap _ w.heap.size _ _ _ (0, 0) L0) Tryz.underlying52 rfl (info_five _ _ _ _ _)) rfl ?_
  exact ⟨rfl, below_setRow' ((Below.refl _ w).alloc (Nat.le_refl _) _) (Nat.le_refl _) _⟩
/-- What Check answers. -/
def chkV (es : List Ent) : Value := if (checkGo [] es).1 = 0 then .nilIface else fltA (checkGo [] es).1 (checkGo [] es).2
set_option maxRecDepth 100000 in
theorem check_t (v : Value) (es : List Ent) (w : World) (hg : ErrType w) (hv : EntsAt w v es) (hl : es.length ≤ 4611686018427387904) (hp : ∀ e ∈ es, e.path.size < 1152921504606846976) :
    Calls Tryz.prog 12 #[v] w fun e w' => e = .returned (chkV es) ∧ Below w.heap.size w w' := by
  have hG := grow_p v es w hg hv hl hp
  by_cases hc : (checkGo [] es).1 = 0
  · have HV : Hid (chkV es = .nilIface) := if_pos hc
    have HC : Hid ((checkGo [] es).1 = 0) := hc
    clear hc
    go_enter Tryz.func12, Tryz.ntmps12
    go_wp2_with (go_at_call 48; refine hG.mono ?_; rintro e w1 ⟨hb, h1⟩; obtain ⟨_, tb, F, rfl, hT⟩ := h1.resolve_right (fun h => h.1 HC.out))
    go_ret
    exact ⟨congrArg Ending.returned HV.out.symm, hb⟩
  · have HV : Hid (chkV es = fltA (checkGo [] es).1 (checkGo [] es).2) := if_neg hc
    have HC : Hid ((checkGo [] es).1 ≠ 0) := hc
    clear hc
    go_enter Tryz.func12, Tryz.ntmps12
    go_wp2_with (go_at_call 48; refine hG.mono ?_; rintro e w1 ⟨hb, h1⟩; obtain ⟨_, rfl⟩ := h1.resolve_left (fun h => HC.out h.1))
    go_ret
    exact ⟨congrArg Ending.returned HV.out.symm, hb⟩
set_option maxRecDepth 100000 in
theorem of_t (v : Value) (es : List Ent) (w : World) (hg : ErrType w) (hv : EntsAt w v es) (hl : es.length ≤ 4611686018427387904) (hp : ∀ e ∈ es, e.path.size < 1152921504606846976) (hc : (checkGo [] es).1 = 0) :
    Calls Tryz.prog 22 #[v] w fun e w' => Below w.heap.size w w' ∧ ∃ tb F, e = .returned (.tuple #[.pointer (some ⟨tb, 0, none⟩), .nilIface]) ∧ TreeOf w' tb w.heap.size F es := by
  have hG := grow_p v es w hg hv hl hp
  have HC : Hid ((checkGo [] es).1 = 0) := hc
  clear hc
  go_enter Tryz.func22, Tryz.ntmps22
  go_wp2_with (go_at_call 48; refine hG.mono ?_; rintro e w1 ⟨hb, h1⟩; obtain ⟨_, tb, F, rfl, hT⟩ := h1.resolve_right (fun h => h.1 HC.out))
  go_ret2
  exact ⟨hb, tb, F, rfl, hT⟩
/-- Two entries in a block of their own. -/
theorem ents_two (W : World) (a b : Ent) : EntsAt (W.alloc (.cells #[.string a.path, .int .i64 a.kind, .int .i64 a.mode, .string a.data, .string a.link, .string b.path, .int .i64 b.kind, .int .i64 b.mode, .string b.data, .string b.link] 52)) (.slice (some ⟨W.heap.size, 0, none⟩) 2 2) [a, b] := by
  refine ⟨some ⟨W.heap.size, 0, none⟩, 2, W.heap.size, 0, rfl, fun _ => rfl, Nat.le_refl _, fun i e he => ?_⟩
  have h : ∀ (j : Nat) (v : Value), (#[.string a.path, .int .i64 a.kind, .int .i64 a.mode, .string a.data, .string a.link, .string b.path, .int .i64 b.kind, .int .i64 b.mode, .string b.data, .string b.link] : Array Value)[j]? = some v → (W.alloc (.cells #[.string a.path, .int .i64 a.kind, .int .i64 a.mode, .string a.data, .string a.link, .string b.path, .int .i64 b.kind, .int .i64 b.mode, .string b.data, .string b.link] 52)).cell? ⟨W.heap.size, j, none⟩ = some v := fun j v hv => by
    unfold World.cell?
    rw [World.alloc_heap_new]
    exact hv
  rcases i with _ | _ | i
  · cases he; exact ⟨h 0 _ rfl, h 1 _ rfl, h 2 _ rfl, h 3 _ rfl, h 4 _ rfl⟩
  · cases he; exact ⟨h 5 _ rfl, h 6 _ rfl, h 7 _ rfl, h 8 _ rfl, h 9 _ rfl⟩
  · simp at he
set_option maxRecDepth 100000 in
set_option maxHeartbeats 8000000 in
theorem works_t (w : World) (hg : ErrType w) : Calls Tryz.prog 14 #[] w fun e w' => e = .returned (.bool true) ∧ Below w.heap.size w w' := by
  go_enter Tryz.func14, Tryz.ntmps14
  go_wp2_with fail
  refine (dir_p _ _).mono ?_
  rintro e w1 ⟨rfl, hb1⟩
  go_wp2_with fail
  refine (file_p _ _ _).mono ?_
  rintro e w2 ⟨rfl, hb2⟩
  have HB2 : Hid (Below w.heap.size w (w2.alloc (.cells #[.string e1.path, .int .i64 e1.kind, .int .i64 e1.mode, .string e1.data, .string e1.link, .string e2.path, .int .i64 e2.kind, .int .i64 e2.mode, .string e2.data, .string e2.link] 52))) := below_by (below_join hb1 hb2) ((Below.refl _ w2).alloc (Nat.le_refl _) _) (Nat.le_refl _)
  clear hb1 hb2
  go_wp2_with fail
  refine (of_t _ [e1, e2] _ (hg.below HB2.out) (ents_two w2 e1 e2) (by decide) (by decide) (by rw [kg12])).mono ?_
  rintro e w3 ⟨hb3, tb, F, rfl, hT3⟩
  have HB3 : Hid (Below w.heap.size w w3) := below_join HB2.out hb3
  have HT3 : Hid (TreeOf w3 tb (w2.alloc (.cells #[.string e1.path, .int .i64 e1.kind, .int .i64 e1.mode, .string e1.data, .string e1.link, .string e2.path, .int .i64 e2.kind, .int .i64 e2.mode, .string e2.data, .string e2.link] 52)).heap.size F [e1, e2]) := hT3
  have HBS : Hid (w.heap.size ≤ (w2.alloc (.cells #[.string e1.path, .int .i64 e1.kind, .int .i64 e1.mode, .string e1.data, .string e1.link, .string e2.path, .int .i64 e2.kind, .int .i64 e2.mode, .string e2.data, .string e2.link] 52)).heap.size) := HB2.out.size
  clear hb3 hT3 HB2
  generalize (w2.alloc (.cells #[.string e1.path, .int .i64 e1.kind, .int .i64 e1.mode, .string e1.data, .string e1.link, .string e2.path, .int .i64 e2.kind, .int .i64 e2.mode, .string e2.data, .string e2.link] 52)).heap.size = B0 at *
  go_wp2_with fail
  refine (dir_p _ _).mono ?_
  rintro e w4 ⟨rfl, hb4⟩
  go_wp2_with fail
  refine (file_p _ _ _).mono ?_
  rintro e w5 ⟨rfl, hb5⟩
  have hbX : Below w3.heap.size w3 (w5.alloc (.cells #[.string e1.path, .int .i64 e1.kind, .int .i64 e1.mode, .string e1.data, .string e1.link, .string e3.path, .int .i64 e3.kind, .int .i64 e3.mode, .string e3.data, .string e3.link] 52)) := below_by (below_join hb4 hb5) ((Below.refl _ w5).alloc (Nat.le_refl _) _) (Nat.le_refl _)
  have HT5 := HT3.out.below hbX
  have HB5 := below_join HB3.out hbX
  clear hbX hb4 hb5
  go_wp2_with fail
  refine (check_t _ [e1, e3] _ (hg.below HB5) (ents_two w5 e1 e3) (by decide) (by decide)).mono ?_
  rintro e w6 ⟨rfl, hb6⟩
  rw [show chkV [e1, e3] = fltA 10 1 by unfold chkV; rw [kg13]; rfl]
  have HT6 := HT5.below hb6
  have HB6 := below_join HB5 hb6
  clear hb6 HT5 HB5
  go_wp2_with fail
  refine (kitAt_p 10 0 1 (by decide) (by decide) _ (hg.below HB6)).mono ?_
  rintro e w7 ⟨rfl, hb7⟩
  have HT7 := HT6.below hb7
  have HB7 := below_join HB6 hb7
  clear hb7 HT6 HB6 HT3 HB3
  go_wp2_with fail
  refine (file_p _ _ _).mono ?_
  rintro e w8 ⟨rfl, hb8⟩
  have HT8 := HT7.below hb8
  have HB8 := below_join HB7 hb8
  clear hb8 HT7 HB7
  go_wp2_with fail
  have hs8 := HT8.at'.lt
  have hf8 := HT8.at'.from'
  refine (put_p tb B0 F [e1, e2] e4 (by decide) _ HT8 (by omega)).mono ?_
  rintro e w9 ⟨rfl, hb9, hr9⟩
  obtain ⟨_, F9, hT9, hR9⟩ := hr9.resolve_left (fun h => h.1 kput)
  rw [kput, errE_zero]
  rw [klaid] at hT9
  have HB9 : Hid (Below w.heap.size w w9) := HB8.trans (hb9.mono HBS.out)
  have HT9 : Hid (TreeOf w9 tb B0 F9 [e1, e2, e4]) := hT9
  clear hb9 hr9 hR9 hT9 HT8 HB8 hs8 hf8
  go_wp2_with fail
  refine (get_p tb B0 F9 [e1, e2, e4] ⟨#[99]⟩ (by decide) _ HT9.out).mono ?_
  rintro e w10 ⟨rfl, hb10⟩
  rw [kget]
  simp only [getV]
  have HT10 := HT9.out.below hb10
  have HB10 := below_join HB9.out hb10
  clear hb10 HT9 HB9
  go_wp2_with fail
  have hbX : Below w10.heap.size w10 (w10.alloc (.cells #[.string e4.path, .int .i64 e4.kind, .int .i64 e4.mode, .string e4.data, .string e4.link] 52)) := (Below.refl _ _).alloc (Nat.le_refl _) _
  have HT11 := HT10.below hbX
  have HB11 := below_join HB10 hbX
  have HX11 : Hid (Boxed (w10.alloc (.cells #[.string e4.path, .int .i64 e4.kind, .int .i64 e4.mode, .string e4.data, .string e4.link] 52)) w10.heap.size 52 .nilIface → True) := fun _ => trivial
  have HE11 : Hid (EntC (w10.alloc (.cells #[.string e4.path, .int .i64 e4.kind, .int .i64 e4.mode, .string e4.data, .string e4.link] 52)) w10.heap.size 0 e4 ∧ w10.heap.size < (w10.alloc (.cells #[.string e4.path, .int .i64 e4.kind, .int .i64 e4.mode, .string e4.data, .string e4.link] 52)).heap.size) := ⟨ent_new w10 _ e4, by simp⟩
  have HN11 : Hid (¬ MineT tb F9 w10.heap.size) := HT10.not_mine (Nat.le_refl _)
  clear hbX HT10 HB10 HX11
  refine (size_p tb B0 F9 [e1, e2, e4] _ HT11).mono ?_
  rintro e w12 ⟨rfl, hb12⟩
  have HT12 := HT11.below hb12
  have HB12 := below_join HB11 hb12
  have HE12 : Hid (EntC w12 w10.heap.size 0 e4 ∧ w10.heap.size < w12.heap.size) := ⟨HE11.out.1.below hb12, Nat.lt_of_lt_of_le HE11.out.2 hb12.size⟩
  clear hb12 HT11 HB11 HE11
  rw [kbytes]
  go_wp2_with fail
  obtain ⟨x, hx⟩ : ∃ x, F9 (namesP ⟨#[97]⟩) = some x := by
    rcases HT12.says.at_text (p := ⟨#[97]⟩) (by decide) with ⟨_, h2⟩ | ⟨x, h1, _⟩
    · rw [kfind] at h2; cases h2
    · exact ⟨x, h1⟩
  refine (take_0 tb B0 F9 [e1, e2, e4] ⟨#[97]⟩ (by decide) _ HT12 x hx).mono ?_
  rintro e w13 ⟨rfl, hb13, F13, hT13, hR13⟩
  rw [kgone] at hT13 ⊢
  have HB13 : Hid (Below w.heap.size w w13) := HB12.trans (hb13.mono HBS.out)
  have HE13 : Hid (EntC w13 w10.heap.size 0 e4 ∧ w10.heap.size < w13.heap.size) := by
    obtain ⟨⟨q0, q1, q2, q3, q4⟩, ql⟩ := HE12.out
    exact ⟨⟨cell_kept hR13 ql HN11.out q0, cell_kept hR13 ql HN11.out q1, cell_kept hR13 ql HN11.out q2, cell_kept hR13 ql HN11.out q3, cell_kept hR13 ql HN11.out q4⟩, Nat.lt_of_lt_of_le ql hR13.size⟩
  have HT13 : Hid (TreeOf w13 tb B0 F13 [e4]) := hT13
  clear hb13 hT13 hR13 HT12 HB12 HE12 hx HN11
  go_wp2_with fail
  refine (list_p tb B0 F13 [e4] _ HT13.out).mono ?_
  rintro e w14 ⟨v, rfl, hrow, hb14⟩
  have HB14 : Hid (Below w.heap.size w w14) := below_join HB13.out hb14
  have HE14 := HE13.out.1.below hb14
  have hents := ents_of_owns hrow
  obtain ⟨g, cap, rfl⟩ := row_shape (n := 0) hrow
  obtain ⟨a2, cap2, b2, o2, hv2, ha2, _, hc2⟩ := hents
  obtain ⟨rfl, rfl⟩ : g = b2 ∧ o2 = 0 := by
    have h1 := ha2 (by simp)
    subst h1
    simp at hv2
    exact ⟨hv2.1.1, hv2.1.2.symm⟩
  obtain ⟨c0, c1, c2, c3, c4⟩ := hc2 0 e4 rfl
  have d3 := HE14.c3
  clear hb14 hrow hv2 ha2 hc2 HT13 HB13 HE13 HE14
  go_upto_region 9 with fail
  replace c0 : w14.cell? ⟨g, 0, none⟩ = some (.string ⟨#[99]⟩) := c0
  replace c1 : w14.cell? ⟨g, 1, none⟩ = some (.int .i64 2) := c1
  replace c2 : w14.cell? ⟨g, 2, none⟩ = some (.int .i64 420) := c2
  replace c3 : w14.cell? ⟨g, 3, none⟩ = some (.string ⟨#[121, 122]⟩) := c3
  replace c4 : w14.cell? ⟨g, 4, none⟩ = some (.string ⟨#[]⟩) := c4
  replace d3 : w14.cell? ⟨w10.heap.size, 3, none⟩ = some (.string ⟨#[121, 122]⟩) := d3
  have lg := World.block_lt_of_cell? w14 _ c0
  have ld := World.block_lt_of_cell? w14 _ d3
  have heq : ∀ W, (Op.equalIn 10000 52 (.agg #[.string ⟨#[99]⟩, .int .i64 2, .int .i64 420, .string ⟨#[121, 122]⟩, .string ⟨#[]⟩]) (.agg #[.string ⟨#[99]⟩, .int .i64 2, .int .i64 420, .string ⟨#[121, 122]⟩, .string ⟨#[]⟩])).run Tryz.prog W = .ok true W := fun W => eq_self e4 W
  have hyz : ((⟨#[121, 122]⟩ : ByteArray).toList == [121, 122]) = true := by rw [toList_un]; rfl
  go_region_held3 (fun W => W.cell? ⟨g, 0, none⟩ = some (.string ⟨#[99]⟩) ∧ W.cell? ⟨g, 1, none⟩ = some (.int .i64 2) ∧ W.cell? ⟨g, 2, none⟩ = some (.int .i64 420) ∧ W.cell? ⟨g, 3, none⟩ = some (.string ⟨#[121, 122]⟩) ∧ W.cell? ⟨g, 4, none⟩ = some (.string ⟨#[]⟩) ∧ W.cell? ⟨w10.heap.size, 3, none⟩ = some (.string ⟨#[121, 122]⟩))
    (first
      | exact ⟨c0, c1, c2, c3, c4, d3⟩
      | exact ⟨(hb15.cell (p := ⟨g, 0, none⟩) lg).trans c0, (hb15.cell (p := ⟨g, 1, none⟩) lg).trans c1, (hb15.cell (p := ⟨g, 2, none⟩) lg).trans c2, (hb15.cell (p := ⟨g, 3, none⟩) lg).trans c3, (hb15.cell (p := ⟨g, 4, none⟩) lg).trans c4, (hb15.cell (p := ⟨w10.heap.size, 3, none⟩) ld).trans d3⟩
      | go_keep)
    ((go_at_call 37; refine (file_p _ _ _).mono ?_; rintro e w15 ⟨rfl, hb15⟩))
  go_wp2
  go_ret
  exact ⟨rfl, HB14.out.trans ((below_drewN (Below.refl _ _) 1).trans (hb15.mono (by have := HB14.out.size; show w.heap.size ≤ w14.heap.size; omega)))⟩
end Go.Proofs.YtfglanibbngdmaaGreatDoor
