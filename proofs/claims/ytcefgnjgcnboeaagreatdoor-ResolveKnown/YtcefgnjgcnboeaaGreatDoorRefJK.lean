/- The document's walk: Go for Make and Place. -/
import Derived.Test.YtcefgnjgcnboeaaGreatDoorRefL
import Derived.Test.YtcefgnjgcnboeaaGreatDoorLeadW
import Derived.Test.YtcefgnjgcnboeaaGreatDoorMissR
import Derived.Test.YtcefgnjgcnboeaaGreatDoorMkN

namespace Go.Proofs.YtcefgnjgcnboeaaGreatDoor
open Go Go.RowKit
variable {a1 a3 : Option Addr} {n1 n3 c1 c3 : Nat}
def srtN (stay : Bool) : Int := if stay then 1 else 0
theorem join_ne {a b : ByteArray} (hb : b.size ≠ 0) : (joinB a b).size ≠ 0 := by
  unfold joinB
  split
  · exact hb
  · rw [ByteArray.size_append, ByteArray.size_append]; omega
theorem docstep {N : Nat → Prop} (stay : Bool) (st : St) (c : ByteArray) (rest : List ByteArray) (lv : Value) (w : World) (hl : st.left = c :: rest) (hv : LeftB N w lv st.left) (hEv : EntsAt w (.slice a1 st.L.length c1) st.L) (hLl : st.L.length ≤ 1073741824) (hR : Right st.L) {B : Nat} (hG : Good B st) (hB : B ≤ 1099511627776) (hcs : c.size ≠ 0) :
    Calls Tryz.prog 52 #[.agg (wk8 (.slice a1 st.L.length c1) st.here lv st.hops (.slice a3 n3 c3) false ⟨#[]⟩ 0), .int .i64 (srtN stay)] w (fun e w' => ∃ g, N g ∧ DocPost g w (.slice a1 st.L.length c1) (.slice a3 n3 c3) ⟨0, false, stay⟩ st c rest e w') := by
  obtain ⟨a, cap, g, o, rfl, ha, hcap, hcm, hc⟩ := hv
  have hcz : c.size ≤ B := hG.ps c (by rw [hl]; simp)
  have hln := hG.ln
  rw [hl] at ha hcap hc hln ⊢
  obtain ⟨rfl, hNg⟩ := ha (by simp)
  refine Calls.mono (R := DocPost g w (.slice a1 st.L.length c1) (.slice a3 n3 c3) ⟨0, false, stay⟩ st c rest) ?_ (fun e w' h => ⟨g, hNg, h⟩)
  rw [List.length_cons] at hcap hln ⊢
  have hh := hG.hh
  by_cases h1 : c = dotB
  · subst h1; exact docstep_dot (srtN stay) stay g o cap st rest w hcap hcm hc
  · by_cases h2 : c = ddB
    · subst h2; exact docstep_dd (srtN stay) stay g o cap st rest w hcap hcm hc hG.hs
    · have hF : Far st c := ⟨h1, h2, hG.hs, by omega⟩
      cases hge : getE st.L (joinB st.here c) with
      | none =>
        cases stay with
        | false => exact docstep_10_0 g o cap st c rest w hcap hcm hc hF hEv hLl hge (join_ne hcs)
        | true => exact docstep_10_1 g o cap st c rest w hcap hcm hc hF hEv hLl hge (join_ne hcs)
      | some e =>
        obtain ⟨he, _, _⟩ := get_mem hge
        have hw := hR e he
        have hkr : e.kind = 1 ∨ e.kind = 2 ∨ e.kind = 3 := by
          have h := hw
          unfold wrongN at h
          split at h
          · omega
          · rename_i hh; omega
        rcases hkr with hk | hk | hk
        · cases stay with
          | false => exact docstep_dir_0 g o cap st c rest w hcap hcm hc hF hEv hLl e hge hk
          | true => exact docstep_dir_1 g o cap st c rest w hcap hcm hc hF hEv hLl e hge hk
        · by_cases hr : rest = []
          · cases stay with
            | false => exact docstep_file_0 g o cap st c rest w hcap hcm hc hF hEv hLl e hge hk hr
            | true => exact docstep_file_1 g o cap st c rest w hcap hcm hc hF hEv hLl e hge hk hr
          · cases stay with
            | false => exact docstep_13_0 g o cap st c rest w hcap hcm hc hF hEv hLl e hge hk hr
            | true => exact docstep_13_1 g o cap st c rest w hcap hcm hc hF hEv hLl e hge hk hr
        · obtain ⟨l1, l2⟩ := wrong_link hw hk
          cases stay with
          | false =>
            by_cases h40 : st.hops = 40
            · exact docstep_12_0 g o cap st c rest w hcap hcm hc hF hEv hLl e hge hk h40
            · exact docstep_link_0 g o cap st c rest w hcap hcm hc hF hEv hLl e hge hk h40 hh l1 l2 (by omega)
          | true =>
            by_cases hr : rest = []
            · exact docstep_stay g o cap st c rest w hcap hcm hc hF hEv hLl e hge hk hr
            · by_cases h40 : st.hops = 40
              · exact docstep_12_1 g o cap st c rest w hcap hcm hc hF hEv hLl e hge hk h40 hr
              · exact docstep_link_1 g o cap st c rest w hcap hcm hc hF hEv hLl e hge hk h40 hh l1 l2 (by omega) hr
/-- The pieces of a way are not empty. -/
def FullL (l : List ByteArray) : Prop := ∀ c ∈ l, c.size ≠ 0
theorem names_full (s : ByteArray) : FullL (namesB s) := fun c hc => by
  have := (List.mem_filter.1 hc).2
  unfold full at this
  have h2 : c.toList.isEmpty = false := by simpa using this
  have := (isEmpty_false c).1 h2
  omega
theorem step_full {m : Mn} {st : St} {c : ByteArray} {rest : List ByteArray} (h : FullL st.left) (hl : st.left = c :: rest) (h0 : (stepN m st c rest).1 = 0) : FullL (stepN m st c rest).2.left := by
  have hr : FullL rest := fun x hx => h x (by rw [hl]; simp [hx])
  rcases step_more m st c rest h0 with ⟨_, h2⟩ | ⟨e, _, _, _, hst⟩
  · rw [h2]; exact hr
  · rw [hst]
    intro x hx
    rcases List.mem_append.1 hx with h1 | h1
    · exact names_full e.link x h1
    · exact hr x h1
end Go.Proofs.YtcefgnjgcnboeaaGreatDoor

namespace Go.Proofs.YtcefgnjgcnboeaaGreatDoor
open Go Go.RowKit

/-- What Go comes to. -/
def GoPost (w : World) (v : Value) (r : Int × St × List ByteArray) (e : Ending) (w' : World) : Prop :=
  Below w.heap.size w w' ∧ ∃ (hh : ByteArray) (lv : Value) (ho : Nat) (trv : Value) (dn : Bool) (an : ByteArray), e = .returned (.agg (wk8 v hh lv ho trv dn an r.1)) ∧ an = ansB r ∧ (∃ a n c, trv = .slice a n c) ∧ (∃ a n c, lv = .slice a n c) ∧ (r.1 ≠ 0 → trv = .slice none 0 0) ∧ (r.1 = 0 → w'.ownsRow w.heap.size 9 1 trv (⟨#[]⟩ :: r.2.2).length (tvs (⟨#[]⟩ :: r.2.2)))
/-- The loop's state. -/
structure GoAt (w wr : World) (b6 b7 : Nat) (v : Value) (L : List Ent) (stay : Bool) (way : ByteArray) (B : Nat) (st : St) (lv trv : Value) (ts : List ByteArray) (f : Nat) : Prop where
  k7 : wr.heap[b7]? = some (.cells (wk8 v st.here lv st.hops trv false ⟨#[]⟩ 0) 81)
  k6 : wr.heap[b6]? = some (.cells zw8 81 (0, 0))
  left : LeftB (fun k => k ≠ b6 ∧ k ≠ b7 ∧ trv.ownBlock ≠ some k) wr lv st.left
  row : wr.ownsRow (b6 + 1) 9 1 trv ts.length (tvs ts)
  off : trv.ownBlock ≠ some b7
  ents : EntsAt wr v L
  isL : st.L = L
  good : Good B st
  full : FullL st.left
  fuel : msr st < f
  e1 : (goN ⟨0, false, stay⟩ (start L way)).1 = (goF ⟨0, false, stay⟩ f st).1
  e2 : (goN ⟨0, false, stay⟩ (start L way)).2.1 = (goF ⟨0, false, stay⟩ f st).2.1
  e3 : ⟨#[]⟩ :: (goN ⟨0, false, stay⟩ (start L way)).2.2 = ts ++ (goF ⟨0, false, stay⟩ f st).2.2
  short : ts.length + msr st ≤ 2 * B + 9000
  bel : Below w.heap.size w wr
def msr8 (b7 : Nat) (W : World) : Nat := match W.cell? ⟨b7, 2, none⟩, W.cell? ⟨b7, 3, none⟩ with
  | some (.slice _ n _), some (.int _ h) => n + 200 * (40 - h.toNat)
  | _, _ => 0
theorem msr8_eq {w wr : World} {b6 b7 : Nat} {v : Value} {L : List Ent} {stay : Bool} {way : ByteArray} {B : Nat} {st : St} {lv trv : Value} {ts : List ByteArray} {f : Nat} (h : GoAt w wr b6 b7 v L stay way B st lv trv ts f) : msr8 b7 wr = msr st := by
  obtain ⟨a, c, g, o, rfl, _⟩ := h.left
  unfold msr8 msr
  rw [w8_cells (j := 2) (v := .slice a st.left.length c) h.k7 rfl, w8_cells (j := 3) (v := .int .i64 st.hops) h.k7 rfl]
  simp
set_option maxRecDepth 100000 in
set_option maxHeartbeats 8000000 in
theorem go_r (stay : Bool) (way : ByteArray) (L : List Ent) (a1 : Option Addr) (c1 : Nat) (w : World) (hEv : EntsAt w (.slice a1 L.length c1) L) (hLl : L.length ≤ 1073741824) (hR : Right L) (hw : way.size ≤ 1073741824) :
    Calls Tryz.prog 34 #[.slice a1 L.length c1, .string way, .int .i64 (srtN stay)] w (GoPost w (.slice a1 L.length c1) (goN ⟨0, false, stay⟩ (start L way))) := by
  obtain ⟨i0, hi, hz0, hz1, hz2⟩ := info_parts info_str'
  have hP := fun W => pieces_r way W (by omega)
  have hbA : Below w.heap.size w (w.alloc (.cells zw8 81)) := (Below.refl _ _).alloc (Nat.le_refl _) _
  go_enter Tryz.func34, Tryz.ntmps34
  go_wp2_with fail
  refine (hP _).mono ?_
  rintro e w1 ⟨u1, rfl, hu1, hb1⟩
  obtain ⟨q1, q2, rfl⟩ := row_form hu1
  have HB1 : Hid (Below w.heap.size w w1) := below_join hbA hb1
  have hs1 : w.heap.size + 1 ≤ w1.heap.size := by have := hb1.size; simpa using this
  have K6 : Hid (w1.heap[w.heap.size]? = some (.cells zw8 81 (0, 0))) := (hb1.block _ (by simp)).trans (World.alloc_heap_new w _)
  have hL0 : LeftB (fun k => w.heap.size + 1 ≤ k ∧ k < w1.heap.size) w1 (.slice q1 (namesB way).length q2) (namesB way) := by
    have h1 := leftB_of_owns (N := fun k => w.heap.size + 1 ≤ k) hu1 (fun k hk => by simpa using hk)
    exact h1.keep (fun k hk hl => ⟨⟨hk, hl⟩, rfl⟩)
  obtain ⟨b7, hb7⟩ : ∃ b7, b7 = w1.heap.size + 1 := ⟨_, rfl⟩
  have hst : GoAt w ((w1.alloc (.cells #[.string ⟨#[]⟩] 9)).alloc (.cells (wk8 (.slice a1 L.length c1) ⟨#[]⟩ (.slice q1 (namesB way).length q2) 0 (.slice (some ⟨w1.heap.size, 0, none⟩) 1 1) false ⟨#[]⟩ 0) 81)) w.heap.size b7 (.slice a1 L.length c1) L stay way (max way.size 100) (start L way) (.slice q1 (namesB way).length q2) (.slice (some ⟨w1.heap.size, 0, none⟩) 1 1) [⟨#[]⟩] (msr (start L way) + 1) := by
    have hbb : Below w1.heap.size w1 ((w1.alloc (.cells #[.string ⟨#[]⟩] 9)).alloc (.cells (wk8 (.slice a1 L.length c1) ⟨#[]⟩ (.slice q1 (namesB way).length q2) 0 (.slice (some ⟨w1.heap.size, 0, none⟩) 1 1) false ⟨#[]⟩ 0) 81)) := two_below _ _ _
    refine ⟨by rw [hb7]; exact new_two _ _ _ _, (hbb.block _ (by omega)).trans K6.out, hL0.keep (fun k hk hl => ⟨⟨by omega, by omega, by simp [Value.ownBlock]; omega⟩, hbb.block k hl⟩), ?_, by simp [Value.ownBlock]; omega, (hEv.below HB1.out).below hbb, rfl, start_good L way, names_full way, Nat.lt_succ_self _, rfl, rfl, rfl, ?_, below_join HB1.out hbb⟩
    · exact World.ownsRow.alloc ⟨rfl, .inr ⟨w1.heap.size, 1, #[.string ⟨#[]⟩], rfl, by omega, World.alloc_heap_new w1 _, Nat.le_refl _, by unfold maxLen; omega, rfl, rfl⟩⟩ _
    · have := names_len way
      have := Nat.le_max_left way.size 100
      unfold msr start
      simp; omega
  have HST : Hid _ := hst
  have hB : max way.size 100 ≤ 1073741824 := by omega
  generalize max way.size 100 = B at *
  clear hb1 hbA hu1 hL0 K6 hP hst
  go_wp2
  rw [← hb7]
  have hb7a : w.heap.size + 2 ≤ b7 := by omega
  clear hb7
  go_loopw [] (fun wr => ∃ st lv trv ts f, GoAt w wr w.heap.size b7 (.slice a1 L.length c1) L stay way B st lv trv ts f) (fun wr => msr8 b7 wr)
  case atStart => exact ⟨_, _, _, _, _, HST.out⟩
  case round =>
    obtain ⟨st, lv, trv, ts, f, hGA⟩ := hrel
    have HGA : Hid (GoAt w wr w.heap.size b7 (.slice a1 L.length c1) L stay way B st lv trv ts f) := hGA
    have hMS := msr8_eq hGA
    have h67 : w.heap.size ≠ b7 := by omega
    obtain ⟨t1, t2, rfl⟩ := row_form hGA.row
    obtain ⟨l1, l2, l3, l4, rfl, hclr⟩ := id hGA.left
    clear hclr
    have c2 : wr.cell? ⟨b7, 2, none⟩ = some (.slice l1 st.left.length l2) := w8_cells hGA.k7 rfl
    have c1' : wr.cell? ⟨b7, 1, none⟩ = some (.string st.here) := w8_cells hGA.k7 rfl
    have k7 := hGA.k7
    have hlt7 : b7 < wr.heap.size := (Array.getElem?_eq_some_iff.1 k7).1
    cases hl : st.left with
    | nil =>
      have hr0 : goF ⟨0, false, stay⟩ f st = (0, st, []) := goF_nil hl
      have HR : Hid ((goN ⟨0, false, stay⟩ (start L way)).1 = 0 ∧ ansB (goN ⟨0, false, stay⟩ (start L way)) = st.here ∧ ⟨#[]⟩ :: (goN ⟨0, false, stay⟩ (start L way)).2.2 = ts) := by
        have e1 := hGA.e1
        have e2 := hGA.e2
        have e3 := hGA.e3
        rw [hr0] at e1 e2 e3
        exact ⟨e1, by unfold ansB; rw [if_pos e1, e2], by rw [e3]; simp⟩
      have hk6 : ∀ w3, Below wr.heap.size wr w3 → w3.heap[w.heap.size]? = some (.cells zw8 81 (0, 0)) := fun w3 hb => (hb.block _ (Array.getElem?_eq_some_iff.1 HGA.out.k6).1).trans HGA.out.k6
      rw [hl] at c2 k7
      clear hGA hr0 hMS HST
      go_wp2_with (first
        | (refine wpList_load_row rfl 81 (.tmp 7) rfl b7 rfl 81 _ (0, 0) _ k7 Tryz.underlying81 rfl (info_w8 _ rfl) ?_)
        | (go_at_call 53; refine (ended_r _ _).mono ?_; rintro e w3 ⟨rfl, hb3⟩; have hk63 := hk6 _ hb3)
        | (refine wpList_store_row rfl 81 (.tmp 6) (.tmp 46) rfl w.heap.size (wk8 (.slice a1 L.length c1) st.here (.slice l1 ([] : List ByteArray).length l2) st.hops (.slice t1 ts.length t2) true st.here 0) rfl rfl 81 zw8 hk63 (info_w8 _ rfl) rfl (one_w8 _ _ _ _ _ _ _ _ _ _ _ _ _ _) ?_))
      refine bodyPost_ret (results_cell_row rfl _ _ w.heap.size 81 _ (0, 0) _ rfl (setRow_heap _ w.heap.size _ _ _ (0, 0) hk63) Tryz.underlying81 rfl (info_w8 _ rfl)) rfl ?_
      have hrw := HGA.out.row
      refine ⟨below_setRow' (HGA.out.bel.trans (hb3.mono HGA.out.bel.size)) (Nat.le_refl _) _, st.here, _, st.hops, _, true, st.here, by rw [HR.out.1], HR.out.2.1.symm, ⟨_, _, _, rfl⟩, ⟨_, _, _, rfl⟩, fun h => absurd HR.out.1 h, fun _ => ?_⟩
      rw [HR.out.2.2]
      refine owns_le (b := w.heap.size + 1) (row_loc hrw (fun k hk => ?_)) (by omega)
      have h1 := hrw.lt k hk
      exact (setRow_other _ _ _ _ (by omega)).trans (hb3.block k h1.2)
    | cons c rest =>
      have hln := hGA.good.ln
      rw [hl, List.length_cons] at hln
      have hhh := hGA.good.hh
      have hDS := docstep (a1 := a1) (c1 := c1) (a3 := t1) (n3 := ts.length) (c3 := t2) stay st c rest (.slice l1 st.left.length l2) wr hl hGA.left (by rw [hGA.isL]; exact hGA.ents) (by rw [hGA.isL]; exact hLl) (by rw [hGA.isL]; exact hR) hGA.good (by omega) (hGA.full c (by rw [hl]; simp))
      rw [hGA.isL] at hDS
      rw [hl, List.length_cons] at c2 k7 hDS
      have hpos : (0 : Int) < ((rest.length + 1 : Nat) : Int) := by omega
      have hk7 : ∀ w3, Below wr.heap.size wr w3 → w3.heap[b7]? = some (.cells (wk8 (.slice a1 L.length c1) st.here (.slice l1 (rest.length + 1) l2) st.hops (.slice t1 ts.length t2) false ⟨#[]⟩ 0) 81) := fun w3 hb => (hb.block _ hlt7).trans k7
      clear hGA HST
      go_wp2_with (first
        | (refine wpList_load_row rfl 81 (.tmp 7) rfl b7 rfl 81 (wk8 (.slice a1 L.length c1) st.here (.slice l1 (rest.length + 1) l2) st.hops (.slice t1 ts.length t2) false ⟨#[]⟩ 0) (0, 0) _ k7 Tryz.underlying81 rfl (info_w8 _ rfl) ?_)
        | fail)
      with_reducible refine hDS.mono ?_
      rintro e w3 ⟨g3, hN3, hb3, hh3, lv3, ho3, dn3, an3, rfl, ⟨m1, m2, m3, rfl⟩, him3⟩
      have hk73 := hk7 _ hb3
      have HB3 : Hid (Below wr.heap.size wr w3) := hb3
      have HIM : Hid _ := him3
      have HN3 : Hid (g3 ≠ w.heap.size ∧ g3 ≠ b7 ∧ (Value.slice t1 ts.length t2).ownBlock ≠ some g3) := hN3
      have hk63 : w3.heap[w.heap.size]? = some (.cells zw8 81 (0, 0)) := (hb3.block _ (Array.getElem?_eq_some_iff.1 HGA.out.k6).1).trans HGA.out.k6
      have hs3 := hb3.size
      have hsw := HGA.out.bel.size
      clear hDS hk7 hb3 him3 hN3 k7 c2 c1'
      by_cases h0 : (stepN ⟨0, false, stay⟩ st c rest).1 = 0
      · have hGn := step_good HGA.out.good hl (by rw [HGA.out.isL]; exact hR) h0
        have hKn := step_keeps (m := ⟨0, false, stay⟩) rfl h0
        have hMn := (step_msr _ st c rest hl (right_short (by rw [HGA.out.isL]; exact hR)) HGA.out.good.hh h0).1
        have hFn := step_full HGA.out.full hl h0
        obtain ⟨f, rfl⟩ : ∃ g, f = g + 1 := ⟨f - 1, by have := HGA.out.fuel; omega⟩
        have hgo := goF_ok (f := f) hl h0
        have HE : Hid ((goN ⟨0, false, stay⟩ (start L way)).1 = (goF ⟨0, false, stay⟩ f (stepN ⟨0, false, stay⟩ st c rest).2).1 ∧ (goN ⟨0, false, stay⟩ (start L way)).2.1 = (goF ⟨0, false, stay⟩ f (stepN ⟨0, false, stay⟩ st c rest).2).2.1 ∧ ⟨#[]⟩ :: (goN ⟨0, false, stay⟩ (start L way)).2.2 = (ts ++ [(stepN ⟨0, false, stay⟩ st c rest).2.here]) ++ (goF ⟨0, false, stay⟩ f (stepN ⟨0, false, stay⟩ st c rest).2).2.2) := by
          have e1 := HGA.out.e1
          have e2 := HGA.out.e2
          have e3 := HGA.out.e3
          rw [hgo] at e1 e2 e3
          exact ⟨e1, e2, by rw [e3]; simp⟩
        have HGn : Hid (Good B (stepN ⟨0, false, stay⟩ st c rest).2 ∧ (stepN ⟨0, false, stay⟩ st c rest).2.L = L ∧ msr (stepN ⟨0, false, stay⟩ st c rest).2 < msr st ∧ FullL (stepN ⟨0, false, stay⟩ st c rest).2.left) := ⟨hGn.1, hKn.1.trans HGA.out.isL, hMn, hFn⟩
        have HMS : Hid (msr8 b7 wr = msr st) := hMS
        have hcase := HIM.out h0
        rw [h0]
        clear HIM hGn hKn hMn hFn hgo h0
        rcases hcase with ⟨rfl, rfl, rfl, rfl, hLB⟩ | ⟨rfl, rfl, hle⟩
        · have HLB : Hid (LeftB (fun k => k = g3 ∨ wr.heap.size ≤ k) w3 (.slice m1 m2 m3) (stepN ⟨0, false, stay⟩ st c rest).2.left) := hLB
          clear hLB
          generalize hst' : (stepN ⟨0, false, stay⟩ st c rest).2 = s2 at *

          have hS7 := setRow_heap w3 b7 _ (wk8 (.slice a1 L.length c1) s2.here (.slice m1 m2 m3) s2.hops (.slice t1 ts.length t2) false ⟨#[]⟩ 0) _ (0, 0) hk73
          have hS6 : (w3.setRow b7 (wk8 (.slice a1 L.length c1) s2.here (.slice m1 m2 m3) s2.hops (.slice t1 ts.length t2) false ⟨#[]⟩ 0)).heap[w.heap.size]? = some (.cells zw8 81 (0, 0)) := (setRow_other _ _ _ _ h67).trans hk63
          have hTrow : (w3.setRow b7 (wk8 (.slice a1 L.length c1) s2.here (.slice m1 m2 m3) s2.hops (.slice t1 ts.length t2) false ⟨#[]⟩ 0)).ownsRow (w.heap.size + 1) 9 1 (.slice t1 ts.length t2) ts.length (tvs ts) := row_loc HGA.out.row (fun k hk => (setRow_other _ _ _ _ (fun e => HGA.out.off (by rw [← e]; exact hk))).trans (HB3.out.block k (HGA.out.row.lt k hk).2))
          have HSS : Hid ((w3.setRow b7 (wk8 (.slice a1 L.length c1) s2.here (.slice m1 m2 m3) s2.hops (.slice t1 ts.length t2) false ⟨#[]⟩ 0)).heap.size = w3.heap.size) := by unfold Hid; simp [World.setRow]
          have HBS : Hid (Below w.heap.size w (w3.setRow b7 (wk8 (.slice a1 L.length c1) s2.here (.slice m1 m2 m3) s2.hops (.slice t1 ts.length t2) false ⟨#[]⟩ 0))) := below_setRow' (HGA.out.bel.trans (HB3.out.mono hsw)) (by omega) _
          have d7 : (w3.setRow b7 (wk8 (.slice a1 L.length c1) s2.here (.slice m1 m2 m3) s2.hops (.slice t1 ts.length t2) false ⟨#[]⟩ 0)).cell? ⟨b7, 7, none⟩ = some (.int .i64 0) := w8_cells hS7 rfl
          have d1 : (w3.setRow b7 (wk8 (.slice a1 L.length c1) s2.here (.slice m1 m2 m3) s2.hops (.slice t1 ts.length t2) false ⟨#[]⟩ 0)).cell? ⟨b7, 1, none⟩ = some (.string s2.here) := w8_cells hS7 rfl
          have d5 : (w3.setRow b7 (wk8 (.slice a1 L.length c1) s2.here (.slice m1 m2 m3) s2.hops (.slice t1 ts.length t2) false ⟨#[]⟩ 0)).cell? ⟨b7, 5, none⟩ = some (.bool false) := w8_cells hS7 rfl
          have d6 : (w3.setRow b7 (wk8 (.slice a1 L.length c1) s2.here (.slice m1 m2 m3) s2.hops (.slice t1 ts.length t2) false ⟨#[]⟩ 0)).cell? ⟨b7, 6, none⟩ = some (.string ⟨#[]⟩) := w8_cells hS7 rfl
          have d4 : (w3.setRow b7 (wk8 (.slice a1 L.length c1) s2.here (.slice m1 m2 m3) s2.hops (.slice t1 ts.length t2) false ⟨#[]⟩ 0)).cell? ⟨b7, 4, none⟩ = some (.slice t1 ts.length t2) := w8_cells hS7 rfl
          have HOT : Hid (∀ k, k ≠ b7 → (w3.setRow b7 (wk8 (.slice a1 L.length c1) s2.here (.slice m1 m2 m3) s2.hops (.slice t1 ts.length t2) false ⟨#[]⟩ 0)).heap[k]? = w3.heap[k]?) := fun k hk => setRow_other _ _ _ _ hk
          have hlenT : ts.length ≤ 4398046511104 := by have := HGA.out.short; omega
          have hoff := HGA.out.off
          have hb7s : b7 < (w3.setRow b7 (wk8 (.slice a1 L.length c1) s2.here (.slice m1 m2 m3) s2.hops (.slice t1 ts.length t2) false ⟨#[]⟩ 0)).heap.size := by rw [HSS.out]; omega
          clear hl hMS
          generalize hWS : (w3.setRow b7 (wk8 (.slice a1 L.length c1) s2.here (.slice m1 m2 m3) s2.hops (.slice t1 ts.length t2) false ⟨#[]⟩ 0)) = WS at *
          go_wp2_with (first
            | (refine wpList_store_row rfl 81 (.tmp 7) (.tmp 20) rfl b7 (wk8 (.slice a1 L.length c1) s2.here (.slice m1 m2 m3) s2.hops (.slice t1 ts.length t2) false ⟨#[]⟩ 0) rfl rfl 81 _ hk73 (info_w8 _ rfl) rfl (one_w8 _ _ _ _ _ _ _ _ _ _ _ _ _ _) ?_; rw [hWS])
            | (at_builtin; refine wpList_append_own_at _ rfl _ _ 38 rfl (w.heap.size + 1) 9 i0 (.string ⟨#[]⟩) 1 16 Tryz.underlying38 hi hz0 hz1 hz2 rfl (by decide) _ _ _ rfl (hTrow.alloc _) ⟨WS.heap.size, 0, none⟩ 1 1 [.string s2.here] rfl rfl (cell_one_new _ _ _) (by simp [Value.oneCell']) (by unfold maxLen; omega) (by omega) (by rw [World.size_alloc]; have := HSS.out; omega) ?_; intro v5 w5 hown5 hgrow5 hcap5 hat5; obtain ⟨g5, p5, rfl⟩ := ownsRow_succ hown5; have k75 : w5.heap[b7]? = some (.cells (wk8 (.slice a1 L.length c1) s2.here (.slice m1 m2 m3) s2.hops (.slice t1 ts.length t2) false ⟨#[]⟩ 0) 81) := (hgrow5.block b7 (by rw [World.size_alloc]; omega) (fun e => hoff e.symm)).trans ((Below.heap_alloc WS _ b7 hb7s).trans hS7); have x4 : w5.cell? ⟨b7, 4, none⟩ = some (.slice t1 ts.length t2) := w8_cells k75 rfl; have y4 : w5.frozen? ⟨b7, 4, none⟩ = false := (by simp [World.frozen?, k75]); have x5 : (w5.setCell ⟨b7, 4, none⟩ (.slice (some ⟨g5, 0, none⟩) (ts.length + 1) p5)).cell? ⟨b7, 5, none⟩ = some (.bool false) := w8_cells (set_block k75 _) rfl))
          have hsS := HSS.out
          have hw5 : w3.heap.size + 1 ≤ w5.heap.size := by have := hgrow5.size; rw [World.size_alloc] at this; omega
          have hne5 : ∀ k, k < w3.heap.size → k ≠ b7 → (Value.slice t1 ts.length t2).ownBlock ≠ some k → (w5.setCell ⟨b7, 4, none⟩ (.slice (some ⟨g5, 0, none⟩) (ts.length + 1) p5)).heap[k]? = w3.heap[k]? := fun k hk h1 h2 =>
            (Below.heap_setCell _ _ _ _ h1).trans ((hgrow5.block k (by simp; omega) (fun e => h2 e.symm)).trans ((Below.heap_alloc WS _ k (by omega)).trans (HOT.out k h1)))
          have hg5 : ∀ k, k < w3.heap.size → (Value.slice t1 ts.length t2).ownBlock ≠ some k → (Value.slice (some ⟨g5, 0, none⟩) (ts.length + 1) p5).ownBlock ≠ some k := fun k hk h1 h2 => by
            rcases hat5 with h | h
            · exact h1 (h.symm.trans h2)
            · rw [h] at h2; simp at h2; omega
          have hb75 : (Value.slice (some ⟨g5, 0, none⟩) (ts.length + 1) p5).ownBlock ≠ some b7 := hg5 b7 (by omega) hoff
          have hb65 : (Value.slice (some ⟨g5, 0, none⟩) (ts.length + 1) p5).ownBlock ≠ some w.heap.size := fun e => by have := (hown5.lt _ e).1; omega
          have h6t : (Value.slice t1 ts.length t2).ownBlock ≠ some w.heap.size := fun e => by have := (HGA.out.row.lt _ e).1; omega
          have hB5 : Below w.heap.size w (w5.setCell ⟨b7, 4, none⟩ (.slice (some ⟨g5, 0, none⟩) (ts.length + 1) p5)) := ((HBS.out.alloc (by omega) _).grown hgrow5 (by simp; omega) (fun j hj => by have := (hTrow.lt j hj).1; omega)).setCell (p := ⟨b7, 4, none⟩) (show w.heap.size ≤ b7 by omega) _
          have hGA2 : GoAt w (w5.setCell ⟨b7, 4, none⟩ (.slice (some ⟨g5, 0, none⟩) (ts.length + 1) p5)) w.heap.size b7 (.slice a1 L.length c1) L stay way B s2 (.slice m1 m2 m3) (.slice (some ⟨g5, 0, none⟩) (ts.length + 1) p5) (ts ++ [s2.here]) f := by
            refine ⟨set_block k75 _, (hne5 _ (by omega) h67 h6t).trans hk63, HLB.out.keep (fun k hk hl => ?_), ?_, hb75, hEv.below hB5, HGn.out.2.1, HGn.out.1, HGn.out.2.2.2, by have := HGn.out.2.2.1; have := HGA.out.fuel; omega, HE.out.1, HE.out.2.1, HE.out.2.2, by rw [List.length_append]; have := HGn.out.2.2.1; have := HGA.out.short; simp; omega, hB5⟩
            · have hk2 : k ≠ w.heap.size ∧ k ≠ b7 ∧ (Value.slice t1 ts.length t2).ownBlock ≠ some k := by
                rcases hk with rfl | hk
                · exact HN3.out
                · exact ⟨by omega, by omega, fun e => by have := (HGA.out.row.lt k e).2; omega⟩
              exact ⟨⟨hk2.1, hk2.2.1, hg5 k hl hk2.2.2⟩, hne5 k hl hk2.2.1 hk2.2.2⟩
            · have := hown5.kept (grown_set w5 b7 4 (.slice (some ⟨g5, 0, none⟩) (ts.length + 1) p5)) (.inr hb75)
              rw [List.length_append, tvs_append]
              simpa [tvs] using this
          go_roundw
          case rel => exact ⟨_, _, _, _, _, hGA2⟩
          case measure => rw [msr8_eq hGA2, HMS.out]; exact HGn.out.2.2.1
        · have HLE : Hid ((stepN ⟨0, false, stay⟩ st c rest).2.left = []) := hle
          clear hle
          generalize hst' : (stepN ⟨0, false, stay⟩ st c rest).2 = s2 at *
          have hS7 := setRow_heap w3 b7 _ (wk8 (.slice a1 L.length c1) hh3 (.slice m1 m2 m3) ho3 (.slice t1 ts.length t2) true s2.here 0) _ (0, 0) hk73
          have hS6 : (w3.setRow b7 (wk8 (.slice a1 L.length c1) hh3 (.slice m1 m2 m3) ho3 (.slice t1 ts.length t2) true s2.here 0)).heap[w.heap.size]? = some (.cells zw8 81 (0, 0)) := (setRow_other _ _ _ _ h67).trans hk63
          have hTrow : (w3.setRow b7 (wk8 (.slice a1 L.length c1) hh3 (.slice m1 m2 m3) ho3 (.slice t1 ts.length t2) true s2.here 0)).ownsRow (w.heap.size + 1) 9 1 (.slice t1 ts.length t2) ts.length (tvs ts) := row_loc HGA.out.row (fun k hk => (setRow_other _ _ _ _ (fun e => HGA.out.off (by rw [← e]; exact hk))).trans (HB3.out.block k (HGA.out.row.lt k hk).2))
          have HSS : Hid ((w3.setRow b7 (wk8 (.slice a1 L.length c1) hh3 (.slice m1 m2 m3) ho3 (.slice t1 ts.length t2) true s2.here 0)).heap.size = w3.heap.size) := by unfold Hid; simp [World.setRow]
          have HBS : Hid (Below w.heap.size w (w3.setRow b7 (wk8 (.slice a1 L.length c1) hh3 (.slice m1 m2 m3) ho3 (.slice t1 ts.length t2) true s2.here 0))) := below_setRow' (HGA.out.bel.trans (HB3.out.mono hsw)) (by omega) _
          have d7 : (w3.setRow b7 (wk8 (.slice a1 L.length c1) hh3 (.slice m1 m2 m3) ho3 (.slice t1 ts.length t2) true s2.here 0)).cell? ⟨b7, 7, none⟩ = some (.int .i64 0) := w8_cells hS7 rfl
          have d1 : (w3.setRow b7 (wk8 (.slice a1 L.length c1) hh3 (.slice m1 m2 m3) ho3 (.slice t1 ts.length t2) true s2.here 0)).cell? ⟨b7, 1, none⟩ = some (.string hh3) := w8_cells hS7 rfl
          have d5 : (w3.setRow b7 (wk8 (.slice a1 L.length c1) hh3 (.slice m1 m2 m3) ho3 (.slice t1 ts.length t2) true s2.here 0)).cell? ⟨b7, 5, none⟩ = some (.bool true) := w8_cells hS7 rfl
          have d6 : (w3.setRow b7 (wk8 (.slice a1 L.length c1) hh3 (.slice m1 m2 m3) ho3 (.slice t1 ts.length t2) true s2.here 0)).cell? ⟨b7, 6, none⟩ = some (.string s2.here) := w8_cells hS7 rfl
          have d4 : (w3.setRow b7 (wk8 (.slice a1 L.length c1) hh3 (.slice m1 m2 m3) ho3 (.slice t1 ts.length t2) true s2.here 0)).cell? ⟨b7, 4, none⟩ = some (.slice t1 ts.length t2) := w8_cells hS7 rfl
          have HOT : Hid (∀ k, k ≠ b7 → (w3.setRow b7 (wk8 (.slice a1 L.length c1) hh3 (.slice m1 m2 m3) ho3 (.slice t1 ts.length t2) true s2.here 0)).heap[k]? = w3.heap[k]?) := fun k hk => setRow_other _ _ _ _ hk
          have hlenT : ts.length ≤ 4398046511104 := by have := HGA.out.short; omega
          have hoff := HGA.out.off
          have hb7s : b7 < (w3.setRow b7 (wk8 (.slice a1 L.length c1) hh3 (.slice m1 m2 m3) ho3 (.slice t1 ts.length t2) true s2.here 0)).heap.size := by rw [HSS.out]; omega
          clear hl hMS
          generalize hWS : (w3.setRow b7 (wk8 (.slice a1 L.length c1) hh3 (.slice m1 m2 m3) ho3 (.slice t1 ts.length t2) true s2.here 0)) = WS at *
          go_wp2_with (first
            | (refine wpList_store_row rfl 81 (.tmp 7) (.tmp 20) rfl b7 (wk8 (.slice a1 L.length c1) hh3 (.slice m1 m2 m3) ho3 (.slice t1 ts.length t2) true s2.here 0) rfl rfl 81 _ hk73 (info_w8 _ rfl) rfl (one_w8 _ _ _ _ _ _ _ _ _ _ _ _ _ _) ?_; rw [hWS])
            | (at_builtin; refine wpList_append_own_at _ rfl _ _ 38 rfl (w.heap.size + 1) 9 i0 (.string ⟨#[]⟩) 1 16 Tryz.underlying38 hi hz0 hz1 hz2 rfl (by decide) _ _ _ rfl (hTrow.alloc _) ⟨WS.heap.size, 0, none⟩ 1 1 [.string s2.here] rfl rfl (cell_one_new _ _ _) (by simp [Value.oneCell']) (by unfold maxLen; omega) (by omega) (by rw [World.size_alloc]; have := HSS.out; omega) ?_; intro v5 w5 hown5 hgrow5 hcap5 hat5; obtain ⟨g5, p5, rfl⟩ := ownsRow_succ hown5; have k75 : w5.heap[b7]? = some (.cells (wk8 (.slice a1 L.length c1) hh3 (.slice m1 m2 m3) ho3 (.slice t1 ts.length t2) true s2.here 0) 81) := (hgrow5.block b7 (by rw [World.size_alloc]; omega) (fun e => hoff e.symm)).trans ((Below.heap_alloc WS _ b7 hb7s).trans hS7); have x4 : w5.cell? ⟨b7, 4, none⟩ = some (.slice t1 ts.length t2) := w8_cells k75 rfl; have y4 : w5.frozen? ⟨b7, 4, none⟩ = false := (by simp [World.frozen?, k75]); have x5 : (w5.setCell ⟨b7, 4, none⟩ (.slice (some ⟨g5, 0, none⟩) (ts.length + 1) p5)).cell? ⟨b7, 5, none⟩ = some (.bool true) := w8_cells (set_block k75 _) rfl; have hT6 : (w5.setCell ⟨b7, 4, none⟩ (.slice (some ⟨g5, 0, none⟩) (ts.length + 1) p5)).heap[w.heap.size]? = some (.cells zw8 81 (0, 0)) := (Below.heap_setCell _ _ _ _ h67).trans ((hgrow5.block _ (by rw [World.size_alloc]; omega) (fun e => (by have := (hTrow.lt _ e.symm).1; omega))).trans ((Below.heap_alloc WS _ _ (by omega)).trans hS6)); have hT7 := set_block (i := 4) k75 (.slice (some ⟨g5, 0, none⟩) (ts.length + 1) p5))
            | (refine wpList_load_row rfl 81 (.tmp 7) rfl b7 rfl 81 _ (0, 0) _ hT7 Tryz.underlying81 rfl (info_w8 _ rfl) ?_)
            | (refine wpList_store_row rfl 81 (.tmp 6) (.tmp 42) rfl w.heap.size (wk8 (.slice a1 L.length c1) hh3 (.slice m1 m2 m3) ho3 (.slice (some ⟨g5, 0, none⟩) (ts.length + 1) p5) true s2.here 0) rfl rfl 81 zw8 hT6 (info_w8 _ rfl) rfl (one_w8 _ _ _ _ _ _ _ _ _ _ _ _ _ _) ?_))
          refine bodyPost_ret (results_cell_row rfl _ _ w.heap.size 81 _ (0, 0) _ rfl (setRow_heap _ w.heap.size _ _ _ (0, 0) hT6) Tryz.underlying81 rfl (info_w8 _ rfl)) rfl ?_
          have hsS := HSS.out
          have hgn : goF ⟨0, false, stay⟩ f s2 = (0, s2, []) := goF_nil HLE.out
          obtain ⟨e1, e2, e3⟩ := HE.out
          rw [hgn] at e1 e2 e3
          have hb75 : (Value.slice (some ⟨g5, 0, none⟩) (ts.length + 1) p5).ownBlock ≠ some b7 := fun e => by
            rcases hat5 with h | h
            · exact hoff (h.symm.trans e)
            · rw [h] at e; rw [World.size_alloc] at e; simp at e; omega
          have hB5 : Below w.heap.size w (w5.setCell ⟨b7, 4, none⟩ (.slice (some ⟨g5, 0, none⟩) (ts.length + 1) p5)) := ((HBS.out.alloc (by omega) _).grown hgrow5 (by rw [World.size_alloc]; omega) (fun j hj => by have := (hTrow.lt j hj).1; omega)).setCell (p := ⟨b7, 4, none⟩) (show w.heap.size ≤ b7 by omega) _
          refine ⟨below_setRow' hB5 (Nat.le_refl _) _, hh3, _, ho3, _, true, s2.here, by rw [e1], by unfold ansB; rw [if_pos e1, e2], ⟨_, _, _, rfl⟩, ⟨_, _, _, rfl⟩, fun h => absurd e1 h, fun _ => ?_⟩
          rw [e3, List.append_nil]
          refine owns_le (b := w.heap.size + 1) (row_loc (A := w5) ?_ (fun k hk => ?_)) (by omega)
          · rw [List.length_append, tvs_append]
            simpa [tvs] using hown5
          · have h1 := hown5.lt k hk
            exact (setRow_other _ _ _ _ (by omega)).trans (Below.heap_setCell _ _ _ _ (fun e => hb75 (by rw [hk]; exact congrArg some e)))
      · have HR : Hid ((goN ⟨0, false, stay⟩ (start L way)).1 = (stepN ⟨0, false, stay⟩ st c rest).1 ∧ ansB (goN ⟨0, false, stay⟩ (start L way)) = ⟨#[]⟩) := by
          have e1 := HGA.out.e1
          obtain ⟨f, rfl⟩ : ∃ g, f = g + 1 := ⟨f - 1, by have := HGA.out.fuel; omega⟩
          rw [goF_err hl h0] at e1
          exact ⟨e1, if_neg (by rw [e1]; exact h0)⟩
        have hS7 := setRow_heap w3 b7 _ (wk8 (.slice a1 L.length c1) hh3 (.slice m1 m2 m3) ho3 (.slice t1 ts.length t2) dn3 an3 (stepN ⟨0, false, stay⟩ st c rest).1) _ (0, 0) hk73
        have hS6 : (w3.setRow b7 (wk8 (.slice a1 L.length c1) hh3 (.slice m1 m2 m3) ho3 (.slice t1 ts.length t2) dn3 an3 (stepN ⟨0, false, stay⟩ st c rest).1)).heap[w.heap.size]? = some (.cells zw8 81 (0, 0)) := (setRow_other _ _ _ _ h67).trans hk63
        have d7 : (w3.setRow b7 (wk8 (.slice a1 L.length c1) hh3 (.slice m1 m2 m3) ho3 (.slice t1 ts.length t2) dn3 an3 (stepN ⟨0, false, stay⟩ st c rest).1)).cell? ⟨b7, 7, none⟩ = some (.int .i64 (stepN ⟨0, false, stay⟩ st c rest).1) := w8_cells hS7 rfl
        have HBF : Hid (Below w.heap.size w (w3.setRow b7 (wk8 (.slice a1 L.length c1) hh3 (.slice m1 m2 m3) ho3 (.slice t1 ts.length t2) dn3 an3 (stepN ⟨0, false, stay⟩ st c rest).1))) := below_setRow' (HGA.out.bel.trans (HB3.out.mono hsw)) (by omega) _
        have h0' : ((stepN ⟨0, false, stay⟩ st c rest).1 == 0) = false := by simpa using h0
        clear HIM hl h0 hMS
        generalize (stepN ⟨0, false, stay⟩ st c rest).1 = n at *
        generalize hWS : w3.setRow b7 (wk8 (.slice a1 L.length c1) hh3 (.slice m1 m2 m3) ho3 (.slice t1 ts.length t2) dn3 an3 n) = WS at *
        go_wp2_with (first
          | (refine wpList_store_row rfl 81 (.tmp 7) (.tmp 20) rfl b7 (wk8 (.slice a1 L.length c1) hh3 (.slice m1 m2 m3) ho3 (.slice t1 ts.length t2) dn3 an3 n) rfl rfl 81 _ hk73 (info_w8 _ rfl) rfl (one_w8 _ _ _ _ _ _ _ _ _ _ _ _ _ _) ?_; rw [hWS])
          | (refine wpList_store_row rfl 81 (.tmp 6) (.tmp 27) rfl w.heap.size (wk8 (.slice a1 L.length c1) ⟨#[]⟩ (.slice none 0 0) 0 (.slice none 0 0) false ⟨#[]⟩ n) rfl rfl 81 zw8 hS6 (info_w8 _ rfl) rfl (one_w8 _ _ _ _ _ _ _ _ _ _ _ _ _ _) ?_))
        refine bodyPost_ret (results_cell_row rfl _ _ w.heap.size 81 _ (0, 0) _ rfl (setRow_heap _ w.heap.size _ _ _ (0, 0) hS6) Tryz.underlying81 rfl (info_w8 _ rfl)) rfl ?_
        exact ⟨below_setRow' HBF.out (Nat.le_refl _) _, ⟨#[]⟩, _, 0, _, false, ⟨#[]⟩, by rw [HR.out.1], HR.out.2.symm, ⟨_, _, _, rfl⟩, ⟨_, _, _, rfl⟩, fun _ => rfl, fun h => absurd h (by rw [HR.out.1]; simpa using h0')⟩
end Go.Proofs.YtcefgnjgcnboeaaGreatDoor

namespace Go.Proofs.YtcefgnjgcnboeaaGreatDoor
open Go Go.RowKit

/-- A list of entries, and in which block it lies. -/
def EntsF (N : Nat → Prop) (W : World) (v : Value) (L : List Ent) : Prop :=
  ∃ (a : Option Addr) (cap b o : Nat), v = .slice a L.length cap ∧ (L ≠ [] → a = some ⟨b, o, none⟩ ∧ N b) ∧ L.length ≤ cap ∧ (∀ i e, L[i]? = some e → EntC W b (o + i * 5) e)
theorem EntsF.ents {N : Nat → Prop} {W : World} {v : Value} {L : List Ent} (h : EntsF N W v L) : EntsAt W v L := by
  obtain ⟨a, cap, b, o, h1, h2, h3, h4⟩ := h
  exact ⟨a, cap, b, o, h1, fun hn => (h2 hn).1, h3, h4⟩
theorem ents_ne {L : List Ent} {i : Nat} {e : Ent} (h : L[i]? = some e) : L ≠ [] := fun h0 => by rw [h0] at h; simp at h
theorem entc_block {W W' : World} {b q : Nat} {e : Ent} (h : EntC W b q e) (hb : W'.heap[b]? = W.heap[b]?) : EntC W' b q e := by
  have hc : ∀ (j : Nat) (v : Value), W.cell? ⟨b, j, none⟩ = some v → W'.cell? ⟨b, j, none⟩ = some v := fun j v hv => by
    unfold World.cell? at hv ⊢
    rw [show W'.heap[(⟨b, j, none⟩ : Addr).block]? = W.heap[(⟨b, j, none⟩ : Addr).block]? from hb]
    exact hv
  exact ⟨hc _ _ h.c0, hc _ _ h.c1, hc _ _ h.c2, hc _ _ h.c3, hc _ _ h.c4⟩
theorem EntsF.keep {N N2 : Nat → Prop} {W W' : World} {v : Value} {L : List Ent} (h : EntsF N W v L) (hk : ∀ k, N k → k < W.heap.size → N2 k ∧ W'.heap[k]? = W.heap[k]?) : EntsF N2 W' v L := by
  obtain ⟨a, cap, b, o, h1, h2, h3, h4⟩ := h
  have hg : ∀ i e, L[i]? = some e → N2 b ∧ W'.heap[b]? = W.heap[b]? := fun i e he => hk b (h2 (ents_ne he)).2 (World.block_lt_of_cell? W _ (h4 i e he).c0)
  refine ⟨a, cap, b, o, h1, fun hl => ⟨(h2 hl).1, ?_⟩, h3, fun i e he => entc_block (h4 i e he) (hg i e he).2⟩
  cases L with
  | nil => exact absurd rfl hl
  | cons y ys => exact (hg 0 y rfl).1
theorem EntsF.below {N : Nat → Prop} {W W' : World} {v : Value} {L : List Ent} (h : EntsF N W v L) (hb : Below W.heap.size W W') : EntsF N W' v L := h.keep (fun k hk hl => ⟨hk, hb.block k hl⟩)
theorem EntsF.weak {N N2 : Nat → Prop} {W : World} {v : Value} {L : List Ent} (h : EntsF N W v L) (hk : ∀ k, N k → N2 k) : EntsF N2 W v L := h.keep (fun k hn _ => ⟨hk k hn, rfl⟩)
theorem entsF_of_ents {W : World} {v : Value} {L : List Ent} (h : EntsAt W v L) : EntsF (fun k => k < W.heap.size) W v L := by
  obtain ⟨a, cap, b, o, h1, h2, h3, h4⟩ := h
  refine ⟨a, cap, b, o, h1, fun hn => ⟨h2 hn, ?_⟩, h3, h4⟩
  obtain ⟨e, L', rfl⟩ := List.exists_cons_of_ne_nil hn
  exact World.block_lt_of_cell? W _ (h4 0 e rfl).c0
theorem entsF_of_owns {W : World} {base : Nat} {v : Value} {L : List Ent} (h : W.ownsRow base 52 5 v L.length (ecells L)) : EntsF (fun k => base ≤ k) W v L := by
  have he := ents_of_owns h
  obtain ⟨a, cap, b, o, h1, h2, h3, h4⟩ := he
  refine ⟨a, cap, b, o, h1, fun hn => ⟨h2 hn, ?_⟩, h3, h4⟩
  have ha := h2 hn
  subst ha
  have := (h.lt b (by rw [h1]; rfl)).1
  exact this
/-- What Step comes to where the list may change. -/
def DocPostK (N NV : Nat → Prop) (w : World) (trv : Value) (m : Mn) (st : St) (c : ByteArray) (rest : List ByteArray) (e : Ending) (w' : World) : Prop :=
  Below w.heap.size w w' ∧ ∃ (tv : Value) (hh : ByteArray) (lv' : Value) (ho : Nat) (dn : Bool) (an : ByteArray), e = .returned (.agg (wk8 tv hh lv' ho trv dn an (stepN m st c rest).1)) ∧ (∃ a n c, lv' = .slice a n c) ∧ (∃ a n c, tv = .slice a n c) ∧
    ((stepN m st c rest).1 = 0 → EntsF (fun k => NV k ∨ w.heap.size ≤ k) w' tv (stepN m st c rest).2.L ∧ ((dn = false ∧ an = ⟨#[]⟩ ∧ hh = (stepN m st c rest).2.here ∧ ho = (stepN m st c rest).2.hops ∧ LeftB (fun k => N k ∨ w.heap.size ≤ k) w' lv' (stepN m st c rest).2.left) ∨ (dn = true ∧ an = (stepN m st c rest).2.here ∧ (stepN m st c rest).2.left = [])))
theorem doc_k {N NV : Nat → Prop} {g : Nat} {w : World} {a1 : Option Addr} {n1 c1 : Nat} {trv : Value} {m : Mn} {st : St} {c : ByteArray} {rest : List ByteArray} {e : Ending} {w' : World} (h : DocPost g w (.slice a1 n1 c1) trv m st c rest e w') (hN : N g) (hE : EntsF NV w (.slice a1 n1 c1) st.L) (hL : (stepN m st c rest).1 = 0 → (stepN m st c rest).2.L = st.L) : DocPostK N NV w trv m st c rest e w' := by
  obtain ⟨hb, hh, lv, ho, dn, an, he, hlv, him⟩ := h
  refine ⟨hb, _, hh, lv, ho, dn, an, he, hlv, ⟨_, _, _, rfl⟩, fun h0 => ⟨?_, ?_⟩⟩
  · rw [hL h0]
    exact (hE.below hb).weak (fun k hk => .inl hk)
  · rcases him h0 with ⟨q1, q2, q3, q4, q5⟩ | h2
    · exact .inl ⟨q1, q2, q3, q4, q5.keep (fun k hk _ => ⟨by rcases hk with rfl | hk; exact .inl hN; exact .inr hk, rfl⟩)⟩
    · exact .inr h2
variable {a1 a3 : Option Addr} {n1 n3 c1 c3 : Nat}
set_option maxRecDepth 100000 in
set_option maxHeartbeats 4000000 in
theorem docstep_may_2 (g o cap : Nat) (st : St) (c : ByteArray) (rest : List ByteArray) (w : World) (hcap : rest.length + 1 ≤ cap) (hcm : cap ≤ 9223372036854775807) (hc : ∀ i x, (c :: rest)[i]? = some x → w.cell? ⟨g, o + i, none⟩ = some (.string x)) (hF : Far st c) {NV : Nat → Prop} (hEF : EntsF NV w (.slice a1 st.L.length c1) st.L) (hLl : st.L.length ≤ 1073741824) (hg : getE st.L (joinB st.here c) = none) (hz : (joinB st.here c).size ≠ 0) (hcz : c.size ≤ 1073741824) (hjz : (joinB st.here c).size ≤ 2147483648) (hm : mayN c (joinB st.here c) ≠ 0) (hst : (absN ⟨1, true, false⟩ st (joinB st.here c) rest).1 = mayN c (joinB st.here c)) :
    Calls Tryz.prog 52 #[.agg (wk8 (.slice a1 st.L.length c1) st.here (.slice (some ⟨g, o, none⟩) (rest.length + 1) cap) st.hops (.slice a3 n3 c3) false ⟨#[]⟩ 0), .int .i64 2] w (DocPostK (fun k => k = g) NV w (.slice a3 n3 c3) ⟨1, true, false⟩ st c rest) := by
  obtain ⟨hn1, hn2, hs, hcs⟩ := hF
  have hb1 := ne_dot hn1
  have hb2 := ne_dd hn2
  have hjs := join_size st.here c
  have k0 : w.cell? ⟨g, o, none⟩ = some (.string c) := hc 0 _ rfl
  have hgl := World.block_lt_of_cell? w _ k0
  have hlt := left_tail w.heap.size hcap hcm hc
  have hT := slice_tail g o cap rest.length hcap hcm
  have HLT : Hid (LeftB (fun k => k = g ∨ w.heap.size ≤ k) w (.slice (tailA g o cap) rest.length (cap - 1)) rest) := hlt
  have HAT : Hid (atN st.L (joinB st.here c) = -1) := at_none (by unfold getE at hg; rw [if_neg hz] at hg; exact hg)
  have HST : Hid ((stepN ⟨1, true, false⟩ st c rest).1 = mayN c (joinB st.here c)) := by unfold Hid stepN; rw [if_neg hn1, if_neg hn2, hg]; exact hst
  have HM : Hid (mayN c (joinB st.here c) ≠ 0) := hm
  clear hst hm
  have hEv := hEF.ents
  clear hg hz
  have hb0 : Below w.heap.size w ((w.alloc (.cells (wk8 (.slice a1 st.L.length c1) st.here (.slice (tailA g o cap) rest.length (cap - 1)) st.hops (.slice a3 n3 c3) false ⟨#[]⟩ 0) 81)).alloc (.cells zw8 81)) := two_below _ _ _
  have hL : ∀ w3, Below ((w.alloc (.cells (wk8 (.slice a1 st.L.length c1) st.here (.slice (tailA g o cap) rest.length (cap - 1)) st.hops (.slice a3 n3 c3) false ⟨#[]⟩ 0) 81)).alloc (.cells zw8 81)).heap.size ((w.alloc (.cells (wk8 (.slice a1 st.L.length c1) st.here (.slice (tailA g o cap) rest.length (cap - 1)) st.hops (.slice a3 n3 c3) false ⟨#[]⟩ 0) 81)).alloc (.cells zw8 81)) w3 → w3.heap[w.heap.size + 1]? = some (.cells zw8 81 (0, 0)) := fun w3 hb => (hb.block _ (by simp)).trans (new_two w _ _ _)
  clear hc hlt hn1 hn2
  go_enter Tryz.func52, Tryz.ntmps52
  go_wp2_with (first | (go_at_call 78; refine (join_r _ _ _ (by omega)).mono ?_; rintro e w1 ⟨rfl, hw1⟩; replace hw1 := hw1.symm; subst hw1) | (go_at_call 79; refine (at_r _ st.L _ _ (hEv.below (two_below _ _ _)) hLl).mono ?_; rintro e w1 ⟨rfl, hw1⟩; replace hw1 := hw1.symm; subst hw1; rw [HAT.out]) | (go_at_call 80; refine (missing_may 2 (by decide) _ _ _ (by omega) (by omega) HM.out).mono ?_; rintro e w3 ⟨rfl, hb3⟩; have hL3 := hL _ hb3) | (refine wpList_store_row rfl 81 (.tmp 4) (.tmp 41) rfl (w.heap.size + 1) (wk8 (.slice a1 st.L.length c1) st.here (.slice (tailA g o cap) rest.length (cap - 1)) st.hops (.slice a3 n3 c3) false ⟨#[]⟩ (mayN c (joinB st.here c))) rfl rfl 81 zw8 hL3 (info_w8 _ rfl) rfl (one_w8 _ _ _ _ _ _ _ _ _ _ _ _ _ _) ?_))
  refine bodyPost_ret (results_cell_row rfl _ _ (w.heap.size + 1) 81 _ (0, 0) _ rfl (setRow_heap _ (w.heap.size + 1) _ _ _ (0, 0) hL3) Tryz.underlying81 rfl (info_w8 _ rfl)) rfl ?_
  exact ⟨below_setRow' (below_join hb0 hb3) (by omega) _, _, st.here, _, st.hops, false, ⟨#[]⟩, by rw [HST.out], ⟨_, _, _, rfl⟩, ⟨_, _, _, rfl⟩, fun h => absurd h (by rw [HST.out]; exact HM.out)⟩
set_option maxRecDepth 100000 in
set_option maxHeartbeats 4000000 in
theorem docstep_many_2 (g o cap : Nat) (st : St) (c : ByteArray) (rest : List ByteArray) (w : World) (hcap : rest.length + 1 ≤ cap) (hcm : cap ≤ 9223372036854775807) (hc : ∀ i x, (c :: rest)[i]? = some x → w.cell? ⟨g, o + i, none⟩ = some (.string x)) (hF : Far st c) {NV : Nat → Prop} (hEF : EntsF NV w (.slice a1 st.L.length c1) st.L) (hLl : st.L.length ≤ 1073741824) (hg : getE st.L (joinB st.here c) = none) (hz : (joinB st.here c).size ≠ 0) (hcz : c.size ≤ 1073741824) (hjz : (joinB st.here c).size ≤ 2147483648) (hne : NotEnd 2 rest.length) (hm : mayN c (joinB st.here c) = 0) (hl4 : 4096 ≤ st.L.length) (hst : (absN ⟨1, true, false⟩ st (joinB st.here c) rest).1 = 5) :
    Calls Tryz.prog 52 #[.agg (wk8 (.slice a1 st.L.length c1) st.here (.slice (some ⟨g, o, none⟩) (rest.length + 1) cap) st.hops (.slice a3 n3 c3) false ⟨#[]⟩ 0), .int .i64 2] w (DocPostK (fun k => k = g) NV w (.slice a3 n3 c3) ⟨1, true, false⟩ st c rest) := by
  obtain ⟨hn1, hn2, hs, hcs⟩ := hF
  have hb1 := ne_dot hn1
  have hb2 := ne_dd hn2
  have hjs := join_size st.here c
  have k0 : w.cell? ⟨g, o, none⟩ = some (.string c) := hc 0 _ rfl
  have hgl := World.block_lt_of_cell? w _ k0
  have hlt := left_tail w.heap.size hcap hcm hc
  have hT := slice_tail g o cap rest.length hcap hcm
  have HLT : Hid (LeftB (fun k => k = g ∨ w.heap.size ≤ k) w (.slice (tailA g o cap) rest.length (cap - 1)) rest) := hlt
  have HAT : Hid (atN st.L (joinB st.here c) = -1) := at_none (by unfold getE at hg; rw [if_neg hz] at hg; exact hg)
  have HST : Hid ((stepN ⟨1, true, false⟩ st c rest).1 = 5) := by unfold Hid stepN; rw [if_neg hn1, if_neg hn2, hg]; exact hst
  have HM : Hid (mayN c (joinB st.here c) = 0) := hm
  clear hst hm
  have hEv := hEF.ents
  clear hg hz
  have hb0 : Below w.heap.size w ((w.alloc (.cells (wk8 (.slice a1 st.L.length c1) st.here (.slice (tailA g o cap) rest.length (cap - 1)) st.hops (.slice a3 n3 c3) false ⟨#[]⟩ 0) 81)).alloc (.cells zw8 81)) := two_below _ _ _
  have hL : ∀ w3, Below ((w.alloc (.cells (wk8 (.slice a1 st.L.length c1) st.here (.slice (tailA g o cap) rest.length (cap - 1)) st.hops (.slice a3 n3 c3) false ⟨#[]⟩ 0) 81)).alloc (.cells zw8 81)).heap.size ((w.alloc (.cells (wk8 (.slice a1 st.L.length c1) st.here (.slice (tailA g o cap) rest.length (cap - 1)) st.hops (.slice a3 n3 c3) false ⟨#[]⟩ 0) 81)).alloc (.cells zw8 81)) w3 → w3.heap[w.heap.size + 1]? = some (.cells zw8 81 (0, 0)) := fun w3 hb => (hb.block _ (by simp)).trans (new_two w _ _ _)
  clear hc hlt hn1 hn2
  go_enter Tryz.func52, Tryz.ntmps52
  go_wp2_with (first | (go_at_call 78; refine (join_r _ _ _ (by omega)).mono ?_; rintro e w1 ⟨rfl, hw1⟩; replace hw1 := hw1.symm; subst hw1) | (go_at_call 79; refine (at_r _ st.L _ _ (hEv.below (two_below _ _ _)) hLl).mono ?_; rintro e w1 ⟨rfl, hw1⟩; replace hw1 := hw1.symm; subst hw1; rw [HAT.out]) | (go_at_call 80; refine (missing_many 2 _ _ _ hne (by omega) (by omega) HM.out hl4).mono ?_; rintro e w3 ⟨rfl, hb3⟩; have hL3 := hL _ hb3) | (refine wpList_store_row rfl 81 (.tmp 4) (.tmp 41) rfl (w.heap.size + 1) (wk8 (.slice a1 st.L.length c1) st.here (.slice (tailA g o cap) rest.length (cap - 1)) st.hops (.slice a3 n3 c3) false ⟨#[]⟩ 5) rfl rfl 81 zw8 hL3 (info_w8 _ rfl) rfl (one_w8 _ _ _ _ _ _ _ _ _ _ _ _ _ _) ?_))
  refine bodyPost_ret (results_cell_row rfl _ _ (w.heap.size + 1) 81 _ (0, 0) _ rfl (setRow_heap _ (w.heap.size + 1) _ _ _ (0, 0) hL3) Tryz.underlying81 rfl (info_w8 _ rfl)) rfl ?_
  exact ⟨below_setRow' (below_join hb0 hb3) (by omega) _, _, st.here, _, st.hops, false, ⟨#[]⟩, by rw [HST.out], ⟨_, _, _, rfl⟩, ⟨_, _, _, rfl⟩, fun h => absurd h (by rw [HST.out]; decide)⟩
set_option maxRecDepth 100000 in
set_option maxHeartbeats 4000000 in
theorem docstep_lay_2 (g o cap : Nat) (st : St) (c : ByteArray) (rest : List ByteArray) (w : World) (hcap : rest.length + 1 ≤ cap) (hcm : cap ≤ 9223372036854775807) (hc : ∀ i x, (c :: rest)[i]? = some x → w.cell? ⟨g, o + i, none⟩ = some (.string x)) (hF : Far st c) {NV : Nat → Prop} (hEF : EntsF NV w (.slice a1 st.L.length c1) st.L) (hLl : st.L.length ≤ 1073741824) (hg : getE st.L (joinB st.here c) = none) (hz : (joinB st.here c).size ≠ 0) (hcz : c.size ≤ 1073741824) (hjz : (joinB st.here c).size ≤ 1048576) (hne : NotEnd 2 rest.length) (hm : mayN c (joinB st.here c) = 0) (hl4 : st.L.length < 4096) (hps : ∀ x ∈ st.L, x.path.size ≤ 1048576) (hst : (absN ⟨1, true, false⟩ st (joinB st.here c) rest) = (0, { st with L := wthEnd (dirE (joinB st.here c)) st.L, here := joinB st.here c, left := rest, made := st.made ++ [joinB st.here c] })) :
    Calls Tryz.prog 52 #[.agg (wk8 (.slice a1 st.L.length c1) st.here (.slice (some ⟨g, o, none⟩) (rest.length + 1) cap) st.hops (.slice a3 n3 c3) false ⟨#[]⟩ 0), .int .i64 2] w (DocPostK (fun k => k = g) NV w (.slice a3 n3 c3) ⟨1, true, false⟩ st c rest) := by
  obtain ⟨hn1, hn2, hs, hcs⟩ := hF
  have hb1 := ne_dot hn1
  have hb2 := ne_dd hn2
  have hjs := join_size st.here c
  have k0 : w.cell? ⟨g, o, none⟩ = some (.string c) := hc 0 _ rfl
  have hgl := World.block_lt_of_cell? w _ k0
  have hlt := left_tail w.heap.size hcap hcm hc
  have hT := slice_tail g o cap rest.length hcap hcm
  have HLT : Hid (LeftB (fun k => k = g ∨ w.heap.size ≤ k) w (.slice (tailA g o cap) rest.length (cap - 1)) rest) := hlt
  have HAT : Hid (atN st.L (joinB st.here c) = -1) := at_none (by unfold getE at hg; rw [if_neg hz] at hg; exact hg)
  have HST : Hid (stepN ⟨1, true, false⟩ st c rest = (0, { st with L := wthEnd (dirE (joinB st.here c)) st.L, here := joinB st.here c, left := rest, made := st.made ++ [joinB st.here c] })) := by unfold Hid stepN; rw [if_neg hn1, if_neg hn2, hg]; exact hst
  have HM : Hid (mayN c (joinB st.here c) = 0) := hm
  clear hst hm
  have hEv := hEF.ents
  clear hg hz
  have hb0 : Below w.heap.size w ((w.alloc (.cells (wk8 (.slice a1 st.L.length c1) st.here (.slice (tailA g o cap) rest.length (cap - 1)) st.hops (.slice a3 n3 c3) false ⟨#[]⟩ 0) 81)).alloc (.cells zw8 81)) := two_below _ _ _
  have hL : ∀ w3, Below ((w.alloc (.cells (wk8 (.slice a1 st.L.length c1) st.here (.slice (tailA g o cap) rest.length (cap - 1)) st.hops (.slice a3 n3 c3) false ⟨#[]⟩ 0) 81)).alloc (.cells zw8 81)).heap.size ((w.alloc (.cells (wk8 (.slice a1 st.L.length c1) st.here (.slice (tailA g o cap) rest.length (cap - 1)) st.hops (.slice a3 n3 c3) false ⟨#[]⟩ 0) 81)).alloc (.cells zw8 81)) w3 → w3.heap[w.heap.size + 1]? = some (.cells zw8 81 (0, 0)) := fun w3 hb => (hb.block _ (by simp)).trans (new_two w _ _ _)
  clear hc hlt hn1 hn2
  go_enter Tryz.func52, Tryz.ntmps52
  go_wp2_with (first | (go_at_call 78; refine (join_r _ _ _ (by omega)).mono ?_; rintro e w1 ⟨rfl, hw1⟩; replace hw1 := hw1.symm; subst hw1) | (go_at_call 79; refine (at_r _ st.L _ _ (hEv.below (two_below _ _ _)) hLl).mono ?_; rintro e w1 ⟨rfl, hw1⟩; replace hw1 := hw1.symm; subst hw1; rw [HAT.out]) | (go_at_call 80; refine (missing_lay 2 st.L _ _ _ hne (by omega) (by omega) HM.out hl4 (hEv.below (two_below _ _ _)) hps).mono ?_; rintro e w3 ⟨u3, rfl, hu3, hb3⟩; obtain ⟨v1, v2, rfl⟩ := row_form hu3; have hL3 := hL _ hb3) | (refine wpList_store_row rfl 81 (.tmp 4) (.tmp 41) rfl (w.heap.size + 1) (wk8 (.slice v1 (wthEnd (dirE (joinB st.here c)) st.L).length v2) (joinB st.here c) (.slice (tailA g o cap) rest.length (cap - 1)) st.hops (.slice a3 n3 c3) false ⟨#[]⟩ 0) rfl rfl 81 zw8 hL3 (info_w8 _ rfl) rfl (one_w8 _ _ _ _ _ _ _ _ _ _ _ _ _ _) ?_))
  refine bodyPost_ret (results_cell_row rfl _ _ (w.heap.size + 1) 81 _ (0, 0) _ rfl (setRow_heap _ (w.heap.size + 1) _ _ _ (0, 0) hL3) Tryz.underlying81 rfl (info_w8 _ rfl)) rfl ?_
  have hu4 := row_loc (B := w3.setRow (w.heap.size + 1) (wk8 (.slice v1 (wthEnd (dirE (joinB st.here c)) st.L).length v2) (joinB st.here c) (.slice (tailA g o cap) rest.length (cap - 1)) st.hops (.slice a3 n3 c3) false ⟨#[]⟩ 0)) hu3 (fun k hk => setRow_other _ _ _ _ (by have := (hu3.lt k hk).1; simp at this; omega))
  refine ⟨below_setRow' (below_join hb0 hb3) (by omega) _, _, joinB st.here c, _, st.hops, false, ⟨#[]⟩, by rw [HST.out], ⟨_, _, _, rfl⟩, ⟨_, _, _, rfl⟩, fun _ => ⟨?_, .inl ⟨rfl, rfl, by rw [HST.out], by rw [HST.out], ?_⟩⟩⟩
  · rw [HST.out]
    exact (entsF_of_owns hu4).weak (fun k hk => .inr (by simp at hk; omega))
  · rw [HST.out]
    exact HLT.out.below (below_setRow' (below_join hb0 hb3) (by omega) _)
set_option maxRecDepth 100000 in
set_option maxHeartbeats 4000000 in
theorem docstep_may_3 (g o cap : Nat) (st : St) (c : ByteArray) (rest : List ByteArray) (w : World) (hcap : rest.length + 1 ≤ cap) (hcm : cap ≤ 9223372036854775807) (hc : ∀ i x, (c :: rest)[i]? = some x → w.cell? ⟨g, o + i, none⟩ = some (.string x)) (hF : Far st c) {NV : Nat → Prop} (hEF : EntsF NV w (.slice a1 st.L.length c1) st.L) (hLl : st.L.length ≤ 1073741824) (hg : getE st.L (joinB st.here c) = none) (hz : (joinB st.here c).size ≠ 0) (hcz : c.size ≤ 1073741824) (hjz : (joinB st.here c).size ≤ 2147483648) (hm : mayN c (joinB st.here c) ≠ 0) (hst : (absN ⟨2, false, false⟩ st (joinB st.here c) rest).1 = mayN c (joinB st.here c)) :
    Calls Tryz.prog 52 #[.agg (wk8 (.slice a1 st.L.length c1) st.here (.slice (some ⟨g, o, none⟩) (rest.length + 1) cap) st.hops (.slice a3 n3 c3) false ⟨#[]⟩ 0), .int .i64 3] w (DocPostK (fun k => k = g) NV w (.slice a3 n3 c3) ⟨2, false, false⟩ st c rest) := by
  obtain ⟨hn1, hn2, hs, hcs⟩ := hF
  have hb1 := ne_dot hn1
  have hb2 := ne_dd hn2
  have hjs := join_size st.here c
  have k0 : w.cell? ⟨g, o, none⟩ = some (.string c) := hc 0 _ rfl
  have hgl := World.block_lt_of_cell? w _ k0
  have hlt := left_tail w.heap.size hcap hcm hc
  have hT := slice_tail g o cap rest.length hcap hcm
  have HLT : Hid (LeftB (fun k => k = g ∨ w.heap.size ≤ k) w (.slice (tailA g o cap) rest.length (cap - 1)) rest) := hlt
  have HAT : Hid (atN st.L (joinB st.here c) = -1) := at_none (by unfold getE at hg; rw [if_neg hz] at hg; exact hg)
  have HST : Hid ((stepN ⟨2, false, false⟩ st c rest).1 = mayN c (joinB st.here c)) := by unfold Hid stepN; rw [if_neg hn1, if_neg hn2, hg]; exact hst
  have HM : Hid (mayN c (joinB st.here c) ≠ 0) := hm
  clear hst hm
  have hEv := hEF.ents
  clear hg hz
  have hb0 : Below w.heap.size w ((w.alloc (.cells (wk8 (.slice a1 st.L.length c1) st.here (.slice (tailA g o cap) rest.length (cap - 1)) st.hops (.slice a3 n3 c3) false ⟨#[]⟩ 0) 81)).alloc (.cells zw8 81)) := two_below _ _ _
  have hL : ∀ w3, Below ((w.alloc (.cells (wk8 (.slice a1 st.L.length c1) st.here (.slice (tailA g o cap) rest.length (cap - 1)) st.hops (.slice a3 n3 c3) false ⟨#[]⟩ 0) 81)).alloc (.cells zw8 81)).heap.size ((w.alloc (.cells (wk8 (.slice a1 st.L.length c1) st.here (.slice (tailA g o cap) rest.length (cap - 1)) st.hops (.slice a3 n3 c3) false ⟨#[]⟩ 0) 81)).alloc (.cells zw8 81)) w3 → w3.heap[w.heap.size + 1]? = some (.cells zw8 81 (0, 0)) := fun w3 hb => (hb.block _ (by simp)).trans (new_two w _ _ _)
  clear hc hlt hn1 hn2
  go_enter Tryz.func52, Tryz.ntmps52
  go_wp2_with (first | (go_at_call 78; refine (join_r _ _ _ (by omega)).mono ?_; rintro e w1 ⟨rfl, hw1⟩; replace hw1 := hw1.symm; subst hw1) | (go_at_call 79; refine (at_r _ st.L _ _ (hEv.below (two_below _ _ _)) hLl).mono ?_; rintro e w1 ⟨rfl, hw1⟩; replace hw1 := hw1.symm; subst hw1; rw [HAT.out]) | (go_at_call 80; refine (missing_may 3 (by decide) _ _ _ (by omega) (by omega) HM.out).mono ?_; rintro e w3 ⟨rfl, hb3⟩; have hL3 := hL _ hb3) | (refine wpList_store_row rfl 81 (.tmp 4) (.tmp 41) rfl (w.heap.size + 1) (wk8 (.slice a1 st.L.length c1) st.here (.slice (tailA g o cap) rest.length (cap - 1)) st.hops (.slice a3 n3 c3) false ⟨#[]⟩ (mayN c (joinB st.here c))) rfl rfl 81 zw8 hL3 (info_w8 _ rfl) rfl (one_w8 _ _ _ _ _ _ _ _ _ _ _ _ _ _) ?_))
  refine bodyPost_ret (results_cell_row rfl _ _ (w.heap.size + 1) 81 _ (0, 0) _ rfl (setRow_heap _ (w.heap.size + 1) _ _ _ (0, 0) hL3) Tryz.underlying81 rfl (info_w8 _ rfl)) rfl ?_
  exact ⟨below_setRow' (below_join hb0 hb3) (by omega) _, _, st.here, _, st.hops, false, ⟨#[]⟩, by rw [HST.out], ⟨_, _, _, rfl⟩, ⟨_, _, _, rfl⟩, fun h => absurd h (by rw [HST.out]; exact HM.out)⟩
set_option maxRecDepth 100000 in
set_option maxHeartbeats 4000000 in
theorem docstep_many_3 (g o cap : Nat) (st : St) (c : ByteArray) (rest : List ByteArray) (w : World) (hcap : rest.length + 1 ≤ cap) (hcm : cap ≤ 9223372036854775807) (hc : ∀ i x, (c :: rest)[i]? = some x → w.cell? ⟨g, o + i, none⟩ = some (.string x)) (hF : Far st c) {NV : Nat → Prop} (hEF : EntsF NV w (.slice a1 st.L.length c1) st.L) (hLl : st.L.length ≤ 1073741824) (hg : getE st.L (joinB st.here c) = none) (hz : (joinB st.here c).size ≠ 0) (hcz : c.size ≤ 1073741824) (hjz : (joinB st.here c).size ≤ 2147483648) (hne : NotEnd 3 rest.length) (hm : mayN c (joinB st.here c) = 0) (hl4 : 4096 ≤ st.L.length) (hst : (absN ⟨2, false, false⟩ st (joinB st.here c) rest).1 = 5) :
    Calls Tryz.prog 52 #[.agg (wk8 (.slice a1 st.L.length c1) st.here (.slice (some ⟨g, o, none⟩) (rest.length + 1) cap) st.hops (.slice a3 n3 c3) false ⟨#[]⟩ 0), .int .i64 3] w (DocPostK (fun k => k = g) NV w (.slice a3 n3 c3) ⟨2, false, false⟩ st c rest) := by
  obtain ⟨hn1, hn2, hs, hcs⟩ := hF
  have hb1 := ne_dot hn1
  have hb2 := ne_dd hn2
  have hjs := join_size st.here c
  have k0 : w.cell? ⟨g, o, none⟩ = some (.string c) := hc 0 _ rfl
  have hgl := World.block_lt_of_cell? w _ k0
  have hlt := left_tail w.heap.size hcap hcm hc
  have hT := slice_tail g o cap rest.length hcap hcm
  have HLT : Hid (LeftB (fun k => k = g ∨ w.heap.size ≤ k) w (.slice (tailA g o cap) rest.length (cap - 1)) rest) := hlt
  have HAT : Hid (atN st.L (joinB st.here c) = -1) := at_none (by unfold getE at hg; rw [if_neg hz] at hg; exact hg)
  have HST : Hid ((stepN ⟨2, false, false⟩ st c rest).1 = 5) := by unfold Hid stepN; rw [if_neg hn1, if_neg hn2, hg]; exact hst
  have HM : Hid (mayN c (joinB st.here c) = 0) := hm
  clear hst hm
  have hEv := hEF.ents
  clear hg hz
  have hb0 : Below w.heap.size w ((w.alloc (.cells (wk8 (.slice a1 st.L.length c1) st.here (.slice (tailA g o cap) rest.length (cap - 1)) st.hops (.slice a3 n3 c3) false ⟨#[]⟩ 0) 81)).alloc (.cells zw8 81)) := two_below _ _ _
  have hL : ∀ w3, Below ((w.alloc (.cells (wk8 (.slice a1 st.L.length c1) st.here (.slice (tailA g o cap) rest.length (cap - 1)) st.hops (.slice a3 n3 c3) false ⟨#[]⟩ 0) 81)).alloc (.cells zw8 81)).heap.size ((w.alloc (.cells (wk8 (.slice a1 st.L.length c1) st.here (.slice (tailA g o cap) rest.length (cap - 1)) st.hops (.slice a3 n3 c3) false ⟨#[]⟩ 0) 81)).alloc (.cells zw8 81)) w3 → w3.heap[w.heap.size + 1]? = some (.cells zw8 81 (0, 0)) := fun w3 hb => (hb.block _ (by simp)).trans (new_two w _ _ _)
  clear hc hlt hn1 hn2
  go_enter Tryz.func52, Tryz.ntmps52
  go_wp2_with (first | (go_at_call 78; refine (join_r _ _ _ (by omega)).mono ?_; rintro e w1 ⟨rfl, hw1⟩; replace hw1 := hw1.symm; subst hw1) | (go_at_call 79; refine (at_r _ st.L _ _ (hEv.below (two_below _ _ _)) hLl).mono ?_; rintro e w1 ⟨rfl, hw1⟩; replace hw1 := hw1.symm; subst hw1; rw [HAT.out]) | (go_at_call 80; refine (missing_many 3 _ _ _ hne (by omega) (by omega) HM.out hl4).mono ?_; rintro e w3 ⟨rfl, hb3⟩; have hL3 := hL _ hb3) | (refine wpList_store_row rfl 81 (.tmp 4) (.tmp 41) rfl (w.heap.size + 1) (wk8 (.slice a1 st.L.length c1) st.here (.slice (tailA g o cap) rest.length (cap - 1)) st.hops (.slice a3 n3 c3) false ⟨#[]⟩ 5) rfl rfl 81 zw8 hL3 (info_w8 _ rfl) rfl (one_w8 _ _ _ _ _ _ _ _ _ _ _ _ _ _) ?_))
  refine bodyPost_ret (results_cell_row rfl _ _ (w.heap.size + 1) 81 _ (0, 0) _ rfl (setRow_heap _ (w.heap.size + 1) _ _ _ (0, 0) hL3) Tryz.underlying81 rfl (info_w8 _ rfl)) rfl ?_
  exact ⟨below_setRow' (below_join hb0 hb3) (by omega) _, _, st.here, _, st.hops, false, ⟨#[]⟩, by rw [HST.out], ⟨_, _, _, rfl⟩, ⟨_, _, _, rfl⟩, fun h => absurd h (by rw [HST.out]; decide)⟩
set_option maxRecDepth 100000 in
set_option maxHeartbeats 4000000 in
theorem docstep_lay_3 (g o cap : Nat) (st : St) (c : ByteArray) (rest : List ByteArray) (w : World) (hcap : rest.length + 1 ≤ cap) (hcm : cap ≤ 9223372036854775807) (hc : ∀ i x, (c :: rest)[i]? = some x → w.cell? ⟨g, o + i, none⟩ = some (.string x)) (hF : Far st c) {NV : Nat → Prop} (hEF : EntsF NV w (.slice a1 st.L.length c1) st.L) (hLl : st.L.length ≤ 1073741824) (hg : getE st.L (joinB st.here c) = none) (hz : (joinB st.here c).size ≠ 0) (hcz : c.size ≤ 1073741824) (hjz : (joinB st.here c).size ≤ 1048576) (hne : NotEnd 3 rest.length) (hm : mayN c (joinB st.here c) = 0) (hl4 : st.L.length < 4096) (hps : ∀ x ∈ st.L, x.path.size ≤ 1048576) (hst : (absN ⟨2, false, false⟩ st (joinB st.here c) rest) = (0, { st with L := wthEnd (dirE (joinB st.here c)) st.L, here := joinB st.here c, left := rest, made := st.made ++ [joinB st.here c] })) :
    Calls Tryz.prog 52 #[.agg (wk8 (.slice a1 st.L.length c1) st.here (.slice (some ⟨g, o, none⟩) (rest.length + 1) cap) st.hops (.slice a3 n3 c3) false ⟨#[]⟩ 0), .int .i64 3] w (DocPostK (fun k => k = g) NV w (.slice a3 n3 c3) ⟨2, false, false⟩ st c rest) := by
  obtain ⟨hn1, hn2, hs, hcs⟩ := hF
  have hb1 := ne_dot hn1
  have hb2 := ne_dd hn2
  have hjs := join_size st.here c
  have k0 : w.cell? ⟨g, o, none⟩ = some (.string c) := hc 0 _ rfl
  have hgl := World.block_lt_of_cell? w _ k0
  have hlt := left_tail w.heap.size hcap hcm hc
  have hT := slice_tail g o cap rest.length hcap hcm
  have HLT : Hid (LeftB (fun k => k = g ∨ w.heap.size ≤ k) w (.slice (tailA g o cap) rest.length (cap - 1)) rest) := hlt
  have HAT : Hid (atN st.L (joinB st.here c) = -1) := at_none (by unfold getE at hg; rw [if_neg hz] at hg; exact hg)
  have HST : Hid (stepN ⟨2, false, false⟩ st c rest = (0, { st with L := wthEnd (dirE (joinB st.here c)) st.L, here := joinB st.here c, left := rest, made := st.made ++ [joinB st.here c] })) := by unfold Hid stepN; rw [if_neg hn1, if_neg hn2, hg]; exact hst
  have HM : Hid (mayN c (joinB st.here c) = 0) := hm
  clear hst hm
  have hEv := hEF.ents
  clear hg hz
  have hb0 : Below w.heap.size w ((w.alloc (.cells (wk8 (.slice a1 st.L.length c1) st.here (.slice (tailA g o cap) rest.length (cap - 1)) st.hops (.slice a3 n3 c3) false ⟨#[]⟩ 0) 81)).alloc (.cells zw8 81)) := two_below _ _ _
  have hL : ∀ w3, Below ((w.alloc (.cells (wk8 (.slice a1 st.L.length c1) st.here (.slice (tailA g o cap) rest.length (cap - 1)) st.hops (.slice a3 n3 c3) false ⟨#[]⟩ 0) 81)).alloc (.cells zw8 81)).heap.size ((w.alloc (.cells (wk8 (.slice a1 st.L.length c1) st.here (.slice (tailA g o cap) rest.length (cap - 1)) st.hops (.slice a3 n3 c3) false ⟨#[]⟩ 0) 81)).alloc (.cells zw8 81)) w3 → w3.heap[w.heap.size + 1]? = some (.cells zw8 81 (0, 0)) := fun w3 hb => (hb.block _ (by simp)).trans (new_two w _ _ _)
  clear hc hlt hn1 hn2
  go_enter Tryz.func52, Tryz.ntmps52
  go_wp2_with (first | (go_at_call 78; refine (join_r _ _ _ (by omega)).mono ?_; rintro e w1 ⟨rfl, hw1⟩; replace hw1 := hw1.symm; subst hw1) | (go_at_call 79; refine (at_r _ st.L _ _ (hEv.below (two_below _ _ _)) hLl).mono ?_; rintro e w1 ⟨rfl, hw1⟩; replace hw1 := hw1.symm; subst hw1; rw [HAT.out]) | (go_at_call 80; refine (missing_lay 3 st.L _ _ _ hne (by omega) (by omega) HM.out hl4 (hEv.below (two_below _ _ _)) hps).mono ?_; rintro e w3 ⟨u3, rfl, hu3, hb3⟩; obtain ⟨v1, v2, rfl⟩ := row_form hu3; have hL3 := hL _ hb3) | (refine wpList_store_row rfl 81 (.tmp 4) (.tmp 41) rfl (w.heap.size + 1) (wk8 (.slice v1 (wthEnd (dirE (joinB st.here c)) st.L).length v2) (joinB st.here c) (.slice (tailA g o cap) rest.length (cap - 1)) st.hops (.slice a3 n3 c3) false ⟨#[]⟩ 0) rfl rfl 81 zw8 hL3 (info_w8 _ rfl) rfl (one_w8 _ _ _ _ _ _ _ _ _ _ _ _ _ _) ?_))
  refine bodyPost_ret (results_cell_row rfl _ _ (w.heap.size + 1) 81 _ (0, 0) _ rfl (setRow_heap _ (w.heap.size + 1) _ _ _ (0, 0) hL3) Tryz.underlying81 rfl (info_w8 _ rfl)) rfl ?_
  have hu4 := row_loc (B := w3.setRow (w.heap.size + 1) (wk8 (.slice v1 (wthEnd (dirE (joinB st.here c)) st.L).length v2) (joinB st.here c) (.slice (tailA g o cap) rest.length (cap - 1)) st.hops (.slice a3 n3 c3) false ⟨#[]⟩ 0)) hu3 (fun k hk => setRow_other _ _ _ _ (by have := (hu3.lt k hk).1; simp at this; omega))
  refine ⟨below_setRow' (below_join hb0 hb3) (by omega) _, _, joinB st.here c, _, st.hops, false, ⟨#[]⟩, by rw [HST.out], ⟨_, _, _, rfl⟩, ⟨_, _, _, rfl⟩, fun _ => ⟨?_, .inl ⟨rfl, rfl, by rw [HST.out], by rw [HST.out], ?_⟩⟩⟩
  · rw [HST.out]
    exact (entsF_of_owns hu4).weak (fun k hk => .inr (by simp at hk; omega))
  · rw [HST.out]
    exact HLT.out.below (below_setRow' (below_join hb0 hb3) (by omega) _)
set_option maxRecDepth 100000 in
set_option maxHeartbeats 4000000 in
theorem docstep_end_3 (g o cap : Nat) (st : St) (c : ByteArray) (rest : List ByteArray) (w : World) (hcap : rest.length + 1 ≤ cap) (hcm : cap ≤ 9223372036854775807) (hc : ∀ i x, (c :: rest)[i]? = some x → w.cell? ⟨g, o + i, none⟩ = some (.string x)) (hF : Far st c) {NV : Nat → Prop} (hEF : EntsF NV w (.slice a1 st.L.length c1) st.L) (hLl : st.L.length ≤ 1073741824) (hg : getE st.L (joinB st.here c) = none) (hz : (joinB st.here c).size ≠ 0) (hcz : c.size ≤ 1073741824) (hjz : (joinB st.here c).size ≤ 2147483648) (hm : mayN c (joinB st.here c) = 0) (hr : rest = []) (hst : (absN ⟨2, false, false⟩ st (joinB st.here c) rest) = (0, { st with here := joinB st.here c, left := rest })) :
    Calls Tryz.prog 52 #[.agg (wk8 (.slice a1 st.L.length c1) st.here (.slice (some ⟨g, o, none⟩) (rest.length + 1) cap) st.hops (.slice a3 n3 c3) false ⟨#[]⟩ 0), .int .i64 3] w (DocPostK (fun k => k = g) NV w (.slice a3 n3 c3) ⟨2, false, false⟩ st c rest) := by
  obtain ⟨hn1, hn2, hs, hcs⟩ := hF
  have hb1 := ne_dot hn1
  have hb2 := ne_dd hn2
  have hjs := join_size st.here c
  have k0 : w.cell? ⟨g, o, none⟩ = some (.string c) := hc 0 _ rfl
  have hgl := World.block_lt_of_cell? w _ k0
  have hlt := left_tail w.heap.size hcap hcm hc
  have hT := slice_tail g o cap rest.length hcap hcm
  have HLT : Hid (LeftB (fun k => k = g ∨ w.heap.size ≤ k) w (.slice (tailA g o cap) rest.length (cap - 1)) rest) := hlt
  have HAT : Hid (atN st.L (joinB st.here c) = -1) := at_none (by unfold getE at hg; rw [if_neg hz] at hg; exact hg)
  have HST : Hid (stepN ⟨2, false, false⟩ st c rest = (0, { st with here := joinB st.here c, left := rest })) := by unfold Hid stepN; rw [if_neg hn1, if_neg hn2, hg]; exact hst
  have HM : Hid (mayN c (joinB st.here c) = 0) := hm
  clear hst hm
  subst hr
  simp only [List.length_nil] at *
  have hEv := hEF.ents
  clear hg hz
  have hb0 : Below w.heap.size w ((w.alloc (.cells (wk8 (.slice a1 st.L.length c1) st.here (.slice (tailA g o cap) 0 (cap - 1)) st.hops (.slice a3 n3 c3) false ⟨#[]⟩ 0) 81)).alloc (.cells zw8 81)) := two_below _ _ _
  have hL : ∀ w3, Below ((w.alloc (.cells (wk8 (.slice a1 st.L.length c1) st.here (.slice (tailA g o cap) 0 (cap - 1)) st.hops (.slice a3 n3 c3) false ⟨#[]⟩ 0) 81)).alloc (.cells zw8 81)).heap.size ((w.alloc (.cells (wk8 (.slice a1 st.L.length c1) st.here (.slice (tailA g o cap) 0 (cap - 1)) st.hops (.slice a3 n3 c3) false ⟨#[]⟩ 0) 81)).alloc (.cells zw8 81)) w3 → w3.heap[w.heap.size + 1]? = some (.cells zw8 81 (0, 0)) := fun w3 hb => (hb.block _ (by simp)).trans (new_two w _ _ _)
  clear hc hlt hn1 hn2
  go_enter Tryz.func52, Tryz.ntmps52
  go_wp2_with (first | (go_at_call 78; refine (join_r _ _ _ (by omega)).mono ?_; rintro e w1 ⟨rfl, hw1⟩; replace hw1 := hw1.symm; subst hw1) | (go_at_call 79; refine (at_r _ st.L _ _ (hEv.below (two_below _ _ _)) hLl).mono ?_; rintro e w1 ⟨rfl, hw1⟩; replace hw1 := hw1.symm; subst hw1; rw [HAT.out]) | (go_at_call 80; refine (missing_end _ _ _ (by omega) (by omega) HM.out).mono ?_; rintro e w3 ⟨rfl, hb3⟩; have hL3 := hL _ hb3) | (refine wpList_store_row rfl 81 (.tmp 4) (.tmp 41) rfl (w.heap.size + 1) (wk8 (.slice a1 st.L.length c1) st.here (.slice (tailA g o cap) 0 (cap - 1)) st.hops (.slice a3 n3 c3) true (joinB st.here c) 0) rfl rfl 81 zw8 hL3 (info_w8 _ rfl) rfl (one_w8 _ _ _ _ _ _ _ _ _ _ _ _ _ _) ?_))
  refine bodyPost_ret (results_cell_row rfl _ _ (w.heap.size + 1) 81 _ (0, 0) _ rfl (setRow_heap _ (w.heap.size + 1) _ _ _ (0, 0) hL3) Tryz.underlying81 rfl (info_w8 _ rfl)) rfl ?_
  exact ⟨below_setRow' (below_join hb0 hb3) (by omega) _, _, st.here, _, st.hops, true, joinB st.here c, by rw [HST.out], ⟨_, _, _, rfl⟩, ⟨_, _, _, rfl⟩, fun _ => ⟨by rw [HST.out]; exact ((hEF.below (below_setRow' (below_join hb0 hb3) (by omega) _)).weak (fun k hk => .inl hk)), .inr ⟨rfl, by rw [HST.out], by rw [HST.out]⟩⟩⟩
end Go.Proofs.YtcefgnjgcnboeaaGreatDoor

namespace Go.Proofs.YtcefgnjgcnboeaaGreatDoor
open Go Go.RowKit
variable {a1 a3 : Option Addr} {n1 n3 c1 c3 : Nat}
set_option maxRecDepth 100000 in
set_option maxHeartbeats 4000000 in
theorem docstep_dot_k (srt : Int) (m : Mn) (g o cap : Nat) (st : St) (rest : List ByteArray) (w : World) (hcap : rest.length + 1 ≤ cap) (hcm : cap ≤ 9223372036854775807) (hc : ∀ i x, (dotB :: rest)[i]? = some x → w.cell? ⟨g, o + i, none⟩ = some (.string x))  :
    Calls Tryz.prog 52 #[.agg (wk8 (.slice a1 n1 c1) st.here (.slice (some ⟨g, o, none⟩) (rest.length + 1) cap) st.hops (.slice a3 n3 c3) false ⟨#[]⟩ 0), .int .i64 srt] w (DocPost g w (.slice a1 n1 c1) (.slice a3 n3 c3) m st dotB rest) := by
  have k0 : w.cell? ⟨g, o, none⟩ = some (.string dotB) := hc 0 _ rfl
  have hlt := left_tail w.heap.size hcap hcm hc
  have hT := slice_tail g o cap rest.length hcap hcm
  have HST : Hid (stepN m st dotB rest = (0, { st with left := rest })) := by unfold Hid stepN; rw [if_pos rfl]
  unfold dotB at k0
  have hgl := World.block_lt_of_cell? w _ k0
  have HLT : Hid (LeftB (fun k => k = g ∨ w.heap.size ≤ k) w (.slice (tailA g o cap) rest.length (cap - 1)) rest) := hlt
  clear hc hlt
  go_enter Tryz.func52, Tryz.ntmps52
  go_wp2
  refine bodyPost_ret (results_cell_row rfl _ _ (w.heap.size + 1) 81 _ (0, 0) _ rfl (new_two w _ _ _) Tryz.underlying81 rfl (info_w8 _ rfl)) rfl ?_
  exact ⟨two_below _ _ _, st.here, _, st.hops, false, ⟨#[]⟩, by rw [HST.out], ⟨_, _, _, rfl⟩, fun _ => .inl ⟨rfl, rfl, by rw [HST.out], by rw [HST.out], by rw [HST.out]; exact HLT.out.below (two_below _ _ _)⟩⟩
set_option maxRecDepth 100000 in
set_option maxHeartbeats 4000000 in
theorem docstep_dd_k (srt : Int) (m : Mn) (g o cap : Nat) (st : St) (rest : List ByteArray) (w : World) (hcap : rest.length + 1 ≤ cap) (hcm : cap ≤ 9223372036854775807) (hc : ∀ i x, (ddB :: rest)[i]? = some x → w.cell? ⟨g, o + i, none⟩ = some (.string x)) (hs : st.here.size ≤ 255) :
    Calls Tryz.prog 52 #[.agg (wk8 (.slice a1 n1 c1) st.here (.slice (some ⟨g, o, none⟩) (rest.length + 1) cap) st.hops (.slice a3 n3 c3) false ⟨#[]⟩ 0), .int .i64 srt] w (DocPost g w (.slice a1 n1 c1) (.slice a3 n3 c3) m st ddB rest) := by
  have k0 : w.cell? ⟨g, o, none⟩ = some (.string ddB) := hc 0 _ rfl
  have hlt := left_tail w.heap.size hcap hcm hc
  have hT := slice_tail g o cap rest.length hcap hcm
  have HST : Hid (stepN m st ddB rest = (0, { st with here := parentB st.here, left := rest })) := by unfold Hid stepN; rw [if_neg (by decide), if_pos rfl]
  unfold ddB at k0
  have hgl := World.block_lt_of_cell? w _ k0
  have HLT : Hid (LeftB (fun k => k = g ∨ w.heap.size ≤ k) w (.slice (tailA g o cap) rest.length (cap - 1)) rest) := hlt
  clear hc hlt
  go_enter Tryz.func52, Tryz.ntmps52
  go_wp2_with (go_at_call 77; refine (parent_r _ _ (by omega)).mono ?_; rintro e w1 ⟨rfl, hw1⟩; replace hw1 := hw1.symm; subst hw1)
  refine bodyPost_ret (results_cell_row rfl _ _ (w.heap.size + 1) 81 _ (0, 0) _ rfl (new_two w _ _ _) Tryz.underlying81 rfl (info_w8 _ rfl)) rfl ?_
  exact ⟨two_below _ _ _, parentB st.here, _, st.hops, false, ⟨#[]⟩, by rw [HST.out], ⟨_, _, _, rfl⟩, fun _ => .inl ⟨rfl, rfl, by rw [HST.out], by rw [HST.out], by rw [HST.out]; exact HLT.out.below (two_below _ _ _)⟩⟩
set_option maxRecDepth 100000 in
set_option maxHeartbeats 4000000 in
theorem docstep_dir_2 (g o cap : Nat) (st : St) (c : ByteArray) (rest : List ByteArray) (w : World) (hcap : rest.length + 1 ≤ cap) (hcm : cap ≤ 9223372036854775807) (hc : ∀ i x, (c :: rest)[i]? = some x → w.cell? ⟨g, o + i, none⟩ = some (.string x)) (hF : Far st c) (hEv : EntsAt w (.slice a1 st.L.length c1) st.L) (hLl : st.L.length ≤ 1073741824) (e : Ent) (hg : getE st.L (joinB st.here c) = some e) (hk : e.kind = 1) :
    Calls Tryz.prog 52 #[.agg (wk8 (.slice a1 st.L.length c1) st.here (.slice (some ⟨g, o, none⟩) (rest.length + 1) cap) st.hops (.slice a3 n3 c3) false ⟨#[]⟩ 0), .int .i64 2] w (DocPost g w (.slice a1 st.L.length c1) (.slice a3 n3 c3) ⟨1, true, false⟩ st c rest) := by
  obtain ⟨hn1, hn2, hs, hcs⟩ := hF
  have hb1 := ne_dot hn1
  have hb2 := ne_dd hn2
  have hjs := join_size st.here c
  have k0 : w.cell? ⟨g, o, none⟩ = some (.string c) := hc 0 _ rfl
  have hgl := World.block_lt_of_cell? w _ k0
  have hlt := left_tail w.heap.size hcap hcm hc
  have hT := slice_tail g o cap rest.length hcap hcm
  have HLT : Hid (LeftB (fun k => k = g ∨ w.heap.size ≤ k) w (.slice (tailA g o cap) rest.length (cap - 1)) rest) := hlt
  obtain ⟨ai, hai, hLi⟩ := at_some (show st.L.find? (pathIs (joinB st.here c)) = some e by have := hg; unfold getE at this; split at this <;> first | cases this | exact this)
  have HAT : Hid (atN st.L (joinB st.here c) = (ai : Int)) := hai
  have hLt := (List.getElem?_eq_some_iff.1 hLi).1
  obtain ⟨av, cav, bb, oo, hveq, hva, hvc, hvv⟩ := id hEv
  obtain ⟨rfl, -⟩ : a1 = av ∧ c1 = cav := by simpa using hveq
  obtain rfl := hva (fun e => by rw [e] at hLt; simp at hLt)
  have hbl := World.block_lt_of_cell? w _ (hvv ai e hLi).c0
  have hE2 := (hvv ai e hLi).below (two_below w (.cells (wk8 (.slice (some ⟨bb, oo, none⟩) st.L.length c1) st.here (.slice (tailA g o cap) rest.length (cap - 1)) st.hops (.slice a3 n3 c3) false ⟨#[]⟩ 0) 81) (.cells zw8 81))
  have d1 := hE2.c1
  have d4 := hE2.c4
  have j1 : ¬ (ai : Int) < 0 := by omega
  have j2 : (0 : Int) ≤ (ai : Int) := by omega
  have j3 : (ai : Int) < (st.L.length : Int) := by omega
  have HST : Hid (stepN ⟨1, true, false⟩ st c rest = (0, { st with here := joinB st.here c, left := rest })) := by unfold Hid stepN; rw [if_neg hn1, if_neg hn2, hg]; simp only [thereN, isFile, isLink, hk]; rfl
  rw [hk] at d1
  have e1 := (hvv ai e hLi).below (two_below w (.cells (wk8 (.slice (some ⟨bb, oo, none⟩) st.L.length c1) (joinB st.here c) (.slice (tailA g o cap) rest.length (cap - 1)) st.hops (.slice a3 n3 c3) false ⟨#[]⟩ 0) 81) (.cells zw8 81))
  clear hg hvv hva hLi hai hveq
  clear hc hlt hn1 hn2
  go_enter Tryz.func52, Tryz.ntmps52
  go_wp2_with (first | (go_at_call 78; refine (join_r _ _ _ (by omega)).mono ?_; rintro e w1 ⟨rfl, hw1⟩; replace hw1 := hw1.symm; subst hw1) | (go_at_call 79; refine (at_r _ st.L _ _ (hEv.below (two_below _ _ _)) hLl).mono ?_; rintro e w1 ⟨rfl, hw1⟩; replace hw1 := hw1.symm; subst hw1; rw [HAT.out]))
  refine bodyPost_ret (results_cell_row rfl _ _ (w.heap.size + 1) 81 _ (0, 0) _ rfl (new_two w _ _ _) Tryz.underlying81 rfl (info_w8 _ rfl)) rfl ?_
  exact ⟨two_below _ _ _, joinB st.here c, _, st.hops, false, ⟨#[]⟩, by rw [HST.out], ⟨_, _, _, rfl⟩, fun _ => .inl ⟨rfl, rfl, by rw [HST.out], by rw [HST.out], by rw [HST.out]; exact HLT.out.below (two_below _ _ _)⟩⟩
set_option maxRecDepth 100000 in
set_option maxHeartbeats 4000000 in
theorem docstep_13_2 (g o cap : Nat) (st : St) (c : ByteArray) (rest : List ByteArray) (w : World) (hcap : rest.length + 1 ≤ cap) (hcm : cap ≤ 9223372036854775807) (hc : ∀ i x, (c :: rest)[i]? = some x → w.cell? ⟨g, o + i, none⟩ = some (.string x)) (hF : Far st c) (hEv : EntsAt w (.slice a1 st.L.length c1) st.L) (hLl : st.L.length ≤ 1073741824) (e : Ent) (hg : getE st.L (joinB st.here c) = some e) (hk : e.kind = 2) :
    Calls Tryz.prog 52 #[.agg (wk8 (.slice a1 st.L.length c1) st.here (.slice (some ⟨g, o, none⟩) (rest.length + 1) cap) st.hops (.slice a3 n3 c3) false ⟨#[]⟩ 0), .int .i64 2] w (DocPost g w (.slice a1 st.L.length c1) (.slice a3 n3 c3) ⟨1, true, false⟩ st c rest) := by
  obtain ⟨hn1, hn2, hs, hcs⟩ := hF
  have hb1 := ne_dot hn1
  have hb2 := ne_dd hn2
  have hjs := join_size st.here c
  have k0 : w.cell? ⟨g, o, none⟩ = some (.string c) := hc 0 _ rfl
  have hgl := World.block_lt_of_cell? w _ k0
  have hlt := left_tail w.heap.size hcap hcm hc
  have hT := slice_tail g o cap rest.length hcap hcm
  have HLT : Hid (LeftB (fun k => k = g ∨ w.heap.size ≤ k) w (.slice (tailA g o cap) rest.length (cap - 1)) rest) := hlt
  obtain ⟨ai, hai, hLi⟩ := at_some (show st.L.find? (pathIs (joinB st.here c)) = some e by have := hg; unfold getE at this; split at this <;> first | cases this | exact this)
  have HAT : Hid (atN st.L (joinB st.here c) = (ai : Int)) := hai
  have hLt := (List.getElem?_eq_some_iff.1 hLi).1
  obtain ⟨av, cav, bb, oo, hveq, hva, hvc, hvv⟩ := id hEv
  obtain ⟨rfl, -⟩ : a1 = av ∧ c1 = cav := by simpa using hveq
  obtain rfl := hva (fun e => by rw [e] at hLt; simp at hLt)
  have hbl := World.block_lt_of_cell? w _ (hvv ai e hLi).c0
  have hE2 := (hvv ai e hLi).below (two_below w (.cells (wk8 (.slice (some ⟨bb, oo, none⟩) st.L.length c1) st.here (.slice (tailA g o cap) rest.length (cap - 1)) st.hops (.slice a3 n3 c3) false ⟨#[]⟩ 0) 81) (.cells zw8 81))
  have d1 := hE2.c1
  have d4 := hE2.c4
  have j1 : ¬ (ai : Int) < 0 := by omega
  have j2 : (0 : Int) ≤ (ai : Int) := by omega
  have j3 : (ai : Int) < (st.L.length : Int) := by omega
  have HST : Hid ((stepN ⟨1, true, false⟩ st c rest).1 = 13) := by unfold Hid stepN; rw [if_neg hn1, if_neg hn2, hg]; simp only [thereN, isFile, isLink, hk]; rfl
  rw [hk] at d1
  clear hg hvv hva hLi hai hveq
  have hb0 : Below w.heap.size w ((w.alloc (.cells (wk8 (.slice (some ⟨bb, oo, none⟩) st.L.length c1) st.here (.slice (tailA g o cap) rest.length (cap - 1)) st.hops (.slice a3 n3 c3) false ⟨#[]⟩ 0) 81)).alloc (.cells zw8 81)) := two_below _ _ _
  have hL : ∀ w3, Below ((w.alloc (.cells (wk8 (.slice (some ⟨bb, oo, none⟩) st.L.length c1) st.here (.slice (tailA g o cap) rest.length (cap - 1)) st.hops (.slice a3 n3 c3) false ⟨#[]⟩ 0) 81)).alloc (.cells zw8 81)).heap.size ((w.alloc (.cells (wk8 (.slice (some ⟨bb, oo, none⟩) st.L.length c1) st.here (.slice (tailA g o cap) rest.length (cap - 1)) st.hops (.slice a3 n3 c3) false ⟨#[]⟩ 0) 81)).alloc (.cells zw8 81)) w3 → w3.heap[w.heap.size + 1]? = some (.cells zw8 81 (0, 0)) := fun w3 hb => (hb.block _ (by simp)).trans (new_two w _ _ _)
  clear hc hlt hn1 hn2
  go_enter Tryz.func52, Tryz.ntmps52
  go_wp2_with (first | (go_at_call 78; refine (join_r _ _ _ (by omega)).mono ?_; rintro e w1 ⟨rfl, hw1⟩; replace hw1 := hw1.symm; subst hw1) | (go_at_call 79; refine (at_r _ st.L _ _ (hEv.below (two_below _ _ _)) hLl).mono ?_; rintro e w1 ⟨rfl, hw1⟩; replace hw1 := hw1.symm; subst hw1; rw [HAT.out]) | (go_at_call 81; refine (refused_r _ _).mono ?_; rintro e w3 ⟨rfl, hb3⟩; have hL3 := hL _ hb3) | (refine wpList_store_row rfl 81 (.tmp 4) (.tmp 66) rfl (w.heap.size + 1) (wk8 (.slice (some ⟨bb, oo, none⟩) st.L.length c1) st.here (.slice (tailA g o cap) rest.length (cap - 1)) st.hops (.slice a3 n3 c3) false ⟨#[]⟩ 13) rfl rfl 81 zw8 hL3 (info_w8 _ rfl) rfl (one_w8 _ _ _ _ _ _ _ _ _ _ _ _ _ _) ?_))
  refine bodyPost_ret (results_cell_row rfl _ _ (w.heap.size + 1) 81 _ (0, 0) _ rfl (setRow_heap _ (w.heap.size + 1) _ _ _ (0, 0) hL3) Tryz.underlying81 rfl (info_w8 _ rfl)) rfl ?_
  exact ⟨below_setRow' (below_join hb0 hb3) (by omega) _, st.here, _, st.hops, false, ⟨#[]⟩, by rw [HST.out], ⟨_, _, _, rfl⟩, fun h => absurd h (by rw [HST.out]; decide)⟩
set_option maxRecDepth 100000 in
set_option maxHeartbeats 4000000 in
theorem docstep_dir_3 (g o cap : Nat) (st : St) (c : ByteArray) (rest : List ByteArray) (w : World) (hcap : rest.length + 1 ≤ cap) (hcm : cap ≤ 9223372036854775807) (hc : ∀ i x, (c :: rest)[i]? = some x → w.cell? ⟨g, o + i, none⟩ = some (.string x)) (hF : Far st c) (hEv : EntsAt w (.slice a1 st.L.length c1) st.L) (hLl : st.L.length ≤ 1073741824) (e : Ent) (hg : getE st.L (joinB st.here c) = some e) (hk : e.kind = 1) :
    Calls Tryz.prog 52 #[.agg (wk8 (.slice a1 st.L.length c1) st.here (.slice (some ⟨g, o, none⟩) (rest.length + 1) cap) st.hops (.slice a3 n3 c3) false ⟨#[]⟩ 0), .int .i64 3] w (DocPost g w (.slice a1 st.L.length c1) (.slice a3 n3 c3) ⟨2, false, false⟩ st c rest) := by
  obtain ⟨hn1, hn2, hs, hcs⟩ := hF
  have hb1 := ne_dot hn1
  have hb2 := ne_dd hn2
  have hjs := join_size st.here c
  have k0 : w.cell? ⟨g, o, none⟩ = some (.string c) := hc 0 _ rfl
  have hgl := World.block_lt_of_cell? w _ k0
  have hlt := left_tail w.heap.size hcap hcm hc
  have hT := slice_tail g o cap rest.length hcap hcm
  have HLT : Hid (LeftB (fun k => k = g ∨ w.heap.size ≤ k) w (.slice (tailA g o cap) rest.length (cap - 1)) rest) := hlt
  obtain ⟨ai, hai, hLi⟩ := at_some (show st.L.find? (pathIs (joinB st.here c)) = some e by have := hg; unfold getE at this; split at this <;> first | cases this | exact this)
  have HAT : Hid (atN st.L (joinB st.here c) = (ai : Int)) := hai
  have hLt := (List.getElem?_eq_some_iff.1 hLi).1
  obtain ⟨av, cav, bb, oo, hveq, hva, hvc, hvv⟩ := id hEv
  obtain ⟨rfl, -⟩ : a1 = av ∧ c1 = cav := by simpa using hveq
  obtain rfl := hva (fun e => by rw [e] at hLt; simp at hLt)
  have hbl := World.block_lt_of_cell? w _ (hvv ai e hLi).c0
  have hE2 := (hvv ai e hLi).below (two_below w (.cells (wk8 (.slice (some ⟨bb, oo, none⟩) st.L.length c1) st.here (.slice (tailA g o cap) rest.length (cap - 1)) st.hops (.slice a3 n3 c3) false ⟨#[]⟩ 0) 81) (.cells zw8 81))
  have d1 := hE2.c1
  have d4 := hE2.c4
  have j1 : ¬ (ai : Int) < 0 := by omega
  have j2 : (0 : Int) ≤ (ai : Int) := by omega
  have j3 : (ai : Int) < (st.L.length : Int) := by omega
  have HST : Hid (stepN ⟨2, false, false⟩ st c rest = (0, { st with here := joinB st.here c, left := rest })) := by unfold Hid stepN; rw [if_neg hn1, if_neg hn2, hg]; simp only [thereN, isFile, isLink, hk]; rfl
  rw [hk] at d1
  have e1 := (hvv ai e hLi).below (two_below w (.cells (wk8 (.slice (some ⟨bb, oo, none⟩) st.L.length c1) (joinB st.here c) (.slice (tailA g o cap) rest.length (cap - 1)) st.hops (.slice a3 n3 c3) false ⟨#[]⟩ 0) 81) (.cells zw8 81))
  clear hg hvv hva hLi hai hveq
  clear hc hlt hn1 hn2
  go_enter Tryz.func52, Tryz.ntmps52
  go_wp2_with (first | (go_at_call 78; refine (join_r _ _ _ (by omega)).mono ?_; rintro e w1 ⟨rfl, hw1⟩; replace hw1 := hw1.symm; subst hw1) | (go_at_call 79; refine (at_r _ st.L _ _ (hEv.below (two_below _ _ _)) hLl).mono ?_; rintro e w1 ⟨rfl, hw1⟩; replace hw1 := hw1.symm; subst hw1; rw [HAT.out]))
  refine bodyPost_ret (results_cell_row rfl _ _ (w.heap.size + 1) 81 _ (0, 0) _ rfl (new_two w _ _ _) Tryz.underlying81 rfl (info_w8 _ rfl)) rfl ?_
  exact ⟨two_below _ _ _, joinB st.here c, _, st.hops, false, ⟨#[]⟩, by rw [HST.out], ⟨_, _, _, rfl⟩, fun _ => .inl ⟨rfl, rfl, by rw [HST.out], by rw [HST.out], by rw [HST.out]; exact HLT.out.below (two_below _ _ _)⟩⟩
set_option maxRecDepth 100000 in
set_option maxHeartbeats 4000000 in
theorem docstep_13_3 (g o cap : Nat) (st : St) (c : ByteArray) (rest : List ByteArray) (w : World) (hcap : rest.length + 1 ≤ cap) (hcm : cap ≤ 9223372036854775807) (hc : ∀ i x, (c :: rest)[i]? = some x → w.cell? ⟨g, o + i, none⟩ = some (.string x)) (hF : Far st c) (hEv : EntsAt w (.slice a1 st.L.length c1) st.L) (hLl : st.L.length ≤ 1073741824) (e : Ent) (hg : getE st.L (joinB st.here c) = some e) (hk : e.kind = 2) (hr : rest ≠ []) :
    Calls Tryz.prog 52 #[.agg (wk8 (.slice a1 st.L.length c1) st.here (.slice (some ⟨g, o, none⟩) (rest.length + 1) cap) st.hops (.slice a3 n3 c3) false ⟨#[]⟩ 0), .int .i64 3] w (DocPost g w (.slice a1 st.L.length c1) (.slice a3 n3 c3) ⟨2, false, false⟩ st c rest) := by
  obtain ⟨hn1, hn2, hs, hcs⟩ := hF
  have hb1 := ne_dot hn1
  have hb2 := ne_dd hn2
  have hjs := join_size st.here c
  have k0 : w.cell? ⟨g, o, none⟩ = some (.string c) := hc 0 _ rfl
  have hgl := World.block_lt_of_cell? w _ k0
  have hlt := left_tail w.heap.size hcap hcm hc
  have hT := slice_tail g o cap rest.length hcap hcm
  have HLT : Hid (LeftB (fun k => k = g ∨ w.heap.size ≤ k) w (.slice (tailA g o cap) rest.length (cap - 1)) rest) := hlt
  obtain ⟨ai, hai, hLi⟩ := at_some (show st.L.find? (pathIs (joinB st.here c)) = some e by have := hg; unfold getE at this; split at this <;> first | cases this | exact this)
  have HAT : Hid (atN st.L (joinB st.here c) = (ai : Int)) := hai
  have hLt := (List.getElem?_eq_some_iff.1 hLi).1
  obtain ⟨av, cav, bb, oo, hveq, hva, hvc, hvv⟩ := id hEv
  obtain ⟨rfl, -⟩ : a1 = av ∧ c1 = cav := by simpa using hveq
  obtain rfl := hva (fun e => by rw [e] at hLt; simp at hLt)
  have hbl := World.block_lt_of_cell? w _ (hvv ai e hLi).c0
  have hE2 := (hvv ai e hLi).below (two_below w (.cells (wk8 (.slice (some ⟨bb, oo, none⟩) st.L.length c1) st.here (.slice (tailA g o cap) rest.length (cap - 1)) st.hops (.slice a3 n3 c3) false ⟨#[]⟩ 0) 81) (.cells zw8 81))
  have d1 := hE2.c1
  have d4 := hE2.c4
  have j1 : ¬ (ai : Int) < 0 := by omega
  have j2 : (0 : Int) ≤ (ai : Int) := by omega
  have j3 : (ai : Int) < (st.L.length : Int) := by omega
  have hrl : rest.length ≠ 0 := fun e => hr (List.eq_nil_of_length_eq_zero e)
  have hrd : ((rest.length : Int) == 0) = false := by rw [beq_eq_false_iff_ne]; omega
  have hre : rest.isEmpty = false := by cases rest with | nil => exact absurd rfl hr | cons a b => rfl
  have HST : Hid ((stepN ⟨2, false, false⟩ st c rest).1 = 13) := by unfold Hid stepN; rw [if_neg hn1, if_neg hn2, hg]; simp only [thereN, isFile, isLink, hk, hre]; rfl
  rw [hk] at d1
  clear hg hvv hva hLi hai hveq
  have hb0 : Below w.heap.size w ((w.alloc (.cells (wk8 (.slice (some ⟨bb, oo, none⟩) st.L.length c1) st.here (.slice (tailA g o cap) rest.length (cap - 1)) st.hops (.slice a3 n3 c3) false ⟨#[]⟩ 0) 81)).alloc (.cells zw8 81)) := two_below _ _ _
  have hL : ∀ w3, Below ((w.alloc (.cells (wk8 (.slice (some ⟨bb, oo, none⟩) st.L.length c1) st.here (.slice (tailA g o cap) rest.length (cap - 1)) st.hops (.slice a3 n3 c3) false ⟨#[]⟩ 0) 81)).alloc (.cells zw8 81)).heap.size ((w.alloc (.cells (wk8 (.slice (some ⟨bb, oo, none⟩) st.L.length c1) st.here (.slice (tailA g o cap) rest.length (cap - 1)) st.hops (.slice a3 n3 c3) false ⟨#[]⟩ 0) 81)).alloc (.cells zw8 81)) w3 → w3.heap[w.heap.size + 1]? = some (.cells zw8 81 (0, 0)) := fun w3 hb => (hb.block _ (by simp)).trans (new_two w _ _ _)
  clear hc hlt hn1 hn2
  go_enter Tryz.func52, Tryz.ntmps52
  go_wp2_with (first | (go_at_call 78; refine (join_r _ _ _ (by omega)).mono ?_; rintro e w1 ⟨rfl, hw1⟩; replace hw1 := hw1.symm; subst hw1) | (go_at_call 79; refine (at_r _ st.L _ _ (hEv.below (two_below _ _ _)) hLl).mono ?_; rintro e w1 ⟨rfl, hw1⟩; replace hw1 := hw1.symm; subst hw1; rw [HAT.out]) | (go_at_call 81; refine (refused_r _ _).mono ?_; rintro e w3 ⟨rfl, hb3⟩; have hL3 := hL _ hb3) | (refine wpList_store_row rfl 81 (.tmp 4) (.tmp 66) rfl (w.heap.size + 1) (wk8 (.slice (some ⟨bb, oo, none⟩) st.L.length c1) st.here (.slice (tailA g o cap) rest.length (cap - 1)) st.hops (.slice a3 n3 c3) false ⟨#[]⟩ 13) rfl rfl 81 zw8 hL3 (info_w8 _ rfl) rfl (one_w8 _ _ _ _ _ _ _ _ _ _ _ _ _ _) ?_))
  refine bodyPost_ret (results_cell_row rfl _ _ (w.heap.size + 1) 81 _ (0, 0) _ rfl (setRow_heap _ (w.heap.size + 1) _ _ _ (0, 0) hL3) Tryz.underlying81 rfl (info_w8 _ rfl)) rfl ?_
  exact ⟨below_setRow' (below_join hb0 hb3) (by omega) _, st.here, _, st.hops, false, ⟨#[]⟩, by rw [HST.out], ⟨_, _, _, rfl⟩, fun h => absurd h (by rw [HST.out]; decide)⟩
set_option maxRecDepth 100000 in
set_option maxHeartbeats 4000000 in
theorem docstep_file_3 (g o cap : Nat) (st : St) (c : ByteArray) (rest : List ByteArray) (w : World) (hcap : rest.length + 1 ≤ cap) (hcm : cap ≤ 9223372036854775807) (hc : ∀ i x, (c :: rest)[i]? = some x → w.cell? ⟨g, o + i, none⟩ = some (.string x)) (hF : Far st c) (hEv : EntsAt w (.slice a1 st.L.length c1) st.L) (hLl : st.L.length ≤ 1073741824) (e : Ent) (hg : getE st.L (joinB st.here c) = some e) (hk : e.kind = 2) (hr : rest = []) :
    Calls Tryz.prog 52 #[.agg (wk8 (.slice a1 st.L.length c1) st.here (.slice (some ⟨g, o, none⟩) (rest.length + 1) cap) st.hops (.slice a3 n3 c3) false ⟨#[]⟩ 0), .int .i64 3] w (DocPost g w (.slice a1 st.L.length c1) (.slice a3 n3 c3) ⟨2, false, false⟩ st c rest) := by
  obtain ⟨hn1, hn2, hs, hcs⟩ := hF
  have hb1 := ne_dot hn1
  have hb2 := ne_dd hn2
  have hjs := join_size st.here c
  have k0 : w.cell? ⟨g, o, none⟩ = some (.string c) := hc 0 _ rfl
  have hgl := World.block_lt_of_cell? w _ k0
  have hlt := left_tail w.heap.size hcap hcm hc
  have hT := slice_tail g o cap rest.length hcap hcm
  have HLT : Hid (LeftB (fun k => k = g ∨ w.heap.size ≤ k) w (.slice (tailA g o cap) rest.length (cap - 1)) rest) := hlt
  subst hr
  obtain ⟨ai, hai, hLi⟩ := at_some (show st.L.find? (pathIs (joinB st.here c)) = some e by have := hg; unfold getE at this; split at this <;> first | cases this | exact this)
  have HAT : Hid (atN st.L (joinB st.here c) = (ai : Int)) := hai
  have hLt := (List.getElem?_eq_some_iff.1 hLi).1
  obtain ⟨av, cav, bb, oo, hveq, hva, hvc, hvv⟩ := id hEv
  obtain ⟨rfl, -⟩ : a1 = av ∧ c1 = cav := by simpa using hveq
  obtain rfl := hva (fun e => by rw [e] at hLt; simp at hLt)
  have hbl := World.block_lt_of_cell? w _ (hvv ai e hLi).c0
  have hE2 := (hvv ai e hLi).below (two_below w (.cells (wk8 (.slice (some ⟨bb, oo, none⟩) st.L.length c1) st.here (.slice (tailA g o cap) ([] : List ByteArray).length (cap - 1)) st.hops (.slice a3 n3 c3) false ⟨#[]⟩ 0) 81) (.cells zw8 81))
  have d1 := hE2.c1
  have d4 := hE2.c4
  have j1 : ¬ (ai : Int) < 0 := by omega
  have j2 : (0 : Int) ≤ (ai : Int) := by omega
  have j3 : (ai : Int) < (st.L.length : Int) := by omega
  have HST : Hid (stepN ⟨2, false, false⟩ st c [] = (0, { st with here := joinB st.here c, left := [] })) := by unfold Hid stepN; rw [if_neg hn1, if_neg hn2, hg]; simp only [thereN, isFile, isLink, hk]; rfl
  rw [hk] at d1
  simp only [List.length_nil] at *
  clear hg hvv hva hLi hai hveq
  have hb0 : Below w.heap.size w ((w.alloc (.cells (wk8 (.slice (some ⟨bb, oo, none⟩) st.L.length c1) st.here (.slice (tailA g o cap) 0 (cap - 1)) st.hops (.slice a3 n3 c3) false ⟨#[]⟩ 0) 81)).alloc (.cells zw8 81)) := two_below _ _ _
  have hL : ∀ w3, Below ((w.alloc (.cells (wk8 (.slice (some ⟨bb, oo, none⟩) st.L.length c1) st.here (.slice (tailA g o cap) 0 (cap - 1)) st.hops (.slice a3 n3 c3) false ⟨#[]⟩ 0) 81)).alloc (.cells zw8 81)).heap.size ((w.alloc (.cells (wk8 (.slice (some ⟨bb, oo, none⟩) st.L.length c1) st.here (.slice (tailA g o cap) 0 (cap - 1)) st.hops (.slice a3 n3 c3) false ⟨#[]⟩ 0) 81)).alloc (.cells zw8 81)) w3 → w3.heap[w.heap.size + 1]? = some (.cells zw8 81 (0, 0)) := fun w3 hb => (hb.block _ (by simp)).trans (new_two w _ _ _)
  clear hc hlt hn1 hn2
  go_enter Tryz.func52, Tryz.ntmps52
  go_wp2_with (first | (go_at_call 78; refine (join_r _ _ _ (by omega)).mono ?_; rintro e w1 ⟨rfl, hw1⟩; replace hw1 := hw1.symm; subst hw1) | (go_at_call 79; refine (at_r _ st.L _ _ (hEv.below (two_below _ _ _)) hLl).mono ?_; rintro e w1 ⟨rfl, hw1⟩; replace hw1 := hw1.symm; subst hw1; rw [HAT.out]) | (go_at_call 53; refine (ended_r _ _).mono ?_; rintro e w3 ⟨rfl, hb3⟩; have hL3 := hL _ hb3) | (refine wpList_store_row rfl 81 (.tmp 4) (.tmp 69) rfl (w.heap.size + 1) (wk8 (.slice (some ⟨bb, oo, none⟩) st.L.length c1) st.here (.slice (tailA g o cap) 0 (cap - 1)) st.hops (.slice a3 n3 c3) true (joinB st.here c) 0) rfl rfl 81 zw8 hL3 (info_w8 _ rfl) rfl (one_w8 _ _ _ _ _ _ _ _ _ _ _ _ _ _) ?_))
  refine bodyPost_ret (results_cell_row rfl _ _ (w.heap.size + 1) 81 _ (0, 0) _ rfl (setRow_heap _ (w.heap.size + 1) _ _ _ (0, 0) hL3) Tryz.underlying81 rfl (info_w8 _ rfl)) rfl ?_
  exact ⟨below_setRow' (below_join hb0 hb3) (by omega) _, st.here, _, st.hops, true, joinB st.here c, by rw [HST.out], ⟨_, _, _, rfl⟩, fun _ => .inr ⟨rfl, by rw [HST.out], by rw [HST.out]⟩⟩
end Go.Proofs.YtcefgnjgcnboeaaGreatDoor

namespace Go.Proofs.YtcefgnjgcnboeaaGreatDoor
open Go Go.RowKit
variable {a1 a3 : Option Addr} {n1 n3 c1 c3 : Nat}
set_option maxRecDepth 100000 in
set_option maxHeartbeats 4000000 in
theorem docstep_12_2 (g o cap : Nat) (st : St) (c : ByteArray) (rest : List ByteArray) (w : World) (hcap : rest.length + 1 ≤ cap) (hcm : cap ≤ 9223372036854775807) (hc : ∀ i x, (c :: rest)[i]? = some x → w.cell? ⟨g, o + i, none⟩ = some (.string x)) (hF : Far st c) (hEv : EntsAt w (.slice a1 st.L.length c1) st.L) (hLl : st.L.length ≤ 1073741824) (e : Ent) (hg : getE st.L (joinB st.here c) = some e) (hk : e.kind = 3) (h40 : st.hops = 40) :
    Calls Tryz.prog 52 #[.agg (wk8 (.slice a1 st.L.length c1) st.here (.slice (some ⟨g, o, none⟩) (rest.length + 1) cap) st.hops (.slice a3 n3 c3) false ⟨#[]⟩ 0), .int .i64 2] w (DocPost g w (.slice a1 st.L.length c1) (.slice a3 n3 c3) ⟨1, true, false⟩ st c rest) := by
  obtain ⟨hn1, hn2, hs, hcs⟩ := hF
  have hb1 := ne_dot hn1
  have hb2 := ne_dd hn2
  have hjs := join_size st.here c
  have k0 : w.cell? ⟨g, o, none⟩ = some (.string c) := hc 0 _ rfl
  have hgl := World.block_lt_of_cell? w _ k0
  have hlt := left_tail w.heap.size hcap hcm hc
  have hT := slice_tail g o cap rest.length hcap hcm
  have HLT : Hid (LeftB (fun k => k = g ∨ w.heap.size ≤ k) w (.slice (tailA g o cap) rest.length (cap - 1)) rest) := hlt
  obtain ⟨ai, hai, hLi⟩ := at_some (show st.L.find? (pathIs (joinB st.here c)) = some e by have := hg; unfold getE at this; split at this <;> first | cases this | exact this)
  have HAT : Hid (atN st.L (joinB st.here c) = (ai : Int)) := hai
  have hLt := (List.getElem?_eq_some_iff.1 hLi).1
  obtain ⟨av, cav, bb, oo, hveq, hva, hvc, hvv⟩ := id hEv
  obtain ⟨rfl, -⟩ : a1 = av ∧ c1 = cav := by simpa using hveq
  obtain rfl := hva (fun e => by rw [e] at hLt; simp at hLt)
  have hbl := World.block_lt_of_cell? w _ (hvv ai e hLi).c0
  have hE2 := (hvv ai e hLi).below (two_below w (.cells (wk8 (.slice (some ⟨bb, oo, none⟩) st.L.length c1) st.here (.slice (tailA g o cap) rest.length (cap - 1)) st.hops (.slice a3 n3 c3) false ⟨#[]⟩ 0) 81) (.cells zw8 81))
  have d1 := hE2.c1
  have d4 := hE2.c4
  have j1 : ¬ (ai : Int) < 0 := by omega
  have j2 : (0 : Int) ≤ (ai : Int) := by omega
  have j3 : (ai : Int) < (st.L.length : Int) := by omega
  have HST : Hid ((stepN ⟨1, true, false⟩ st c rest).1 = 12) := by unfold Hid stepN; rw [if_neg hn1, if_neg hn2, hg]; simp only [thereN, isFile, isLink, hk, linkS, h40]; rfl
  have H40 : Hid (st.hops = 40) := h40
  clear h40
  rw [hk] at d1
  have hb0 : Below w.heap.size w ((w.alloc (.cells (wk8 (.slice (some ⟨bb, oo, none⟩) st.L.length c1) st.here (.slice (tailA g o cap) rest.length (cap - 1)) st.hops (.slice a3 n3 c3) false ⟨#[]⟩ 0) 81)).alloc (.cells zw8 81)) := two_below _ _ _
  have hk0 : ((w.alloc (.cells (wk8 (.slice (some ⟨bb, oo, none⟩) st.L.length c1) st.here (.slice (tailA g o cap) rest.length (cap - 1)) st.hops (.slice a3 n3 c3) false ⟨#[]⟩ 0) 81)).alloc (.cells zw8 81)).heap[w.heap.size]? = some (.cells (wk8 (.slice (some ⟨bb, oo, none⟩) st.L.length c1) st.here (.slice (tailA g o cap) rest.length (cap - 1)) st.hops (.slice a3 n3 c3) false ⟨#[]⟩ 0) 81) := (Below.heap_alloc _ _ _ (by simp)).trans (World.alloc_heap_new w _)
  have hk1 : ((w.alloc (.cells (wk8 (.slice (some ⟨bb, oo, none⟩) st.L.length c1) st.here (.slice (tailA g o cap) rest.length (cap - 1)) st.hops (.slice a3 n3 c3) false ⟨#[]⟩ 0) 81)).alloc (.cells zw8 81)).heap[w.heap.size + 1]? = some (.cells zw8 81 (0, 0)) := new_two w _ _ _
  have hsw : ((w.alloc (.cells (wk8 (.slice (some ⟨bb, oo, none⟩) st.L.length c1) st.here (.slice (tailA g o cap) rest.length (cap - 1)) st.hops (.slice a3 n3 c3) false ⟨#[]⟩ 0) 81)).alloc (.cells zw8 81)).heap.size = w.heap.size + 2 := by simp
  clear hc hlt hn1 hn2 hg hvv hva hLi hai hveq
  go_enter Tryz.func52, Tryz.ntmps52
  go_wp2_with (first | (go_at_call 78; refine (join_r _ _ _ (by omega)).mono ?_; rintro e w1 ⟨rfl, hw1⟩; replace hw1 := hw1.symm; subst hw1) | (go_at_call 79; refine (at_r _ st.L _ _ (hEv.below (two_below _ _ _)) hLl).mono ?_; rintro e w1 ⟨rfl, hw1⟩; replace hw1 := hw1.symm; subst hw1; rw [HAT.out]))
  generalize (w.alloc (.cells (wk8 (.slice (some ⟨bb, oo, none⟩) st.L.length c1) st.here (.slice (tailA g o cap) rest.length (cap - 1)) st.hops (.slice a3 n3 c3) false ⟨#[]⟩ 0) 81)).alloc (.cells zw8 81) = W0 at *
  refine wp_region_noPanic ?_
  refine wp_region_held_drew (S := fun W => W.heap[w.heap.size]? = some (.cells (wk8 (.slice (some ⟨bb, oo, none⟩) st.L.length c1) st.here (.slice (tailA g o cap) rest.length (cap - 1)) st.hops (.slice a3 n3 c3) false ⟨#[]⟩ 0) 81) ∧ W.cell? ⟨bb, oo + ai * 5 + 4, none⟩ = some (.string e.link) ∧ (∃ cs : Array Value, cs.size = 8 ∧ W.heap[w.heap.size + 1]? = some (.cells cs 81 (0, 0))) ∧ Below w.heap.size w W) (by kernel_rfl) ⟨hk0, d4, ⟨zw8, rfl, hk1⟩, hb0.trans ⟨rfl, rfl, rfl, Nat.le_refl _, fun _ _ => rfl⟩⟩ (fun h0 => ?_)
  have hsd : W0.drew.heap.size = w.heap.size + 2 := hsw
  have HW0 : Hid (Below W0.heap.size W0 W0.drew) := ⟨rfl, rfl, rfl, Nat.le_refl _, fun _ _ => rfl⟩
  generalize W0.drew = wd at *
  refine wpAnyH_take (i := 0) (v := .agg (wk8 (.slice (some ⟨bb, oo, none⟩) st.L.length c1) st.here (.slice (tailA g o cap) rest.length (cap - 1)) st.hops (.slice a3 n3 c3) false ⟨#[]⟩ 0)) rfl (by kernel_rfl) (by kernel_rfl) (by kernel_rfl) (fun _ _ _ h => h) (Or.inl ⟨by rfl, fun w hSw => by obtain ⟨s0, s1, s2, s3⟩ := hSw; have q0 := w8_cells (j := 0) s0 rfl; have q1 := w8_cells (j := 1) s0 rfl; have q2 := w8_cells (j := 2) s0 rfl; have q3 := w8_cells (j := 3) s0 rfl; have q4 := w8_cells (j := 4) s0 rfl; have q5 := w8_cells (j := 5) s0 rfl; have q6 := w8_cells (j := 6) s0 rfl; have q7 := w8_cells (j := 7) s0 rfl; simp only [List.getElem_toArray, List.getElem_cons_zero, List.getElem_cons_succ] at q0 q1 q2 q3 q4 q5 q6 q7; go_simp <;> first | omega | rfl⟩) h0 ?_
  try dsimp [Act.put]
  try simp only [List.setIfInBounds_toArray, List.set_cons_succ, List.set_cons_zero]
  refine wpAnyH_take (i := 1) (v := .pointer (some ⟨w.heap.size, 0, none⟩)) rfl (by kernel_rfl) (by kernel_rfl) (by kernel_rfl) (fun _ _ _ h => h) (Or.inl ⟨by rfl, fun w hSw => by obtain ⟨s0, s1, s2, s3⟩ := hSw; go_simp <;> first | omega | rfl⟩) h0 ?_
  try dsimp [Act.put]
  try simp only [List.setIfInBounds_toArray, List.set_cons_succ, List.set_cons_zero]
  refine wpAnyH_take (i := 2) (v := .slice (some ⟨bb, oo, none⟩) st.L.length c1) rfl (by kernel_rfl) (by kernel_rfl) (by kernel_rfl) (fun _ _ _ h => h) (Or.inl ⟨by rfl, fun w hSw => by obtain ⟨s0, s1, s2, s3⟩ := hSw; have q0 := w8_cells (j := 0) s0 rfl; have q1 := w8_cells (j := 1) s0 rfl; have q2 := w8_cells (j := 2) s0 rfl; have q3 := w8_cells (j := 3) s0 rfl; have q4 := w8_cells (j := 4) s0 rfl; have q5 := w8_cells (j := 5) s0 rfl; have q6 := w8_cells (j := 6) s0 rfl; have q7 := w8_cells (j := 7) s0 rfl; simp only [List.getElem_toArray, List.getElem_cons_zero, List.getElem_cons_succ] at q0 q1 q2 q3 q4 q5 q6 q7; go_simp <;> first | omega | rfl⟩) h0 ?_
  try dsimp [Act.put]
  try simp only [List.setIfInBounds_toArray, List.set_cons_succ, List.set_cons_zero]
  refine wpAnyH_take (i := 3) (v := .int .i64 ai) rfl (by kernel_rfl) (by kernel_rfl) (by kernel_rfl) (fun _ _ _ h => h) (Or.inl ⟨by rfl, fun w hSw => by obtain ⟨s0, s1, s2, s3⟩ := hSw; go_simp <;> first | omega | rfl⟩) h0 ?_
  try dsimp [Act.put]
  try simp only [List.setIfInBounds_toArray, List.set_cons_succ, List.set_cons_zero]
  refine wpAnyH_take (i := 4) (v := .pointer (some ⟨bb, oo + ai * 5, none⟩)) rfl (by kernel_rfl) (by kernel_rfl) (by kernel_rfl) (fun _ _ _ h => h) (Or.inl ⟨by rfl, fun w hSw => by obtain ⟨s0, s1, s2, s3⟩ := hSw; go_simp <;> first | omega | rfl⟩) h0 ?_
  try dsimp [Act.put]
  try simp only [List.setIfInBounds_toArray, List.set_cons_succ, List.set_cons_zero]
  refine wpAnyH_take (i := 5) (v := .pointer (some ⟨bb, oo + ai * 5 + 4, none⟩)) rfl (by kernel_rfl) (by kernel_rfl) (by kernel_rfl) (fun _ _ _ h => h) (Or.inl ⟨by rfl, fun w hSw => by obtain ⟨s0, s1, s2, s3⟩ := hSw; go_simp <;> first | omega | rfl⟩) h0 ?_
  try dsimp [Act.put]
  try simp only [List.setIfInBounds_toArray, List.set_cons_succ, List.set_cons_zero]
  refine wpAnyH_take (i := 6) (v := .string e.link) rfl (by kernel_rfl) (by kernel_rfl) (by kernel_rfl) (fun _ _ _ h => h) (Or.inl ⟨by rfl, fun w hSw => by obtain ⟨s0, s1, s2, s3⟩ := hSw; go_simp <;> first | omega | rfl⟩) h0 ?_
  try dsimp [Act.put]
  try simp only [List.setIfInBounds_toArray, List.set_cons_succ, List.set_cons_zero]
  refine wpAnyH_ready (rs := [7]) (by kernel_rfl) (by simp) ?_
  refine AllReadyH.cons rfl ?_ AllReadyH.nil
  intro K' hK
  rw [if_pos (by rfl)]
  go_simp
  refine (followed_12 _ _ H40.out).mono ?_
  rintro e3 w3 ⟨rfl, hb3⟩
  have hS3 : w3.heap[w.heap.size]? = some (.cells (wk8 (.slice (some ⟨bb, oo, none⟩) st.L.length c1) st.here (.slice (tailA g o cap) rest.length (cap - 1)) st.hops (.slice a3 n3 c3) false ⟨#[]⟩ 0) 81) ∧ w3.cell? ⟨bb, oo + ai * 5 + 4, none⟩ = some (.string e.link) ∧ (∃ cs : Array Value, cs.size = 8 ∧ w3.heap[w.heap.size + 1]? = some (.cells cs 81 (0, 0))) ∧ Below w.heap.size w w3 := ⟨(hb3.block _ (by omega)).trans h0.1, (hb3.cell (p := ⟨bb, oo + ai * 5 + 4, none⟩) (show bb < wd.heap.size by omega)).trans h0.2.1, by obtain ⟨cs, h1, h2⟩ := h0.2.2.1; exact ⟨cs, h1, (hb3.block _ (by omega)).trans h2⟩, h0.2.2.2.trans (hb3.mono (by omega))⟩
  refine hK.out _ _ hS3 (fun _ => ?_)
  clear hK
  try dsimp [Act.put]
  try simp only [List.setIfInBounds_toArray, List.set_cons_succ, List.set_cons_zero]
  refine wpAnyH_ready (rs := [8]) (by kernel_rfl) (by simp) ?_
  refine AllReadyH.cons rfl ?_ AllReadyH.nil
  intro K' hK
  rw [if_pos (by rfl)]
  obtain ⟨cz, hz1, hz2⟩ := hS3.2.2.1
  refine wp_store_row 81 (.tmp 4) (.tmp 85) rfl (w.heap.size + 1) (wk8 (.slice (some ⟨bb, oo, none⟩) st.L.length c1) st.here (.slice (tailA g o cap) rest.length (cap - 1)) st.hops (.slice a3 n3 c3) false ⟨#[]⟩ 12) rfl rfl 81 cz hz2 (info_w8 _ rfl) hz1 (one_w8 _ _ _ _ _ _ _ _ _ _ _ _ _ _) ?_
  have hb0s : w.heap.size < w3.heap.size := (Array.getElem?_eq_some_iff.1 hS3.1).1
  have hbF : Below w.heap.size w (w3.setRow (w.heap.size + 1) (wk8 (.slice (some ⟨bb, oo, none⟩) st.L.length c1) st.here (.slice (tailA g o cap) rest.length (cap - 1)) st.hops (.slice a3 n3 c3) false ⟨#[]⟩ 12)) := below_setRow' hS3.2.2.2 (by omega) _
  refine hK.out _ _ ⟨(setRow_other _ _ _ _ (by omega)).trans hS3.1, (by have h4 := hS3.2.1; unfold World.cell? at h4 ⊢; rw [show (w3.setRow (w.heap.size + 1) (wk8 (.slice (some ⟨bb, oo, none⟩) st.L.length c1) st.here (.slice (tailA g o cap) rest.length (cap - 1)) st.hops (.slice a3 n3 c3) false ⟨#[]⟩ 12)).heap[bb]? = w3.heap[bb]? from setRow_other _ _ _ _ (by omega)]; exact h4), ⟨_, rfl, setRow_heap _ _ _ _ _ _ hz2⟩, hbF⟩ (fun _ => ?_)
  clear hK
  try dsimp [Act.put]
  try simp only [List.setIfInBounds_toArray, List.set_cons_succ, List.set_cons_zero]
  refine wpAnyH_done (by kernel_rfl) ?_ _
  refine NoPanic.normal ?_
  go_wp2
  refine bodyPost_ret (results_cell_row rfl _ _ (w.heap.size + 1) 81 _ (0, 0) _ rfl (setRow_heap _ (w.heap.size + 1) _ _ _ (0, 0) hz2) Tryz.underlying81 rfl (info_w8 _ rfl)) rfl ?_
  exact ⟨hbF, st.here, _, st.hops, false, ⟨#[]⟩, by rw [HST.out], ⟨_, _, _, rfl⟩, fun h => absurd h (by rw [HST.out]; decide)⟩
set_option maxRecDepth 100000 in
set_option maxHeartbeats 4000000 in
theorem docstep_link_2 (g o cap : Nat) (st : St) (c : ByteArray) (rest : List ByteArray) (w : World) (hcap : rest.length + 1 ≤ cap) (hcm : cap ≤ 9223372036854775807) (hc : ∀ i x, (c :: rest)[i]? = some x → w.cell? ⟨g, o + i, none⟩ = some (.string x)) (hF : Far st c) (hEv : EntsAt w (.slice a1 st.L.length c1) st.L) (hLl : st.L.length ≤ 1073741824) (e : Ent) (hg : getE st.L (joinB st.here c) = some e) (hk : e.kind = 3) (h40 : st.hops ≠ 40) (hh : st.hops ≤ 40) (hls : e.link.size ≤ 100) (hl0 : e.link.size ≠ 0) (hrl : rest.length ≤ 2199023255552) :
    Calls Tryz.prog 52 #[.agg (wk8 (.slice a1 st.L.length c1) st.here (.slice (some ⟨g, o, none⟩) (rest.length + 1) cap) st.hops (.slice a3 n3 c3) false ⟨#[]⟩ 0), .int .i64 2] w (DocPost g w (.slice a1 st.L.length c1) (.slice a3 n3 c3) ⟨1, true, false⟩ st c rest) := by
  obtain ⟨hn1, hn2, hs, hcs⟩ := hF
  have hb1 := ne_dot hn1
  have hb2 := ne_dd hn2
  have hjs := join_size st.here c
  have k0 : w.cell? ⟨g, o, none⟩ = some (.string c) := hc 0 _ rfl
  have hgl := World.block_lt_of_cell? w _ k0
  have hlt := left_tail w.heap.size hcap hcm hc
  have hT := slice_tail g o cap rest.length hcap hcm
  have HLT : Hid (LeftB (fun k => k = g ∨ w.heap.size ≤ k) w (.slice (tailA g o cap) rest.length (cap - 1)) rest) := hlt
  obtain ⟨ai, hai, hLi⟩ := at_some (show st.L.find? (pathIs (joinB st.here c)) = some e by have := hg; unfold getE at this; split at this <;> first | cases this | exact this)
  have HAT : Hid (atN st.L (joinB st.here c) = (ai : Int)) := hai
  have hLt := (List.getElem?_eq_some_iff.1 hLi).1
  obtain ⟨av, cav, bb, oo, hveq, hva, hvc, hvv⟩ := id hEv
  obtain ⟨rfl, -⟩ : a1 = av ∧ c1 = cav := by simpa using hveq
  obtain rfl := hva (fun e => by rw [e] at hLt; simp at hLt)
  have hbl := World.block_lt_of_cell? w _ (hvv ai e hLi).c0
  have hE2 := (hvv ai e hLi).below (two_below w (.cells (wk8 (.slice (some ⟨bb, oo, none⟩) st.L.length c1) st.here (.slice (tailA g o cap) rest.length (cap - 1)) st.hops (.slice a3 n3 c3) false ⟨#[]⟩ 0) 81) (.cells zw8 81))
  have d1 := hE2.c1
  have d4 := hE2.c4
  have j1 : ¬ (ai : Int) < 0 := by omega
  have j2 : (0 : Int) ≤ (ai : Int) := by omega
  have j3 : (ai : Int) < (st.L.length : Int) := by omega
  have HST : Hid (stepN ⟨1, true, false⟩ st c rest = (0, { st with here := if slashed e.link then ⟨#[]⟩ else st.here, left := namesB e.link ++ rest, hops := st.hops + 1 })) := by unfold Hid stepN; rw [if_neg hn1, if_neg hn2, hg]; simp only [thereN, isFile, isLink, hk, linkS, h40]; rfl
  rw [hk] at d1
  have hb0 : Below w.heap.size w ((w.alloc (.cells (wk8 (.slice (some ⟨bb, oo, none⟩) st.L.length c1) st.here (.slice (tailA g o cap) rest.length (cap - 1)) st.hops (.slice a3 n3 c3) false ⟨#[]⟩ 0) 81)).alloc (.cells zw8 81)) := two_below _ _ _
  have hk0 : ((w.alloc (.cells (wk8 (.slice (some ⟨bb, oo, none⟩) st.L.length c1) st.here (.slice (tailA g o cap) rest.length (cap - 1)) st.hops (.slice a3 n3 c3) false ⟨#[]⟩ 0) 81)).alloc (.cells zw8 81)).heap[w.heap.size]? = some (.cells (wk8 (.slice (some ⟨bb, oo, none⟩) st.L.length c1) st.here (.slice (tailA g o cap) rest.length (cap - 1)) st.hops (.slice a3 n3 c3) false ⟨#[]⟩ 0) 81) := (Below.heap_alloc _ _ _ (by simp)).trans (World.alloc_heap_new w _)
  have hk1 : ((w.alloc (.cells (wk8 (.slice (some ⟨bb, oo, none⟩) st.L.length c1) st.here (.slice (tailA g o cap) rest.length (cap - 1)) st.hops (.slice a3 n3 c3) false ⟨#[]⟩ 0) 81)).alloc (.cells zw8 81)).heap[w.heap.size + 1]? = some (.cells zw8 81 (0, 0)) := new_two w _ _ _
  have hsw : ((w.alloc (.cells (wk8 (.slice (some ⟨bb, oo, none⟩) st.L.length c1) st.here (.slice (tailA g o cap) rest.length (cap - 1)) st.hops (.slice a3 n3 c3) false ⟨#[]⟩ 0) 81)).alloc (.cells zw8 81)).heap.size = w.heap.size + 2 := by simp
  clear hc hlt hn1 hn2 hg hvv hva hLi hai hveq
  go_enter Tryz.func52, Tryz.ntmps52
  go_wp2_with (first | (go_at_call 78; refine (join_r _ _ _ (by omega)).mono ?_; rintro e w1 ⟨rfl, hw1⟩; replace hw1 := hw1.symm; subst hw1) | (go_at_call 79; refine (at_r _ st.L _ _ (hEv.below (two_below _ _ _)) hLl).mono ?_; rintro e w1 ⟨rfl, hw1⟩; replace hw1 := hw1.symm; subst hw1; rw [HAT.out]))
  generalize (w.alloc (.cells (wk8 (.slice (some ⟨bb, oo, none⟩) st.L.length c1) st.here (.slice (tailA g o cap) rest.length (cap - 1)) st.hops (.slice a3 n3 c3) false ⟨#[]⟩ 0) 81)).alloc (.cells zw8 81) = W0 at *
  refine wp_region_noPanic ?_
  refine wp_region_held_drew (S := fun W => W.heap[w.heap.size]? = some (.cells (wk8 (.slice (some ⟨bb, oo, none⟩) st.L.length c1) st.here (.slice (tailA g o cap) rest.length (cap - 1)) st.hops (.slice a3 n3 c3) false ⟨#[]⟩ 0) 81) ∧ W.cell? ⟨bb, oo + ai * 5 + 4, none⟩ = some (.string e.link) ∧ (∃ cs : Array Value, cs.size = 8 ∧ W.heap[w.heap.size + 1]? = some (.cells cs 81 (0, 0))) ∧ Below w.heap.size w W) (by kernel_rfl) ⟨hk0, d4, ⟨zw8, rfl, hk1⟩, hb0.trans ⟨rfl, rfl, rfl, Nat.le_refl _, fun _ _ => rfl⟩⟩ (fun h0 => ?_)
  have hsd : W0.drew.heap.size = w.heap.size + 2 := hsw
  have HW0 : Hid (Below W0.heap.size W0 W0.drew) := ⟨rfl, rfl, rfl, Nat.le_refl _, fun _ _ => rfl⟩
  generalize W0.drew = wd at *
  refine wpAnyH_take (i := 0) (v := .agg (wk8 (.slice (some ⟨bb, oo, none⟩) st.L.length c1) st.here (.slice (tailA g o cap) rest.length (cap - 1)) st.hops (.slice a3 n3 c3) false ⟨#[]⟩ 0)) rfl (by kernel_rfl) (by kernel_rfl) (by kernel_rfl) (fun _ _ _ h => h) (Or.inl ⟨by rfl, fun w hSw => by obtain ⟨s0, s1, s2, s3⟩ := hSw; have q0 := w8_cells (j := 0) s0 rfl; have q1 := w8_cells (j := 1) s0 rfl; have q2 := w8_cells (j := 2) s0 rfl; have q3 := w8_cells (j := 3) s0 rfl; have q4 := w8_cells (j := 4) s0 rfl; have q5 := w8_cells (j := 5) s0 rfl; have q6 := w8_cells (j := 6) s0 rfl; have q7 := w8_cells (j := 7) s0 rfl; simp only [List.getElem_toArray, List.getElem_cons_zero, List.getElem_cons_succ] at q0 q1 q2 q3 q4 q5 q6 q7; go_simp <;> first | omega | rfl⟩) h0 ?_
  try dsimp [Act.put]
  try simp only [List.setIfInBounds_toArray, List.set_cons_succ, List.set_cons_zero]
  refine wpAnyH_take (i := 1) (v := .pointer (some ⟨w.heap.size, 0, none⟩)) rfl (by kernel_rfl) (by kernel_rfl) (by kernel_rfl) (fun _ _ _ h => h) (Or.inl ⟨by rfl, fun w hSw => by obtain ⟨s0, s1, s2, s3⟩ := hSw; go_simp <;> first | omega | rfl⟩) h0 ?_
  try dsimp [Act.put]
  try simp only [List.setIfInBounds_toArray, List.set_cons_succ, List.set_cons_zero]
  refine wpAnyH_take (i := 2) (v := .slice (some ⟨bb, oo, none⟩) st.L.length c1) rfl (by kernel_rfl) (by kernel_rfl) (by kernel_rfl) (fun _ _ _ h => h) (Or.inl ⟨by rfl, fun w hSw => by obtain ⟨s0, s1, s2, s3⟩ := hSw; have q0 := w8_cells (j := 0) s0 rfl; have q1 := w8_cells (j := 1) s0 rfl; have q2 := w8_cells (j := 2) s0 rfl; have q3 := w8_cells (j := 3) s0 rfl; have q4 := w8_cells (j := 4) s0 rfl; have q5 := w8_cells (j := 5) s0 rfl; have q6 := w8_cells (j := 6) s0 rfl; have q7 := w8_cells (j := 7) s0 rfl; simp only [List.getElem_toArray, List.getElem_cons_zero, List.getElem_cons_succ] at q0 q1 q2 q3 q4 q5 q6 q7; go_simp <;> first | omega | rfl⟩) h0 ?_
  try dsimp [Act.put]
  try simp only [List.setIfInBounds_toArray, List.set_cons_succ, List.set_cons_zero]
  refine wpAnyH_take (i := 3) (v := .int .i64 ai) rfl (by kernel_rfl) (by kernel_rfl) (by kernel_rfl) (fun _ _ _ h => h) (Or.inl ⟨by rfl, fun w hSw => by obtain ⟨s0, s1, s2, s3⟩ := hSw; go_simp <;> first | omega | rfl⟩) h0 ?_
  try dsimp [Act.put]
  try simp only [List.setIfInBounds_toArray, List.set_cons_succ, List.set_cons_zero]
  refine wpAnyH_take (i := 4) (v := .pointer (some ⟨bb, oo + ai * 5, none⟩)) rfl (by kernel_rfl) (by kernel_rfl) (by kernel_rfl) (fun _ _ _ h => h) (Or.inl ⟨by rfl, fun w hSw => by obtain ⟨s0, s1, s2, s3⟩ := hSw; go_simp <;> first | omega | rfl⟩) h0 ?_
  try dsimp [Act.put]
  try simp only [List.setIfInBounds_toArray, List.set_cons_succ, List.set_cons_zero]
  refine wpAnyH_take (i := 5) (v := .pointer (some ⟨bb, oo + ai * 5 + 4, none⟩)) rfl (by kernel_rfl) (by kernel_rfl) (by kernel_rfl) (fun _ _ _ h => h) (Or.inl ⟨by rfl, fun w hSw => by obtain ⟨s0, s1, s2, s3⟩ := hSw; go_simp <;> first | omega | rfl⟩) h0 ?_
  try dsimp [Act.put]
  try simp only [List.setIfInBounds_toArray, List.set_cons_succ, List.set_cons_zero]
  refine wpAnyH_take (i := 6) (v := .string e.link) rfl (by kernel_rfl) (by kernel_rfl) (by kernel_rfl) (fun _ _ _ h => h) (Or.inl ⟨by rfl, fun w hSw => by obtain ⟨s0, s1, s2, s3⟩ := hSw; go_simp <;> first | omega | rfl⟩) h0 ?_
  try dsimp [Act.put]
  try simp only [List.setIfInBounds_toArray, List.set_cons_succ, List.set_cons_zero]
  refine wpAnyH_ready (rs := [7]) (by kernel_rfl) (by simp) ?_
  refine AllReadyH.cons rfl ?_ AllReadyH.nil
  intro K' hK
  rw [if_pos (by rfl)]
  go_simp
  refine (followed_0 e.link rest _ (HLT.out.below h0.2.2.2).toAt h40 hh hls hl0 hrl).mono ?_
  rintro e3 w3 ⟨lv3, rfl, how3, hb3⟩
  obtain ⟨u1, u3, rfl⟩ := row_form how3
  have hS3 : w3.heap[w.heap.size]? = some (.cells (wk8 (.slice (some ⟨bb, oo, none⟩) st.L.length c1) st.here (.slice (tailA g o cap) rest.length (cap - 1)) st.hops (.slice a3 n3 c3) false ⟨#[]⟩ 0) 81) ∧ w3.cell? ⟨bb, oo + ai * 5 + 4, none⟩ = some (.string e.link) ∧ (∃ cs : Array Value, cs.size = 8 ∧ w3.heap[w.heap.size + 1]? = some (.cells cs 81 (0, 0))) ∧ Below w.heap.size w w3 := ⟨(hb3.block _ (by omega)).trans h0.1, (hb3.cell (p := ⟨bb, oo + ai * 5 + 4, none⟩) (show bb < wd.heap.size by omega)).trans h0.2.1, by obtain ⟨cs, h1, h2⟩ := h0.2.2.1; exact ⟨cs, h1, (hb3.block _ (by omega)).trans h2⟩, h0.2.2.2.trans (hb3.mono (by omega))⟩
  refine hK.out _ _ hS3 (fun _ => ?_)
  clear hK
  try dsimp [Act.put]
  try simp only [List.setIfInBounds_toArray, List.set_cons_succ, List.set_cons_zero]
  refine wpAnyH_ready (rs := [8]) (by kernel_rfl) (by simp) ?_
  refine AllReadyH.cons rfl ?_ AllReadyH.nil
  intro K' hK
  rw [if_pos (by rfl)]
  obtain ⟨cz, hz1, hz2⟩ := hS3.2.2.1
  refine wp_store_row 81 (.tmp 4) (.tmp 85) rfl (w.heap.size + 1) (wk8 (.slice (some ⟨bb, oo, none⟩) st.L.length c1) (hereS st.here e.link) (.slice u1 (namesB e.link ++ rest).length u3) (st.hops + 1) (.slice a3 n3 c3) false ⟨#[]⟩ 0) rfl rfl 81 cz hz2 (info_w8 _ rfl) hz1 (one_w8 _ _ _ _ _ _ _ _ _ _ _ _ _ _) ?_
  have hb0s : w.heap.size < w3.heap.size := (Array.getElem?_eq_some_iff.1 hS3.1).1
  have hbF : Below w.heap.size w (w3.setRow (w.heap.size + 1) (wk8 (.slice (some ⟨bb, oo, none⟩) st.L.length c1) (hereS st.here e.link) (.slice u1 (namesB e.link ++ rest).length u3) (st.hops + 1) (.slice a3 n3 c3) false ⟨#[]⟩ 0)) := below_setRow' hS3.2.2.2 (by omega) _
  refine hK.out _ _ ⟨(setRow_other _ _ _ _ (by omega)).trans hS3.1, (by have h4 := hS3.2.1; unfold World.cell? at h4 ⊢; rw [show (w3.setRow (w.heap.size + 1) (wk8 (.slice (some ⟨bb, oo, none⟩) st.L.length c1) (hereS st.here e.link) (.slice u1 (namesB e.link ++ rest).length u3) (st.hops + 1) (.slice a3 n3 c3) false ⟨#[]⟩ 0)).heap[bb]? = w3.heap[bb]? from setRow_other _ _ _ _ (by omega)]; exact h4), ⟨_, rfl, setRow_heap _ _ _ _ _ _ hz2⟩, hbF⟩ (fun _ => ?_)
  clear hK
  try dsimp [Act.put]
  try simp only [List.setIfInBounds_toArray, List.set_cons_succ, List.set_cons_zero]
  refine wpAnyH_done (by kernel_rfl) ?_ _
  refine NoPanic.normal ?_
  go_wp2
  refine bodyPost_ret (results_cell_row rfl _ _ (w.heap.size + 1) 81 _ (0, 0) _ rfl (setRow_heap _ (w.heap.size + 1) _ _ _ (0, 0) hz2) Tryz.underlying81 rfl (info_w8 _ rfl)) rfl ?_
  exact ⟨hbF, hereS st.here e.link, _, st.hops + 1, false, ⟨#[]⟩, by rw [HST.out], ⟨_, _, _, rfl⟩, fun _ => .inl ⟨rfl, rfl, by rw [HST.out]; rfl, by rw [HST.out], by rw [HST.out]; exact leftB_of_owns (row_loc how3 (fun k hk => setRow_other _ _ _ _ (by have := (how3.lt k hk).1; omega))) (fun k hk => .inr (by omega))⟩⟩
set_option maxRecDepth 100000 in
set_option maxHeartbeats 4000000 in
theorem docstep_12_3 (g o cap : Nat) (st : St) (c : ByteArray) (rest : List ByteArray) (w : World) (hcap : rest.length + 1 ≤ cap) (hcm : cap ≤ 9223372036854775807) (hc : ∀ i x, (c :: rest)[i]? = some x → w.cell? ⟨g, o + i, none⟩ = some (.string x)) (hF : Far st c) (hEv : EntsAt w (.slice a1 st.L.length c1) st.L) (hLl : st.L.length ≤ 1073741824) (e : Ent) (hg : getE st.L (joinB st.here c) = some e) (hk : e.kind = 3) (h40 : st.hops = 40) :
    Calls Tryz.prog 52 #[.agg (wk8 (.slice a1 st.L.length c1) st.here (.slice (some ⟨g, o, none⟩) (rest.length + 1) cap) st.hops (.slice a3 n3 c3) false ⟨#[]⟩ 0), .int .i64 3] w (DocPost g w (.slice a1 st.L.length c1) (.slice a3 n3 c3) ⟨2, false, false⟩ st c rest) := by
  obtain ⟨hn1, hn2, hs, hcs⟩ := hF
  have hb1 := ne_dot hn1
  have hb2 := ne_dd hn2
  have hjs := join_size st.here c
  have k0 : w.cell? ⟨g, o, none⟩ = some (.string c) := hc 0 _ rfl
  have hgl := World.block_lt_of_cell? w _ k0
  have hlt := left_tail w.heap.size hcap hcm hc
  have hT := slice_tail g o cap rest.length hcap hcm
  have HLT : Hid (LeftB (fun k => k = g ∨ w.heap.size ≤ k) w (.slice (tailA g o cap) rest.length (cap - 1)) rest) := hlt
  obtain ⟨ai, hai, hLi⟩ := at_some (show st.L.find? (pathIs (joinB st.here c)) = some e by have := hg; unfold getE at this; split at this <;> first | cases this | exact this)
  have HAT : Hid (atN st.L (joinB st.here c) = (ai : Int)) := hai
  have hLt := (List.getElem?_eq_some_iff.1 hLi).1
  obtain ⟨av, cav, bb, oo, hveq, hva, hvc, hvv⟩ := id hEv
  obtain ⟨rfl, -⟩ : a1 = av ∧ c1 = cav := by simpa using hveq
  obtain rfl := hva (fun e => by rw [e] at hLt; simp at hLt)
  have hbl := World.block_lt_of_cell? w _ (hvv ai e hLi).c0
  have hE2 := (hvv ai e hLi).below (two_below w (.cells (wk8 (.slice (some ⟨bb, oo, none⟩) st.L.length c1) st.here (.slice (tailA g o cap) rest.length (cap - 1)) st.hops (.slice a3 n3 c3) false ⟨#[]⟩ 0) 81) (.cells zw8 81))
  have d1 := hE2.c1
  have d4 := hE2.c4
  have j1 : ¬ (ai : Int) < 0 := by omega
  have j2 : (0 : Int) ≤ (ai : Int) := by omega
  have j3 : (ai : Int) < (st.L.length : Int) := by omega
  have HST : Hid ((stepN ⟨2, false, false⟩ st c rest).1 = 12) := by unfold Hid stepN; rw [if_neg hn1, if_neg hn2, hg]; simp only [thereN, isFile, isLink, hk, linkS, h40]; rfl
  have H40 : Hid (st.hops = 40) := h40
  clear h40
  rw [hk] at d1
  have hb0 : Below w.heap.size w ((w.alloc (.cells (wk8 (.slice (some ⟨bb, oo, none⟩) st.L.length c1) st.here (.slice (tailA g o cap) rest.length (cap - 1)) st.hops (.slice a3 n3 c3) false ⟨#[]⟩ 0) 81)).alloc (.cells zw8 81)) := two_below _ _ _
  have hk0 : ((w.alloc (.cells (wk8 (.slice (some ⟨bb, oo, none⟩) st.L.length c1) st.here (.slice (tailA g o cap) rest.length (cap - 1)) st.hops (.slice a3 n3 c3) false ⟨#[]⟩ 0) 81)).alloc (.cells zw8 81)).heap[w.heap.size]? = some (.cells (wk8 (.slice (some ⟨bb, oo, none⟩) st.L.length c1) st.here (.slice (tailA g o cap) rest.length (cap - 1)) st.hops (.slice a3 n3 c3) false ⟨#[]⟩ 0) 81) := (Below.heap_alloc _ _ _ (by simp)).trans (World.alloc_heap_new w _)
  have hk1 : ((w.alloc (.cells (wk8 (.slice (some ⟨bb, oo, none⟩) st.L.length c1) st.here (.slice (tailA g o cap) rest.length (cap - 1)) st.hops (.slice a3 n3 c3) false ⟨#[]⟩ 0) 81)).alloc (.cells zw8 81)).heap[w.heap.size + 1]? = some (.cells zw8 81 (0, 0)) := new_two w _ _ _
  have hsw : ((w.alloc (.cells (wk8 (.slice (some ⟨bb, oo, none⟩) st.L.length c1) st.here (.slice (tailA g o cap) rest.length (cap - 1)) st.hops (.slice a3 n3 c3) false ⟨#[]⟩ 0) 81)).alloc (.cells zw8 81)).heap.size = w.heap.size + 2 := by simp
  clear hc hlt hn1 hn2 hg hvv hva hLi hai hveq
  go_enter Tryz.func52, Tryz.ntmps52
  go_wp2_with (first | (go_at_call 78; refine (join_r _ _ _ (by omega)).mono ?_; rintro e w1 ⟨rfl, hw1⟩; replace hw1 := hw1.symm; subst hw1) | (go_at_call 79; refine (at_r _ st.L _ _ (hEv.below (two_below _ _ _)) hLl).mono ?_; rintro e w1 ⟨rfl, hw1⟩; replace hw1 := hw1.symm; subst hw1; rw [HAT.out]))
  generalize (w.alloc (.cells (wk8 (.slice (some ⟨bb, oo, none⟩) st.L.length c1) st.here (.slice (tailA g o cap) rest.length (cap - 1)) st.hops (.slice a3 n3 c3) false ⟨#[]⟩ 0) 81)).alloc (.cells zw8 81) = W0 at *
  refine wp_region_noPanic ?_
  refine wp_region_held_drew (S := fun W => W.heap[w.heap.size]? = some (.cells (wk8 (.slice (some ⟨bb, oo, none⟩) st.L.length c1) st.here (.slice (tailA g o cap) rest.length (cap - 1)) st.hops (.slice a3 n3 c3) false ⟨#[]⟩ 0) 81) ∧ W.cell? ⟨bb, oo + ai * 5 + 4, none⟩ = some (.string e.link) ∧ (∃ cs : Array Value, cs.size = 8 ∧ W.heap[w.heap.size + 1]? = some (.cells cs 81 (0, 0))) ∧ Below w.heap.size w W) (by kernel_rfl) ⟨hk0, d4, ⟨zw8, rfl, hk1⟩, hb0.trans ⟨rfl, rfl, rfl, Nat.le_refl _, fun _ _ => rfl⟩⟩ (fun h0 => ?_)
  have hsd : W0.drew.heap.size = w.heap.size + 2 := hsw
  have HW0 : Hid (Below W0.heap.size W0 W0.drew) := ⟨rfl, rfl, rfl, Nat.le_refl _, fun _ _ => rfl⟩
  generalize W0.drew = wd at *
  refine wpAnyH_take (i := 0) (v := .agg (wk8 (.slice (some ⟨bb, oo, none⟩) st.L.length c1) st.here (.slice (tailA g o cap) rest.length (cap - 1)) st.hops (.slice a3 n3 c3) false ⟨#[]⟩ 0)) rfl (by kernel_rfl) (by kernel_rfl) (by kernel_rfl) (fun _ _ _ h => h) (Or.inl ⟨by rfl, fun w hSw => by obtain ⟨s0, s1, s2, s3⟩ := hSw; have q0 := w8_cells (j := 0) s0 rfl; have q1 := w8_cells (j := 1) s0 rfl; have q2 := w8_cells (j := 2) s0 rfl; have q3 := w8_cells (j := 3) s0 rfl; have q4 := w8_cells (j := 4) s0 rfl; have q5 := w8_cells (j := 5) s0 rfl; have q6 := w8_cells (j := 6) s0 rfl; have q7 := w8_cells (j := 7) s0 rfl; simp only [List.getElem_toArray, List.getElem_cons_zero, List.getElem_cons_succ] at q0 q1 q2 q3 q4 q5 q6 q7; go_simp <;> first | omega | rfl⟩) h0 ?_
  try dsimp [Act.put]
  try simp only [List.setIfInBounds_toArray, List.set_cons_succ, List.set_cons_zero]
  refine wpAnyH_take (i := 1) (v := .pointer (some ⟨w.heap.size, 0, none⟩)) rfl (by kernel_rfl) (by kernel_rfl) (by kernel_rfl) (fun _ _ _ h => h) (Or.inl ⟨by rfl, fun w hSw => by obtain ⟨s0, s1, s2, s3⟩ := hSw; go_simp <;> first | omega | rfl⟩) h0 ?_
  try dsimp [Act.put]
  try simp only [List.setIfInBounds_toArray, List.set_cons_succ, List.set_cons_zero]
  refine wpAnyH_take (i := 2) (v := .slice (some ⟨bb, oo, none⟩) st.L.length c1) rfl (by kernel_rfl) (by kernel_rfl) (by kernel_rfl) (fun _ _ _ h => h) (Or.inl ⟨by rfl, fun w hSw => by obtain ⟨s0, s1, s2, s3⟩ := hSw; have q0 := w8_cells (j := 0) s0 rfl; have q1 := w8_cells (j := 1) s0 rfl; have q2 := w8_cells (j := 2) s0 rfl; have q3 := w8_cells (j := 3) s0 rfl; have q4 := w8_cells (j := 4) s0 rfl; have q5 := w8_cells (j := 5) s0 rfl; have q6 := w8_cells (j := 6) s0 rfl; have q7 := w8_cells (j := 7) s0 rfl; simp only [List.getElem_toArray, List.getElem_cons_zero, List.getElem_cons_succ] at q0 q1 q2 q3 q4 q5 q6 q7; go_simp <;> first | omega | rfl⟩) h0 ?_
  try dsimp [Act.put]
  try simp only [List.setIfInBounds_toArray, List.set_cons_succ, List.set_cons_zero]
  refine wpAnyH_take (i := 3) (v := .int .i64 ai) rfl (by kernel_rfl) (by kernel_rfl) (by kernel_rfl) (fun _ _ _ h => h) (Or.inl ⟨by rfl, fun w hSw => by obtain ⟨s0, s1, s2, s3⟩ := hSw; go_simp <;> first | omega | rfl⟩) h0 ?_
  try dsimp [Act.put]
  try simp only [List.setIfInBounds_toArray, List.set_cons_succ, List.set_cons_zero]
  refine wpAnyH_take (i := 4) (v := .pointer (some ⟨bb, oo + ai * 5, none⟩)) rfl (by kernel_rfl) (by kernel_rfl) (by kernel_rfl) (fun _ _ _ h => h) (Or.inl ⟨by rfl, fun w hSw => by obtain ⟨s0, s1, s2, s3⟩ := hSw; go_simp <;> first | omega | rfl⟩) h0 ?_
  try dsimp [Act.put]
  try simp only [List.setIfInBounds_toArray, List.set_cons_succ, List.set_cons_zero]
  refine wpAnyH_take (i := 5) (v := .pointer (some ⟨bb, oo + ai * 5 + 4, none⟩)) rfl (by kernel_rfl) (by kernel_rfl) (by kernel_rfl) (fun _ _ _ h => h) (Or.inl ⟨by rfl, fun w hSw => by obtain ⟨s0, s1, s2, s3⟩ := hSw; go_simp <;> first | omega | rfl⟩) h0 ?_
  try dsimp [Act.put]
  try simp only [List.setIfInBounds_toArray, List.set_cons_succ, List.set_cons_zero]
  refine wpAnyH_take (i := 6) (v := .string e.link) rfl (by kernel_rfl) (by kernel_rfl) (by kernel_rfl) (fun _ _ _ h => h) (Or.inl ⟨by rfl, fun w hSw => by obtain ⟨s0, s1, s2, s3⟩ := hSw; go_simp <;> first | omega | rfl⟩) h0 ?_
  try dsimp [Act.put]
  try simp only [List.setIfInBounds_toArray, List.set_cons_succ, List.set_cons_zero]
  refine wpAnyH_ready (rs := [7]) (by kernel_rfl) (by simp) ?_
  refine AllReadyH.cons rfl ?_ AllReadyH.nil
  intro K' hK
  rw [if_pos (by rfl)]
  go_simp
  refine (followed_12 _ _ H40.out).mono ?_
  rintro e3 w3 ⟨rfl, hb3⟩
  have hS3 : w3.heap[w.heap.size]? = some (.cells (wk8 (.slice (some ⟨bb, oo, none⟩) st.L.length c1) st.here (.slice (tailA g o cap) rest.length (cap - 1)) st.hops (.slice a3 n3 c3) false ⟨#[]⟩ 0) 81) ∧ w3.cell? ⟨bb, oo + ai * 5 + 4, none⟩ = some (.string e.link) ∧ (∃ cs : Array Value, cs.size = 8 ∧ w3.heap[w.heap.size + 1]? = some (.cells cs 81 (0, 0))) ∧ Below w.heap.size w w3 := ⟨(hb3.block _ (by omega)).trans h0.1, (hb3.cell (p := ⟨bb, oo + ai * 5 + 4, none⟩) (show bb < wd.heap.size by omega)).trans h0.2.1, by obtain ⟨cs, h1, h2⟩ := h0.2.2.1; exact ⟨cs, h1, (hb3.block _ (by omega)).trans h2⟩, h0.2.2.2.trans (hb3.mono (by omega))⟩
  refine hK.out _ _ hS3 (fun _ => ?_)
  clear hK
  try dsimp [Act.put]
  try simp only [List.setIfInBounds_toArray, List.set_cons_succ, List.set_cons_zero]
  refine wpAnyH_ready (rs := [8]) (by kernel_rfl) (by simp) ?_
  refine AllReadyH.cons rfl ?_ AllReadyH.nil
  intro K' hK
  rw [if_pos (by rfl)]
  obtain ⟨cz, hz1, hz2⟩ := hS3.2.2.1
  refine wp_store_row 81 (.tmp 4) (.tmp 85) rfl (w.heap.size + 1) (wk8 (.slice (some ⟨bb, oo, none⟩) st.L.length c1) st.here (.slice (tailA g o cap) rest.length (cap - 1)) st.hops (.slice a3 n3 c3) false ⟨#[]⟩ 12) rfl rfl 81 cz hz2 (info_w8 _ rfl) hz1 (one_w8 _ _ _ _ _ _ _ _ _ _ _ _ _ _) ?_
  have hb0s : w.heap.size < w3.heap.size := (Array.getElem?_eq_some_iff.1 hS3.1).1
  have hbF : Below w.heap.size w (w3.setRow (w.heap.size + 1) (wk8 (.slice (some ⟨bb, oo, none⟩) st.L.length c1) st.here (.slice (tailA g o cap) rest.length (cap - 1)) st.hops (.slice a3 n3 c3) false ⟨#[]⟩ 12)) := below_setRow' hS3.2.2.2 (by omega) _
  refine hK.out _ _ ⟨(setRow_other _ _ _ _ (by omega)).trans hS3.1, (by have h4 := hS3.2.1; unfold World.cell? at h4 ⊢; rw [show (w3.setRow (w.heap.size + 1) (wk8 (.slice (some ⟨bb, oo, none⟩) st.L.length c1) st.here (.slice (tailA g o cap) rest.length (cap - 1)) st.hops (.slice a3 n3 c3) false ⟨#[]⟩ 12)).heap[bb]? = w3.heap[bb]? from setRow_other _ _ _ _ (by omega)]; exact h4), ⟨_, rfl, setRow_heap _ _ _ _ _ _ hz2⟩, hbF⟩ (fun _ => ?_)
  clear hK
  try dsimp [Act.put]
  try simp only [List.setIfInBounds_toArray, List.set_cons_succ, List.set_cons_zero]
  refine wpAnyH_done (by kernel_rfl) ?_ _
  refine NoPanic.normal ?_
  go_wp2
  refine bodyPost_ret (results_cell_row rfl _ _ (w.heap.size + 1) 81 _ (0, 0) _ rfl (setRow_heap _ (w.heap.size + 1) _ _ _ (0, 0) hz2) Tryz.underlying81 rfl (info_w8 _ rfl)) rfl ?_
  exact ⟨hbF, st.here, _, st.hops, false, ⟨#[]⟩, by rw [HST.out], ⟨_, _, _, rfl⟩, fun h => absurd h (by rw [HST.out]; decide)⟩
set_option maxRecDepth 100000 in
set_option maxHeartbeats 4000000 in
theorem docstep_link_3 (g o cap : Nat) (st : St) (c : ByteArray) (rest : List ByteArray) (w : World) (hcap : rest.length + 1 ≤ cap) (hcm : cap ≤ 9223372036854775807) (hc : ∀ i x, (c :: rest)[i]? = some x → w.cell? ⟨g, o + i, none⟩ = some (.string x)) (hF : Far st c) (hEv : EntsAt w (.slice a1 st.L.length c1) st.L) (hLl : st.L.length ≤ 1073741824) (e : Ent) (hg : getE st.L (joinB st.here c) = some e) (hk : e.kind = 3) (h40 : st.hops ≠ 40) (hh : st.hops ≤ 40) (hls : e.link.size ≤ 100) (hl0 : e.link.size ≠ 0) (hrl : rest.length ≤ 2199023255552) :
    Calls Tryz.prog 52 #[.agg (wk8 (.slice a1 st.L.length c1) st.here (.slice (some ⟨g, o, none⟩) (rest.length + 1) cap) st.hops (.slice a3 n3 c3) false ⟨#[]⟩ 0), .int .i64 3] w (DocPost g w (.slice a1 st.L.length c1) (.slice a3 n3 c3) ⟨2, false, false⟩ st c rest) := by
  obtain ⟨hn1, hn2, hs, hcs⟩ := hF
  have hb1 := ne_dot hn1
  have hb2 := ne_dd hn2
  have hjs := join_size st.here c
  have k0 : w.cell? ⟨g, o, none⟩ = some (.string c) := hc 0 _ rfl
  have hgl := World.block_lt_of_cell? w _ k0
  have hlt := left_tail w.heap.size hcap hcm hc
  have hT := slice_tail g o cap rest.length hcap hcm
  have HLT : Hid (LeftB (fun k => k = g ∨ w.heap.size ≤ k) w (.slice (tailA g o cap) rest.length (cap - 1)) rest) := hlt
  obtain ⟨ai, hai, hLi⟩ := at_some (show st.L.find? (pathIs (joinB st.here c)) = some e by have := hg; unfold getE at this; split at this <;> first | cases this | exact this)
  have HAT : Hid (atN st.L (joinB st.here c) = (ai : Int)) := hai
  have hLt := (List.getElem?_eq_some_iff.1 hLi).1
  obtain ⟨av, cav, bb, oo, hveq, hva, hvc, hvv⟩ := id hEv
  obtain ⟨rfl, -⟩ : a1 = av ∧ c1 = cav := by simpa using hveq
  obtain rfl := hva (fun e => by rw [e] at hLt; simp at hLt)
  have hbl := World.block_lt_of_cell? w _ (hvv ai e hLi).c0
  have hE2 := (hvv ai e hLi).below (two_below w (.cells (wk8 (.slice (some ⟨bb, oo, none⟩) st.L.length c1) st.here (.slice (tailA g o cap) rest.length (cap - 1)) st.hops (.slice a3 n3 c3) false ⟨#[]⟩ 0) 81) (.cells zw8 81))
  have d1 := hE2.c1
  have d4 := hE2.c4
  have j1 : ¬ (ai : Int) < 0 := by omega
  have j2 : (0 : Int) ≤ (ai : Int) := by omega
  have j3 : (ai : Int) < (st.L.length : Int) := by omega
  have HST : Hid (stepN ⟨2, false, false⟩ st c rest = (0, { st with here := if slashed e.link then ⟨#[]⟩ else st.here, left := namesB e.link ++ rest, hops := st.hops + 1 })) := by unfold Hid stepN; rw [if_neg hn1, if_neg hn2, hg]; simp only [thereN, isFile, isLink, hk, linkS, h40]; rfl
  rw [hk] at d1
  have hb0 : Below w.heap.size w ((w.alloc (.cells (wk8 (.slice (some ⟨bb, oo, none⟩) st.L.length c1) st.here (.slice (tailA g o cap) rest.length (cap - 1)) st.hops (.slice a3 n3 c3) false ⟨#[]⟩ 0) 81)).alloc (.cells zw8 81)) := two_below _ _ _
  have hk0 : ((w.alloc (.cells (wk8 (.slice (some ⟨bb, oo, none⟩) st.L.length c1) st.here (.slice (tailA g o cap) rest.length (cap - 1)) st.hops (.slice a3 n3 c3) false ⟨#[]⟩ 0) 81)).alloc (.cells zw8 81)).heap[w.heap.size]? = some (.cells (wk8 (.slice (some ⟨bb, oo, none⟩) st.L.length c1) st.here (.slice (tailA g o cap) rest.length (cap - 1)) st.hops (.slice a3 n3 c3) false ⟨#[]⟩ 0) 81) := (Below.heap_alloc _ _ _ (by simp)).trans (World.alloc_heap_new w _)
  have hk1 : ((w.alloc (.cells (wk8 (.slice (some ⟨bb, oo, none⟩) st.L.length c1) st.here (.slice (tailA g o cap) rest.length (cap - 1)) st.hops (.slice a3 n3 c3) false ⟨#[]⟩ 0) 81)).alloc (.cells zw8 81)).heap[w.heap.size + 1]? = some (.cells zw8 81 (0, 0)) := new_two w _ _ _
  have hsw : ((w.alloc (.cells (wk8 (.slice (some ⟨bb, oo, none⟩) st.L.length c1) st.here (.slice (tailA g o cap) rest.length (cap - 1)) st.hops (.slice a3 n3 c3) false ⟨#[]⟩ 0) 81)).alloc (.cells zw8 81)).heap.size = w.heap.size + 2 := by simp
  clear hc hlt hn1 hn2 hg hvv hva hLi hai hveq
  go_enter Tryz.func52, Tryz.ntmps52
  go_wp2_with (first | (go_at_call 78; refine (join_r _ _ _ (by omega)).mono ?_; rintro e w1 ⟨rfl, hw1⟩; replace hw1 := hw1.symm; subst hw1) | (go_at_call 79; refine (at_r _ st.L _ _ (hEv.below (two_below _ _ _)) hLl).mono ?_; rintro e w1 ⟨rfl, hw1⟩; replace hw1 := hw1.symm; subst hw1; rw [HAT.out]))
  generalize (w.alloc (.cells (wk8 (.slice (some ⟨bb, oo, none⟩) st.L.length c1) st.here (.slice (tailA g o cap) rest.length (cap - 1)) st.hops (.slice a3 n3 c3) false ⟨#[]⟩ 0) 81)).alloc (.cells zw8 81) = W0 at *
  refine wp_region_noPanic ?_
  refine wp_region_held_drew (S := fun W => W.heap[w.heap.size]? = some (.cells (wk8 (.slice (some ⟨bb, oo, none⟩) st.L.length c1) st.here (.slice (tailA g o cap) rest.length (cap - 1)) st.hops (.slice a3 n3 c3) false ⟨#[]⟩ 0) 81) ∧ W.cell? ⟨bb, oo + ai * 5 + 4, none⟩ = some (.string e.link) ∧ (∃ cs : Array Value, cs.size = 8 ∧ W.heap[w.heap.size + 1]? = some (.cells cs 81 (0, 0))) ∧ Below w.heap.size w W) (by kernel_rfl) ⟨hk0, d4, ⟨zw8, rfl, hk1⟩, hb0.trans ⟨rfl, rfl, rfl, Nat.le_refl _, fun _ _ => rfl⟩⟩ (fun h0 => ?_)
  have hsd : W0.drew.heap.size = w.heap.size + 2 := hsw
  have HW0 : Hid (Below W0.heap.size W0 W0.drew) := ⟨rfl, rfl, rfl, Nat.le_refl _, fun _ _ => rfl⟩
  generalize W0.drew = wd at *
  refine wpAnyH_take (i := 0) (v := .agg (wk8 (.slice (some ⟨bb, oo, none⟩) st.L.length c1) st.here (.slice (tailA g o cap) rest.length (cap - 1)) st.hops (.slice a3 n3 c3) false ⟨#[]⟩ 0)) rfl (by kernel_rfl) (by kernel_rfl) (by kernel_rfl) (fun _ _ _ h => h) (Or.inl ⟨by rfl, fun w hSw => by obtain ⟨s0, s1, s2, s3⟩ := hSw; have q0 := w8_cells (j := 0) s0 rfl; have q1 := w8_cells (j := 1) s0 rfl; have q2 := w8_cells (j := 2) s0 rfl; have q3 := w8_cells (j := 3) s0 rfl; have q4 := w8_cells (j := 4) s0 rfl; have q5 := w8_cells (j := 5) s0 rfl; have q6 := w8_cells (j := 6) s0 rfl; have q7 := w8_cells (j := 7) s0 rfl; simp only [List.getElem_toArray, List.getElem_cons_zero, List.getElem_cons_succ] at q0 q1 q2 q3 q4 q5 q6 q7; go_simp <;> first | omega | rfl⟩) h0 ?_
  try dsimp [Act.put]
  try simp only [List.setIfInBounds_toArray, List.set_cons_succ, List.set_cons_zero]
  refine wpAnyH_take (i := 1) (v := .pointer (some ⟨w.heap.size, 0, none⟩)) rfl (by kernel_rfl) (by kernel_rfl) (by kernel_rfl) (fun _ _ _ h => h) (Or.inl ⟨by rfl, fun w hSw => by obtain ⟨s0, s1, s2, s3⟩ := hSw; go_simp <;> first | omega | rfl⟩) h0 ?_
  try dsimp [Act.put]
  try simp only [List.setIfInBounds_toArray, List.set_cons_succ, List.set_cons_zero]
  refine wpAnyH_take (i := 2) (v := .slice (some ⟨bb, oo, none⟩) st.L.length c1) rfl (by kernel_rfl) (by kernel_rfl) (by kernel_rfl) (fun _ _ _ h => h) (Or.inl ⟨by rfl, fun w hSw => by obtain ⟨s0, s1, s2, s3⟩ := hSw; have q0 := w8_cells (j := 0) s0 rfl; have q1 := w8_cells (j := 1) s0 rfl; have q2 := w8_cells (j := 2) s0 rfl; have q3 := w8_cells (j := 3) s0 rfl; have q4 := w8_cells (j := 4) s0 rfl; have q5 := w8_cells (j := 5) s0 rfl; have q6 := w8_cells (j := 6) s0 rfl; have q7 := w8_cells (j := 7) s0 rfl; simp only [List.getElem_toArray, List.getElem_cons_zero, List.getElem_cons_succ] at q0 q1 q2 q3 q4 q5 q6 q7; go_simp <;> first | omega | rfl⟩) h0 ?_
  try dsimp [Act.put]
  try simp only [List.setIfInBounds_toArray, List.set_cons_succ, List.set_cons_zero]
  refine wpAnyH_take (i := 3) (v := .int .i64 ai) rfl (by kernel_rfl) (by kernel_rfl) (by kernel_rfl) (fun _ _ _ h => h) (Or.inl ⟨by rfl, fun w hSw => by obtain ⟨s0, s1, s2, s3⟩ := hSw; go_simp <;> first | omega | rfl⟩) h0 ?_
  try dsimp [Act.put]
  try simp only [List.setIfInBounds_toArray, List.set_cons_succ, List.set_cons_zero]
  refine wpAnyH_take (i := 4) (v := .pointer (some ⟨bb, oo + ai * 5, none⟩)) rfl (by kernel_rfl) (by kernel_rfl) (by kernel_rfl) (fun _ _ _ h => h) (Or.inl ⟨by rfl, fun w hSw => by obtain ⟨s0, s1, s2, s3⟩ := hSw; go_simp <;> first | omega | rfl⟩) h0 ?_
  try dsimp [Act.put]
  try simp only [List.setIfInBounds_toArray, List.set_cons_succ, List.set_cons_zero]
  refine wpAnyH_take (i := 5) (v := .pointer (some ⟨bb, oo + ai * 5 + 4, none⟩)) rfl (by kernel_rfl) (by kernel_rfl) (by kernel_rfl) (fun _ _ _ h => h) (Or.inl ⟨by rfl, fun w hSw => by obtain ⟨s0, s1, s2, s3⟩ := hSw; go_simp <;> first | omega | rfl⟩) h0 ?_
  try dsimp [Act.put]
  try simp only [List.setIfInBounds_toArray, List.set_cons_succ, List.set_cons_zero]
  refine wpAnyH_take (i := 6) (v := .string e.link) rfl (by kernel_rfl) (by kernel_rfl) (by kernel_rfl) (fun _ _ _ h => h) (Or.inl ⟨by rfl, fun w hSw => by obtain ⟨s0, s1, s2, s3⟩ := hSw; go_simp <;> first | omega | rfl⟩) h0 ?_
  try dsimp [Act.put]
  try simp only [List.setIfInBounds_toArray, List.set_cons_succ, List.set_cons_zero]
  refine wpAnyH_ready (rs := [7]) (by kernel_rfl) (by simp) ?_
  refine AllReadyH.cons rfl ?_ AllReadyH.nil
  intro K' hK
  rw [if_pos (by rfl)]
  go_simp
  refine (followed_0 e.link rest _ (HLT.out.below h0.2.2.2).toAt h40 hh hls hl0 hrl).mono ?_
  rintro e3 w3 ⟨lv3, rfl, how3, hb3⟩
  obtain ⟨u1, u3, rfl⟩ := row_form how3
  have hS3 : w3.heap[w.heap.size]? = some (.cells (wk8 (.slice (some ⟨bb, oo, none⟩) st.L.length c1) st.here (.slice (tailA g o cap) rest.length (cap - 1)) st.hops (.slice a3 n3 c3) false ⟨#[]⟩ 0) 81) ∧ w3.cell? ⟨bb, oo + ai * 5 + 4, none⟩ = some (.string e.link) ∧ (∃ cs : Array Value, cs.size = 8 ∧ w3.heap[w.heap.size + 1]? = some (.cells cs 81 (0, 0))) ∧ Below w.heap.size w w3 := ⟨(hb3.block _ (by omega)).trans h0.1, (hb3.cell (p := ⟨bb, oo + ai * 5 + 4, none⟩) (show bb < wd.heap.size by omega)).trans h0.2.1, by obtain ⟨cs, h1, h2⟩ := h0.2.2.1; exact ⟨cs, h1, (hb3.block _ (by omega)).trans h2⟩, h0.2.2.2.trans (hb3.mono (by omega))⟩
  refine hK.out _ _ hS3 (fun _ => ?_)
  clear hK
  try dsimp [Act.put]
  try simp only [List.setIfInBounds_toArray, List.set_cons_succ, List.set_cons_zero]
  refine wpAnyH_ready (rs := [8]) (by kernel_rfl) (by simp) ?_
  refine AllReadyH.cons rfl ?_ AllReadyH.nil
  intro K' hK
  rw [if_pos (by rfl)]
  obtain ⟨cz, hz1, hz2⟩ := hS3.2.2.1
  refine wp_store_row 81 (.tmp 4) (.tmp 85) rfl (w.heap.size + 1) (wk8 (.slice (some ⟨bb, oo, none⟩) st.L.length c1) (hereS st.here e.link) (.slice u1 (namesB e.link ++ rest).length u3) (st.hops + 1) (.slice a3 n3 c3) false ⟨#[]⟩ 0) rfl rfl 81 cz hz2 (info_w8 _ rfl) hz1 (one_w8 _ _ _ _ _ _ _ _ _ _ _ _ _ _) ?_
  have hb0s : w.heap.size < w3.heap.size := (Array.getElem?_eq_some_iff.1 hS3.1).1
  have hbF : Below w.heap.size w (w3.setRow (w.heap.size + 1) (wk8 (.slice (some ⟨bb, oo, none⟩) st.L.length c1) (hereS st.here e.link) (.slice u1 (namesB e.link ++ rest).length u3) (st.hops + 1) (.slice a3 n3 c3) false ⟨#[]⟩ 0)) := below_setRow' hS3.2.2.2 (by omega) _
  refine hK.out _ _ ⟨(setRow_other _ _ _ _ (by omega)).trans hS3.1, (by have h4 := hS3.2.1; unfold World.cell? at h4 ⊢; rw [show (w3.setRow (w.heap.size + 1) (wk8 (.slice (some ⟨bb, oo, none⟩) st.L.length c1) (hereS st.here e.link) (.slice u1 (namesB e.link ++ rest).length u3) (st.hops + 1) (.slice a3 n3 c3) false ⟨#[]⟩ 0)).heap[bb]? = w3.heap[bb]? from setRow_other _ _ _ _ (by omega)]; exact h4), ⟨_, rfl, setRow_heap _ _ _ _ _ _ hz2⟩, hbF⟩ (fun _ => ?_)
  clear hK
  try dsimp [Act.put]
  try simp only [List.setIfInBounds_toArray, List.set_cons_succ, List.set_cons_zero]
  refine wpAnyH_done (by kernel_rfl) ?_ _
  refine NoPanic.normal ?_
  go_wp2
  refine bodyPost_ret (results_cell_row rfl _ _ (w.heap.size + 1) 81 _ (0, 0) _ rfl (setRow_heap _ (w.heap.size + 1) _ _ _ (0, 0) hz2) Tryz.underlying81 rfl (info_w8 _ rfl)) rfl ?_
  exact ⟨hbF, hereS st.here e.link, _, st.hops + 1, false, ⟨#[]⟩, by rw [HST.out], ⟨_, _, _, rfl⟩, fun _ => .inl ⟨rfl, rfl, by rw [HST.out]; rfl, by rw [HST.out], by rw [HST.out]; exact leftB_of_owns (row_loc how3 (fun k hk => setRow_other _ _ _ _ (by have := (how3.lt k hk).1; omega))) (fun k hk => .inr (by omega))⟩⟩
end Go.Proofs.YtcefgnjgcnboeaaGreatDoor

namespace Go.Proofs.YtcefgnjgcnboeaaGreatDoor
open Go Go.RowKit

/-- What stands above a path is the root or a directory. -/
def UpG (L : List Ent) (p : ByteArray) : Prop := (parentB p).size = 0 ∨ ∃ u, getE L (parentB p) = some u ∧ u.kind = 1
theorem upG_zero {L : List Ent} {p : ByteArray} (h : UpG L p) : upN L p = 0 := by
  unfold upN
  by_cases hz : (parentB p).size = 0
  · rw [if_pos hz]
  · rw [if_neg hz]
    rcases h with h | ⟨u, hu, hk⟩
    · exact absurd h hz
    · unfold getE at hu
      rw [if_neg hz] at hu
      rw [hu]
      simp [hk]
theorem UpG.ext {L L' : List Ent} {p : ByteArray} (h : UpG L p) (hx : Ext L L') : UpG L' p := by
  rcases h with h | ⟨u, hu, hk⟩
  · exact .inl h
  · exact .inr ⟨u, hx _ _ hu, hk⟩
theorem name_vals (c : ByteArray) : nameN c = 0 ∨ nameN c = 8 := by
  unfold nameN
  repeat' split
  all_goals first | exact .inr rfl | exact .inl rfl
theorem may_check {q c : ByteArray} (h1 : (47 : UInt8) ∉ un c) (h2 : c.size ≠ 0) : mayN c (joinB q c) = checkN (joinB q c) := by
  unfold mayN
  by_cases hn : nameN c = 0
  · rw [if_neg (by simpa using hn)]
  · rw [if_pos hn]
    obtain ⟨j1, j2⟩ := names_join (q := q) h1 h2
    have hm : c ∈ piecesB (joinB q c) := by
      rw [pieces_names j2, j1]
      simp [bs_un]
    have h8 : nameN c = 8 := (name_vals c).resolve_left hn
    rw [h8]
    unfold checkN
    rw [if_neg (by rw [(isEmpty_false _).2 (by omega)]; simp), if_pos (List.any_eq_true.2 ⟨c, hm, by rw [h8]; rfl⟩)]
theorem wrong_dir (p : ByteArray) : wrongN (dirE p) = checkN p := by
  have e1 : (dirE p).path = p := rfl
  unfold wrongN
  rw [e1]
  simp only [dirE, toList_un]
  by_cases h0 : checkN p = 0
  · rw [h0]; decide
  · rw [if_neg (by decide), if_pos h0]
theorem put_dir {L : List Ent} {p : ByteArray} (hg : getE L p = none) (hb : bytesL L ≤ 16777216) (hu : checkN p = 0 → UpG L p) : putAll L (dirE p) = if checkN p ≠ 0 then checkN p else if 4096 ≤ L.length then 5 else 0 := by
  unfold putAll
  rw [wrong_dir]
  by_cases hc : checkN p = 0
  · rw [if_neg (by simpa using hc), if_neg (by simpa using hc)]
    unfold putN
    rw [show (dirE p).path = p from rfl, upG_zero (hu hc)]
    simp only [ne_eq, not_true_eq_false, if_false]
    unfold manyN
    have hz := (check_facts hc).1
    unfold getE at hg
    rw [if_neg hz] at hg
    rw [show (dirE p).path = p from rfl, hg]
    simp only
    have : ((dirE p).data.size : Int) = 0 := rfl
    by_cases h4 : 4096 ≤ L.length
    · rw [if_pos h4, if_pos (.inl (by omega))]
    · rw [if_neg h4, if_neg (by omega)]
  · rw [if_pos hc, if_pos hc]
theorem laid_bytes {L : List Ent} (ho : L.Pairwise ltE) {e : Ent} (hn : L.find? (pathIs e.path) = none) : bytesL (laidL L e) = bytesL L + e.data.size ∧ (laidL L e).length = L.length + 1 := by
  have hp := laid_parts ho hn
  constructor
  · have h1 : bytesL L = bytesL (L.filter (fun x => decide (compareN x.path e.path < 0))) + bytesL (L.filter (fun x => decide (0 < compareN x.path e.path))) := by rw [← bytes_append, hp]
    unfold laidL
    rw [bytes_append, h1]
    have : ∀ M : List Ent, bytesL (e :: M) = e.data.size + bytesL M := fun M => by simp [bytesL]
    rw [this]
    omega
  · have h1 := congrArg List.length hp
    rw [List.length_append] at h1
    unfold laidL
    rw [List.length_append, List.length_cons]
    omega
/-- What stands between the steps of a walk that lays. -/
structure WInv (st : St) : Prop where
  order : st.L.Pairwise ltE
  right : Right st.L
  par : ∀ e ∈ st.L, UpG st.L e.path
  light : bytesL st.L ≤ 16777216
  few : st.L.length ≤ 4096
  nosl : NoSl st
  here : st.left ≠ [] → st.here = ⟨#[]⟩ ∨ ∃ e, getE st.L st.here = some e ∧ e.kind = 1
theorem winv_start {W : World} {tb base : Nat} {F : Pic} {L : List Ent} (h : TreeOf W tb base F L) (way : ByteArray) : WInv (start L way) := by
  refine ⟨h.says.order, h.right, fun e he => ?_, h.light, h.few, nosl_start L way, fun _ => .inl rfl⟩
  rcases tree_parent h he with h1 | ⟨u, hu, hp, hk⟩
  · exact .inl h1
  · exact .inr ⟨u, by rw [← hp]; exact get_of_mem h hu, hk⟩
theorem WInv.up {st : St} (h : WInv st) {c : ByteArray} {rest : List ByteArray} (hl : st.left = c :: rest) (hc : checkN (joinB st.here c) = 0) : UpG st.L (joinB st.here c) := by
  obtain ⟨c1, c2⟩ := h.nosl c (by rw [hl]; simp)
  unfold UpG
  rw [join_parent c1 c2 hc]
  rcases h.here (by rw [hl]; simp) with h1 | ⟨e, h1, h2⟩
  · left; rw [h1]; rfl
  · exact .inr ⟨e, h1, h2⟩
theorem winv_step {m : Mn} (hm : m.stay = false) {st : St} {c : ByteArray} {rest : List ByteArray} (h : WInv st) (hl : st.left = c :: rest) (h0 : (stepN m st c rest).1 = 0) : WInv (stepN m st c rest).2 := by
  have hns := nosl_step h.nosl hl h0
  have hne : st.left ≠ [] := by rw [hl]; simp
  have same : ∀ st' : St, st'.L = st.L → NoSl st' → (st'.left ≠ [] → st'.here = ⟨#[]⟩ ∨ ∃ e, getE st.L st'.here = some e ∧ e.kind = 1) → WInv st' := fun st' e1 e2 e3 => ⟨by rw [e1]; exact h.order, by rw [e1]; exact h.right, by rw [e1]; exact h.par, by rw [e1]; exact h.light, by rw [e1]; exact h.few, e2, by rw [e1]; exact e3⟩
  have hlay : (stepN m st c rest).2 = (layS st (joinB st.here c) rest).2 → getE st.L (joinB st.here c) = none → putAll st.L (dirE (joinB st.here c)) = 0 → WInv (stepN m st c rest).2 := fun e1 hg hp => by
    have hw := putAll_wrong hp
    have hc : checkN (joinB st.here c) = 0 := wrong_check hw
    have hz := (check_facts hc).1
    have hup := h.up hl hc
    have hx := ext_laid h.order hg
    have hfn : st.L.find? (pathIs (dirE (joinB st.here c)).path) = none := by
      unfold getE at hg
      rw [if_neg hz] at hg
      exact hg
    obtain ⟨b1, b2⟩ := laid_bytes h.order hfn
    have hput := put_dir hg h.light (fun hc => h.up hl hc)
    rw [hp, if_neg (by simpa using hc)] at hput
    have h4 : ¬ 4096 ≤ st.L.length := fun h4 => by rw [if_pos h4] at hput; exact absurd hput (by decide)
    have e2 : (stepN m st c rest).2.L = laidL st.L (dirE (joinB st.here c)) := by rw [e1]; rfl
    have e3 : (stepN m st c rest).2.here = joinB st.here c := by rw [e1]; rfl
    refine ⟨by rw [e2]; exact laid_order h.order _, by rw [e2]; exact lay_right h.right hw, fun e he => ?_, ?_, by rw [e2, b2]; omega, hns, fun _ => .inr ⟨dirE (joinB st.here c), by rw [e2, e3]; exact get_laid hz, rfl⟩⟩
    · rw [e2] at he ⊢
      rcases laid_mem.1 he with rfl | ⟨he, _⟩
      · exact hup.ext hx
      · exact (h.par e he).ext hx
    · rw [e2, b1]
      have : (dirE (joinB st.here c)).data.size = 0 := rfl
      have := h.light
      omega
  have hdir := h.here hne
  by_cases n1 : c = dotB
  · have e1 : stepN m st c rest = (0, { st with left := rest }) := by unfold stepN; rw [if_pos n1]
    rw [e1] at hns ⊢
    exact same _ rfl hns (fun _ => hdir)
  · by_cases n2 : c = ddB
    · have e1 : stepN m st c rest = (0, { st with here := parentB st.here, left := rest }) := by unfold stepN; rw [if_neg n1, if_pos n2]
      rw [e1] at hns ⊢
      refine same _ rfl hns (fun _ => ?_)
      show parentB st.here = _ ∨ _
      rcases hdir with hd | ⟨e, he, hk⟩
      · left; rw [hd]; exact parent_root
      · obtain ⟨m1, m2, _⟩ := get_mem he
        have := h.par e m1
        rw [m2] at this
        rcases this with h1 | h1
        · exact .inl (size_zero h1)
        · exact .inr h1
    · have e0 : stepN m st c rest = match getE st.L (joinB st.here c) with | none => absN m st (joinB st.here c) rest | some e => thereN m st (joinB st.here c) rest e := by unfold stepN; rw [if_neg n1, if_neg n2]; rfl
      cases hg : getE st.L (joinB st.here c) with
      | none =>
        rw [hg] at e0
        simp only at e0
        rcases hab : m.ab with _ | _ | k
        · rw [e0] at h0
          simp only [absN, hab] at h0
          exact absurd h0 (by decide)
        · refine hlay (by rw [e0]; simp only [absN, hab]) hg ?_
          rw [e0] at h0
          simp only [absN, hab] at h0
          exact h0
        · by_cases hr : rest = []
          · rw [e0] at hns ⊢
            simp only [absN, hab, if_pos hr] at hns ⊢
            exact same _ rfl hns (fun hq => absurd hr hq)
          · refine hlay (by rw [e0]; simp only [absN, hab, if_neg hr]) hg ?_
            rw [e0] at h0
            simp only [absN, hab, if_neg hr] at h0
            exact h0
      | some e =>
        rw [hg] at e0
        simp only at e0
        obtain ⟨he, _, _⟩ := get_mem hg
        have hkr := kind_range (h.right e he)
        rw [e0] at h0 hns ⊢
        unfold thereN at h0 hns ⊢
        by_cases h3 : isFile m e rest = true
        · rw [if_pos h3] at h0; simp at h0
        · rw [if_neg h3] at h0 hns ⊢
          by_cases h4 : isLink m e rest = true
          · rw [if_pos h4] at h0 hns ⊢
            unfold linkS at h0 hns ⊢
            by_cases h5 : st.hops = 40
            · rw [if_pos h5] at h0; simp at h0
            · rw [if_neg h5] at hns ⊢
              refine same _ rfl hns (fun _ => ?_)
              by_cases hs : slashed e.link = true
              · left; show (if slashed e.link then _ else _) = _; rw [if_pos hs]
              · rw [show (({ st with here := if slashed e.link then ⟨#[]⟩ else st.here, left := namesB e.link ++ rest, hops := st.hops + 1 } : St).here) = st.here from if_neg hs]
                exact hdir
          · rw [if_neg h4] at hns ⊢
            refine same _ rfl hns (fun hr => .inr ⟨e, hg, ?_⟩)
            have hr' : rest.isEmpty = false := by cases rest with | nil => exact absurd rfl hr | cons a b => rfl
            rcases hkr with hk | hk | hk
            · exact hk
            · exact absurd (by unfold isFile; rw [hk, hr']; simp) h3
            · exact absurd (by unfold isLink; rw [hk, hm]; simp) h4
variable {a1 a3 : Option Addr} {n1 n3 c1 c3 : Nat}
theorem docstepK_2 {N NV : Nat → Prop} (st : St) (c : ByteArray) (rest : List ByteArray) (lv : Value) (w : World) (hl : st.left = c :: rest) (hv : LeftB N w lv st.left) (hEF : EntsF NV w (.slice a1 st.L.length c1) st.L) (hI : WInv st) {B : Nat} (hG : Good B st) (hB : B ≤ 1073741824) :
    Calls Tryz.prog 52 #[.agg (wk8 (.slice a1 st.L.length c1) st.here lv st.hops (.slice a3 n3 c3) false ⟨#[]⟩ 0), .int .i64 2] w (DocPostK N NV w (.slice a3 n3 c3) ⟨1, true, false⟩ st c rest) := by
  obtain ⟨a, cap, g, o, rfl, ha, hcap, hcm, hc⟩ := hv
  have hcz : c.size ≤ B := hG.ps c (by rw [hl]; simp)
  have hln := hG.ln
  have hlen := hI.few
  have hR := hI.right
  have hEv := hEF.ents
  obtain ⟨cs1, cs2⟩ := hI.nosl c (by rw [hl]; simp)
  have hup := hI.up hl
  have hput := fun hg => put_dir (p := joinB st.here c) hg hI.light hup
  have hmay := may_check (q := st.here) cs1 cs2
  rw [hl] at ha hcap hc hln ⊢
  obtain ⟨rfl, hNg⟩ := ha (by simp)
  rw [List.length_cons] at hcap hln ⊢
  have hh := hG.hh
  have hs := hG.hs
  have hjs := join_size st.here c
  have hLl : st.L.length ≤ 1073741824 := by omega
  by_cases h1 : c = dotB
  · subst h1
    refine (docstep_dot_k 2 ⟨1, true, false⟩ g o cap st rest w hcap hcm hc).mono (fun e w' h => doc_k h hNg hEF (fun _ => ?_))
    unfold stepN; rw [if_pos rfl]
  · by_cases h2 : c = ddB
    · subst h2
      refine (docstep_dd_k 2 ⟨1, true, false⟩ g o cap st rest w hcap hcm hc hG.hs).mono (fun e w' h => doc_k h hNg hEF (fun _ => ?_))
      unfold stepN; rw [if_neg h1, if_pos rfl]
    · have hF : Far st c := ⟨h1, h2, hG.hs, by omega⟩
      cases hge : getE st.L (joinB st.here c) with
      | none =>
        have hz := join_ne (a := st.here) cs2
        refine Calls.mono (R := DocPostK (fun k => k = g) NV w (.slice a3 n3 c3) ⟨1, true, false⟩ st c rest) ?_ (fun e w' h => ?_)
        · have hp := hput hge
          rw [← hmay] at hp
          have hfn : st.L.find? (pathIs (dirE (joinB st.here c)).path) = none := by
            have := hge
            unfold getE at this
            rw [if_neg hz] at this
            exact this
          have hwl := wth_eq hI.order hfn
          by_cases hm : mayN c (joinB st.here c) = 0
          · have hck : checkN (joinB st.here c) = 0 := by rw [← hmay]; exact hm
            rw [if_neg (by simpa using hm)] at hp
            have hjz : (joinB st.here c).size ≤ 1048576 := by have := (check_facts hck).2.1; omega
            by_cases h4 : 4096 ≤ st.L.length
            · rw [if_pos h4] at hp
              exact docstep_many_2 g o cap st c rest w hcap hcm hc hF hEF hLl hge hz (by omega) (by omega) (.inl rfl) hm h4 hp
            · rw [if_neg h4] at hp
              refine docstep_lay_2 g o cap st c rest w hcap hcm hc hF hEF hLl hge hz (by omega) hjz (.inl rfl) hm (by omega) (fun x hx => by have := wrong_path (hR x hx); omega) ?_
              show layS st (joinB st.here c) rest = _
              unfold layS
              rw [hp, hwl]
          · refine docstep_may_2 g o cap st c rest w hcap hcm hc hF hEF hLl hge hz (by omega) (by omega) hm ?_
            show putAll st.L (dirE (joinB st.here c)) = _
            rw [hp, if_pos hm]
        · obtain ⟨hb, tv, hh', lv', ho, dn, an, he, hlv, htv, him⟩ := h
          refine ⟨hb, tv, hh', lv', ho, dn, an, he, hlv, htv, fun h0 => ?_⟩
          obtain ⟨i1, i2⟩ := him h0
          refine ⟨i1, ?_⟩
          rcases i2 with ⟨q1, q2, q3, q4, q5⟩ | i2
          · exact .inl ⟨q1, q2, q3, q4, q5.keep (fun k hk _ => ⟨by rcases hk with rfl | hk; exact .inl hNg; exact .inr hk, rfl⟩)⟩
          · exact .inr i2
      | some e =>
        obtain ⟨he, _, _⟩ := get_mem hge
        have hw := hR e he
        have hkr := kind_range hw
        have hsame : (stepN ⟨1, true, false⟩ st c rest).1 = 0 → (stepN ⟨1, true, false⟩ st c rest).2.L = st.L := fun _ => by
          unfold stepN
          rw [if_neg h1, if_neg h2, hge]
          simp only [thereN]
          split
          · rfl
          · split
            · unfold linkS; split <;> rfl
            · rfl
        have conv : Calls Tryz.prog 52 #[.agg (wk8 (.slice a1 st.L.length c1) st.here (.slice (some ⟨g, o, none⟩) (rest.length + 1) cap) st.hops (.slice a3 n3 c3) false ⟨#[]⟩ 0), .int .i64 2] w (DocPost g w (.slice a1 st.L.length c1) (.slice a3 n3 c3) ⟨1, true, false⟩ st c rest) → Calls Tryz.prog 52 #[.agg (wk8 (.slice a1 st.L.length c1) st.here (.slice (some ⟨g, o, none⟩) (rest.length + 1) cap) st.hops (.slice a3 n3 c3) false ⟨#[]⟩ 0), .int .i64 2] w (DocPostK N NV w (.slice a3 n3 c3) ⟨1, true, false⟩ st c rest) := fun h => h.mono (fun e w' h => doc_k h hNg hEF hsame)
        refine conv ?_
        rcases hkr with hk | hk | hk
        · exact docstep_dir_2 g o cap st c rest w hcap hcm hc hF hEv hLl e hge hk
        · exact docstep_13_2 g o cap st c rest w hcap hcm hc hF hEv hLl e hge hk
        · obtain ⟨l1, l2⟩ := wrong_link hw hk
          by_cases h40 : st.hops = 40
          · exact docstep_12_2 g o cap st c rest w hcap hcm hc hF hEv hLl e hge hk h40
          · exact docstep_link_2 g o cap st c rest w hcap hcm hc hF hEv hLl e hge hk h40 hh l1 l2 (by omega)
theorem docstepK_3 {N NV : Nat → Prop} (st : St) (c : ByteArray) (rest : List ByteArray) (lv : Value) (w : World) (hl : st.left = c :: rest) (hv : LeftB N w lv st.left) (hEF : EntsF NV w (.slice a1 st.L.length c1) st.L) (hI : WInv st) {B : Nat} (hG : Good B st) (hB : B ≤ 1073741824) :
    Calls Tryz.prog 52 #[.agg (wk8 (.slice a1 st.L.length c1) st.here lv st.hops (.slice a3 n3 c3) false ⟨#[]⟩ 0), .int .i64 3] w (DocPostK N NV w (.slice a3 n3 c3) ⟨2, false, false⟩ st c rest) := by
  obtain ⟨a, cap, g, o, rfl, ha, hcap, hcm, hc⟩ := hv
  have hcz : c.size ≤ B := hG.ps c (by rw [hl]; simp)
  have hln := hG.ln
  have hlen := hI.few
  have hR := hI.right
  have hEv := hEF.ents
  obtain ⟨cs1, cs2⟩ := hI.nosl c (by rw [hl]; simp)
  have hup := hI.up hl
  have hput := fun hg => put_dir (p := joinB st.here c) hg hI.light hup
  have hmay := may_check (q := st.here) cs1 cs2
  rw [hl] at ha hcap hc hln ⊢
  obtain ⟨rfl, hNg⟩ := ha (by simp)
  rw [List.length_cons] at hcap hln ⊢
  have hh := hG.hh
  have hs := hG.hs
  have hjs := join_size st.here c
  have hLl : st.L.length ≤ 1073741824 := by omega
  by_cases h1 : c = dotB
  · subst h1
    refine (docstep_dot_k 3 ⟨2, false, false⟩ g o cap st rest w hcap hcm hc).mono (fun e w' h => doc_k h hNg hEF (fun _ => ?_))
    unfold stepN; rw [if_pos rfl]
  · by_cases h2 : c = ddB
    · subst h2
      refine (docstep_dd_k 3 ⟨2, false, false⟩ g o cap st rest w hcap hcm hc hG.hs).mono (fun e w' h => doc_k h hNg hEF (fun _ => ?_))
      unfold stepN; rw [if_neg h1, if_pos rfl]
    · have hF : Far st c := ⟨h1, h2, hG.hs, by omega⟩
      cases hge : getE st.L (joinB st.here c) with
      | none =>
        have hz := join_ne (a := st.here) cs2
        refine Calls.mono (R := DocPostK (fun k => k = g) NV w (.slice a3 n3 c3) ⟨2, false, false⟩ st c rest) ?_ (fun e w' h => ?_)
        · have hp := hput hge
          rw [← hmay] at hp
          have hfn : st.L.find? (pathIs (dirE (joinB st.here c)).path) = none := by
            have := hge
            unfold getE at this
            rw [if_neg hz] at this
            exact this
          have hwl := wth_eq hI.order hfn
          by_cases hm : mayN c (joinB st.here c) = 0
          · have hck : checkN (joinB st.here c) = 0 := by rw [← hmay]; exact hm
            rw [if_neg (by simpa using hm)] at hp
            have hjz : (joinB st.here c).size ≤ 1048576 := by have := (check_facts hck).2.1; omega
            by_cases hr : rest = []
            · refine docstep_end_3 g o cap st c rest w hcap hcm hc hF hEF hLl hge hz (by omega) (by omega) hm hr ?_
              simp only [absN, if_pos hr]
              rw [hck]
            · have hrl : NotEnd 3 rest.length := .inr ⟨rfl, fun e => hr (List.eq_nil_of_length_eq_zero e)⟩
              by_cases h4 : 4096 ≤ st.L.length
              · rw [if_pos h4] at hp
                refine docstep_many_3 g o cap st c rest w hcap hcm hc hF hEF hLl hge hz (by omega) (by omega) hrl hm h4 ?_
                simp only [absN, if_neg hr]
                exact hp
              · rw [if_neg h4] at hp
                refine docstep_lay_3 g o cap st c rest w hcap hcm hc hF hEF hLl hge hz (by omega) hjz hrl hm (by omega) (fun x hx => by have := wrong_path (hR x hx); omega) ?_
                simp only [absN, if_neg hr]
                unfold layS
                rw [hp, hwl]
          · refine docstep_may_3 g o cap st c rest w hcap hcm hc hF hEF hLl hge hz (by omega) (by omega) hm ?_
            unfold absN
            by_cases hr : rest = []
            · simp only [if_pos hr]; exact hmay.symm
            · simp only [if_neg hr]
              show putAll st.L (dirE (joinB st.here c)) = _
              rw [hp, if_pos hm]
        · obtain ⟨hb, tv, hh', lv', ho, dn, an, he, hlv, htv, him⟩ := h
          refine ⟨hb, tv, hh', lv', ho, dn, an, he, hlv, htv, fun h0 => ?_⟩
          obtain ⟨i1, i2⟩ := him h0
          refine ⟨i1, ?_⟩
          rcases i2 with ⟨q1, q2, q3, q4, q5⟩ | i2
          · exact .inl ⟨q1, q2, q3, q4, q5.keep (fun k hk _ => ⟨by rcases hk with rfl | hk; exact .inl hNg; exact .inr hk, rfl⟩)⟩
          · exact .inr i2
      | some e =>
        obtain ⟨he, _, _⟩ := get_mem hge
        have hw := hR e he
        have hkr := kind_range hw
        have hsame : (stepN ⟨2, false, false⟩ st c rest).1 = 0 → (stepN ⟨2, false, false⟩ st c rest).2.L = st.L := fun _ => by
          unfold stepN
          rw [if_neg h1, if_neg h2, hge]
          simp only [thereN]
          split
          · rfl
          · split
            · unfold linkS; split <;> rfl
            · rfl
        have conv : Calls Tryz.prog 52 #[.agg (wk8 (.slice a1 st.L.length c1) st.here (.slice (some ⟨g, o, none⟩) (rest.length + 1) cap) st.hops (.slice a3 n3 c3) false ⟨#[]⟩ 0), .int .i64 3] w (DocPost g w (.slice a1 st.L.length c1) (.slice a3 n3 c3) ⟨2, false, false⟩ st c rest) → Calls Tryz.prog 52 #[.agg (wk8 (.slice a1 st.L.length c1) st.here (.slice (some ⟨g, o, none⟩) (rest.length + 1) cap) st.hops (.slice a3 n3 c3) false ⟨#[]⟩ 0), .int .i64 3] w (DocPostK N NV w (.slice a3 n3 c3) ⟨2, false, false⟩ st c rest) := fun h => h.mono (fun e w' h => doc_k h hNg hEF hsame)
        refine conv ?_
        rcases hkr with hk | hk | hk
        · exact docstep_dir_3 g o cap st c rest w hcap hcm hc hF hEv hLl e hge hk
        · by_cases hr : rest = []
          · exact docstep_file_3 g o cap st c rest w hcap hcm hc hF hEv hLl e hge hk hr
          · exact docstep_13_3 g o cap st c rest w hcap hcm hc hF hEv hLl e hge hk hr
        · obtain ⟨l1, l2⟩ := wrong_link hw hk
          by_cases h40 : st.hops = 40
          · exact docstep_12_3 g o cap st c rest w hcap hcm hc hF hEv hLl e hge hk h40
          · exact docstep_link_3 g o cap st c rest w hcap hcm hc hF hEv hLl e hge hk h40 hh l1 l2 (by omega)
end Go.Proofs.YtcefgnjgcnboeaaGreatDoor

namespace Go.Proofs.YtcefgnjgcnboeaaGreatDoor
open Go Go.RowKit

/-- What Go comes to where the list may change. -/
def GoPostK (w : World) (NV : Nat → Prop) (L : List Ent) (r : Int × St × List ByteArray) (e : Ending) (w' : World) : Prop :=
  Below w.heap.size w w' ∧ ∃ (tv : Value) (hh : ByteArray) (lv : Value) (ho : Nat) (trv : Value) (dn : Bool) (an : ByteArray), e = .returned (.agg (wk8 tv hh lv ho trv dn an r.1)) ∧ an = ansB r ∧ (∃ a n c, trv = .slice a n c) ∧ (∃ a n c, lv = .slice a n c) ∧ EntsF (fun k => NV k ∨ w.heap.size ≤ k) w' tv (treeB L r)
/-- Other blocks than those of the loop. -/
def NK (b6 b7 : Nat) (trv : Value) (k : Nat) : Prop := k ≠ b6 ∧ k ≠ b7 ∧ trv.ownBlock ≠ some k
/-- The loop's state. -/
structure GoAtK (NV : Nat → Prop) (w wr : World) (b6 b7 : Nat) (v : Value) (L : List Ent) (m : Mn) (way : ByteArray) (B : Nat) (st : St) (lv trv : Value) (ts : List ByteArray) (f : Nat) : Prop where
  k7 : wr.heap[b7]? = some (.cells (wk8 v st.here lv st.hops trv false ⟨#[]⟩ 0) 81)
  k6 : wr.heap[b6]? = some (.cells zw8 81 (0, 0))
  left : LeftB (NK b6 b7 trv) wr lv st.left
  row : wr.ownsRow (b6 + 1) 9 1 trv ts.length (tvs ts)
  off : trv.ownBlock ≠ some b7
  ents : EntsF (fun k => NK b6 b7 trv k ∧ (NV k ∨ w.heap.size ≤ k)) wr v st.L
  inv : WInv st
  good : Good B st
  fuel : msr st < f
  e1 : (goN m (start L way)).1 = (goF m f st).1
  e2 : (goN m (start L way)).2.1 = (goF m f st).2.1
  short : ts.length + msr st ≤ 2 * B + 9000
  bel : Below w.heap.size w wr
theorem msr8_eqK {NV : Nat → Prop} {w wr : World} {b6 b7 : Nat} {v : Value} {L : List Ent} {m : Mn} {way : ByteArray} {B : Nat} {st : St} {lv trv : Value} {ts : List ByteArray} {f : Nat} (h : GoAtK NV w wr b6 b7 v L m way B st lv trv ts f) : msr8 b7 wr = msr st := by
  obtain ⟨a, c, g, o, rfl, _⟩ := h.left
  unfold msr8 msr
  rw [w8_cells (j := 2) (v := .slice a st.left.length c) h.k7 rfl, w8_cells (j := 3) (v := .int .i64 st.hops) h.k7 rfl]
  simp
set_option maxRecDepth 100000 in
set_option maxHeartbeats 8000000 in
theorem go_k2 (way : ByteArray) (L : List Ent) (a1 : Option Addr) (c1 : Nat) (w : World) {NV : Nat → Prop} (hEv : EntsF NV w (.slice a1 L.length c1) L) (hI0 : WInv (start L way)) (hw : way.size ≤ 1073741824) :
    Calls Tryz.prog 34 #[.slice a1 L.length c1, .string way, .int .i64 2] w (GoPostK w NV L (goN ⟨1, true, false⟩ (start L way))) := by
  obtain ⟨i0, hi, hz0, hz1, hz2⟩ := info_parts info_str'
  have hP := fun W => pieces_r way W (by omega)
  have hbA : Below w.heap.size w (w.alloc (.cells zw8 81)) := (Below.refl _ _).alloc (Nat.le_refl _) _
  go_enter Tryz.func34, Tryz.ntmps34
  go_wp2_with fail
  refine (hP _).mono ?_
  rintro e w1 ⟨u1, rfl, hu1, hb1⟩
  obtain ⟨q1, q2, rfl⟩ := row_form hu1
  have HB1 : Hid (Below w.heap.size w w1) := below_join hbA hb1
  have hs1 : w.heap.size + 1 ≤ w1.heap.size := by have := hb1.size; simpa using this
  have K6 : Hid (w1.heap[w.heap.size]? = some (.cells zw8 81 (0, 0))) := (hb1.block _ (by simp)).trans (World.alloc_heap_new w _)
  have hL0 : LeftB (fun k => w.heap.size + 1 ≤ k ∧ k < w1.heap.size) w1 (.slice q1 (namesB way).length q2) (namesB way) := by
    have h1 := leftB_of_owns (N := fun k => w.heap.size + 1 ≤ k) hu1 (fun k hk => by simpa using hk)
    exact h1.keep (fun k hk hl => ⟨⟨hk, hl⟩, rfl⟩)
  obtain ⟨b7, hb7⟩ : ∃ b7, b7 = w1.heap.size + 1 := ⟨_, rfl⟩
  have hst : GoAtK NV w ((w1.alloc (.cells #[.string ⟨#[]⟩] 9)).alloc (.cells (wk8 (.slice a1 L.length c1) ⟨#[]⟩ (.slice q1 (namesB way).length q2) 0 (.slice (some ⟨w1.heap.size, 0, none⟩) 1 1) false ⟨#[]⟩ 0) 81)) w.heap.size b7 (.slice a1 L.length c1) L ⟨1, true, false⟩ way (max way.size 100) (start L way) (.slice q1 (namesB way).length q2) (.slice (some ⟨w1.heap.size, 0, none⟩) 1 1) [⟨#[]⟩] (msr (start L way) + 1) := by
    have hbb : Below w1.heap.size w1 ((w1.alloc (.cells #[.string ⟨#[]⟩] 9)).alloc (.cells (wk8 (.slice a1 L.length c1) ⟨#[]⟩ (.slice q1 (namesB way).length q2) 0 (.slice (some ⟨w1.heap.size, 0, none⟩) 1 1) false ⟨#[]⟩ 0) 81)) := two_below _ _ _
    refine ⟨by rw [hb7]; exact new_two _ _ _ _, (hbb.block _ (by omega)).trans K6.out, hL0.keep (fun k hk hl => ⟨⟨by omega, by omega, by simp [Value.ownBlock]; omega⟩, hbb.block k hl⟩), ?_, by simp [Value.ownBlock]; omega, hEv.keep (fun k hk hl => ⟨⟨⟨by omega, by omega, by simp [Value.ownBlock]; omega⟩, .inl hk⟩, (below_join HB1.out hbb).block k hl⟩), hI0, start_good L way, Nat.lt_succ_self _, rfl, rfl, ?_, below_join HB1.out hbb⟩
    · exact World.ownsRow.alloc ⟨rfl, .inr ⟨w1.heap.size, 1, #[.string ⟨#[]⟩], rfl, by omega, World.alloc_heap_new w1 _, Nat.le_refl _, by unfold maxLen; omega, rfl, rfl⟩⟩ _
    · have := names_len way
      have := Nat.le_max_left way.size 100
      unfold msr start
      simp; omega
  have HST : Hid _ := hst
  have hB : max way.size 100 ≤ 1073741824 := by omega
  generalize max way.size 100 = B at *
  clear hb1 hbA hu1 hL0 K6 hP hst
  go_wp2
  rw [← hb7]
  have hb7a : w.heap.size + 2 ≤ b7 := by omega
  clear hb7
  go_loopw [] (fun wr => ∃ v st lv trv ts f, GoAtK NV w wr w.heap.size b7 v L ⟨1, true, false⟩ way B st lv trv ts f) (fun wr => msr8 b7 wr)
  case atStart => exact ⟨_, _, _, _, _, _, HST.out⟩
  case round =>
    obtain ⟨vv, st, lv, trv, ts, f, hGA⟩ := hrel
    obtain ⟨x1, x2, x3, x4, rfl, hxe⟩ := id hGA.ents
    clear hxe
    have HGA : Hid (GoAtK NV w wr w.heap.size b7 (.slice x1 st.L.length x2) L ⟨1, true, false⟩ way B st lv trv ts f) := hGA
    have hMS := msr8_eqK hGA
    have h67 : w.heap.size ≠ b7 := by omega
    obtain ⟨t1, t2, rfl⟩ := row_form hGA.row
    obtain ⟨l1, l2, l3, l4, rfl, hclr⟩ := id hGA.left
    clear hclr
    have c2 : wr.cell? ⟨b7, 2, none⟩ = some (.slice l1 st.left.length l2) := w8_cells hGA.k7 rfl
    have c1' : wr.cell? ⟨b7, 1, none⟩ = some (.string st.here) := w8_cells hGA.k7 rfl
    have k7 := hGA.k7
    have hlt7 : b7 < wr.heap.size := (Array.getElem?_eq_some_iff.1 k7).1
    cases hl : st.left with
    | nil =>
      have hr0 : goF ⟨1, true, false⟩ f st = (0, st, []) := goF_nil hl
      have HR : Hid ((goN ⟨1, true, false⟩ (start L way)).1 = 0 ∧ ansB (goN ⟨1, true, false⟩ (start L way)) = st.here ∧ treeB L (goN ⟨1, true, false⟩ (start L way)) = st.L) := by
        have e1 := hGA.e1
        have e2 := hGA.e2
        rw [hr0] at e1 e2
        exact ⟨e1, by unfold ansB; rw [if_pos e1, e2], by unfold treeB; rw [if_pos e1, e2]⟩
      have hk6 : ∀ w3, Below wr.heap.size wr w3 → w3.heap[w.heap.size]? = some (.cells zw8 81 (0, 0)) := fun w3 hb => (hb.block _ (Array.getElem?_eq_some_iff.1 HGA.out.k6).1).trans HGA.out.k6
      rw [hl] at c2 k7
      clear hGA hr0 hMS HST
      go_wp2_with (first
        | (refine wpList_load_row rfl 81 (.tmp 7) rfl b7 rfl 81 _ (0, 0) _ k7 Tryz.underlying81 rfl (info_w8 _ rfl) ?_)
        | (go_at_call 53; refine (ended_r _ _).mono ?_; rintro e w3 ⟨rfl, hb3⟩; have hk63 := hk6 _ hb3)
        | (refine wpList_store_row rfl 81 (.tmp 6) (.tmp 46) rfl w.heap.size (wk8 (.slice x1 st.L.length x2) st.here (.slice l1 ([] : List ByteArray).length l2) st.hops (.slice t1 ts.length t2) true st.here 0) rfl rfl 81 zw8 hk63 (info_w8 _ rfl) rfl (one_w8 _ _ _ _ _ _ _ _ _ _ _ _ _ _) ?_))
      refine bodyPost_ret (results_cell_row rfl _ _ w.heap.size 81 _ (0, 0) _ rfl (setRow_heap _ w.heap.size _ _ _ (0, 0) hk63) Tryz.underlying81 rfl (info_w8 _ rfl)) rfl ?_
      refine ⟨below_setRow' (HGA.out.bel.trans (hb3.mono HGA.out.bel.size)) (Nat.le_refl _) _, _, st.here, _, st.hops, _, true, st.here, by rw [HR.out.1], HR.out.2.1.symm, ⟨_, _, _, rfl⟩, ⟨_, _, _, rfl⟩, ?_⟩
      rw [HR.out.2.2]
      exact HGA.out.ents.keep (fun k hk hl => ⟨hk.2, (setRow_other _ _ _ _ hk.1.1).trans (hb3.block k hl)⟩)
    | cons c rest =>
      have hln := hGA.good.ln
      rw [hl, List.length_cons] at hln
      have hhh := hGA.good.hh
      have hDS := docstepK_2 (a1 := x1) (c1 := x2) (a3 := t1) (n3 := ts.length) (c3 := t2) st c rest (.slice l1 st.left.length l2) wr hl hGA.left hGA.ents hGA.inv hGA.good (by omega)
      rw [hl, List.length_cons] at c2 k7 hDS
      have hpos : (0 : Int) < ((rest.length + 1 : Nat) : Int) := by omega
      have hk7 : ∀ w3, Below wr.heap.size wr w3 → w3.heap[b7]? = some (.cells (wk8 (.slice x1 st.L.length x2) st.here (.slice l1 (rest.length + 1) l2) st.hops (.slice t1 ts.length t2) false ⟨#[]⟩ 0) 81) := fun w3 hb => (hb.block _ hlt7).trans k7
      clear hGA HST
      go_wp2_with (first
        | (refine wpList_load_row rfl 81 (.tmp 7) rfl b7 rfl 81 (wk8 (.slice x1 st.L.length x2) st.here (.slice l1 (rest.length + 1) l2) st.hops (.slice t1 ts.length t2) false ⟨#[]⟩ 0) (0, 0) _ k7 Tryz.underlying81 rfl (info_w8 _ rfl) ?_)
        | fail)
      with_reducible refine hDS.mono ?_
      rintro e w3 ⟨hb3, tv3, hh3, lv3, ho3, dn3, an3, rfl, ⟨m1, m2, m3, rfl⟩, ⟨y1, y2, y3, rfl⟩, him3⟩
      have hk73 := hk7 _ hb3
      have HB3 : Hid (Below wr.heap.size wr w3) := hb3
      have HIM : Hid _ := him3
      have hk63 : w3.heap[w.heap.size]? = some (.cells zw8 81 (0, 0)) := (hb3.block _ (Array.getElem?_eq_some_iff.1 HGA.out.k6).1).trans HGA.out.k6
      have hs3 := hb3.size
      have hsw := HGA.out.bel.size
      clear hDS hk7 hb3 him3 k7 c2 c1'
      by_cases h0 : (stepN ⟨1, true, false⟩ st c rest).1 = 0
      · have hGn := step_good HGA.out.good hl HGA.out.inv.right h0
        have hKn := winv_step (m := ⟨1, true, false⟩) rfl HGA.out.inv hl h0
        have hMn := (step_msr _ st c rest hl (right_short HGA.out.inv.right) HGA.out.good.hh h0).1
        obtain ⟨f, rfl⟩ : ∃ g, f = g + 1 := ⟨f - 1, by have := HGA.out.fuel; omega⟩
        have hgo := goF_ok (f := f) hl h0
        have HE : Hid ((goN ⟨1, true, false⟩ (start L way)).1 = (goF ⟨1, true, false⟩ f (stepN ⟨1, true, false⟩ st c rest).2).1 ∧ (goN ⟨1, true, false⟩ (start L way)).2.1 = (goF ⟨1, true, false⟩ f (stepN ⟨1, true, false⟩ st c rest).2).2.1) := by
          have e1 := HGA.out.e1
          have e2 := HGA.out.e2
          rw [hgo] at e1 e2
          exact ⟨e1, e2⟩
        have HGn : Hid (Good B (stepN ⟨1, true, false⟩ st c rest).2 ∧ WInv (stepN ⟨1, true, false⟩ st c rest).2 ∧ msr (stepN ⟨1, true, false⟩ st c rest).2 < msr st) := ⟨hGn.1, hKn, hMn⟩
        have HMS : Hid (msr8 b7 wr = msr st) := hMS
        obtain ⟨hEn, hcase⟩ := HIM.out h0
        have HEN : Hid (EntsF (fun k => (NK w.heap.size b7 (.slice t1 ts.length t2) k ∧ (NV k ∨ w.heap.size ≤ k)) ∨ wr.heap.size ≤ k) w3 (.slice y1 y2 y3) (stepN ⟨1, true, false⟩ st c rest).2.L) := hEn
        rw [h0]
        clear HIM hGn hKn hMn hgo h0 hEn
        rcases hcase with ⟨rfl, rfl, rfl, rfl, hLB⟩ | ⟨rfl, rfl, hle⟩
        · have HLB : Hid (LeftB (fun k => NK w.heap.size b7 (.slice t1 ts.length t2) k ∨ wr.heap.size ≤ k) w3 (.slice m1 m2 m3) (stepN ⟨1, true, false⟩ st c rest).2.left) := hLB
          clear hLB
          generalize hst' : (stepN ⟨1, true, false⟩ st c rest).2 = s2 at *

          have hS7 := setRow_heap w3 b7 _ (wk8 (.slice y1 y2 y3) s2.here (.slice m1 m2 m3) s2.hops (.slice t1 ts.length t2) false ⟨#[]⟩ 0) _ (0, 0) hk73
          have hS6 : (w3.setRow b7 (wk8 (.slice y1 y2 y3) s2.here (.slice m1 m2 m3) s2.hops (.slice t1 ts.length t2) false ⟨#[]⟩ 0)).heap[w.heap.size]? = some (.cells zw8 81 (0, 0)) := (setRow_other _ _ _ _ h67).trans hk63
          have hTrow : (w3.setRow b7 (wk8 (.slice y1 y2 y3) s2.here (.slice m1 m2 m3) s2.hops (.slice t1 ts.length t2) false ⟨#[]⟩ 0)).ownsRow (w.heap.size + 1) 9 1 (.slice t1 ts.length t2) ts.length (tvs ts) := row_loc HGA.out.row (fun k hk => (setRow_other _ _ _ _ (fun e => HGA.out.off (by rw [← e]; exact hk))).trans (HB3.out.block k (HGA.out.row.lt k hk).2))
          have HSS : Hid ((w3.setRow b7 (wk8 (.slice y1 y2 y3) s2.here (.slice m1 m2 m3) s2.hops (.slice t1 ts.length t2) false ⟨#[]⟩ 0)).heap.size = w3.heap.size) := by unfold Hid; simp [World.setRow]
          have HBS : Hid (Below w.heap.size w (w3.setRow b7 (wk8 (.slice y1 y2 y3) s2.here (.slice m1 m2 m3) s2.hops (.slice t1 ts.length t2) false ⟨#[]⟩ 0))) := below_setRow' (HGA.out.bel.trans (HB3.out.mono hsw)) (by omega) _
          have d7 : (w3.setRow b7 (wk8 (.slice y1 y2 y3) s2.here (.slice m1 m2 m3) s2.hops (.slice t1 ts.length t2) false ⟨#[]⟩ 0)).cell? ⟨b7, 7, none⟩ = some (.int .i64 0) := w8_cells hS7 rfl
          have d1 : (w3.setRow b7 (wk8 (.slice y1 y2 y3) s2.here (.slice m1 m2 m3) s2.hops (.slice t1 ts.length t2) false ⟨#[]⟩ 0)).cell? ⟨b7, 1, none⟩ = some (.string s2.here) := w8_cells hS7 rfl
          have d5 : (w3.setRow b7 (wk8 (.slice y1 y2 y3) s2.here (.slice m1 m2 m3) s2.hops (.slice t1 ts.length t2) false ⟨#[]⟩ 0)).cell? ⟨b7, 5, none⟩ = some (.bool false) := w8_cells hS7 rfl
          have d6 : (w3.setRow b7 (wk8 (.slice y1 y2 y3) s2.here (.slice m1 m2 m3) s2.hops (.slice t1 ts.length t2) false ⟨#[]⟩ 0)).cell? ⟨b7, 6, none⟩ = some (.string ⟨#[]⟩) := w8_cells hS7 rfl
          have d4 : (w3.setRow b7 (wk8 (.slice y1 y2 y3) s2.here (.slice m1 m2 m3) s2.hops (.slice t1 ts.length t2) false ⟨#[]⟩ 0)).cell? ⟨b7, 4, none⟩ = some (.slice t1 ts.length t2) := w8_cells hS7 rfl
          have HOT : Hid (∀ k, k ≠ b7 → (w3.setRow b7 (wk8 (.slice y1 y2 y3) s2.here (.slice m1 m2 m3) s2.hops (.slice t1 ts.length t2) false ⟨#[]⟩ 0)).heap[k]? = w3.heap[k]?) := fun k hk => setRow_other _ _ _ _ hk
          have hlenT : ts.length ≤ 4398046511104 := by have := HGA.out.short; omega
          have hoff := HGA.out.off
          have hb7s : b7 < (w3.setRow b7 (wk8 (.slice y1 y2 y3) s2.here (.slice m1 m2 m3) s2.hops (.slice t1 ts.length t2) false ⟨#[]⟩ 0)).heap.size := by rw [HSS.out]; omega
          clear hl hMS
          generalize hWS : (w3.setRow b7 (wk8 (.slice y1 y2 y3) s2.here (.slice m1 m2 m3) s2.hops (.slice t1 ts.length t2) false ⟨#[]⟩ 0)) = WS at *
          go_wp2_with (first
            | (refine wpList_store_row rfl 81 (.tmp 7) (.tmp 20) rfl b7 (wk8 (.slice y1 y2 y3) s2.here (.slice m1 m2 m3) s2.hops (.slice t1 ts.length t2) false ⟨#[]⟩ 0) rfl rfl 81 _ hk73 (info_w8 _ rfl) rfl (one_w8 _ _ _ _ _ _ _ _ _ _ _ _ _ _) ?_; rw [hWS])
            | (at_builtin; refine wpList_append_own_at _ rfl _ _ 38 rfl (w.heap.size + 1) 9 i0 (.string ⟨#[]⟩) 1 16 Tryz.underlying38 hi hz0 hz1 hz2 rfl (by decide) _ _ _ rfl (hTrow.alloc _) ⟨WS.heap.size, 0, none⟩ 1 1 [.string s2.here] rfl rfl (cell_one_new _ _ _) (by simp [Value.oneCell']) (by unfold maxLen; omega) (by omega) (by rw [World.size_alloc]; have := HSS.out; omega) ?_; intro v5 w5 hown5 hgrow5 hcap5 hat5; obtain ⟨g5, p5, rfl⟩ := ownsRow_succ hown5; have k75 : w5.heap[b7]? = some (.cells (wk8 (.slice y1 y2 y3) s2.here (.slice m1 m2 m3) s2.hops (.slice t1 ts.length t2) false ⟨#[]⟩ 0) 81) := (hgrow5.block b7 (by rw [World.size_alloc]; omega) (fun e => hoff e.symm)).trans ((Below.heap_alloc WS _ b7 hb7s).trans hS7); have x4 : w5.cell? ⟨b7, 4, none⟩ = some (.slice t1 ts.length t2) := w8_cells k75 rfl; have y4 : w5.frozen? ⟨b7, 4, none⟩ = false := (by simp [World.frozen?, k75]); have x5 : (w5.setCell ⟨b7, 4, none⟩ (.slice (some ⟨g5, 0, none⟩) (ts.length + 1) p5)).cell? ⟨b7, 5, none⟩ = some (.bool false) := w8_cells (set_block k75 _) rfl))
          have hsS := HSS.out
          have hw5 : w3.heap.size + 1 ≤ w5.heap.size := by have := hgrow5.size; rw [World.size_alloc] at this; omega
          have hne5 : ∀ k, k < w3.heap.size → k ≠ b7 → (Value.slice t1 ts.length t2).ownBlock ≠ some k → (w5.setCell ⟨b7, 4, none⟩ (.slice (some ⟨g5, 0, none⟩) (ts.length + 1) p5)).heap[k]? = w3.heap[k]? := fun k hk h1 h2 =>
            (Below.heap_setCell _ _ _ _ h1).trans ((hgrow5.block k (by simp; omega) (fun e => h2 e.symm)).trans ((Below.heap_alloc WS _ k (by omega)).trans (HOT.out k h1)))
          have hg5 : ∀ k, k < w3.heap.size → (Value.slice t1 ts.length t2).ownBlock ≠ some k → (Value.slice (some ⟨g5, 0, none⟩) (ts.length + 1) p5).ownBlock ≠ some k := fun k hk h1 h2 => by
            rcases hat5 with h | h
            · exact h1 (h.symm.trans h2)
            · rw [h] at h2; simp at h2; omega
          have hb75 : (Value.slice (some ⟨g5, 0, none⟩) (ts.length + 1) p5).ownBlock ≠ some b7 := hg5 b7 (by omega) hoff
          have hb65 : (Value.slice (some ⟨g5, 0, none⟩) (ts.length + 1) p5).ownBlock ≠ some w.heap.size := fun e => by have := (hown5.lt _ e).1; omega
          have h6t : (Value.slice t1 ts.length t2).ownBlock ≠ some w.heap.size := fun e => by have := (HGA.out.row.lt _ e).1; omega
          have hB5 : Below w.heap.size w (w5.setCell ⟨b7, 4, none⟩ (.slice (some ⟨g5, 0, none⟩) (ts.length + 1) p5)) := ((HBS.out.alloc (by omega) _).grown hgrow5 (by simp; omega) (fun j hj => by have := (hTrow.lt j hj).1; omega)).setCell (p := ⟨b7, 4, none⟩) (show w.heap.size ≤ b7 by omega) _
          have hnk : ∀ k, (NK w.heap.size b7 (.slice t1 ts.length t2) k ∨ wr.heap.size ≤ k) → k < w3.heap.size → NK w.heap.size b7 (.slice (some ⟨g5, 0, none⟩) (ts.length + 1) p5) k ∧ (w5.setCell ⟨b7, 4, none⟩ (.slice (some ⟨g5, 0, none⟩) (ts.length + 1) p5)).heap[k]? = w3.heap[k]? := fun k hk hl => by
            have hk2 : k ≠ w.heap.size ∧ k ≠ b7 ∧ (Value.slice t1 ts.length t2).ownBlock ≠ some k := by
              rcases hk with hk | hk
              · exact hk
              · exact ⟨by omega, by omega, fun e => by have := (HGA.out.row.lt k e).2; omega⟩
            exact ⟨⟨hk2.1, hk2.2.1, hg5 k hl hk2.2.2⟩, hne5 k hl hk2.2.1 hk2.2.2⟩
          have hGA2 : GoAtK NV w (w5.setCell ⟨b7, 4, none⟩ (.slice (some ⟨g5, 0, none⟩) (ts.length + 1) p5)) w.heap.size b7 (.slice y1 y2 y3) L ⟨1, true, false⟩ way B s2 (.slice m1 m2 m3) (.slice (some ⟨g5, 0, none⟩) (ts.length + 1) p5) (ts ++ [s2.here]) f := by
            refine ⟨set_block k75 _, (hne5 _ (by omega) h67 h6t).trans hk63, HLB.out.keep hnk, ?_, hb75, HEN.out.keep (fun k hk hl => ⟨⟨(hnk k (hk.imp And.left id) hl).1, by rcases hk with hk | hk; exact hk.2; exact .inr (by omega)⟩, (hnk k (hk.imp And.left id) hl).2⟩), HGn.out.2.1, HGn.out.1, by have := HGn.out.2.2; have := HGA.out.fuel; omega, HE.out.1, HE.out.2, by rw [List.length_append]; have := HGn.out.2.2; have := HGA.out.short; simp; omega, hB5⟩
            have := hown5.kept (grown_set w5 b7 4 (.slice (some ⟨g5, 0, none⟩) (ts.length + 1) p5)) (.inr hb75)
            rw [List.length_append, tvs_append]
            simpa [tvs] using this
          go_roundw
          case rel => exact ⟨_, _, _, _, _, _, hGA2⟩
          case measure => rw [msr8_eqK hGA2, HMS.out]; exact HGn.out.2.2
        · have HLE : Hid ((stepN ⟨1, true, false⟩ st c rest).2.left = []) := hle
          clear hle
          generalize hst' : (stepN ⟨1, true, false⟩ st c rest).2 = s2 at *
          have hS7 := setRow_heap w3 b7 _ (wk8 (.slice y1 y2 y3) hh3 (.slice m1 m2 m3) ho3 (.slice t1 ts.length t2) true s2.here 0) _ (0, 0) hk73
          have hS6 : (w3.setRow b7 (wk8 (.slice y1 y2 y3) hh3 (.slice m1 m2 m3) ho3 (.slice t1 ts.length t2) true s2.here 0)).heap[w.heap.size]? = some (.cells zw8 81 (0, 0)) := (setRow_other _ _ _ _ h67).trans hk63
          have hTrow : (w3.setRow b7 (wk8 (.slice y1 y2 y3) hh3 (.slice m1 m2 m3) ho3 (.slice t1 ts.length t2) true s2.here 0)).ownsRow (w.heap.size + 1) 9 1 (.slice t1 ts.length t2) ts.length (tvs ts) := row_loc HGA.out.row (fun k hk => (setRow_other _ _ _ _ (fun e => HGA.out.off (by rw [← e]; exact hk))).trans (HB3.out.block k (HGA.out.row.lt k hk).2))
          have HSS : Hid ((w3.setRow b7 (wk8 (.slice y1 y2 y3) hh3 (.slice m1 m2 m3) ho3 (.slice t1 ts.length t2) true s2.here 0)).heap.size = w3.heap.size) := by unfold Hid; simp [World.setRow]
          have HBS : Hid (Below w.heap.size w (w3.setRow b7 (wk8 (.slice y1 y2 y3) hh3 (.slice m1 m2 m3) ho3 (.slice t1 ts.length t2) true s2.here 0))) := below_setRow' (HGA.out.bel.trans (HB3.out.mono hsw)) (by omega) _
          have d7 : (w3.setRow b7 (wk8 (.slice y1 y2 y3) hh3 (.slice m1 m2 m3) ho3 (.slice t1 ts.length t2) true s2.here 0)).cell? ⟨b7, 7, none⟩ = some (.int .i64 0) := w8_cells hS7 rfl
          have d1 : (w3.setRow b7 (wk8 (.slice y1 y2 y3) hh3 (.slice m1 m2 m3) ho3 (.slice t1 ts.length t2) true s2.here 0)).cell? ⟨b7, 1, none⟩ = some (.string hh3) := w8_cells hS7 rfl
          have d5 : (w3.setRow b7 (wk8 (.slice y1 y2 y3) hh3 (.slice m1 m2 m3) ho3 (.slice t1 ts.length t2) true s2.here 0)).cell? ⟨b7, 5, none⟩ = some (.bool true) := w8_cells hS7 rfl
          have d6 : (w3.setRow b7 (wk8 (.slice y1 y2 y3) hh3 (.slice m1 m2 m3) ho3 (.slice t1 ts.length t2) true s2.here 0)).cell? ⟨b7, 6, none⟩ = some (.string s2.here) := w8_cells hS7 rfl
          have d4 : (w3.setRow b7 (wk8 (.slice y1 y2 y3) hh3 (.slice m1 m2 m3) ho3 (.slice t1 ts.length t2) true s2.here 0)).cell? ⟨b7, 4, none⟩ = some (.slice t1 ts.length t2) := w8_cells hS7 rfl
          have HOT : Hid (∀ k, k ≠ b7 → (w3.setRow b7 (wk8 (.slice y1 y2 y3) hh3 (.slice m1 m2 m3) ho3 (.slice t1 ts.length t2) true s2.here 0)).heap[k]? = w3.heap[k]?) := fun k hk => setRow_other _ _ _ _ hk
          have hlenT : ts.length ≤ 4398046511104 := by have := HGA.out.short; omega
          have hoff := HGA.out.off
          have hb7s : b7 < (w3.setRow b7 (wk8 (.slice y1 y2 y3) hh3 (.slice m1 m2 m3) ho3 (.slice t1 ts.length t2) true s2.here 0)).heap.size := by rw [HSS.out]; omega
          clear hl hMS
          generalize hWS : (w3.setRow b7 (wk8 (.slice y1 y2 y3) hh3 (.slice m1 m2 m3) ho3 (.slice t1 ts.length t2) true s2.here 0)) = WS at *
          go_wp2_with (first
            | (refine wpList_store_row rfl 81 (.tmp 7) (.tmp 20) rfl b7 (wk8 (.slice y1 y2 y3) hh3 (.slice m1 m2 m3) ho3 (.slice t1 ts.length t2) true s2.here 0) rfl rfl 81 _ hk73 (info_w8 _ rfl) rfl (one_w8 _ _ _ _ _ _ _ _ _ _ _ _ _ _) ?_; rw [hWS])
            | (at_builtin; refine wpList_append_own_at _ rfl _ _ 38 rfl (w.heap.size + 1) 9 i0 (.string ⟨#[]⟩) 1 16 Tryz.underlying38 hi hz0 hz1 hz2 rfl (by decide) _ _ _ rfl (hTrow.alloc _) ⟨WS.heap.size, 0, none⟩ 1 1 [.string s2.here] rfl rfl (cell_one_new _ _ _) (by simp [Value.oneCell']) (by unfold maxLen; omega) (by omega) (by rw [World.size_alloc]; have := HSS.out; omega) ?_; intro v5 w5 hown5 hgrow5 hcap5 hat5; obtain ⟨g5, p5, rfl⟩ := ownsRow_succ hown5; have k75 : w5.heap[b7]? = some (.cells (wk8 (.slice y1 y2 y3) hh3 (.slice m1 m2 m3) ho3 (.slice t1 ts.length t2) true s2.here 0) 81) := (hgrow5.block b7 (by rw [World.size_alloc]; omega) (fun e => hoff e.symm)).trans ((Below.heap_alloc WS _ b7 hb7s).trans hS7); have x4 : w5.cell? ⟨b7, 4, none⟩ = some (.slice t1 ts.length t2) := w8_cells k75 rfl; have y4 : w5.frozen? ⟨b7, 4, none⟩ = false := (by simp [World.frozen?, k75]); have x5 : (w5.setCell ⟨b7, 4, none⟩ (.slice (some ⟨g5, 0, none⟩) (ts.length + 1) p5)).cell? ⟨b7, 5, none⟩ = some (.bool true) := w8_cells (set_block k75 _) rfl; have hT6 : (w5.setCell ⟨b7, 4, none⟩ (.slice (some ⟨g5, 0, none⟩) (ts.length + 1) p5)).heap[w.heap.size]? = some (.cells zw8 81 (0, 0)) := (Below.heap_setCell _ _ _ _ h67).trans ((hgrow5.block _ (by rw [World.size_alloc]; omega) (fun e => (by have := (hTrow.lt _ e.symm).1; omega))).trans ((Below.heap_alloc WS _ _ (by omega)).trans hS6)); have hT7 := set_block (i := 4) k75 (.slice (some ⟨g5, 0, none⟩) (ts.length + 1) p5))
            | (refine wpList_load_row rfl 81 (.tmp 7) rfl b7 rfl 81 _ (0, 0) _ hT7 Tryz.underlying81 rfl (info_w8 _ rfl) ?_)
            | (refine wpList_store_row rfl 81 (.tmp 6) (.tmp 42) rfl w.heap.size (wk8 (.slice y1 y2 y3) hh3 (.slice m1 m2 m3) ho3 (.slice (some ⟨g5, 0, none⟩) (ts.length + 1) p5) true s2.here 0) rfl rfl 81 zw8 hT6 (info_w8 _ rfl) rfl (one_w8 _ _ _ _ _ _ _ _ _ _ _ _ _ _) ?_))
          refine bodyPost_ret (results_cell_row rfl _ _ w.heap.size 81 _ (0, 0) _ rfl (setRow_heap _ w.heap.size _ _ _ (0, 0) hT6) Tryz.underlying81 rfl (info_w8 _ rfl)) rfl ?_
          have hsS := HSS.out
          have hgn : goF ⟨1, true, false⟩ f s2 = (0, s2, []) := goF_nil HLE.out
          obtain ⟨e1, e2⟩ := HE.out
          rw [hgn] at e1 e2
          have hb75 : (Value.slice (some ⟨g5, 0, none⟩) (ts.length + 1) p5).ownBlock ≠ some b7 := fun e => by
            rcases hat5 with h | h
            · exact hoff (h.symm.trans e)
            · rw [h] at e; rw [World.size_alloc] at e; simp at e; omega
          have hB5 : Below w.heap.size w (w5.setCell ⟨b7, 4, none⟩ (.slice (some ⟨g5, 0, none⟩) (ts.length + 1) p5)) := ((HBS.out.alloc (by omega) _).grown hgrow5 (by rw [World.size_alloc]; omega) (fun j hj => by have := (hTrow.lt j hj).1; omega)).setCell (p := ⟨b7, 4, none⟩) (show w.heap.size ≤ b7 by omega) _
          refine ⟨below_setRow' hB5 (Nat.le_refl _) _, _, hh3, _, ho3, _, true, s2.here, by rw [e1], by unfold ansB; rw [if_pos e1, e2], ⟨_, _, _, rfl⟩, ⟨_, _, _, rfl⟩, ?_⟩
          have ht : treeB L (goN ⟨1, true, false⟩ (start L way)) = s2.L := by unfold treeB; rw [if_pos e1, e2]
          rw [ht]
          refine HEN.out.keep (fun k hk hl => ⟨by rcases hk with hk | hk; exact hk.2; exact .inr (by omega), ?_⟩)
          have hk2 : k ≠ w.heap.size ∧ k ≠ b7 ∧ (Value.slice t1 ts.length t2).ownBlock ≠ some k := by
            rcases hk with hk | hk
            · exact hk.1
            · exact ⟨by omega, by omega, fun e => by have := (HGA.out.row.lt k e).2; omega⟩
          exact (setRow_other _ _ _ _ hk2.1).trans ((Below.heap_setCell _ _ _ _ hk2.2.1).trans ((hgrow5.block k (by rw [World.size_alloc]; omega) (fun e => hk2.2.2 e.symm)).trans ((Below.heap_alloc WS _ k (by omega)).trans (HOT.out k hk2.2.1))))
      · have HR : Hid ((goN ⟨1, true, false⟩ (start L way)).1 = (stepN ⟨1, true, false⟩ st c rest).1 ∧ ansB (goN ⟨1, true, false⟩ (start L way)) = ⟨#[]⟩ ∧ treeB L (goN ⟨1, true, false⟩ (start L way)) = L) := by
          have e1 := HGA.out.e1
          obtain ⟨f, rfl⟩ : ∃ g, f = g + 1 := ⟨f - 1, by have := HGA.out.fuel; omega⟩
          rw [goF_err hl h0] at e1
          exact ⟨e1, if_neg (by rw [e1]; exact h0), if_neg (by rw [e1]; exact h0)⟩
        have hS7 := setRow_heap w3 b7 _ (wk8 (.slice y1 y2 y3) hh3 (.slice m1 m2 m3) ho3 (.slice t1 ts.length t2) dn3 an3 (stepN ⟨1, true, false⟩ st c rest).1) _ (0, 0) hk73
        have hS6 : (w3.setRow b7 (wk8 (.slice y1 y2 y3) hh3 (.slice m1 m2 m3) ho3 (.slice t1 ts.length t2) dn3 an3 (stepN ⟨1, true, false⟩ st c rest).1)).heap[w.heap.size]? = some (.cells zw8 81 (0, 0)) := (setRow_other _ _ _ _ h67).trans hk63
        have d7 : (w3.setRow b7 (wk8 (.slice y1 y2 y3) hh3 (.slice m1 m2 m3) ho3 (.slice t1 ts.length t2) dn3 an3 (stepN ⟨1, true, false⟩ st c rest).1)).cell? ⟨b7, 7, none⟩ = some (.int .i64 (stepN ⟨1, true, false⟩ st c rest).1) := w8_cells hS7 rfl
        have HBF : Hid (Below w.heap.size w (w3.setRow b7 (wk8 (.slice y1 y2 y3) hh3 (.slice m1 m2 m3) ho3 (.slice t1 ts.length t2) dn3 an3 (stepN ⟨1, true, false⟩ st c rest).1))) := below_setRow' (HGA.out.bel.trans (HB3.out.mono hsw)) (by omega) _
        have h0' : ((stepN ⟨1, true, false⟩ st c rest).1 == 0) = false := by simpa using h0
        clear HIM hl h0 hMS
        generalize (stepN ⟨1, true, false⟩ st c rest).1 = n at *
        generalize hWS : w3.setRow b7 (wk8 (.slice y1 y2 y3) hh3 (.slice m1 m2 m3) ho3 (.slice t1 ts.length t2) dn3 an3 n) = WS at *
        go_wp2_with (first
          | (refine wpList_store_row rfl 81 (.tmp 7) (.tmp 20) rfl b7 (wk8 (.slice y1 y2 y3) hh3 (.slice m1 m2 m3) ho3 (.slice t1 ts.length t2) dn3 an3 n) rfl rfl 81 _ hk73 (info_w8 _ rfl) rfl (one_w8 _ _ _ _ _ _ _ _ _ _ _ _ _ _) ?_; rw [hWS])
          | (refine wpList_store_row rfl 81 (.tmp 6) (.tmp 27) rfl w.heap.size (wk8 (.slice a1 L.length c1) ⟨#[]⟩ (.slice none 0 0) 0 (.slice none 0 0) false ⟨#[]⟩ n) rfl rfl 81 zw8 hS6 (info_w8 _ rfl) rfl (one_w8 _ _ _ _ _ _ _ _ _ _ _ _ _ _) ?_))
        refine bodyPost_ret (results_cell_row rfl _ _ w.heap.size 81 _ (0, 0) _ rfl (setRow_heap _ w.heap.size _ _ _ (0, 0) hS6) Tryz.underlying81 rfl (info_w8 _ rfl)) rfl ?_
        refine ⟨below_setRow' HBF.out (Nat.le_refl _) _, _, ⟨#[]⟩, _, 0, _, false, ⟨#[]⟩, by rw [HR.out.1], HR.out.2.1.symm, ⟨_, _, _, rfl⟩, ⟨_, _, _, rfl⟩, ?_⟩
        rw [HR.out.2.2]
        exact (hEv.below (below_setRow' HBF.out (Nat.le_refl _) _)).weak (fun k hk => .inl hk)
set_option maxRecDepth 100000 in
set_option maxHeartbeats 8000000 in
theorem go_k3 (way : ByteArray) (L : List Ent) (a1 : Option Addr) (c1 : Nat) (w : World) {NV : Nat → Prop} (hEv : EntsF NV w (.slice a1 L.length c1) L) (hI0 : WInv (start L way)) (hw : way.size ≤ 1073741824) :
    Calls Tryz.prog 34 #[.slice a1 L.length c1, .string way, .int .i64 3] w (GoPostK w NV L (goN ⟨2, false, false⟩ (start L way))) := by
  obtain ⟨i0, hi, hz0, hz1, hz2⟩ := info_parts info_str'
  have hP := fun W => pieces_r way W (by omega)
  have hbA : Below w.heap.size w (w.alloc (.cells zw8 81)) := (Below.refl _ _).alloc (Nat.le_refl _) _
  go_enter Tryz.func34, Tryz.ntmps34
  go_wp2_with fail
  refine (hP _).mono ?_
  rintro e w1 ⟨u1, rfl, hu1, hb1⟩
  obtain ⟨q1, q2, rfl⟩ := row_form hu1
  have HB1 : Hid (Below w.heap.size w w1) := below_join hbA hb1
  have hs1 : w.heap.size + 1 ≤ w1.heap.size := by have := hb1.size; simpa using this
  have K6 : Hid (w1.heap[w.heap.size]? = some (.cells zw8 81 (0, 0))) := (hb1.block _ (by simp)).trans (World.alloc_heap_new w _)
  have hL0 : LeftB (fun k => w.heap.size + 1 ≤ k ∧ k < w1.heap.size) w1 (.slice q1 (namesB way).length q2) (namesB way) := by
    have h1 := leftB_of_owns (N := fun k => w.heap.size + 1 ≤ k) hu1 (fun k hk => by simpa using hk)
    exact h1.keep (fun k hk hl => ⟨⟨hk, hl⟩, rfl⟩)
  obtain ⟨b7, hb7⟩ : ∃ b7, b7 = w1.heap.size + 1 := ⟨_, rfl⟩
  have hst : GoAtK NV w ((w1.alloc (.cells #[.string ⟨#[]⟩] 9)).alloc (.cells (wk8 (.slice a1 L.length c1) ⟨#[]⟩ (.slice q1 (namesB way).length q2) 0 (.slice (some ⟨w1.heap.size, 0, none⟩) 1 1) false ⟨#[]⟩ 0) 81)) w.heap.size b7 (.slice a1 L.length c1) L ⟨2, false, false⟩ way (max way.size 100) (start L way) (.slice q1 (namesB way).length q2) (.slice (some ⟨w1.heap.size, 0, none⟩) 1 1) [⟨#[]⟩] (msr (start L way) + 1) := by
    have hbb : Below w1.heap.size w1 ((w1.alloc (.cells #[.string ⟨#[]⟩] 9)).alloc (.cells (wk8 (.slice a1 L.length c1) ⟨#[]⟩ (.slice q1 (namesB way).length q2) 0 (.slice (some ⟨w1.heap.size, 0, none⟩) 1 1) false ⟨#[]⟩ 0) 81)) := two_below _ _ _
    refine ⟨by rw [hb7]; exact new_two _ _ _ _, (hbb.block _ (by omega)).trans K6.out, hL0.keep (fun k hk hl => ⟨⟨by omega, by omega, by simp [Value.ownBlock]; omega⟩, hbb.block k hl⟩), ?_, by simp [Value.ownBlock]; omega, hEv.keep (fun k hk hl => ⟨⟨⟨by omega, by omega, by simp [Value.ownBlock]; omega⟩, .inl hk⟩, (below_join HB1.out hbb).block k hl⟩), hI0, start_good L way, Nat.lt_succ_self _, rfl, rfl, ?_, below_join HB1.out hbb⟩
    · exact World.ownsRow.alloc ⟨rfl, .inr ⟨w1.heap.size, 1, #[.string ⟨#[]⟩], rfl, by omega, World.alloc_heap_new w1 _, Nat.le_refl _, by unfold maxLen; omega, rfl, rfl⟩⟩ _
    · have := names_len way
      have := Nat.le_max_left way.size 100
      unfold msr start
      simp; omega
  have HST : Hid _ := hst
  have hB : max way.size 100 ≤ 1073741824 := by omega
  generalize max way.size 100 = B at *
  clear hb1 hbA hu1 hL0 K6 hP hst
  go_wp2
  rw [← hb7]
  have hb7a : w.heap.size + 2 ≤ b7 := by omega
  clear hb7
  go_loopw [] (fun wr => ∃ v st lv trv ts f, GoAtK NV w wr w.heap.size b7 v L ⟨2, false, false⟩ way B st lv trv ts f) (fun wr => msr8 b7 wr)
  case atStart => exact ⟨_, _, _, _, _, _, HST.out⟩
  case round =>
    obtain ⟨vv, st, lv, trv, ts, f, hGA⟩ := hrel
    obtain ⟨x1, x2, x3, x4, rfl, hxe⟩ := id hGA.ents
    clear hxe
    have HGA : Hid (GoAtK NV w wr w.heap.size b7 (.slice x1 st.L.length x2) L ⟨2, false, false⟩ way B st lv trv ts f) := hGA
    have hMS := msr8_eqK hGA
    have h67 : w.heap.size ≠ b7 := by omega
    obtain ⟨t1, t2, rfl⟩ := row_form hGA.row
    obtain ⟨l1, l2, l3, l4, rfl, hclr⟩ := id hGA.left
    clear hclr
    have c2 : wr.cell? ⟨b7, 2, none⟩ = some (.slice l1 st.left.length l2) := w8_cells hGA.k7 rfl
    have c1' : wr.cell? ⟨b7, 1, none⟩ = some (.string st.here) := w8_cells hGA.k7 rfl
    have k7 := hGA.k7
    have hlt7 : b7 < wr.heap.size := (Array.getElem?_eq_some_iff.1 k7).1
    cases hl : st.left with
    | nil =>
      have hr0 : goF ⟨2, false, false⟩ f st = (0, st, []) := goF_nil hl
      have HR : Hid ((goN ⟨2, false, false⟩ (start L way)).1 = 0 ∧ ansB (goN ⟨2, false, false⟩ (start L way)) = st.here ∧ treeB L (goN ⟨2, false, false⟩ (start L way)) = st.L) := by
        have e1 := hGA.e1
        have e2 := hGA.e2
        rw [hr0] at e1 e2
        exact ⟨e1, by unfold ansB; rw [if_pos e1, e2], by unfold treeB; rw [if_pos e1, e2]⟩
      have hk6 : ∀ w3, Below wr.heap.size wr w3 → w3.heap[w.heap.size]? = some (.cells zw8 81 (0, 0)) := fun w3 hb => (hb.block _ (Array.getElem?_eq_some_iff.1 HGA.out.k6).1).trans HGA.out.k6
      rw [hl] at c2 k7
      clear hGA hr0 hMS HST
      go_wp2_with (first
        | (refine wpList_load_row rfl 81 (.tmp 7) rfl b7 rfl 81 _ (0, 0) _ k7 Tryz.underlying81 rfl (info_w8 _ rfl) ?_)
        | (go_at_call 53; refine (ended_r _ _).mono ?_; rintro e w3 ⟨rfl, hb3⟩; have hk63 := hk6 _ hb3)
        | (refine wpList_store_row rfl 81 (.tmp 6) (.tmp 46) rfl w.heap.size (wk8 (.slice x1 st.L.length x2) st.here (.slice l1 ([] : List ByteArray).length l2) st.hops (.slice t1 ts.length t2) true st.here 0) rfl rfl 81 zw8 hk63 (info_w8 _ rfl) rfl (one_w8 _ _ _ _ _ _ _ _ _ _ _ _ _ _) ?_))
      refine bodyPost_ret (results_cell_row rfl _ _ w.heap.size 81 _ (0, 0) _ rfl (setRow_heap _ w.heap.size _ _ _ (0, 0) hk63) Tryz.underlying81 rfl (info_w8 _ rfl)) rfl ?_
      refine ⟨below_setRow' (HGA.out.bel.trans (hb3.mono HGA.out.bel.size)) (Nat.le_refl _) _, _, st.here, _, st.hops, _, true, st.here, by rw [HR.out.1], HR.out.2.1.symm, ⟨_, _, _, rfl⟩, ⟨_, _, _, rfl⟩, ?_⟩
      rw [HR.out.2.2]
      exact HGA.out.ents.keep (fun k hk hl => ⟨hk.2, (setRow_other _ _ _ _ hk.1.1).trans (hb3.block k hl)⟩)
    | cons c rest =>
      have hln := hGA.good.ln
      rw [hl, List.length_cons] at hln
      have hhh := hGA.good.hh
      have hDS := docstepK_3 (a1 := x1) (c1 := x2) (a3 := t1) (n3 := ts.length) (c3 := t2) st c rest (.slice l1 st.left.length l2) wr hl hGA.left hGA.ents hGA.inv hGA.good (by omega)
      rw [hl, List.length_cons] at c2 k7 hDS
      have hpos : (0 : Int) < ((rest.length + 1 : Nat) : Int) := by omega
      have hk7 : ∀ w3, Below wr.heap.size wr w3 → w3.heap[b7]? = some (.cells (wk8 (.slice x1 st.L.length x2) st.here (.slice l1 (rest.length + 1) l2) st.hops (.slice t1 ts.length t2) false ⟨#[]⟩ 0) 81) := fun w3 hb => (hb.block _ hlt7).trans k7
      clear hGA HST
      go_wp2_with (first
        | (refine wpList_load_row rfl 81 (.tmp 7) rfl b7 rfl 81 (wk8 (.slice x1 st.L.length x2) st.here (.slice l1 (rest.length + 1) l2) st.hops (.slice t1 ts.length t2) false ⟨#[]⟩ 0) (0, 0) _ k7 Tryz.underlying81 rfl (info_w8 _ rfl) ?_)
        | fail)
      with_reducible refine hDS.mono ?_
      rintro e w3 ⟨hb3, tv3, hh3, lv3, ho3, dn3, an3, rfl, ⟨m1, m2, m3, rfl⟩, ⟨y1, y2, y3, rfl⟩, him3⟩
      have hk73 := hk7 _ hb3
      have HB3 : Hid (Below wr.heap.size wr w3) := hb3
      have HIM : Hid _ := him3
      have hk63 : w3.heap[w.heap.size]? = some (.cells zw8 81 (0, 0)) := (hb3.block _ (Array.getElem?_eq_some_iff.1 HGA.out.k6).1).trans HGA.out.k6
      have hs3 := hb3.size
      have hsw := HGA.out.bel.size
      clear hDS hk7 hb3 him3 k7 c2 c1'
      by_cases h0 : (stepN ⟨2, false, false⟩ st c rest).1 = 0
      · have hGn := step_good HGA.out.good hl HGA.out.inv.right h0
        have hKn := winv_step (m := ⟨2, false, false⟩) rfl HGA.out.inv hl h0
        have hMn := (step_msr _ st c rest hl (right_short HGA.out.inv.right) HGA.out.good.hh h0).1
        obtain ⟨f, rfl⟩ : ∃ g, f = g + 1 := ⟨f - 1, by have := HGA.out.fuel; omega⟩
        have hgo := goF_ok (f := f) hl h0
        have HE : Hid ((goN ⟨2, false, false⟩ (start L way)).1 = (goF ⟨2, false, false⟩ f (stepN ⟨2, false, false⟩ st c rest).2).1 ∧ (goN ⟨2, false, false⟩ (start L way)).2.1 = (goF ⟨2, false, false⟩ f (stepN ⟨2, false, false⟩ st c rest).2).2.1) := by
          have e1 := HGA.out.e1
          have e2 := HGA.out.e2
          rw [hgo] at e1 e2
          exact ⟨e1, e2⟩
        have HGn : Hid (Good B (stepN ⟨2, false, false⟩ st c rest).2 ∧ WInv (stepN ⟨2, false, false⟩ st c rest).2 ∧ msr (stepN ⟨2, false, false⟩ st c rest).2 < msr st) := ⟨hGn.1, hKn, hMn⟩
        have HMS : Hid (msr8 b7 wr = msr st) := hMS
        obtain ⟨hEn, hcase⟩ := HIM.out h0
        have HEN : Hid (EntsF (fun k => (NK w.heap.size b7 (.slice t1 ts.length t2) k ∧ (NV k ∨ w.heap.size ≤ k)) ∨ wr.heap.size ≤ k) w3 (.slice y1 y2 y3) (stepN ⟨2, false, false⟩ st c rest).2.L) := hEn
        rw [h0]
        clear HIM hGn hKn hMn hgo h0 hEn
        rcases hcase with ⟨rfl, rfl, rfl, rfl, hLB⟩ | ⟨rfl, rfl, hle⟩
        · have HLB : Hid (LeftB (fun k => NK w.heap.size b7 (.slice t1 ts.length t2) k ∨ wr.heap.size ≤ k) w3 (.slice m1 m2 m3) (stepN ⟨2, false, false⟩ st c rest).2.left) := hLB
          clear hLB
          generalize hst' : (stepN ⟨2, false, false⟩ st c rest).2 = s2 at *

          have hS7 := setRow_heap w3 b7 _ (wk8 (.slice y1 y2 y3) s2.here (.slice m1 m2 m3) s2.hops (.slice t1 ts.length t2) false ⟨#[]⟩ 0) _ (0, 0) hk73
          have hS6 : (w3.setRow b7 (wk8 (.slice y1 y2 y3) s2.here (.slice m1 m2 m3) s2.hops (.slice t1 ts.length t2) false ⟨#[]⟩ 0)).heap[w.heap.size]? = some (.cells zw8 81 (0, 0)) := (setRow_other _ _ _ _ h67).trans hk63
          have hTrow : (w3.setRow b7 (wk8 (.slice y1 y2 y3) s2.here (.slice m1 m2 m3) s2.hops (.slice t1 ts.length t2) false ⟨#[]⟩ 0)).ownsRow (w.heap.size + 1) 9 1 (.slice t1 ts.length t2) ts.length (tvs ts) := row_loc HGA.out.row (fun k hk => (setRow_other _ _ _ _ (fun e => HGA.out.off (by rw [← e]; exact hk))).trans (HB3.out.block k (HGA.out.row.lt k hk).2))
          have HSS : Hid ((w3.setRow b7 (wk8 (.slice y1 y2 y3) s2.here (.slice m1 m2 m3) s2.hops (.slice t1 ts.length t2) false ⟨#[]⟩ 0)).heap.size = w3.heap.size) := by unfold Hid; simp [World.setRow]
          have HBS : Hid (Below w.heap.size w (w3.setRow b7 (wk8 (.slice y1 y2 y3) s2.here (.slice m1 m2 m3) s2.hops (.slice t1 ts.length t2) false ⟨#[]⟩ 0))) := below_setRow' (HGA.out.bel.trans (HB3.out.mono hsw)) (by omega) _
          have d7 : (w3.setRow b7 (wk8 (.slice y1 y2 y3) s2.here (.slice m1 m2 m3) s2.hops (.slice t1 ts.length t2) false ⟨#[]⟩ 0)).cell? ⟨b7, 7, none⟩ = some (.int .i64 0) := w8_cells hS7 rfl
          have d1 : (w3.setRow b7 (wk8 (.slice y1 y2 y3) s2.here (.slice m1 m2 m3) s2.hops (.slice t1 ts.length t2) false ⟨#[]⟩ 0)).cell? ⟨b7, 1, none⟩ = some (.string s2.here) := w8_cells hS7 rfl
          have d5 : (w3.setRow b7 (wk8 (.slice y1 y2 y3) s2.here (.slice m1 m2 m3) s2.hops (.slice t1 ts.length t2) false ⟨#[]⟩ 0)).cell? ⟨b7, 5, none⟩ = some (.bool false) := w8_cells hS7 rfl
          have d6 : (w3.setRow b7 (wk8 (.slice y1 y2 y3) s2.here (.slice m1 m2 m3) s2.hops (.slice t1 ts.length t2) false ⟨#[]⟩ 0)).cell? ⟨b7, 6, none⟩ = some (.string ⟨#[]⟩) := w8_cells hS7 rfl
          have d4 : (w3.setRow b7 (wk8 (.slice y1 y2 y3) s2.here (.slice m1 m2 m3) s2.hops (.slice t1 ts.length t2) false ⟨#[]⟩ 0)).cell? ⟨b7, 4, none⟩ = some (.slice t1 ts.length t2) := w8_cells hS7 rfl
          have HOT : Hid (∀ k, k ≠ b7 → (w3.setRow b7 (wk8 (.slice y1 y2 y3) s2.here (.slice m1 m2 m3) s2.hops (.slice t1 ts.length t2) false ⟨#[]⟩ 0)).heap[k]? = w3.heap[k]?) := fun k hk => setRow_other _ _ _ _ hk
          have hlenT : ts.length ≤ 4398046511104 := by have := HGA.out.short; omega
          have hoff := HGA.out.off
          have hb7s : b7 < (w3.setRow b7 (wk8 (.slice y1 y2 y3) s2.here (.slice m1 m2 m3) s2.hops (.slice t1 ts.length t2) false ⟨#[]⟩ 0)).heap.size := by rw [HSS.out]; omega
          clear hl hMS
          generalize hWS : (w3.setRow b7 (wk8 (.slice y1 y2 y3) s2.here (.slice m1 m2 m3) s2.hops (.slice t1 ts.length t2) false ⟨#[]⟩ 0)) = WS at *
          go_wp2_with (first
            | (refine wpList_store_row rfl 81 (.tmp 7) (.tmp 20) rfl b7 (wk8 (.slice y1 y2 y3) s2.here (.slice m1 m2 m3) s2.hops (.slice t1 ts.length t2) false ⟨#[]⟩ 0) rfl rfl 81 _ hk73 (info_w8 _ rfl) rfl (one_w8 _ _ _ _ _ _ _ _ _ _ _ _ _ _) ?_; rw [hWS])
            | (at_builtin; refine wpList_append_own_at _ rfl _ _ 38 rfl (w.heap.size + 1) 9 i0 (.string ⟨#[]⟩) 1 16 Tryz.underlying38 hi hz0 hz1 hz2 rfl (by decide) _ _ _ rfl (hTrow.alloc _) ⟨WS.heap.size, 0, none⟩ 1 1 [.string s2.here] rfl rfl (cell_one_new _ _ _) (by simp [Value.oneCell']) (by unfold maxLen; omega) (by omega) (by rw [World.size_alloc]; have := HSS.out; omega) ?_; intro v5 w5 hown5 hgrow5 hcap5 hat5; obtain ⟨g5, p5, rfl⟩ := ownsRow_succ hown5; have k75 : w5.heap[b7]? = some (.cells (wk8 (.slice y1 y2 y3) s2.here (.slice m1 m2 m3) s2.hops (.slice t1 ts.length t2) false ⟨#[]⟩ 0) 81) := (hgrow5.block b7 (by rw [World.size_alloc]; omega) (fun e => hoff e.symm)).trans ((Below.heap_alloc WS _ b7 hb7s).trans hS7); have x4 : w5.cell? ⟨b7, 4, none⟩ = some (.slice t1 ts.length t2) := w8_cells k75 rfl; have y4 : w5.frozen? ⟨b7, 4, none⟩ = false := (by simp [World.frozen?, k75]); have x5 : (w5.setCell ⟨b7, 4, none⟩ (.slice (some ⟨g5, 0, none⟩) (ts.length + 1) p5)).cell? ⟨b7, 5, none⟩ = some (.bool false) := w8_cells (set_block k75 _) rfl))
          have hsS := HSS.out
          have hw5 : w3.heap.size + 1 ≤ w5.heap.size := by have := hgrow5.size; rw [World.size_alloc] at this; omega
          have hne5 : ∀ k, k < w3.heap.size → k ≠ b7 → (Value.slice t1 ts.length t2).ownBlock ≠ some k → (w5.setCell ⟨b7, 4, none⟩ (.slice (some ⟨g5, 0, none⟩) (ts.length + 1) p5)).heap[k]? = w3.heap[k]? := fun k hk h1 h2 =>
            (Below.heap_setCell _ _ _ _ h1).trans ((hgrow5.block k (by simp; omega) (fun e => h2 e.symm)).trans ((Below.heap_alloc WS _ k (by omega)).trans (HOT.out k h1)))
          have hg5 : ∀ k, k < w3.heap.size → (Value.slice t1 ts.length t2).ownBlock ≠ some k → (Value.slice (some ⟨g5, 0, none⟩) (ts.length + 1) p5).ownBlock ≠ some k := fun k hk h1 h2 => by
            rcases hat5 with h | h
            · exact h1 (h.symm.trans h2)
            · rw [h] at h2; simp at h2; omega
          have hb75 : (Value.slice (some ⟨g5, 0, none⟩) (ts.length + 1) p5).ownBlock ≠ some b7 := hg5 b7 (by omega) hoff
          have hb65 : (Value.slice (some ⟨g5, 0, none⟩) (ts.length + 1) p5).ownBlock ≠ some w.heap.size := fun e => by have := (hown5.lt _ e).1; omega
          have h6t : (Value.slice t1 ts.length t2).ownBlock ≠ some w.heap.size := fun e => by have := (HGA.out.row.lt _ e).1; omega
          have hB5 : Below w.heap.size w (w5.setCell ⟨b7, 4, none⟩ (.slice (some ⟨g5, 0, none⟩) (ts.length + 1) p5)) := ((HBS.out.alloc (by omega) _).grown hgrow5 (by simp; omega) (fun j hj => by have := (hTrow.lt j hj).1; omega)).setCell (p := ⟨b7, 4, none⟩) (show w.heap.size ≤ b7 by omega) _
          have hnk : ∀ k, (NK w.heap.size b7 (.slice t1 ts.length t2) k ∨ wr.heap.size ≤ k) → k < w3.heap.size → NK w.heap.size b7 (.slice (some ⟨g5, 0, none⟩) (ts.length + 1) p5) k ∧ (w5.setCell ⟨b7, 4, none⟩ (.slice (some ⟨g5, 0, none⟩) (ts.length + 1) p5)).heap[k]? = w3.heap[k]? := fun k hk hl => by
            have hk2 : k ≠ w.heap.size ∧ k ≠ b7 ∧ (Value.slice t1 ts.length t2).ownBlock ≠ some k := by
              rcases hk with hk | hk
              · exact hk
              · exact ⟨by omega, by omega, fun e => by have := (HGA.out.row.lt k e).2; omega⟩
            exact ⟨⟨hk2.1, hk2.2.1, hg5 k hl hk2.2.2⟩, hne5 k hl hk2.2.1 hk2.2.2⟩
          have hGA2 : GoAtK NV w (w5.setCell ⟨b7, 4, none⟩ (.slice (some ⟨g5, 0, none⟩) (ts.length + 1) p5)) w.heap.size b7 (.slice y1 y2 y3) L ⟨2, false, false⟩ way B s2 (.slice m1 m2 m3) (.slice (some ⟨g5, 0, none⟩) (ts.length + 1) p5) (ts ++ [s2.here]) f := by
            refine ⟨set_block k75 _, (hne5 _ (by omega) h67 h6t).trans hk63, HLB.out.keep hnk, ?_, hb75, HEN.out.keep (fun k hk hl => ⟨⟨(hnk k (hk.imp And.left id) hl).1, by rcases hk with hk | hk; exact hk.2; exact .inr (by omega)⟩, (hnk k (hk.imp And.left id) hl).2⟩), HGn.out.2.1, HGn.out.1, by have := HGn.out.2.2; have := HGA.out.fuel; omega, HE.out.1, HE.out.2, by rw [List.length_append]; have := HGn.out.2.2; have := HGA.out.short; simp; omega, hB5⟩
            have := hown5.kept (grown_set w5 b7 4 (.slice (some ⟨g5, 0, none⟩) (ts.length + 1) p5)) (.inr hb75)
            rw [List.length_append, tvs_append]
            simpa [tvs] using this
          go_roundw
          case rel => exact ⟨_, _, _, _, _, _, hGA2⟩
          case measure => rw [msr8_eqK hGA2, HMS.out]; exact HGn.out.2.2
        · have HLE : Hid ((stepN ⟨2, false, false⟩ st c rest).2.left = []) := hle
          clear hle
          generalize hst' : (stepN ⟨2, false, false⟩ st c rest).2 = s2 at *
          have hS7 := setRow_heap w3 b7 _ (wk8 (.slice y1 y2 y3) hh3 (.slice m1 m2 m3) ho3 (.slice t1 ts.length t2) true s2.here 0) _ (0, 0) hk73
          have hS6 : (w3.setRow b7 (wk8 (.slice y1 y2 y3) hh3 (.slice m1 m2 m3) ho3 (.slice t1 ts.length t2) true s2.here 0)).heap[w.heap.size]? = some (.cells zw8 81 (0, 0)) := (setRow_other _ _ _ _ h67).trans hk63
          have hTrow : (w3.setRow b7 (wk8 (.slice y1 y2 y3) hh3 (.slice m1 m2 m3) ho3 (.slice t1 ts.length t2) true s2.here 0)).ownsRow (w.heap.size + 1) 9 1 (.slice t1 ts.length t2) ts.length (tvs ts) := row_loc HGA.out.row (fun k hk => (setRow_other _ _ _ _ (fun e => HGA.out.off (by rw [← e]; exact hk))).trans (HB3.out.block k (HGA.out.row.lt k hk).2))
          have HSS : Hid ((w3.setRow b7 (wk8 (.slice y1 y2 y3) hh3 (.slice m1 m2 m3) ho3 (.slice t1 ts.length t2) true s2.here 0)).heap.size = w3.heap.size) := by unfold Hid; simp [World.setRow]
          have HBS : Hid (Below w.heap.size w (w3.setRow b7 (wk8 (.slice y1 y2 y3) hh3 (.slice m1 m2 m3) ho3 (.slice t1 ts.length t2) true s2.here 0))) := below_setRow' (HGA.out.bel.trans (HB3.out.mono hsw)) (by omega) _
          have d7 : (w3.setRow b7 (wk8 (.slice y1 y2 y3) hh3 (.slice m1 m2 m3) ho3 (.slice t1 ts.length t2) true s2.here 0)).cell? ⟨b7, 7, none⟩ = some (.int .i64 0) := w8_cells hS7 rfl
          have d1 : (w3.setRow b7 (wk8 (.slice y1 y2 y3) hh3 (.slice m1 m2 m3) ho3 (.slice t1 ts.length t2) true s2.here 0)).cell? ⟨b7, 1, none⟩ = some (.string hh3) := w8_cells hS7 rfl
          have d5 : (w3.setRow b7 (wk8 (.slice y1 y2 y3) hh3 (.slice m1 m2 m3) ho3 (.slice t1 ts.length t2) true s2.here 0)).cell? ⟨b7, 5, none⟩ = some (.bool true) := w8_cells hS7 rfl
          have d6 : (w3.setRow b7 (wk8 (.slice y1 y2 y3) hh3 (.slice m1 m2 m3) ho3 (.slice t1 ts.length t2) true s2.here 0)).cell? ⟨b7, 6, none⟩ = some (.string s2.here) := w8_cells hS7 rfl
          have d4 : (w3.setRow b7 (wk8 (.slice y1 y2 y3) hh3 (.slice m1 m2 m3) ho3 (.slice t1 ts.length t2) true s2.here 0)).cell? ⟨b7, 4, none⟩ = some (.slice t1 ts.length t2) := w8_cells hS7 rfl
          have HOT : Hid (∀ k, k ≠ b7 → (w3.setRow b7 (wk8 (.slice y1 y2 y3) hh3 (.slice m1 m2 m3) ho3 (.slice t1 ts.length t2) true s2.here 0)).heap[k]? = w3.heap[k]?) := fun k hk => setRow_other _ _ _ _ hk
          have hlenT : ts.length ≤ 4398046511104 := by have := HGA.out.short; omega
          have hoff := HGA.out.off
          have hb7s : b7 < (w3.setRow b7 (wk8 (.slice y1 y2 y3) hh3 (.slice m1 m2 m3) ho3 (.slice t1 ts.length t2) true s2.here 0)).heap.size := by rw [HSS.out]; omega
          clear hl hMS
          generalize hWS : (w3.setRow b7 (wk8 (.slice y1 y2 y3) hh3 (.slice m1 m2 m3) ho3 (.slice t1 ts.length t2) true s2.here 0)) = WS at *
          go_wp2_with (first
            | (refine wpList_store_row rfl 81 (.tmp 7) (.tmp 20) rfl b7 (wk8 (.slice y1 y2 y3) hh3 (.slice m1 m2 m3) ho3 (.slice t1 ts.length t2) true s2.here 0) rfl rfl 81 _ hk73 (info_w8 _ rfl) rfl (one_w8 _ _ _ _ _ _ _ _ _ _ _ _ _ _) ?_; rw [hWS])
            | (at_builtin; refine wpList_append_own_at _ rfl _ _ 38 rfl (w.heap.size + 1) 9 i0 (.string ⟨#[]⟩) 1 16 Tryz.underlying38 hi hz0 hz1 hz2 rfl (by decide) _ _ _ rfl (hTrow.alloc _) ⟨WS.heap.size, 0, none⟩ 1 1 [.string s2.here] rfl rfl (cell_one_new _ _ _) (by simp [Value.oneCell']) (by unfold maxLen; omega) (by omega) (by rw [World.size_alloc]; have := HSS.out; omega) ?_; intro v5 w5 hown5 hgrow5 hcap5 hat5; obtain ⟨g5, p5, rfl⟩ := ownsRow_succ hown5; have k75 : w5.heap[b7]? = some (.cells (wk8 (.slice y1 y2 y3) hh3 (.slice m1 m2 m3) ho3 (.slice t1 ts.length t2) true s2.here 0) 81) := (hgrow5.block b7 (by rw [World.size_alloc]; omega) (fun e => hoff e.symm)).trans ((Below.heap_alloc WS _ b7 hb7s).trans hS7); have x4 : w5.cell? ⟨b7, 4, none⟩ = some (.slice t1 ts.length t2) := w8_cells k75 rfl; have y4 : w5.frozen? ⟨b7, 4, none⟩ = false := (by simp [World.frozen?, k75]); have x5 : (w5.setCell ⟨b7, 4, none⟩ (.slice (some ⟨g5, 0, none⟩) (ts.length + 1) p5)).cell? ⟨b7, 5, none⟩ = some (.bool true) := w8_cells (set_block k75 _) rfl; have hT6 : (w5.setCell ⟨b7, 4, none⟩ (.slice (some ⟨g5, 0, none⟩) (ts.length + 1) p5)).heap[w.heap.size]? = some (.cells zw8 81 (0, 0)) := (Below.heap_setCell _ _ _ _ h67).trans ((hgrow5.block _ (by rw [World.size_alloc]; omega) (fun e => (by have := (hTrow.lt _ e.symm).1; omega))).trans ((Below.heap_alloc WS _ _ (by omega)).trans hS6)); have hT7 := set_block (i := 4) k75 (.slice (some ⟨g5, 0, none⟩) (ts.length + 1) p5))
            | (refine wpList_load_row rfl 81 (.tmp 7) rfl b7 rfl 81 _ (0, 0) _ hT7 Tryz.underlying81 rfl (info_w8 _ rfl) ?_)
            | (refine wpList_store_row rfl 81 (.tmp 6) (.tmp 42) rfl w.heap.size (wk8 (.slice y1 y2 y3) hh3 (.slice m1 m2 m3) ho3 (.slice (some ⟨g5, 0, none⟩) (ts.length + 1) p5) true s2.here 0) rfl rfl 81 zw8 hT6 (info_w8 _ rfl) rfl (one_w8 _ _ _ _ _ _ _ _ _ _ _ _ _ _) ?_))
          refine bodyPost_ret (results_cell_row rfl _ _ w.heap.size 81 _ (0, 0) _ rfl (setRow_heap _ w.heap.size _ _ _ (0, 0) hT6) Tryz.underlying81 rfl (info_w8 _ rfl)) rfl ?_
          have hsS := HSS.out
          have hgn : goF ⟨2, false, false⟩ f s2 = (0, s2, []) := goF_nil HLE.out
          obtain ⟨e1, e2⟩ := HE.out
          rw [hgn] at e1 e2
          have hb75 : (Value.slice (some ⟨g5, 0, none⟩) (ts.length + 1) p5).ownBlock ≠ some b7 := fun e => by
            rcases hat5 with h | h
            · exact hoff (h.symm.trans e)
            · rw [h] at e; rw [World.size_alloc] at e; simp at e; omega
          have hB5 : Below w.heap.size w (w5.setCell ⟨b7, 4, none⟩ (.slice (some ⟨g5, 0, none⟩) (ts.length + 1) p5)) := ((HBS.out.alloc (by omega) _).grown hgrow5 (by rw [World.size_alloc]; omega) (fun j hj => by have := (hTrow.lt j hj).1; omega)).setCell (p := ⟨b7, 4, none⟩) (show w.heap.size ≤ b7 by omega) _
          refine ⟨below_setRow' hB5 (Nat.le_refl _) _, _, hh3, _, ho3, _, true, s2.here, by rw [e1], by unfold ansB; rw [if_pos e1, e2], ⟨_, _, _, rfl⟩, ⟨_, _, _, rfl⟩, ?_⟩
          have ht : treeB L (goN ⟨2, false, false⟩ (start L way)) = s2.L := by unfold treeB; rw [if_pos e1, e2]
          rw [ht]
          refine HEN.out.keep (fun k hk hl => ⟨by rcases hk with hk | hk; exact hk.2; exact .inr (by omega), ?_⟩)
          have hk2 : k ≠ w.heap.size ∧ k ≠ b7 ∧ (Value.slice t1 ts.length t2).ownBlock ≠ some k := by
            rcases hk with hk | hk
            · exact hk.1
            · exact ⟨by omega, by omega, fun e => by have := (HGA.out.row.lt k e).2; omega⟩
          exact (setRow_other _ _ _ _ hk2.1).trans ((Below.heap_setCell _ _ _ _ hk2.2.1).trans ((hgrow5.block k (by rw [World.size_alloc]; omega) (fun e => hk2.2.2 e.symm)).trans ((Below.heap_alloc WS _ k (by omega)).trans (HOT.out k hk2.2.1))))
      · have HR : Hid ((goN ⟨2, false, false⟩ (start L way)).1 = (stepN ⟨2, false, false⟩ st c rest).1 ∧ ansB (goN ⟨2, false, false⟩ (start L way)) = ⟨#[]⟩ ∧ treeB L (goN ⟨2, false, false⟩ (start L way)) = L) := by
          have e1 := HGA.out.e1
          obtain ⟨f, rfl⟩ : ∃ g, f = g + 1 := ⟨f - 1, by have := HGA.out.fuel; omega⟩
          rw [goF_err hl h0] at e1
          exact ⟨e1, if_neg (by rw [e1]; exact h0), if_neg (by rw [e1]; exact h0)⟩
        have hS7 := setRow_heap w3 b7 _ (wk8 (.slice y1 y2 y3) hh3 (.slice m1 m2 m3) ho3 (.slice t1 ts.length t2) dn3 an3 (stepN ⟨2, false, false⟩ st c rest).1) _ (0, 0) hk73
        have hS6 : (w3.setRow b7 (wk8 (.slice y1 y2 y3) hh3 (.slice m1 m2 m3) ho3 (.slice t1 ts.length t2) dn3 an3 (stepN ⟨2, false, false⟩ st c rest).1)).heap[w.heap.size]? = some (.cells zw8 81 (0, 0)) := (setRow_other _ _ _ _ h67).trans hk63
        have d7 : (w3.setRow b7 (wk8 (.slice y1 y2 y3) hh3 (.slice m1 m2 m3) ho3 (.slice t1 ts.length t2) dn3 an3 (stepN ⟨2, false, false⟩ st c rest).1)).cell? ⟨b7, 7, none⟩ = some (.int .i64 (stepN ⟨2, false, false⟩ st c rest).1) := w8_cells hS7 rfl
        have HBF : Hid (Below w.heap.size w (w3.setRow b7 (wk8 (.slice y1 y2 y3) hh3 (.slice m1 m2 m3) ho3 (.slice t1 ts.length t2) dn3 an3 (stepN ⟨2, false, false⟩ st c rest).1))) := below_setRow' (HGA.out.bel.trans (HB3.out.mono hsw)) (by omega) _
        have h0' : ((stepN ⟨2, false, false⟩ st c rest).1 == 0) = false := by simpa using h0
        clear HIM hl h0 hMS
        generalize (stepN ⟨2, false, false⟩ st c rest).1 = n at *
        generalize hWS : w3.setRow b7 (wk8 (.slice y1 y2 y3) hh3 (.slice m1 m2 m3) ho3 (.slice t1 ts.length t2) dn3 an3 n) = WS at *
        go_wp2_with (first
          | (refine wpList_store_row rfl 81 (.tmp 7) (.tmp 20) rfl b7 (wk8 (.slice y1 y2 y3) hh3 (.slice m1 m2 m3) ho3 (.slice t1 ts.length t2) dn3 an3 n) rfl rfl 81 _ hk73 (info_w8 _ rfl) rfl (one_w8 _ _ _ _ _ _ _ _ _ _ _ _ _ _) ?_; rw [hWS])
          | (refine wpList_store_row rfl 81 (.tmp 6) (.tmp 27) rfl w.heap.size (wk8 (.slice a1 L.length c1) ⟨#[]⟩ (.slice none 0 0) 0 (.slice none 0 0) false ⟨#[]⟩ n) rfl rfl 81 zw8 hS6 (info_w8 _ rfl) rfl (one_w8 _ _ _ _ _ _ _ _ _ _ _ _ _ _) ?_))
        refine bodyPost_ret (results_cell_row rfl _ _ w.heap.size 81 _ (0, 0) _ rfl (setRow_heap _ w.heap.size _ _ _ (0, 0) hS6) Tryz.underlying81 rfl (info_w8 _ rfl)) rfl ?_
        refine ⟨below_setRow' HBF.out (Nat.le_refl _) _, _, ⟨#[]⟩, _, 0, _, false, ⟨#[]⟩, by rw [HR.out.1], HR.out.2.1.symm, ⟨_, _, _, rfl⟩, ⟨_, _, _, rfl⟩, ?_⟩
        rw [HR.out.2.2]
        exact (hEv.below (below_setRow' HBF.out (Nat.le_refl _) _)).weak (fun k hk => .inl hk)
end Go.Proofs.YtcefgnjgcnboeaaGreatDoor
