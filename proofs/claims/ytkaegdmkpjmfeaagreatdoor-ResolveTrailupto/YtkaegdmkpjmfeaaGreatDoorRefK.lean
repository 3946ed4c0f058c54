/- The document's Find and Trail. -/
import Derived.Test.YtkaegdmkpjmfeaaGreatDoorRefL
import Derived.Test.YtkaegdmkpjmfeaaGreatDoorTrailW
import Derived.Test.YtkaegdmkpjmfeaaGreatDoorWorksR

namespace Go.Proofs.YtkaegdmkpjmfeaaGreatDoor
open Go Go.RowKit
variable {a1 a3 : Option Addr} {n1 n3 c1 c3 : Nat}
def srtN (stay : Bool) : Int := if stay then 1 else 0
theorem join_ne {a b : ByteArray} (hb : b.size ≠ 0) : (joinB a b).size ≠ 0 := by
  unfold joinB
  split
  · exact hb
  · rw [ByteArray.size_append, ByteArray.size_append]; omega
theorem docstep {N : Nat → Prop} (stay : Bool) (st : St) (c : ByteArray) (rest : List ByteArray) (lv : Value) (w : World) (hl : st.left = c :: rest) (hv : LeftB N w lv st.left) (hEv : EntsAt w (.slice a1 st.L.length c1) st.L) (hLl : st.L.length ≤ 1073741824) (hR : Right st.L) {B : Nat} (hG : Good B st) (hB : B ≤ 1099511627776) (hcs : c.size ≠ 0) :
    Calls Tryz.prog 42 #[.agg (wk8 (.slice a1 st.L.length c1) st.here lv st.hops (.slice a3 n3 c3) false ⟨#[]⟩ 0), .int .i64 (srtN stay)] w (fun e w' => ∃ g, N g ∧ DocPost g w (.slice a1 st.L.length c1) (.slice a3 n3 c3) ⟨0, false, stay⟩ st c rest e w') := by
  obtain ⟨a, cap, g, o, rfl, ha, hcap, hcm, hc⟩ := hv
  have hcz : c.size ≤ B := hG.ps c (by rw [hl]; simp)
  have hln := hG.ln
  rw [hl] at ha hcap hc hln ⊢
  obtain ⟨rfl, hNg⟩ := ha (by simp)
  refine Calls.mono (R := DocPost g w (.slice a1 st.L.length c1) (.slice a3 n3 c3) ⟨0, false, stay⟩ st c rest) ?_ (fun e w' h => ⟨g, hNg, h⟩)
  rw [List.length_cons] at hcap hln ⊢
  have hh := hG.hh
  by_cases h1 : c = dotB
  · subst h1; exact docstep_dot (srtN stay) stay g o cap st rest w hcap hcm hc
  · by_cases h2 : c = ddB
    · subst h2; exact docstep_dd (srtN stay) stay g o cap st rest w hcap hcm hc hG.hs
    · have hF : Far st c := ⟨h1, h2, hG.hs, by omega⟩
      cases hge : getE st.L (joinB st.here c) with
      | none =>
        cases stay with
        | false => exact docstep_10_0 g o cap st c rest w hcap hcm hc hF hEv hLl hge (join_ne hcs)
        | true => exact docstep_10_1 g o cap st c rest w hcap hcm hc hF hEv hLl hge (join_ne hcs)
      | some e =>
        obtain ⟨he, _, _⟩ := get_mem hge
        have hw := hR e he
        have hkr : e.kind = 1 ∨ e.kind = 2 ∨ e.kind = 3 := by
          have h := hw
          unfold wrongN at h
          split at h
          · omega
          · rename_i hh; omega
        rcases hkr with hk | hk | hk
        · cases stay with
          | false => exact docstep_dir_0 g o cap st c rest w hcap hcm hc hF hEv hLl e hge hk
          | true => exact docstep_dir_1 g o cap st c rest w hcap hcm hc hF hEv hLl e hge hk
        · by_cases hr : rest = []
          · cases stay with
            | false => exact docstep_file_0 g o cap st c rest w hcap hcm hc hF hEv hLl e hge hk hr
            | true => exact docstep_file_1 g o cap st c rest w hcap hcm hc hF hEv hLl e hge hk hr
          · cases stay with
            | false => exact docstep_13_0 g o cap st c rest w hcap hcm hc hF hEv hLl e hge hk hr
            | true => exact docstep_13_1 g o cap st c rest w hcap hcm hc hF hEv hLl e hge hk hr
        · obtain ⟨l1, l2⟩ := wrong_link hw hk
          cases stay with
          | false =>
            by_cases h40 : st.hops = 40
            · exact docstep_12_0 g o cap st c rest w hcap hcm hc hF hEv hLl e hge hk h40
            · exact docstep_link_0 g o cap st c rest w hcap hcm hc hF hEv hLl e hge hk h40 hh l1 l2 (by omega)
          | true =>
            by_cases hr : rest = []
            · exact docstep_stay g o cap st c rest w hcap hcm hc hF hEv hLl e hge hk hr
            · by_cases h40 : st.hops = 40
              · exact docstep_12_1 g o cap st c rest w hcap hcm hc hF hEv hLl e hge hk h40 hr
              · exact docstep_link_1 g o cap st c rest w hcap hcm hc hF hEv hLl e hge hk h40 hh l1 l2 (by omega) hr
/-- The pieces of a way are not empty. -/
def FullL (l : List ByteArray) : Prop := ∀ c ∈ l, c.size ≠ 0
theorem names_full (s : ByteArray) : FullL (namesB s) := fun c hc => by
  have := (List.mem_filter.1 hc).2
  unfold full at this
  have h2 : c.toList.isEmpty = false := by simpa using this
  have := (isEmpty_false c).1 h2
  omega
theorem step_full {m : Mn} {st : St} {c : ByteArray} {rest : List ByteArray} (h : FullL st.left) (hl : st.left = c :: rest) (h0 : (stepN m st c rest).1 = 0) : FullL (stepN m st c rest).2.left := by
  have hr : FullL rest := fun x hx => h x (by rw [hl]; simp [hx])
  rcases step_more m st c rest h0 with ⟨_, h2⟩ | ⟨e, _, _, _, hst⟩
  · rw [h2]; exact hr
  · rw [hst]
    intro x hx
    rcases List.mem_append.1 hx with h1 | h1
    · exact names_full e.link x h1
    · exact hr x h1
end Go.Proofs.YtkaegdmkpjmfeaaGreatDoor

namespace Go.Proofs.YtkaegdmkpjmfeaaGreatDoor
open Go Go.RowKit

/-- What Go comes to. -/
def GoPost (w : World) (v : Value) (r : Int × St × List ByteArray) (e : Ending) (w' : World) : Prop :=
  Below w.heap.size w w' ∧ ∃ (hh : ByteArray) (lv : Value) (ho : Nat) (trv : Value) (dn : Bool) (an : ByteArray), e = .returned (.agg (wk8 v hh lv ho trv dn an r.1)) ∧ an = ansB r ∧ (∃ a n c, trv = .slice a n c) ∧ (∃ a n c, lv = .slice a n c) ∧ (r.1 ≠ 0 → trv = .slice none 0 0) ∧ (r.1 = 0 → w'.ownsRow w.heap.size 9 1 trv (⟨#[]⟩ :: r.2.2).length (tvs (⟨#[]⟩ :: r.2.2)))
/-- The loop's state. -/
structure GoAt (w wr : World) (b6 b7 : Nat) (v : Value) (L : List Ent) (stay : Bool) (way : ByteArray) (B : Nat) (st : St) (lv trv : Value) (ts : List ByteArray) (f : Nat) : Prop where
  k7 : wr.heap[b7]? = some (.cells (wk8 v st.here lv st.hops trv false ⟨#[]⟩ 0) 48)
  k6 : wr.heap[b6]? = some (.cells zw8 48 (0, 0))
  left : LeftB (fun k => k ≠ b6 ∧ k ≠ b7 ∧ trv.ownBlock ≠ some k) wr lv st.left
  row : wr.ownsRow (b6 + 1) 9 1 trv ts.length (tvs ts)
  off : trv.ownBlock ≠ some b7
  ents : EntsAt wr v L
  isL : st.L = L
  good : Good B st
  full : FullL st.left
  fuel : msr st < f
  e1 : (goN ⟨0, false, stay⟩ (start L way)).1 = (goF ⟨0, false, stay⟩ f st).1
  e2 : (goN ⟨0, false, stay⟩ (start L way)).2.1 = (goF ⟨0, false, stay⟩ f st).2.1
  e3 : ⟨#[]⟩ :: (goN ⟨0, false, stay⟩ (start L way)).2.2 = ts ++ (goF ⟨0, false, stay⟩ f st).2.2
  short : ts.length + msr st ≤ 2 * B + 9000
  bel : Below w.heap.size w wr
def msr8 (b7 : Nat) (W : World) : Nat := match W.cell? ⟨b7, 2, none⟩, W.cell? ⟨b7, 3, none⟩ with
  | some (.slice _ n _), some (.int _ h) => n + 200 * (40 - h.toNat)
  | _, _ => 0
theorem msr8_eq {w wr : World} {b6 b7 : Nat} {v : Value} {L : List Ent} {stay : Bool} {way : ByteArray} {B : Nat} {st : St} {lv trv : Value} {ts : List ByteArray} {f : Nat} (h : GoAt w wr b6 b7 v L stay way B st lv trv ts f) : msr8 b7 wr = msr st := by
  obtain ⟨a, c, g, o, rfl, _⟩ := h.left
  unfold msr8 msr
  rw [w8_cells (j := 2) (v := .slice a st.left.length c) h.k7 rfl, w8_cells (j := 3) (v := .int .i64 st.hops) h.k7 rfl]
  simp
set_option maxRecDepth 100000 in
set_option maxHeartbeats 8000000 in
theorem go_r (stay : Bool) (way : ByteArray) (L : List Ent) (a1 : Option Addr) (c1 : Nat) (w : World) (hEv : EntsAt w (.slice a1 L.length c1) L) (hLl : L.length ≤ 1073741824) (hR : Right L) (hw : way.size ≤ 1073741824) :
    Calls Tryz.prog 20 #[.slice a1 L.length c1, .string way, .int .i64 (srtN stay)] w (GoPost w (.slice a1 L.length c1) (goN ⟨0, false, stay⟩ (start L way))) := by
  obtain ⟨i0, hi, hz0, hz1, hz2⟩ := info_parts info_str'
  have hP := fun W => pieces_r way W (by omega)
  have hbA : Below w.heap.size w (w.alloc (.cells zw8 48)) := (Below.refl _ _).alloc (Nat.le_refl _) _
  go_enter Tryz.func20, Tryz.ntmps20
  go_wp2_with fail
  refine (hP _).mono ?_
  rintro e w1 ⟨u1, rfl, hu1, hb1⟩
  obtain ⟨q1, q2, rfl⟩ := row_form hu1
  have HB1 : Hid (Below w.heap.size w w1) := below_join hbA hb1
  have hs1 : w.heap.size + 1 ≤ w1.heap.size := by have := hb1.size; simpa using this
  have K6 : Hid (w1.heap[w.heap.size]? = some (.cells zw8 48 (0, 0))) := (hb1.block _ (by simp)).trans (World.alloc_heap_new w _)
  have hL0 : LeftB (fun k => w.heap.size + 1 ≤ k ∧ k < w1.heap.size) w1 (.slice q1 (namesB way).length q2) (namesB way) := by
    have h1 := leftB_of_owns (N := fun k => w.heap.size + 1 ≤ k) hu1 (fun k hk => by simpa using hk)
    exact h1.keep (fun k hk hl => ⟨⟨hk, hl⟩, rfl⟩)
  obtain ⟨b7, hb7⟩ : ∃ b7, b7 = w1.heap.size + 1 := ⟨_, rfl⟩
  have hst : GoAt w ((w1.alloc (.cells #[.string ⟨#[]⟩] 9)).alloc (.cells (wk8 (.slice a1 L.length c1) ⟨#[]⟩ (.slice q1 (namesB way).length q2) 0 (.slice (some ⟨w1.heap.size, 0, none⟩) 1 1) false ⟨#[]⟩ 0) 48)) w.heap.size b7 (.slice a1 L.length c1) L stay way (max way.size 100) (start L way) (.slice q1 (namesB way).length q2) (.slice (some ⟨w1.heap.size, 0, none⟩) 1 1) [⟨#[]⟩] (msr (start L way) + 1) := by
    have hbb : Below w1.heap.size w1 ((w1.alloc (.cells #[.string ⟨#[]⟩] 9)).alloc (.cells (wk8 (.slice a1 L.length c1) ⟨#[]⟩ (.slice q1 (namesB way).length q2) 0 (.slice (some ⟨w1.heap.size, 0, none⟩) 1 1) false ⟨#[]⟩ 0) 48)) := two_below _ _ _
    refine ⟨by rw [hb7]; exact new_two _ _ _ _, (hbb.block _ (by omega)).trans K6.out, hL0.keep (fun k hk hl => ⟨⟨by omega, by omega, by simp [Value.ownBlock]; omega⟩, hbb.block k hl⟩), ?_, by simp [Value.ownBlock]; omega, (hEv.below HB1.out).below hbb, rfl, start_good L way, names_full way, Nat.lt_succ_self _, rfl, rfl, rfl, ?_, below_join HB1.out hbb⟩
    · exact World.ownsRow.alloc ⟨rfl, .inr ⟨w1.heap.size, 1, #[.string ⟨#[]⟩], rfl, by omega, World.alloc_heap_new w1 _, Nat.le_refl _, by unfold maxLen; omega, rfl, rfl⟩⟩ _
    · have := names_len way
      have := Nat.le_max_left way.size 100
      unfold msr start
      simp; omega
  have HST : Hid _ := hst
  have hB : max way.size 100 ≤ 1073741824 := by omega
  generalize max way.size 100 = B at *
  clear hb1 hbA hu1 hL0 K6 hP hst
  go_wp2
  rw [← hb7]
  have hb7a : w.heap.size + 2 ≤ b7 := by omega
  clear hb7
  go_loopw [] (fun wr => ∃ st lv trv ts f, GoAt w wr w.heap.size b7 (.slice a1 L.length c1) L stay way B st lv trv ts f) (fun wr => msr8 b7 wr)
  case atStart => exact ⟨_, _, _, _, _, HST.out⟩
  case round =>
    obtain ⟨st, lv, trv, ts, f, hGA⟩ := hrel
    have HGA : Hid (GoAt w wr w.heap.size b7 (.slice a1 L.length c1) L stay way B st lv trv ts f) := hGA
    have hMS := msr8_eq hGA
    have h67 : w.heap.size ≠ b7 := by omega
    obtain ⟨t1, t2, rfl⟩ := row_form hGA.row
    obtain ⟨l1, l2, l3, l4, rfl, hclr⟩ := id hGA.left
    clear hclr
    have c2 : wr.cell? ⟨b7, 2, none⟩ = some (.slice l1 st.left.length l2) := w8_cells hGA.k7 rfl
    have c1' : wr.cell? ⟨b7, 1, none⟩ = some (.string st.here) := w8_cells hGA.k7 rfl
    have k7 := hGA.k7
    have hlt7 : b7 < wr.heap.size := (Array.getElem?_eq_some_iff.1 k7).1
    cases hl : st.left with
    | nil =>
      have hr0 : goF ⟨0, false, stay⟩ f st = (0, st, []) := goF_nil hl
      have HR : Hid ((goN ⟨0, false, stay⟩ (start L way)).1 = 0 ∧ ansB (goN ⟨0, false, stay⟩ (start L way)) = st.here ∧ ⟨#[]⟩ :: (goN ⟨0, false, stay⟩ (start L way)).2.2 = ts) := by
        have e1 := hGA.e1
        have e2 := hGA.e2
        have e3 := hGA.e3
        rw [hr0] at e1 e2 e3
        exact ⟨e1, by unfold ansB; rw [if_pos e1, e2], by rw [e3]; simp⟩
      have hk6 : ∀ w3, Below wr.heap.size wr w3 → w3.heap[w.heap.size]? = some (.cells zw8 48 (0, 0)) := fun w3 hb => (hb.block _ (Array.getElem?_eq_some_iff.1 HGA.out.k6).1).trans HGA.out.k6
      rw [hl] at c2 k7
      clear hGA hr0 hMS HST
      go_wp2_with (first
        | (refine wpList_load_row rfl 48 (.tmp 7) rfl b7 rfl 48 _ (0, 0) _ k7 Tryz.underlying48 rfl (info_w8 _ rfl) ?_)
        | (go_at_call 43; refine (ended_r _ _).mono ?_; rintro e w3 ⟨rfl, hb3⟩; have hk63 := hk6 _ hb3)
        | (refine wpList_store_row rfl 48 (.tmp 6) (.tmp 46) rfl w.heap.size (wk8 (.slice a1 L.length c1) st.here (.slice l1 ([] : List ByteArray).length l2) st.hops (.slice t1 ts.length t2) true st.here 0) rfl rfl 48 zw8 hk63 (info_w8 _ rfl) rfl (one_w8 _ _ _ _ _ _ _ _ _ _ _ _ _ _) ?_))
      refine bodyPost_ret (results_cell_row rfl _ _ w.heap.size 48 _ (0, 0) _ rfl (setRow_heap _ w.heap.size _ _ _ (0, 0) hk63) Tryz.underlying48 rfl (info_w8 _ rfl)) rfl ?_
      have hrw := HGA.out.row
      refine ⟨below_setRow' (HGA.out.bel.trans (hb3.mono HGA.out.bel.size)) (Nat.le_refl _) _, st.here, _, st.hops, _, true, st.here, by rw [HR.out.1], HR.out.2.1.symm, ⟨_, _, _, rfl⟩, ⟨_, _, _, rfl⟩, fun h => absurd HR.out.1 h, fun _ => ?_⟩
      rw [HR.out.2.2]
      refine owns_le (b := w.heap.size + 1) (row_loc hrw (fun k hk => ?_)) (by omega)
      have h1 := hrw.lt k hk
      exact (setRow_other _ _ _ _ (by omega)).trans (hb3.block k h1.2)
    | cons c rest =>
      have hln := hGA.good.ln
      rw [hl, List.length_cons] at hln
      have hhh := hGA.good.hh
      have hDS := docstep (a1 := a1) (c1 := c1) (a3 := t1) (n3 := ts.length) (c3 := t2) stay st c rest (.slice l1 st.left.length l2) wr hl hGA.left (by rw [hGA.isL]; exact hGA.ents) (by rw [hGA.isL]; exact hLl) (by rw [hGA.isL]; exact hR) hGA.good (by omega) (hGA.full c (by rw [hl]; simp))
      rw [hGA.isL] at hDS
      rw [hl, List.length_cons] at c2 k7 hDS
      have hpos : (0 : Int) < ((rest.length + 1 : Nat) : Int) := by omega
      have hk7 : ∀ w3, Below wr.heap.size wr w3 → w3.heap[b7]? = some (.cells (wk8 (.slice a1 L.length c1) st.here (.slice l1 (rest.length + 1) l2) st.hops (.slice t1 ts.length t2) false ⟨#[]⟩ 0) 48) := fun w3 hb => (hb.block _ hlt7).trans k7
      clear hGA HST
      go_wp2_with (first
        | (refine wpList_load_row rfl 48 (.tmp 7) rfl b7 rfl 48 (wk8 (.slice a1 L.length c1) st.here (.slice l1 (rest.length + 1) l2) st.hops (.slice t1 ts.length t2) false ⟨#[]⟩ 0) (0, 0) _ k7 Tryz.underlying48 rfl (info_w8 _ rfl) ?_)
        | fail)
      with_reducible refine hDS.mono ?_
      rintro e w3 ⟨g3, hN3, hb3, hh3, lv3, ho3, dn3, an3, rfl, ⟨m1, m2, m3, rfl⟩, him3⟩
      have hk73 := hk7 _ hb3
      have HB3 : Hid (Below wr.heap.size wr w3) := hb3
      have HIM : Hid _ := him3
      have HN3 : Hid (g3 ≠ w.heap.size ∧ g3 ≠ b7 ∧ (Value.slice t1 ts.length t2).ownBlock ≠ some g3) := hN3
      have hk63 : w3.heap[w.heap.size]? = some (.cells zw8 48 (0, 0)) := (hb3.block _ (Array.getElem?_eq_some_iff.1 HGA.out.k6).1).trans HGA.out.k6
      have hs3 := hb3.size
      have hsw := HGA.out.bel.size
      clear hDS hk7 hb3 him3 hN3 k7 c2 c1'
      by_cases h0 : (stepN ⟨0, false, stay⟩ st c rest).1 = 0
      · have hGn := step_good HGA.out.good hl (by rw [HGA.out.isL]; exact hR) h0
        have hKn := step_keeps (m := ⟨0, false, stay⟩) rfl h0
        have hMn := (step_msr _ st c rest hl (right_short (by rw [HGA.out.isL]; exact hR)) HGA.out.good.hh h0).1
        have hFn := step_full HGA.out.full hl h0
        obtain ⟨f, rfl⟩ : ∃ g, f = g + 1 := ⟨f - 1, by have := HGA.out.fuel; omega⟩
        have hgo := goF_ok (f := f) hl h0
        have HE : Hid ((goN ⟨0, false, stay⟩ (start L way)).1 = (goF ⟨0, false, stay⟩ f (stepN ⟨0, false, stay⟩ st c rest).2).1 ∧ (goN ⟨0, false, stay⟩ (start L way)).2.1 = (goF ⟨0, false, stay⟩ f (stepN ⟨0, false, stay⟩ st c rest).2).2.1 ∧ ⟨#[]⟩ :: (goN ⟨0, false, stay⟩ (start L way)).2.2 = (ts ++ [(stepN ⟨0, false, stay⟩ st c rest).2.here]) ++ (goF ⟨0, false, stay⟩ f (stepN ⟨0, false, stay⟩ st c rest).2).2.2) := by
          have e1 := HGA.out.e1
          have e2 := HGA.out.e2
          have e3 := HGA.out.e3
          rw [hgo] at e1 e2 e3
          exact ⟨e1, e2, by rw [e3]; simp⟩
        have HGn : Hid (Good B (stepN ⟨0, false, stay⟩ st c rest).2 ∧ (stepN ⟨0, false, stay⟩ st c rest).2.L = L ∧ msr (stepN ⟨0, false, stay⟩ st c rest).2 < msr st ∧ FullL (stepN ⟨0, false, stay⟩ st c rest).2.left) := ⟨hGn.1, hKn.1.trans HGA.out.isL, hMn, hFn⟩
        have HMS : Hid (msr8 b7 wr = msr st) := hMS
        have hcase := HIM.out h0
        rw [h0]
        clear HIM hGn hKn hMn hFn hgo h0
        rcases hcase with ⟨rfl, rfl, rfl, rfl, hLB⟩ | ⟨rfl, rfl, hle⟩
        · have HLB : Hid (LeftB (fun k => k = g3 ∨ wr.heap.size ≤ k) w3 (.slice m1 m2 m3) (stepN ⟨0, false, stay⟩ st c rest).2.left) := hLB
          clear hLB
          generalize hst' : (stepN ⟨0, false, stay⟩ st c rest).2 = s2 at *

          have hS7 := setRow_heap w3 b7 _ (wk8 (.slice a1 L.length c1) s2.here (.slice m1 m2 m3) s2.hops (.slice t1 ts.length t2) false ⟨#[]⟩ 0) _ (0, 0) hk73
          have hS6 : (w3.setRow b7 (wk8 (.slice a1 L.length c1) s2.here (.slice m1 m2 m3) s2.hops (.slice t1 ts.length t2) false ⟨#[]⟩ 0)).heap[w.heap.size]? = some (.cells zw8 48 (0, 0)) := (setRow_other _ _ _ _ h67).trans hk63
          have hTrow : (w3.setRow b7 (wk8 (.slice a1 L.length c1) s2.here (.slice m1 m2 m3) s2.hops (.slice t1 ts.length t2) false ⟨#[]⟩ 0)).ownsRow (w.heap.size + 1) 9 1 (.slice t1 ts.length t2) ts.length (tvs ts) := row_loc HGA.out.row (fun k hk => (setRow_other _ _ _ _ (fun e => HGA.out.off (by rw [← e]; exact hk))).trans (HB3.out.block k (HGA.out.row.lt k hk).2))
          have HSS : Hid ((w3.setRow b7 (wk8 (.slice a1 L.length c1) s2.here (.slice m1 m2 m3) s2.hops (.slice t1 ts.length t2) false ⟨#[]⟩ 0)).heap.size = w3.heap.size) := by unfold Hid; simp [World.setRow]
          have HBS : Hid (Below w.heap.size w (w3.setRow b7 (wk8 (.slice a1 L.length c1) s2.here (.slice m1 m2 m3) s2.hops (.slice t1 ts.length t2) false ⟨#[]⟩ 0))) := below_setRow' (HGA.out.bel.trans (HB3.out.mono hsw)) (by omega) _
          have d7 : (w3.setRow b7 (wk8 (.slice a1 L.length c1) s2.here (.slice m1 m2 m3) s2.hops (.slice t1 ts.length t2) false ⟨#[]⟩ 0)).cell? ⟨b7, 7, none⟩ = some (.int .i64 0) := w8_cells hS7 rfl
          have d1 : (w3.setRow b7 (wk8 (.slice a1 L.length c1) s2.here (.slice m1 m2 m3) s2.hops (.slice t1 ts.length t2) false ⟨#[]⟩ 0)).cell? ⟨b7, 1, none⟩ = some (.string s2.here) := w8_cells hS7 rfl
          have d5 : (w3.setRow b7 (wk8 (.slice a1 L.length c1) s2.here (.slice m1 m2 m3) s2.hops (.slice t1 ts.length t2) false ⟨#[]⟩ 0)).cell? ⟨b7, 5, none⟩ = some (.bool false) := w8_cells hS7 rfl
          have d6 : (w3.setRow b7 (wk8 (.slice a1 L.length c1) s2.here (.slice m1 m2 m3) s2.hops (.slice t1 ts.length t2) false ⟨#[]⟩ 0)).cell? ⟨b7, 6, none⟩ = some (.string ⟨#[]⟩) := w8_cells hS7 rfl
          have d4 : (w3.setRow b7 (wk8 (.slice a1 L.length c1) s2.here (.slice m1 m2 m3) s2.hops (.slice t1 ts.length t2) false ⟨#[]⟩ 0)).cell? ⟨b7, 4, none⟩ = some (.slice t1 ts.length t2) := w8_cells hS7 rfl
          have HOT : Hid (∀ k, k ≠ b7 → (w3.setRow b7 (wk8 (.slice a1 L.length c1) s2.here (.slice m1 m2 m3) s2.hops (.slice t1 ts.length t2) false ⟨#[]⟩ 0)).heap[k]? = w3.heap[k]?) := fun k hk => setRow_other _ _ _ _ hk
          have hlenT : ts.length ≤ 4398046511104 := by have := HGA.out.short; omega
          have hoff := HGA.out.off
          have hb7s : b7 < (w3.setRow b7 (wk8 (.slice a1 L.length c1) s2.here (.slice m1 m2 m3) s2.hops (.slice t1 ts.length t2) false ⟨#[]⟩ 0)).heap.size := by rw [HSS.out]; omega
          clear hl hMS
          generalize hWS : (w3.setRow b7 (wk8 (.slice a1 L.length c1) s2.here (.slice m1 m2 m3) s2.hops (.slice t1 ts.length t2) false ⟨#[]⟩ 0)) = WS at *
          go_wp2_with (first
            | (refine wpList_store_row rfl 48 (.tmp 7) (.tmp 20) rfl b7 (wk8 (.slice a1 L.length c1) s2.here (.slice m1 m2 m3) s2.hops (.slice t1 ts.length t2) false ⟨#[]⟩ 0) rfl rfl 48 _ hk73 (info_w8 _ rfl) rfl (one_w8 _ _ _ _ _ _ _ _ _ _ _ _ _ _) ?_; rw [hWS])
            | (at_builtin; refine wpList_append_own_at _ rfl _ _ 37 rfl (w.heap.size + 1) 9 i0 (.string ⟨#[]⟩) 1 16 Tryz.underlying37 hi hz0 hz1 hz2 rfl (by decide) _ _ _ rfl (hTrow.alloc _) ⟨WS.heap.size, 0, none⟩ 1 1 [.string s2.here] rfl rfl (cell_one_new _ _ _) (by simp [Value.oneCell']) (by unfold maxLen; omega) (by omega) (by rw [World.size_alloc]; have := HSS.out; omega) ?_; intro v5 w5 hown5 hgrow5 hcap5 hat5; obtain ⟨g5, p5, rfl⟩ := ownsRow_succ hown5; have k75 : w5.heap[b7]? = some (.cells (wk8 (.slice a1 L.length c1) s2.here (.slice m1 m2 m3) s2.hops (.slice t1 ts.length t2) false ⟨#[]⟩ 0) 48) := (hgrow5.block b7 (by rw [World.size_alloc]; omega) (fun e => hoff e.symm)).trans ((Below.heap_alloc WS _ b7 hb7s).trans hS7); have x4 : w5.cell? ⟨b7, 4, none⟩ = some (.slice t1 ts.length t2) := w8_cells k75 rfl; have y4 : w5.frozen? ⟨b7, 4, none⟩ = false := (by simp [World.frozen?, k75]); have x5 : (w5.setCell ⟨b7, 4, none⟩ (.slice (some ⟨g5, 0, none⟩) (ts.length + 1) p5)).cell? ⟨b7, 5, none⟩ = some (.bool false) := w8_cells (set_block k75 _) rfl))
          have hsS := HSS.out
          have hw5 : w3.heap.size + 1 ≤ w5.heap.size := by have := hgrow5.size; rw [World.size_alloc] at this; omega
          have hne5 : ∀ k, k < w3.heap.size → k ≠ b7 → (Value.slice t1 ts.length t2).ownBlock ≠ some k → (w5.setCell ⟨b7, 4, none⟩ (.slice (some ⟨g5, 0, none⟩) (ts.length + 1) p5)).heap[k]? = w3.heap[k]? := fun k hk h1 h2 =>
            (Below.heap_setCell _ _ _ _ h1).trans ((hgrow5.block k (by simp; omega) (fun e => h2 e.symm)).trans ((Below.heap_alloc WS _ k (by omega)).trans (HOT.out k h1)))
          have hg5 : ∀ k, k < w3.heap.size → (Value.slice t1 ts.length t2).ownBlock ≠ some k → (Value.slice (some ⟨g5, 0, none⟩) (ts.length + 1) p5).ownBlock ≠ some k := fun k hk h1 h2 => by
            rcases hat5 with h | h
            · exact h1 (h.symm.trans h2)
            · rw [h] at h2; simp at h2; omega
          have hb75 : (Value.slice (some ⟨g5, 0, none⟩) (ts.length + 1) p5).ownBlock ≠ some b7 := hg5 b7 (by omega) hoff
          have hb65 : (Value.slice (some ⟨g5, 0, none⟩) (ts.length + 1) p5).ownBlock ≠ some w.heap.size := fun e => by have := (hown5.lt _ e).1; omega
          have h6t : (Value.slice t1 ts.length t2).ownBlock ≠ some w.heap.size := fun e => by have := (HGA.out.row.lt _ e).1; omega
          have hB5 : Below w.heap.size w (w5.setCell ⟨b7, 4, none⟩ (.slice (some ⟨g5, 0, none⟩) (ts.length + 1) p5)) := ((HBS.out.alloc (by omega) _).grown hgrow5 (by simp; omega) (fun j hj => by have := (hTrow.lt j hj).1; omega)).setCell (p := ⟨b7, 4, none⟩) (show w.heap.size ≤ b7 by omega) _
          have hGA2 : GoAt w (w5.setCell ⟨b7, 4, none⟩ (.slice (some ⟨g5, 0, none⟩) (ts.length + 1) p5)) w.heap.size b7 (.slice a1 L.length c1) L stay way B s2 (.slice m1 m2 m3) (.slice (some ⟨g5, 0, none⟩) (ts.length + 1) p5) (ts ++ [s2.here]) f := by
            refine ⟨set_block k75 _, (hne5 _ (by omega) h67 h6t).trans hk63, HLB.out.keep (fun k hk hl => ?_), ?_, hb75, hEv.below hB5, HGn.out.2.1, HGn.out.1, HGn.out.2.2.2, by have := HGn.out.2.2.1; have := HGA.out.fuel; omega, HE.out.1, HE.out.2.1, HE.out.2.2, by rw [List.length_append]; have := HGn.out.2.2.1; have := HGA.out.short; simp; omega, hB5⟩
            · have hk2 : k ≠ w.heap.size ∧ k ≠ b7 ∧ (Value.slice t1 ts.length t2).ownBlock ≠ some k := by
                rcases hk with rfl | hk
                · exact HN3.out
                · exact ⟨by omega, by omega, fun e => by have := (HGA.out.row.lt k e).2; omega⟩
              exact ⟨⟨hk2.1, hk2.2.1, hg5 k hl hk2.2.2⟩, hne5 k hl hk2.2.1 hk2.2.2⟩
            · have := hown5.kept (grown_set w5 b7 4 (.slice (some ⟨g5, 0, none⟩) (ts.length + 1) p5)) (.inr hb75)
              rw [List.length_append, tvs_append]
              simpa [tvs] using this
          go_roundw
          case rel => exact ⟨_, _, _, _, _, hGA2⟩
          case measure => rw [msr8_eq hGA2, HMS.out]; exact HGn.out.2.2.1
        · have HLE : Hid ((stepN ⟨0, false, stay⟩ st c rest).2.left = []) := hle
          clear hle
          generalize hst' : (stepN ⟨0, false, stay⟩ st c rest).2 = s2 at *
          have hS7 := setRow_heap w3 b7 _ (wk8 (.slice a1 L.length c1) hh3 (.slice m1 m2 m3) ho3 (.slice t1 ts.length t2) true s2.here 0) _ (0, 0) hk73
          have hS6 : (w3.setRow b7 (wk8 (.slice a1 L.length c1) hh3 (.slice m1 m2 m3) ho3 (.slice t1 ts.length t2) true s2.here 0)).heap[w.heap.size]? = some (.cells zw8 48 (0, 0)) := (setRow_other _ _ _ _ h67).trans hk63
          have hTrow : (w3.setRow b7 (wk8 (.slice a1 L.length c1) hh3 (.slice m1 m2 m3) ho3 (.slice t1 ts.length t2) true s2.here 0)).ownsRow (w.heap.size + 1) 9 1 (.slice t1 ts.length t2) ts.length (tvs ts) := row_loc HGA.out.row (fun k hk => (setRow_other _ _ _ _ (fun e => HGA.out.off (by rw [← e]; exact hk))).trans (HB3.out.block k (HGA.out.row.lt k hk).2))
          have HSS : Hid ((w3.setRow b7 (wk8 (.slice a1 L.length c1) hh3 (.slice m1 m2 m3) ho3 (.slice t1 ts.length t2) true s2.here 0)).heap.size = w3.heap.size) := by unfold Hid; simp [World.setRow]
          have HBS : Hid (Below w.heap.size w (w3.setRow b7 (wk8 (.slice a1 L.length c1) hh3 (.slice m1 m2 m3) ho3 (.slice t1 ts.length t2) true s2.here 0))) := below_setRow' (HGA.out.bel.trans (HB3.out.mono hsw)) (by omega) _
          have d7 : (w3.setRow b7 (wk8 (.slice a1 L.length c1) hh3 (.slice m1 m2 m3) ho3 (.slice t1 ts.length t2) true s2.here 0)).cell? ⟨b7, 7, none⟩ = some (.int .i64 0) := w8_cells hS7 rfl
          have d1 : (w3.setRow b7 (wk8 (.slice a1 L.length c1) hh3 (.slice m1 m2 m3) ho3 (.slice t1 ts.length t2) true s2.here 0)).cell? ⟨b7, 1, none⟩ = some (.string hh3) := w8_cells hS7 rfl
          have d5 : (w3.setRow b7 (wk8 (.slice a1 L.length c1) hh3 (.slice m1 m2 m3) ho3 (.slice t1 ts.length t2) true s2.here 0)).cell? ⟨b7, 5, none⟩ = some (.bool true) := w8_cells hS7 rfl
          have d6 : (w3.setRow b7 (wk8 (.slice a1 L.length c1) hh3 (.slice m1 m2 m3) ho3 (.slice t1 ts.length t2) true s2.here 0)).cell? ⟨b7, 6, none⟩ = some (.string s2.here) := w8_cells hS7 rfl
          have d4 : (w3.setRow b7 (wk8 (.slice a1 L.length c1) hh3 (.slice m1 m2 m3) ho3 (.slice t1 ts.length t2) true s2.here 0)).cell? ⟨b7, 4, none⟩ = some (.slice t1 ts.length t2) := w8_cells hS7 rfl
          have HOT : Hid (∀ k, k ≠ b7 → (w3.setRow b7 (wk8 (.slice a1 L.length c1) hh3 (.slice m1 m2 m3) ho3 (.slice t1 ts.length t2) true s2.here 0)).heap[k]? = w3.heap[k]?) := fun k hk => setRow_other _ _ _ _ hk
          have hlenT : ts.length ≤ 4398046511104 := by have := HGA.out.short; omega
          have hoff := HGA.out.off
          have hb7s : b7 < (w3.setRow b7 (wk8 (.slice a1 L.length c1) hh3 (.slice m1 m2 m3) ho3 (.slice t1 ts.length t2) true s2.here 0)).heap.size := by rw [HSS.out]; omega
          clear hl hMS
          generalize hWS : (w3.setRow b7 (wk8 (.slice a1 L.length c1) hh3 (.slice m1 m2 m3) ho3 (.slice t1 ts.length t2) true s2.here 0)) = WS at *
          go_wp2_with (first
            | (refine wpList_store_row rfl 48 (.tmp 7) (.tmp 20) rfl b7 (wk8 (.slice a1 L.length c1) hh3 (.slice m1 m2 m3) ho3 (.slice t1 ts.length t2) true s2.here 0) rfl rfl 48 _ hk73 (info_w8 _ rfl) rfl (one_w8 _ _ _ _ _ _ _ _ _ _ _ _ _ _) ?_; rw [hWS])
            | (at_builtin; refine wpList_append_own_at _ rfl _ _ 37 rfl (w.heap.size + 1) 9 i0 (.string ⟨#[]⟩) 1 16 Tryz.underlying37 hi hz0 hz1 hz2 rfl (by decide) _ _ _ rfl (hTrow.alloc _) ⟨WS.heap.size, 0, none⟩ 1 1 [.string s2.here] rfl rfl (cell_one_new _ _ _) (by simp [Value.oneCell']) (by unfold maxLen; omega) (by omega) (by rw [World.size_alloc]; have := HSS.out; omega) ?_; intro v5 w5 hown5 hgrow5 hcap5 hat5; obtain ⟨g5, p5, rfl⟩ := ownsRow_succ hown5; have k75 : w5.heap[b7]? = some (.cells (wk8 (.slice a1 L.length c1) hh3 (.slice m1 m2 m3) ho3 (.slice t1 ts.length t2) true s2.here 0) 48) := (hgrow5.block b7 (by rw [World.size_alloc]; omega) (fun e => hoff e.symm)).trans ((Below.heap_alloc WS _ b7 hb7s).trans hS7); have x4 : w5.cell? ⟨b7, 4, none⟩ = some (.slice t1 ts.length t2) := w8_cells k75 rfl; have y4 : w5.frozen? ⟨b7, 4, none⟩ = false := (by simp [World.frozen?, k75]); have x5 : (w5.setCell ⟨b7, 4, none⟩ (.slice (some ⟨g5, 0, none⟩) (ts.length + 1) p5)).cell? ⟨b7, 5, none⟩ = some (.bool true) := w8_cells (set_block k75 _) rfl; have hT6 : (w5.setCell ⟨b7, 4, none⟩ (.slice (some ⟨g5, 0, none⟩) (ts.length + 1) p5)).heap[w.heap.size]? = some (.cells zw8 48 (0, 0)) := (Below.heap_setCell _ _ _ _ h67).trans ((hgrow5.block _ (by rw [World.size_alloc]; omega) (fun e => (by have := (hTrow.lt _ e.symm).1; omega))).trans ((Below.heap_alloc WS _ _ (by omega)).trans hS6)); have hT7 := set_block (i := 4) k75 (.slice (some ⟨g5, 0, none⟩) (ts.length + 1) p5))
            | (refine wpList_load_row rfl 48 (.tmp 7) rfl b7 rfl 48 _ (0, 0) _ hT7 Tryz.underlying48 rfl (info_w8 _ rfl) ?_)
            | (refine wpList_store_row rfl 48 (.tmp 6) (.tmp 42) rfl w.heap.size (wk8 (.slice a1 L.length c1) hh3 (.slice m1 m2 m3) ho3 (.slice (some ⟨g5, 0, none⟩) (ts.length + 1) p5) true s2.here 0) rfl rfl 48 zw8 hT6 (info_w8 _ rfl) rfl (one_w8 _ _ _ _ _ _ _ _ _ _ _ _ _ _) ?_))
          refine bodyPost_ret (results_cell_row rfl _ _ w.heap.size 48 _ (0, 0) _ rfl (setRow_heap _ w.heap.size _ _ _ (0, 0) hT6) Tryz.underlying48 rfl (info_w8 _ rfl)) rfl ?_
          have hsS := HSS.out
          have hgn : goF ⟨0, false, stay⟩ f s2 = (0, s2, []) := goF_nil HLE.out
          obtain ⟨e1, e2, e3⟩ := HE.out
          rw [hgn] at e1 e2 e3
          have hb75 : (Value.slice (some ⟨g5, 0, none⟩) (ts.length + 1) p5).ownBlock ≠ some b7 := fun e => by
            rcases hat5 with h | h
            · exact hoff (h.symm.trans e)
            · rw [h] at e; rw [World.size_alloc] at e; simp at e; omega
          have hB5 : Below w.heap.size w (w5.setCell ⟨b7, 4, none⟩ (.slice (some ⟨g5, 0, none⟩) (ts.length + 1) p5)) := ((HBS.out.alloc (by omega) _).grown hgrow5 (by rw [World.size_alloc]; omega) (fun j hj => by have := (hTrow.lt j hj).1; omega)).setCell (p := ⟨b7, 4, none⟩) (show w.heap.size ≤ b7 by omega) _
          refine ⟨below_setRow' hB5 (Nat.le_refl _) _, hh3, _, ho3, _, true, s2.here, by rw [e1], by unfold ansB; rw [if_pos e1, e2], ⟨_, _, _, rfl⟩, ⟨_, _, _, rfl⟩, fun h => absurd e1 h, fun _ => ?_⟩
          rw [e3, List.append_nil]
          refine owns_le (b := w.heap.size + 1) (row_loc (A := w5) ?_ (fun k hk => ?_)) (by omega)
          · rw [List.length_append, tvs_append]
            simpa [tvs] using hown5
          · have h1 := hown5.lt k hk
            exact (setRow_other _ _ _ _ (by omega)).trans (Below.heap_setCell _ _ _ _ (fun e => hb75 (by rw [hk]; exact congrArg some e)))
      · have HR : Hid ((goN ⟨0, false, stay⟩ (start L way)).1 = (stepN ⟨0, false, stay⟩ st c rest).1 ∧ ansB (goN ⟨0, false, stay⟩ (start L way)) = ⟨#[]⟩) := by
          have e1 := HGA.out.e1
          obtain ⟨f, rfl⟩ : ∃ g, f = g + 1 := ⟨f - 1, by have := HGA.out.fuel; omega⟩
          rw [goF_err hl h0] at e1
          exact ⟨e1, if_neg (by rw [e1]; exact h0)⟩
        have hS7 := setRow_heap w3 b7 _ (wk8 (.slice a1 L.length c1) hh3 (.slice m1 m2 m3) ho3 (.slice t1 ts.length t2) dn3 an3 (stepN ⟨0, false, stay⟩ st c rest).1) _ (0, 0) hk73
        have hS6 : (w3.setRow b7 (wk8 (.slice a1 L.length c1) hh3 (.slice m1 m2 m3) ho3 (.slice t1 ts.length t2) dn3 an3 (stepN ⟨0, false, stay⟩ st c rest).1)).heap[w.heap.size]? = some (.cells zw8 48 (0, 0)) := (setRow_other _ _ _ _ h67).trans hk63
        have d7 : (w3.setRow b7 (wk8 (.slice a1 L.length c1) hh3 (.slice m1 m2 m3) ho3 (.slice t1 ts.length t2) dn3 an3 (stepN ⟨0, false, stay⟩ st c rest).1)).cell? ⟨b7, 7, none⟩ = some (.int .i64 (stepN ⟨0, false, stay⟩ st c rest).1) := w8_cells hS7 rfl
        have HBF : Hid (Below w.heap.size w (w3.setRow b7 (wk8 (.slice a1 L.length c1) hh3 (.slice m1 m2 m3) ho3 (.slice t1 ts.length t2) dn3 an3 (stepN ⟨0, false, stay⟩ st c rest).1))) := below_setRow' (HGA.out.bel.trans (HB3.out.mono hsw)) (by omega) _
        have h0' : ((stepN ⟨0, false, stay⟩ st c rest).1 == 0) = false := by simpa using h0
        clear HIM hl h0 hMS
        generalize (stepN ⟨0, false, stay⟩ st c rest).1 = n at *
        generalize hWS : w3.setRow b7 (wk8 (.slice a1 L.length c1) hh3 (.slice m1 m2 m3) ho3 (.slice t1 ts.length t2) dn3 an3 n) = WS at *
        go_wp2_with (first
          | (refine wpList_store_row rfl 48 (.tmp 7) (.tmp 20) rfl b7 (wk8 (.slice a1 L.length c1) hh3 (.slice m1 m2 m3) ho3 (.slice t1 ts.length t2) dn3 an3 n) rfl rfl 48 _ hk73 (info_w8 _ rfl) rfl (one_w8 _ _ _ _ _ _ _ _ _ _ _ _ _ _) ?_; rw [hWS])
          | (refine wpList_store_row rfl 48 (.tmp 6) (.tmp 27) rfl w.heap.size (wk8 (.slice a1 L.length c1) ⟨#[]⟩ (.slice none 0 0) 0 (.slice none 0 0) false ⟨#[]⟩ n) rfl rfl 48 zw8 hS6 (info_w8 _ rfl) rfl (one_w8 _ _ _ _ _ _ _ _ _ _ _ _ _ _) ?_))
        refine bodyPost_ret (results_cell_row rfl _ _ w.heap.size 48 _ (0, 0) _ rfl (setRow_heap _ w.heap.size _ _ _ (0, 0) hS6) Tryz.underlying48 rfl (info_w8 _ rfl)) rfl ?_
        exact ⟨below_setRow' HBF.out (Nat.le_refl _) _, ⟨#[]⟩, _, 0, _, false, ⟨#[]⟩, by rw [HR.out.1], HR.out.2.symm, ⟨_, _, _, rfl⟩, ⟨_, _, _, rfl⟩, fun _ => rfl, fun h => absurd h (by rw [HR.out.1]; simpa using h0')⟩
end Go.Proofs.YtkaegdmkpjmfeaaGreatDoor

namespace Go.Proofs.YtkaegdmkpjmfeaaGreatDoor
open Go Go.RowKit

set_option maxRecDepth 100000 in
set_option maxHeartbeats 4000000 in
theorem find_d_true (way : ByteArray) (L : List Ent) (a1 : Option Addr) (c1 : Nat) (w : World) (hEv : EntsAt w (.slice a1 L.length c1) L) (hLl : L.length ≤ 1073741824) (hR : Right L) (hw : way.size ≤ 1073741824) :
    Calls Tryz.prog 11 #[.slice a1 L.length c1, .string way, .bool true] w fun e w' => e = .returned (.tuple #[.string (ansB (goN ⟨0, false, false⟩ (start L way))), .int .i64 (goN ⟨0, false, false⟩ (start L way)).1]) ∧ Below w.heap.size w w' := by
  have hG := go_r false way L a1 c1 w hEv hLl hR hw
  rw [show srtN false = 0 from rfl] at hG
  go_enter Tryz.func11, Tryz.ntmps11
  go_wp2_with fail
  refine hG.mono ?_
  rintro e w1 ⟨hb1, hh, lv, ho, trv, dn, an, rfl, rfl, ⟨x1, x2, x3, rfl⟩, ⟨y1, y2, y3, rfl⟩, ht0, ht1⟩
  have HT0 : Hid _ := ht0
  have HT1 : Hid ((goN ⟨0, false, false⟩ (start L way)).1 = 0 → w1.ownsRow w.heap.size 9 1 (.slice x1 x2 x3) (⟨#[]⟩ :: (goN ⟨0, false, false⟩ (start L way)).2.2).length (tvs (⟨#[]⟩ :: (goN ⟨0, false, false⟩ (start L way)).2.2))) := ht1
  clear ht0 ht1 hG
  have hnew : (w1.alloc (.cells (wk8 (.slice a1 L.length c1) hh (.slice y1 y2 y3) ho (.slice x1 x2 x3) dn (ansB (goN ⟨0, false, false⟩ (start L way))) (goN ⟨0, false, false⟩ (start L way)).1) 48)).heap[w1.heap.size]? = some (.cells (wk8 (.slice a1 L.length c1) hh (.slice y1 y2 y3) ho (.slice x1 x2 x3) dn (ansB (goN ⟨0, false, false⟩ (start L way))) (goN ⟨0, false, false⟩ (start L way)).1) 48) := World.alloc_heap_new w1 _
  have d6 := w8_cells (j := 6) (v := .string (ansB (goN ⟨0, false, false⟩ (start L way)))) hnew rfl
  have d7 := w8_cells (j := 7) (v := .int .i64 (goN ⟨0, false, false⟩ (start L way)).1) hnew rfl
  have HB : Hid (Below w.heap.size w (w1.alloc (.cells (wk8 (.slice a1 L.length c1) hh (.slice y1 y2 y3) ho (.slice x1 x2 x3) dn (ansB (goN ⟨0, false, false⟩ (start L way))) (goN ⟨0, false, false⟩ (start L way)).1) 48))) := hb1.alloc hb1.size _
  have HBX : Hid (Below w1.heap.size w1 (w1.alloc (.cells (wk8 (.slice a1 L.length c1) hh (.slice y1 y2 y3) ho (.slice x1 x2 x3) dn (ansB (goN ⟨0, false, false⟩ (start L way))) (goN ⟨0, false, false⟩ (start L way)).1) 48))) := (Below.refl _ _).alloc (Nat.le_refl _) _
  clear hnew
  go_wp2
  generalize w1.alloc (.cells (wk8 (.slice a1 L.length c1) hh (.slice y1 y2 y3) ho (.slice x1 x2 x3) dn (ansB (goN ⟨0, false, false⟩ (start L way))) (goN ⟨0, false, false⟩ (start L way)).1) 48) = W2 at *
  go_quiet (fail)
  go_wp2
  go_ret2
  exact ⟨rfl, HB.out.trans ⟨rfl, rfl, rfl, Nat.le_refl _, fun _ _ => rfl⟩⟩
set_option maxRecDepth 100000 in
set_option maxHeartbeats 4000000 in
theorem find_d_false (way : ByteArray) (L : List Ent) (a1 : Option Addr) (c1 : Nat) (w : World) (hEv : EntsAt w (.slice a1 L.length c1) L) (hLl : L.length ≤ 1073741824) (hR : Right L) (hw : way.size ≤ 1073741824) :
    Calls Tryz.prog 11 #[.slice a1 L.length c1, .string way, .bool false] w fun e w' => e = .returned (.tuple #[.string (ansB (goN ⟨0, false, true⟩ (start L way))), .int .i64 (goN ⟨0, false, true⟩ (start L way)).1]) ∧ Below w.heap.size w w' := by
  have hG := go_r true way L a1 c1 w hEv hLl hR hw
  rw [show srtN true = 1 from rfl] at hG
  go_enter Tryz.func11, Tryz.ntmps11
  go_wp2_with fail
  refine hG.mono ?_
  rintro e w1 ⟨hb1, hh, lv, ho, trv, dn, an, rfl, rfl, ⟨x1, x2, x3, rfl⟩, ⟨y1, y2, y3, rfl⟩, ht0, ht1⟩
  have HT0 : Hid _ := ht0
  have HT1 : Hid ((goN ⟨0, false, true⟩ (start L way)).1 = 0 → w1.ownsRow w.heap.size 9 1 (.slice x1 x2 x3) (⟨#[]⟩ :: (goN ⟨0, false, true⟩ (start L way)).2.2).length (tvs (⟨#[]⟩ :: (goN ⟨0, false, true⟩ (start L way)).2.2))) := ht1
  clear ht0 ht1 hG
  have hnew : (w1.alloc (.cells (wk8 (.slice a1 L.length c1) hh (.slice y1 y2 y3) ho (.slice x1 x2 x3) dn (ansB (goN ⟨0, false, true⟩ (start L way))) (goN ⟨0, false, true⟩ (start L way)).1) 48)).heap[w1.heap.size]? = some (.cells (wk8 (.slice a1 L.length c1) hh (.slice y1 y2 y3) ho (.slice x1 x2 x3) dn (ansB (goN ⟨0, false, true⟩ (start L way))) (goN ⟨0, false, true⟩ (start L way)).1) 48) := World.alloc_heap_new w1 _
  have d6 := w8_cells (j := 6) (v := .string (ansB (goN ⟨0, false, true⟩ (start L way)))) hnew rfl
  have d7 := w8_cells (j := 7) (v := .int .i64 (goN ⟨0, false, true⟩ (start L way)).1) hnew rfl
  have HB : Hid (Below w.heap.size w (w1.alloc (.cells (wk8 (.slice a1 L.length c1) hh (.slice y1 y2 y3) ho (.slice x1 x2 x3) dn (ansB (goN ⟨0, false, true⟩ (start L way))) (goN ⟨0, false, true⟩ (start L way)).1) 48))) := hb1.alloc hb1.size _
  have HBX : Hid (Below w1.heap.size w1 (w1.alloc (.cells (wk8 (.slice a1 L.length c1) hh (.slice y1 y2 y3) ho (.slice x1 x2 x3) dn (ansB (goN ⟨0, false, true⟩ (start L way))) (goN ⟨0, false, true⟩ (start L way)).1) 48))) := (Below.refl _ _).alloc (Nat.le_refl _) _
  clear hnew
  go_wp2
  generalize w1.alloc (.cells (wk8 (.slice a1 L.length c1) hh (.slice y1 y2 y3) ho (.slice x1 x2 x3) dn (ansB (goN ⟨0, false, true⟩ (start L way))) (goN ⟨0, false, true⟩ (start L way)).1) 48) = W2 at *
  go_quiet (fail)
  go_wp2
  go_ret2
  exact ⟨rfl, HB.out.trans ⟨rfl, rfl, rfl, Nat.le_refl _, fun _ _ => rfl⟩⟩
set_option maxRecDepth 100000 in
set_option maxHeartbeats 4000000 in
theorem trail_d (way : ByteArray) (L : List Ent) (a1 : Option Addr) (c1 : Nat) (w : World) (hEv : EntsAt w (.slice a1 L.length c1) L) (hLl : L.length ≤ 1073741824) (hR : Right L) (hw : way.size ≤ 1073741824) :
    Calls Tryz.prog 16 #[.slice a1 L.length c1, .string way] w fun e w' => ∃ v, e = .returned (.tuple #[v, .int .i64 (goN ⟨0, false, false⟩ (start L way)).1]) ∧ (∃ a n c, v = .slice a n c) ∧ ((goN ⟨0, false, false⟩ (start L way)).1 ≠ 0 → v = .slice none 0 0) ∧ ((goN ⟨0, false, false⟩ (start L way)).1 = 0 → w'.ownsRow w.heap.size 9 1 v (⟨#[]⟩ :: (goN ⟨0, false, false⟩ (start L way)).2.2).length (tvs (⟨#[]⟩ :: (goN ⟨0, false, false⟩ (start L way)).2.2))) ∧ Below w.heap.size w w' := by
  have hG := go_r false way L a1 c1 w hEv hLl hR hw
  rw [show srtN false = 0 from rfl] at hG
  go_enter Tryz.func16, Tryz.ntmps16
  go_wp2_with fail
  refine hG.mono ?_
  rintro e w1 ⟨hb1, hh, lv, ho, trv, dn, an, rfl, rfl, ⟨x1, x2, x3, rfl⟩, ⟨y1, y2, y3, rfl⟩, ht0, ht1⟩
  have HT0 : Hid _ := ht0
  have HT1 : Hid ((goN ⟨0, false, false⟩ (start L way)).1 = 0 → w1.ownsRow w.heap.size 9 1 (.slice x1 x2 x3) (⟨#[]⟩ :: (goN ⟨0, false, false⟩ (start L way)).2.2).length (tvs (⟨#[]⟩ :: (goN ⟨0, false, false⟩ (start L way)).2.2))) := ht1
  clear ht0 ht1 hG
  have hnew : (w1.alloc (.cells (wk8 (.slice a1 L.length c1) hh (.slice y1 y2 y3) ho (.slice x1 x2 x3) dn (ansB (goN ⟨0, false, false⟩ (start L way))) (goN ⟨0, false, false⟩ (start L way)).1) 48)).heap[w1.heap.size]? = some (.cells (wk8 (.slice a1 L.length c1) hh (.slice y1 y2 y3) ho (.slice x1 x2 x3) dn (ansB (goN ⟨0, false, false⟩ (start L way))) (goN ⟨0, false, false⟩ (start L way)).1) 48) := World.alloc_heap_new w1 _
  have d6 := w8_cells (j := 4) (v := .slice x1 x2 x3) hnew rfl
  have d7 := w8_cells (j := 7) (v := .int .i64 (goN ⟨0, false, false⟩ (start L way)).1) hnew rfl
  have HB : Hid (Below w.heap.size w (w1.alloc (.cells (wk8 (.slice a1 L.length c1) hh (.slice y1 y2 y3) ho (.slice x1 x2 x3) dn (ansB (goN ⟨0, false, false⟩ (start L way))) (goN ⟨0, false, false⟩ (start L way)).1) 48))) := hb1.alloc hb1.size _
  have HBX : Hid (Below w1.heap.size w1 (w1.alloc (.cells (wk8 (.slice a1 L.length c1) hh (.slice y1 y2 y3) ho (.slice x1 x2 x3) dn (ansB (goN ⟨0, false, false⟩ (start L way))) (goN ⟨0, false, false⟩ (start L way)).1) 48))) := (Below.refl _ _).alloc (Nat.le_refl _) _
  clear hnew
  go_wp2
  generalize w1.alloc (.cells (wk8 (.slice a1 L.length c1) hh (.slice y1 y2 y3) ho (.slice x1 x2 x3) dn (ansB (goN ⟨0, false, false⟩ (start L way))) (goN ⟨0, false, false⟩ (start L way)).1) 48) = W2 at *
  go_quiet (fail)
  go_wp2
  go_ret2
  exact ⟨_, rfl, ⟨_, _, _, rfl⟩, HT0.out, fun h => row_loc (HT1.out h) (fun k hk => HBX.out.block k ((HT1.out h).lt k hk).2), HB.out.trans ⟨rfl, rfl, rfl, Nat.le_refl _, fun _ _ => rfl⟩⟩
theorem find_d (last : Bool) (way : ByteArray) (L : List Ent) (a1 : Option Addr) (c1 : Nat) (w : World) (hEv : EntsAt w (.slice a1 L.length c1) L) (hLl : L.length ≤ 1073741824) (hR : Right L) (hw : way.size ≤ 1073741824) :
    Calls Tryz.prog 11 #[.slice a1 L.length c1, .string way, .bool last] w fun e w' => e = .returned (.tuple #[.string (ansB (findR L way last)), .int .i64 (findR L way last).1]) ∧ Below w.heap.size w w' := by
  cases last with
  | true => exact find_d_true way L a1 c1 w hEv hLl hR hw
  | false => exact find_d_false way L a1 c1 w hEv hLl hR hw
end Go.Proofs.YtkaegdmkpjmfeaaGreatDoor
