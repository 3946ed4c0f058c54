/- A variable's value, and what each piece does to the text. -/
import Derived.Test.YtbmakfdljddhcaaGreatDoorTvW
namespace Go.Proofs.YtbmakfdljddhcaaGreatDoor
open Go Go.RowKit Go.Maps

theorem key_size {n : ByteArray} (h : n.size ≤ 1099511627776) : keyOf Tryz.prog 9 (.string n) = some (kS n) := WideMaps.keyOf_string_mk (P := Tryz.prog) Tryz.underlying9 (by unfold maxLen; omega)
set_option maxHeartbeats 8000000 in
set_option maxRecDepth 100000 in
theorem value_p (n : ByteArray) (W : World) (B T : Nat) (vs : List PrZ) (t : TS) (vv mp ad bv : Value) (h : Tz W B T vs t vv mp ad bv) (hf : FewP vs) (hn : n.size ≤ 1099511627776) (hB : B ≤ W.heap.size) : Calls Tryz.prog 167 #[.pointer (some ⟨T, 0, none⟩), .string n] W fun x w' => x = .returned (.string (bs (valL (prL vs) (un n)))) ∧ ∃ mp2, Tz w' B T vs t vv mp2 ad bv ∧ Rnd (txS T mp bv) (txS T mp2 bv) W w' := by
  have hkd := key_size hn
  have hprs := h.prs
  obtain ⟨a, cap, b, o, rfl, ha, hcap, hc⟩ := hprs
  have qT : ∀ (w : World) (r : Option Nat), (binOp .eql 146 (.map r) (.map none)).run Tryz.prog w = .ok (.bool r.isNone) w := fun w r => run_eql_map_nil w _ _ _ r Tryz.underlying146
  have hLP := lastPairs_p vs (.slice a vs.length cap) W (h.prs.mono hB) hf
  have HA : Hid (vs ≠ [] → a = some ⟨b, o, none⟩) := ha
  have hvl : vs.length ≤ 1048576 := hf.1
  have HC : Hid (∀ W2 : World, (∀ j, j < B → W2.heap[j]? = W.heap[j]?) → ∀ (i : Nat) (e : PrZ), vs[i]? = some e → PrC W2 b (o + i * 2) e) := fun W2 hk i e he => by
    obtain ⟨hb, c⟩ := hc i e he
    have e2 : ∀ q, W2.cell? ⟨b, q, none⟩ = W.cell? ⟨b, q, none⟩ := fun q => by simp [World.cell?, hk b hb]
    exact ⟨(e2 _).trans c.c0, (e2 _).trans c.c1⟩
  have f0 := h.lies.cell (i := 0) rfl
  have f1 := h.lies.cell (i := 1) rfl
  have fr1 := h.lies.frozen 1
  have HT : Hid (Tz W B T vs t (.slice a vs.length cap) mp ad bv) := h
  have hmp := h.map
  clear h hc ha hf
  -- what is looked up in a world in which the map stands
  have look : ∀ (W2 : World) (g m : Nat) (D : DataW Unit), W2.ownsMap Tryz.prog 9 (plainElem Tryz.prog 3) g m D → LastOK vs vs.length D → (has D (kS n) = false ∧ valL (prL vs) (un n) = []) ∨ ∃ (i : Nat) (x : PrZ), has D (kS n) = true ∧ (∀ z, D.atKey (kS n) z = .lit (.int .i64 (i : Int))) ∧ i < vs.length ∧ vs[i]? = some x ∧ valL (prL vs) (un n) = un x.val := fun W2 g m D _ hok => by
    cases hh : has D (kS n) with
    | false =>
      refine .inl ⟨rfl, val_none fun i x hx => (hok n).1 hh i x (List.getElem?_eq_some_iff.1 hx).1 hx⟩
    | true =>
      obtain ⟨i, x, h1, h2, h3, h4, h5⟩ := (hok n).2 hh
      exact .inr ⟨i, x, rfl, h4, h1, h2, val_last h2 h3 (fun j y hj hy => h5 j y hj (List.getElem?_eq_some_iff.1 hy).1 hy)⟩
  have HLook : Hid _ := look
  clear look
  rcases hmp with rfl | ⟨g, m, D, rfl, hgB, hown, hok⟩
  · go_enter Tryz.func167, Tryz.ntmps167
    go_wp2_with fail
    refine hLP.mono ?_
    rintro x w1 ⟨g, rfl, hg, ⟨m, D, hown, hok⟩, hb⟩
    have hsz := hb.size
    have ekB : ∀ j, j < W.heap.size → w1.heap[j]? = W.heap[j]? := fun j hj => hb.block j hj
    have h1 : Tz w1 B T vs t (.slice a vs.length cap) (.map none) ad bv := HT.out.keep (fun j hj => ekB j (by
      rcases hj with hj | hj
      · omega
      · exact HT.out.there j hj))
    have z0 := h1.lies.cell (i := 0) rfl
    have z1 := h1.lies.cell (i := 1) rfl
    have zr1 := h1.lies.frozen 1
    have hTl := h1.lies.lt
    have hTl0 := HT.out.lies.lt
    have hgT : g ≠ T := by omega
    have ekT : ∀ j, j ≠ T → (w1.setCell ⟨T, 1, none⟩ (.map (some g))).heap[j]? = w1.heap[j]? := fun j hj => Below.heap_setCell _ _ _ _ (fun e => hj e)
    have hown2 : (w1.setCell ⟨T, 1, none⟩ (.map (some g))).ownsMap Tryz.prog 9 (plainElem Tryz.prog 3) g m D := own_mapK hown (ekT g hgT)
    have hL2 := h1.lies.set (i := 1) (.map (some g))
    have hlow := h1.low
    have HL2 : Hid (Tz (w1.setCell ⟨T, 1, none⟩ (.map (some g))) B T vs t (.slice a vs.length cap) (.map (some g)) ad bv) := by
      refine ⟨hL2, h1.prs.keep (fun j hj => ekT j (by omega)), h1.adr, ⟨h1.own.1, ?_⟩, .inr ⟨g, m, D, rfl, by omega, hown2, hok⟩, h1.low⟩
      rcases h1.own.2 with h9 | ⟨q, qc, cur, h9, hb9, hg9, h8⟩
      · exact .inl h9
      · exact .inr ⟨q, qc, cur, h9, hb9, (ekT q (fun e => h1.bne (by rw [h9]; simp [Value.ownBlock, e]))).trans hg9, h8⟩
    have hsz2 : (w1.setCell ⟨T, 1, none⟩ (.map (some g))).heap.size = w1.heap.size := by simp [World.setCell]
    have hgl : g < w1.heap.size := hown.lt
    have hRn : Rnd (txS T (.map none) bv) (txS T (.map (some g)) bv) W (w1.setCell ⟨T, 1, none⟩ (.map (some g))) := by
      have r0 : Rnd (txS T (.map none) bv) (txS T (.map none) bv) W w1 := ⟨hb.os, hb.tape, hb.output, hb.size, fun k hk _ => ekB k hk, fun _ h => .inl h⟩
      refine (r0.set (b := T) (i := 1) (.inl rfl) (.map (some g))).to (fun j hj => ?_)
      rcases hj with hj | hj | hj
      · exact .inl (.inl hj)
      · injection hj with hj; injection hj with hj; subst hj
        exact .inr ⟨hg, by rw [hsz2]; exact hgl⟩
      · exact .inl (.inr (.inr hj))
    have HRn : Hid _ := hRn
    have hCC : Hid (∀ (i : Nat) (e : PrZ), vs[i]? = some e → PrC (w1.setCell ⟨T, 1, none⟩ (.map (some g))) b (o + i * 2) e) := HC.out _ (fun j hj => (ekT j (by omega)).trans (ekB j (by omega)))
    clear hRn h1 ekT ekB f0 f1 fr1 hb
    rcases HLook.out _ g m D hown2 hok with ⟨hh, hv⟩ | ⟨i, x, hh, hat, hi, hx, hv⟩
    · have HV : Hid _ := hv
      have HH : Hid _ := hh
      clear hh hv hok
      go_wp2_with (at_lookup; refine wpList_lookup_own_ok_int _ rfl _ _ 146 rfl 9 3 .i64 str_keyed Tryz.underlying146 Tryz.underlying3 (zero_int _) g m D rfl hown2 _ _ rfl hkd ?_; intro c hat2 hwc; rw [HH.out])
      go_ret
      exact ⟨by rw [HV.out]; rfl, _, HL2.out, HRn.out⟩
    · have HV : Hid _ := hv
      have HH : Hid _ := hh
      have HAt : Hid _ := hat
      obtain ⟨c0, c1⟩ := hCC.out i x hx
      obtain rfl := HA.out (fun e => by rw [e] at hi; simp at hi)
      have d0 : (0 : Int) ≤ (i : Int) := by omega
      have d1 : (i : Int) < (vs.length : Int) := by omega
      have y0 := HL2.out.lies.cell (i := 0) rfl
      clear hh hv hok hat hx
      go_wp2_with (at_lookup; refine wpList_lookup_own_ok_int _ rfl _ _ 146 rfl 9 3 .i64 str_keyed Tryz.underlying146 Tryz.underlying3 (zero_int _) g m D rfl hown2 _ _ rfl hkd ?_; intro c hat2 hwc; obtain rfl : c = (i : Int) := (by have h := (HAt.out _).symm.trans hat2; injection h with h; injection h with h1 h2; exact h2.symm); rw [HH.out])
      go_ret
      exact ⟨by rw [HV.out, bs_un]; rfl, _, HL2.out, HRn.out⟩
  · have hCC : Hid (∀ (i : Nat) (e : PrZ), vs[i]? = some e → PrC W b (o + i * 2) e) := HC.out _ (fun j hj => rfl)
    have HRn : Hid (Rnd (txS T (.map (some g)) bv) (txS T (.map (some g)) bv) W W) := Rnd.refl _ _
    rcases HLook.out _ g m D hown hok with ⟨hh, hv⟩ | ⟨i, x, hh, hat, hi, hx, hv⟩
    · have HV : Hid _ := hv
      have HH : Hid _ := hh
      clear hh hv hok hLP
      go_enter Tryz.func167, Tryz.ntmps167
      go_wp2_with (at_lookup; refine wpList_lookup_own_ok_int _ rfl _ _ 146 rfl 9 3 .i64 str_keyed Tryz.underlying146 Tryz.underlying3 (zero_int _) g m D rfl hown _ _ rfl hkd ?_; intro c hat2 hwc; rw [HH.out])
      go_ret
      exact ⟨by rw [HV.out]; rfl, _, HT.out, HRn.out⟩
    · have HV : Hid _ := hv
      have HH : Hid _ := hh
      have HAt : Hid _ := hat
      obtain ⟨c0, c1⟩ := hCC.out i x hx
      obtain rfl := HA.out (fun e => by rw [e] at hi; simp at hi)
      have d0 : (0 : Int) ≤ (i : Int) := by omega
      have d1 : (i : Int) < (vs.length : Int) := by omega
      clear hh hv hok hat hx hLP
      go_enter Tryz.func167, Tryz.ntmps167
      go_wp2_with (at_lookup; refine wpList_lookup_own_ok_int _ rfl _ _ 146 rfl 9 3 .i64 str_keyed Tryz.underlying146 Tryz.underlying3 (zero_int _) g m D rfl hown _ _ rfl hkd ?_; intro c hat2 hwc; obtain rfl : c = (i : Int) := (by have h := (HAt.out _).symm.trans hat2; injection h with h; injection h with h1 h2; exact h2.symm); rw [HH.out])
      go_ret
      exact ⟨by rw [HV.out, bs_un]; rfl, _, HT.out, HRn.out⟩
end Go.Proofs.YtbmakfdljddhcaaGreatDoor
