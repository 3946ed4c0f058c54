/- Package digest's Clash. -/
import Derived.Test.YtmohlmodaibbaaaDoorClashK
import Derived.Test.YtmohlmodaibbaaaDoorSum3
import Derived.Carry
namespace Go.Proofs.YtmohlmodaibbaaaDoor
open Go Go.RowKit Go.Maps

theorem info_int : (Tryd.prog.info? 3).map (fun i => (i.zero, i.size)) = some (some (.int .i64 0), 1) := by kernel_rfl
theorem zero_int (W : World) : (zeroValue 3).run Tryd.prog W = .ok (.int .i64 0) W := (zero_of_info (P := Tryd.prog) info_int).1 W
def ClashPost (n : Int) (l : List ByteArray) (w : World) (e : Ending) (w' : World) : Prop := ∃ (i j : Nat) (ok : Bool), e = .returned (.tuple #[.int .i64 i, .int .i64 j, .bool ok]) ∧ ClashIs (fun x => sumB (widthN n) (un x)) l i j ok ∧ Below w.heap.size w w'
theorem own_map_below {w w' : World} {b m : Nat} {D : DataW Unit} (h : w.ownsMap Tryd.prog 32 (plainElem Tryd.prog 3) b m D) (hb : Below w.heap.size w w') : w'.ownsMap Tryd.prog 32 (plainElem Tryd.prog 3) b m D := by
  have hl := h.lt
  obtain ⟨es, clock, h1, rest⟩ := h
  exact ⟨es, clock, (hb.block b hl).trans h1, rest⟩
theorem toList_ne {x y : ByteArray} (h : x ≠ y) : (x.toList == y.toList) = false := by
  rw [beq_eq_false_iff_ne]
  intro e
  rw [toList_un, toList_un] at e
  exact h (un_inj e)
theorem wf_nat (k : Nat) (h : k ≤ 1048576) : (Lit.int .i64 (k : Int)).wf = true := by
  have e1 : IntKind.i64.min = -9223372036854775808 := rfl
  have e2 : IntKind.i64.max = 9223372036854775807 := rfl
  simp [Lit.wf]
  omega

set_option maxRecDepth 100000 in
set_option maxHeartbeats 8000000 in
theorem clash_p (n : Int) (l : List ByteArray) (v : Value) (w : World) (hk : KTab w) (h : TextsAt w v l) (hz : wt l ≤ 1048576) :
    Calls Tryd.prog 7 #[.int .i64 n, v] w (ClashPost n l w) := by
  have hln := length_wt l
  obtain ⟨o, cap, rfl, hnil, hcell⟩ := h
  have hmm := @run_makeMap Tryd.prog
  have HF : Hid (∀ x : ByteArray, (sumB (widthN n) (un x)).length = 32) := fun x => sumB_length _ _ (widthN_le n)
  go_enter Tryd.func7, Tryd.ntmps7
  go_wp2
  go_loopw [16] (fun s wr => ∃ (k m : Nat) (D : DataW Unit), s = .int .i64 k ∧ k ≤ l.length ∧ m ≤ k ∧ wr.ownsMap Tryd.prog 32 (plainElem Tryd.prog 3) w.heap.size m D ∧ MapOK (fun x => sumB (widthN n) (un x)) l k D ∧ calm (fun x => sumB (widthN n) (un x)) l k ∧ Below w.heap.size w wr) (fun s _ => l.length - (intOf s).toNat)
  case atStart => exact ⟨0, 0, .map [], rfl, Nat.zero_le _, Nat.le_refl _, World.ownsMap_made _ _ _ _, mapOK_start _ _, calm_zero _ _, (Below.refl _ w).alloc (Nat.le_refl _) _⟩
  case round =>
    obtain ⟨k, m, D, rfl, hkl, hm, hown, hmap, hcalm, hB⟩ := hrel
    by_cases hlt : k < l.length
    · obtain ⟨x, hx⟩ : ∃ x, l[k]? = some x := ⟨_, List.getElem?_eq_getElem hlt⟩
      obtain ⟨b, of, rfl, hcx⟩ := hcell k x hx
      have HX : Hid (l[k]? = some x) := hx
      have hcw : wr.cell? ⟨b, of + k, none⟩ = some (.string x) := (hB.cell (p := ⟨b, of + k, none⟩) (World.block_lt_of_cell? w _ hcx)).trans hcx
      have hsz : x.size ≤ 1048576 := by have := size_wt (List.mem_of_getElem? hx); omega
      have hS := fun W (h : KTab W) => sum_p n x W h (by omega)
      have hdl := HF.out x
      have hkd := key_dig _ hdl
      have HMap : Hid _ := hmap
      have HCalm : Hid _ := hcalm
      have hbw : w.heap.size < wr.heap.size := hown.lt
      have hd1 : (k : Int) < (l.length : Int) := by omega
      have hKT : KTab wr := var?_below hB l_k (var_lt l_k hk) hk
      have HFX : Hid (sumB (widthN n) (un x) = (fun x => sumB (widthN n) (un x)) x) := rfl
      generalize sumB (widthN n) (un x) = d at *
      clear hx hcx hmap hcalm
      have hi : (Tryd.prog.info? 32).map (·.size) = some (dig32 d).size := by rw [dig32_size, hdl]; kernel_rfl
      have hzd : (dig32 zeros).size = (dig32 d).size := by rw [dig32_size, dig32_size, hdl]; rfl
      have ho := dig32_one d
      have hzr := (zero_of_info (P := Tryd.prog) info_digest).1
      go_wp2_with fail
      refine (hS _ hKT).mono ?_
      rintro e w1 ⟨rfl, B1⟩
      have A1 : Lies (w1.alloc (.cells (dig32 zeros) 32)) w1.heap.size 32 (dig32 zeros) := Lies.new _ _ _
      have L1 : Lies ((w1.alloc (.cells (dig32 zeros) 32)).setRow w1.heap.size (dig32 d)) w1.heap.size 32 (dig32 d) := A1.row _
      have B2 : Below w1.heap.size w1 ((w1.alloc (.cells (dig32 zeros) 32)).setRow w1.heap.size (dig32 d)) := below_setRow ((Below.refl _ w1).alloc (Nat.le_refl _) _) (Nat.le_refl _) _
      have hownA := own_map_below (own_map_below hown B1) B2
      have BA : Below w.heap.size w ((w1.alloc (.cells (dig32 zeros) 32)).setRow w1.heap.size (dig32 d)) := below_join (below_join hB B1) B2
      generalize hWA : (w1.alloc (.cells (dig32 zeros) 32)).setRow w1.heap.size (dig32 d) = WA at *
      cases hh : has D (keyD d)
      · have HNew : Hid _ := mapOK_put HMap.out hownA.isMap HX.out (by rw [← HFX.out]; exact hh) (by rw [← HFX.out]; exact hdl)
        have HNone : Hid _ := ((HMap.out d hdl).1 hh)
        have HH : Hid _ := hh
        clear hh
        go_wp2_with (first
          | (refine wpList_store_row rfl 32 (.tmp 10) (.tmp 23) rfl w1.heap.size (dig32 d) rfl rfl 32 (dig32 zeros) A1 hi hzd ho ?_; rw [hWA])
          | (refine wpList_load_row rfl 32 (.tmp 10) rfl w1.heap.size rfl 32 (dig32 d) (0, 0) _ L1 Tryd.underlying32 rfl hi ?_)
          | (at_lookup; refine wpList_lookup_own_ok_int _ rfl _ _ 34 rfl 32 3 .i64 digest_law Tryd.underlying34 Tryd.underlying3 (zero_int _) w.heap.size m D rfl hownA _ _ rfl hkd ?_; intro c hat hwc; rw [HH.out])
          | (at_mapUpdate; refine wpList_mapUpdate_own _ rfl _ _ _ 34 rfl 32 3 digest_law Tryd.underlying34 (plainElem Tryd.prog 3) w.heap.size m D rfl hownA (by unfold maxLen; omega) _ _ _ rfl rfl hkd _ [] (plainElem_int Tryd.underlying3 (wf_nat k (by omega))) ?_; intro w3 hown3 hgrow3))
        refine ⟨⟨k + 1, m + 1, _, by go_num, by omega, by omega, hown3, ?_, calm_succ HCalm.out (none_clash HX.out ?_), BA.grown hgrow3 BA.size (fun j e => by cases e; exact Nat.le_refl _)⟩, by simp [intOf]; omega⟩
        · have hfx : d = sumB (widthN n) (un x) := HFX.out
          rw [hfx]
          exact HNew.out
        · have hfx : d = sumB (widthN n) (un x) := HFX.out
          have h := HNone.out
          rw [hfx] at h
          exact h
      · obtain ⟨i, hat, hF⟩ := (HMap.out d hdl).2 hh
        have HSame : Hid (MapOK (fun x => sumB (widthN n) (un x)) l (k + 1) D) := mapOK_same HMap.out HX.out (by rw [← HFX.out]; exact hh)
        have HH : Hid _ := hh
        have HAt : Hid _ := hat
        have HFi : Hid (FirstAt (fun x => sumB (widthN n) (un x)) l k (sumB (widthN n) (un x)) i) := by
          have hfx : d = sumB (widthN n) (un x) := HFX.out
          rw [hfx] at hF
          exact hF
        have hik : i < k := hF.1
        obtain ⟨y, hy⟩ : ∃ y, l[i]? = some y := ⟨_, List.getElem?_eq_getElem (by omega)⟩
        obtain ⟨b2, of2, e2, hcy⟩ := hcell i y hy
        have e3 : b = b2 ∧ of = of2 := by injection e2 with e2; injection e2 with e4 e5; exact ⟨e4, e5⟩
        obtain ⟨rfl, rfl⟩ := e3
        have hcyA : WA.cell? ⟨b, of + i, none⟩ = some (.string y) := (BA.cell (p := ⟨b, of + i, none⟩) (World.block_lt_of_cell? w _ hcy)).trans hcy
        have hd2 : (i : Int) < (l.length : Int) := by omega
        have HY : Hid _ := hy
        clear hh hat hF hy hcy e2
        by_cases hxy : y = x
        · subst hxy
          go_wp2_with (first
            | (refine wpList_store_row rfl 32 (.tmp 10) (.tmp 23) rfl w1.heap.size (dig32 d) rfl rfl 32 (dig32 zeros) A1 hi hzd ho ?_; rw [hWA])
            | (refine wpList_load_row rfl 32 (.tmp 10) rfl w1.heap.size rfl 32 (dig32 d) (0, 0) _ L1 Tryd.underlying32 rfl hi ?_)
            | (at_lookup; refine wpList_lookup_own_ok_int _ rfl _ _ 34 rfl 32 3 .i64 digest_law Tryd.underlying34 Tryd.underlying3 (zero_int _) w.heap.size m D rfl hownA _ _ rfl hkd ?_; intro c hat2 hwc; obtain rfl : c = (i : Int) := (by have h := (HAt.out _).symm.trans hat2; injection h with h; injection h with h1 h2; exact h2.symm); rw [HH.out])
            | (at_mapUpdate; refine wpList_mapUpdate_own _ rfl _ _ _ 34 rfl 32 3 digest_law Tryd.underlying34 (plainElem Tryd.prog 3) w.heap.size m D rfl hownA (by unfold maxLen; omega) _ _ _ rfl rfl hkd _ [] (plainElem_int Tryd.underlying3 (wf_nat k (by omega))) ?_; intro w3 hown3 hgrow3))
          refine ⟨⟨k + 1, m, D, by go_num, by omega, by omega, hownA, HSame.out, calm_succ HCalm.out (first_same HCalm.out HX.out HFi.out HY.out), BA⟩, by simp [intOf]; omega⟩
        · have HC : Hid (ClashIs (fun x => sumB (widthN n) (un x)) l i k true) := first_clash HCalm.out hlt HX.out HFi.out HY.out hxy
          have hne2 : (y.toList == x.toList) = false := toList_ne hxy
          clear hxy
          go_wp2_with (first
            | (refine wpList_store_row rfl 32 (.tmp 10) (.tmp 23) rfl w1.heap.size (dig32 d) rfl rfl 32 (dig32 zeros) A1 hi hzd ho ?_; rw [hWA])
            | (refine wpList_load_row rfl 32 (.tmp 10) rfl w1.heap.size rfl 32 (dig32 d) (0, 0) _ L1 Tryd.underlying32 rfl hi ?_)
            | (at_lookup; refine wpList_lookup_own_ok_int _ rfl _ _ 34 rfl 32 3 .i64 digest_law Tryd.underlying34 Tryd.underlying3 (zero_int _) w.heap.size m D rfl hownA _ _ rfl hkd ?_; intro c hat2 hwc; obtain rfl : c = (i : Int) := (by have h := (HAt.out _).symm.trans hat2; injection h with h; injection h with h1 h2; exact h2.symm); rw [HH.out])
            | (at_mapUpdate; refine wpList_mapUpdate_own _ rfl _ _ _ 34 rfl 32 3 digest_law Tryd.underlying34 (plainElem Tryd.prog 3) w.heap.size m D rfl hownA (by unfold maxLen; omega) _ _ _ rfl rfl hkd _ [] (plainElem_int Tryd.underlying3 (wf_nat k (by omega))) ?_; intro w3 hown3 hgrow3))
          refine bodyPost_ret (results_tmp3 rfl _ _ _) rfl ?_
          exact ⟨i, k, true, rfl, HC.out, BA⟩
    · obtain rfl : k = l.length := by omega
      have hd1 : ¬ ((l.length : Nat) : Int) < (l.length : Int) := by omega
      have HC : Hid (calm (fun x => sumB (widthN n) (un x)) l l.length) := hcalm
      clear hmap hcalm
      go_wp2
      refine bodyPost_ret (results_tmp3 rfl _ _ _) rfl ?_
      exact ⟨0, 0, false, rfl, .inl ⟨rfl, rfl, rfl, HC.out⟩, hB⟩
end Go.Proofs.YtmohlmodaibbaaaDoor
