/- The kit's ApartWords at lists that have memory of their own. -/
import Derived.Test.YtmnggnmgiflhjaaDoorApartG
import Derived.Test.YtmnggnmgiflhjaaDoorMarkW
import Derived.Deep.Cut
import Derived.Deep.RegionWith
import Derived.Maps.AppendAt
namespace Go.Proofs.YtmnggnmgiflhjaaDoor
open Go Go.RowKit

theorem wd_newC (W : World) (t : TypeId) (e : Wd) : WdC (W.alloc (.cells #[.int .i64 e.p, .string e.r] t)) W.heap.size 0 e := by
  have h := wd_new W t (.int .i64 e.p) (.string e.r)
  have h0 := h 0 _ rfl
  have h1 := h 1 _ rfl
  rw [Addr.add_mid] at h0 h1
  exact ⟨h0, h1⟩
theorem wd_cells {W : World} {b : Nat} {e : Wd} (h : WdC W b 0 e) : ∀ j u, (wcs e)[j]? = some u → W.cell? ((⟨b, 0, none⟩ : Addr).add j) = some u := by
  intro j u hj
  rw [Addr.add_mid, Nat.zero_add]
  rcases j with _ | _ | j
  · cases hj; exact h.c0
  · cases hj; have := h.c1; rw [Nat.zero_add] at this; exact this
  · simp [wcs] at hj
theorem wd_one (e : Wd) : ∀ u ∈ wcs e, u.oneCell' = true := by
  intro u hu
  simp [wcs] at hu
  rcases hu with rfl | rfl <;> rfl
def mkE (k i : Nat) : Wd := markW (k : Int) (i : Int)
theorem wcs_len (x : Wd) : (wcs x).length = 2 := rfl
theorem cellsG_wcs (xs : List Wd) : cellsG wcs xs = wcells xs := rfl
theorem sl_infoE : (Tryd.prog.info? 22).map (fun i => (i.zero, i.size, i.bytes)) = some (some (.slice none 0 0), 1, 24) := by kernel_rfl
theorem set_app (A L : List Value) (n j : Nat) (c : Value) (hn : A.length = n) : (A ++ L).set (n + j) c = A ++ L.set j c := by
  subst hn
  rw [List.set_append_right _ _ (by omega)]
  congr 2; omega
theorem setA2 (A C : List Value) (n : Nat) (hn : A.length = n) (b0 b1 c0 c1 : Value) : ((A ++ ([b0, b1] ++ C)).set n c0).set (n + 1) c1 = A ++ ([c0, c1] ++ C) := by
  have h0 := set_app A ([b0, b1] ++ C) n 0 c0 hn
  rw [Nat.add_zero] at h0
  rw [h0, set_app _ _ _ _ _ hn]
  rfl
/-- A list's element is marked. -/
theorem mark_own {w : World} {B gk cap k i : Nat} {xs : List Wd} {us : List Value} {xss : List (List Wd)} {g : Nat} (h : RwsG wcs 2 41 mkE w B us xss k i) (hA : HandedG g us) (hu : us[k]? = some (.slice (some ⟨gk, 0, none⟩) xs.length cap)) (hx : xss[k]? = some xs) (hi : i < xs.length) :
    RwsG wcs 2 41 mkE ((w.setCell ⟨gk, i * 2, none⟩ (.int .i64 (mkE k i).p)).setCell ⟨gk, i * 2 + 1, none⟩ (.string (mkE k i).r)) B us xss k (i + 1) := by
  refine h.mark hA hu hx ?_ ?_
  · have h2 := (own_setG (i := i * 2 + 1) (own_setG (i := i * 2) (h k _ _ hu hx) (.int .i64 (mkE k i).p)) (.string (mkE k i).r))
    obtain ⟨x, hxi⟩ : ∃ x, xs[i]? = some x := ⟨_, List.getElem?_eq_getElem hi⟩
    have e1 : rowG mkE k i k xs = marksG mkE k i ++ (x :: xs.drop (i + 1)) := by
      unfold rowG
      rw [if_neg (Nat.lt_irrefl k), if_pos rfl, List.drop_eq_getElem_cons hi]
      rw [List.getElem?_eq_getElem hi] at hxi
      rw [Option.some.inj hxi]
    have e2 : rowG mkE k (i + 1) k xs = marksG mkE k i ++ (mkE k i :: xs.drop (i + 1)) := by
      unfold rowG
      rw [if_neg (Nat.lt_irrefl k), if_pos rfl, marksG_succ, List.append_assoc]; rfl
    rw [e1] at h2
    rw [e2]
    have hl : (cellsG wcs (marksG mkE k i)).length = i * 2 := by rw [cellsG_length wcs 2 wcs_len, marksG_length]
    rw [cellsG_append, cellsG_cons, show wcs x = [.int .i64 x.p, .string x.r] from rfl, setA2 _ _ _ hl] at h2
    rw [cellsG_append, cellsG_cons]
    exact h2
  · intro b hb
    have hne : gk ≠ b := fun e => hb (by rw [e]; rfl)
    rw [set_otherG _ hne, set_otherG _ hne]
theorem wdG {W W2 : World} {b q : Nat} {e : Wd} (h : ∀ j u, (wcs e)[j]? = some u → W.cell? ⟨b, q + j, none⟩ = some u) (hb : Below W.heap.size W W2) : WdC W2 b q e := WdC.below ⟨h 0 _ rfl, h 1 _ rfl⟩ hb
/-- What none of the lists has stays as it was. -/
def OthE (us : List Value) (w wr : World) : Prop := ∀ b, b < w.heap.size → (∀ (j : Nat) (u : Value), us[j]? = some u → u.ownBlock ≠ some b) → wr.heap[b]? = w.heap[b]?
theorem OthE.below {us : List Value} {w wr w2 : World} (h : OthE us w wr) (hs : w.heap.size ≤ wr.heap.size) (hb : Below wr.heap.size wr w2) : OthE us w w2 := fun b h1 h2 => (hb.block b (by omega)).trans (h b h1 h2)
theorem OthE.set {us : List Value} {w wr : World} {gk i k : Nat} {u : Value} (h : OthE us w wr) (x : Value) (hu : us[k]? = some u) (hg : u.ownBlock = some gk) : OthE us w (wr.setCell ⟨gk, i, none⟩ x) := fun b h1 h2 => (set_otherG x (fun e => h2 k u hu (by rw [hg, e]))).trans (h b h1 h2)
theorem lies_other {W : World} {B g i : Nat} {t : TypeId} {cur : Array Value} (h : Lies W B t cur) (u : Value) (hne : g ≠ B) : Lies (W.setCell ⟨g, i, none⟩ u) B t cur := (set_otherG u hne).trans h

set_option maxRecDepth 100000 in
set_option maxHeartbeats 8000000 in
theorem apartW_p (B g c : Nat) (us : List Value) (xss : List (List Wd)) (w : World) (hl : us.length = xss.length) (hm : us.length ≤ 1000) (hB : B ≤ w.heap.size) (hL : Lies w g 22 us.toArray)
    (hA : HandedG g us) (hR : RwsG wcs 2 41 mkE w B us xss 0 0) (hz : ∀ xs ∈ xss, xs.length ≤ 1073741824) :
    Calls Tryd.prog 13 #[.slice (some ⟨g, 0, none⟩) us.length c] w fun e w' => e = .returned (.bool true) ∧ OthE us w w' ∧ Below B w w' := by
  obtain ⟨i0, hi, z0, z1, z2⟩ := info_parts info_wd
  obtain ⟨j0, hj, y0, y1, y2⟩ := info_parts sl_infoE
  have HL0 : Hid (Lies w g 22 us.toArray) := hL
  have HR0 : Hid (RwsG wcs 2 41 mkE w B us xss 0 0) := hR
  have HA : Hid (HandedG g us) := hA
  have HZ : Hid (∀ xs ∈ xss, xs.length ≤ 1073741824) := hz
  have HLL : Hid (us.length = xss.length) := hl
  clear hL hR hA hz hl
  go_enter Tryd.func13, Tryd.ntmps13
  go_wp2
  go_loopw [3, 4] (fun n _ wr => ∃ k : Nat, k ≤ us.length ∧ n = .int .i64 k ∧ Hid (Lies wr g 22 us.toArray) ∧ Hid (RwsG wcs 2 41 mkE wr B us xss k 0) ∧ Hid (OthE us w wr) ∧ Below B w wr) (fun n _ _ => us.length - (intOf n).toNat)
  case atStart => exact ⟨0, Nat.zero_le _, rfl, HL0, HR0, fun _ _ _ => rfl, Below.refl _ _⟩
  case round =>
    clear HL0 HR0
    obtain ⟨k, hk, rfl, HL, HR, HOT, hB1⟩ := hrel
    by_cases hlt : k < us.length
    · obtain ⟨u, hu⟩ : ∃ u, us[k]? = some u := ⟨_, List.getElem?_eq_getElem hlt⟩
      obtain ⟨xs, hx⟩ : ∃ xs, xss[k]? = some xs := ⟨_, List.getElem?_eq_getElem (by rw [← HLL.out]; exact hlt)⟩
      have hzx := HZ.out xs (List.mem_of_getElem? hx)
      obtain ⟨a, cu, rfl, hac, hab, _, _⟩ := own_shapeG (HR.out k u xs hu hx)
      have hcell := HL.out.cell (i := k) (by simpa using hu)
      have HU : Hid (us[k]? = some (.slice a xs.length cu)) := hu
      have HX : Hid (xss[k]? = some xs) := hx
      clear hu hx
      have d1 : (0 : Int) ≤ (k : Int) := by omega
      have d2 : (k : Int) < (us.length : Int) := by omega
      go_wp2
      go_loopw [4] (fun n wr2 => ∃ i : Nat, i ≤ xs.length ∧ n = .int .i64 i ∧ Hid (Lies wr2 g 22 us.toArray) ∧ Hid (RwsG wcs 2 41 mkE wr2 B us xss k i) ∧ Hid (OthE us w wr2) ∧ Below B w wr2) (fun n _ => xs.length - (intOf n).toNat)
      case atStart => exact ⟨0, Nat.zero_le _, rfl, HL, HR, HOT, hB1⟩
      case round =>
        clear HL HR hB1 hcell HOT
        obtain ⟨i, hi2, rfl, HL, HR, HOT, hB1⟩ := hrel
        have hcell := HL.out.cell (i := k) (by simpa using HU.out)
        by_cases hin : i < xs.length
        · cases a with
          | none => exact absurd (hac rfl).2 (by omega)
          | some ad =>
            obtain ⟨gk, rfl⟩ := hab ad rfl
            have e1 : (0 : Int) ≤ (i : Int) := by omega
            have e2 : (i : Int) < (xs.length : Int) := by omega
            have hM : Calls Tryd.prog 29 #[.int .i64 (k : Int), .int .i64 (i : Int)] wr.drew fun e w' => e = .returned (.agg #[.int .i64 (mkE k i).p, .string (mkE k i).r]) ∧ Below wr.drew.heap.size wr.drew w' := markW_p (k : Int) (i : Int) (by omega) (by omega) wr.drew
            have hrow := HR.out k _ xs HU.out HX.out
            have hrl : (cellsG wcs (rowG mkE k i k xs)).length = xs.length * 2 := by rw [cellsG_length wcs 2 wcs_len, rowG_length _ _ _ _ hi2]
            have HF : Hid (∀ w2, Below wr.drew.heap.size wr.drew w2 → w2.cell? ⟨g, k, none⟩ = some (.slice (some ⟨gk, 0, none⟩) xs.length cu) ∧ ∃ y0 y1, (w2.cell? ⟨gk, i * 2, none⟩ = some y0 ∧ w2.frozen? ⟨gk, i * 2, none⟩ = false) ∧ (w2.cell? ⟨gk, i * 2 + 1, none⟩ = some y1 ∧ w2.frozen? ⟨gk, i * 2 + 1, none⟩ = false)) := by
              intro w2 b2
              have b3 : Below wr.heap.size wr w2 := (show Below wr.heap.size wr wr.drew from ⟨rfl, rfl, rfl, Nat.le_refl _, fun _ _ => rfl⟩).trans b2
              have r2 := own_belowG hrow b3
              have hat : ∀ j, j < 2 → ∃ y, w2.cell? ⟨gk, i * 2 + j, none⟩ = some y := fun j hj => by
                obtain ⟨y, hy⟩ : ∃ y, (cellsG wcs (rowG mkE k i k xs))[i * 2 + j]? = some y := ⟨_, List.getElem?_eq_getElem (by rw [hrl]; omega)⟩
                exact ⟨y, by have := r2.cells (g := gk) rfl (i * 2 + j) y hy; rw [Addr.add_mid, Nat.zero_add] at this; exact this⟩
              obtain ⟨y0, h0⟩ := hat 0 (by decide)
              obtain ⟨y1, h1⟩ := hat 1 (by decide)
              exact ⟨(HL.out.below b3).cell (i := k) (by simpa using HU.out), y0, y1, ⟨h0, own_frozenG r2 _⟩, ⟨h1, own_frozenG r2 _⟩⟩
            have hBg := (own_lt hrow gk rfl).1
            have hne : gk ≠ g := fun e => HA.out.gap k _ HU.out (by rw [e]; rfl)
            have HMK : Hid (∀ w2, Below wr.heap.size wr w2 → RwsG wcs 2 41 mkE ((w2.setCell ⟨gk, i * 2, none⟩ (.int .i64 (mkE k i).p)).setCell ⟨gk, i * 2 + 1, none⟩ (.string (mkE k i).r)) B us xss k (i + 1)) := fun w2 b3 => mark_own (HR.out.below b3) HA.out HU.out HX.out hin
            clear hrow hrl
            generalize mkE k i = mx at *
            go_wp2
            go_region_with (first | (go_at_call 29; refine hM.mono ?_; rintro e w2 ⟨rfl, b2⟩; obtain ⟨k0, y0', y1', ⟨p0, q0⟩, ⟨p1, q1⟩⟩ := HF.out w2 b2))
            all_goals go_wp2
            all_goals
              have b3 : Below wr.heap.size wr w2 := (show Below wr.heap.size wr wr.drew from ⟨rfl, rfl, rfl, Nat.le_refl _, fun _ _ => rfl⟩).trans b2
              have hs1 := hB1.size
              go_roundw
              case rel => exact ⟨i + 1, by omega, by go_num, lies_other (lies_other (HL.out.below b3) _ hne) _ hne, HMK.out w2 b3, (((HOT.out.below hs1 b3).set _ HU.out rfl).set _ HU.out rfl), ((hB1.trans (b3.mono (by omega))).setCell (p := ⟨gk, i * 2, none⟩) hBg _).setCell (p := ⟨gk, i * 2 + 1, none⟩) hBg _⟩
              case measure => simp [intOf]; omega
        · obtain rfl : i = xs.length := by omega
          have HR2 : Hid (RwsG wcs 2 41 mkE wr B us xss (k + 1) 0) := HR.out.next HX.out
          go_wp2
          go_roundw
          case rel => exact ⟨k + 1, by omega, by go_num, HL, HR2, HOT, hB1⟩
          case measure => simp [intOf]; omega
    · obtain rfl : k = us.length := by omega
      have HD : Hid (∀ (j : Nat) (u : Value) (xs : List Wd), us[j]? = some u → xss[j]? = some xs → wr.ownsRow B 41 2 u xs.length (cellsG wcs (marksG mkE j xs.length))) := fun j u xs h1 h2 => HR.out.done rfl j u xs h1 h2
      clear HR
      go_wp2
      obtain ⟨w1, hw1⟩ : ∃ w1, w1 = wr := ⟨_, rfl⟩
      subst hw1
      have hBw : B ≤ w1.heap.size := by have := hB1.size; omega
      go_loopw [5, 6, 7, 8] (fun gv n _ _ wr2 => ∃ (k : Nat) (vs : List Value), k ≤ us.length ∧ n = .int .i64 k ∧ Hid (GrewG wcs 2 22 mkE w1 wr2 us xss k vs gv) ∧ Below B w wr2) (fun _ n _ _ _ => us.length - (intOf n).toNat)
      case atStart => exact ⟨0, [], Nat.zero_le _, rfl, ⟨rfl, Nat.le_refl _, fun _ _ _ => rfl, fun j _ _ h => absurd h (Nat.not_lt_zero j), fun j v xs h => by simp at h, World.ownsRow_nil _ _ _ _, fun j v h => by simp at h, fun j v u h => by simp at h⟩, hB1⟩
      case round =>
        obtain ⟨k, vs, hk, rfl, HG, hB2⟩ := hrel
        by_cases hlt : k < us.length
        · obtain ⟨u, hu⟩ : ∃ u, us[k]? = some u := ⟨_, List.getElem?_eq_getElem hlt⟩
          obtain ⟨xs, hx⟩ : ∃ xs, xss[k]? = some xs := ⟨_, List.getElem?_eq_getElem (by rw [← HLL.out]; exact hlt)⟩
          have hzx := HZ.out xs (List.mem_of_getElem? hx)
          have hul : ∀ b, u.ownBlock = some b → b < w1.heap.size := fun b hb => (own_lt (HD.out k u xs hu hx) b hb).2
          have hown2 : wr.ownsRow B 41 2 u xs.length (cellsG wcs (marksG mkE k xs.length)) := own_eq (HD.out k u xs hu hx) (fun b hb => HG.out.same b (hul b hb) (fun j u' hj hu' e => by
            rcases HA.out.apart j k u' u hu' hu (by omega) with h | h
            · rw [e] at h; cases h
            · exact h (e.trans hb.symm)))
          have hgl : Lies wr g 22 us.toArray := (HG.out.same g HL.out.lt (fun j u' _ hu' => HA.out.gap j u' hu')).trans HL.out
          have hcell := hgl.cell (i := k) (by simpa using hu)
          have hsz2 := HG.out.size
          have HUL : Hid (∀ b, u.ownBlock = some b → b < wr.heap.size) := fun b hb => Nat.lt_of_lt_of_le (hul b hb) hsz2
          have HUL1 : Hid (∀ b, u.ownBlock = some b → b < w1.heap.size) := hul
          have HUG : Hid (u.ownBlock ≠ some g) := HA.out.gap k u hu
          have HGL : Hid (Lies wr g 22 us.toArray) := hgl
          obtain ⟨a, cu, rfl, hac, hab, _, _⟩ := own_shapeG hown2
          have HU : Hid (us[k]? = some (.slice a xs.length cu)) := hu
          have HX : Hid (xss[k]? = some xs) := hx
          clear hu hx hul hgl
          have d1 : (0 : Int) ≤ (k : Int) := by omega
          have d2 : (k : Int) < (us.length : Int) := by omega
          go_wp2
          obtain ⟨w2, hw2⟩ : ∃ w2, w2 = wr := ⟨_, rfl⟩
          subst hw2
          go_loopw [7, 8] (fun v n wr3 => ∃ i : Nat, i ≤ 64 ∧ n = .int .i64 i ∧ Hid (GrowsG wcs 2 41 mkE w2 wr3 B k xs.length i (.slice a xs.length cu) v) ∧ Below B w wr3) (fun _ n _ => 64 - (intOf n).toNat)
          case atStart => exact ⟨0, by omega, rfl, ⟨Nat.le_refl _, fun _ _ _ => rfl, ListG.own (t := 41) (B := B) wcs_len (by rw [marksG_length]; exact hown2), hown2, .inl rfl⟩, hB2⟩
          case round =>
            clear hcell
            obtain ⟨i, hi2, rfl, HS, hB3⟩ := hrel
            have hcell : wr.cell? ⟨g, k, none⟩ = some (.slice a xs.length cu) := Lies.cell (t := 22) (cur := us.toArray) ((HS.out.same g HGL.out.lt HUG.out).trans HGL.out) (by simpa using HU.out)
            by_cases hin : i < 64
            · have e1 : (0 : Int) ≤ (i : Int) := by omega
              have e2 : (i : Int) < 64 := by omega
              have hM : ∀ W, Calls Tryd.prog 29 #[.int .i64 (k : Int), .int .i64 ((xs.length : Int) + (i : Int))] W fun e w' => e = .returned (.agg #[.int .i64 (mkE k (xs.length + i)).p, .string (mkE k (xs.length + i)).r]) ∧ Below W.heap.size W w' := fun W => by
                have := markW_p (k : Int) ((xs.length : Int) + (i : Int)) (by omega) (by omega) W
                unfold mkE
                rw [show ((xs.length + i : Nat) : Int) = (xs.length : Int) + (i : Int) by omega]
                exact this
              obtain ⟨x, hxm⟩ : ∃ x, mkE k (xs.length + i) = x := ⟨_, rfl⟩
              have HXM : Hid (mkE k (xs.length + i) = x) := hxm
              rw [hxm] at hM
              clear hxm
              go_wp2_with fail
              refine (hM wr).mono ?_
              rintro e w3 ⟨rfl, b3⟩
              have hB4 : Below B w w3 := hB3.trans (b3.mono (by have := hB3.size; omega))
              have hs4 := hB4.size
              have HS3 := HS.out.below HUL.out b3
              have HS4 : Hid (GrowsG wcs 2 41 mkE w2 (w3.alloc (.cells #[.int .i64 x.p, .string x.r] 41)) B k xs.length i (.slice a xs.length cu) u7) := HS3.below HUL.out ((Below.refl _ w3).alloc (Nat.le_refl _) _)
              clear HS3 HS hM
              go_wp2_with (at_builtin; refine wpList_append_keepG _ rfl _ _ 22 rfl B 41 i0 (.agg #[.int .i64 0, .string ⟨#[]⟩]) 2 24 Tryd.underlying22 hi z0 z1 z2 rfl (by decide) _ _ _ rfl HS4.out.new ⟨w3.heap.size, 0, none⟩ 1 (wcs x) rfl rfl (wd_cells (wd_newC w3 _ x)) (wd_one x) ?c3 ?c4 ?c5 ?_)
              case c3 => unfold maxLen; omega
              case c4 => omega
              case c5 => simp; omega
              intro v' w4 hown' hg
              rw [show w3.heap.size + 1 = (w3.alloc (.cells #[.int .i64 x.p, .string x.r] 41)).heap.size from (World.size_alloc _ _).symm] at hg
              have hgs := grown_belowG hg HS4.out.new (by simp; omega)
              have HS5 : Hid (GrowsG wcs 2 41 mkE w2 w4 B k xs.length (i + 1) (.slice a xs.length cu) v') := HS4.out.step wcs_len HUL.out (fun e => by cases a with | none => exact (hac rfl).2 | some _ => cases e) ⟨a, cu, rfl, hab⟩ (by rw [HXM.out]; exact hown') hg
              clear hown' hg HS4
              go_wp2
              go_roundw
              case rel => exact ⟨i + 1, by omega, by go_num, HS5, (hB4.alloc (by omega) _).trans hgs⟩
              case measure => simp [intOf]; omega
            · obtain rfl : i = 64 := by omega
              obtain ⟨av, cv, rfl, _⟩ := own_shapeG HS.out.new
              have hgo : wr.ownsRow w1.heap.size 22 1 u5 k vs := own_eq HG.out.row (fun b hb => HS.out.same b (own_lt HG.out.row b hb).2 (fun e => by have h1 := (own_lt HG.out.row b hb).1; have h2 := HUL1.out b e; omega))
              go_wp2_with (at_builtin; refine wpList_append_keepG _ rfl _ _ 32 rfl w1.heap.size 22 j0 (.slice none 0 0) 1 24 Tryd.underlying32 hj y0 y1 y2 rfl (by decide) _ _ _ rfl (hgo.alloc _) ⟨wr.heap.size, 0, none⟩ 1 [.slice av (xs.length + 64) cv] rfl rfl (cell_one_new _ _ _) (by simp [Value.oneCell']) ?c3 ?c4 ?c5 ?_)
              case c3 => unfold maxLen; omega
              case c4 => omega
              case c5 => have := HG.out.size; have := HS.out.size; simp; omega
              intro gv' w4 hown' hg
              rw [show wr.heap.size + 1 = (wr.alloc (.cells #[.slice av (xs.length + 64) cv] 22)).heap.size from (World.size_alloc _ _).symm] at hg
              have hs3 := hB3.size
              have hgs := grown_belowG hg ((own_baseG hgo hBw).alloc _) (by simp; omega)
              have HS5 : Hid (GrewG wcs 2 22 mkE w1 w4 us xss (k + 1) (vs ++ [.slice av (xs.length + 64) cv]) gv') := HG.out.step (t := 41) (B := B) wcs_len (by decide) HA.out HU.out HX.out rfl (fun j u hu b hb => by
                obtain ⟨xj, hxj⟩ : ∃ xj, xss[j]? = some xj := ⟨_, List.getElem?_eq_getElem (by rw [← HLL.out]; exact (List.getElem?_eq_some_iff.1 hu).1)⟩
                exact (own_lt (HD.out j u xj hu hxj) b hb).2) (HS.out.below HUL.out ((Below.refl _ wr).alloc (Nat.le_refl _) _)) hown' hg
              clear hown' hg hgo
              go_wp2
              go_roundw
              case rel => exact ⟨k + 1, _, by omega, by go_num, HS5, (hB3.alloc (by omega) _).trans hgs⟩
              case measure => simp [intOf]; omega
        · obtain rfl : k = us.length := by omega
          obtain ⟨w2, hw2⟩ : ∃ w2, w2 = wr := ⟨_, rfl⟩
          subst hw2
          have hsz2 := HG.out.size
          have hsw1 := hB1.size
          have HO2 : Hid (OthE us w w2) := fun b h1 h2 => (HG.out.same b (by omega) (fun j u' _ hu' => h2 j u' hu')).trans (HOT.out b h1 h2)
          have HGL : Hid (Lies w2 g 22 us.toArray) := (HG.out.same g HL.out.lt (fun j u' _ hu' => HA.out.gap j u' hu')).trans HL.out
          go_wp2
          go_loopw [9, 10, 11] (fun n _ _ wr => ∃ k : Nat, k ≤ us.length ∧ n = .int .i64 k ∧ Below w2.heap.size w2 wr) (fun n _ _ _ => us.length - (intOf n).toNat)
          case atStart => exact ⟨0, Nat.zero_le _, rfl, Below.refl _ _⟩
          case round =>
            obtain ⟨k, hk, rfl, hb⟩ := hrel
            by_cases hlt : k < us.length
            · obtain ⟨u, hu⟩ : ∃ u, us[k]? = some u := ⟨_, List.getElem?_eq_getElem hlt⟩
              obtain ⟨v, hv⟩ : ∃ v, vs[k]? = some v := ⟨_, List.getElem?_eq_getElem (by rw [HG.out.len]; exact hlt)⟩
              obtain ⟨xs, hx⟩ : ∃ xs, xss[k]? = some xs := ⟨_, List.getElem?_eq_getElem (by rw [← HLL.out]; exact hlt)⟩
              have hzx := HZ.out xs (List.mem_of_getElem? hx)
              obtain ⟨a, ca, bu, ou, hua, ha1, ha2⟩ := HG.out.old k u xs hlt hu hx
              obtain ⟨av, cv, bv, ov, hva, hv1, hv2⟩ := HG.out.new k v xs hv hx
              rw [marksG_length] at hua hva
              subst hua
              subst hva
              have HUA : Hid (∀ i, i < xs.length → ∀ W, Below w2.heap.size w2 W → a = some ⟨bu, ou, none⟩ ∧ WdC W bu (ou + i * 2) (mkE k i)) := fun i h W bb => ⟨ha1 (fun e => by have := congrArg List.length e; rw [marksG_length, List.length_nil] at this; omega), wdG (ha2 i _ (marksG_get k xs.length i h)) bb⟩
              have HVA : Hid (∀ i, i < xs.length + 64 → ∀ W, Below w2.heap.size w2 W → av = some ⟨bv, ov, none⟩ ∧ WdC W bv (ov + i * 2) (mkE k i)) := fun i h W bb => ⟨hv1 (fun e => by have := congrArg List.length e; rw [marksG_length, List.length_nil] at this; omega), wdG (hv2 i _ (marksG_get k (xs.length + 64) i h)) bb⟩
              have hrow := HG.out.row
              rcases hrow.2 with ⟨_, h0⟩ | ⟨gg, cg, cur, hgv, _, _, _, hcg, _⟩
              · omega
              subst hgv
              have HC : Hid (∀ wr, Below w2.heap.size w2 wr → wr.cell? ⟨g, k, none⟩ = some (.slice a xs.length ca) ∧ wr.cell? ⟨gg, k, none⟩ = some (.slice av (xs.length + 64) cv)) := fun wr hb => ⟨(HGL.out.below hb).cell (by simpa using hu), row_cell (own_belowG hrow hb) k _ hv⟩
              obtain ⟨q1, q2⟩ := HC.out wr hb
              unfold maxLen at hcg
              clear hrow hu hv hx ha2 hv2 ha1 hv1
              have d1 : (0 : Int) ≤ (k : Int) := by omega
              have d2 : (k : Int) < (us.length : Int) := by omega
              go_wp2
              go_loopw [10, 11] (fun n _ wr => ∃ i : Nat, i ≤ xs.length + 64 ∧ n = .int .i64 i ∧ Below w2.heap.size w2 wr) (fun n _ _ => xs.length + 64 - (intOf n).toNat)
              case atStart => exact ⟨0, Nat.zero_le _, rfl, hb⟩
              case round =>
                clear q1 q2 hb
                obtain ⟨i, hi2, rfl, hb⟩ := hrel
                obtain ⟨q1, q2⟩ := HC.out wr hb
                by_cases hin : i < xs.length + 64
                · obtain ⟨rfl, _⟩ := HVA.out i hin wr hb
                  have e1 : (0 : Int) ≤ (i : Int) := by omega
                  have e2 : (i : Int) < (xs.length : Int) + 64 := by omega
                  have hM : ∀ W, Calls Tryd.prog 29 #[.int .i64 (k : Int), .int .i64 (i : Int)] W fun e w' => e = .returned (.agg #[.int .i64 (mkE k i).p, .string (mkE k i).r]) ∧ Below W.heap.size W w' := fun W => markW_p (k : Int) (i : Int) (by omega) (by omega) W
                  have HV2 : Hid (∀ W, Below w2.heap.size w2 W → WdC W bv (ov + i * 2) (mkE k i)) := fun W bb => (HVA.out i hin W bb).2
                  have HU2 : Hid (i < xs.length → ∀ W, Below w2.heap.size w2 W → a = some ⟨bu, ou, none⟩ ∧ WdC W bu (ou + i * 2) (mkE k i)) := fun h => HUA.out i h
                  generalize mkE k i = x at *
                  have heq := fun W => eq_self x W
                  go_upto_region 25 with (go_at_call 29; refine (hM _).mono ?_; rintro e w3 ⟨rfl, b3⟩)
                  have hb3 : Below w2.heap.size w2 w3 := hb.trans (b3.mono hb.size)
                  have L3 := Lies.new w3 41 #[.int .i64 x.p, .string x.r]
                  have hb4 : Below w2.heap.size w2 (w3.alloc (.cells #[.int .i64 x.p, .string x.r] 41)) := hb3.alloc hb3.size _
                  clear q1 q2 hb b3 hM hb3
                  generalize (w3.alloc (.cells #[.int .i64 x.p, .string x.r] 41)) = W4 at *
                  generalize w3.heap.size = ge at *
                  obtain ⟨p1, p2⟩ := HC.out W4 hb4
                  obtain ⟨g0, g1⟩ := HV2.out W4 hb4
                  have f0 := L3.cell (i := 0) rfl
                  have f1 := L3.cell (i := 1) rfl
                  clear L3
                  by_cases hin2 : i < xs.length
                  · obtain ⟨rfl, h0, h1⟩ := HU2.out hin2 W4 hb4
                    have e3 : (i : Int) < (xs.length : Int) := by omega
                    go_wp2
                    go_quiet (fail)
                    go_wp2
                    go_roundw
                    case rel => exact ⟨i + 1, by omega, by go_num, hb4.trans ⟨rfl, rfl, rfl, Nat.le_refl _, fun _ _ => rfl⟩⟩
                    case measure => simp [intOf]; omega
                  · have e3 : decide ((i : Int) < (xs.length : Int)) = false := by simp; omega
                    have e3' : decide (i < xs.length) = false := by simp; omega
                    go_wp2
                    go_quiet (fail)
                    go_wp2
                    go_roundw
                    case rel => exact ⟨i + 1, by omega, by go_num, hb4.trans ⟨rfl, rfl, rfl, Nat.le_refl _, fun _ _ => rfl⟩⟩
                    case measure => simp [intOf]; omega
                · obtain rfl : i = xs.length + 64 := by omega
                  go_wp2
                  go_roundw
                  case rel => exact ⟨k + 1, by omega, by go_num, hb⟩
                  case measure => simp [intOf]; omega
            · obtain rfl : k = us.length := by omega
              go_wp2
              go_ret
              exact ⟨rfl, HO2.out.below (by omega) hb, hB2.trans (hb.mono (by have := hB2.size; omega))⟩
end Go.Proofs.YtmnggnmgiflhjaaDoor
