/- The kit's ApartTexts: round 4's, again. -/
import Derived.Test.YtjmekcakiacdfaaTxB
import Derived.Maps.AppendAt
namespace Go.Proofs.Ytjmekcakiacdfaa.Tx
open Go Go.RowKit

theorem sl_info : (Try.prog.info? 22).map (fun i => (i.zero, i.size, i.bytes)) = some (some (.slice none 0 0), 1, 24) := by kernel_rfl
theorem own_shape {w : World} {B e n : Nat} {u : Value} {xs : List Value} (h : w.ownsRow B e 1 u n xs) : ∃ a c, u = .slice a n c ∧ (a = none → c = 0 ∧ n = 0) ∧ (∀ b, a = some b → ∃ g, b = ⟨g, 0, none⟩) ∧ c ≤ maxLen := by
  rcases h.2 with ⟨rfl, rfl⟩ | ⟨g, cap, cur, rfl, _, _, _, hc, _⟩
  · exact ⟨none, 0, rfl, fun _ => ⟨rfl, rfl⟩, (fun b hb => nomatch hb), Nat.zero_le _⟩
  · exact ⟨_, _, rfl, (fun e => nomatch e), fun b hb => by cases hb; exact ⟨g, rfl⟩, hc⟩
theorem own_frozen {w : World} {B e n g c : Nat} {xs : List Value} (h : w.ownsRow B e 1 (.slice (some ⟨g, 0, none⟩) n c) n xs) (i : Nat) : w.frozen? ⟨g, i, none⟩ = false := by
  rcases h.2 with ⟨hv, _⟩ | ⟨g', cap, cur, hv, _, hg, _⟩
  · cases hv
  · cases hv; exact Lies.frozen hg i
theorem own_base {w : World} {B B' e n : Nat} {u : Value} {xs : List Value} (h : w.ownsRow B' e 1 u n xs) (hb : B ≤ B') : w.ownsRow B e 1 u n xs := by
  refine ⟨h.1, ?_⟩
  rcases h.2 with h1 | ⟨g, cap, cur, h1, h2, h3⟩
  · exact .inl h1
  · exact .inr ⟨g, cap, cur, h1, Nat.le_trans hb h2, h3⟩
theorem grown_below {w w' : World} {B e n : Nat} {v v' : Value} {xs : List Value} (hg : v'.ownBlock = v.ownBlock ∧ w.grownBy w' v.ownBlock ∨ (∃ b, w.heap.size ≤ b ∧ v'.ownBlock = some b) ∧ w.grownBy w' none) (h : w.ownsRow B e 1 v n xs) (hB : B ≤ w.heap.size) : Below B w w' := by
  rcases hg with ⟨_, hg⟩ | ⟨_, hg⟩
  · exact ⟨hg.os, hg.tape, hg.output, hg.size, fun k hk => hg.block k (by omega) (fun e => by have := (h.lt k e.symm).1; omega)⟩
  · exact ⟨hg.os, hg.tape, hg.output, hg.size, fun k hk => hg.block k (by omega) (fun e => nomatch e)⟩
theorem Rws.start {w : World} {B : Nat} {us : List Value} {xss : List (List ByteArray)} (h : ∀ (j : Nat) (u : Value) (xs : List ByteArray), us[j]? = some u → xss[j]? = some xs → w.ownsRow B 9 1 u xs.length (strs xs)) : Rws w B us xss 0 0 := by
  intro j u xs h1 h2
  have e : rowF 0 0 j xs = xs := by
    unfold rowF
    rw [if_neg (by omega)]
    by_cases h : j = 0
    · rw [if_pos h]; rfl
    · rw [if_neg h]
  rw [e]; exact h j u xs h1 h2
theorem Rws.done {w : World} {B n : Nat} {us : List Value} {xss : List (List ByteArray)} (h : Rws w B us xss n 0) (hn : n = us.length) (j : Nat) (u : Value) (xs : List ByteArray) (h1 : us[j]? = some u) (h2 : xss[j]? = some xs) : w.ownsRow B 9 1 u xs.length (strs (marksK j xs.length)) := by
  have h3 := h j u xs h1 h2
  have hj := (List.getElem?_eq_some_iff.1 h1).1
  unfold rowF at h3
  rw [if_pos (by omega)] at h3
  exact h3

set_option maxRecDepth 100000 in
set_option maxHeartbeats 8000000 in
theorem apart_p (B g c : Nat) (us : List Value) (xss : List (List ByteArray)) (w : World) (hl : us.length = xss.length) (hm : us.length ≤ 1000) (hB : B ≤ w.heap.size) (hL : Lies w g 22 us.toArray)
    (hA : Handed g us) (hR : Rws w B us xss 0 0) (hz : ∀ xs ∈ xss, xs.length ≤ 1099511627776) :
    Calls Try.prog 9 #[.slice (some ⟨g, 0, none⟩) us.length c] w fun e w' => e = .returned (.bool true) ∧ Below B w w' := by
  obtain ⟨i0, hi, z0, z1, z2⟩ := info_parts str_info
  obtain ⟨j0, hj, y0, y1, y2⟩ := info_parts sl_info
  have HL0 : Hid _ := hL
  have HR0 : Hid _ := hR
  have HA : Hid _ := hA
  have HZ : Hid _ := hz
  have HLL : Hid _ := hl
  clear hL hR hA hz hl
  go_enter Try.func9, Try.ntmps9
  go_wp2
  go_loopw [3] (fun n wr => ∃ k : Nat, k ≤ us.length ∧ n = .int .i64 k ∧ Hid (Lies wr g 22 us.toArray) ∧ Hid (Rws wr B us xss k 0) ∧ Below B w wr) (fun n _ => us.length - (intOf n).toNat)
  case atStart => exact ⟨0, Nat.zero_le _, rfl, HL0, HR0, Below.refl _ _⟩
  case round =>
    clear HL0 HR0
    obtain ⟨k, hk, rfl, HL, HR, hB1⟩ := hrel
    by_cases hlt : k < us.length
    · obtain ⟨u, hu⟩ : ∃ u, us[k]? = some u := ⟨_, List.getElem?_eq_getElem hlt⟩
      obtain ⟨xs, hx⟩ : ∃ xs, xss[k]? = some xs := ⟨_, List.getElem?_eq_getElem (by rw [← HLL.out]; exact hlt)⟩
      have hzx := HZ.out xs (List.mem_of_getElem? hx)
      obtain ⟨a, cu, rfl, hac, hab, _⟩ := own_shape (HR.out k u xs hu hx)
      have hcell := HL.out.cell (i := k) (by simpa using hu)
      have HU : Hid _ := hu
      have HX : Hid _ := hx
      clear hu hx
      have d1 : (0 : Int) ≤ (k : Int) := by omega
      have d2 : (k : Int) < (us.length : Int) := by omega
      go_wp2
      go_loopw [4] (fun n wr2 => ∃ i : Nat, i ≤ xs.length ∧ n = .int .i64 i ∧ Hid (Lies wr2 g 22 us.toArray) ∧ Hid (Rws wr2 B us xss k i) ∧ Below B w wr2) (fun n _ => xs.length - (intOf n).toNat)
      case atStart => exact ⟨0, Nat.zero_le _, rfl, HL, HR, hB1⟩
      case round =>
        clear HL HR hB1 hcell
        obtain ⟨i, hi2, rfl, HL, HR, hB1⟩ := hrel
        have hcell := HL.out.cell (i := k) (by simpa using HU.out)
        by_cases hin : i < xs.length
        · cases a with
          | none => exact absurd (hac rfl).2 (by omega)
          | some ad =>
            obtain ⟨gk, rfl⟩ := hab ad rfl
            have e1 : (0 : Int) ≤ (i : Int) := by omega
            have e2 : (i : Int) < (xs.length : Int) := by omega
            have hM := marks_p (k : Int) (i : Int) wr.drew
            have hrow := HR.out k _ xs HU.out HX.out
            obtain ⟨y, hy⟩ : ∃ y, (strs (rowF k i k xs))[i]? = some y := ⟨_, List.getElem?_eq_getElem (by rw [hrow.1]; omega)⟩
            have HF : Hid (∀ w2, Below wr.drew.heap.size wr.drew w2 → w2.cell? ⟨g, k, none⟩ = some (.slice (some ⟨gk, 0, none⟩) xs.length cu) ∧ w2.cell? ⟨gk, i, none⟩ = some y ∧ w2.frozen? ⟨gk, i, none⟩ = false) := by
              intro w2 b2
              have b3 : Below wr.heap.size wr w2 := (below_drawn (Below.refl _ wr) 1).trans b2
              have r2 := own_below hrow b3
              exact ⟨(HL.out.below b3).cell (i := k) (by simpa using HU.out), row_cell r2 i y hy, own_frozen r2 i⟩
            have hBg := (hrow.lt gk rfl).1
            have hne : gk ≠ g := fun e => HA.out.gap k _ HU.out (by rw [e]; rfl)
            clear hrow hy
            go_wp2
            go_region_with (first | (go_at_call 20; refine hM.mono ?_; rintro e w2 ⟨rfl, b2⟩; obtain ⟨k0, k1, k2⟩ := HF.out w2 b2))
            all_goals go_wp2
            all_goals
              have b3 : Below wr.heap.size wr w2 := (below_drawn (Below.refl _ wr) 1).trans b2
              have hs1 := hB1.size
              exact ⟨⟨i + 1, by omega, by go_num, (HL.out.below b3).other _ hne, (HR.out.below b3).set HA.out HU.out HX.out hin, (hB1.trans (b3.mono (by omega))).setCell (p := ⟨gk, i, none⟩) hBg _⟩, by simp [intOf]; omega⟩
        · obtain rfl : i = xs.length := by omega
          have HR2 : Hid (Rws wr B us xss (k + 1) 0) := HR.out.next HX.out
          go_wp2
          exact ⟨⟨k + 1, by omega, by go_num, HL, HR2, hB1⟩, by simp [intOf]; omega⟩
    · obtain rfl : k = us.length := by omega
      have HD : Hid (∀ (j : Nat) (u : Value) (xs : List ByteArray), us[j]? = some u → xss[j]? = some xs → wr.ownsRow B 9 1 u xs.length (strs (marksK j xs.length))) := fun j u xs h1 h2 => HR.out.done rfl j u xs h1 h2
      clear HR
      go_wp2
      obtain ⟨w1, hw1⟩ : ∃ w1, w1 = wr := ⟨_, rfl⟩
      subst hw1
      have hBw : B ≤ w1.heap.size := by have := hB1.size; omega
      go_loopw [5, 6] (fun gv n wr2 => ∃ (k : Nat) (vs : List Value), k ≤ us.length ∧ n = .int .i64 k ∧ Hid (Grew w1 wr2 B us xss k vs gv) ∧ Below B w wr2) (fun _ n _ => us.length - (intOf n).toNat)
      case atStart => exact ⟨0, [], Nat.zero_le _, rfl, ⟨rfl, Nat.le_refl _, fun _ _ _ => rfl, fun j _ _ h => absurd h (Nat.not_lt_zero j), fun j v xs h => by simp at h, World.ownsRow_nil _ _ _ _, fun j v h => by simp at h, fun j v u h => by simp at h⟩, hB1⟩
      case round =>
        obtain ⟨k, vs, hk, rfl, HG, hB2⟩ := hrel
        by_cases hlt : k < us.length
        · obtain ⟨u, hu⟩ : ∃ u, us[k]? = some u := ⟨_, List.getElem?_eq_getElem hlt⟩
          obtain ⟨xs, hx⟩ : ∃ xs, xss[k]? = some xs := ⟨_, List.getElem?_eq_getElem (by rw [← HLL.out]; exact hlt)⟩
          have hzx := HZ.out xs (List.mem_of_getElem? hx)
          have hul : ∀ b, u.ownBlock = some b → b < w1.heap.size := fun b hb => ((HD.out k u xs hu hx).lt b hb).2
          have hown2 : wr.ownsRow B 9 1 u xs.length (strs (marksK k xs.length)) := own_same (HD.out k u xs hu hx) (fun b hb => HG.out.same b (hul b hb) (fun j u' hj hu' e => by
            rcases HA.out.apart j k u' u hu' hu (by omega) with h | h
            · rw [e] at h; cases h
            · exact h (e.trans hb.symm)))
          have hgl : Lies wr g 22 us.toArray := (HG.out.same g HL.out.lt (fun j u' _ hu' => HA.out.gap j u' hu')).trans HL.out
          have hcell := hgl.cell (i := k) (by simpa using hu)
          have hsz2 := HG.out.size
          have HUL : Hid (∀ b, u.ownBlock = some b → b < wr.heap.size) := fun b hb => Nat.lt_of_lt_of_le (hul b hb) hsz2
          have HUL1 : Hid (∀ b, u.ownBlock = some b → b < w1.heap.size) := hul
          have HUG : Hid (u.ownBlock ≠ some g) := HA.out.gap k u hu
          have HGL : Hid (Lies wr g 22 us.toArray) := hgl
          have HU : Hid _ := hu
          have HX : Hid _ := hx
          obtain ⟨a, cu, rfl, hac, hab, _⟩ := own_shape hown2
          clear hu hx hul hgl
          have d1 : (0 : Int) ≤ (k : Int) := by omega
          have d2 : (k : Int) < (us.length : Int) := by omega
          go_wp2
          obtain ⟨w2, hw2⟩ : ∃ w2, w2 = wr := ⟨_, rfl⟩
          subst hw2
          go_loopw [7, 8] (fun v n wr3 => ∃ i : Nat, i ≤ 64 ∧ n = .int .i64 i ∧ Hid (Grows w2 wr3 B k xs.length i (.slice a xs.length cu) v) ∧ Below B w wr3) (fun _ n _ => 64 - (intOf n).toNat)
          case atStart => exact ⟨0, by omega, rfl, ⟨Nat.le_refl _, fun _ _ _ => rfl, TextsAt.own (B := B) (by rw [marksK_length]; exact hown2), hown2, .inl rfl⟩, hB2⟩
          case round =>
            clear hcell
            obtain ⟨i, hi2, rfl, HS, hB3⟩ := hrel
            have hcell : wr.cell? ⟨g, k, none⟩ = some (.slice a xs.length cu) := Lies.cell (t := 22) (cur := us.toArray) ((HS.out.same g HGL.out.lt HUG.out).trans HGL.out) (by simpa using HU.out)
            by_cases hin : i < 64
            · have e1 : (0 : Int) ≤ (i : Int) := by omega
              have e2 : (i : Int) < 64 := by omega
              go_wp2_with fail
              refine (marks_p _ _ wr).mono ?_
              rintro e w3 ⟨rfl, b3⟩
              have hB4 : Below B w w3 := hB3.trans (b3.mono (by have := hB3.size; omega))
              have hs4 := hB4.size
              have HS3 := HS.out.below HUL.out b3
              obtain ⟨x, hxm⟩ : ∃ x, x = markB (k : Int) ((xs.length : Int) + (i : Int)) := ⟨_, rfl⟩
              rw [← hxm]
              have HXM : Hid (x = markB (k : Int) ((xs.length + i : Nat) : Int)) := by unfold Hid; rw [hxm]; simp
              have HS4 : Hid (Grows w2 (w3.alloc (.cells #[.string x] 9)) B k xs.length i (.slice a xs.length cu) u7) := HS3.below HUL.out ((Below.refl _ w3).alloc (Nat.le_refl _) _)
              clear hxm HS3 HS
              go_wp2_with (at_builtin; refine wpList_append_keep _ rfl _ _ 22 rfl B 9 i0 (.string ⟨#[]⟩) 16 Try.underlying22 hi z0 z1 z2 rfl _ _ _ rfl HS4.out.new ⟨w3.heap.size, 0, none⟩ 1 (.string x) rfl (cell_one_new _ _ _) rfl ?c3 ?c4 ?c5 ?_)
              case c3 => unfold maxLen; omega
              case c4 => omega
              case c5 => simp; omega
              intro v' w4 hown' hg
              rw [show w3.heap.size + 1 = (w3.alloc (.cells #[.string x] 9)).heap.size from (World.size_alloc _ _).symm] at hg
              have hgs := grown_below hg HS4.out.new (by simp; omega)
              have HS5 : Hid (Grows w2 w4 B k xs.length (i + 1) (.slice a xs.length cu) v') := HS4.out.step HUL.out (fun e => by cases a with | none => exact (hac rfl).2 | some _ => cases e) ⟨a, cu, rfl, fun e => (hac e).1, hab⟩ (by rw [← HXM.out]; exact hown') hg
              clear hown' hg HS4
              go_wp2
              exact ⟨⟨i + 1, by omega, by go_num, HS5, (hB4.alloc (by omega) _).trans hgs⟩, by simp [intOf]; omega⟩
            · obtain rfl : i = 64 := by omega
              obtain ⟨av, cv, rfl, _⟩ := own_shape HS.out.new
              have hgo : wr.ownsRow w1.heap.size 22 1 u5 k vs := own_same HG.out.row (fun b hb => HS.out.same b (HG.out.row.lt b hb).2 (fun e => by have h1 := (HG.out.row.lt b hb).1; have h2 := HUL1.out b e; omega))
              go_wp2_with (at_builtin; refine wpList_append_keep _ rfl _ _ 26 rfl w1.heap.size 22 j0 (.slice none 0 0) 24 Try.underlying26 hj y0 y1 y2 rfl _ _ _ rfl (hgo.alloc _) ⟨wr.heap.size, 0, none⟩ 1 (.slice av (xs.length + 64) cv) rfl (cell_one_new _ _ _) rfl ?c3 ?c4 ?c5 ?_)
              case c3 => unfold maxLen; omega
              case c4 => omega
              case c5 => have := HG.out.size; have := HS.out.size; simp; omega
              intro gv' w4 hown' hg
              rw [show wr.heap.size + 1 = (wr.alloc (.cells #[.slice av (xs.length + 64) cv] 22)).heap.size from (World.size_alloc _ _).symm] at hg
              have hs3 := hB3.size
              have hgs := grown_below hg ((own_base hgo hBw).alloc _) (by simp; omega)
              have HS5 : Hid (Grew w1 w4 B us xss (k + 1) (vs ++ [.slice av (xs.length + 64) cv]) gv') := HG.out.step HA.out HU.out HX.out rfl (fun j u hu b hb => by
                obtain ⟨xj, hxj⟩ : ∃ xj, xss[j]? = some xj := ⟨_, List.getElem?_eq_getElem (by rw [← HLL.out]; exact (List.getElem?_eq_some_iff.1 hu).1)⟩
                exact ((HD.out j u xj hu hxj).lt b hb).2) (HS.out.below HUL.out ((Below.refl _ wr).alloc (Nat.le_refl _) _)) hown' hg
              clear hown' hg hgo
              go_wp2
              exact ⟨⟨k + 1, _, by omega, by go_num, HS5, (hB3.alloc (by omega) _).trans hgs⟩, by simp [intOf]; omega⟩
        · obtain rfl : k = us.length := by omega
          obtain ⟨w2, hw2⟩ : ∃ w2, w2 = wr := ⟨_, rfl⟩
          subst hw2
          have hsz2 := HG.out.size
          have HGL : Hid (Lies w2 g 22 us.toArray) := (HG.out.same g HL.out.lt (fun j u' _ hu' => HA.out.gap j u' hu')).trans HL.out
          go_wp2
          go_loopw [9] (fun n wr => ∃ k : Nat, k ≤ us.length ∧ n = .int .i64 k ∧ Below w2.heap.size w2 wr) (fun n _ => us.length - (intOf n).toNat)
          case atStart => exact ⟨0, Nat.zero_le _, rfl, Below.refl _ _⟩
          case round =>
            obtain ⟨k, hk, rfl, hb⟩ := hrel
            by_cases hlt : k < us.length
            · obtain ⟨u, hu⟩ : ∃ u, us[k]? = some u := ⟨_, List.getElem?_eq_getElem hlt⟩
              obtain ⟨v, hv⟩ : ∃ v, vs[k]? = some v := ⟨_, List.getElem?_eq_getElem (by rw [HG.out.len]; exact hlt)⟩
              obtain ⟨xs, hx⟩ : ∃ xs, xss[k]? = some xs := ⟨_, List.getElem?_eq_getElem (by rw [← HLL.out]; exact hlt)⟩
              have hzx := HZ.out xs (List.mem_of_getElem? hx)
              obtain ⟨a, ca, hua, _, ha2⟩ := HG.out.old k u xs hlt hu hx
              obtain ⟨av, cv, hva, _, hv2⟩ := HG.out.new k v xs hv hx
              rw [marksK_length] at hua hva
              subst hua
              subst hva
              have HUA : Hid _ := ha2
              have HVA : Hid _ := hv2
              have hrow := HG.out.row
              rcases hrow.2 with ⟨_, h0⟩ | ⟨gg, cg, cur, hgv, _, _, _, hcg, _⟩
              · omega
              subst hgv
              have HC : Hid (∀ wr, Below w2.heap.size w2 wr → wr.cell? ⟨g, k, none⟩ = some (.slice a xs.length ca) ∧ wr.cell? ⟨gg, k, none⟩ = some (.slice av (xs.length + 64) cv)) := fun wr hb => ⟨(HGL.out.below hb).cell (by simpa using hu), row_cell (own_below hrow hb) k _ hv⟩
              obtain ⟨q1, q2⟩ := HC.out wr hb
              unfold maxLen at hcg
              clear hrow hu hv hx ha2 hv2
              have d1 : (0 : Int) ≤ (k : Int) := by omega
              have d2 : (k : Int) < (us.length : Int) := by omega
              go_wp2
              go_loopw [10] (fun n wr => ∃ i : Nat, i ≤ xs.length + 64 ∧ n = .int .i64 i ∧ Below w2.heap.size w2 wr) (fun n _ => xs.length + 64 - (intOf n).toNat)
              case atStart => exact ⟨0, Nat.zero_le _, rfl, hb⟩
              case round =>
                clear q1 q2 hb
                obtain ⟨i, hi2, rfl, hb⟩ := hrel
                obtain ⟨q1, q2⟩ := HC.out wr hb
                by_cases hin : i < xs.length + 64
                · obtain ⟨bv, ov, rfl, hcv⟩ := HVA.out i _ (marksK_get k (xs.length + 64) i hin)
                  have e1 : (0 : Int) ≤ (i : Int) := by omega
                  have e2 : (i : Int) < (xs.length : Int) + 64 := by omega
                  have dxx : ((markB (k : Int) (i : Int)).toList == (markB (k : Int) (i : Int)).toList) = true := by simp
                  go_wp2_with fail
                  refine (marks_p _ _ wr).mono ?_
                  rintro e w3 ⟨rfl, b3⟩
                  have hb3 := below_join hb b3
                  obtain ⟨p1, p2⟩ := HC.out w3 hb3
                  have hcv3 := (hb3.cell (p := ⟨bv, ov + i, none⟩) (World.block_lt_of_cell? w2 _ hcv)).trans hcv
                  clear q1 q2 hb b3 hcv
                  by_cases hin2 : i < xs.length
                  · obtain ⟨bu, ou, rfl, hcu⟩ := HUA.out i _ (marksK_get k xs.length i hin2)
                    have hcu3 := (hb3.cell (p := ⟨bu, ou + i, none⟩) (World.block_lt_of_cell? w2 _ hcu)).trans hcu
                    have e3 : (i : Int) < (xs.length : Int) := by omega
                    clear hcu
                    generalize markB (k : Int) (i : Int) = x at *
                    go_wp2
                    exact ⟨⟨i + 1, by omega, by go_num, hb3⟩, by simp [intOf]; omega⟩
                  · have e3 : ¬ (i : Int) < (xs.length : Int) := by omega
                    generalize markB (k : Int) (i : Int) = x at *
                    go_wp2
                    exact ⟨⟨i + 1, by omega, by go_num, hb3⟩, by simp [intOf]; omega⟩
                · obtain rfl : i = xs.length + 64 := by omega
                  go_wp2
                  exact ⟨⟨k + 1, by omega, by go_num, hb⟩, by simp [intOf]; omega⟩
            · obtain rfl : k = us.length := by omega
              go_wp2
              go_ret
              exact ⟨rfl, hB2.trans (hb.mono (by have := hB2.size; omega))⟩
end Go.Proofs.Ytjmekcakiacdfaa.Tx
