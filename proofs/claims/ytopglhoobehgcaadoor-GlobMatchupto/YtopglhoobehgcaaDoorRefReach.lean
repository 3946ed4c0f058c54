/- The document's answer for how far a pattern's pieces come, and whether it matches. -/
import Derived.Test.YtopglhoobehgcaaDoorRefMatch
namespace Go.Proofs.YtopglhoobehgcaaDoor
open Go Go.RowKit

theorem allOf_at : ∀ {xs : List ByteArray} {ps : List Pc} {k : Nat} {x : ByteArray}, allOf xs = some ps → xs[k]? = some x → ∃ p, ps[k]? = some p ∧ pieceOf x = some p
  | [], _, _, _, _, h => by simp at h
  | y :: xs, ps, k, x, h, hx => by
    simp only [allOf] at h
    cases hp : pieceOf y with
    | none => simp [hp] at h
    | some p =>
      simp only [hp, Option.map_eq_some_iff] at h
      obtain ⟨r, hr, rfl⟩ := h
      cases k with
      | zero => simp at hx; subst hx; exact ⟨p, rfl, hp⟩
      | succ k => obtain ⟨q, h1, h2⟩ := allOf_at hr (by simpa using hx); exact ⟨q, by simpa using h1, h2⟩

theorem wrap_succ (i : Nat) (h : i ≤ 1099511627777) : IntKind.i64.wrap ((i : Int) + 1) = (i : Int) + 1 := by
  simp only [IntKind.wrap, IntKind.bits, IntKind.signed]
  simp
  omega

set_option maxRecDepth 100000 in
set_option maxHeartbeats 8000000 in
theorem reached_r (s : ByteArray) (ps : List Pc) (ys : List ByteArray) (b2 : Nat) (u : Value) (w : World) (hp : patOf s = some ps) (hu : w.ownsRow b2 9 1 u ys.length (strs ys)) (hl2 : ys.length ≤ 1099511627776) (hz : ∀ y ∈ ys, y.size ≤ 1099511627776) :
    Calls Tryd.prog 37 #[.string s, u] w fun e w' => ∃ g, e = .returned (.slice (some ⟨g, 0, none⟩) (ys.length + 1) (ys.length + 1)) ∧ Lies w' g 4 (rowB (ys.length + 1) (takenB (isMany (ps.map pcTaker)) (isTaken (ps.map pcTaker) ys) ps.length)) ∧ Below w.heap.size w w' := by
  have hmk : ∀ W, (Instr.makeSlice 50 (.int .i64 ((ys.length : Int) + 1)) (.int .i64 ((ys.length : Int) + 1))).run Tryd.prog W = .ok (.slice (some ⟨W.heap.size, 0, none⟩) (ys.length + 1) (ys.length + 1)) (W.alloc (.cells (rowB (ys.length + 1) fun _ => false) 4)) := fun W => make_bools (ys.length + 1) (by omega) W
  have hmk0 : (rowB (ys.length + 1) fun _ => false)[0]? = some (.bool false) := rowB_get _ _ 0 (by omega)
  have e0 : (0 : Int) < (ys.length : Int) + 1 := by omega
  obtain ⟨xs, hxs⟩ : ∃ xs, namesB s = xs := ⟨_, rfl⟩
  have hpat : s.size ≤ 1020 ∧ allOf xs = some ps := by
    unfold patOf at hp; rw [hxs] at hp
    split at hp
    · rename_i h; exact ⟨h.1, hp⟩
    · cases hp
  obtain ⟨hs, hall⟩ := hpat
  have hplen := allOf_length hall
  have hxl : xs.length ≤ 1021 := by have h1 := length_wt xs; have h2 := wt_names s; rw [hxs] at h2; omega
  have HX : Hid (∀ x ∈ xs, x.size ≤ 1020) := fun x hx => Nat.le_trans (names_size s x (by rw [hxs]; exact hx)) hs
  have hnr := names_r s w (by omega)
  rw [hxs] at hnr
  obtain ⟨M, hM⟩ : ∃ M, isMany (ps.map pcTaker) = M := ⟨_, rfl⟩
  obtain ⟨T, hT⟩ : ∃ T, isTaken (ps.map pcTaker) ys = T := ⟨_, rfl⟩
  rw [hM, hT]
  have HM : Hid (isMany (ps.map pcTaker) = M) := hM
  have HT : Hid (isTaken (ps.map pcTaker) ys = T) := hT
  have HA : Hid (allOf xs = some ps) := hall
  have HZ : Hid (∀ y ∈ ys, y.size ≤ 1099511627776) := hz
  obtain ⟨ou, cu, rfl⟩ : ∃ o c, u = .slice o ys.length c := by
    rcases hu.2 with ⟨rfl, h0⟩ | ⟨g, cap, cur, rfl, _⟩
    · exact ⟨none, 0, by rw [h0]⟩
    · exact ⟨_, _, rfl⟩
  have HU : Hid (w.ownsRow b2 9 1 (.slice ou ys.length cu) ys.length (strs ys)) := hu
  clear hM hT hxs hall hp hz hu
  rw [hplen]
  go_enter Tryd.func37, Tryd.ntmps37
  go_wp2_with fail
  refine hnr.mono ?_
  rintro e w1 ⟨v, rfl, ho, b1⟩
  obtain ⟨o, c, rfl⟩ : ∃ o c, v = .slice o xs.length c := by
    rcases ho.2 with ⟨rfl, h0⟩ | ⟨g, cap, cur, rfl, _⟩
    · exact ⟨none, 0, by rw [h0]⟩
    · exact ⟨_, _, rfl⟩
  have HO : Hid (w1.ownsRow w.heap.size 9 1 (.slice o xs.length c) xs.length (strs xs) ∧ w1.ownsRow b2 9 1 (.slice ou ys.length cu) ys.length (strs ys)) := ⟨ho, own_below HU.out b1⟩
  clear ho hnr hplen
  go_wp2
  go_loopg [6, 7] (xs.length + 1) (fun gk cv kv wr => ∃ (k g : Nat), kv = .int .i64 k ∧ k ≤ xs.length ∧ cv = .slice (some ⟨g, 0, none⟩) (ys.length + 1) (ys.length + 1) ∧ w1.heap.size ≤ g ∧ Aside (xs.length + 1 - k ≤ gk ∧ Lies wr g 4 (rowB (ys.length + 1) (takenB M T k))) ∧ Below w1.heap.size w1 wr)
  case atStart =>
    refine ⟨0, w1.heap.size, rfl, Nat.zero_le _, rfl, Nat.le_refl _, ⟨by omega, ?_⟩, (Below.refl _ w1).alloc (Nat.le_refl _) _⟩
    have e : rowB (ys.length + 1) (takenB M T 0) = (rowB (ys.length + 1) fun _ => false).setIfInBounds 0 (.bool true) := by
      rw [rowB_set (ys.length + 1) (fun _ => false) 0 true (by omega)]
      exact rowB_congr (fun i _ => by rw [taken_start]; by_cases h : i = 0 <;> simp [h])
    rw [e]
    exact Lies.new w1 _ _
  case round =>
    obtain ⟨k, g, rfl, hk, rfl, hg, HP, hB⟩ := hrel
    have hL := HP.out.2
    by_cases hlt : k < xs.length
    · obtain ⟨x, hx⟩ : ∃ x, xs[k]? = some x := ⟨_, List.getElem?_eq_getElem hlt⟩
      obtain ⟨p, hpk, hpx⟩ := allOf_at HA.out hx
      obtain ⟨g2, rfl⟩ : ∃ g2, o = some ⟨g2, 0, none⟩ := by
        rcases HO.out.1.2 with ⟨_, h0⟩ | ⟨g2, cap2, cur2, h0, _⟩
        · omega
        · exact ⟨g2, (Value.slice.inj h0).1⟩
      have cx := row_cell (own_below HO.out.1 hB) k (.string x) (by simp [strs, hx])
      have d1 : (0 : Int) ≤ (k : Int) := by omega
      have d2 : (k : Int) < (xs.length : Int) := by omega
      cases hst : isStars x
      rotate_left
      · have hMk : M k = true := by
          rw [← HM.out, pcs_many hpk]
          unfold pieceOf at hpx; rw [hst] at hpx; simp at hpx; subst hpx; rfl
        have hstb : (x.toList == [42, 42]) = true := hst
        have hsp := spread_r g (ys.length + 1) (takenB M T k) wr (by omega) hL
        clear hL hpk hpx hst hx
        go_wp2_with fail
        refine hsp.mono ?_
        rintro e w2 ⟨rfl, hL2, hG2⟩
        have HB2 : Hid (Below w1.heap.size w1 w2) := hB.grown hG2 hB.size (fun j e => by cases e; exact hg)
        have HL2 : Hid (Lies w2 g 4 (rowB (ys.length + 1) (takenB M T (k + 1)))) := by
          unfold Hid
          have e : rowB (ys.length + 1) (takenB M T (k + 1)) = rowB (ys.length + 1) (anyTo (takenB M T k)) := rowB_congr (fun i _ => taken_many hMk i)
          rw [e]; exact hL2
        clear hL2 hG2 hMk hsp
        go_wp2
        go_roundg (xs.length + 1 - (k + 1))
        case rel => exact ⟨k + 1, g, by go_num, by omega, rfl, hg, ⟨Nat.le_refl _, HL2.out⟩, HB2.out⟩
        case measure => have := HP.out.1; omega
      · obtain ⟨qs, hqs, rfl⟩ : ∃ qs, partsOf (un x) = some qs ∧ p = some qs := by
          unfold pieceOf at hpx; rw [hst] at hpx
          simp only [Bool.false_eq_true, if_false, Option.map_eq_some_iff] at hpx
          obtain ⟨a, ha, rfl⟩ := hpx
          exact ⟨a, ha, rfl⟩
        have hMk : M k = false := by rw [← HM.out, pcs_many hpk]; rfl
        have hstb : (x.toList == [42, 42]) = false := hst
        have hxz := HX.out x (List.mem_of_getElem? hx)
        have hlg2 : g2 < wr.heap.size := World.block_lt_of_cell? wr ⟨g2, k, none⟩ cx
        have HTk : Hid (∀ (i : Nat) y, ys[i]? = some y → T k i = takeI qs (un y)) := fun i y hy => by
          rw [← HT.out]; unfold isTaken; rw [List.getElem?_map, hpk, hy]; rfl
        have HTC : Hid (∀ y W, y ∈ ys → Calls Tryd.prog 59 #[.string x, .string y] W fun e w' => e = .returned (.bool (takeI qs (un y))) ∧ Below W.heap.size W w') := fun y W hy => takes_r x y qs W hqs (by omega) (HZ.out y hy)
        obtain ⟨wo, hwo⟩ : ∃ wo, wo = wr := ⟨_, rfl⟩
        subst hwo
        have HLg : Hid (Lies wo g 4 (rowB (ys.length + 1) (takenB M T k))) := hL
        have HUo : Hid (wo.ownsRow b2 9 1 (.slice ou ys.length cu) ys.length (strs ys)) := own_below HO.out.2 hB
        have HCx : Hid (wo.cell? ⟨g2, k, none⟩ = some (.string x)) := cx
        clear hL hpk hpx hst hx hqs
        go_wp2
        go_loopg [9] (ys.length + 1) (fun gi iv wx => ∃ i : Nat, iv = .int .i64 i ∧ i ≤ ys.length ∧ Aside (ys.length + 1 - i ≤ gi ∧ Lies wx wo.heap.size 4 (rowB (ys.length + 1) (fun x => decide (x ≤ i) && takenB M T (k + 1) x))) ∧ Below wo.heap.size wo wx)
        case atStart =>
          refine ⟨0, rfl, Nat.zero_le _, ⟨by omega, ?_⟩, (Below.refl _ wo).alloc (Nat.le_refl _) _⟩
          have e : rowB (ys.length + 1) (fun x => decide (x ≤ 0) && takenB M T (k + 1) x) = rowB (ys.length + 1) fun _ => false := rowB_congr (fun x _ => by
            by_cases h : x = 0
            · subst h; rw [taken_zero hMk]; rfl
            · rw [decide_eq_false (by omega), Bool.false_and])
          rw [e]
          exact Lies.new wo _ _
        case round =>
          obtain ⟨i, rfl, hi, HI, hBi⟩ := hrel
          by_cases hlti : i < ys.length
          · obtain ⟨y, hy⟩ : ∃ y, ys[i]? = some y := ⟨_, List.getElem?_eq_getElem hlti⟩
            obtain ⟨g4, rfl⟩ : ∃ g4, ou = some ⟨g4, 0, none⟩ := by
              rcases HUo.out.2 with ⟨_, h0⟩ | ⟨g4, cap4, cur4, h0, _⟩
              · omega
              · exact ⟨g4, (Value.slice.inj h0).1⟩
            have cy := row_cell (own_below HUo.out hBi) i (.string y) (by simp [strs, hy])
            have cx2 : wr.cell? ⟨g2, k, none⟩ = some (.string x) := (hBi.cell (p := ⟨g2, k, none⟩) hlg2).trans HCx.out
            have cc := (HLg.out.below hBi).cell (rowB_get (ys.length + 1) (takenB M T k) i (by omega))
            have HS : Hid (∀ W b, Lies W wo.heap.size 4 (rowB (ys.length + 1) (fun x => decide (x ≤ i) && takenB M T (k + 1) x)) → b = takenB M T (k + 1) (i + 1) → Lies (W.setCell ⟨wo.heap.size, i + 1, none⟩ (.bool b)) wo.heap.size 4 (rowB (ys.length + 1) (fun x => decide (x ≤ i + 1) && takenB M T (k + 1) x))) := fun W b hW hb => by
              have e : rowB (ys.length + 1) (fun x => decide (x ≤ i + 1) && takenB M T (k + 1) x) = rowB (ys.length + 1) (fun x => if x = i + 1 then b else decide (x ≤ i) && takenB M T (k + 1) x) := rowB_congr (fun x _ => by
                by_cases h : x = i + 1
                · subst h; rw [if_pos rfl, hb]; simp
                · rw [if_neg h]
                  by_cases h2 : x ≤ i
                  · simp [h2, show x ≤ i + 1 by omega]
                  · simp [h2, show ¬ x ≤ i + 1 by omega])
              rw [e]; exact hW.setB b (by omega)
            have hval : takenB M T (k + 1) (i + 1) = (takeI qs (un y) && takenB M T k i) := by rw [taken_one hMk, HTk.out i y hy]
            have e1 : (0 : Int) ≤ (i : Int) := by omega
            have e2 : (i : Int) < (ys.length : Int) := by omega
            have e3 : (i : Int) < (ys.length : Int) + 1 := by omega
            have e4 : (i : Int) + 1 < (ys.length : Int) + 1 := by omega
            have e5 : (0 : Int) ≤ (i : Int) + 1 := by omega
            cases htk : takenB M T k i
            · have HV : Hid (false = takenB M T (k + 1) (i + 1)) := by unfold Hid; rw [hval, htk]; simp
              have cn := HI.out.2.cell (rowB_get (ys.length + 1) (fun x => decide (x ≤ i) && takenB M T (k + 1) x) (i + 1) (by omega))
              have fn := HI.out.2.frozen (i + 1)
              rw [htk] at cc
              clear hval htk hy
              go_wp2
              go_region
              all_goals go_wp2
              all_goals go_roundg (ys.length + 1 - (i + 1))
              case rel => exact ⟨i + 1, by go_num, by omega, ⟨Nat.le_refl _, (HS.out _ _ HI.out.2 HV.out).drew 1⟩, below_drew (hBi.setCell (p := ⟨wo.heap.size, i + 1, none⟩) (Nat.le_refl _) _)⟩
              case measure => have := HI.out.1; omega
            · have HV : Hid (takeI qs (un y) = takenB M T (k + 1) (i + 1)) := by unfold Hid; rw [hval, htk]; simp
              have hcall := HTC.out y wr.drew (List.mem_of_getElem? hy)
              rw [htk] at cc
              have cn := HI.out.2.cell (rowB_get (ys.length + 1) (fun x => decide (x ≤ i) && takenB M T (k + 1) x) (i + 1) (by omega))
              have fn := HI.out.2.frozen (i + 1)
              obtain ⟨bv, hbv⟩ : ∃ bv, takeI qs (un y) = bv := ⟨_, rfl⟩
              rw [hbv] at hcall HV
              have HI2 : Hid (Lies wr wo.heap.size 4 (rowB (ys.length + 1) (fun x => decide (x ≤ i) && takenB M T (k + 1) x))) := HI.out.2
              have HF4 : Hid (∀ w4, Below wr.drew.heap.size wr.drew w4 → (∃ u4, w4.cell? ⟨wo.heap.size, i + 1, none⟩ = some u4) ∧ w4.frozen? ⟨wo.heap.size, i + 1, none⟩ = false) := fun w4 hb4 => ⟨⟨_, ((HI2.out.drew 1).below hb4).cell (rowB_get (ys.length + 1) (fun x => decide (x ≤ i) && takenB M T (k + 1) x) (i + 1) (by omega))⟩, ((HI2.out.drew 1).below hb4).frozen (i + 1)⟩
              clear hval htk hy hbv
              have hwr := wrap_succ i (by omega)
              go_wp2
              go_region_with (first | (go_at_call 59; refine hcall.mono ?_; rintro e w4 ⟨rfl, hb4⟩; obtain ⟨⟨u4, cn4⟩, fn4⟩ := HF4.out w4 hb4))
              all_goals (
                go_wp2
                go_roundg (ys.length + 1 - (i + 1))
                case rel => exact ⟨i + 1, by go_num, by omega, ⟨Nat.le_refl _, HS.out _ _ ((HI2.out.drew 1).below hb4) HV.out⟩, ((below_drew hBi).trans (hb4.mono (below_drew hBi).size)).setCell (p := ⟨wo.heap.size, i + 1, none⟩) (Nat.le_refl _) _⟩
                case measure => have := HI.out.1; omega)
          · obtain rfl : i = ys.length := by omega
            have HLn : Hid (Lies wr wo.heap.size 4 (rowB (ys.length + 1) (takenB M T (k + 1)))) := by
              unfold Hid
              have e : rowB (ys.length + 1) (takenB M T (k + 1)) = rowB (ys.length + 1) (fun x => decide (x ≤ ys.length) && takenB M T (k + 1) x) := rowB_congr (fun x hx => by rw [decide_eq_true (by omega), Bool.true_and])
              rw [e]; exact HI.out.2
            go_wp2
            go_roundg (xs.length + 1 - (k + 1))
            case rel => exact ⟨k + 1, wo.heap.size, by go_num, by omega, rfl, hB.size, ⟨Nat.le_refl _, HLn.out⟩, hB.trans (hBi.mono hB.size)⟩
            case measure => have := HP.out.1; omega
    · obtain rfl : k = xs.length := by omega
      go_wp2
      go_ret
      exact ⟨g, rfl, HP.out.2, b1.trans (hB.mono b1.size)⟩

set_option maxHeartbeats 2000000 in
theorem match_r (pat p : ByteArray) (w : World) (hz : pat.size ≤ 1099511627775) (hp : p.size ≤ 1099511627775) : Calls Tryd.prog 14 #[.string pat, .string p] w fun e w' => e = .returned (.tuple #[.bool (matchB pat p), .int .i64 (if (patOf pat).isNone then 24 else 0)]) ∧ Below w.heap.size w w' := by
  have hcall := pattern_r pat w hz
  cases hpat : patOf pat with
  | none =>
    have HM : Hid (matchB pat p = false) := by unfold Hid matchB; rw [hpat]
    rw [hpat] at hcall
    simp only [Option.isSome_none, Option.isNone_none, if_true] at hcall ⊢
    clear hpat
    go_enter Tryd.func14, Tryd.ntmps14
    go_wp2_with fail
    refine hcall.mono ?_
    rintro e w1 ⟨rfl, b1⟩
    go_wp2_with fail
    go_ret2
    exact ⟨by rw [HM.out]; rfl, b1⟩
  | some ps =>
    have HM : Hid (matchB pat p = takenB (isMany (ps.map pcTaker)) (isTaken (ps.map pcTaker) (namesB p)) ps.length (namesB p).length) := by
      unfold Hid matchB; rw [hpat]; simp only [takeP, takeI, List.length_map]
    have HP : Hid (patOf pat = some ps) := hpat
    rw [hpat] at hcall
    simp only [Option.isSome_some, Option.isNone_some, Bool.false_eq_true, if_false] at hcall ⊢
    have h1 := length_wt (namesB p)
    have h2 := wt_names p
    clear hpat
    go_enter Tryd.func14, Tryd.ntmps14
    go_wp2_with fail
    refine hcall.mono ?_
    rintro e w1 ⟨rfl, b1⟩
    go_wp2_with fail
    refine (names_r p _ (by omega)).mono ?_
    rintro e w2 ⟨u, rfl, ho, b2⟩
    have hcall3 := reached_r pat ps (namesB p) _ u w2 HP.out ho (by omega) (fun y hy => by have := names_size p y hy; omega)
    obtain ⟨o, c, rfl⟩ : ∃ o c, u = .slice o (namesB p).length c := by
      rcases ho.2 with ⟨rfl, h0⟩ | ⟨g, cap, cur, rfl, _⟩
      · exact ⟨none, 0, by rw [h0]⟩
      · exact ⟨_, _, rfl⟩
    clear ho hcall
    go_wp2_with fail
    refine hcall3.mono ?_
    rintro e w3 ⟨g, rfl, hL, b3⟩
    have cN := hL.cell (rowB_get ((namesB p).length + 1) (takenB (isMany (ps.map pcTaker)) (isTaken (ps.map pcTaker) (namesB p)) ps.length) (namesB p).length (by omega))
    have d1 : (0 : Int) ≤ ((namesB p).length : Int) := by omega
    have d2 : ((namesB p).length : Int) < ((namesB p).length : Int) + 1 := by omega
    rw [← HM.out] at cN
    clear hL hcall3
    go_wp2
    go_ret2
    exact ⟨rfl, (b1.trans (b2.mono b1.size)).trans (b3.mono (b1.trans (b2.mono b1.size)).size)⟩
end Go.Proofs.YtopglhoobehgcaaDoor
