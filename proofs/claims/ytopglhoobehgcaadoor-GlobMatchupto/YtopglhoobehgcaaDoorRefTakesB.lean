/- The document's answer for whether a piece takes a name: the loop over its parts. -/
import Derived.Test.YtopglhoobehgcaaDoorRefTakes
import Derived.Deep.LoopGhost
namespace Go.Proofs.YtopglhoobehgcaaDoor
open Go Go.RowKit

theorem taken_eq (m : Nat → Bool) (t : Nat → Nat → Bool) (k i : Nat) : takenB m t (k + 1) i = if m k then (List.range (i + 1)).any (fun j => takenB m t k j) else match i with | 0 => false | j + 1 => t k j && takenB m t k j := by cases i <;> rfl
theorem taken_many {m : Nat → Bool} {t : Nat → Nat → Bool} {k : Nat} (h : m k = true) (i : Nat) : takenB m t (k + 1) i = anyTo (takenB m t k) i := by rw [taken_eq, h]; rfl
theorem taken_zero {m : Nat → Bool} {t : Nat → Nat → Bool} {k : Nat} (h : m k = false) : takenB m t (k + 1) 0 = false := by rw [taken_eq, h]; rfl
theorem taken_one {m : Nat → Bool} {t : Nat → Nat → Bool} {k : Nat} (h : m k = false) (i : Nat) : takenB m t (k + 1) (i + 1) = (t k i && takenB m t k i) := by rw [taken_eq, h]; rfl
theorem taken_start (m : Nat → Bool) (t : Nat → Nat → Bool) (i : Nat) : takenB m t 0 i = (i == 0) := rfl

set_option maxRecDepth 100000 in
set_option maxHeartbeats 8000000 in
theorem takes_r (piece name : ByteArray) (ps : List (Taker UInt8)) (w : World) (hp : partsOf (un piece) = some ps) (hs : piece.size ≤ 1099511627775) (hz : name.size ≤ 1099511627776) :
    Calls Tryd.prog 59 #[.string piece, .string name] w fun e w' => e = .returned (.bool (takeI ps (un name))) ∧ Below w.heap.size w w' := by
  have hmk : ∀ W, (Instr.makeSlice 50 (.int .i64 ((name.size : Int) + 1)) (.int .i64 ((name.size : Int) + 1))).run Tryd.prog W = .ok (.slice (some ⟨W.heap.size, 0, none⟩) (name.size + 1) (name.size + 1)) (W.alloc (.cells (rowB (name.size + 1) fun _ => false) 4)) := fun W => make_bools (name.size + 1) (by omega) W
  have hcall := parts_r piece w (by omega)
  have hplen : ps.length ≤ 1099511627776 := by have := partsGo_length hp; rw [un_length] at this; omega
  unfold RPartsPost at hcall
  have Htk : Hid (takeI ps (un name) = takenB (isMany ps) (isTaken ps (un name)) ps.length name.size) := by unfold Hid takeI; rw [un_length]
  obtain ⟨M, hM⟩ : ∃ M, isMany ps = M := ⟨_, rfl⟩
  obtain ⟨T, hT⟩ : ∃ T, isTaken ps (un name) = T := ⟨_, rfl⟩
  rw [hM, hT] at Htk
  have HM : Hid (isMany ps = M) := hM
  have HT : Hid (isTaken ps (un name) = T) := hT
  clear hM hT
  go_enter Tryd.func59, Tryd.ntmps59
  go_wp2_with fail
  refine hcall.mono ?_
  rintro e w1 ⟨⟨ps2, v, cs, hps, hrep, hown, rfl⟩ | ⟨hps, rfl⟩, b1⟩
  rotate_left
  · rw [hp] at hps; cases hps
  rw [hp] at hps
  cases hps
  obtain ⟨o, c, rfl⟩ : ∃ o c, v = .slice o ps.length c := by
    rcases hown.2 with ⟨rfl, h0⟩ | ⟨g, cap, cur, rfl, _⟩
    · exact ⟨none, 0, by rw [h0]⟩
    · exact ⟨_, _, rfl⟩
  have HO : Hid (w1.ownsRow w.heap.size 120 2 (.slice o ps.length c) ps.length cs ∧ RPartsRep w1 ps cs) := ⟨hown, hrep⟩
  have hmk0 : (rowB (name.size + 1) fun _ => false)[0]? = some (.bool false) := rowB_get _ _ 0 (by omega)
  have e0 : (0 : Int) < (name.size : Int) + 1 := by omega
  clear hown hrep hcall hp
  go_wp2
  go_loopg [7, 8] (ps.length + 1) (fun gk cv kv wr => ∃ (k g : Nat), kv = .int .i64 k ∧ k ≤ ps.length ∧ cv = .slice (some ⟨g, 0, none⟩) (name.size + 1) (name.size + 1) ∧ w1.heap.size ≤ g ∧ Aside (ps.length + 1 - k ≤ gk ∧ Lies wr g 4 (rowB (name.size + 1) (takenB M T k))) ∧ Below w1.heap.size w1 wr)
  case atStart =>
    refine ⟨0, w1.heap.size, rfl, Nat.zero_le _, rfl, Nat.le_refl _, ⟨by omega, ?_⟩, (Below.refl _ w1).alloc (Nat.le_refl _) _⟩
    have e : rowB (name.size + 1) (takenB M T 0) = (rowB (name.size + 1) fun _ => false).setIfInBounds 0 (.bool true) := by
      rw [rowB_set (name.size + 1) (fun _ => false) 0 true (by omega)]
      exact rowB_congr (fun i _ => by rw [taken_start]; by_cases h : i = 0 <;> simp [h])
    rw [e]
    exact Lies.new w1 _ _
  case round =>
    obtain ⟨k, g, rfl, hk, rfl, hg, HP, hB⟩ := hrel
    have hL := HP.out.2
    by_cases hlt : k < ps.length
    · obtain ⟨p, hpk⟩ : ∃ p, ps[k]? = some p := ⟨_, List.getElem?_eq_getElem hlt⟩
      have hgw : g < wr.heap.size := hL.lt
      have hownr := own_below HO.out.1 hB
      have hrepr := HO.out.2.turn (grown_of_below hB) (NoBools.none _)
      obtain ⟨av, bv, hab, hca, hcb⟩ := hrepr.at hpk
      obtain ⟨g2, rfl⟩ : ∃ g2, o = some ⟨g2, 0, none⟩ := by
        rcases hownr.2 with ⟨_, h0⟩ | ⟨g2, cap2, cur2, h0, _⟩
        · omega
        · exact ⟨g2, (Value.slice.inj h0).1⟩
      have ca := row_cell hownr _ _ hca
      have cb := row_cell hownr _ _ hcb
      have d1 : (0 : Int) ≤ (k : Int) := by omega
      have d2 : (k : Int) < (ps.length : Int) := by omega
      cases p with
      | none =>
        obtain ⟨rfl, rfl⟩ := hab
        have hMk : M k = true := by rw [← HM.out]; exact has_at hpk
        have hsp := spread_r g (name.size + 1) (takenB M T k) wr (by omega) hL
        clear hL hownr hrepr hca hcb cb
        go_wp2_with fail
        refine hsp.mono ?_
        rintro e w2 ⟨rfl, hL2, hG2⟩
        have HB2 : Hid (Below w1.heap.size w1 w2) := hB.grown hG2 hB.size (fun j e => by cases e; exact hg)
        have HL2 : Hid (Lies w2 g 4 (rowB (name.size + 1) (takenB M T (k + 1)))) := by
          unfold Hid
          rw [rowB_congr (g := anyTo (takenB M T k)) (fun i _ => taken_many hMk i)]; exact hL2
        clear hL2 hG2 hMk hsp ca
        go_wp2
        go_roundg (ps.length + 1 - (k + 1))
        case rel => exact ⟨k + 1, g, by go_num, by omega, rfl, hg, ⟨Nat.le_refl _, HL2.out⟩, HB2.out⟩
        case measure => have := HP.out.1; omega
      | some st =>
        obtain ⟨g3, rfl, rfl, hL3⟩ := hab
        have hMk : M k = false := by rw [← HM.out]; exact has_at hpk
        have HPK : Hid (∀ W, Below wr.heap.size wr W → W.cell? ⟨g2, k * 2 + 1, none⟩ = some (.slice (some ⟨g3, 0, none⟩) 256 256) ∧ Lies W g3 4 (rowB 256 (setRow st)) ∧ Lies W g 4 (rowB (name.size + 1) (takenB M T k))) := fun W hb => by
          refine ⟨?_, hL3.below hb, hL.below hb⟩
          have hlt2 : g2 < wr.heap.size := World.block_lt_of_cell? wr ⟨g2, k * 2 + 1, none⟩ cb
          exact (hb.cell (p := ⟨g2, k * 2 + 1, none⟩) hlt2).trans cb
        have HTk : Hid (∀ (i : Nat) (h : i < name.size), T k i = st name[i]) := fun i h => by
          rw [← HT.out]; unfold isTaken; rw [hpk, un_getElem? name i h]
        clear hL hownr hrepr hca hcb cb hL3 hpk
        obtain ⟨wo, hwo⟩ : ∃ wo, wo = wr := ⟨_, rfl⟩
        subst hwo
        go_wp2
        go_loopg [10] (name.size + 1) (fun gi iv wx => ∃ i : Nat, iv = .int .i64 i ∧ i ≤ name.size ∧ Aside (name.size + 1 - i ≤ gi ∧ Lies wx wo.heap.size 4 (rowB (name.size + 1) (fun x => decide (x ≤ i) && takenB M T (k + 1) x))) ∧ Below wo.heap.size wo wx)
        case atStart =>
          refine ⟨0, rfl, Nat.zero_le _, ⟨by omega, ?_⟩, (Below.refl _ wo).alloc (Nat.le_refl _) _⟩
          have e : rowB (name.size + 1) (fun x => decide (x ≤ 0) && takenB M T (k + 1) x) = rowB (name.size + 1) fun _ => false := rowB_congr (fun x _ => by
            by_cases h : x = 0
            · subst h; rw [taken_zero hMk]; rfl
            · rw [decide_eq_false (by omega), Bool.false_and])
          rw [e]
          exact Lies.new wo _ _
        case round =>
          obtain ⟨i, rfl, hi, HI, hBi⟩ := hrel
          by_cases hlti : i < name.size
          · obtain ⟨c3, l3, l4⟩ := HPK.out _ hBi
            have cc := l4.cell (rowB_get (name.size + 1) (takenB M T k) i (by omega))
            have cn := HI.out.2.cell (rowB_get (name.size + 1) (fun x => decide (x ≤ i) && takenB M T (k + 1) x) (i + 1) (by omega))
            have fn := HI.out.2.frozen (i + 1)
            have hbb := name[i].toNat_lt
            have ch := l3.cell (rowB_get 256 (setRow st) name[i].toNat (by omega))
            rw [setRow_at] at ch
            have HS : Hid (∀ b, b = takenB M T (k + 1) (i + 1) → Lies (wr.setCell ⟨wo.heap.size, i + 1, none⟩ (.bool b)) wo.heap.size 4 (rowB (name.size + 1) (fun x => decide (x ≤ i + 1) && takenB M T (k + 1) x))) := fun b hb => by
              have e : rowB (name.size + 1) (fun x => decide (x ≤ i + 1) && takenB M T (k + 1) x) = rowB (name.size + 1) (fun x => if x = i + 1 then b else decide (x ≤ i) && takenB M T (k + 1) x) := rowB_congr (fun x _ => by
                by_cases h : x = i + 1
                · subst h; rw [if_pos rfl, hb]; simp
                · rw [if_neg h]
                  by_cases h2 : x ≤ i
                  · simp [h2, show x ≤ i + 1 by omega]
                  · simp [h2, show ¬ x ≤ i + 1 by omega])
              rw [e]; exact HI.out.2.setB b (by omega)
            have HBs : Hid (∀ v, Below wo.heap.size wo (wr.setCell ⟨wo.heap.size, i + 1, none⟩ v)) := fun v => hBi.setCell (p := ⟨wo.heap.size, i + 1, none⟩) (Nat.le_refl _) v
            have hval : takenB M T (k + 1) (i + 1) = (st name[i] && takenB M T k i) := by rw [taken_one hMk, HTk.out i hlti]
            have e1 : (0 : Int) ≤ (i : Int) := by omega
            have e2 : (i : Int) < (name.size : Int) := by omega
            have e3 : (i : Int) < (name.size : Int) + 1 := by omega
            have e4 : (i : Int) + 1 < (name.size : Int) + 1 := by omega
            have e5 : (0 : Int) ≤ (i : Int) + 1 := by omega
            have e6 : (name[i].toNat : Int) < 256 := by omega
            cases htk : takenB M T k i
            · have HV : Hid (false = takenB M T (k + 1) (i + 1)) := by unfold Hid; rw [hval, htk]; simp
              rw [htk] at cc
              clear hval htk l3 l4 ch c3
              go_wp2
              go_region
              all_goals go_wp2
              all_goals go_roundg (name.size + 1 - (i + 1))
              case rel => exact ⟨i + 1, by go_num, by omega, ⟨Nat.le_refl _, (HS.out _ HV.out).drew 1⟩, below_drew (HBs.out _)⟩
              case measure => have := HI.out.1; omega
            · have HV : Hid (st name[i] = takenB M T (k + 1) (i + 1)) := by unfold Hid; rw [hval, htk]; simp
              rw [htk] at cc
              clear hval htk l3 l4
              go_wp2
              go_region
              all_goals go_wp2
              all_goals go_roundg (name.size + 1 - (i + 1))
              case rel => exact ⟨i + 1, by go_num, by omega, ⟨Nat.le_refl _, (HS.out _ HV.out).drew 1⟩, below_drew (HBs.out _)⟩
              case measure => have := HI.out.1; omega
          · obtain rfl : i = name.size := by omega
            have HLn : Hid (Lies wr wo.heap.size 4 (rowB (name.size + 1) (takenB M T (k + 1)))) := by
              unfold Hid
              have e : rowB (name.size + 1) (takenB M T (k + 1)) = rowB (name.size + 1) (fun x => decide (x ≤ name.size) && takenB M T (k + 1) x) := rowB_congr (fun x hx => by rw [decide_eq_true (by omega), Bool.true_and])
              rw [e]; exact HI.out.2
            go_wp2
            go_roundg (ps.length + 1 - (k + 1))
            case rel => exact ⟨k + 1, wo.heap.size, by go_num, by omega, rfl, hB.size, ⟨Nat.le_refl _, HLn.out⟩, hB.trans (hBi.mono hB.size)⟩
            case measure => have := HP.out.1; omega
    · obtain rfl : k = ps.length := by omega
      have cN := hL.cell (rowB_get (name.size + 1) (takenB M T ps.length) name.size (by omega))
      have d1 : (0 : Int) ≤ (name.size : Int) := by omega
      have d2 : (name.size : Int) < (name.size : Int) + 1 := by omega
      clear hL
      go_wp2
      go_ret
      exact ⟨by rw [Htk.out]; rfl, b1.trans (hB.mono b1.size)⟩
end Go.Proofs.YtopglhoobehgcaaDoor
