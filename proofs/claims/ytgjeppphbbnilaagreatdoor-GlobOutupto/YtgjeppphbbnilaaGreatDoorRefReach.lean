/- The document's answer for how far a pattern's pieces come, and whether it matches. -/
import Derived.Test.YtgjeppphbbnilaaGreatDoorRefParts
import Derived.Test.YtgjeppphbbnilaaGreatDoorTakeN
import Derived.Deep.LoopGhost

namespace Go.Proofs.YtgjeppphbbnilaaGreatDoor
open Go Go.RowKit

def anyTo (f : Nat → Bool) (i : Nat) : Bool := (List.range (i + 1)).any f
theorem anyTo_succ (f : Nat → Bool) (i : Nat) : anyTo f (i + 1) = (anyTo f i || f (i + 1)) := by unfold anyTo; rw [List.range_succ (n := i + 1)]; simp
theorem anyTo_zero (f : Nat → Bool) : anyTo f 0 = f 0 := by unfold anyTo; simp
theorem Lies.setB {W : World} {g n k : Nat} {f : Nat → Bool} (h : Lies W g 4 (rowB n f)) (b : Bool) (hk : k < n) : Lies (W.setCell ⟨g, k, none⟩ (.bool b)) g 4 (rowB n (fun i => if i = k then b else f i)) := by
  rw [← rowB_set n f k b hk]; exact h.set _

set_option maxHeartbeats 2000000 in
theorem spread_r (g n : Nat) (f : Nat → Bool) (w : World) (hn : n ≤ 1099511627777) (hl : Lies w g 4 (rowB n f)) : Calls Tryz.prog 67 #[.slice (some ⟨g, 0, none⟩) n n] w fun e w' => e = .returned (.tuple #[]) ∧ Lies w' g 4 (rowB n (anyTo f)) ∧ w.grownBy w' (some g) := by
  go_enter Tryz.func67, Tryz.ntmps67
  go_wp2
  go_loopw [2] (fun i wr => ∃ k : Nat, i = .int .i64 k ∧ 1 ≤ k ∧ (k ≤ n ∨ k = 1) ∧ Lies wr g 4 (rowB n (fun i => if i < k then anyTo f i else f i)) ∧ w.grownBy wr (some g)) (fun i _ => n - (intOf i).toNat)
  case atStart =>
    refine ⟨1, rfl, Nat.le_refl _, .inr rfl, ?_, grown_refl _ _⟩
    rw [rowB_congr (g := f) (fun i _ => by
      by_cases h : i < 1
      · obtain rfl : i = 0 := by omega
        rw [if_pos h, anyTo_zero]
      · rw [if_neg h])]
    exact hl
  case round =>
    obtain ⟨k, rfl, hk1, hk2, hL, hG⟩ := hrel
    by_cases hlt : k < n
    · have c1 := hL.cell (rowB_get n (fun i => if i < k then anyTo f i else f i) k hlt)
      have c2 := hL.cell (rowB_get n (fun i => if i < k then anyTo f i else f i) (k - 1) (by omega))
      rw [if_neg (by omega)] at c1
      rw [if_pos (by omega)] at c2
      have hf := hL.frozen k
      have HLs : Hid (∀ b, Lies (wr.setCell ⟨g, k, none⟩ (.bool b)) g 4 (rowB n (fun i => if i = k then b else if i < k then anyTo f i else f i))) := fun b => hL.setB b hlt
      have HGs : Hid (∀ v, w.grownBy (wr.setCell ⟨g, k, none⟩ v) (some g)) := fun v => grown_set v hG
      have hstep : anyTo f k = (anyTo f (k - 1) || f k) := by obtain ⟨m, rfl⟩ : ∃ m, k = m + 1 := ⟨k - 1, by omega⟩; exact anyTo_succ f m
      have HE : Hid (∀ b, b = anyTo f k → rowB n (fun i => if i = k then b else if i < k then anyTo f i else f i) = rowB n (fun i => if i < k + 1 then anyTo f i else f i)) := fun b hb => rowB_congr (fun i _ => by
        by_cases h : i = k
        · subst h; rw [if_pos rfl, if_pos (by omega), hb]
        · rw [if_neg h]
          by_cases h2 : i < k
          · rw [if_pos h2, if_pos (by omega)]
          · rw [if_neg h2, if_neg (by omega)])
      have d1 : (0 : Int) ≤ (k : Int) := by omega
      have d2 : (k : Int) < (n : Int) := by omega
      have d3 : (0 : Int) ≤ (k : Int) - 1 := by omega
      have d4 : (k : Int) - 1 < (n : Int) := by omega
      have d5 : ((k : Int) - 1).toNat = k - 1 := by omega
      cases hfk : f k
      · have HV : Hid (anyTo f (k - 1) = anyTo f k) := by unfold Hid; rw [hstep, hfk]; simp
        rw [hfk] at c1
        clear hL hG hl hstep hfk
        go_wp2
        go_roundw
        case rel => exact ⟨k + 1, by go_num, by omega, .inl (by omega), by rw [← HE.out _ HV.out]; exact HLs.out _, HGs.out _⟩
        case measure => simp [intOf]; omega
      · have HV : Hid (true = anyTo f k) := by unfold Hid; rw [hstep, hfk]; simp
        rw [hfk] at c1
        clear hL hG hl hstep hfk
        go_wp2
        go_roundw
        case rel => exact ⟨k + 1, by go_num, by omega, .inl (by omega), by rw [← HE.out _ HV.out]; exact HLs.out _, HGs.out _⟩
        case measure => simp [intOf]; omega
    · have HE : Hid (rowB n (fun i => if i < k then anyTo f i else f i) = rowB n (anyTo f)) := rowB_congr (fun i hi => by rw [if_pos (by omega)])
      have HL : Hid (Lies wr g 4 (rowB n (fun i => if i < k then anyTo f i else f i))) := hL
      clear hL hl
      go_wp2
      go_end0
      exact ⟨rfl, by rw [← HE.out]; exact HL.out, hG⟩
end Go.Proofs.YtgjeppphbbnilaaGreatDoor

namespace Go.Proofs.YtgjeppphbbnilaaGreatDoor
open Go Go.RowKit

theorem taken_eq (m : Nat → Bool) (t : Nat → Nat → Bool) (k i : Nat) : takenB m t (k + 1) i = if m k then (List.range (i + 1)).any (fun j => takenB m t k j) else match i with | 0 => false | j + 1 => t k j && takenB m t k j := by cases i <;> rfl
theorem taken_many {m : Nat → Bool} {t : Nat → Nat → Bool} {k : Nat} (h : m k = true) (i : Nat) : takenB m t (k + 1) i = anyTo (takenB m t k) i := by rw [taken_eq, h]; rfl
theorem taken_zero {m : Nat → Bool} {t : Nat → Nat → Bool} {k : Nat} (h : m k = false) : takenB m t (k + 1) 0 = false := by rw [taken_eq, h]; rfl
theorem taken_one {m : Nat → Bool} {t : Nat → Nat → Bool} {k : Nat} (h : m k = false) (i : Nat) : takenB m t (k + 1) (i + 1) = (t k i && takenB m t k i) := by rw [taken_eq, h]; rfl
theorem taken_start (m : Nat → Bool) (t : Nat → Nat → Bool) (i : Nat) : takenB m t 0 i = (i == 0) := rfl

set_option maxRecDepth 100000 in
set_option maxHeartbeats 8000000 in
theorem takes_r (piece name : ByteArray) (ps : List (Taker UInt8)) (w : World) (hp : partsOf (un piece) = some ps) (hs : piece.size ≤ 1099511627775) (hz : name.size ≤ 1099511627776) :
    Calls Tryz.prog 68 #[.string piece, .string name] w fun e w' => e = .returned (.bool (takeI ps (un name))) ∧ Below w.heap.size w w' := by
  have hmk : ∀ W, (Instr.makeSlice 102 (.int .i64 ((name.size : Int) + 1)) (.int .i64 ((name.size : Int) + 1))).run Tryz.prog W = .ok (.slice (some ⟨W.heap.size, 0, none⟩) (name.size + 1) (name.size + 1)) (W.alloc (.cells (rowB (name.size + 1) fun _ => false) 4)) := fun W => make_bools (name.size + 1) (by omega) W
  have hcall := parts_r piece w (by omega)
  have hplen : ps.length ≤ 1099511627776 := by have := partsGo_length hp; rw [un_length] at this; omega
  unfold RPartsPost at hcall
  have Htk : Hid (takeI ps (un name) = takenB (isMany ps) (isTaken ps (un name)) ps.length name.size) := by unfold Hid takeI; rw [un_length]
  obtain ⟨M, hM⟩ : ∃ M, isMany ps = M := ⟨_, rfl⟩
  obtain ⟨T, hT⟩ : ∃ T, isTaken ps (un name) = T := ⟨_, rfl⟩
  rw [hM, hT] at Htk
  have HM : Hid (isMany ps = M) := hM
  have HT : Hid (isTaken ps (un name) = T) := hT
  clear hM hT
  go_enter Tryz.func68, Tryz.ntmps68
  go_wp2_with fail
  refine hcall.mono ?_
  rintro e w1 ⟨⟨ps2, v, cs, hps, hrep, hown, rfl⟩ | ⟨hps, rfl⟩, b1⟩
  rotate_left
  · rw [hp] at hps; cases hps
  rw [hp] at hps
  cases hps
  obtain ⟨o, c, rfl⟩ : ∃ o c, v = .slice o ps.length c := by
    rcases hown.2 with ⟨rfl, h0⟩ | ⟨g, cap, cur, rfl, _⟩
    · exact ⟨none, 0, by rw [h0]⟩
    · exact ⟨_, _, rfl⟩
  have HO : Hid (w1.ownsRow w.heap.size 105 2 (.slice o ps.length c) ps.length cs ∧ RPartsRep w1 ps cs) := ⟨hown, hrep⟩
  have hmk0 : (rowB (name.size + 1) fun _ => false)[0]? = some (.bool false) := rowB_get _ _ 0 (by omega)
  have e0 : (0 : Int) < (name.size : Int) + 1 := by omega
  clear hown hrep hcall hp
  go_wp2
  go_loopg [7, 8] (ps.length + 1) (fun gk cv kv wr => ∃ (k g : Nat), kv = .int .i64 k ∧ k ≤ ps.length ∧ cv = .slice (some ⟨g, 0, none⟩) (name.size + 1) (name.size + 1) ∧ w1.heap.size ≤ g ∧ Aside (ps.length + 1 - k ≤ gk ∧ Lies wr g 4 (rowB (name.size + 1) (takenB M T k))) ∧ Below w1.heap.size w1 wr)
  case atStart =>
    refine ⟨0, w1.heap.size, rfl, Nat.zero_le _, rfl, Nat.le_refl _, ⟨by omega, ?_⟩, (Below.refl _ w1).alloc (Nat.le_refl _) _⟩
    have e : rowB (name.size + 1) (takenB M T 0) = (rowB (name.size + 1) fun _ => false).setIfInBounds 0 (.bool true) := by
      rw [rowB_set (name.size + 1) (fun _ => false) 0 true (by omega)]
      exact rowB_congr (fun i _ => by rw [taken_start]; by_cases h : i = 0 <;> simp [h])
    rw [e]
    exact Lies.new w1 _ _
  case round =>
    obtain ⟨k, g, rfl, hk, rfl, hg, HP, hB⟩ := hrel
    have hL := HP.out.2
    by_cases hlt : k < ps.length
    · obtain ⟨p, hpk⟩ : ∃ p, ps[k]? = some p := ⟨_, List.getElem?_eq_getElem hlt⟩
      have hgw : g < wr.heap.size := hL.lt
      have hownr := own_below HO.out.1 hB
      have hrepr := HO.out.2.turn (grown_of_below hB) (NoBools.none _)
      obtain ⟨av, bv, hab, hca, hcb⟩ := hrepr.at hpk
      obtain ⟨g2, rfl⟩ : ∃ g2, o = some ⟨g2, 0, none⟩ := by
        rcases hownr.2 with ⟨_, h0⟩ | ⟨g2, cap2, cur2, h0, _⟩
        · omega
        · exact ⟨g2, (Value.slice.inj h0).1⟩
      have ca := row_cell hownr _ _ hca
      have cb := row_cell hownr _ _ hcb
      have d1 : (0 : Int) ≤ (k : Int) := by omega
      have d2 : (k : Int) < (ps.length : Int) := by omega
      cases p with
      | none =>
        obtain ⟨rfl, rfl⟩ := hab
        have hMk : M k = true := by rw [← HM.out]; exact has_at hpk
        have hsp := spread_r g (name.size + 1) (takenB M T k) wr (by omega) hL
        clear hL hownr hrepr hca hcb cb
        go_wp2_with fail
        refine hsp.mono ?_
        rintro e w2 ⟨rfl, hL2, hG2⟩
        have HB2 : Hid (Below w1.heap.size w1 w2) := hB.grown hG2 hB.size (fun j e => by cases e; exact hg)
        have HL2 : Hid (Lies w2 g 4 (rowB (name.size + 1) (takenB M T (k + 1)))) := by
          unfold Hid
          rw [rowB_congr (g := anyTo (takenB M T k)) (fun i _ => taken_many hMk i)]; exact hL2
        clear hL2 hG2 hMk hsp ca
        go_wp2
        go_roundg (ps.length + 1 - (k + 1))
        case rel => exact ⟨k + 1, g, by go_num, by omega, rfl, hg, ⟨Nat.le_refl _, HL2.out⟩, HB2.out⟩
        case measure => have := HP.out.1; omega
      | some st =>
        obtain ⟨g3, rfl, rfl, hL3⟩ := hab
        have hMk : M k = false := by rw [← HM.out]; exact has_at hpk
        have HPK : Hid (∀ W, Below wr.heap.size wr W → W.cell? ⟨g2, k * 2 + 1, none⟩ = some (.slice (some ⟨g3, 0, none⟩) 256 256) ∧ Lies W g3 4 (rowB 256 (setRow st)) ∧ Lies W g 4 (rowB (name.size + 1) (takenB M T k))) := fun W hb => by
          refine ⟨?_, hL3.below hb, hL.below hb⟩
          have hlt2 : g2 < wr.heap.size := World.block_lt_of_cell? wr ⟨g2, k * 2 + 1, none⟩ cb
          exact (hb.cell (p := ⟨g2, k * 2 + 1, none⟩) hlt2).trans cb
        have HTk : Hid (∀ (i : Nat) (h : i < name.size), T k i = st name[i]) := fun i h => by
          rw [← HT.out]; unfold isTaken; rw [hpk, un_getElem? name i h]
        clear hL hownr hrepr hca hcb cb hL3 hpk
        obtain ⟨wo, hwo⟩ : ∃ wo, wo = wr := ⟨_, rfl⟩
        subst hwo
        go_wp2
        go_loopg [10] (name.size + 1) (fun gi iv wx => ∃ i : Nat, iv = .int .i64 i ∧ i ≤ name.size ∧ Aside (name.size + 1 - i ≤ gi ∧ Lies wx wo.heap.size 4 (rowB (name.size + 1) (fun x => decide (x ≤ i) && takenB M T (k + 1) x))) ∧ Below wo.heap.size wo wx)
        case atStart =>
          refine ⟨0, rfl, Nat.zero_le _, ⟨by omega, ?_⟩, (Below.refl _ wo).alloc (Nat.le_refl _) _⟩
          have e : rowB (name.size + 1) (fun x => decide (x ≤ 0) && takenB M T (k + 1) x) = rowB (name.size + 1) fun _ => false := rowB_congr (fun x _ => by
            by_cases h : x = 0
            · subst h; rw [taken_zero hMk]; rfl
            · rw [decide_eq_false (by omega), Bool.false_and])
          rw [e]
          exact Lies.new wo _ _
        case round =>
          obtain ⟨i, rfl, hi, HI, hBi⟩ := hrel
          by_cases hlti : i < name.size
          · obtain ⟨c3, l3, l4⟩ := HPK.out _ hBi
            have cc := l4.cell (rowB_get (name.size + 1) (takenB M T k) i (by omega))
            have cn := HI.out.2.cell (rowB_get (name.size + 1) (fun x => decide (x ≤ i) && takenB M T (k + 1) x) (i + 1) (by omega))
            have fn := HI.out.2.frozen (i + 1)
            have hbb := name[i].toNat_lt
            have ch := l3.cell (rowB_get 256 (setRow st) name[i].toNat (by omega))
            rw [setRow_at] at ch
            have HS : Hid (∀ b, b = takenB M T (k + 1) (i + 1) → Lies (wr.setCell ⟨wo.heap.size, i + 1, none⟩ (.bool b)) wo.heap.size 4 (rowB (name.size + 1) (fun x => decide (x ≤ i + 1) && takenB M T (k + 1) x))) := fun b hb => by
              have e : rowB (name.size + 1) (fun x => decide (x ≤ i + 1) && takenB M T (k + 1) x) = rowB (name.size + 1) (fun x => if x = i + 1 then b else decide (x ≤ i) && takenB M T (k + 1) x) := rowB_congr (fun x _ => by
                by_cases h : x = i + 1
                · subst h; rw [if_pos rfl, hb]; simp
                · rw [if_neg h]
                  by_cases h2 : x ≤ i
                  · simp [h2, show x ≤ i + 1 by omega]
                  · simp [h2, show ¬ x ≤ i + 1 by omega])
              rw [e]; exact HI.out.2.setB b (by omega)
            have HBs : Hid (∀ v, Below wo.heap.size wo (wr.setCell ⟨wo.heap.size, i + 1, none⟩ v)) := fun v => hBi.setCell (p := ⟨wo.heap.size, i + 1, none⟩) (Nat.le_refl _) v
            have hval : takenB M T (k + 1) (i + 1) = (st name[i] && takenB M T k i) := by rw [taken_one hMk, HTk.out i hlti]
            have e1 : (0 : Int) ≤ (i : Int) := by omega
            have e2 : (i : Int) < (name.size : Int) := by omega
            have e3 : (i : Int) < (name.size : Int) + 1 := by omega
            have e4 : (i : Int) + 1 < (name.size : Int) + 1 := by omega
            have e5 : (0 : Int) ≤ (i : Int) + 1 := by omega
            have e6 : (name[i].toNat : Int) < 256 := by omega
            cases htk : takenB M T k i
            · have HV : Hid (false = takenB M T (k + 1) (i + 1)) := by unfold Hid; rw [hval, htk]; simp
              rw [htk] at cc
              clear hval htk l3 l4 ch c3
              go_wp2
              go_region
              all_goals go_wp2
              all_goals go_roundg (name.size + 1 - (i + 1))
              case rel => exact ⟨i + 1, by go_num, by omega, ⟨Nat.le_refl _, (HS.out _ HV.out).drew 1⟩, below_drew (HBs.out _)⟩
              case measure => have := HI.out.1; omega
            · have HV : Hid (st name[i] = takenB M T (k + 1) (i + 1)) := by unfold Hid; rw [hval, htk]; simp
              rw [htk] at cc
              clear hval htk l3 l4
              go_wp2
              go_region
              all_goals go_wp2
              all_goals go_roundg (name.size + 1 - (i + 1))
              case rel => exact ⟨i + 1, by go_num, by omega, ⟨Nat.le_refl _, (HS.out _ HV.out).drew 1⟩, below_drew (HBs.out _)⟩
              case measure => have := HI.out.1; omega
          · obtain rfl : i = name.size := by omega
            have HLn : Hid (Lies wr wo.heap.size 4 (rowB (name.size + 1) (takenB M T (k + 1)))) := by
              unfold Hid
              have e : rowB (name.size + 1) (takenB M T (k + 1)) = rowB (name.size + 1) (fun x => decide (x ≤ name.size) && takenB M T (k + 1) x) := rowB_congr (fun x hx => by rw [decide_eq_true (by omega), Bool.true_and])
              rw [e]; exact HI.out.2
            go_wp2
            go_roundg (ps.length + 1 - (k + 1))
            case rel => exact ⟨k + 1, wo.heap.size, by go_num, by omega, rfl, hB.size, ⟨Nat.le_refl _, HLn.out⟩, hB.trans (hBi.mono hB.size)⟩
            case measure => have := HP.out.1; omega
    · obtain rfl : k = ps.length := by omega
      have cN := hL.cell (rowB_get (name.size + 1) (takenB M T ps.length) name.size (by omega))
      have d1 : (0 : Int) ≤ (name.size : Int) := by omega
      have d2 : (name.size : Int) < (name.size : Int) + 1 := by omega
      clear hL
      go_wp2
      go_ret
      exact ⟨by rw [Htk.out]; rfl, b1.trans (hB.mono b1.size)⟩
end Go.Proofs.YtgjeppphbbnilaaGreatDoor

namespace Go.Proofs.YtgjeppphbbnilaaGreatDoor
open Go Go.RowKit

theorem stars_un (x : ByteArray) (h : isStars x = true) : un x = [42, 42] := by unfold isStars at h; rw [toList_un] at h; exact beq_iff_eq.1 h
theorem piece_some (x : ByteArray) : (pieceOf x).isSome = (partsOf (un x)).isSome := by
  unfold pieceOf
  cases h : isStars x
  · cases partsOf (un x) <;> rfl
  · rw [stars_un x h]; rfl
theorem allOf_take (xs : List ByteArray) (k : Nat) (x : ByteArray) (hx : xs[k]? = some x) : (allOf (xs.take (k + 1))).isSome = ((allOf (xs.take k)).isSome && (partsOf (un x)).isSome) := by
  rw [List.take_add_one, hx, ← piece_some, allOf_append]
  simp only [Option.toList, allOf]
  cases allOf (xs.take k) <;> cases pieceOf x <;> rfl
theorem allOf_bad (xs : List ByteArray) (k : Nat) (h : (allOf (xs.take k)).isSome = false) : allOf xs = none := by
  have e : xs = xs.take k ++ xs.drop k := (List.take_append_drop k xs).symm
  rw [e, allOf_append]
  cases h2 : allOf (xs.take k) with
  | none => rfl
  | some y => rw [h2] at h; cases h

set_option maxRecDepth 100000 in
set_option maxHeartbeats 4000000 in
theorem pattern_r (s : ByteArray) (w : World) (hs : s.size ≤ 1099511627775) : Calls Tryz.prog 13 #[.string s] w fun e w' => e = .returned (.bool (patOf s).isSome) ∧ Below w.heap.size w w' := by
  have hnl := Nat.le_trans (length_wt _) (wt_names s)
  obtain ⟨xs, hxs⟩ : ∃ xs, namesB s = xs := ⟨_, rfl⟩
  have hnr := names_r s w (by omega)
  have HX : Hid (∀ x ∈ xs, x.size ≤ s.size) := fun x hx => names_size s x (by rw [hxs]; exact hx)
  have HP : Hid (patOf s = if s.size ≤ 1020 ∧ xs ≠ [] then allOf xs else none) := by unfold Hid patOf; rw [hxs]
  rw [hxs] at hnr hnl
  clear hxs
  go_enter Tryz.func13, Tryz.ntmps13
  go_wp2_with fail
  refine hnr.mono ?_
  rintro e w1 ⟨v, rfl, ho, b1⟩
  obtain ⟨o, c, rfl⟩ : ∃ o c, v = .slice o xs.length c := by
    rcases ho.2 with ⟨rfl, h0⟩ | ⟨g, cap, cur, rfl, _⟩
    · exact ⟨none, 0, by rw [h0]⟩
    · exact ⟨_, _, rfl⟩
  have HO : Hid (w1.ownsRow w.heap.size 9 1 (.slice o xs.length c) xs.length (strs xs)) := ho
  clear ho hnr
  by_cases h1 : s.size ≤ 1020
  · cases hx0 : xs with
    | nil =>
      subst hx0
      have HN : Hid ((patOf s).isSome = false) := by unfold Hid; rw [HP.out, if_neg (fun h => h.2 rfl)]; rfl
      have d1 : ¬ (1020 : Int) < (s.size : Int) := by omega
      go_wp2
      go_ret
      exact ⟨by rw [HN.out]; rfl, b1⟩
    | cons x0 xs0 =>
      have hpos : 0 < xs.length := by rw [hx0]; simp
      have HN : Hid (patOf s = allOf xs) := by unfold Hid; rw [HP.out, if_pos ⟨h1, by rw [hx0]; simp⟩]
      rw [← hx0]
      clear hx0
      have d1 : ¬ (1020 : Int) < (s.size : Int) := by omega
      have d2 : ((xs.length : Int) == 0) = false := beq_false_of_ne (by omega)
      obtain ⟨g, rfl⟩ : ∃ g, o = some ⟨g, 0, none⟩ := by
        rcases HO.out.2 with ⟨_, h0⟩ | ⟨g2, cap2, cur2, h0, _⟩
        · omega
        · exact ⟨g2, (Value.slice.inj h0).1⟩
      go_wp2
      go_loopw [4] (fun i wr => ∃ k : Nat, i = .int .i64 k ∧ k ≤ xs.length ∧ (allOf (xs.take k)).isSome = true ∧ Below w1.heap.size w1 wr) (fun i _ => xs.length - (intOf i).toNat)
      case atStart => exact ⟨0, rfl, Nat.zero_le _, rfl, Below.refl _ _⟩
      case round =>
        obtain ⟨k, rfl, hk, hall, hB⟩ := hrel
        by_cases hlt : k < xs.length
        · obtain ⟨x, hx⟩ : ∃ x, xs[k]? = some x := ⟨_, List.getElem?_eq_getElem hlt⟩
          have hc := row_cell (own_below HO.out hB) k (.string x) (by simp [strs, hx])
          have hcall := parts_r x wr (by have := HX.out x (List.mem_of_getElem? hx); omega)
          unfold RPartsPost at hcall
          have HT : Hid _ := allOf_take xs k x hx
          have Hall : Hid ((allOf (xs.take k)).isSome = true) := hall
          have e1 : (0 : Int) ≤ (k : Int) := by omega
          have e2 : (k : Int) < (xs.length : Int) := by omega
          clear hall hx
          go_wp2_with fail
          refine hcall.mono ?_
          rintro e w2 ⟨⟨ps, v, cs, hps, _, _, rfl⟩ | ⟨hps, rfl⟩, b2⟩
          · have HK : Hid ((allOf (xs.take (k + 1))).isSome = true) := by unfold Hid; rw [HT.out, Hall.out, hps]; rfl
            clear hps hcall
            go_wp2
            go_roundw
            case rel => exact ⟨k + 1, by go_num, by omega, HK.out, hB.trans (b2.mono hB.size)⟩
            case measure => simp [intOf]; omega
          · have HK : Hid ((patOf s).isSome = false) := by
              unfold Hid
              rw [HN.out, allOf_bad xs (k + 1) (by rw [HT.out, hps]; simp)]; rfl
            clear hps hcall
            go_wp2
            go_ret
            exact ⟨by rw [HK.out]; rfl, b1.trans ((hB.trans (b2.mono hB.size)).mono b1.size)⟩
        · have HK : Hid ((patOf s).isSome = true) := by
            unfold Hid
            rw [HN.out]
            rw [List.take_of_length_le (by omega)] at hall
            exact hall
          clear hall
          go_wp2
          go_ret
          exact ⟨by rw [HK.out]; rfl, b1.trans (hB.mono b1.size)⟩
  · have HN : Hid ((patOf s).isSome = false) := by unfold Hid; rw [HP.out, if_neg (fun h => h1 h.1)]; rfl
    have d1 : (1020 : Int) < (s.size : Int) := by omega
    go_wp2
    go_ret
    exact ⟨by rw [HN.out]; rfl, b1⟩
end Go.Proofs.YtgjeppphbbnilaaGreatDoor

namespace Go.Proofs.YtgjeppphbbnilaaGreatDoor
open Go Go.RowKit

theorem allOf_at : ∀ {xs : List ByteArray} {ps : List Pc} {k : Nat} {x : ByteArray}, allOf xs = some ps → xs[k]? = some x → ∃ p, ps[k]? = some p ∧ pieceOf x = some p
  | [], _, _, _, _, h => by simp at h
  | y :: xs, ps, k, x, h, hx => by
    simp only [allOf] at h
    cases hp : pieceOf y with
    | none => simp [hp] at h
    | some p =>
      simp only [hp, Option.map_eq_some_iff] at h
      obtain ⟨r, hr, rfl⟩ := h
      cases k with
      | zero => simp at hx; subst hx; exact ⟨p, rfl, hp⟩
      | succ k => obtain ⟨q, h1, h2⟩ := allOf_at hr (by simpa using hx); exact ⟨q, by simpa using h1, h2⟩

theorem wrap_succ (i : Nat) (h : i ≤ 1099511627777) : IntKind.i64.wrap ((i : Int) + 1) = (i : Int) + 1 := by
  simp only [IntKind.wrap, IntKind.bits, IntKind.signed]
  simp
  omega

set_option maxRecDepth 100000 in
set_option maxHeartbeats 8000000 in
theorem reached_r (s : ByteArray) (ps : List Pc) (ys : List ByteArray) (b2 : Nat) (u : Value) (w : World) (hp : patOf s = some ps) (hu : w.ownsRow b2 9 1 u ys.length (strs ys)) (hl2 : ys.length ≤ 1099511627776) (hz : ∀ y ∈ ys, y.size ≤ 1099511627776) :
    Calls Tryz.prog 45 #[.string s, u] w fun e w' => ∃ g, e = .returned (.slice (some ⟨g, 0, none⟩) (ys.length + 1) (ys.length + 1)) ∧ Lies w' g 4 (rowB (ys.length + 1) (takenB (isMany (ps.map pcTaker)) (isTaken (ps.map pcTaker) ys) ps.length)) ∧ Below w.heap.size w w' := by
  have hmk : ∀ W, (Instr.makeSlice 102 (.int .i64 ((ys.length : Int) + 1)) (.int .i64 ((ys.length : Int) + 1))).run Tryz.prog W = .ok (.slice (some ⟨W.heap.size, 0, none⟩) (ys.length + 1) (ys.length + 1)) (W.alloc (.cells (rowB (ys.length + 1) fun _ => false) 4)) := fun W => make_bools (ys.length + 1) (by omega) W
  have hmk0 : (rowB (ys.length + 1) fun _ => false)[0]? = some (.bool false) := rowB_get _ _ 0 (by omega)
  have e0 : (0 : Int) < (ys.length : Int) + 1 := by omega
  obtain ⟨xs, hxs⟩ : ∃ xs, namesB s = xs := ⟨_, rfl⟩
  have hpat : s.size ≤ 1020 ∧ allOf xs = some ps := by
    unfold patOf at hp; rw [hxs] at hp
    split at hp
    · rename_i h; exact ⟨h.1, hp⟩
    · cases hp
  obtain ⟨hs, hall⟩ := hpat
  have hplen := allOf_length hall
  have hxl : xs.length ≤ 1021 := by have h1 := length_wt xs; have h2 := wt_names s; rw [hxs] at h2; omega
  have HX : Hid (∀ x ∈ xs, x.size ≤ 1020) := fun x hx => Nat.le_trans (names_size s x (by rw [hxs]; exact hx)) hs
  have hnr := names_r s w (by omega)
  rw [hxs] at hnr
  obtain ⟨M, hM⟩ : ∃ M, isMany (ps.map pcTaker) = M := ⟨_, rfl⟩
  obtain ⟨T, hT⟩ : ∃ T, isTaken (ps.map pcTaker) ys = T := ⟨_, rfl⟩
  rw [hM, hT]
  have HM : Hid (isMany (ps.map pcTaker) = M) := hM
  have HT : Hid (isTaken (ps.map pcTaker) ys = T) := hT
  have HA : Hid (allOf xs = some ps) := hall
  have HZ : Hid (∀ y ∈ ys, y.size ≤ 1099511627776) := hz
  obtain ⟨ou, cu, rfl⟩ : ∃ o c, u = .slice o ys.length c := by
    rcases hu.2 with ⟨rfl, h0⟩ | ⟨g, cap, cur, rfl, _⟩
    · exact ⟨none, 0, by rw [h0]⟩
    · exact ⟨_, _, rfl⟩
  have HU : Hid (w.ownsRow b2 9 1 (.slice ou ys.length cu) ys.length (strs ys)) := hu
  clear hM hT hxs hall hp hz hu
  rw [hplen]
  go_enter Tryz.func45, Tryz.ntmps45
  go_wp2_with fail
  refine hnr.mono ?_
  rintro e w1 ⟨v, rfl, ho, b1⟩
  obtain ⟨o, c, rfl⟩ : ∃ o c, v = .slice o xs.length c := by
    rcases ho.2 with ⟨rfl, h0⟩ | ⟨g, cap, cur, rfl, _⟩
    · exact ⟨none, 0, by rw [h0]⟩
    · exact ⟨_, _, rfl⟩
  have HO : Hid (w1.ownsRow w.heap.size 9 1 (.slice o xs.length c) xs.length (strs xs) ∧ w1.ownsRow b2 9 1 (.slice ou ys.length cu) ys.length (strs ys)) := ⟨ho, own_below HU.out b1⟩
  clear ho hnr hplen
  go_wp2
  go_loopg [6, 7] (xs.length + 1) (fun gk cv kv wr => ∃ (k g : Nat), kv = .int .i64 k ∧ k ≤ xs.length ∧ cv = .slice (some ⟨g, 0, none⟩) (ys.length + 1) (ys.length + 1) ∧ w1.heap.size ≤ g ∧ Aside (xs.length + 1 - k ≤ gk ∧ Lies wr g 4 (rowB (ys.length + 1) (takenB M T k))) ∧ Below w1.heap.size w1 wr)
  case atStart =>
    refine ⟨0, w1.heap.size, rfl, Nat.zero_le _, rfl, Nat.le_refl _, ⟨by omega, ?_⟩, (Below.refl _ w1).alloc (Nat.le_refl _) _⟩
    have e : rowB (ys.length + 1) (takenB M T 0) = (rowB (ys.length + 1) fun _ => false).setIfInBounds 0 (.bool true) := by
      rw [rowB_set (ys.length + 1) (fun _ => false) 0 true (by omega)]
      exact rowB_congr (fun i _ => by rw [taken_start]; by_cases h : i = 0 <;> simp [h])
    rw [e]
    exact Lies.new w1 _ _
  case round =>
    obtain ⟨k, g, rfl, hk, rfl, hg, HP, hB⟩ := hrel
    have hL := HP.out.2
    by_cases hlt : k < xs.length
    · obtain ⟨x, hx⟩ : ∃ x, xs[k]? = some x := ⟨_, List.getElem?_eq_getElem hlt⟩
      obtain ⟨p, hpk, hpx⟩ := allOf_at HA.out hx
      obtain ⟨g2, rfl⟩ : ∃ g2, o = some ⟨g2, 0, none⟩ := by
        rcases HO.out.1.2 with ⟨_, h0⟩ | ⟨g2, cap2, cur2, h0, _⟩
        · omega
        · exact ⟨g2, (Value.slice.inj h0).1⟩
      have cx := row_cell (own_below HO.out.1 hB) k (.string x) (by simp [strs, hx])
      have d1 : (0 : Int) ≤ (k : Int) := by omega
      have d2 : (k : Int) < (xs.length : Int) := by omega
      cases hst : isStars x
      rotate_left
      · have hMk : M k = true := by
          rw [← HM.out, pcs_many hpk]
          unfold pieceOf at hpx; rw [hst] at hpx; simp at hpx; subst hpx; rfl
        have hstb : (x.toList == [42, 42]) = true := hst
        have hsp := spread_r g (ys.length + 1) (takenB M T k) wr (by omega) hL
        clear hL hpk hpx hst hx
        go_wp2_with fail
        refine hsp.mono ?_
        rintro e w2 ⟨rfl, hL2, hG2⟩
        have HB2 : Hid (Below w1.heap.size w1 w2) := hB.grown hG2 hB.size (fun j e => by cases e; exact hg)
        have HL2 : Hid (Lies w2 g 4 (rowB (ys.length + 1) (takenB M T (k + 1)))) := by
          unfold Hid
          have e : rowB (ys.length + 1) (takenB M T (k + 1)) = rowB (ys.length + 1) (anyTo (takenB M T k)) := rowB_congr (fun i _ => taken_many hMk i)
          rw [e]; exact hL2
        clear hL2 hG2 hMk hsp
        go_wp2
        go_roundg (xs.length + 1 - (k + 1))
        case rel => exact ⟨k + 1, g, by go_num, by omega, rfl, hg, ⟨Nat.le_refl _, HL2.out⟩, HB2.out⟩
        case measure => have := HP.out.1; omega
      · obtain ⟨qs, hqs, rfl⟩ : ∃ qs, partsOf (un x) = some qs ∧ p = some qs := by
          unfold pieceOf at hpx; rw [hst] at hpx
          simp only [Bool.false_eq_true, if_false, Option.map_eq_some_iff] at hpx
          obtain ⟨a, ha, rfl⟩ := hpx
          exact ⟨a, ha, rfl⟩
        have hMk : M k = false := by rw [← HM.out, pcs_many hpk]; rfl
        have hstb : (x.toList == [42, 42]) = false := hst
        have hxz := HX.out x (List.mem_of_getElem? hx)
        have hlg2 : g2 < wr.heap.size := World.block_lt_of_cell? wr ⟨g2, k, none⟩ cx
        have HTk : Hid (∀ (i : Nat) y, ys[i]? = some y → T k i = takeI qs (un y)) := fun i y hy => by
          rw [← HT.out]; unfold isTaken; rw [List.getElem?_map, hpk, hy]; rfl
        have HTC : Hid (∀ y W, y ∈ ys → Calls Tryz.prog 68 #[.string x, .string y] W fun e w' => e = .returned (.bool (takeI qs (un y))) ∧ Below W.heap.size W w') := fun y W hy => takes_r x y qs W hqs (by omega) (HZ.out y hy)
        obtain ⟨wo, hwo⟩ : ∃ wo, wo = wr := ⟨_, rfl⟩
        subst hwo
        have HLg : Hid (Lies wo g 4 (rowB (ys.length + 1) (takenB M T k))) := hL
        have HUo : Hid (wo.ownsRow b2 9 1 (.slice ou ys.length cu) ys.length (strs ys)) := own_below HO.out.2 hB
        have HCx : Hid (wo.cell? ⟨g2, k, none⟩ = some (.string x)) := cx
        clear hL hpk hpx hst hx hqs
        go_wp2
        go_loopg [9] (ys.length + 1) (fun gi iv wx => ∃ i : Nat, iv = .int .i64 i ∧ i ≤ ys.length ∧ Aside (ys.length + 1 - i ≤ gi ∧ Lies wx wo.heap.size 4 (rowB (ys.length + 1) (fun x => decide (x ≤ i) && takenB M T (k + 1) x))) ∧ Below wo.heap.size wo wx)
        case atStart =>
          refine ⟨0, rfl, Nat.zero_le _, ⟨by omega, ?_⟩, (Below.refl _ wo).alloc (Nat.le_refl _) _⟩
          have e : rowB (ys.length + 1) (fun x => decide (x ≤ 0) && takenB M T (k + 1) x) = rowB (ys.length + 1) fun _ => false := rowB_congr (fun x _ => by
            by_cases h : x = 0
            · subst h; rw [taken_zero hMk]; rfl
            · rw [decide_eq_false (by omega), Bool.false_and])
          rw [e]
          exact Lies.new wo _ _
        case round =>
          obtain ⟨i, rfl, hi, HI, hBi⟩ := hrel
          by_cases hlti : i < ys.length
          · obtain ⟨y, hy⟩ : ∃ y, ys[i]? = some y := ⟨_, List.getElem?_eq_getElem hlti⟩
            obtain ⟨g4, rfl⟩ : ∃ g4, ou = some ⟨g4, 0, none⟩ := by
              rcases HUo.out.2 with ⟨_, h0⟩ | ⟨g4, cap4, cur4, h0, _⟩
              · omega
              · exact ⟨g4, (Value.slice.inj h0).1⟩
            have cy := row_cell (own_below HUo.out hBi) i (.string y) (by simp [strs, hy])
            have cx2 : wr.cell? ⟨g2, k, none⟩ = some (.string x) := (hBi.cell (p := ⟨g2, k, none⟩) hlg2).trans HCx.out
            have cc := (HLg.out.below hBi).cell (rowB_get (ys.length + 1) (takenB M T k) i (by omega))
            have HS : Hid (∀ W b, Lies W wo.heap.size 4 (rowB (ys.length + 1) (fun x => decide (x ≤ i) && takenB M T (k + 1) x)) → b = takenB M T (k + 1) (i + 1) → Lies (W.setCell ⟨wo.heap.size, i + 1, none⟩ (.bool b)) wo.heap.size 4 (rowB (ys.length + 1) (fun x => decide (x ≤ i + 1) && takenB M T (k + 1) x))) := fun W b hW hb => by
              have e : rowB (ys.length + 1) (fun x => decide (x ≤ i + 1) && takenB M T (k + 1) x) = rowB (ys.length + 1) (fun x => if x = i + 1 then b else decide (x ≤ i) && takenB M T (k + 1) x) := rowB_congr (fun x _ => by
                by_cases h : x = i + 1
                · subst h; rw [if_pos rfl, hb]; simp
                · rw [if_neg h]
                  by_cases h2 : x ≤ i
                  · simp [h2, show x ≤ i + 1 by omega]
                  · simp [h2, show ¬ x ≤ i + 1 by omega])
              rw [e]; exact hW.setB b (by omega)
            have hval : takenB M T (k + 1) (i + 1) = (takeI qs (un y) && takenB M T k i) := by rw [taken_one hMk, HTk.out i y hy]
            have e1 : (0 : Int) ≤ (i : Int) := by omega
            have e2 : (i : Int) < (ys.length : Int) := by omega
            have e3 : (i : Int) < (ys.length : Int) + 1 := by omega
            have e4 : (i : Int) + 1 < (ys.length : Int) + 1 := by omega
            have e5 : (0 : Int) ≤ (i : Int) + 1 := by omega
            cases htk : takenB M T k i
            · have HV : Hid (false = takenB M T (k + 1) (i + 1)) := by unfold Hid; rw [hval, htk]; simp
              have cn := HI.out.2.cell (rowB_get (ys.length + 1) (fun x => decide (x ≤ i) && takenB M T (k + 1) x) (i + 1) (by omega))
              have fn := HI.out.2.frozen (i + 1)
              rw [htk] at cc
              clear hval htk hy
              go_wp2
              go_region
              all_goals go_wp2
              all_goals go_roundg (ys.length + 1 - (i + 1))
              case rel => exact ⟨i + 1, by go_num, by omega, ⟨Nat.le_refl _, (HS.out _ _ HI.out.2 HV.out).drew 1⟩, below_drew (hBi.setCell (p := ⟨wo.heap.size, i + 1, none⟩) (Nat.le_refl _) _)⟩
              case measure => have := HI.out.1; omega
            · have HV : Hid (takeI qs (un y) = takenB M T (k + 1) (i + 1)) := by unfold Hid; rw [hval, htk]; simp
              have hcall := HTC.out y wr.drew (List.mem_of_getElem? hy)
              rw [htk] at cc
              have cn := HI.out.2.cell (rowB_get (ys.length + 1) (fun x => decide (x ≤ i) && takenB M T (k + 1) x) (i + 1) (by omega))
              have fn := HI.out.2.frozen (i + 1)
              obtain ⟨bv, hbv⟩ : ∃ bv, takeI qs (un y) = bv := ⟨_, rfl⟩
              rw [hbv] at hcall HV
              have HI2 : Hid (Lies wr wo.heap.size 4 (rowB (ys.length + 1) (fun x => decide (x ≤ i) && takenB M T (k + 1) x))) := HI.out.2
              have HF4 : Hid (∀ w4, Below wr.drew.heap.size wr.drew w4 → (∃ u4, w4.cell? ⟨wo.heap.size, i + 1, none⟩ = some u4) ∧ w4.frozen? ⟨wo.heap.size, i + 1, none⟩ = false) := fun w4 hb4 => ⟨⟨_, ((HI2.out.drew 1).below hb4).cell (rowB_get (ys.length + 1) (fun x => decide (x ≤ i) && takenB M T (k + 1) x) (i + 1) (by omega))⟩, ((HI2.out.drew 1).below hb4).frozen (i + 1)⟩
              clear hval htk hy hbv
              have hwr := wrap_succ i (by omega)
              go_wp2
              go_region_with (first | (go_at_call 68; refine hcall.mono ?_; rintro e w4 ⟨rfl, hb4⟩; obtain ⟨⟨u4, cn4⟩, fn4⟩ := HF4.out w4 hb4))
              all_goals (
                go_wp2
                go_roundg (ys.length + 1 - (i + 1))
                case rel => exact ⟨i + 1, by go_num, by omega, ⟨Nat.le_refl _, HS.out _ _ ((HI2.out.drew 1).below hb4) HV.out⟩, ((below_drew hBi).trans (hb4.mono (below_drew hBi).size)).setCell (p := ⟨wo.heap.size, i + 1, none⟩) (Nat.le_refl _) _⟩
                case measure => have := HI.out.1; omega)
          · obtain rfl : i = ys.length := by omega
            have HLn : Hid (Lies wr wo.heap.size 4 (rowB (ys.length + 1) (takenB M T (k + 1)))) := by
              unfold Hid
              have e : rowB (ys.length + 1) (takenB M T (k + 1)) = rowB (ys.length + 1) (fun x => decide (x ≤ ys.length) && takenB M T (k + 1) x) := rowB_congr (fun x hx => by rw [decide_eq_true (by omega), Bool.true_and])
              rw [e]; exact HI.out.2
            go_wp2
            go_roundg (xs.length + 1 - (k + 1))
            case rel => exact ⟨k + 1, wo.heap.size, by go_num, by omega, rfl, hB.size, ⟨Nat.le_refl _, HLn.out⟩, hB.trans (hBi.mono hB.size)⟩
            case measure => have := HP.out.1; omega
    · obtain rfl : k = xs.length := by omega
      go_wp2
      go_ret
      exact ⟨g, rfl, HP.out.2, b1.trans (hB.mono b1.size)⟩
end Go.Proofs.YtgjeppphbbnilaaGreatDoor
