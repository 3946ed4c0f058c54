/- The document's answer for the sets of a pattern's piece. -/
import Derived.Test.YthkbhcefckbcnaaGreatDoorRefSet
import Derived.Deep.LoopGhost
namespace Go.Proofs.YthkbhcefckbcnaaGreatDoor
open Go Go.RowKit

/-- What set owes. -/
def RSetPost (s : ByteArray) (i : Nat) (w : World) (e : Ending) (w' : World) : Prop :=
  ((∃ (st : BSet) (j g : Nat), rSet ((un s).drop (i + 1)) = some (st, (un s).drop j) ∧ i < j ∧ j ≤ s.size ∧ w.heap.size ≤ g ∧ Lies w' g 4 (rowB 256 (setRow st)) ∧ e = .returned (.tuple #[.slice (some ⟨g, 0, none⟩) 256 256, .int .i64 j, .bool true])) ∨
   (rSet ((un s).drop (i + 1)) = none ∧ e = .returned (.tuple #[.slice none 0 0, .int .i64 0, .bool false]))) ∧ Below w.heap.size w w'
theorem span_at (s : ByteArray) (i : Nat) (h : i + 1 < s.size) (h1 : s[i].toNat = 45) (h2 : s[i + 1].toNat ≠ 93) : isSpan ((un s).drop i) = true := by
  rw [drop_cons s i (by omega), drop_cons s (i + 1) h]
  simp only [isSpan, Bool.and_eq_true]
  exact ⟨by rw [show s[i] = 45 from UInt8.toNat_inj.1 h1]; rfl, by simp; intro e; exact h2 (by rw [e]; rfl)⟩
theorem span_end (s : ByteArray) (i : Nat) (h : s.size ≤ i + 1) : isSpan ((un s).drop i) = false := by
  by_cases h1 : i < s.size
  · rw [drop_cons s i h1, drop_end s (i + 1) h]; rfl
  · rw [drop_end s i (by omega)]; rfl
theorem span_one (s : ByteArray) (i : Nat) (h : i + 1 < s.size) (h1 : s[i].toNat ≠ 45) : isSpan ((un s).drop i) = false := by
  rw [drop_cons s i (by omega), drop_cons s (i + 1) h]
  simp only [isSpan, Bool.and_eq_false_iff]
  exact .inl (beq_false_of_ne fun e => h1 (by rw [e]; rfl))
theorem span_shut (s : ByteArray) (i : Nat) (h : i + 1 < s.size) (h1 : s[i + 1].toNat = 93) : isSpan ((un s).drop i) = false := by
  rw [drop_cons s i (by omega), drop_cons s (i + 1) h]
  simp only [isSpan, Bool.and_eq_false_iff]
  right
  rw [show s[i + 1] = 93 from UInt8.toNat_inj.1 h1]; rfl
theorem range_one {l r : List UInt8} {b : UInt8} (h : rByte l = some (b, r)) (hn : isSpan r = false) : rRange l = some (b, b, r) := by unfold rRange; rw [h]; simp [hn]
theorem range_two {l r r2 : List UInt8} {b d : UInt8} (h : rByte l = some (b, r)) (hn : isSpan r = true) (h2 : rByte (r.drop 1) = some (d, r2)) (hl : ¬ d < b) : rRange l = some (b, d, r2) := by unfold rRange; simp only [h, hn, if_true, h2]; rw [if_neg hl]
theorem range_less {l r r2 : List UInt8} {b d : UInt8} (h : rByte l = some (b, r)) (hn : isSpan r = true) (h2 : rByte (r.drop 1) = some (d, r2)) (hl : d < b) : rRange l = none := by unfold rRange; simp only [h, hn, if_true, h2]; rw [if_pos hl]
theorem range_bad {l r : List UInt8} {b : UInt8} (h : rByte l = some (b, r)) (hn : isSpan r = true) (h2 : rByte (r.drop 1) = none) : rRange l = none := by unfold rRange; simp only [h, hn, if_true, h2]
theorem range_none {l : List UInt8} (h : rByte l = none) : rRange l = none := by unfold rRange; rw [h]
theorem row_add (st : BSet) (lo hi : UInt8) (k : Nat) (hk : k = hi.toNat + 1) : rowB 256 (fun j => setRow st j || (decide (lo.toNat ≤ j) && decide (j < k))) = rowB 256 (setRow (addS st lo hi)) := by
  refine rowB_congr (fun j hj => ?_)
  have hjj : (UInt8.ofNat j).toNat = j := by rw [UInt8.toNat_ofNat']; omega
  unfold setRow addS
  congr 2
  · exact decide_eq_decide.2 (by rw [UInt8.le_iff_toNat_le, hjj])
  · exact decide_eq_decide.2 (by rw [UInt8.le_iff_toNat_le, hjj]; omega)
theorem row_turn (st : BSet) : rowB 256 (fun j => !setRow st j) = rowB 256 (setRow fun b => !st b) := rfl

set_option maxRecDepth 100000 in
set_option maxHeartbeats 8000000 in
theorem rset_end (s : ByteArray) (i : Nat) (w : World) (hs : s.size ≤ 1099511627776) (hi : i < s.size) (h1 : s.size ≤ i + 1) : Calls Tryz.prog 84 #[.string s, .int .i64 i] w (RSetPost s i w) := by
  have hmk : ∀ w, (Instr.makeSlice 66 (.int .i64 256) (.int .i64 256)).run Tryz.prog w = .ok (.slice (some ⟨w.heap.size, 0, none⟩) 256 256) (w.alloc (.cells (rowB 256 fun _ => false) 4)) := make_bools 256 (by decide)
  have hnt : isTurned ((un s).drop (i + 1)) = false := by rw [drop_end s (i + 1) h1]; rfl
  have HS : Hid (rSet ((un s).drop (i + 1)) = setRest true (fun _ => false) ((un s).drop (i + 1))) := by
    unfold Hid; rw [rSet_eq, hnt]; rfl
  have g0 : ¬ (i : Int) + 1 < (s.size : Int) := by omega
  go_enter Tryz.func84, Tryz.ntmps84
  go_wp2
  go_loopg [1, 9] (s.size + 1 - (i + 1)) (fun gk a f wr => ∃ (q : Nat) (first : Bool) (st : BSet), a = .int .i64 q ∧ f = .bool first ∧ i < q ∧ q ≤ s.size ∧ Aside (s.size + 1 - q ≤ gk ∧ setRest first st ((un s).drop q) = setRest true (fun _ => false) ((un s).drop (i + 1))) ∧ Lies wr w.heap.size 4 (rowB 256 (setRow st)) ∧ Below w.heap.size w wr)
  case atStart => exact ⟨i + 1, true, fun _ => false, by go_num, rfl, by omega, by omega, ⟨Nat.le_refl _, rfl⟩, Lies.new w _ _, (Below.refl _ w).alloc (Nat.le_refl _) _⟩
  case round =>
    obtain ⟨q, first, st, rfl, rfl, hiq, hqs, HP, hl, hB⟩ := hrel
    have Hl : Hid (Lies wr w.heap.size 4 (rowB 256 (setRow st))) := hl
    clear hl
    by_cases hend : s.size ≤ q
    · have HR : Aside (setRest true (fun _ => false) ((un s).drop (i + 1)) = none) := by unfold Aside; rw [← HP.out.2, drop_end s q hend, setRest_nil]
      have d1 : (s.size : Int) ≤ (q : Int) := by omega
      go_wp2
      go_ret3
      exact ⟨.inr ⟨by rw [HS.out, HR.out], rfl⟩, hB⟩
    · omega

set_option maxRecDepth 100000 in
set_option maxHeartbeats 8000000 in
theorem rset_plain (s : ByteArray) (i : Nat) (w : World) (hs : s.size ≤ 1099511627776) (_hi : i < s.size) (h1 : i + 1 < s.size) (h2 : s[i + 1].toNat ≠ 33) (h3 : s[i + 1].toNat ≠ 94) : Calls Tryz.prog 84 #[.string s, .int .i64 i] w (RSetPost s i w) := by
  have hmk : ∀ w, (Instr.makeSlice 66 (.int .i64 256) (.int .i64 256)).run Tryz.prog w = .ok (.slice (some ⟨w.heap.size, 0, none⟩) 256 256) (w.alloc (.cells (rowB 256 fun _ => false) 4)) := make_bools 256 (by decide)
  have hnt : isTurned ((un s).drop (i + 1)) = false := by
    rw [drop_cons s (i + 1) h1]; simp only [isTurned, Bool.or_eq_false_iff]
    exact ⟨beq_false_of_ne fun e => h2 (by rw [e]; rfl), beq_false_of_ne fun e => h3 (by rw [e]; rfl)⟩
  have HS : Hid (rSet ((un s).drop (i + 1)) = setRest true (fun _ => false) ((un s).drop (i + 1))) := by
    unfold Hid; rw [rSet_eq, hnt]; rfl
  have g0 : (i : Int) + 1 < (s.size : Int) := by omega
  have g9 : (0 : Int) ≤ (i : Int) + 1 := by omega
  have h2b : ((s[i + 1].toNat : Int) == 33) = false := by simp; omega
  have h3b : ((s[i + 1].toNat : Int) == 94) = false := by simp; omega
  go_enter Tryz.func84, Tryz.ntmps84
  go_wp2
  go_loopg [1, 9] (s.size + 1 - (i + 1)) (fun gk a f wr => ∃ (q : Nat) (first : Bool) (st : BSet), a = .int .i64 q ∧ f = .bool first ∧ i < q ∧ q ≤ s.size ∧ Aside (s.size + 1 - q ≤ gk ∧ setRest first st ((un s).drop q) = setRest true (fun _ => false) ((un s).drop (i + 1))) ∧ Lies wr w.heap.size 4 (rowB 256 (setRow st)) ∧ Below w.heap.size w wr)
  case atStart => exact ⟨i + 1, true, fun _ => false, by go_num, rfl, by omega, by omega, ⟨Nat.le_refl _, rfl⟩, Lies.new w _ _, (Below.refl _ w).alloc (Nat.le_refl _) _⟩
  case round =>
    obtain ⟨q, first, st, rfl, rfl, hiq, hqs, HP, hl, hB⟩ := hrel
    have Hl : Hid (Lies wr w.heap.size 4 (rowB 256 (setRow st))) := hl
    clear hl
    by_cases hend : s.size ≤ q
    · have HR : Aside (setRest true (fun _ => false) ((un s).drop (i + 1)) = none) := by unfold Aside; rw [← HP.out.2, drop_end s q hend, setRest_nil]
      have d1 : (s.size : Int) ≤ (q : Int) := by omega
      go_wp2
      go_ret3
      exact ⟨.inr ⟨by rw [HS.out, HR.out], rfl⟩, hB⟩
    · have hlt : q < s.size := by omega
      have hd := drop_cons s q hlt
      have d1 : ¬ (s.size : Int) ≤ (q : Int) := by omega
      have d2 : (0 : Int) ≤ (q : Int) := by omega
      have d3 : (q : Int) < (s.size : Int) := by omega
      by_cases hsh : s[q].toNat = 93 ∧ first = false
      · obtain ⟨hc, rfl⟩ := hsh
        have HR : Aside (setRest true (fun _ => false) ((un s).drop (i + 1)) = some (st, (un s).drop (q + 1))) := by
          unfold Aside; rw [← HP.out.2, hd]; exact setRest_end _ (by rw [show s[q] = 93 from UInt8.toNat_inj.1 hc]; rfl)
        clear hd
        go_wp2
        go_ret3
        exact ⟨.inl ⟨st, q + 1, w.heap.size, by rw [HS.out, HR.out], by omega, by omega, Nat.le_refl _, Hl.out, rfl⟩, hB⟩
      · have hne : (s[q] == 93 && !first) = false := by
          cases first
          · have : s[q] ≠ 93 := fun e => hsh ⟨by rw [e]; rfl, rfl⟩
            simp [this]
          · simp
        have hcs : (s[q].toNat ≠ 93) ∨ (s[q].toNat = 93 ∧ first = true) := by
          by_cases h : s[q].toNat = 93
          · cases first
            · exact (hsh ⟨h, rfl⟩).elim
            · exact .inr ⟨h, rfl⟩
          · exact .inl h
        clear hsh
        have hb1 := byteAt_r s q wr hs (by omega)
        unfold BytePost at hb1
        have HD : Aside (setRest first st ((un s).drop q) = setRest true (fun _ => false) ((un s).drop (i + 1)) ∧ (un s).drop q = s[q] :: (un s).drop (q + 1) ∧ (s[q] == 93 && !first) = false) := ⟨HP.out.2, hd, hne⟩
        have HG : Aside (s.size + 1 - q ≤ gk) := HP.out.1
        clear HP hd hne
        rcases hcs with h93 | ⟨h93, rfl⟩
        all_goals (try have h93b : ((s[q].toNat : Int) == 93) = false := by simp; omega)
        all_goals go_wp2_with fail
        all_goals refine hb1.mono ?_
        all_goals rintro e w2 ⟨⟨b, j, hrb, hqj, hjs, rfl⟩ | ⟨hrb, rfl⟩, hw2⟩
        all_goals replace hw2 := hw2.symm
        all_goals subst hw2
        · have e1 : (0 : Int) ≤ (j : Int) := by omega
          have hcs2 : isSpan ((un s).drop j) = false ∧ ((s.size ≤ j + 1) ∨ (∃ h : j + 1 < s.size, s[j].toNat ≠ 45) ∨ (∃ h : j + 1 < s.size, s[j].toNat = 45 ∧ s[j + 1].toNat = 93)) ∨ (∃ h : j + 1 < s.size, isSpan ((un s).drop j) = true ∧ s[j].toNat = 45 ∧ s[j + 1].toNat ≠ 93) := by
            by_cases h1 : s.size ≤ j + 1
            · exact .inl ⟨span_end s j h1, .inl h1⟩
            · have h2 : j + 1 < s.size := by omega
              by_cases h3 : s[j].toNat = 45
              · by_cases h4 : s[j + 1].toNat = 93
                · exact .inl ⟨span_shut s j h2 h4, .inr (.inr ⟨h2, h3, h4⟩)⟩
                · exact .inr ⟨h2, span_at s j h2 h3 h4, h3, h4⟩
              · exact .inl ⟨span_one s j h2 h3, .inr (.inl ⟨h2, h3⟩)⟩
          rcases hcs2 with ⟨hsp, hcs3⟩ | ⟨hj1, hsp, h45, h93c⟩
          · have HN : Aside (setRest false (addS st b b) ((un s).drop j) = setRest true (fun _ => false) ((un s).drop (i + 1))) := by
              unfold Aside
              rw [← HD.out.1, HD.out.2.1]
              exact (setRest_on _ HD.out.2.2 (by rw [← HD.out.2.1]; exact range_one hrb hsp)).symm
            have hbl := b.toNat_lt
            clear hrb hsp
            rcases hcs3 with h5 | ⟨h5, h6⟩ | ⟨h5, h6, h7⟩
            all_goals (try have g1 : ¬ (j : Int) + 1 < (s.size : Int) := by omega)
            all_goals (try have g2 : (j : Int) + 1 < (s.size : Int) := by omega)
            all_goals (try have g3 : (j : Int) < (s.size : Int) := by omega)
            all_goals (try have g4 : ((s[j].toNat : Int) == 45) = false := by simp; omega)
            all_goals go_wp2
            all_goals (
              go_loopg [14] (b.toNat + 1 - b.toNat) (fun gi m wx => ∃ k : Nat, m = .int .i64 k ∧ b.toNat ≤ k ∧ k ≤ b.toNat + 1 ∧ b.toNat + 1 - k ≤ gi ∧ Lies wx w.heap.size 4 (rowB 256 (fun x => setRow st x || (decide (b.toNat ≤ x) && decide (x < k)))) ∧ Below w.heap.size w wx)
              case atStart =>
                refine ⟨b.toNat, by go_num, Nat.le_refl _, by omega, Nat.le_refl _, ?_, hB⟩
                rw [rowB_congr (g := setRow st) (fun x _ => by
                  by_cases h : x < b.toNat
                  · simp [show ¬ b.toNat ≤ x by omega]
                  · simp [h])]
                exact Hl.out
              case round =>
                clear hB
                obtain ⟨k, rfl, hk1, hk2, hk3, hL, hB⟩ := hrel
                by_cases hk : k ≤ b.toNat
                · have hc2 := hL.cell (rowB_get 256 (fun x => setRow st x || (decide (b.toNat ≤ x) && decide (x < k))) k (by omega))
                  have hf2 := hL.frozen k
                  have HLs : Hid (Lies (wr.setCell ⟨w.heap.size, k, none⟩ (.bool true)) w.heap.size 4 ((rowB 256 (fun x => setRow st x || (decide (b.toNat ≤ x) && decide (x < k)))).setIfInBounds k (.bool true))) := hL.set _
                  have HBs : Hid (Below w.heap.size w (wr.setCell ⟨w.heap.size, k, none⟩ (.bool true))) := hB.setCell (p := ⟨w.heap.size, k, none⟩) (Nat.le_refl _) _
                  have d7 : (0 : Int) ≤ (k : Int) := by omega
                  have d8 : (k : Int) < 256 := by omega
                  clear hL
                  go_wp2
                  go_roundg (b.toNat + 1 - (k + 1))
                  case rel =>
                    refine ⟨k + 1, by go_num, by omega, by omega, Nat.le_refl _, ?_, HBs.out⟩
                    have h := HLs.out
                    rw [rowB_set _ _ _ _ (by omega)] at h
                    rw [rowB_congr (g := fun x => if x = k then true else setRow st x || (decide (b.toNat ≤ x) && decide (x < k)))]
                    · exact h
                    · intro x hx
                      by_cases hxk : x = k
                      · subst hxk; simp [hk1]
                      · rw [if_neg hxk]
                        by_cases hxl : x < k
                        · simp [hxl, show x < k + 1 by omega]
                        · simp [hxl, show ¬ x < k + 1 by omega]
                  case measure => omega
                · have HLe : Hid (Lies wr w.heap.size 4 (rowB 256 (setRow (addS st b b)))) := by unfold Hid; rw [← row_add st b b k (by omega)]; exact hL
                  clear hL
                  go_wp2
                  go_roundg (s.size + 1 - j)
                  case rel => exact ⟨j, false, addS st b b, by go_num, rfl, by omega, by omega, ⟨Nat.le_refl _, HN.out⟩, HLe.out, hB⟩
                  case measure => have := HG.out; omega)
          · have hbl := b.toNat_lt
            have g2 : (j : Int) + 1 < (s.size : Int) := by omega
            have g3 : (j : Int) < (s.size : Int) := by omega
            have g4 : ((s[j + 1].toNat : Int) == 93) = false := by simp; omega
            have hb2 := byteAt_r s (j + 1) wr hs (by omega)
            unfold BytePost at hb2
            have HB1 : Aside (rByte ((un s).drop q) = some (b, (un s).drop j) ∧ isSpan ((un s).drop j) = true) := ⟨hrb, hsp⟩
            clear hrb hsp
            go_wp2_with fail
            refine hb2.mono ?_
            rintro e w3 ⟨⟨d, j2, hrb2, hqj2, hjs2, rfl⟩ | ⟨hrb2, rfl⟩, hw3⟩
            all_goals replace hw3 := hw3.symm
            all_goals subst hw3
            · have hdl := d.toNat_lt
              by_cases hless : d < b
              · have HR : Aside (setRest true (fun _ => false) ((un s).drop (i + 1)) = none) := by
                  unfold Aside
                  rw [← HD.out.1, HD.out.2.1]
                  exact setRest_wrong _ HD.out.2.2 (by rw [← HD.out.2.1]; exact range_less HB1.out.1 HB1.out.2 (by rw [List.drop_drop]; exact hrb2) hless)
                have hl2 : (d.toNat : Int) < (b.toNat : Int) := by have := UInt8.lt_iff_toNat_lt.1 hless; omega
                clear hrb2 hless
                go_wp2
                go_ret3
                exact ⟨.inr ⟨by rw [HS.out, HR.out], rfl⟩, hB⟩
              · have HN : Aside (setRest false (addS st b d) ((un s).drop j2) = setRest true (fun _ => false) ((un s).drop (i + 1))) := by
                  unfold Aside
                  rw [← HD.out.1, HD.out.2.1]
                  exact (setRest_on _ HD.out.2.2 (by rw [← HD.out.2.1]; exact range_two HB1.out.1 HB1.out.2 (by rw [List.drop_drop]; exact hrb2) hless)).symm
                have hl2 : ¬ (d.toNat : Int) < (b.toNat : Int) := by intro e; exact hless (UInt8.lt_iff_toNat_lt.2 (by omega))
                clear hrb2 hless
                go_wp2
                go_loopg [14] (d.toNat + 1 - b.toNat) (fun gi m wx => ∃ k : Nat, m = .int .i64 k ∧ b.toNat ≤ k ∧ k ≤ d.toNat + 1 ∧ d.toNat + 1 - k ≤ gi ∧ Lies wx w.heap.size 4 (rowB 256 (fun x => setRow st x || (decide (b.toNat ≤ x) && decide (x < k)))) ∧ Below w.heap.size w wx)
                case atStart =>
                  refine ⟨b.toNat, by go_num, Nat.le_refl _, by omega, Nat.le_refl _, ?_, hB⟩
                  rw [rowB_congr (g := setRow st) (fun x _ => by
                    by_cases h : x < b.toNat
                    · simp [show ¬ b.toNat ≤ x by omega]
                    · simp [h])]
                  exact Hl.out
                case round =>
                  clear hB
                  obtain ⟨k, rfl, hk1, hk2, hk3, hL, hB⟩ := hrel
                  by_cases hk : k ≤ d.toNat
                  · have hc2 := hL.cell (rowB_get 256 (fun x => setRow st x || (decide (b.toNat ≤ x) && decide (x < k))) k (by omega))
                    have hf2 := hL.frozen k
                    have HLs : Hid (Lies (wr.setCell ⟨w.heap.size, k, none⟩ (.bool true)) w.heap.size 4 ((rowB 256 (fun x => setRow st x || (decide (b.toNat ≤ x) && decide (x < k)))).setIfInBounds k (.bool true))) := hL.set _
                    have HBs : Hid (Below w.heap.size w (wr.setCell ⟨w.heap.size, k, none⟩ (.bool true))) := hB.setCell (p := ⟨w.heap.size, k, none⟩) (Nat.le_refl _) _
                    have d7 : (0 : Int) ≤ (k : Int) := by omega
                    have d8 : (k : Int) < 256 := by omega
                    clear hL
                    go_wp2
                    go_roundg (d.toNat + 1 - (k + 1))
                    case rel =>
                      refine ⟨k + 1, by go_num, by omega, by omega, Nat.le_refl _, ?_, HBs.out⟩
                      have h := HLs.out
                      rw [rowB_set _ _ _ _ (by omega)] at h
                      rw [rowB_congr (g := fun x => if x = k then true else setRow st x || (decide (b.toNat ≤ x) && decide (x < k)))]
                      · exact h
                      · intro x hx
                        by_cases hxk : x = k
                        · subst hxk; simp [hk1]
                        · rw [if_neg hxk]
                          by_cases hxl : x < k
                          · simp [hxl, show x < k + 1 by omega]
                          · simp [hxl, show ¬ x < k + 1 by omega]
                    case measure => omega
                  · have HLe : Hid (Lies wr w.heap.size 4 (rowB 256 (setRow (addS st b d)))) := by unfold Hid; rw [← row_add st b d k (by omega)]; exact hL
                    clear hL
                    go_wp2
                    go_roundg (s.size + 1 - j2)
                    case rel => exact ⟨j2, false, addS st b d, by go_num, rfl, by omega, by omega, ⟨Nat.le_refl _, HN.out⟩, HLe.out, hB⟩
                    case measure => have := HG.out; omega
            · have HR : Aside (setRest true (fun _ => false) ((un s).drop (i + 1)) = none) := by
                unfold Aside
                rw [← HD.out.1, HD.out.2.1]
                exact setRest_wrong _ HD.out.2.2 (by rw [← HD.out.2.1]; exact range_bad HB1.out.1 HB1.out.2 (by rw [List.drop_drop]; exact hrb2))
              clear hrb2
              go_wp2
              go_ret3
              exact ⟨.inr ⟨by rw [HS.out, HR.out], rfl⟩, hB⟩
        · have HR : Aside (setRest true (fun _ => false) ((un s).drop (i + 1)) = none) := by
            unfold Aside
            rw [← HD.out.1, HD.out.2.1]
            exact setRest_wrong _ HD.out.2.2 (by rw [← HD.out.2.1]; exact range_none hrb)
          clear hrb
          go_wp2
          go_ret3
          exact ⟨.inr ⟨by rw [HS.out, HR.out], rfl⟩, hB⟩
        · have e1 : (0 : Int) ≤ (j : Int) := by omega
          have hcs2 : isSpan ((un s).drop j) = false ∧ ((s.size ≤ j + 1) ∨ (∃ h : j + 1 < s.size, s[j].toNat ≠ 45) ∨ (∃ h : j + 1 < s.size, s[j].toNat = 45 ∧ s[j + 1].toNat = 93)) ∨ (∃ h : j + 1 < s.size, isSpan ((un s).drop j) = true ∧ s[j].toNat = 45 ∧ s[j + 1].toNat ≠ 93) := by
            by_cases h1 : s.size ≤ j + 1
            · exact .inl ⟨span_end s j h1, .inl h1⟩
            · have h2 : j + 1 < s.size := by omega
              by_cases h3 : s[j].toNat = 45
              · by_cases h4 : s[j + 1].toNat = 93
                · exact .inl ⟨span_shut s j h2 h4, .inr (.inr ⟨h2, h3, h4⟩)⟩
                · exact .inr ⟨h2, span_at s j h2 h3 h4, h3, h4⟩
              · exact .inl ⟨span_one s j h2 h3, .inr (.inl ⟨h2, h3⟩)⟩
          rcases hcs2 with ⟨hsp, hcs3⟩ | ⟨hj1, hsp, h45, h93c⟩
          · have HN : Aside (setRest false (addS st b b) ((un s).drop j) = setRest true (fun _ => false) ((un s).drop (i + 1))) := by
              unfold Aside
              rw [← HD.out.1, HD.out.2.1]
              exact (setRest_on _ HD.out.2.2 (by rw [← HD.out.2.1]; exact range_one hrb hsp)).symm
            have hbl := b.toNat_lt
            clear hrb hsp
            rcases hcs3 with h5 | ⟨h5, h6⟩ | ⟨h5, h6, h7⟩
            all_goals (try have g1 : ¬ (j : Int) + 1 < (s.size : Int) := by omega)
            all_goals (try have g2 : (j : Int) + 1 < (s.size : Int) := by omega)
            all_goals (try have g3 : (j : Int) < (s.size : Int) := by omega)
            all_goals (try have g4 : ((s[j].toNat : Int) == 45) = false := by simp; omega)
            all_goals go_wp2
            all_goals (
              go_loopg [14] (b.toNat + 1 - b.toNat) (fun gi m wx => ∃ k : Nat, m = .int .i64 k ∧ b.toNat ≤ k ∧ k ≤ b.toNat + 1 ∧ b.toNat + 1 - k ≤ gi ∧ Lies wx w.heap.size 4 (rowB 256 (fun x => setRow st x || (decide (b.toNat ≤ x) && decide (x < k)))) ∧ Below w.heap.size w wx)
              case atStart =>
                refine ⟨b.toNat, by go_num, Nat.le_refl _, by omega, Nat.le_refl _, ?_, hB⟩
                rw [rowB_congr (g := setRow st) (fun x _ => by
                  by_cases h : x < b.toNat
                  · simp [show ¬ b.toNat ≤ x by omega]
                  · simp [h])]
                exact Hl.out
              case round =>
                clear hB
                obtain ⟨k, rfl, hk1, hk2, hk3, hL, hB⟩ := hrel
                by_cases hk : k ≤ b.toNat
                · have hc2 := hL.cell (rowB_get 256 (fun x => setRow st x || (decide (b.toNat ≤ x) && decide (x < k))) k (by omega))
                  have hf2 := hL.frozen k
                  have HLs : Hid (Lies (wr.setCell ⟨w.heap.size, k, none⟩ (.bool true)) w.heap.size 4 ((rowB 256 (fun x => setRow st x || (decide (b.toNat ≤ x) && decide (x < k)))).setIfInBounds k (.bool true))) := hL.set _
                  have HBs : Hid (Below w.heap.size w (wr.setCell ⟨w.heap.size, k, none⟩ (.bool true))) := hB.setCell (p := ⟨w.heap.size, k, none⟩) (Nat.le_refl _) _
                  have d7 : (0 : Int) ≤ (k : Int) := by omega
                  have d8 : (k : Int) < 256 := by omega
                  clear hL
                  go_wp2
                  go_roundg (b.toNat + 1 - (k + 1))
                  case rel =>
                    refine ⟨k + 1, by go_num, by omega, by omega, Nat.le_refl _, ?_, HBs.out⟩
                    have h := HLs.out
                    rw [rowB_set _ _ _ _ (by omega)] at h
                    rw [rowB_congr (g := fun x => if x = k then true else setRow st x || (decide (b.toNat ≤ x) && decide (x < k)))]
                    · exact h
                    · intro x hx
                      by_cases hxk : x = k
                      · subst hxk; simp [hk1]
                      · rw [if_neg hxk]
                        by_cases hxl : x < k
                        · simp [hxl, show x < k + 1 by omega]
                        · simp [hxl, show ¬ x < k + 1 by omega]
                  case measure => omega
                · have HLe : Hid (Lies wr w.heap.size 4 (rowB 256 (setRow (addS st b b)))) := by unfold Hid; rw [← row_add st b b k (by omega)]; exact hL
                  clear hL
                  go_wp2
                  go_roundg (s.size + 1 - j)
                  case rel => exact ⟨j, false, addS st b b, by go_num, rfl, by omega, by omega, ⟨Nat.le_refl _, HN.out⟩, HLe.out, hB⟩
                  case measure => have := HG.out; omega)
          · have hbl := b.toNat_lt
            have g2 : (j : Int) + 1 < (s.size : Int) := by omega
            have g3 : (j : Int) < (s.size : Int) := by omega
            have g4 : ((s[j + 1].toNat : Int) == 93) = false := by simp; omega
            have hb2 := byteAt_r s (j + 1) wr hs (by omega)
            unfold BytePost at hb2
            have HB1 : Aside (rByte ((un s).drop q) = some (b, (un s).drop j) ∧ isSpan ((un s).drop j) = true) := ⟨hrb, hsp⟩
            clear hrb hsp
            go_wp2_with fail
            refine hb2.mono ?_
            rintro e w3 ⟨⟨d, j2, hrb2, hqj2, hjs2, rfl⟩ | ⟨hrb2, rfl⟩, hw3⟩
            all_goals replace hw3 := hw3.symm
            all_goals subst hw3
            · have hdl := d.toNat_lt
              by_cases hless : d < b
              · have HR : Aside (setRest true (fun _ => false) ((un s).drop (i + 1)) = none) := by
                  unfold Aside
                  rw [← HD.out.1, HD.out.2.1]
                  exact setRest_wrong _ HD.out.2.2 (by rw [← HD.out.2.1]; exact range_less HB1.out.1 HB1.out.2 (by rw [List.drop_drop]; exact hrb2) hless)
                have hl2 : (d.toNat : Int) < (b.toNat : Int) := by have := UInt8.lt_iff_toNat_lt.1 hless; omega
                clear hrb2 hless
                go_wp2
                go_ret3
                exact ⟨.inr ⟨by rw [HS.out, HR.out], rfl⟩, hB⟩
              · have HN : Aside (setRest false (addS st b d) ((un s).drop j2) = setRest true (fun _ => false) ((un s).drop (i + 1))) := by
                  unfold Aside
                  rw [← HD.out.1, HD.out.2.1]
                  exact (setRest_on _ HD.out.2.2 (by rw [← HD.out.2.1]; exact range_two HB1.out.1 HB1.out.2 (by rw [List.drop_drop]; exact hrb2) hless)).symm
                have hl2 : ¬ (d.toNat : Int) < (b.toNat : Int) := by intro e; exact hless (UInt8.lt_iff_toNat_lt.2 (by omega))
                clear hrb2 hless
                go_wp2
                go_loopg [14] (d.toNat + 1 - b.toNat) (fun gi m wx => ∃ k : Nat, m = .int .i64 k ∧ b.toNat ≤ k ∧ k ≤ d.toNat + 1 ∧ d.toNat + 1 - k ≤ gi ∧ Lies wx w.heap.size 4 (rowB 256 (fun x => setRow st x || (decide (b.toNat ≤ x) && decide (x < k)))) ∧ Below w.heap.size w wx)
                case atStart =>
                  refine ⟨b.toNat, by go_num, Nat.le_refl _, by omega, Nat.le_refl _, ?_, hB⟩
                  rw [rowB_congr (g := setRow st) (fun x _ => by
                    by_cases h : x < b.toNat
                    · simp [show ¬ b.toNat ≤ x by omega]
                    · simp [h])]
                  exact Hl.out
                case round =>
                  clear hB
                  obtain ⟨k, rfl, hk1, hk2, hk3, hL, hB⟩ := hrel
                  by_cases hk : k ≤ d.toNat
                  · have hc2 := hL.cell (rowB_get 256 (fun x => setRow st x || (decide (b.toNat ≤ x) && decide (x < k))) k (by omega))
                    have hf2 := hL.frozen k
                    have HLs : Hid (Lies (wr.setCell ⟨w.heap.size, k, none⟩ (.bool true)) w.heap.size 4 ((rowB 256 (fun x => setRow st x || (decide (b.toNat ≤ x) && decide (x < k)))).setIfInBounds k (.bool true))) := hL.set _
                    have HBs : Hid (Below w.heap.size w (wr.setCell ⟨w.heap.size, k, none⟩ (.bool true))) := hB.setCell (p := ⟨w.heap.size, k, none⟩) (Nat.le_refl _) _
                    have d7 : (0 : Int) ≤ (k : Int) := by omega
                    have d8 : (k : Int) < 256 := by omega
                    clear hL
                    go_wp2
                    go_roundg (d.toNat + 1 - (k + 1))
                    case rel =>
                      refine ⟨k + 1, by go_num, by omega, by omega, Nat.le_refl _, ?_, HBs.out⟩
                      have h := HLs.out
                      rw [rowB_set _ _ _ _ (by omega)] at h
                      rw [rowB_congr (g := fun x => if x = k then true else setRow st x || (decide (b.toNat ≤ x) && decide (x < k)))]
                      · exact h
                      · intro x hx
                        by_cases hxk : x = k
                        · subst hxk; simp [hk1]
                        · rw [if_neg hxk]
                          by_cases hxl : x < k
                          · simp [hxl, show x < k + 1 by omega]
                          · simp [hxl, show ¬ x < k + 1 by omega]
                    case measure => omega
                  · have HLe : Hid (Lies wr w.heap.size 4 (rowB 256 (setRow (addS st b d)))) := by unfold Hid; rw [← row_add st b d k (by omega)]; exact hL
                    clear hL
                    go_wp2
                    go_roundg (s.size + 1 - j2)
                    case rel => exact ⟨j2, false, addS st b d, by go_num, rfl, by omega, by omega, ⟨Nat.le_refl _, HN.out⟩, HLe.out, hB⟩
                    case measure => have := HG.out; omega
            · have HR : Aside (setRest true (fun _ => false) ((un s).drop (i + 1)) = none) := by
                unfold Aside
                rw [← HD.out.1, HD.out.2.1]
                exact setRest_wrong _ HD.out.2.2 (by rw [← HD.out.2.1]; exact range_bad HB1.out.1 HB1.out.2 (by rw [List.drop_drop]; exact hrb2))
              clear hrb2
              go_wp2
              go_ret3
              exact ⟨.inr ⟨by rw [HS.out, HR.out], rfl⟩, hB⟩
        · have HR : Aside (setRest true (fun _ => false) ((un s).drop (i + 1)) = none) := by
            unfold Aside
            rw [← HD.out.1, HD.out.2.1]
            exact setRest_wrong _ HD.out.2.2 (by rw [← HD.out.2.1]; exact range_none hrb)
          clear hrb
          go_wp2
          go_ret3
          exact ⟨.inr ⟨by rw [HS.out, HR.out], rfl⟩, hB⟩

end Go.Proofs.YthkbhcefckbcnaaGreatDoor
