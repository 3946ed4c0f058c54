/- The document's Sum is the digest. -/
import Derived.Test.YtodgcmhkojkpcaaGreatDoorRefSum2
namespace Go.Proofs.YtodgcmhkojkpcaaGreatDoor
open Go Go.RowKit

theorem lenB_length (n : Nat) : (lenB n).length = 8 := rfl
theorem padT_length (t : List UInt8) : (padT t).length = t.length + 1 + padN t.length + 8 := by
  unfold padT; rw [List.length_append, pad1_length, lenB_length]
theorem padT_mod (t : List UInt8) : (padT t).length % 64 = 0 := by
  have h := padN_yes t.length
  rw [padT_length]; omega
theorem padT_drop (t : List UInt8) (q : Nat) (h : 64 * q ≤ t.length) : (padT t).drop (64 * q) = t.drop (64 * q) ++ (128 :: List.replicate (padN t.length) 0 ++ lenB t.length) := by
  unfold padT pad1
  rw [List.append_assoc, List.drop_append_of_le_length h]
theorem padT_append (t : List UInt8) : padT t = t ++ (128 :: List.replicate (padN t.length) 0 ++ lenB t.length) := by
  unfold padT pad1; rw [List.append_assoc]
/-- The sums behind all blocks of the text as it is padded. -/
theorem padT_sums (t : List UInt8) : sumsOf (padT t) ((padT t).length / 64) = finalS t := by
  obtain ⟨q, hq⟩ : ∃ q, q = t.length / 64 := ⟨_, rfl⟩
  obtain ⟨r, hr⟩ : ∃ r, r = t.length % 64 := ⟨_, rfl⟩
  have hqr : t.length = 64 * q + r := by omega
  have hr64 : r < 64 := by omega
  have hle : 64 * q ≤ t.length := by omega
  have hS : sumsOf (padT t) q = sumsOf t q := by rw [padT_append]; exact sumsOf_append t _ q hle
  have hD := padT_drop t q hle
  have hDl : (t.drop (64 * q)).length = r := by rw [List.length_drop]; omega
  unfold finalS
  rw [← hq, ← hr]
  by_cases h55 : r ≤ 55
  · have hP : padN t.length = 55 - r := by unfold padN; omega
    have hl : (padT t).length / 64 = q + 1 := by rw [padT_length, hP]; omega
    rw [if_pos h55, hl, sumsOf, hS, hD, hP]
    congr 1
    have hlen : (t.drop (64 * q) ++ (128 :: List.replicate (55 - r) 0 ++ lenB t.length)).length = 64 := by
      simp [lenB_length, hDl]; omega
    rw [List.take_of_length_le (by omega)]
    unfold endK baseT
    rw [← hq, ← hr, List.take_append, hDl, List.take_of_length_le (by omega), show 64 - 8 - r = (55 - r) + 1 by omega, List.take_succ_cons, List.take_replicate, Nat.min_eq_left (by omega)]
    simp
  · have hP : padN t.length = (63 - r) + 56 := by unfold padN; omega
    have hl : (padT t).length / 64 = q + 1 + 1 := by rw [padT_length, hP]; omega
    have hB : baseT t = t.drop (64 * q) ++ 128 :: List.replicate (63 - r) 0 := by unfold baseT; rw [← hq, ← hr]
    have hBl : (baseT t).length = 64 := by rw [hB]; simp [hDl]; omega
    have hD2 : (padT t).drop (64 * q) = baseT t ++ (List.replicate 56 0 ++ lenB t.length) := by
      rw [hD, hP, hB, ← List.replicate_append_replicate]
      simp
    have hD3 : (padT t).drop (64 * (q + 1)) = List.replicate 56 0 ++ lenB t.length := by
      rw [show 64 * (q + 1) = 64 * q + 64 by omega, ← List.drop_drop, hD2, List.drop_left' hBl]
    rw [if_neg h55, hl, sumsOf, sumsOf, hS, hD2, hD3, List.take_left' hBl]
    congr 1

/-- The first eight numbers stand as they are laid. -/
abbrev BTab (w : World) : Prop := Lib.TabIs Tryz.prog w "strata/strataref03.begin" .u32 init8
theorem l_b : Tryz.prog.globalNamed "strata/strataref03.begin" = some 0 := by kernel_rfl
/-- v is a list of these eight numbers. -/
def H8 (w : World) (v : Value) (xs : List Int) : Prop := ∃ hb ho hc, v = .slice (some ⟨hb, ho, none⟩) 8 hc ∧ ∀ i, i < 8 → w.cell? ⟨hb, ho + i, none⟩ = some (.int .u32 (xs.getD i 0))
theorem H8.below {w w' : World} {v : Value} {xs : List Int} (h : H8 w v xs) (hb : Below w.heap.size w w') : H8 w' v xs := by
  obtain ⟨b, o, c, rfl, h1⟩ := h
  exact ⟨b, o, c, rfl, fun i hi => (hb.cell (p := ⟨b, o + i, none⟩) (World.block_lt_of_cell? w _ (h1 i hi))).trans (h1 i hi)⟩
theorem H8.own {w : World} {B : Nat} {v : Value} {xs : List Int} (h8 : xs.length = 8) (h : w.ownsRow B 79 1 v 8 (i32s xs)) : H8 w v xs := by
  have h0 := h
  rcases h.2 with ⟨_, h1⟩ | ⟨g, cap, cur, rfl, _⟩
  · omega
  · exact ⟨g, 0, cap, rfl, fun i hi => by rw [Nat.zero_add]; exact row_cell h0 i _ (i32s_get xs i (by omega))⟩
theorem TabIs_var {w w' : World} {B : Nat} (hB : Below B w w') (hb : BTab w) (hlt : 0 < B) : H8 w' (.slice (some ⟨0, 0, none⟩) 8 8) init8 :=
  ⟨_, 0, 8, rfl, fun i hi => by
    rw [Nat.zero_add]
    rw [hB.cell (p := ⟨0, i, none⟩) hlt]
    exact Lib.TabIs.cell hb l_b i hi⟩
theorem drop_take_get (P : List UInt8) (j i : Nat) (hi : i < ((P.drop j).take 64).length) (h2 : j + i < P.length) : ((P.drop j).take 64)[i] = P[j + i] := by simp

set_option maxRecDepth 100000 in
set_option maxHeartbeats 8000000 in
theorem sum_r' (n : Int) (wd : Nat) (hwd : wd = widthN n) (s : ByteArray) (w : World) (hk : RTab w) (hbt : BTab w) (hs : s.size ≤ 140737488351232) : Calls Tryz.prog 31 #[.int .i64 n, .string s] w fun e w' => e = .returned (.agg (dig32 (sumB wd (un s)))) ∧ Below w.heap.size w w' := by
  have hw32 : wd ≤ 32 := by rw [hwd]; exact widthN_le n
  have HWD : Hid (n ≤ 1 ∧ wd = 1 ∨ 1 < n ∧ n ≤ 32 ∧ (wd : Int) = n ∨ 32 < n ∧ wd = 32) := by unfold Hid; rw [hwd]; unfold widthN widthOf; omega
  clear hwd
  have hz := (zero_of_info (P := Tryz.prog) info_digest).1
  have hid : (Tryz.prog.info? 25).map (·.size) = some (dig32 (sumB wd (un s))).size := by rw [dig32_size, sumB_length _ _ hw32]; kernel_rfl
  have hgr := var_lt l_r hk
  have hgb := var_lt l_b hbt
  have hsl := slice8_all 0 (w.alloc (.cells (dig32 zeros) 25))
  have B0 : Below w.heap.size w (w.alloc (.cells (dig32 zeros) 25)) := (Below.refl _ w).alloc (Nat.le_refl _) _
  have L0 := Lies.new w 25 (dig32 zeros)
  go_enter Tryz.func31, Tryz.ntmps31
  go_wp2_with fail
  refine (padded_r s _ hs).mono ?_
  rintro e w1 ⟨v, rfl, hR, b1⟩
  have B1 := below_join B0 b1
  have L1 := L0.below b1
  have hb1 := b1.size
  rw [World.size_alloc] at hR hb1
  obtain ⟨P, hP⟩ : ∃ P, P = padT (un s) := ⟨_, rfl⟩
  have hPs : Hid (sumsOf P (P.length / 64) = finalS (un s)) := by rw [hP]; exact padT_sums _
  have hPm : P.length % 64 = 0 := by rw [hP]; exact padT_mod _
  have hPl : P.length ≤ 140737488351304 := by rw [hP, padT_length, un_length]; have := padN_lt s.size; omega
  rw [← hP] at hR
  clear hP B0 L0 b1 hsl
  obtain ⟨m, hm⟩ : ∃ m, m = P.length := ⟨_, rfl⟩
  obtain ⟨g, cap, hv⟩ : ∃ g cap, v = .slice (some ⟨g, 0, none⟩) m cap ∧ m ≤ cap ∧ cap ≤ maxLen := by
    obtain ⟨g, cap, _, _, hv, _, _, _, h1, h2, _⟩ := hR
    exact ⟨g, cap, by rw [hv, hm], by omega, h2⟩
  obtain ⟨hv, hmc, hcm⟩ := hv
  subst hv
  unfold maxLen at hcm
  have HR1 : Hid (RowB w1 (w.heap.size + 1) (.slice (some ⟨g, 0, none⟩) m cap) P) := hR
  have HM : Hid (m = P.length) := hm
  have hm64 : m % 64 = 0 := by omega
  have hml : m ≤ 140737488351304 := by omega
  have HB1 : Hid (H8 w1 (.slice (some ⟨0, 0, none⟩) 8 8) (sumsOf P 0)) := TabIs_var B1 hbt hgb
  clear hm hPm hPl hR
  go_wp2_with fail
  go_loopw [5, 7] (fun v n wr => ∃ (k j : Nat), j = 64 * k ∧ j ≤ m ∧ n = .int .i64 j ∧ Hid (H8 wr v (sumsOf P k)) ∧ Hid (RowB wr (w.heap.size + 1) (.slice (some ⟨g, 0, none⟩) m cap) P) ∧ Hid (Lies wr w.heap.size 25 (dig32 zeros)) ∧ Below w.heap.size w wr) (fun _ n _ => m - (intOf n).toNat)
  case atStart => exact ⟨0, 0, rfl, Nat.zero_le _, rfl, HB1, HR1, L1, B1⟩
  case round =>
    clear HB1 HR1 L1 B1
    obtain ⟨k, j, hj, hjm, rfl, HH, HR, HL, hB⟩ := hrel
    have hs1 := hB.size
    by_cases hlt : j < m
    · have hj64 : j + 64 ≤ m := by omega
      obtain ⟨hb, ho, hc, hv, hcells⟩ := HH.out
      subst hv
      have hPj : Hid (j + 64 ≤ P.length) := by unfold Hid; rw [← HM.out]; exact hj64
      have hbl : ((P.drop j).take 64).length = 64 := by rw [List.length_take, List.length_drop]; have := hPj.out; omega
      have HBK := block_r (sumsOf P k) (sumsOf_length _ _) ((P.drop j).take 64) hbl hb ho hc g j (cap - j) wr hcells (fun i hi => by
        have hi2 : j + i < P.length := by have := hPj.out; omega
        rw [drop_take_get P j i hi hi2]
        exact HR.out.cell (j + i) hi2) (var?_below hB l_r hgr hk)
      have HBK2 : Hid _ := HBK
      have HSU : Hid (compress (sumsOf P k) ((P.drop j).take 64) = sumsOf P (k + 1)) := by unfold Hid; rw [sumsOf, hj]
      have d1 : (0 : Int) ≤ (j : Int) := by omega
      have d2 : (j : Int) < (m : Int) := by omega
      have d3 : (j : Int) ≤ (j : Int) + 64 := by omega
      have d4 : (j : Int) + 64 ≤ (cap : Int) := by omega
      have hj2 : j + 64 = 64 * (k + 1) := by omega
      have HJ2 : Hid _ := hj2
      clear HBK hcells hbl HH hj hj2
      go_wp2_with fail
      refine Calls.mono HBK2.out ?_
      rintro e w2 ⟨v2, rfl, ho2, b2⟩
      have HH2 : Hid (H8 w2 v2 (sumsOf P (k + 1))) := by unfold Hid; rw [← HSU.out]; exact H8.own (compress_length _ _ (sumsOf_length _ _)) (by rw [HSU.out] at *; exact ho2)
      have HR2 : Hid (RowB w2 (w.heap.size + 1) (.slice (some ⟨g, 0, none⟩) m cap) P) := HR.out.below b2
      have HL2 : Hid (Lies w2 w.heap.size 25 (dig32 zeros)) := HL.out.below b2
      have B2 := below_join hB b2
      clear ho2 b2 HR HL hB HBK2 HSU
      go_wp2
      exact ⟨⟨k + 1, j + 64, HJ2.out, by omega, by go_num, HH2, HR2, HL2, B2⟩, by simp [intOf]; omega⟩
    · obtain rfl : j = m := by omega
      have hkk : k = P.length / 64 := by have := HM.out; omega
      have HX : H8 wr u5 (finalS (un s)) := by rw [← hPs.out, ← hkk]; exact HH.out
      obtain ⟨hb, ho, hc, hv, hcells⟩ := HX
      subst hv
      have hX8 := finalS_length (un s)
      have hsb : Hid (sumK (finalS (un s)) wd = sumB wd (un s)) := rfl
      generalize finalS (un s) = X at *
      have HC : Hid (∀ W, Below wr.heap.size wr W → ∀ i, i < 8 → W.cell? ⟨hb, ho + i, none⟩ = some (.int .u32 (X.getD i 0))) := fun W hb i hi => (hb.cell (World.block_lt_of_cell? wr _ (hcells i hi))).trans (hcells i hi)
      clear hcells HH HR hPs hkk hj
      obtain ⟨w2, hw2⟩ : ∃ w2, w2 = wr := ⟨_, rfl⟩
      subst hw2
      have hLw := HL.out.lt
      go_wp2
      go_loopw [9] (fun n wr => ∃ k : Nat, k ≤ wd ∧ n = .int .i64 k ∧ Hid (Lies wr w2.heap.size 25 (dig32 (sumK X k))) ∧ Hid (Lies wr w.heap.size 25 (dig32 zeros)) ∧ Below w2.heap.size w2 wr) (fun n _ => wd - (intOf n).toNat)
      case atStart => exact ⟨0, by omega, rfl, Lies.new w2 _ _, HL.out.alloc _, (Below.refl _ w2).alloc (Nat.le_refl _) _⟩
      case round =>
        obtain ⟨k, hkw, rfl, HL2, HL0, hb2⟩ := hrel
        by_cases hlt : k < wd
        · have hkl := sumK_length X k (by omega)
          have cd := HL2.out.cell (dig32_get (sumK X k) k (by omega))
          have fd := HL2.out.frozen k
          have cx := HC.out wr hb2 (k / 4) (by omega)
          have HS : Hid (Lies (wr.setCell ⟨w2.heap.size, k, none⟩ (.int .u8 ((X.getD (k / 4) 0 / ((2 ^ (24 - k % 4 * 8) : Nat) : Int)) % 256))) w2.heap.size 25 (dig32 (sumK X (k + 1)))) := by
            have h := HL2.out.set (i := k) (.int .u8 ((sumByte X k).toNat : Int))
            rw [dig32_set, sumK_set X k (by omega)] at h
            unfold Hid; rw [← sumByte_int]; exact h
          have HL3 : Hid (∀ v, Lies (wr.setCell ⟨w2.heap.size, k, none⟩ v) w.heap.size 25 (dig32 zeros)) := fun v => HL0.out.other _ (by omega)
          have HB3 : Hid (∀ v, Below w2.heap.size w2 (wr.setCell ⟨w2.heap.size, k, none⟩ v)) := fun v => hb2.setCell (p := ⟨w2.heap.size, k, none⟩) (Nat.le_refl _) _
          generalize ((sumK X k)[k]'(by omega)).toNat = ob at *
          generalize X.getD (k / 4) 0 = x at *
          have d1 : (0 : Int) ≤ (k : Int) := by omega
          have d2 : (k : Int) < 32 := by omega
          have d4 : ((k : Int) / 4).toNat = k / 4 := by omega
          have d5 : (0 : Int) ≤ (k : Int) / 4 := by omega
          have d6 : (k : Int) / 4 < 8 := by omega
          have hmx : (k : Int) < max n 1 := by have := HWD.out; omega
          have hr : k % 4 = 0 ∨ k % 4 = 1 ∨ k % 4 = 2 ∨ k % 4 = 3 := by omega
          rcases hr with hr | hr | hr | hr
          · have q : (k : Int) % 4 = 0 := by omega
            rw [hr] at HS
            go_wp2
            have h := HS.out
            exact ⟨⟨k + 1, by omega, by go_num, h, HL3.out _, HB3.out _⟩, by simp [intOf]; omega⟩
          · have q : (k : Int) % 4 = 1 := by omega
            rw [hr] at HS
            go_wp2
            have h := HS.out
            exact ⟨⟨k + 1, by omega, by go_num, h, HL3.out _, HB3.out _⟩, by simp [intOf]; omega⟩
          · have q : (k : Int) % 4 = 2 := by omega
            rw [hr] at HS
            go_wp2
            have h := HS.out
            exact ⟨⟨k + 1, by omega, by go_num, h, HL3.out _, HB3.out _⟩, by simp [intOf]; omega⟩
          · have q : (k : Int) % 4 = 3 := by omega
            rw [hr] at HS
            go_wp2
            have h := HS.out
            rw [show ((2 ^ (24 - 3 * 8) : Nat) : Int) = 1 from rfl, Int.ediv_one] at h
            exact ⟨⟨k + 1, by omega, by go_num, h, HL3.out _, HB3.out _⟩, by simp [intOf]; omega⟩
        · obtain rfl : k = wd := by omega
          have hL2 : Lies wr w2.heap.size 25 (dig32 (sumB k (un s))) := by rw [← hsb.out]; exact HL2.out
          have hL0 := HL0.out
          have hB3 : Below w.heap.size w wr := hB.trans (hb2.mono (by omega))
          by_cases h32 : k = 32
          · have d1 : ¬ (k : Int) < 32 := by omega
            clear h32
            go_wp2_with (first
              | (refine wpList_load_row rfl 25 (.tmp 8) rfl w2.heap.size rfl 25 (dig32 (sumB k (un s))) (0, 0) _ hL2 Tryz.underlying25 rfl hid ?_)
              | (refine wpList_store_row rfl 25 (.tmp 4) (.tmp 49) rfl w.heap.size (dig32 (sumB k (un s))) rfl rfl 25 (dig32 zeros) hL0 hid (by rw [dig32_size, dig32_size, sumB_length k _ hw32]; rfl) (dig32_one _) ?_))
            refine bodyPost_ret (results_cell_row rfl _ _ w.heap.size 25 (dig32 (sumB k (un s))) (0, 0) _ rfl (hL0.row _) Tryz.underlying25 rfl hid) rfl ?_
            exact ⟨rfl, below_setRow hB3 (Nat.le_refl _) _⟩
          · have d1 : (k : Int) < 32 := by omega
            have d3 : ¬ (k : Int) < n := by have := HWD.out; omega
            have d4 : ¬ (k : Int) < 1 := by have := HWD.out; omega
            go_wp2_with (first
              | (refine wpList_load_row rfl 25 (.tmp 8) rfl w2.heap.size rfl 25 (dig32 (sumB k (un s))) (0, 0) _ hL2 Tryz.underlying25 rfl hid ?_)
              | (refine wpList_store_row rfl 25 (.tmp 4) (.tmp 49) rfl w.heap.size (dig32 (sumB k (un s))) rfl rfl 25 (dig32 zeros) hL0 hid (by rw [dig32_size, dig32_size, sumB_length k _ hw32]; rfl) (dig32_one _) ?_))
            all_goals refine bodyPost_ret (results_cell_row rfl _ _ w.heap.size 25 (dig32 (sumB k (un s))) (0, 0) _ rfl (hL0.row _) Tryz.underlying25 rfl hid) rfl ?_
            all_goals exact ⟨rfl, below_setRow hB3 (Nat.le_refl _) _⟩
theorem sum_r (n : Int) (s : ByteArray) (w : World) (hk : RTab w) (hbt : BTab w) (hs : s.size ≤ 140737488351232) : Calls Tryz.prog 31 #[.int .i64 n, .string s] w fun e w' => e = .returned (.agg (dig32 (sumB (widthN n) (un s)))) ∧ Below w.heap.size w w' :=
  sum_r' n _ rfl s w hk hbt hs
end Go.Proofs.YtodgcmhkojkpcaaGreatDoor
