/- The document's answer for reading a digest's text. -/
import Derived.Test.YtodgcmhkojkpcaaGreatDoorRefText
import Derived.Test.YtodgcmhkojkpcaaGreatDoorParse3
namespace Go.Proofs.YtodgcmhkojkpcaaGreatDoor
open Go Go.RowKit

theorem dig_val (c : UInt8) (h : 0 ≤ val c) : dig (val c).toNat = c := by
  have : ∀ n : Fin 256, 0 ≤ val (UInt8.ofNat n.val) → dig (val (UInt8.ofNat n.val)).toNat = UInt8.ofNat n.val := by decide +kernel
  have h2 := this ⟨c.toNat, c.toNat_lt⟩
  simp only [UInt8.ofNat_toNat] at h2
  exact h2 h
theorem val_none (c : UInt8) (h : ∀ j, j < 16 → dig j ≠ c) : val c = -1 := by
  have h1 := val_range c
  by_cases h0 : 0 ≤ val c
  · exact absurd (dig_val c h0) (h _ (by omega))
  · omega
theorem hex_upTo {r : List UInt8} : ∀ {k : Nat} {d : List UInt8}, upTo r k = some d → 2 * k ≤ r.length → hexL d = r.take (2 * k)
  | 0, d, h, _ => by simp [upTo] at h; subst h; rfl
  | k + 1, d, h, hk => by
    unfold upTo at h
    split at h
    · cases h
    · rename_i d0 h0
      have ih := hex_upTo h0 (by omega)
      split at h
      · cases h
      · rename_i hv
        cases h
        have g0 : r[2 * k]? = some (r.getD (2 * k) 0) := by rw [List.getD_eq_getElem?_getD, List.getElem?_eq_getElem (by omega)]; rfl
        have g1 : r[2 * k + 1]? = some (r.getD (2 * k + 1) 0) := by rw [List.getD_eq_getElem?_getD, List.getElem?_eq_getElem (by omega)]; rfl
        generalize r.getD (2 * k) 0 = x at *
        generalize r.getD (2 * k + 1) 0 = y at *
        have x1 := val_range x
        have y1 := val_range y
        have x2 := dig_val x (by omega)
        have y2 := dig_val y (by omega)
        rw [hexL_append, ih, show 2 * (k + 1) = 2 * k + 1 + 1 by omega, List.take_add_one, List.take_add_one, g0, g1]
        have e : (UInt8.ofNat ((val x).toNat * 16 + (val y).toNat)).toNat = (val x).toNat * 16 + (val y).toNat := by
          rw [UInt8.toNat_ofNat']; omega
        have e1 : ((val x).toNat * 16 + (val y).toNat) / 16 = (val x).toNat := by omega
        have e2 : ((val x).toNat * 16 + (val y).toNat) % 16 = (val y).toNat := by omega
        have e3 : ∀ b : UInt8, hexL [b] = [dig (b.toNat / 16), dig (b.toNat % 16)] := fun b => rfl
        rw [e3, e, e1, e2, x2, y2]
        simp

set_option maxRecDepth 100000 in
set_option maxHeartbeats 2000000 in
theorem value_r (c : UInt8) (w : World) : Calls Tryz.prog 56 #[.int .u8 c.toNat] w fun e w' => e = .returned (.int .i64 (val c)) ∧ w' = w := by
  go_enter Tryz.func56, Tryz.ntmps56
  go_wp2
  go_loop [3] (fun n => ∃ (k : Nat), k ≤ 16 ∧ n = .int .i64 k ∧ Hid (∀ j, j < k → dig j ≠ c)) (fun n => 16 - (intOf n).toNat)
  case atStart => exact ⟨0, Nat.zero_le _, rfl, fun j h => by omega⟩
  case round =>
    obtain ⟨k, hk, rfl, hn⟩ := hrel
    by_cases hlt : k < 16
    · have hk2 : k < (⟨#[48, 49, 50, 51, 52, 53, 54, 55, 56, 57, 97, 98, 99, 100, 101, 102]⟩ : ByteArray).size := hlt
      have hdk := dig_at k hk2
      have d1 : (0 : Int) ≤ (k : Int) := by omega
      have d2 : (k : Int) < 16 := by omega
      by_cases hc : dig k = c
      · have HV : Hid (val c = k) := by unfold Hid; rw [← hc]; exact val_dig' k hlt
        have db : (((dig k).toNat : Int) == (c.toNat : Int)) = true := by rw [hc]; simp
        clear hc
        go_wp2
        go_ret
        exact ⟨by rw [HV.out]; rfl, rfl⟩
      · have HN : Hid (∀ j, j < k + 1 → dig j ≠ c) := fun j hj => by
          rcases Nat.lt_or_ge j k with h | h
          · exact hn.out j h
          · obtain rfl : j = k := by omega
            exact hc
        have db : (((dig k).toNat : Int) == (c.toNat : Int)) = false := beq_false_of_ne (fun h => hc (UInt8.toNat_inj.1 (by omega)))
        clear hc
        go_wp2
        go_round
        case rel => exact ⟨k + 1, by omega, by go_num, HN⟩
        case measure => simp [intOf]; omega
    · obtain rfl : k = 16 := by omega
      have HV : Hid (val c = -1) := val_none c hn.out
      go_wp2
      go_ret
      exact ⟨by rw [HV.out]; rfl, rfl⟩

/-- What the document's answer says. -/
def RPost (s : ByteArray) (w : World) (e : Ending) (w' : World) : Prop :=
  (match parseL (un s) with
  | some d => e = .returned (.tuple #[.agg (dig32 d), .int .i64 0])
  | none => e = .returned (.tuple #[.agg (dig32 zeros), .int .i64 4])) ∧ Below w.heap.size w w'
theorem parse_len {s : ByteArray} (h : s.size ≠ 71) : parseL (un s) = none := by
  unfold parseL
  rw [if_neg]
  rintro ⟨_, h2⟩
  rw [List.length_drop, un_length] at h2
  omega
theorem parse_not {s : ByteArray} {d : List UInt8} (hs : s.size = 71) (hu : upTo ((un s).drop 7) 32 = some d) (h : textL d ≠ un s) : parseL (un s) = none := by
  unfold parseL
  rw [if_neg]
  rintro ⟨h1, _⟩
  apply h
  have h3 := hex_upTo hu (by rw [List.length_drop, un_length]; omega)
  rw [List.take_of_length_le (by rw [List.length_drop, un_length]; omega)] at h3
  obtain ⟨t, ht⟩ := List.isPrefixOf_iff_prefix.1 h1
  unfold textL
  rw [h3, ← ht]
  rfl
theorem parse_yes {s : ByteArray} {d : List UInt8} (hu : upTo ((un s).drop 7) 32 = some d) (h : textL d = un s) : parseL (un s) = some d := by
  rw [← h]
  exact parse_text d (upTo_length hu)

set_option maxRecDepth 100000 in
set_option maxHeartbeats 2000000 in
theorem parse_r_len (s : ByteArray) (w : World) (h : s.size ≠ 71) : Calls Tryz.prog 33 #[.string s] w (RPost s w) := by
  have hz := (zero_of_info (P := Tryz.prog) info_digest).1
  have hi : (Tryz.prog.info? 25).map (·.size) = some (dig32 zeros).size := by rw [zeros_size]; kernel_rfl
  have HN : Hid (parseL (un s) = none) := parse_len h
  have hne : ¬ (s.size : Int) = 71 := by omega
  clear h
  go_enter Tryz.func33, Tryz.ntmps33
  go_wp2_with (refine wpList_store_row rfl 25 (.tmp 2) (.tmp 11) rfl w.heap.size (dig32 zeros) rfl rfl 25 (dig32 zeros) (Lies.new w _ _) hi rfl (dig32_one _) ?_)
  refine bodyPost_ret (results_c2 rfl _ _ w.heap.size 25 (dig32 zeros) _ rfl ((Lies.new w _ _).row _) Tryz.underlying25 rfl hi) rfl ?_
  unfold RPost
  rw [HN.out]
  exact ⟨rfl, below_setRow ((Below.refl _ w).alloc (Nat.le_refl _) _) (Nat.le_refl _) _⟩
set_option maxRecDepth 100000 in
set_option maxHeartbeats 2000000 in
theorem parse_r_full (s : ByteArray) (w : World) (h : s.size = 71) : Calls Tryz.prog 33 #[.string s] w (RPost s w) := by
  have hz := (zero_of_info (P := Tryz.prog) info_digest).1
  have hi : (Tryz.prog.info? 25).map (·.size) = some (dig32 zeros).size := by rw [zeros_size]; kernel_rfl
  have hne : (s.size : Int) = 71 := by omega
  go_enter Tryz.func33, Tryz.ntmps33
  go_wp2_with fail
  go_loopw [5] (fun n wr => ∃ (k : Nat) (d : List UInt8), k ≤ 32 ∧ n = .int .i64 k ∧ Hid (upTo ((un s).drop 7) k = some d) ∧ Lies wr w.heap.size 25 (dig32 zeros) ∧ Lies wr (w.heap.size + 1) 25 (dig32 (filled d k)) ∧ Below w.heap.size w wr) (fun n _ => 32 - (intOf n).toNat)
  case atStart =>
    refine ⟨0, [], by omega, rfl, rfl, (Lies.new w _ _).alloc _, ?_, ((Below.refl _ w).alloc (Nat.le_refl _) _).alloc (by simp) _⟩
    have h := Lies.new (w.alloc (.cells (dig32 zeros) 25)) 25 (dig32 zeros); rw [World.size_alloc] at h; exact h
  case round =>
    obtain ⟨k, d, hk, rfl, hu, hL0, hL1, hB⟩ := hrel
    have hdl := upTo_length hu.out
    by_cases hlt : k < 32
    · have e0 : ((un s).drop 7).getD (2 * k) 0 = s[7 + 2 * k] := by rw [List.getD_eq_getElem?_getD, List.getElem?_drop, un_getElem? s (7 + 2 * k) (by omega)]; rfl
      have e1 : ((un s).drop 7).getD (2 * k + 1) 0 = s[8 + 2 * k] := by rw [List.getD_eq_getElem?_getD, List.getElem?_drop, show 7 + (2 * k + 1) = 8 + 2 * k by omega, un_getElem? s (8 + 2 * k) (by omega)]; rfl
      have hx0 := val_range s[7 + 2 * k]
      have hx1 := val_range s[8 + 2 * k]
      have i0 := fun W => value_r s[7 + 2 * k] W
      have i1 := fun W => value_r s[8 + 2 * k] W
      have HU : Hid (upTo ((un s).drop 7) (k + 1) = if val s[7 + 2 * k] < 0 ∨ val s[8 + 2 * k] < 0 then none else some (d ++ [UInt8.ofNat ((val s[7 + 2 * k]).toNat * 16 + (val s[8 + 2 * k]).toNat)])) := by
        unfold Hid; rw [← e0, ← e1]; show (match upTo ((un s).drop 7) k with | none => _ | some d => _) = _; rw [hu.out]
      clear e0 e1
      generalize val s[7 + 2 * k] = x at *
      generalize val s[8 + 2 * k] = y at *
      have d1 : (0 : Int) ≤ 7 + 2 * (k : Int) := by omega
      have d2 : 7 + 2 * (k : Int) < 71 := by omega
      have d3 : (0 : Int) ≤ 8 + 2 * (k : Int) := by omega
      have d4 : 8 + 2 * (k : Int) < 71 := by omega
      by_cases hbad : x < 0 ∨ y < 0
      · have HN : Hid (parseL (un s) = none) := by
          unfold Hid parseL
          have := upTo_none (n := 32) (show upTo ((un s).drop 7) (k + 1) = none by rw [HU.out, if_pos hbad]) (by omega)
          rw [this]; simp
        clear HU
        by_cases hx : x < 0
        · clear hbad
          go_wp2_with fail
          refine (i0 _).mono ?_
          rintro e w2 ⟨rfl, hw2⟩
          replace hw2 : wr = w2 := hw2.symm
          subst hw2
          go_wp2_with fail
          refine (i1 _).mono ?_
          rintro e w2 ⟨rfl, hw2⟩
          replace hw2 : wr = w2 := hw2.symm
          subst hw2
          go_wp2_with (refine wpList_store_row rfl 25 (.tmp 2) (.tmp 34) rfl w.heap.size (dig32 zeros) rfl rfl 25 (dig32 zeros) hL0 hi rfl (dig32_one _) ?_)
          refine bodyPost_ret (results_c2 rfl _ _ w.heap.size 25 (dig32 zeros) _ rfl (hL0.row _) Tryz.underlying25 rfl hi) rfl ?_
          unfold RPost
          rw [HN.out]
          exact ⟨rfl, below_setRow hB (Nat.le_refl _) _⟩
        · have hy : y < 0 := by omega
          clear hbad
          go_wp2_with fail
          refine (i0 _).mono ?_
          rintro e w2 ⟨rfl, hw2⟩
          replace hw2 : wr = w2 := hw2.symm
          subst hw2
          go_wp2_with fail
          refine (i1 _).mono ?_
          rintro e w2 ⟨rfl, hw2⟩
          replace hw2 : wr = w2 := hw2.symm
          subst hw2
          go_wp2_with (refine wpList_store_row rfl 25 (.tmp 2) (.tmp 34) rfl w.heap.size (dig32 zeros) rfl rfl 25 (dig32 zeros) hL0 hi rfl (dig32_one _) ?_)
          refine bodyPost_ret (results_c2 rfl _ _ w.heap.size 25 (dig32 zeros) _ rfl (hL0.row _) Tryz.underlying25 rfl hi) rfl ?_
          unfold RPost
          rw [HN.out]
          exact ⟨rfl, below_setRow hB (Nat.le_refl _) _⟩
      · obtain ⟨p, rfl⟩ : ∃ p : Nat, x = p := ⟨x.toNat, by omega⟩
        obtain ⟨q, rfl⟩ : ∃ q : Nat, y = q := ⟨y.toNat, by omega⟩
        have HS : Hid (upTo ((un s).drop 7) (k + 1) = some (d ++ [UInt8.ofNat (p * 16 + q)])) := by unfold Hid; rw [HU.out, if_neg hbad]; rfl
        have hp : p < 16 := by omega
        have hq : q < 16 := by omega
        clear HU hbad
        have hc1 : wr.cell? ⟨w.heap.size + 1, k, none⟩ = some (.int .u8 ((filled d k)[k]'(by rw [filled_length d k hdl hk]; exact hlt)).toNat) := hL1.cell (dig32_get _ _ _)
        have hf1 := hL1.frozen k
        have g1 : (0 : Int) ≤ (k : Int) := by omega
        have g2 : (k : Int) < 32 := by omega
        go_wp2_with fail
        refine (i0 _).mono ?_
        rintro e w2 ⟨rfl, hw2⟩
        replace hw2 : wr = w2 := hw2.symm
        subst hw2
        go_wp2_with fail
        refine (i1 _).mono ?_
        rintro e w2 ⟨rfl, hw2⟩
        replace hw2 : wr = w2 := hw2.symm
        subst hw2
        go_wp2_with fail
        have e16 : (16 * (p : Int) + (q : Int)) = ((UInt8.ofNat (p * 16 + q)).toNat : Int) := by rw [UInt8.toNat_ofNat']; omega
        rw [e16]
        refine ⟨⟨k + 1, _, by omega, by go_num, HS, hL0.other _ (by omega), ?_, hB.setCell (p := ⟨w.heap.size + 1, k, none⟩) (by simp) _⟩, by simp [intOf]; omega⟩
        have h := hL1.set (i := k) (.int .u8 (UInt8.ofNat (p * 16 + q)).toNat)
        rw [dig32_set, filled_set d _ k hdl hlt] at h
        exact h
    · obtain rfl : k = 32 := by omega
      have hfd : filled d 32 = d := by simp [filled]
      rw [hfd] at hL1
      have hi2 : (Tryz.prog.info? 25).map (·.size) = some (dig32 d).size := by rw [dig32_size, hdl]; kernel_rfl
      have hzd : (dig32 zeros).size = (dig32 d).size := by rw [zeros_size, dig32_size, hdl]
      go_wp2_with (refine wpList_load_row rfl 25 (.tmp 4) rfl (w.heap.size + 1) rfl 25 (dig32 d) (0, 0) _ hL1 Tryz.underlying25 rfl hi2 ?_)
      refine (text_r d hdl wr).mono ?_
      rintro e w2 ⟨rfl, b2⟩
      have hL02 := hL0.below b2
      have hL12 := hL1.below b2
      have hB2 := below_join hB b2
      by_cases heq : textL d = un s
      · have HN : Hid (parseL (un s) = some d) := parse_yes hu.out heq
        have hss : ((bs (textL d)).toList == s.toList) = true := by rw [heq, bs_un]; simp
        clear heq
        go_wp2_with (first
          | (refine wpList_load_row rfl 25 (.tmp 4) rfl (w.heap.size + 1) rfl 25 (dig32 d) (0, 0) _ hL12 Tryz.underlying25 rfl hi2 ?_)
          | (refine wpList_store_row rfl 25 (.tmp 2) (.tmp 47) rfl w.heap.size (dig32 d) rfl rfl 25 (dig32 zeros) hL02 hi2 hzd (dig32_one _) ?_))
        refine bodyPost_ret (results_c2 rfl _ _ w.heap.size 25 (dig32 d) _ rfl (hL02.row _) Tryz.underlying25 rfl hi2) rfl ?_
        unfold RPost
        rw [HN.out]
        exact ⟨rfl, below_setRow hB2 (Nat.le_refl _) _⟩
      · have HN : Hid (parseL (un s) = none) := parse_not h hu.out heq
        have hss : ((bs (textL d)).toList == s.toList) = false := by
          apply Bool.eq_false_iff.2
          intro h2
          apply heq
          have h3 := beq_iff_eq.1 h2
          rw [toList_un, toList_un, un_bs] at h3
          exact h3
        clear heq
        go_wp2_with (refine wpList_store_row rfl 25 (.tmp 2) (.tmp 46) rfl w.heap.size (dig32 zeros) rfl rfl 25 (dig32 zeros) hL02 hi rfl (dig32_one _) ?_)
        refine bodyPost_ret (results_c2 rfl _ _ w.heap.size 25 (dig32 zeros) _ rfl (hL02.row _) Tryz.underlying25 rfl hi) rfl ?_
        unfold RPost
        rw [HN.out]
        exact ⟨rfl, below_setRow hB2 (Nat.le_refl _) _⟩

theorem parse_r (s : ByteArray) (w : World) : Calls Tryz.prog 33 #[.string s] w (RPost s w) := by
  by_cases h : s.size = 71
  · exact parse_r_full s w h
  · exact parse_r_len s w h
end Go.Proofs.YtodgcmhkojkpcaaGreatDoor
