/- The document's number and text, walked. -/
import Derived.Test.YtgdkgdlgalinbaaGreatDoorNumR
import Derived.Test.YtgdkgdlgalinbaaGreatDoorRefX
namespace Go.Proofs.YtgdkgdlgalinbaaGreatDoor
open Go Go.RowKit

theorem valO_step (l : List UInt8) (k : Nat) (hk : k < l.length) : valO (l.take (k + 1)) = 8 * valO (l.take k) + (l[k].toNat - 48) := by
  rw [List.take_succ_eq_append_getElem hk]
  unfold valO
  rw [List.foldl_append]; rfl
set_option maxRecDepth 100000 in
set_option maxHeartbeats 2000000 in
theorem number_r (s : ByteArray) (hs : s.size ≤ 12) (w : World) : Calls Tryz.prog 51 #[.string s] w fun e w' => e = .returned (.tuple #[.int .i64 (numV (un s)).1, .bool (numV (un s)).2]) ∧ w' = w := by
  have HL : Hid ((un s).length = s.size) := un_length s
  have HG : Hid (∀ k (h : k < s.size), (un s)[k]? = some s[k]) := fun k h => un_getElem? s k h
  have HNN : Hid (∀ k, s.size ≤ k → (un s)[k]? = none) := fun k h => un_none s k h
  have HDG : Hid (∀ k (h : k < s.size), isOct s[k] = false ↔ ¬ (48 ≤ s[k].toNat ∧ s[k].toNat ≤ 55)) := fun k h => by
    unfold isOct
    rw [Bool.and_eq_false_iff, decide_eq_false_iff_not, decide_eq_false_iff_not]
    omega
  go_enter Tryz.func51, Tryz.ntmps51
  go_wp2
  go_loop [4] (fun i => ∃ k : Nat, k ≤ s.size ∧ i = .int .i64 k ∧ Hid (∀ j, j < k → (un s)[j]? = some 32)) (fun i => s.size - (intOf i).toNat)
  case atStart => exact ⟨0, Nat.zero_le _, rfl, fun j hj => absurd hj (by omega)⟩
  case round =>
    obtain ⟨q, hq, rfl, HA⟩ := hrel
    by_cases hmore : ∃ h : q < s.size, s[q].toNat = 32
    · obtain ⟨hlt, hc⟩ := hmore
      have d1 : (q : Int) < (s.size : Int) := by omega
      have d2 : (0 : Int) ≤ (q : Int) := by omega
      go_wp2
      all_goals
        go_round
        case rel =>
          refine ⟨q + 1, by omega, by go_num, fun j hj => ?_⟩
          rcases Nat.lt_or_ge j q with h1 | h1
          · exact HA.out j h1
          · obtain rfl : j = q := by omega
            rw [HG.out j hlt]; congr 1; exact UInt8.toNat_inj.1 hc
        case measure => simp [intOf]; omega
    have H2 : Hid ((un s)[q]? ≠ some 32) := fun e => by
      rcases Nat.lt_or_ge q s.size with h1 | h1
      · rw [HG.out q h1] at e
        exact hmore ⟨h1, by rw [Option.some.inj e]; rfl⟩
      · rw [HNN.out q h1] at e; cases e
    have HX : Hid (∀ T : Prop, (∃ h : q < s.size, s[q].toNat = 32) → T) := fun T h => absurd h hmore
    clear hmore
    rcases Nat.lt_or_ge q s.size with hlt | hlt
    all_goals first
      | (have d1 : (q : Int) < (s.size : Int) := by omega
         have d2 : (0 : Int) ≤ (q : Int) := by omega
         have hc : ¬ s[q].toNat = 32 := fun e => HX.out _ ⟨hlt, e⟩
         have hc' : ((s[q].toNat : Int) == 32) = false := beq_eq_false_iff_ne.2 (by omega)
         go_wp2)
      | (have d1 : ¬ (q : Int) < (s.size : Int) := by omega
         go_wp2)
    all_goals
      go_loop [4, 6] (fun i x => ∃ m : Nat, q ≤ m ∧ m ≤ s.size ∧ i = .int .i64 m ∧ x = .int .i64 (valO (((un s).drop q).take (m - q)) : Int) ∧ Hid (∀ c ∈ ((un s).drop q).take (m - q), isOct c = true)) (fun i _ => s.size - (intOf i).toNat)
      case atStart => exact ⟨q, Nat.le_refl _, hq, rfl, by rw [Nat.sub_self]; rfl, fun c hc => by rw [Nat.sub_self] at hc; cases hc⟩
      case round =>
        obtain ⟨m, hqm, hm, rfl, rfl, HO⟩ := hrel
        have hvl : valO (((un s).drop q).take (m - q)) < 68719476736 := Nat.lt_of_lt_of_le (valO_lt _ (fun c hc => by have := HO.out c hc; unfold isOct at this; rw [Bool.and_eq_true, decide_eq_true_iff, decide_eq_true_iff] at this; exact this.2)) (by rw [List.length_take]; exact Nat.pow_le_pow_right (by decide) (show min (m - q) ((un s).drop q).length ≤ 12 by omega))
        by_cases hdg : ∃ h : m < s.size, 48 ≤ s[m].toNat ∧ s[m].toNat ≤ 55
        · obtain ⟨hms, lo, hi⟩ := hdg
          have hlen : m - q < ((un s).drop q).length := by rw [List.length_drop, HL.out]; omega
          have hel : ((un s).drop q)[m - q] = s[m] := by
            have h1 := List.getElem?_eq_getElem hlen
            rw [List.getElem?_drop, show q + (m - q) = m by omega, HG.out m hms] at h1
            exact (Option.some.inj h1).symm
          have HVS : Hid (valO (((un s).drop q).take (m + 1 - q)) = 8 * valO (((un s).drop q).take (m - q)) + (s[m].toNat - 48)) := by
            unfold Hid; rw [show m + 1 - q = m - q + 1 by omega, valO_step _ _ hlen, hel]
          have HO2 : Hid (∀ c ∈ ((un s).drop q).take (m + 1 - q), isOct c = true) := fun c hc => by
            rw [show m + 1 - q = m - q + 1 by omega, List.take_succ_eq_append_getElem hlen, hel] at hc
            rcases List.mem_append.1 hc with h1 | h1
            · exact HO.out c h1
            · rw [List.mem_singleton.1 h1]; unfold isOct; rw [decide_eq_true lo, decide_eq_true hi]; rfl
          clear hel hlen
          generalize valO (((un s).drop q).take (m - q)) = V at *
          have l1 : (48 : Int) ≤ (s[m].toNat : Int) := by omega
          have l2 : (s[m].toNat : Int) ≤ 55 := by omega
          have e1 : (m : Int) < (s.size : Int) := by omega
          have e2 : (0 : Int) ≤ (m : Int) := by omega
          go_wp2
          all_goals
            go_round
            case rel => exact ⟨m + 1, by omega, by omega, by go_num, by rw [HVS.out]; congr 1; omega, HO2⟩
            case measure => simp [intOf]; omega
        have HND : Hid (∀ h : m < s.size, isOct s[m] = false) := fun h => (HDG.out m h).2 (fun e => hdg ⟨h, e⟩)
        have HNX : Hid (∀ T : Prop, (∃ h : m < s.size, 48 ≤ s[m].toNat ∧ s[m].toNat ≤ 55) → T) := fun T h => absurd h hdg
        clear hdg
        obtain ⟨V, hV⟩ : ∃ V, valO (((un s).drop q).take (m - q)) = V := ⟨_, rfl⟩
        have HV : Hid (valO (((un s).drop q).take (m - q)) = V) := hV
        rw [hV] at hvl ⊢
        clear hV
        by_cases hmq : m = q
        · have HN : Hid (numV (un s) = (0, false)) := num_none (un s) q HA.out (fun c hc => by
            rcases Nat.lt_or_ge q s.size with h1 | h1
            · have hgq := HG.out q h1
              rw [hc] at hgq
              subst hmq
              exact ⟨fun e => H2.out (by rw [hc, e]), by rw [Option.some.inj hgq]; exact HND.out h1⟩
            · rw [HNN.out q h1] at hc; cases hc)
          subst hmq
          rcases Nat.lt_or_ge m s.size with hms | hms
          · have e1 : (m : Int) < (s.size : Int) := by omega
            have e2 : (0 : Int) ≤ (m : Int) := by omega
            by_cases lo : 48 ≤ s[m].toNat
            · have hi : ¬ s[m].toNat ≤ 55 := fun h => HNX.out _ ⟨hms, lo, h⟩
              have l1 : (48 : Int) ≤ (s[m].toNat : Int) := by omega
              have l2 : ¬ (s[m].toNat : Int) ≤ 55 := by omega
              go_wp2
              all_goals (go_ret2; exact ⟨by rw [HN.out]; rfl, rfl⟩)
            · have l1 : ¬ (48 : Int) ≤ (s[m].toNat : Int) := by omega
              go_wp2
              all_goals (go_ret2; exact ⟨by rw [HN.out]; rfl, rfl⟩)
          · have e1 : ¬ (m : Int) < (s.size : Int) := by omega
            go_wp2
            all_goals (go_ret2; exact ⟨by rw [HN.out]; rfl, rfl⟩)
        have hmq' : ((m : Int) == (q : Int)) = false := beq_eq_false_iff_ne.2 (by omega)
        rcases Nat.lt_or_ge m s.size with hms | hms
        · have e1 : (m : Int) < (s.size : Int) := by omega
          have e2 : (0 : Int) ≤ (m : Int) := by omega
          by_cases lo : 48 ≤ s[m].toNat
          all_goals first
            | (have hi : ¬ s[m].toNat ≤ 55 := fun h => HNX.out _ ⟨hms, lo, h⟩
               have l1 : (48 : Int) ≤ (s[m].toNat : Int) := by omega
               have l2 : ¬ (s[m].toNat : Int) ≤ 55 := by omega
               go_wp2)
            | (have l1 : ¬ (48 : Int) ≤ (s[m].toNat : Int) := by omega
               go_wp2)
          all_goals
            go_loop [4] (fun i => ∃ p : Nat, m ≤ p ∧ p ≤ s.size ∧ i = .int .i64 p ∧ Hid (∀ j c, m ≤ j → j < p → (un s)[j]? = some c → c = 0 ∨ c = 32)) (fun i => s.size - (intOf i).toNat)
            case atStart => exact ⟨m, Nat.le_refl _, hm, rfl, fun j c h1 h2 => absurd h1 (by omega)⟩
            case round =>
              obtain ⟨p, hmp, hp, rfl, HR⟩ := hrel
              rcases Nat.lt_or_ge p s.size with hps | hps
              · have e1 : (p : Int) < (s.size : Int) := by omega
                have e2 : (0 : Int) ≤ (p : Int) := by omega
                by_cases z0 : s[p].toNat = 0
                · go_wp2
                  all_goals
                    go_round
                    case rel =>
                      refine ⟨p + 1, by omega, by omega, by go_num, fun j c h1 h2 hc => ?_⟩
                      rcases Nat.lt_or_ge j p with h3 | h3
                      · exact HR.out j c h1 h3 hc
                      · obtain rfl : j = p := by omega
                        rw [HG.out j hps] at hc
                        exact Or.inl (by rw [← Option.some.inj hc]; exact UInt8.toNat_inj.1 z0)
                    case measure => simp [intOf]; omega
                have z0' : ((s[p].toNat : Int) != 0) = true := bne_iff_ne.2 (by omega)
                by_cases z1 : s[p].toNat = 32
                · go_wp2
                  all_goals
                    go_round
                    case rel =>
                      refine ⟨p + 1, by omega, by omega, by go_num, fun j c h1 h2 hc => ?_⟩
                      rcases Nat.lt_or_ge j p with h3 | h3
                      · exact HR.out j c h1 h3 hc
                      · obtain rfl : j = p := by omega
                        rw [HG.out j hps] at hc
                        exact Or.inr (by rw [← Option.some.inj hc]; exact UInt8.toNat_inj.1 z1)
                    case measure => simp [intOf]; omega
                have z1' : ((s[p].toNat : Int) != 32) = true := bne_iff_ne.2 (by omega)
                have HN : Hid (numV (un s) = (0, false)) := num_bad (un s) q m p s[p] s[m] HA.out H2.out hqm hmp (HG.out m hms) (HND.out hms) (HG.out p hps) (fun e => z0 (by rw [e]; rfl)) (fun e => z1 (by rw [e]; rfl))
                go_wp2
                all_goals (go_ret2; exact ⟨by rw [HN.out]; rfl, rfl⟩)
              · obtain rfl : p = s.size := by omega
                have HN : Hid (numV (un s) = (V, true)) := by
                  unfold Hid
                  rw [num_good (un s) q m HA.out (by omega) (by rw [HL.out]; omega) HO.out (fun j c h1 hc => by
                    rcases Nat.lt_or_ge j s.size with h3 | h3
                    · exact HR.out j c h1 h3 hc
                    · rw [HNN.out j h3] at hc; cases hc), HV.out]
                go_wp2
                all_goals (go_ret2; exact ⟨by rw [HN.out]; rfl, rfl⟩)
        · obtain rfl : m = s.size := by omega
          have HN : Hid (numV (un s) = (V, true)) := by
            unfold Hid
            rw [num_good (un s) q s.size HA.out (by omega) (by rw [HL.out]; omega) HO.out (fun j c h1 hc => by rw [HNN.out j h1] at hc; cases hc), HV.out]
          go_wp2
          go_loop [4] (fun i => i = .int .i64 (s.size : Int)) (fun i => 0)
          case atStart => rfl
          case round =>
            subst hrel
            go_wp2
            all_goals (go_ret2; exact ⟨by rw [HN.out]; rfl, rfl⟩)
theorem headN_eq : ∀ (k : Nat) (l : List UInt8), k ≤ l.length → (∀ j, j < k → l[j]? ≠ some 0) → (∀ c, l[k]? = some c → c = 0) → headN l = k
  | 0, [], _, _, _ => rfl
  | 0, c :: l, _, _, h => by
    have hc : (c != 0) = false := by rw [h c rfl]; rfl
    unfold headN
    rw [List.takeWhile_cons, hc]; rfl
  | k + 1, [], hk, _, _ => by simp at hk
  | k + 1, c :: l, hk, h, h2 => by
    have hc : (c != 0) = true := bne_iff_ne.2 (fun e => h 0 (by omega) (by rw [e]; rfl))
    have ih := headN_eq k l (by simpa using hk) (fun j hj => by have := h (j + 1) (by omega); simpa using this) (fun c hc => h2 c (by simpa using hc))
    unfold headN at ih ⊢
    rw [List.takeWhile_cons, hc, if_pos rfl, List.length_cons, ih]
theorem bs_textL (s : ByteArray) (k : Nat) (hk : headN (un s) = k) : bs (textL (un s)) = s.extract 0 k := by
  unfold textL
  rw [hk, ← bs_un (s.extract 0 k), un_extract, List.drop_zero]
set_option maxHeartbeats 1000000 in
theorem text_r (s : ByteArray) (hs : s.size ≤ 9223372036854775806) (w : World) : Calls Tryz.prog 52 #[.string s] w fun e w' => e = .returned (.string (bs (textL (un s)))) ∧ w' = w := by
  have HL : Hid ((un s).length = s.size) := un_length s
  have HG : Hid (∀ k (h : k < s.size), (un s)[k]? = some s[k]) := fun k h => un_getElem? s k h
  have HNN : Hid (∀ k, s.size ≤ k → (un s)[k]? = none) := fun k h => un_none s k h
  go_enter Tryz.func52, Tryz.ntmps52
  go_wp2
  go_loop [3] (fun i => ∃ k : Nat, k ≤ s.size ∧ i = .int .i64 k ∧ Hid (∀ j, j < k → (un s)[j]? ≠ some 0)) (fun i => s.size - (intOf i).toNat)
  case atStart => exact ⟨0, Nat.zero_le _, rfl, fun j hj => absurd hj (by omega)⟩
  case round =>
    obtain ⟨k, hk, rfl, HA⟩ := hrel
    by_cases hlt : k < s.size
    · have d1 : (k : Int) < (s.size : Int) := by omega
      have d2 : (0 : Int) ≤ (k : Int) := by omega
      have d3 : (k : Int) ≤ (s.size : Int) := by omega
      by_cases hc : s[k].toNat = 0
      · have HN : Hid (bs (textL (un s)) = s.extract 0 k) := bs_textL s k (headN_eq k (un s) (by rw [HL.out]; omega) HA.out (fun c e => by rw [HG.out k hlt] at e; rw [← Option.some.inj e]; exact UInt8.toNat_inj.1 hc))
        go_wp2
        go_ret
        exact ⟨by rw [HN.out]; rfl, rfl⟩
      · go_wp2
        all_goals
          go_round
          case rel =>
            refine ⟨k + 1, by omega, by go_num, fun j hj => ?_⟩
            rcases Nat.lt_or_ge j k with h1 | h1
            · exact HA.out j h1
            · obtain rfl : j = k := by omega
              rw [HG.out j hlt]; intro e; exact hc (by rw [Option.some.inj e]; rfl)
          case measure => simp [intOf]; omega
    · obtain rfl : k = s.size := by omega
      have HN : Hid (bs (textL (un s)) = s) := by
        unfold Hid
        rw [bs_textL s s.size (headN_eq s.size (un s) (by rw [HL.out]; omega) HA.out (fun c e => by rw [HNN.out _ (Nat.le_refl _)] at e; cases e))]
        exact ByteArray.extract_zero_size
      go_wp2
      go_ret
      exact ⟨by rw [HN.out]; rfl, rfl⟩
end Go.Proofs.YtgdkgdlgalinbaaGreatDoor
