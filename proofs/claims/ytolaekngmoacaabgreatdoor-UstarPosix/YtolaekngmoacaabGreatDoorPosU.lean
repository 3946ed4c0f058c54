/- The functions by which UstarPosix looks at a header: octal, texted, pathed; Pick. -/
import Derived.Test.YtolaekngmoacaabGreatDoorBackN
namespace Go.Proofs.YtolaekngmoacaabGreatDoor
open Go Go.RowKit

theorem un_get (s : ByteArray) (k : Nat) (h : k < s.size) : ∃ h2 : k < (un s).length, (un s)[k] = s[k] := by
  have h2 : k < (un s).length := by rw [un_length]; exact h
  refine ⟨h2, ?_⟩
  have := un_getElem? s k h
  rw [List.getElem?_eq_getElem h2] at this
  exact Option.some.inj this
/-- A byte of a text as a number. -/
abbrev s8 (s : ByteArray) (k : Nat) (h : k < s.size) : Nat := s[k].toNat
set_option maxHeartbeats 1000000 in
/-- A text with bytes 0 behind it is told as that. -/
theorem texted_t (s x : ByteArray) (h : un s = fill s.size (un x)) (hx : x.size ≤ s.size) (hs : s.size ≤ 1000) (w : World) : Calls Tryz.prog 13 #[.string s, .string x] w fun e w' => e = .returned (.bool true) ∧ w' = w := by
  have hx' : ¬ (s.size : Int) < (x.size : Int) := by omega
  have he : s.extract 0 x.size = x := by
    apply un_inj
    rw [un_extract, List.drop_zero, h, fill, ← un_length x, List.take_left]
  have heq : ((s.extract 0 x.size).toList == x.toList) = true := by rw [he]; simp
  have hz : ∀ k (hk : k < s.size), x.size ≤ k → s[k].toNat = 0 := fun k hk hxk => by
    obtain ⟨h2, e⟩ := un_get s k hk
    have h3 : (un s)[k]? = some 0 := by
      rw [h, fill, List.getElem?_append_right (by rw [un_length]; exact hxk), List.getElem?_replicate, un_length, if_pos (by omega)]
    rw [List.getElem?_eq_getElem h2] at h3
    exact congrArg UInt8.toNat (e.symm.trans (Option.some.inj h3))
  have HZ : Hid _ := hz
  have g1 : (0 : Int) ≤ (x.size : Int) := by omega
  have g2 : (x.size : Int) ≤ (s.size : Int) := by omega
  clear hz h he
  go_enter Tryz.func13, Tryz.ntmps13
  go_wp2
  go_loop [5] (fun i => ∃ k : Nat, k ≤ s.size ∧ x.size ≤ k ∧ i = .int .i64 k) (fun i => s.size - (intOf i).toNat)
  case atStart => exact ⟨x.size, hx, Nat.le_refl _, rfl⟩
  case round =>
    obtain ⟨k, hk, hxk, rfl⟩ := hrel
    by_cases hlt : k < s.size
    · have h0 := HZ.out k hlt hxk
      go_wp2
      all_goals
        go_round
        case rel => exact ⟨k + 1, by omega, by omega, by go_num⟩
        case measure => simp [intOf]; omega
    · obtain rfl : k = s.size := by omega
      go_wp2
      go_ret
      exact ⟨rfl, rfl⟩
theorem valO_take_succ (l : List UInt8) (k : Nat) (h : k < l.length) : valO (l.take (k + 1)) = 8 * valO (l.take k) + (l[k].toNat - 48) := by
  rw [List.take_add_one, List.getElem?_eq_getElem h]
  exact valO_snoc _ _
set_option maxRecDepth 100000 in
set_option maxHeartbeats 1000000 in
/-- Octal digits and a byte 0 are told as their number. -/
theorem octal_t (s : ByteArray) (u k : Nat) (h : un s = octD u k ++ [0]) (hu : u < 8 ^ k) (hk : k ≤ 12) (w : World) : Calls Tryz.prog 12 #[.string s, .int .i64 u] w fun e w' => e = .returned (.bool true) ∧ w' = w := by
  have hl := octD_length k u
  have hs : s.size = k + 1 := by rw [← un_length, h, List.length_append, hl]; rfl
  have hd : ∀ j (hj : j < s.size), j < k → ∃ h3 : j < (octD u k).length, (octD u k)[j] = s[j] := fun j hj hjk => by
    obtain ⟨h2, e⟩ := un_get s j hj
    have h3 : j < (octD u k).length := by omega
    refine ⟨h3, ?_⟩
    have h4 : (un s)[j]? = some (octD u k)[j] := by rw [h, List.getElem?_append_left h3, List.getElem?_eq_getElem h3]
    rw [List.getElem?_eq_getElem h2] at h4
    exact (Option.some.inj h4).symm.trans e
  have hlast : ∀ (hj : k < s.size), s[k].toNat = 0 := fun hj => by
    obtain ⟨h2, e⟩ := un_get s k hj
    have h4 : (un s)[k]? = some 0 := by rw [h, List.getElem?_append_right (by omega), hl, Nat.sub_self]; rfl
    rw [List.getElem?_eq_getElem h2] at h4
    exact congrArg UInt8.toNat (e.symm.trans (Option.some.inj h4))
  have hval := valO_octD k u hu
  have hdig := octD_digit k u
  have HD : Hid _ := hd
  have HLA : Hid (∀ (hj : k < s.size), s[k].toNat = 0) := hlast
  have HV : Hid (valO (octD u k) = u) := hval
  have HG : Hid (∀ c ∈ octD u k, 48 ≤ c.toNat ∧ c.toNat ≤ 55) := hdig
  have HU : Hid (u < 8 ^ k) := hu
  clear hd hlast hval hdig h hu
  go_enter Tryz.func12, Tryz.ntmps12
  go_wp2
  go_loop [5, 6] (fun v i => ∃ j : Nat, j ≤ k ∧ i = .int .i64 j ∧ v = .int .i64 (valO ((octD u k).take j))) (fun _ i => k - (intOf i).toNat)
  case atStart => exact ⟨0, by omega, rfl, rfl⟩
  case round =>
    obtain ⟨j, hj, rfl, rfl⟩ := hrel
    by_cases hlt : j < k
    · have hjs : j < s.size := by omega
      obtain ⟨h3, e3⟩ := HD.out j hjs hlt
      have hdg := HG.out _ (List.getElem_mem h3)
      have HVS : Hid (valO ((octD u k).take (j + 1)) = 8 * valO ((octD u k).take j) + (s[j].toNat - 48)) := by unfold Hid; rw [valO_take_succ _ _ h3, e3]
      have hvl := valO_lt ((octD u k).take j) (fun c hc => (HG.out c (List.mem_of_mem_take hc)).2)
      have hv12 : valO ((octD u k).take j) < 68719476736 := Nat.lt_of_lt_of_le hvl (by rw [List.length_take]; exact Nat.pow_le_pow_right (by decide) (show min j (octD u k).length ≤ 12 by omega))
      rw [e3] at hdg
      obtain ⟨lo, hi⟩ := hdg
      generalize valO ((octD u k).take j) = V at *
      clear hvl e3
      have l1 : ¬ (s[j].toNat : Int) < 48 := by omega
      have l2 : ¬ (55 : Int) < (s[j].toNat : Int) := by omega
      have j1 : (j : Int) + 1 < (s.size : Int) := by omega
      go_wp2
      all_goals
        go_round
        case rel => exact ⟨j + 1, by omega, by go_num, by rw [HVS.out]; congr 1; omega⟩
        case measure => simp [intOf]; omega
    · obtain rfl : j = k := by omega
      have hjs : j < s.size := by omega
      have hla := HLA.out hjs
      have HTT : Hid ((octD u j).take j = octD u j) := List.take_of_length_le (by omega)
      rw [HTT.out, HV.out]
      have j1 : ¬ (j : Int) + 1 < (s.size : Int) := by omega
      have hsz2 : (s.size : Int) - 1 = (j : Int) := by omega
      have g1 : (0 : Int) ≤ (j : Int) := by omega
      have g2 : (j : Int) < (s.size : Int) := by omega
      go_wp2
      go_ret
      exact ⟨rfl, rfl⟩

theorem fill_empty (n : Nat) : fill n [] = List.replicate n 0 := by unfold fill; simp
set_option maxRecDepth 100000 in
set_option maxHeartbeats 2000000 in
/-- Name and prefix say the path, with the shortest prefix. -/
theorem pathed_t (nm pf p : ByteArray) (hp : (splitP p).2.2 = 0) (hz : noZ p = true) (hnm : un nm = fill 100 (un (splitP p).2.1)) (hpf : un pf = fill 155 (un (splitP p).1)) (w : World) : Calls Tryz.prog 11 #[.string nm, .string pf, .string p] w fun e w' => e = .returned (.bool true) ∧ w' = w := by
  obtain ⟨s1, s2, hj, hsm⟩ := splitP_sizes p hp
  have hns : nm.size = 100 := by rw [← un_length, hnm, fill_length _ _ (by rw [un_length]; exact s2)]
  have hps : pf.size = 155 := by rw [← un_length, hpf, fill_length _ _ (by rw [un_length]; exact s1)]
  by_cases hle : p.size ≤ 100
  · have e0 := hsm hle
    rw [e0] at hnm hpf
    have t1 := fun W => texted_t nm p (by rw [hns]; exact hnm) (by omega) (by omega) W
    have t2 := fun W => texted_t pf ⟨#[]⟩ (by rw [hps]; exact hpf) (Nat.zero_le _) (by omega) W
    have hle' : (p.size : Int) ≤ 100 := by omega
    clear hnm hpf hj s1 s2 e0 hsm hp hz
    go_enter Tryz.func11, Tryz.ntmps11
    go_wp2_with fail
    refine (t1 _).mono ?_
    rintro e w1 ⟨rfl, rfl⟩
    go_wp2_with fail
    refine (t2 _).mono ?_
    rintro e w1 ⟨rfl, rfl⟩
    go_wp2
    go_ret
    exact ⟨rfl, rfl⟩
  have hle' : ¬ (p.size : Int) ≤ 100 := by omega
  obtain ⟨i, hg, hnj, e1, e2, hi1, hi155⟩ : ∃ i, good p i ∧ (∀ j, j < i → ¬ good p j) ∧ (splitP p).1 = p.extract 0 i ∧ (splitP p).2.1 = p.extract (i + 1) p.size ∧ 1 ≤ i ∧ i ≤ 155 := by
    rcases split_cases p (by omega) with ⟨e, _⟩ | ⟨i, hg, hnj, e⟩
    · rw [e] at hp; exact absurd hp (by decide)
    · by_cases c : i < 1 ∨ 155 < i
      · rw [if_pos c] at e; rw [e] at hp; exact absurd hp (by decide)
      · rw [if_neg c] at e
        exact ⟨i, hg, hnj, by rw [e], by rw [e], by omega, by omega⟩
  obtain ⟨hg1, hg2, hg3⟩ := hg
  rw [e1] at hpf s1
  rw [e2] at hnm s2
  have z1 : (p.extract 0 i).size = i := by rw [size_extract' _ _ _ (by omega)]; omega
  have z2 : (p.extract (i + 1) p.size).size = p.size - (i + 1) := size_extract' _ _ _ (Nat.le_refl _)
  have t1 := fun W => texted_t pf (p.extract 0 i) (by rw [hps]; exact hpf) (by omega) (by omega) W
  have t2 := fun W => texted_t nm (p.extract (i + 1) p.size) (by rw [hns]; exact hnm) (by omega) (by omega) W
  have hnz := noZ_mem p hz
  have hpre : ∀ k (hk : k < pf.size), k < i → s8 pf k hk ≠ 0 := fun k hk hki => by
    obtain ⟨h2, e⟩ := un_get pf k hk
    have h3 : k < (un p).length := by rw [un_length]; omega
    have h4 : (un pf)[k]? = some (un p)[k] := by
      rw [hpf, fill, List.getElem?_append_left (by rw [un_length, z1]; exact hki), un_extract, List.drop_zero, List.getElem?_take_of_lt hki, List.getElem?_eq_getElem h3]
    rw [List.getElem?_eq_getElem h2] at h4
    intro hc
    refine hnz _ (List.getElem_mem h3) ?_
    rw [← Option.some.inj h4]
    exact UInt8.toNat_inj.1 ((congrArg UInt8.toNat e).trans hc)
  have hend : ∀ (hk : i < pf.size), s8 pf i hk = 0 := fun hk => by
    obtain ⟨h2, e⟩ := un_get pf i hk
    have h4 : (un pf)[i]? = some 0 := by
      rw [hpf, fill, List.getElem?_append_right (by rw [un_length, z1]; exact Nat.le_refl _), List.getElem?_replicate, un_length, z1, if_pos (by omega)]
    rw [List.getElem?_eq_getElem h2] at h4
    exact congrArg UInt8.toNat (e.symm.trans (Option.some.inj h4))
  have hsl : ∀ (hk : i < p.size), s8 p i hk = 47 := fun hk => by
    obtain ⟨h2, e⟩ := un_get p i hk
    rw [List.getElem?_eq_getElem h2] at hg1
    exact congrArg UInt8.toNat (e.symm.trans (Option.some.inj hg1))
  have hno : ∀ k (hk : k < p.size), 1 ≤ k → k < i → s8 p k hk = 47 → 101 < p.size - k := fun k hk h1 hki hc => by
    rcases Nat.lt_or_ge 101 (p.size - k) with h | h
    · exact h
    · exfalso
      obtain ⟨h2, e⟩ := un_get p k hk
      exact hnj k hki ⟨by rw [List.getElem?_eq_getElem h2, e]; congr 1; exact UInt8.toNat_inj.1 hc, by omega, by omega⟩
  have HPRE : Hid (∀ k (hk : k < pf.size), k < i → s8 pf k hk ≠ 0) := hpre
  have HEND : Hid (∀ (hk : i < pf.size), s8 pf i hk = 0) := hend
  have HSL : Hid (∀ (hk : i < p.size), s8 p i hk = 47) := hsl
  have HNO : Hid (∀ k (hk : k < p.size), 1 ≤ k → k < i → s8 p k hk = 47 → 101 < p.size - k) := hno
  clear hpre hend hsl hno hnj hnz hpf hnm hj hsm hp hz s1 s2 e1 e2 hg1 z1 z2
  go_enter Tryz.func11, Tryz.ntmps11
  go_wp2
  go_loop [7] (fun v => ∃ k : Nat, k ≤ i ∧ v = .int .i64 k) (fun v => i - (intOf v).toNat)
  case atStart => exact ⟨0, by omega, rfl⟩
  case round =>
    obtain ⟨k, hk, rfl⟩ := hrel
    by_cases hlt : k < i
    · have hkp : k < pf.size := by omega
      have hne : ¬ pf[k].toNat = 0 := HPRE.out k hkp hlt
      have hkp' : (k : Int) < (pf.size : Int) := by omega
      go_wp2
      all_goals
        go_round
        case rel => exact ⟨k + 1, by omega, by go_num⟩
        case measure => simp [intOf]; omega
    · obtain rfl : k = i := by omega
      have hip : k < p.size := by omega
      have hsl : p[k].toNat = 47 := HSL.out hip
      have q1 : ((k : Int) == 0) = false := beq_eq_false_iff_ne.2 (by omega)
      have q2 : ¬ (p.size : Int) ≤ (k : Int) + 1 := by omega
      have q3 : (0 : Int) ≤ (k : Int) := by omega
      have q4 : (k : Int) < (p.size : Int) := by omega
      have q5 : (k : Int) ≤ (p.size : Int) := by omega
      have q6 : (0 : Int) ≤ (k : Int) + 1 := by omega
      have q7 : (k : Int) + 1 ≤ (p.size : Int) := by omega
      by_cases hk155 : k < pf.size
      · have hend : pf[k].toNat = 0 := HEND.out hk155
        have hkp' : (k : Int) < (pf.size : Int) := by omega
        go_wp2_with (first
          | (go_at_call 13; with_reducible refine (t1 _).mono ?_; rintro e w1 ⟨rfl, rfl⟩)
          | (go_at_call 13; with_reducible refine (t2 _).mono ?_; rintro e w1 ⟨rfl, rfl⟩))
        go_loop [8] (fun v => ∃ j : Nat, 1 ≤ j ∧ j ≤ k ∧ v = .int .i64 j) (fun v => k - (intOf v).toNat)
        case atStart => exact ⟨1, by omega, hi1, rfl⟩
        case round =>
          obtain ⟨j, hj1, hjk, rfl⟩ := hrel
          by_cases hlt2 : j < k
          · have hjp : j < p.size := by omega
            have g1 : (0 : Int) ≤ (j : Int) := by omega
            have g2 : (j : Int) < (p.size : Int) := by omega
            by_cases hc : p[j].toNat = 47
            · have hbig := HNO.out j hjp hj1 hlt2 hc
              have g3 : ¬ (p.size : Int) - (j : Int) - 1 ≤ 100 := by omega
              go_wp2
              all_goals
                go_round
                case rel => exact ⟨j + 1, by omega, by omega, by go_num⟩
                case measure => simp [intOf]; omega
            · go_wp2
              all_goals
                go_round
                case rel => exact ⟨j + 1, by omega, by omega, by go_num⟩
                case measure => simp [intOf]; omega
          · obtain rfl : j = k := by omega
            go_wp2
            go_ret
            exact ⟨rfl, rfl⟩
      · have hkp' : ¬ (k : Int) < (pf.size : Int) := by omega
        go_wp2_with (first
          | (go_at_call 13; with_reducible refine (t1 _).mono ?_; rintro e w1 ⟨rfl, rfl⟩)
          | (go_at_call 13; with_reducible refine (t2 _).mono ?_; rintro e w1 ⟨rfl, rfl⟩))
        go_loop [8] (fun v => ∃ j : Nat, 1 ≤ j ∧ j ≤ k ∧ v = .int .i64 j) (fun v => k - (intOf v).toNat)
        case atStart => exact ⟨1, by omega, hi1, rfl⟩
        case round =>
          obtain ⟨j, hj1, hjk, rfl⟩ := hrel
          by_cases hlt2 : j < k
          · have hjp : j < p.size := by omega
            have g1 : (0 : Int) ≤ (j : Int) := by omega
            have g2 : (j : Int) < (p.size : Int) := by omega
            by_cases hc : p[j].toNat = 47
            · have hbig := HNO.out j hjp hj1 hlt2 hc
              have g3 : ¬ (p.size : Int) - (j : Int) - 1 ≤ 100 := by omega
              go_wp2
              all_goals
                go_round
                case rel => exact ⟨j + 1, by omega, by omega, by go_num⟩
                case measure => simp [intOf]; omega
            · go_wp2
              all_goals
                go_round
                case rel => exact ⟨j + 1, by omega, by omega, by go_num⟩
                case measure => simp [intOf]; omega
          · obtain rfl : j = k := by omega
            go_wp2
            go_ret
            exact ⟨rfl, rfl⟩
end Go.Proofs.YtolaekngmoacaabGreatDoor
