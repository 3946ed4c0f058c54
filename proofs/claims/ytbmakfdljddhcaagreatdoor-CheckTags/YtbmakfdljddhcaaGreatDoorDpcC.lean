/- The document's piece and tag. -/
import Derived.Test.YtbmakfdljddhcaaGreatDoorDbyC
namespace Go.Proofs.YtbmakfdljddhcaaGreatDoor
open Go Go.RowKit


noncomputable def dpL (l : List UInt8) : Bool := @decide (allP l l.length) (Classical.propDecidable _) && !l.isEmpty

noncomputable def dtL (l : List UInt8) : Bool := @decide (allT l l.length) (Classical.propDecidable _) && !l.isEmpty
theorem dp_false {l : List UInt8} {k : Nat} {b : UInt8} (hb : l[k]? = some b) (ho : okP l.length k b = false) : dpL l = false := by
  unfold dpL
  rw [show @decide _ (Classical.propDecidable _) = false from (@decide_eq_false_iff_not _ (Classical.propDecidable _)).2 (fun h => by have := h k b (List.getElem?_eq_some_iff.1 hb).1 hb; rw [ho] at this; cases this)]; rfl
theorem dt_false {l : List UInt8} {k : Nat} {b : UInt8} (hb : l[k]? = some b) (ho : okT k b = false) : dtL l = false := by
  unfold dtL
  rw [show @decide _ (Classical.propDecidable _) = false from (@decide_eq_false_iff_not _ (Classical.propDecidable _)).2 (fun h => by have := h k b (List.getElem?_eq_some_iff.1 hb).1 hb; rw [ho] at this; cases this)]; rfl
theorem dp_end {s : ByteArray} (h : allP (un s) s.size) : dpL (un s) = !s.toList.isEmpty := by
  unfold dpL; rw [show @decide _ (Classical.propDecidable _) = true from (@decide_eq_true_iff _ (Classical.propDecidable _)).2 (by rw [un_length]; exact h), toList_un]; rfl
theorem dt_end {s : ByteArray} (h : allT (un s) s.size) : dtL (un s) = !s.toList.isEmpty := by
  unfold dtL; rw [show @decide _ (Classical.propDecidable _) = true from (@decide_eq_true_iff _ (Classical.propDecidable _)).2 (by rw [un_length]; exact h), toList_un]; rfl

theorem ne_b8 (n : Nat) (k : Nat) : ((n : Int) != (k : Int)) = !(n == k) := by
  unfold bne
  congr 1
  by_cases h : n = k
  · subst h; simp
  · rw [beq_eq_false_iff_ne.2 h, beq_eq_false_iff_ne]; omega
theorem eq_n8 (n k : Nat) : ((n : Int) == (k : Int)) = (n == k) := by
  by_cases h : n = k
  · subst h; simp
  · rw [beq_eq_false_iff_ne.2 h, beq_eq_false_iff_ne]; omega
theorem eq_n9 (k n : Nat) : ((k : Int) == (n : Int) - 1) = (k + 1 == n) := by
  by_cases h : k + 1 = n
  · rw [beq_iff_eq.2 h, beq_iff_eq]; omega
  · rw [beq_eq_false_iff_ne.2 h, beq_eq_false_iff_ne]; omega
set_option maxRecDepth 100000 in
set_option maxHeartbeats 8000000 in
theorem piece_r (s : ByteArray) (w : World) (hs : s.size ≤ 1099511627776) : Calls Tryz.prog 17 #[.string s] w fun e w' => e = .returned (.bool (dpL (un s))) ∧ w' = w := by
  have hsl := un_length s
  go_enter Tryz.func17, Tryz.ntmps17
  go_wp2
  go_loop [3] (fun i => ∃ k : Nat, k ≤ s.size ∧ i = .int .i64 k ∧ Hid (allP (un s) k)) (fun i => s.size - (intOf i).toNat)
  case atStart => exact ⟨0, Nat.zero_le _, rfl, fun _ _ h => absurd h (Nat.not_lt_zero _)⟩
  case round =>
    obtain ⟨k, hk, rfl, HA⟩ := hrel
    have k0 : (0 : Int) ≤ (k : Int) := by omega
    by_cases hlt : k < s.size
    · have hget := un_getElem? s k hlt
      have k1 : (k : Int) < (s.size : Int) := by omega
      have hp1 := fun W => small_r s[k] W
      have hp2 := fun W => digit_r s[k] W
      have HOK : Hid (okP (un s).length k s[k] = (smB s[k] || dgB s[k] || (!(k == 0 || k + 1 == s.size) && (s[k].toNat == 46 || s[k].toNat == 95 || s[k].toNat == 45)))) := by unfold Hid; rw [hsl]; rfl
      have HG : Hid ((un s)[k]? = some s[k]) := hget
      clear hget
      have n46 : ((s[k].toNat : Int) != 46) = !(s[k].toNat == 46) := ne_b8 _ 46
      have n95 : ((s[k].toNat : Int) != 95) = !(s[k].toNat == 95) := ne_b8 _ 95
      have n45 : ((s[k].toNat : Int) != 45) = !(s[k].toNat == 45) := ne_b8 _ 45
      have e1 : ((k : Int) == 0) = (k == 0) := eq_n8 k 0
      have e2 : ((k : Int) == (s.size : Int) - 1) = (k + 1 == s.size) := eq_n9 k s.size
      generalize (s[k].toNat == 46) = x1 at *
      generalize (s[k].toNat == 95) = x2 at *
      generalize (s[k].toNat == 45) = x3 at *
      generalize (k == 0) = ed at *
      generalize (k + 1 == s.size) = ef at *
      generalize smB s[k] = s1 at *
      generalize dgB s[k] = d1 at *
      cases ed
      · cases ef
        · cases s1
          · cases d1
            · cases x1
              · cases x2
                · cases x3
                  · have HR : Hid (dpL (un s) = false) := dp_false HG.out (by rw [HOK.out]; simp)
                    clear HG HOK
                    go_wp2_with (first | (go_at_call 32; refine (hp1 _).mono ?_; rintro e w1 ⟨rfl, hw⟩; replace hw := hw.symm; subst hw) | (go_at_call 31; refine (hp2 _).mono ?_; rintro e w1 ⟨rfl, hw⟩; replace hw := hw.symm; subst hw))
                    go_ret
                    exact ⟨by rw [HR.out]; rfl, rfl⟩
                  · have HA2 : Hid (allP (un s) (k + 1)) := allP_succ HA.out HG.out (by rw [HOK.out]; simp)
                    clear HG HOK
                    go_wp2_with (first | (go_at_call 32; refine (hp1 _).mono ?_; rintro e w1 ⟨rfl, hw⟩; replace hw := hw.symm; subst hw) | (go_at_call 31; refine (hp2 _).mono ?_; rintro e w1 ⟨rfl, hw⟩; replace hw := hw.symm; subst hw))
                    first
                      | exact ⟨⟨k + 1, by omega, by go_num, HA2⟩, by simp [intOf]; omega⟩
                      | (go_round
                         case rel => exact ⟨k + 1, by omega, by go_num, HA2⟩
                         case measure => simp [intOf]; omega)
                · have HA2 : Hid (allP (un s) (k + 1)) := allP_succ HA.out HG.out (by rw [HOK.out]; simp)
                  clear HG HOK
                  go_wp2_with (first | (go_at_call 32; refine (hp1 _).mono ?_; rintro e w1 ⟨rfl, hw⟩; replace hw := hw.symm; subst hw) | (go_at_call 31; refine (hp2 _).mono ?_; rintro e w1 ⟨rfl, hw⟩; replace hw := hw.symm; subst hw))
                  first
                    | exact ⟨⟨k + 1, by omega, by go_num, HA2⟩, by simp [intOf]; omega⟩
                    | (go_round
                       case rel => exact ⟨k + 1, by omega, by go_num, HA2⟩
                       case measure => simp [intOf]; omega)
              · have HA2 : Hid (allP (un s) (k + 1)) := allP_succ HA.out HG.out (by rw [HOK.out]; simp)
                clear HG HOK
                go_wp2_with (first | (go_at_call 32; refine (hp1 _).mono ?_; rintro e w1 ⟨rfl, hw⟩; replace hw := hw.symm; subst hw) | (go_at_call 31; refine (hp2 _).mono ?_; rintro e w1 ⟨rfl, hw⟩; replace hw := hw.symm; subst hw))
                first
                  | exact ⟨⟨k + 1, by omega, by go_num, HA2⟩, by simp [intOf]; omega⟩
                  | (go_round
                     case rel => exact ⟨k + 1, by omega, by go_num, HA2⟩
                     case measure => simp [intOf]; omega)
            · have HA2 : Hid (allP (un s) (k + 1)) := allP_succ HA.out HG.out (by rw [HOK.out]; simp)
              clear HG HOK
              go_wp2_with (first | (go_at_call 32; refine (hp1 _).mono ?_; rintro e w1 ⟨rfl, hw⟩; replace hw := hw.symm; subst hw) | (go_at_call 31; refine (hp2 _).mono ?_; rintro e w1 ⟨rfl, hw⟩; replace hw := hw.symm; subst hw))
              first
                | exact ⟨⟨k + 1, by omega, by go_num, HA2⟩, by simp [intOf]; omega⟩
                | (go_round
                   case rel => exact ⟨k + 1, by omega, by go_num, HA2⟩
                   case measure => simp [intOf]; omega)
          · have HA2 : Hid (allP (un s) (k + 1)) := allP_succ HA.out HG.out (by rw [HOK.out]; simp)
            clear HG HOK
            go_wp2_with (first | (go_at_call 32; refine (hp1 _).mono ?_; rintro e w1 ⟨rfl, hw⟩; replace hw := hw.symm; subst hw) | (go_at_call 31; refine (hp2 _).mono ?_; rintro e w1 ⟨rfl, hw⟩; replace hw := hw.symm; subst hw))
            first
              | exact ⟨⟨k + 1, by omega, by go_num, HA2⟩, by simp [intOf]; omega⟩
              | (go_round
                 case rel => exact ⟨k + 1, by omega, by go_num, HA2⟩
                 case measure => simp [intOf]; omega)
        · cases s1
          · cases d1
            · have HR : Hid (dpL (un s) = false) := dp_false HG.out (by rw [HOK.out]; simp)
              clear HG HOK
              go_wp2_with (first | (go_at_call 32; refine (hp1 _).mono ?_; rintro e w1 ⟨rfl, hw⟩; replace hw := hw.symm; subst hw) | (go_at_call 31; refine (hp2 _).mono ?_; rintro e w1 ⟨rfl, hw⟩; replace hw := hw.symm; subst hw))
              go_ret
              exact ⟨by rw [HR.out]; rfl, rfl⟩
            · have HA2 : Hid (allP (un s) (k + 1)) := allP_succ HA.out HG.out (by rw [HOK.out]; simp)
              clear HG HOK
              go_wp2_with (first | (go_at_call 32; refine (hp1 _).mono ?_; rintro e w1 ⟨rfl, hw⟩; replace hw := hw.symm; subst hw) | (go_at_call 31; refine (hp2 _).mono ?_; rintro e w1 ⟨rfl, hw⟩; replace hw := hw.symm; subst hw))
              first
                | exact ⟨⟨k + 1, by omega, by go_num, HA2⟩, by simp [intOf]; omega⟩
                | (go_round
                   case rel => exact ⟨k + 1, by omega, by go_num, HA2⟩
                   case measure => simp [intOf]; omega)
          · have HA2 : Hid (allP (un s) (k + 1)) := allP_succ HA.out HG.out (by rw [HOK.out]; simp)
            clear HG HOK
            go_wp2_with (first | (go_at_call 32; refine (hp1 _).mono ?_; rintro e w1 ⟨rfl, hw⟩; replace hw := hw.symm; subst hw) | (go_at_call 31; refine (hp2 _).mono ?_; rintro e w1 ⟨rfl, hw⟩; replace hw := hw.symm; subst hw))
            first
              | exact ⟨⟨k + 1, by omega, by go_num, HA2⟩, by simp [intOf]; omega⟩
              | (go_round
                 case rel => exact ⟨k + 1, by omega, by go_num, HA2⟩
                 case measure => simp [intOf]; omega)
      · cases s1
        · cases d1
          · have HR : Hid (dpL (un s) = false) := dp_false HG.out (by rw [HOK.out]; simp)
            clear HG HOK
            go_wp2_with (first | (go_at_call 32; refine (hp1 _).mono ?_; rintro e w1 ⟨rfl, hw⟩; replace hw := hw.symm; subst hw) | (go_at_call 31; refine (hp2 _).mono ?_; rintro e w1 ⟨rfl, hw⟩; replace hw := hw.symm; subst hw))
            go_ret
            exact ⟨by rw [HR.out]; rfl, rfl⟩
          · have HA2 : Hid (allP (un s) (k + 1)) := allP_succ HA.out HG.out (by rw [HOK.out]; simp)
            clear HG HOK
            go_wp2_with (first | (go_at_call 32; refine (hp1 _).mono ?_; rintro e w1 ⟨rfl, hw⟩; replace hw := hw.symm; subst hw) | (go_at_call 31; refine (hp2 _).mono ?_; rintro e w1 ⟨rfl, hw⟩; replace hw := hw.symm; subst hw))
            first
              | exact ⟨⟨k + 1, by omega, by go_num, HA2⟩, by simp [intOf]; omega⟩
              | (go_round
                 case rel => exact ⟨k + 1, by omega, by go_num, HA2⟩
                 case measure => simp [intOf]; omega)
        · have HA2 : Hid (allP (un s) (k + 1)) := allP_succ HA.out HG.out (by rw [HOK.out]; simp)
          clear HG HOK
          go_wp2_with (first | (go_at_call 32; refine (hp1 _).mono ?_; rintro e w1 ⟨rfl, hw⟩; replace hw := hw.symm; subst hw) | (go_at_call 31; refine (hp2 _).mono ?_; rintro e w1 ⟨rfl, hw⟩; replace hw := hw.symm; subst hw))
          first
            | exact ⟨⟨k + 1, by omega, by go_num, HA2⟩, by simp [intOf]; omega⟩
            | (go_round
               case rel => exact ⟨k + 1, by omega, by go_num, HA2⟩
               case measure => simp [intOf]; omega)
    · obtain rfl : k = s.size := by omega
      have HE : Hid (dpL (un s) = !s.toList.isEmpty) := dp_end HA.out
      cases hem : s.toList.isEmpty
      all_goals
        rw [hem] at HE
        go_wp2
        go_ret
        exact ⟨by rw [HE.out]; rfl, rfl⟩

set_option maxRecDepth 100000 in
set_option maxHeartbeats 8000000 in
theorem tag_r (s : ByteArray) (w : World) (hs : s.size ≤ 1099511627776) : Calls Tryz.prog 16 #[.string s] w fun e w' => e = .returned (.bool (dtL (un s))) ∧ w' = w := by
  have hsl := un_length s
  go_enter Tryz.func16, Tryz.ntmps16
  go_wp2
  go_loop [3] (fun i => ∃ k : Nat, k ≤ s.size ∧ i = .int .i64 k ∧ Hid (allT (un s) k)) (fun i => s.size - (intOf i).toNat)
  case atStart => exact ⟨0, Nat.zero_le _, rfl, fun _ _ h => absurd h (Nat.not_lt_zero _)⟩
  case round =>
    obtain ⟨k, hk, rfl, HA⟩ := hrel
    have k0 : (0 : Int) ≤ (k : Int) := by omega
    by_cases hlt : k < s.size
    · have hget := un_getElem? s k hlt
      have k1 : (k : Int) < (s.size : Int) := by omega
      have hp1 := fun W => letter_r s[k] W
      have hp2 := fun W => digit_r s[k] W
      have HOK : Hid (okT k s[k] = (smB s[k] || upB s[k] || dgB s[k] || s[k].toNat == 95 || (!(k == 0) && (s[k].toNat == 46 || s[k].toNat == 45)))) := rfl
      have HG : Hid ((un s)[k]? = some s[k]) := hget
      clear hget
      have n46 : ((s[k].toNat : Int) != 46) = !(s[k].toNat == 46) := ne_b8 _ 46
      have n95 : ((s[k].toNat : Int) != 95) = !(s[k].toNat == 95) := ne_b8 _ 95
      have n45 : ((s[k].toNat : Int) != 45) = !(s[k].toNat == 45) := ne_b8 _ 45
      have e1 : ((k : Int) == 0) = (k == 0) := eq_n8 k 0
      generalize (s[k].toNat == 46) = x1 at *
      generalize (s[k].toNat == 95) = x2 at *
      generalize (s[k].toNat == 45) = x3 at *
      generalize (k == 0) = ed at *
      generalize (smB s[k] || upB s[k]) = lt at *
      generalize dgB s[k] = d1 at *
      cases lt
      · cases d1
        · cases x2
          · cases ed
            · cases x1
              · cases x3
                · have HR : Hid (dtL (un s) = false) := dt_false HG.out (by rw [HOK.out]; simp)
                  clear HG HOK
                  go_wp2_with (first | (go_at_call 30; refine (hp1 _).mono ?_; rintro e w1 ⟨rfl, hw⟩; replace hw := hw.symm; subst hw) | (go_at_call 31; refine (hp2 _).mono ?_; rintro e w1 ⟨rfl, hw⟩; replace hw := hw.symm; subst hw))
                  go_ret
                  exact ⟨by rw [HR.out]; rfl, rfl⟩
                · have HA2 : Hid (allT (un s) (k + 1)) := allT_succ HA.out HG.out (by rw [HOK.out]; simp)
                  clear HG HOK
                  go_wp2_with (first | (go_at_call 30; refine (hp1 _).mono ?_; rintro e w1 ⟨rfl, hw⟩; replace hw := hw.symm; subst hw) | (go_at_call 31; refine (hp2 _).mono ?_; rintro e w1 ⟨rfl, hw⟩; replace hw := hw.symm; subst hw))
                  first
                    | exact ⟨⟨k + 1, by omega, by go_num, HA2⟩, by simp [intOf]; omega⟩
                    | (go_round
                       case rel => exact ⟨k + 1, by omega, by go_num, HA2⟩
                       case measure => simp [intOf]; omega)
              · have HA2 : Hid (allT (un s) (k + 1)) := allT_succ HA.out HG.out (by rw [HOK.out]; simp)
                clear HG HOK
                go_wp2_with (first | (go_at_call 30; refine (hp1 _).mono ?_; rintro e w1 ⟨rfl, hw⟩; replace hw := hw.symm; subst hw) | (go_at_call 31; refine (hp2 _).mono ?_; rintro e w1 ⟨rfl, hw⟩; replace hw := hw.symm; subst hw))
                first
                  | exact ⟨⟨k + 1, by omega, by go_num, HA2⟩, by simp [intOf]; omega⟩
                  | (go_round
                     case rel => exact ⟨k + 1, by omega, by go_num, HA2⟩
                     case measure => simp [intOf]; omega)
            · have HR : Hid (dtL (un s) = false) := dt_false HG.out (by rw [HOK.out]; simp)
              clear HG HOK
              go_wp2_with (first | (go_at_call 30; refine (hp1 _).mono ?_; rintro e w1 ⟨rfl, hw⟩; replace hw := hw.symm; subst hw) | (go_at_call 31; refine (hp2 _).mono ?_; rintro e w1 ⟨rfl, hw⟩; replace hw := hw.symm; subst hw))
              go_ret
              exact ⟨by rw [HR.out]; rfl, rfl⟩
          · have HA2 : Hid (allT (un s) (k + 1)) := allT_succ HA.out HG.out (by rw [HOK.out]; simp)
            clear HG HOK
            go_wp2_with (first | (go_at_call 30; refine (hp1 _).mono ?_; rintro e w1 ⟨rfl, hw⟩; replace hw := hw.symm; subst hw) | (go_at_call 31; refine (hp2 _).mono ?_; rintro e w1 ⟨rfl, hw⟩; replace hw := hw.symm; subst hw))
            first
              | exact ⟨⟨k + 1, by omega, by go_num, HA2⟩, by simp [intOf]; omega⟩
              | (go_round
                 case rel => exact ⟨k + 1, by omega, by go_num, HA2⟩
                 case measure => simp [intOf]; omega)
        · have HA2 : Hid (allT (un s) (k + 1)) := allT_succ HA.out HG.out (by rw [HOK.out]; simp)
          clear HG HOK
          go_wp2_with (first | (go_at_call 30; refine (hp1 _).mono ?_; rintro e w1 ⟨rfl, hw⟩; replace hw := hw.symm; subst hw) | (go_at_call 31; refine (hp2 _).mono ?_; rintro e w1 ⟨rfl, hw⟩; replace hw := hw.symm; subst hw))
          first
            | exact ⟨⟨k + 1, by omega, by go_num, HA2⟩, by simp [intOf]; omega⟩
            | (go_round
               case rel => exact ⟨k + 1, by omega, by go_num, HA2⟩
               case measure => simp [intOf]; omega)
      · have HA2 : Hid (allT (un s) (k + 1)) := allT_succ HA.out HG.out (by rw [HOK.out]; simp)
        clear HG HOK
        go_wp2_with (first | (go_at_call 30; refine (hp1 _).mono ?_; rintro e w1 ⟨rfl, hw⟩; replace hw := hw.symm; subst hw) | (go_at_call 31; refine (hp2 _).mono ?_; rintro e w1 ⟨rfl, hw⟩; replace hw := hw.symm; subst hw))
        first
          | exact ⟨⟨k + 1, by omega, by go_num, HA2⟩, by simp [intOf]; omega⟩
          | (go_round
             case rel => exact ⟨k + 1, by omega, by go_num, HA2⟩
             case measure => simp [intOf]; omega)
    · obtain rfl : k = s.size := by omega
      have HE : Hid (dtL (un s) = !s.toList.isEmpty) := dt_end HA.out
      cases hem : s.toList.isEmpty
      all_goals
        rw [hem] at HE
        go_wp2
        go_ret
        exact ⟨by rw [HE.out]; rfl, rfl⟩
end Go.Proofs.YtbmakfdljddhcaaGreatDoor
