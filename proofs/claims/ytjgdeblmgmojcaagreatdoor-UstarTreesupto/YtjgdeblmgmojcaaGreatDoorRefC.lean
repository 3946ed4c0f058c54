/- The document's answer for names, and for what lies below a path. -/
import Derived.Test.YtjgdeblmgmojcaaGreatDoorPathM
import Derived.Test.YtjgdeblmgmojcaaGreatDoorSplitM
namespace Go.Proofs.YtjgdeblmgmojcaaGreatDoor
open Go.RowKit

theorem begins_r (s h : ByteArray) (w : World) : Calls Tryz.prog 31 #[.string s, .string h] w fun e w' => e = .returned (.bool (Lib.hasPrefix (un s) (un h))) ∧ w' = w := by
  by_cases c : h.size ≤ s.size
  · have c' : (h.size : Int) ≤ (s.size : Int) := by omega
    have e1 : Lib.hasPrefix (un s) (un h) = ((s.extract 0 h.size).toList == h.toList) := by
      rw [hasPrefix_take, toList_un, toList_un, un_extract, un_length, un_length]; simp [c]
    have E : Hid _ := e1
    clear e1
    go_enter Tryz.func31, Tryz.ntmps31
    go_wp2
    go_ret
    exact ⟨by rw [E.out]; rfl, rfl⟩
  · have c' : ¬ (h.size : Int) ≤ (s.size : Int) := by omega
    have e1 : Lib.hasPrefix (un s) (un h) = false := by
      rw [hasPrefix_take, un_length, un_length]; simp; omega
    have E : Hid _ := e1
    clear e1
    go_enter Tryz.func31, Tryz.ntmps31
    go_wp2
    go_ret
    exact ⟨by rw [E.out]; rfl, rfl⟩

theorem nameN_first {s : ByteArray} (h : s.toList.isEmpty = true ∨ 96 < s.size ∨ (s.toList == [46]) = true ∨ (s.toList == [46, 46]) = true ∨ Lib.hasPrefix (un s) [46, 119, 104, 46] = true) : nameN s = 8 := by
  unfold nameN
  repeat' split
  all_goals first | rfl | (exfalso; simp_all)
theorem nameN_any {s : ByteArray} (h : Lib.containsAny (un s) [0, 47] = true) : nameN s = 8 := by
  unfold nameN
  repeat' split
  all_goals first | rfl | (exfalso; simp_all)
theorem nameN_ok {s : ByteArray} (h1 : s.toList.isEmpty = false) (h2 : ¬ 96 < s.size) (h3 : (s.toList == [46]) = false) (h4 : (s.toList == [46, 46]) = false) (h5 : Lib.hasPrefix (un s) [46, 119, 104, 46] = false) (h6 : Lib.containsAny (un s) [0, 47] = false) : nameN s = 0 := by
  unfold nameN
  simp only [h1, h2, h3, h4, h5, h6]; rfl

set_option maxHeartbeats 2000000 in
theorem name_r (s : ByteArray) (w : World) (hs : s.size ≤ 9223372036854775806) : Calls Tryz.prog 13 #[.string s] w fun e w' => e = .returned (.int .i64 (nameN s)) ∧ w' = w := by
  cases h1 : s.toList.isEmpty
  rotate_left
  · have E : Hid _ := nameN_first (.inl h1)
    go_enter Tryz.func13, Tryz.ntmps13
    go_wp2
    go_ret
    exact ⟨by rw [E.out]; rfl, rfl⟩
  by_cases h2 : 96 < s.size
  · have h2' : (96 : Int) < s.size := by omega
    have E : Hid _ := nameN_first (.inr (.inl h2))
    go_enter Tryz.func13, Tryz.ntmps13
    go_wp2
    go_ret
    exact ⟨by rw [E.out]; rfl, rfl⟩
  have h2' : ¬ (96 : Int) < s.size := by omega
  cases h3 : (s.toList == [46])
  rotate_left
  · have E : Hid _ := nameN_first (.inr (.inr (.inl h3)))
    go_enter Tryz.func13, Tryz.ntmps13
    go_wp2
    go_ret
    exact ⟨by rw [E.out]; rfl, rfl⟩
  cases h4 : (s.toList == [46, 46])
  rotate_left
  · have E : Hid _ := nameN_first (.inr (.inr (.inr (.inl h4))))
    go_enter Tryz.func13, Tryz.ntmps13
    go_wp2
    go_ret
    exact ⟨by rw [E.out]; rfl, rfl⟩
  cases h5 : Lib.hasPrefix (un s) [46, 119, 104, 46]
  rotate_left
  · have E : Hid _ := nameN_first (.inr (.inr (.inr (.inr h5))))
    have H5 : Hid _ := h5
    clear h5
    go_enter Tryz.func13, Tryz.ntmps13
    go_wp2_with (go_at_call 31; refine (begins_r _ _ _).mono ?_; rintro e w2 ⟨rfl, hw⟩; subst hw; rw [show Lib.hasPrefix (un s) (un ⟨#[46, 119, 104, 46]⟩) = true from H5.out])
    go_ret
    exact ⟨by rw [E.out]; rfl, rfl⟩
  have H5 : Hid _ := h5
  have H8 : Hid (Lib.containsAny (un s) [0, 47] = true → nameN s = 8) := nameN_any
  have H0 : Hid (Lib.containsAny (un s) [0, 47] = false → nameN s = 0) := nameN_ok h1 h2 h3 h4 h5
  clear h5
  go_enter Tryz.func13, Tryz.ntmps13
  go_wp2_with (go_at_call 31; refine (begins_r _ _ _).mono ?_; rintro e w2 ⟨rfl, hw⟩; subst hw; rw [show Lib.hasPrefix (un s) (un ⟨#[46, 119, 104, 46]⟩) = false from H5.out])
  go_loop [3] (fun i => ∃ k : Nat, k ≤ s.size ∧ i = .int .i64 k ∧ Lib.NoAny (un s) [0, 47] k) (fun i => s.size - (intOf i).toNat)
  case atStart => exact ⟨0, Nat.zero_le _, rfl, Lib.NoAny.zero _ _⟩
  case round =>
    obtain ⟨k, hk, rfl, hn⟩ := hrel
    have HN : Hid _ := hn
    clear hn
    by_cases hlt : k < s.size
    · have hget : Hid _ := un_getElem? s k hlt
      by_cases c0 : s[k].toNat = 0
      · have E : Hid (nameN s = 8) := H8.out (by
          unfold Lib.containsAny
          rw [Lib.indexAny_hit HN.out hget.out (by rw [show s[k] = 0 from UInt8.toNat_inj.1 c0]; decide)]; simp)
        go_wp2
        go_ret
        exact ⟨by rw [E.out]; rfl, rfl⟩
      · by_cases c47 : s[k].toNat = 47
        · have E : Hid (nameN s = 8) := H8.out (by
            unfold Lib.containsAny
            rw [Lib.indexAny_hit HN.out hget.out (by rw [show s[k] = 47 from UInt8.toNat_inj.1 c47]; decide)]; simp)
          go_wp2
          go_ret
          exact ⟨by rw [E.out]; rfl, rfl⟩
        · have d0 : s[k] ≠ 0 := fun e => c0 (by rw [e]; rfl)
          have d47 : s[k] ≠ 47 := fun e => c47 (by rw [e]; rfl)
          have HN2 : Hid _ := Lib.NoAny.succ (show Lib.NoAny (un s) [0, 47] k from HN.out) hget.out (by simp [d0, d47])
          clear d0 d47
          have c0' : ((s[k].toNat : Int) == 0) = false := by simpa using c0
          have c47' : ((s[k].toNat : Int) == 47) = false := by simp; omega
          go_wp2
          go_round
          case rel => exact ⟨k + 1, by omega, by go_num, HN2.out⟩
          case measure => simp [intOf]; omega
    · obtain rfl : k = s.size := by omega
      have E : Hid (nameN s = 0) := H0.out (by
        unfold Lib.containsAny
        rw [Lib.indexAny_none (by rw [un_length]; exact HN.out)]; decide)
      go_wp2
      go_ret
      exact ⟨by rw [E.out]; rfl, rfl⟩
end Go.Proofs.YtjgdeblmgmojcaaGreatDoor
