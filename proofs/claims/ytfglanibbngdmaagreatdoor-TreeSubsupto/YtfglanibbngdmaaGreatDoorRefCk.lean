/- The document's one, and Check. -/
import Derived.Test.YtfglanibbngdmaaGreatDoorSpec
import Derived.Test.YtfglanibbngdmaaGreatDoorProg
import Derived.WalkKit
import Derived.WalkSpells
import Derived.Test.YtfglanibbngdmaaGreatDoorSplitM
import Derived.Deep.QuietTactic
import Derived.BigQuiet
import Derived.Outline
import Derived.Test.YtfglanibbngdmaaGreatDoorCut
import Derived.Test.YtfglanibbngdmaaGreatDoorBelM
import Derived.Test.YtfglanibbngdmaaGreatDoorName
import Derived.Test.YtfglanibbngdmaaGreatDoorOwnM
import Derived.Test.YtfglanibbngdmaaGreatDoorCheck
import Derived.OwnWalk
import Derived.Test.YtfglanibbngdmaaGreatDoorGrowM
import Derived.Test.YtfglanibbngdmaaGreatDoorCmpM
import Derived.WalkLawsBesides
import Derived.Test.YtfglanibbngdmaaGreatDoorGrowW
import Derived.Deep.CutRange

namespace Go.Proofs.YtfglanibbngdmaaGreatDoor
open Go.RowKit

theorem lastIdx_succ (s : ByteArray) (k : Nat) (h : k < s.size) : Lib.lastIdx s 47 (k + 1) = if s[k].toNat = 47 then (k : Int) else Lib.lastIdx s 47 k := by
  have e : s.data[k]! = s[k] := by
    have h2 : k < s.data.size := h
    exact getElem!_pos s.data k h2
  simp only [Lib.lastIdx, e]
  by_cases hc : s[k].toNat = 47
  · rw [if_pos (by omega), if_pos hc]
  · rw [if_neg (by omega), if_neg hc]

set_option maxHeartbeats 400000 in
theorem slash_r (s : ByteArray) (w : World) (hs : s.size ≤ 9223372036854775806) : Calls Tryz.prog 123 #[.string s] w fun e w' => e = .returned (.int .i64 (Lib.lastIndexByte s 47)) ∧ w' = w := by
  go_enter Tryz.func123, Tryz.ntmps123
  go_wp2
  go_loop [3, 4] (fun a i => ∃ k : Nat, k ≤ s.size ∧ i = .int .i64 k ∧ a = .int .i64 (Lib.lastIdx s 47 k)) (fun _ i => s.size - (intOf i).toNat)
  case atStart => exact ⟨0, Nat.zero_le _, rfl, rfl⟩
  case round =>
    obtain ⟨k, hk, rfl, rfl⟩ := hrel
    by_cases hlt : k < s.size
    · have hsn : Hid _ := lastIdx_succ s k hlt
      by_cases hc : s[k].toNat = 47
      · go_wp2
        all_goals
          go_round
          case rel => exact ⟨k + 1, by omega, by go_num, by rw [hsn.out, if_pos hc]⟩
          case measure => simp [intOf]; omega
      · go_wp2
        all_goals
          go_round
          case rel => exact ⟨k + 1, by omega, by go_num, by rw [hsn.out, if_neg hc]⟩
          case measure => simp [intOf]; omega
    · go_wp2
      go_ret
      obtain rfl : k = s.size := by omega
      exact ⟨rfl, rfl⟩

theorem join_r (a b : ByteArray) (w : World) (hs : a.size + 1 + b.size ≤ 9223372036854775807) : Calls Tryz.prog 132 #[.string a, .string b] w fun e w' => e = .returned (.string (joinB a b)) ∧ w' = w := by
  cases h : a.toList.isEmpty
  · go_enter Tryz.func132, Tryz.ntmps132
    go_wp2
    go_ret
    exact ⟨by simp [joinB, h], rfl⟩
  · go_enter Tryz.func132, Tryz.ntmps132
    go_wp2
    go_ret
    exact ⟨by simp [joinB, h], rfl⟩
theorem parent_r (a : ByteArray) (w : World) (hs : a.size < 4611686018427387904) : Calls Tryz.prog 104 #[.string a] w fun e w' => e = .returned (.string (parentB a)) ∧ w' = w := by
  have hr := lastIndexByte_range a 47
  by_cases h : Lib.lastIndexByte a 47 < 0
  · go_enter Tryz.func104, Tryz.ntmps104
    go_wp2_with (go_at_call 123; refine (slash_r _ _ (by omega)).mono ?_; rintro e w' ⟨rfl, rfl⟩)
    go_ret
    exact ⟨by simp [parentB, h], rfl⟩
  · go_enter Tryz.func104, Tryz.ntmps104
    go_wp2_with (go_at_call 123; refine (slash_r _ _ (by omega)).mono ?_; rintro e w' ⟨rfl, rfl⟩)
    go_ret
    exact ⟨by unfold parentB; rw [if_neg (by omega)]; rfl, rfl⟩
theorem last_r (a : ByteArray) (w : World) (hs : a.size < 4611686018427387904) : Calls Tryz.prog 133 #[.string a] w fun e w' => e = .returned (.string (lastB a)) ∧ w' = w := by
  have hr := lastIndexByte_range a 47
  go_enter Tryz.func133, Tryz.ntmps133
  go_wp2_with (go_at_call 123; refine (slash_r _ _ (by omega)).mono ?_; rintro e w' ⟨rfl, rfl⟩)
  go_ret
  exact ⟨by simp [lastB], rfl⟩
end Go.Proofs.YtfglanibbngdmaaGreatDoor

namespace Go.Proofs.YtfglanibbngdmaaGreatDoor
open Go.RowKit

set_option maxHeartbeats 1000000 in
theorem split_r (p : ByteArray) (w : World) (hs : p.size < 4611686018427387904) : Calls Tryz.prog 121 #[.string p] w fun e w' => e = .returned (.tuple #[.string (splitP p).1, .string (splitP p).2.1, .int .i64 (splitP p).2.2]) ∧ Below w.heap.size w w' := by
  by_cases h1 : p.size ≤ 100
  · have h1' : (p.size : Int) ≤ 100 := by omega
    go_enter Tryz.func121, Tryz.ntmps121
    go_wp2
    go_ret3
    exact ⟨by simp [splitP, h1], Below.refl _ _⟩
  have h1' : ¬ (p.size : Int) ≤ 100 := by omega
  go_enter Tryz.func121, Tryz.ntmps121
  go_wp2
  go_loop [5] (fun i => ∃ k : Nat, k ≤ p.size ∧ i = .int .i64 k ∧ ∀ j, j < k → ¬ good p j) (fun i => p.size - (intOf i).toNat)
  case atStart => exact ⟨0, Nat.zero_le _, rfl, fun j hj => by omega⟩
  case round =>
    obtain ⟨k, hk, rfl, hn⟩ := hrel
    by_cases hlt : k < p.size
    · have hget : Hid _ := un_getElem? p k hlt
      by_cases hg : good p k
      · have hc : p[k].toNat = 47 := by have := hg.1; rw [hget.out] at this; simp at this; rw [this]; rfl
        have hb1 : (1 : Int) ≤ (p.size : Int) - (k : Int) - 1 := by have := hg.2.1; omega
        have hb2 : (p.size : Int) - (k : Int) - 1 ≤ 100 := by have := hg.2.2; omega
        have HS : Hid _ := splitP_at p k (by omega) hg hn
        clear hg hn
        by_cases c1 : k < 1
        · obtain rfl : k = 0 := by omega
          go_wp2
          go_ret3
          exact ⟨by rw [HS.out, if_pos (by omega)]; rfl, Below.refl _ _⟩
        · have c1' : ¬ (k : Int) < 1 := by omega
          by_cases c2 : 155 < k
          · have c2' : (155 : Int) < (k : Int) := by omega
            go_wp2
            go_ret3
            exact ⟨by rw [HS.out, if_pos (by omega)]; rfl, Below.refl _ _⟩
          · have c2' : ¬ (155 : Int) < (k : Int) := by omega
            have d1 : (0 : Int) ≤ (k : Int) := by omega
            have d2 : (k : Int) ≤ p.size := by omega
            have d3 : (0 : Int) ≤ (k : Int) + 1 := by omega
            have d4 : (k : Int) + 1 ≤ p.size := by omega
            go_wp2
            go_quiet (fail)
            go_wp2
            go_ret3
            exact ⟨by rw [HS.out, if_neg (by omega)]; rfl, ⟨rfl, rfl, rfl, Nat.le_refl _, fun _ _ => rfl⟩⟩
      · have hn2 : ∀ j, j < k + 1 → ¬ good p j := fun j hj => by
          rcases Nat.lt_succ_iff_lt_or_eq.1 hj with h | h
          · exact hn j h
          · rw [h]; exact hg
        have Hn : Hid _ := hn2
        by_cases hc : p[k].toNat = 47
        · have hng : ¬ (k + 2 ≤ p.size ∧ p.size ≤ k + 101) := fun h => hg ⟨by rw [hget.out]; congr 1; exact UInt8.toNat_inj.1 hc, h⟩
          clear hn2 hg hn
          by_cases hb1 : k + 2 ≤ p.size
          · have hb1' : (1 : Int) ≤ (p.size : Int) - (k : Int) - 1 := by omega
            have hb2' : ¬ (p.size : Int) - (k : Int) - 1 ≤ 100 := by omega
            go_wp2
            go_round
            case rel => exact ⟨k + 1, by omega, by go_num, Hn.out⟩
            case measure => simp [intOf]; omega
          · have hb1' : ¬ (1 : Int) ≤ (p.size : Int) - (k : Int) - 1 := by omega
            go_wp2
            go_round
            case rel => exact ⟨k + 1, by omega, by go_num, Hn.out⟩
            case measure => simp [intOf]; omega
        · clear hn2 hg hn
          go_wp2
          go_round
          case rel => exact ⟨k + 1, by omega, by go_num, Hn.out⟩
          case measure => simp [intOf]; omega
    · have HS : Hid _ := splitP_none p (by omega) (fun j hj => hn j (by omega))
      clear hn
      go_wp2
      go_ret3
      exact ⟨by rw [HS.out]; rfl, Below.refl _ _⟩
end Go.Proofs.YtfglanibbngdmaaGreatDoor

namespace Go.Proofs.YtfglanibbngdmaaGreatDoor
open Go.RowKit

theorem below_p (a b : ByteArray) (w : World) : Calls Tryz.prog 34 #[.string a, .string b] w fun e w' => e = .returned (.bool (belowB a b)) ∧ w' = w := by
  cases h1 : a.toList.isEmpty
  · cases h2 : Lib.hasPrefix (un b) (un a)
    all_goals
      have H2 : Hid _ := h2
      clear h2
      go_enter Tryz.func34, Tryz.ntmps34
      go_wp2_with (first | (go_at_call 71; refine (Tryz.strings_CutPrefix _ _ _).mono ?_; rintro e w2 ⟨rfl, rfl⟩; rw [show Lib.hasPrefix b.data.toList a.data.toList = _ from H2.out]) | (go_at_call 72; refine (Tryz.strings_HasPrefix _ _ _).mono ?_; rintro e w2 ⟨rfl, rfl⟩))
      go_ret
      exact ⟨by simp [belowB, h1, H2.out]; try rfl, rfl⟩
  · go_enter Tryz.func34, Tryz.ntmps34
    go_wp2
    go_ret
    exact ⟨by simp [belowB, h1]; try rfl, rfl⟩
end Go.Proofs.YtfglanibbngdmaaGreatDoor

namespace Go.Proofs.YtfglanibbngdmaaGreatDoor
open Go.RowKit

theorem begins_r (s h : ByteArray) (w : World) : Calls Tryz.prog 108 #[.string s, .string h] w fun e w' => e = .returned (.bool (Lib.hasPrefix (un s) (un h))) ∧ w' = w := by
  by_cases c : h.size ≤ s.size
  · have c' : (h.size : Int) ≤ (s.size : Int) := by omega
    have e1 : Lib.hasPrefix (un s) (un h) = ((s.extract 0 h.size).toList == h.toList) := by
      rw [hasPrefix_take, toList_un, toList_un, un_extract, un_length, un_length]; simp [c]
    have E : Hid _ := e1
    clear e1
    go_enter Tryz.func108, Tryz.ntmps108
    go_wp2
    go_ret
    exact ⟨by rw [E.out]; rfl, rfl⟩
  · have c' : ¬ (h.size : Int) ≤ (s.size : Int) := by omega
    have e1 : Lib.hasPrefix (un s) (un h) = false := by
      rw [hasPrefix_take, un_length, un_length]; simp; omega
    have E : Hid _ := e1
    clear e1
    go_enter Tryz.func108, Tryz.ntmps108
    go_wp2
    go_ret
    exact ⟨by rw [E.out]; rfl, rfl⟩

theorem below_r (a b : ByteArray) (w : World) (ha : a.size < 4611686018427387904) : Calls Tryz.prog 83 #[.string a, .string b] w fun e w' => e = .returned (.bool (belowB a b)) ∧ w' = w := by
  cases h1 : a.toList.isEmpty
  · have E : Hid _ := belowB_r a b h1
    have e2 : un (a ++ ⟨#[47]⟩) = un a ++ [47] := un_append a ⟨#[47]⟩
    have E2 : Hid _ := e2
    clear e2
    go_enter Tryz.func83, Tryz.ntmps83
    go_wp2_with (go_at_call 108; refine (begins_r _ _ _).mono ?_; rintro e w2 ⟨rfl, hw⟩; subst hw)
    go_ret
    exact ⟨by rw [E.out, ← E2.out]; rfl, rfl⟩
  · go_enter Tryz.func83, Tryz.ntmps83
    go_wp2
    go_ret
    exact ⟨by simp [belowB, h1]; try rfl, rfl⟩
end Go.Proofs.YtfglanibbngdmaaGreatDoor

namespace Go.Proofs.YtfglanibbngdmaaGreatDoor
open Go.RowKit

theorem nameN_first {s : ByteArray} (h : s.toList.isEmpty = true ∨ 96 < s.size ∨ (s.toList == [46]) = true ∨ (s.toList == [46, 46]) = true ∨ Lib.hasPrefix (un s) [46, 119, 104, 46] = true) : nameN s = 8 := by
  unfold nameN
  repeat' split
  all_goals first | rfl | (exfalso; simp_all)
theorem nameN_any {s : ByteArray} (h : Lib.containsAny (un s) [0, 47] = true) : nameN s = 8 := by
  unfold nameN
  repeat' split
  all_goals first | rfl | (exfalso; simp_all)
theorem nameN_ok {s : ByteArray} (h1 : s.toList.isEmpty = false) (h2 : ¬ 96 < s.size) (h3 : (s.toList == [46]) = false) (h4 : (s.toList == [46, 46]) = false) (h5 : Lib.hasPrefix (un s) [46, 119, 104, 46] = false) (h6 : Lib.containsAny (un s) [0, 47] = false) : nameN s = 0 := by
  unfold nameN
  simp only [h1, h2, h3, h4, h5, h6]; rfl

set_option maxHeartbeats 2000000 in
theorem name_r (s : ByteArray) (w : World) (hs : s.size ≤ 9223372036854775806) : Calls Tryz.prog 120 #[.string s] w fun e w' => e = .returned (.int .i64 (nameN s)) ∧ w' = w := by
  cases h1 : s.toList.isEmpty
  rotate_left
  · have E : Hid _ := nameN_first (.inl h1)
    go_enter Tryz.func120, Tryz.ntmps120
    go_wp2
    go_ret
    exact ⟨by rw [E.out]; rfl, rfl⟩
  by_cases h2 : 96 < s.size
  · have h2' : (96 : Int) < s.size := by omega
    have E : Hid _ := nameN_first (.inr (.inl h2))
    go_enter Tryz.func120, Tryz.ntmps120
    go_wp2
    go_ret
    exact ⟨by rw [E.out]; rfl, rfl⟩
  have h2' : ¬ (96 : Int) < s.size := by omega
  cases h3 : (s.toList == [46])
  rotate_left
  · have E : Hid _ := nameN_first (.inr (.inr (.inl h3)))
    go_enter Tryz.func120, Tryz.ntmps120
    go_wp2
    go_ret
    exact ⟨by rw [E.out]; rfl, rfl⟩
  cases h4 : (s.toList == [46, 46])
  rotate_left
  · have E : Hid _ := nameN_first (.inr (.inr (.inr (.inl h4))))
    go_enter Tryz.func120, Tryz.ntmps120
    go_wp2
    go_ret
    exact ⟨by rw [E.out]; rfl, rfl⟩
  cases h5 : Lib.hasPrefix (un s) [46, 119, 104, 46]
  rotate_left
  · have E : Hid _ := nameN_first (.inr (.inr (.inr (.inr h5))))
    have H5 : Hid _ := h5
    clear h5
    go_enter Tryz.func120, Tryz.ntmps120
    go_wp2_with (go_at_call 108; refine (begins_r _ _ _).mono ?_; rintro e w2 ⟨rfl, hw⟩; subst hw; rw [show Lib.hasPrefix (un s) (un ⟨#[46, 119, 104, 46]⟩) = true from H5.out])
    go_ret
    exact ⟨by rw [E.out]; rfl, rfl⟩
  have H5 : Hid _ := h5
  have H8 : Hid (Lib.containsAny (un s) [0, 47] = true → nameN s = 8) := nameN_any
  have H0 : Hid (Lib.containsAny (un s) [0, 47] = false → nameN s = 0) := nameN_ok h1 h2 h3 h4 h5
  clear h5
  go_enter Tryz.func120, Tryz.ntmps120
  go_wp2_with (go_at_call 108; refine (begins_r _ _ _).mono ?_; rintro e w2 ⟨rfl, hw⟩; subst hw; rw [show Lib.hasPrefix (un s) (un ⟨#[46, 119, 104, 46]⟩) = false from H5.out])
  go_loop [3] (fun i => ∃ k : Nat, k ≤ s.size ∧ i = .int .i64 k ∧ Lib.NoAny (un s) [0, 47] k) (fun i => s.size - (intOf i).toNat)
  case atStart => exact ⟨0, Nat.zero_le _, rfl, Lib.NoAny.zero _ _⟩
  case round =>
    obtain ⟨k, hk, rfl, hn⟩ := hrel
    have HN : Hid _ := hn
    clear hn
    by_cases hlt : k < s.size
    · have hget : Hid _ := un_getElem? s k hlt
      by_cases c0 : s[k].toNat = 0
      · have E : Hid (nameN s = 8) := H8.out (by
          unfold Lib.containsAny
          rw [Lib.indexAny_hit HN.out hget.out (by rw [show s[k] = 0 from UInt8.toNat_inj.1 c0]; decide)]; simp)
        go_wp2
        go_ret
        exact ⟨by rw [E.out]; rfl, rfl⟩
      · by_cases c47 : s[k].toNat = 47
        · have E : Hid (nameN s = 8) := H8.out (by
            unfold Lib.containsAny
            rw [Lib.indexAny_hit HN.out hget.out (by rw [show s[k] = 47 from UInt8.toNat_inj.1 c47]; decide)]; simp)
          go_wp2
          go_ret
          exact ⟨by rw [E.out]; rfl, rfl⟩
        · have d0 : s[k] ≠ 0 := fun e => c0 (by rw [e]; rfl)
          have d47 : s[k] ≠ 47 := fun e => c47 (by rw [e]; rfl)
          have HN2 : Hid _ := Lib.NoAny.succ (show Lib.NoAny (un s) [0, 47] k from HN.out) hget.out (by simp [d0, d47])
          clear d0 d47
          have c0' : ((s[k].toNat : Int) == 0) = false := by simpa using c0
          have c47' : ((s[k].toNat : Int) == 47) = false := by simp; omega
          go_wp2
          go_round
          case rel => exact ⟨k + 1, by omega, by go_num, HN2.out⟩
          case measure => simp [intOf]; omega
    · obtain rfl : k = s.size := by omega
      have E : Hid (nameN s = 0) := H0.out (by
        unfold Lib.containsAny
        rw [Lib.indexAny_none (by rw [un_length]; exact HN.out)]; decide)
      go_wp2
      go_ret
      exact ⟨by rw [E.out]; rfl, rfl⟩

end Go.Proofs.YtfglanibbngdmaaGreatDoor

namespace Go.Proofs.YtfglanibbngdmaaGreatDoor
open Go Go.RowKit

/-- No slash from f on ahead of k. -/
def noSl (s : ByteArray) (f k : Nat) : Prop := ∀ j : Nat, f ≤ j → j < k → (un s)[j]? ≠ some 47
theorem indexByte_eq (c : UInt8) : ∀ (l : List UInt8) (i : Nat), l[i]? = some c → (∀ j : Nat, j < i → l[j]? ≠ some c) → Lib.indexByte l c = i
  | [], i, h, _ => by simp at h
  | b :: l, 0, h, _ => by
    have e : b = c := by simpa using h
    unfold Lib.indexByte; simp [e]
  | b :: l, i + 1, h, hn => by
    have h0 : b ≠ c := fun e => hn 0 (by omega) (by simp [e])
    have ih := indexByte_eq c l i (by simpa using h) (fun j hj => by simpa using hn (j + 1) (by omega))
    unfold Lib.indexByte
    rw [if_neg (by simpa using h0), ih, if_neg (by simp)]; omega
theorem indexByte_none (c : UInt8) : ∀ l : List UInt8, (∀ j : Nat, l[j]? ≠ some c) → Lib.indexByte l c = -1
  | [], _ => rfl
  | b :: l, hn => by
    have h0 : b ≠ c := fun e => hn 0 (by simp [e])
    have ih := indexByte_none c l (fun j => by simpa using hn (j + 1))
    unfold Lib.indexByte
    rw [if_neg (by simpa using h0), ih]; rfl
theorem pieces_at (s : ByteArray) (f k : Nat) (hf : f ≤ k) (hk : k < s.size) (hc : (un s)[k]? = some 47) (hn : noSl s f k) :
    piecesB (s.extract f s.size) = s.extract f k :: piecesB (s.extract (k + 1) s.size) := by
  have hi : ix (s.extract f s.size) = ((k - f : Nat) : Int) := indexByte_eq 47 _ _ (by rw [un_extract_get, show f + (k - f) = k by omega]; exact hc) (fun j hj => by rw [un_extract_get]; exact hn _ (by omega) (by omega))
  rw [piecesB_hit _ _ hi, size_extract' _ _ _ (Nat.le_refl _)]
  congr 1
  · refine un_inj ?_
    rw [un_extract, un_extract, un_extract]
    simp only [List.drop_zero, List.take_drop]
    rw [show f + (k - f) = k by omega, List.take_take, Nat.min_eq_left (by omega)]
  · congr 1
    refine un_inj ?_
    rw [un_extract, un_extract, un_extract]
    rw [List.take_of_length_le (l := un s) (by rw [un_length]; omega), List.take_of_length_le (by simp [un_length]), List.drop_drop]
    congr 1; omega
theorem pieces_end (s : ByteArray) (f : Nat) (hn : noSl s f s.size) : piecesB (s.extract f s.size) = [s.extract f s.size] := by
  refine piecesB_miss _ (indexByte_none 47 _ (fun j => ?_))
  rw [un_extract_get]
  by_cases h : f + j < s.size
  · exact hn _ (by omega) h
  · rw [un_none _ _ (by omega)]; simp
theorem noSl_nil (s : ByteArray) (k : Nat) : noSl s k k := fun j h1 h2 => by omega
theorem noSl_succ {s : ByteArray} {f k : Nat} (h : noSl s f k) (hc : (un s)[k]? ≠ some 47) : noSl s f (k + 1) := fun j h1 h2 => by
  rcases Nat.lt_succ_iff_lt_or_eq.1 h2 with h3 | h3
  · exact h j h1 h3
  · rw [h3]; exact hc
theorem extract_all (s : ByteArray) : s.extract 0 s.size = s := un_inj (by rw [un_extract, List.take_of_length_le (by rw [un_length]; omega)]; rfl)

set_option maxRecDepth 100000 in
set_option maxHeartbeats 2000000 in
theorem cut_r (s : ByteArray) (w : World) (hs : s.size ≤ 1099511627776) : Calls Tryz.prog 103 #[.string s] w fun e w' => ∃ v, e = .returned v ∧ w'.ownsRow w.heap.size 9 1 v (piecesB s).length (strs (piecesB s)) ∧ Below w.heap.size w w' := by
  obtain ⟨i0, hi, hz0, hz1, hz2⟩ := info_parts info_str
  have hpl := piecesB_length s
  go_enter Tryz.func103, Tryz.ntmps103
  go_wp2
  go_loopw [3, 4, 5] (fun v fr i wr => ∃ (k f : Nat) (ps : List ByteArray), i = .int .i64 k ∧ fr = .int .i64 f ∧ f ≤ k ∧ wr.ownsRow w.heap.size 9 1 v ps.length (strs ps) ∧ Below w.heap.size w wr ∧
      ((k ≤ s.size ∧ noSl s f k ∧ piecesB s = ps ++ piecesB (s.extract f s.size)) ∨ (k = s.size + 1 ∧ piecesB s = ps))) (fun _ _ i _ => s.size + 1 - (intOf i).toNat)
  case atStart => exact ⟨0, 0, [], rfl, rfl, Nat.le_refl _, World.ownsRow_nil _ _ _ _, Below.refl _ _, .inl ⟨Nat.zero_le _, noSl_nil _ _, by rw [extract_all]; rfl⟩⟩
  case round =>
    obtain ⟨k, f, ps, rfl, rfl, hfk, hown, hB, ⟨hk, hn, hp⟩ | ⟨rfl, hp⟩⟩ := hrel
    · have hsz := hB.size
      have hpsl : ps.length < (piecesB s).length := by
        rw [hp, List.length_append]; have := List.length_pos_iff.2 (piecesB_ne (s.extract f s.size)); omega
      by_cases hlt : k < s.size
      · have hget := un_getElem? s k hlt
        have hne : ((k : Int) == (s.size : Int)) = false := by simp; omega
        by_cases hc : s[k].toNat = 47
        · have hc2 : (un s)[k]? = some 47 := by rw [hget]; congr 1; exact UInt8.toNat_inj.1 hc
          have Hp : Hid (piecesB s = ps ++ [s.extract f k] ++ piecesB (s.extract (k + 1) s.size)) := by unfold Hid; rw [hp, pieces_at s f k hfk hlt hc2 hn]; simp
          clear hget hc2 hn hp
          go_wp2_with (at_builtin; refine wpList_append_own _ rfl _ _ 149 rfl w.heap.size 9 i0 (.string ⟨#[]⟩) 1 16 Tryz.underlying149 hi hz0 hz1 hz2 rfl (by decide) _ _ _ rfl (hown.alloc _) ⟨wr.heap.size, 0, none⟩ 1 1 [.string (s.extract f k)] rfl rfl (cell_one_new _ _ _) (by simp [Value.oneCell']) (by unfold maxLen; omega) (by omega) (by simp; omega) ?_; intro v1 w1 hown1 hgrow1 _)
          have hb1 : Below w.heap.size w w1 := (hB.alloc hsz _).grown hgrow1 (by simp; omega) (fun j hj => (own_ge hown j hj.symm).1)
          exact ⟨⟨k + 1, k + 1, ps ++ [s.extract f k], by go_num, by go_num, Nat.le_refl _, by simpa [strs] using hown1, hb1, .inl ⟨by omega, noSl_nil _ _, Hp.out⟩⟩, by simp [intOf]; omega⟩
        · have hc2 : (un s)[k]? ≠ some 47 := by rw [hget]; intro e; exact hc (by rw [Option.some.inj e]; rfl)
          have Hn : Hid _ := noSl_succ hn hc2
          have Hp : Hid _ := hp
          clear hget hc2 hn hp
          go_wp2
          first
            | exact ⟨⟨k + 1, f, ps, by go_num, rfl, by omega, hown, hB, .inl ⟨by omega, Hn.out, Hp.out⟩⟩, by simp [intOf]; omega⟩
            | (go_roundw
               case rel => exact ⟨k + 1, f, ps, by go_num, rfl, by omega, hown, hB, .inl ⟨by omega, Hn.out, Hp.out⟩⟩
               case measure => simp [intOf]; omega)
      · obtain rfl : k = s.size := by omega
        have Hp : Hid (piecesB s = ps ++ [s.extract f s.size]) := by unfold Hid; rw [hp, pieces_end s f hn]
        have hee : ((s.size : Int) == (s.size : Int)) = true := by simp
        clear hn hp
        go_wp2_with (at_builtin; refine wpList_append_own _ rfl _ _ 149 rfl w.heap.size 9 i0 (.string ⟨#[]⟩) 1 16 Tryz.underlying149 hi hz0 hz1 hz2 rfl (by decide) _ _ _ rfl (hown.alloc _) ⟨wr.heap.size, 0, none⟩ 1 1 [.string (s.extract f s.size)] rfl rfl (cell_one_new _ _ _) (by simp [Value.oneCell']) (by unfold maxLen; omega) (by omega) (by simp; omega) ?_; intro v1 w1 hown1 hgrow1 _)
        have hb1 : Below w.heap.size w w1 := (hB.alloc hsz _).grown hgrow1 (by simp; omega) (fun j hj => (own_ge hown j hj.symm).1)
        exact ⟨⟨s.size + 1, s.size + 1, ps ++ [s.extract f s.size], by go_num, by go_num, Nat.le_refl _, by simpa [strs] using hown1, hb1, .inr ⟨rfl, Hp.out⟩⟩, by simp [intOf]⟩
    · have Hp : Hid _ := hp
      clear hp
      go_wp2
      go_ret
      exact ⟨_, rfl, by rw [Hp.out]; exact hown, hB⟩

/-- Block g holds the texts xs, from its beginning on. -/
def Row (w : World) (g : Nat) (xs : List ByteArray) : Prop := ∀ (j : Nat) z, xs[j]? = some z → w.cell? ⟨g, j, none⟩ = some (.string z)
theorem Row.below {w w2 : World} {g : Nat} {xs : List ByteArray} (h : Row w g xs) (hg : g < w.heap.size) (hb : Below w.heap.size w w2) : Row w2 g xs := fun j z hz => (hb.cell (p := ⟨g, j, none⟩) hg).trans (h j z hz)
theorem row_of_owns {w : World} {base g cap n : Nat} {xs : List ByteArray} (h : w.ownsRow base 9 1 (.slice (some ⟨g, 0, none⟩) n cap) xs.length (strs xs)) : Row w g xs := fun j z hz => by
  have h := h.cells (g := g) rfl j (.string z) (by simp [strs, hz])
  rcases j with _ | j <;> simpa [Addr.add] using h
theorem cut_row (s : ByteArray) (w : World) (hs : s.size ≤ 1099511627776) : Calls Tryz.prog 103 #[.string s] w fun e w' => ∃ g cap, e = .returned (.slice (some ⟨g, 0, none⟩) (piecesB s).length cap) ∧ Row w' g (piecesB s) ∧ g < w'.heap.size ∧ w.heap.size ≤ g ∧ Below w.heap.size w w' := by
  refine (cut_r s w hs).mono ?_
  rintro e w2 ⟨v, rfl, hown, hb⟩
  rcases hown.2 with ⟨_, h0⟩ | ⟨g, cap, cur, rfl, hg, hgb, _⟩
  · exact absurd (List.eq_nil_of_length_eq_zero h0) (piecesB_ne s)
  · exact ⟨g, cap, rfl, row_of_owns hown, (Array.getElem?_eq_some_iff.1 hgb).1, hg, hb⟩
end Go.Proofs.YtfglanibbngdmaaGreatDoor

namespace Go.Proofs.YtfglanibbngdmaaGreatDoor
open Go

def wt : List ByteArray → Nat
  | [] => 0
  | x :: xs => x.size + 1 + wt xs
theorem wt_append (a b : List ByteArray) : wt (a ++ b) = wt a + wt b := by induction a with | nil => simp [wt] | cons x a ih => simp [wt, ih]; omega
theorem wt_cut : ∀ l : List UInt8, wt ((cutL l).map bs) = l.length + 1
  | [] => by simp [cutL, wt, size_bs]
  | c :: l => by
    have ih := wt_cut l
    rw [cutL_cons]
    split
    · simp [wt, size_bs, ih]; omega
    · cases h : cutL l with
      | nil => exact absurd h (cutL_ne l)
      | cons p r => rw [h] at ih; simp [wt, size_bs] at ih ⊢; omega
theorem length_wt : ∀ xs : List ByteArray, xs.length ≤ wt xs
  | [] => Nat.le_refl _
  | x :: xs => by have := length_wt xs; simp [wt]; omega
theorem wt_prefix {pre xs : List ByteArray} (h : pre <+: xs) : wt pre ≤ wt xs := by obtain ⟨t, rfl⟩ := h; rw [wt_append]; omega
end Go.Proofs.YtfglanibbngdmaaGreatDoor

namespace Go.Proofs.YtfglanibbngdmaaGreatDoor
open Go Go.RowKit

theorem whiteout_r (a : ByteArray) (w : World) (hs : a.size < 1152921504606846976) : Calls Tryz.prog 122 #[.string a] w fun e w' => e = .returned (.string (whiteoutB a)) ∧ w' = w := by
  have h1 := parentB_size a
  have h2 := lastB_size a
  go_enter Tryz.func122, Tryz.ntmps122
  go_wp2_with (first | (go_at_call 104; refine (parent_r _ _ (by omega)).mono ?_; rintro e w' ⟨rfl, rfl⟩) | (go_at_call 133; refine (last_r _ _ (by omega)).mono ?_; rintro e w' ⟨rfl, rfl⟩) | (go_at_call 132; go_must (refine (join_r _ _ _ (by rw [ByteArray.size_append, show (ByteArray.mk #[46, 119, 104, 46]).size = 4 from rfl]; omega)).mono ?_); rintro e w' ⟨rfl, rfl⟩))
  go_ret
  exact ⟨rfl, rfl⟩

theorem any_bad {xs : List ByteArray} {k : Nat} {x : ByteArray} (hx : xs[k]? = some x) (h : nameN x = 8) : xs.any (fun x => nameN x != 0) = true :=
  List.any_eq_true.2 ⟨x, List.mem_of_getElem? hx, by rw [h]; rfl⟩
theorem any_good {xs : List ByteArray} (h : ∀ j x, j < xs.length → xs[j]? = some x → nameN x = 0) : xs.any (fun x => nameN x != 0) = false := by
  rw [List.any_eq_false]; intro x hx
  obtain ⟨j, hj, rfl⟩ := List.getElem_of_mem hx
  rw [h j _ hj (List.getElem?_eq_getElem hj)]; decide

set_option maxRecDepth 100000 in
set_option maxHeartbeats 2000000 in
theorem check_r (p : ByteArray) (w : World) (hs : p.size ≤ 1099511627776) : Calls Tryz.prog 101 #[.string p] w fun e w' => e = .returned (.int .i64 (checkN p)) ∧ Below w.heap.size w w' := by
  cases h : p.toList.isEmpty
  rotate_left
  · have E : Hid (checkN p = 15) := by unfold Hid; simp [checkN, h]
    go_enter Tryz.func101, Tryz.ntmps101
    go_wp2
    go_ret
    exact ⟨by rw [E.out]; rfl, Below.refl _ _⟩
  have hpl := piecesB_length p
  have hwz := whiteoutB_size p
  go_enter Tryz.func101, Tryz.ntmps101
  go_wp2_with (go_at_call 103; refine (cut_row p _ hs).mono ?_; rintro e w1 ⟨g, cap, rfl, hrow, hgl, _, hb1⟩)
  go_loop [4] (fun i => ∃ k : Nat, k ≤ (piecesB p).length ∧ i = .int .i64 k ∧ ∀ (j : Nat) x, j < k → (piecesB p)[j]? = some x → nameN x = 0) (fun i => (piecesB p).length - (intOf i).toNat)
  case atStart => exact ⟨0, Nat.zero_le _, rfl, fun j x hj => by omega⟩
  case round =>
    obtain ⟨k, hk, rfl, hn⟩ := hrel
    have HN : Hid _ := hn
    clear hn
    by_cases hlt : k < (piecesB p).length
    · obtain ⟨x, hx⟩ : ∃ x, (piecesB p)[k]? = some x := ⟨_, List.getElem?_eq_getElem hlt⟩
      have hcell := hrow k x hx
      have hxs : x.size ≤ 9223372036854775806 := by
        have h1 := wt_prefix (pre := [x]) (xs := [x]) (List.prefix_refl _)
        have h2 : x.size + 1 ≤ wt (piecesB p) := by
          obtain ⟨a, b, hab⟩ := List.append_of_mem (List.mem_of_getElem? hx)
          rw [hab, wt_append]; simp [wt]; omega
        have h3 : wt (piecesB p) = p.size + 1 := by unfold piecesB; rw [wt_cut, un_length]
        omega
      rcases nameN_cases x with h0 | h8
      · have HN2 : Hid (∀ (j : Nat) x, j < k + 1 → (piecesB p)[j]? = some x → nameN x = 0) := fun j y hj hy => by
          rcases Nat.lt_succ_iff_lt_or_eq.1 hj with h1 | h1
          · exact HN.out j y h1 hy
          · subst h1; rw [hx] at hy; cases hy; exact h0
        have H0 : Hid _ := h0
        have Hrow : Hid _ := hrow
        clear h0 hx hrow
        go_wp2_with (go_at_call 120; refine (name_r _ _ hxs).mono ?_; rintro e w2 ⟨rfl, hw⟩; subst hw; rw [H0.out])
        first
          | exact ⟨⟨k + 1, by omega, by go_num, HN2.out⟩, by simp [intOf]; omega⟩
          | (go_round
             case rel => exact ⟨k + 1, by omega, by go_num, HN2.out⟩
             case measure => simp [intOf]; omega)
      · have E : Hid (checkN p = 8) := by unfold Hid; simp [checkN, h, any_bad hx h8]
        have H8 : Hid _ := h8
        have Hrow : Hid _ := hrow
        clear h8 hx hrow
        go_wp2_with (go_at_call 120; refine (name_r _ _ hxs).mono ?_; rintro e w2 ⟨rfl, hw⟩; subst hw; rw [H8.out])
        go_ret
        exact ⟨by rw [E.out]; rfl, hb1⟩
    · obtain rfl : k = (piecesB p).length := by omega
      have hany := any_good (xs := piecesB p) (fun j x hj => HN.out j x hj)
      by_cases h32 : 32 < (piecesB p).length
      · have h32' : (32 : Int) < (piecesB p).length := by omega
        have E : Hid (checkN p = 9) := by unfold Hid; simp [checkN, h, hany, h32]
        clear hany
        go_wp2
        go_ret
        exact ⟨by rw [E.out]; rfl, hb1⟩
      have h32' : ¬ (32 : Int) < (piecesB p).length := by omega
      by_cases h255 : 255 < p.size
      · have h255' : (255 : Int) < p.size := by omega
        have E : Hid (checkN p = 9) := by unfold Hid; simp [checkN, h, hany, h255]
        clear hany
        go_wp2
        go_ret
        exact ⟨by rw [E.out]; rfl, hb1⟩
      · have h255' : ¬ (255 : Int) < p.size := by omega
        have E : Hid (checkN p = (splitP (whiteoutB p)).2.2) := by unfold Hid; simp [checkN, h, hany, h32, h255]
        clear hany
        go_wp2_with (first | (go_at_call 122; refine (whiteout_r _ _ (by omega)).mono ?_; rintro e w2 ⟨rfl, hw⟩; subst hw) | (go_at_call 121; refine (split_r _ _ (by omega)).mono ?_; rintro e w3 ⟨rfl, hb3⟩))
        go_ret
        exact ⟨by rw [E.out]; rfl, hb1.trans (hb3.mono hb1.size)⟩
end Go.Proofs.YtfglanibbngdmaaGreatDoor

namespace Go.Proofs.YtfglanibbngdmaaGreatDoor
open Go Go.RowKit

theorem index0 : ∀ l : List UInt8, Lib.indexByte l 0 < 0 ↔ ∀ j : Nat, l[j]? ≠ some 0
  | [] => by simp [Lib.indexByte]
  | b :: l => by
    have ih := index0 l
    unfold Lib.indexByte
    by_cases hb : b = 0
    · subst hb
      simp only [beq_self_eq_true, if_true]
      constructor
      · intro h; omega
      · intro h; exact absurd rfl (h 0)
    · rw [if_neg (by simpa using hb)]
      have hr := indexByte_range 0 l
      constructor
      · intro h j
        cases j with
        | zero => simpa using hb
        | succ j =>
          have : Lib.indexByte l 0 < 0 := by
            split at h
            · rename_i hh; simp at hh; omega
            · omega
          simpa using ih.1 this j
      · intro h
        have : Lib.indexByte l 0 < 0 := ih.2 (fun j => by simpa using h (j + 1))
        rw [if_pos (by simp; omega)]; omega
set_option maxRecDepth 100000 in
set_option maxHeartbeats 2000000 in
theorem target_r (s : ByteArray) (w : World) (hs : s.size ≤ 9223372036854775806) : Calls Tryz.prog 102 #[.string s] w fun e w' => e = .returned (.bool (targB s)) ∧ w' = w := by
  go_enter Tryz.func102, Tryz.ntmps102
  go_wp2
  go_loop [3] (fun i => ∃ k : Nat, k ≤ s.size ∧ i = .int .i64 k ∧ ∀ j : Nat, j < k → (un s)[j]? ≠ some 0) (fun i => s.size - (intOf i).toNat)
  case atStart => exact ⟨0, Nat.zero_le _, rfl, fun j hj => by omega⟩
  case round =>
    obtain ⟨k, hk, rfl, hn⟩ := hrel
    have HN : Hid (∀ j : Nat, j < k → (un s)[j]? ≠ some 0) := hn
    clear hn
    by_cases hlt : k < s.size
    · have hlt' : (k : Int) < (s.size : Int) := by omega
      have hget : (un s)[k]? = some s[k] := un_getElem? s k hlt
      by_cases c0 : s[k].toNat = 0
      · have E : Hid (targB s = false) := by
          have hh : ¬ Lib.indexByte (un s) 0 < 0 := fun h => (index0 _).1 h k (by rw [hget, show s[k] = 0 from UInt8.toNat_inj.1 c0])
          unfold Hid targB
          rw [show decide (Lib.indexByte (un s) 0 < 0) = false by simpa using hh]; simp
        clear hget
        go_wp2
        go_ret
        exact ⟨by rw [E.out]; rfl, rfl⟩
      · have HN2 : Hid (∀ j : Nat, j < k + 1 → (un s)[j]? ≠ some 0) := fun j hj => by
          rcases Nat.lt_succ_iff_lt_or_eq.1 hj with h1 | rfl
          · exact HN.out j h1
          · rw [hget]; intro e; exact c0 (by rw [Option.some.inj e]; rfl)
        have c0' : ((s[k].toNat : Int) == 0) = false := by simpa using c0
        clear hget
        go_wp2
        go_round
        case rel => exact ⟨k + 1, by omega, by go_num, HN2.out⟩
        case measure => simp [intOf]; omega
    · obtain rfl : k = s.size := by omega
      have HI : Hid (decide (Lib.indexByte (un s) 0 < 0) = true) := decide_eq_true ((index0 _).2 (fun j => by
        by_cases hj : j < s.size
        · exact HN.out j hj
        · rw [un_none _ _ (by omega)]; simp))
      cases h1 : s.toList.isEmpty
      · have hp := (isEmpty_false s).1 h1
        have hp' : decide ((1 : Int) ≤ (s.size : Int)) = true := by simp; omega
        by_cases h2 : s.size ≤ 100
        · have h2' : decide ((s.size : Int) ≤ 100) = true := by simp; omega
          have E : Hid (targB s = true) := by unfold Hid targB; rw [h1, HI.out]; simp [h2]
          go_wp2
          go_ret
          exact ⟨by rw [E.out]; rfl, rfl⟩
        · have h2' : decide ((s.size : Int) ≤ 100) = false := by simp; omega
          have E : Hid (targB s = false) := by unfold Hid targB; rw [h1, HI.out]; simp [h2]
          go_wp2
          go_ret
          exact ⟨by rw [E.out]; rfl, rfl⟩
      · have hp := (isEmpty_iff s).1 h1
        have hp' : decide ((1 : Int) ≤ (s.size : Int)) = false := by simp; omega
        have E : Hid (targB s = false) := by unfold Hid targB; rw [h1]; simp
        go_wp2
        go_ret
        exact ⟨by rw [E.out]; rfl, rfl⟩
theorem kind_out (kind : Int) (h1 : kind ≠ 1) (h2 : kind ≠ 2) (h3 : kind ≠ 3) : kind < 1 ∨ 3 < kind := by omega
set_option maxRecDepth 100000 in
set_option maxHeartbeats 2000000 in
theorem itself_x (path : ByteArray) (kind mode : Int) (data link : ByteArray) (w : World) (h1 : kind ≠ 1) (h2 : kind ≠ 2) (h3 : kind ≠ 3) :
    Calls Tryz.prog 77 #[.agg #[.string path, .int .i64 kind, .int .i64 mode, .string data, .string link]] w fun e w' => e = .returned (.int .i64 14) ∧ Below w.heap.size w w' := by
  by_cases hk : kind < 1
  · have k1 : decide (kind < 1) = true := by simpa using hk
    clear hk h1 h2 h3
    go_enter Tryz.func77, Tryz.ntmps77
    go_wp2
    go_ret
    exact ⟨rfl, (Below.refl _ _).alloc (Nat.le_refl _) _⟩
  · have k1 : decide (kind < 1) = false := by simpa using hk
    have k3 : decide (3 < kind) = true := by simp; omega
    clear hk h1 h2 h3
    go_enter Tryz.func77, Tryz.ntmps77
    go_wp2
    go_ret
    exact ⟨rfl, (Below.refl _ _).alloc (Nat.le_refl _) _⟩

set_option maxRecDepth 100000 in
set_option maxHeartbeats 2000000 in
theorem itself_1c (path : ByteArray) (mode : Int) (data link : ByteArray) (w : World) (hp : path.size ≤ 1099511627776) (_hlk : link.size ≤ 1099511627776) (hc : checkN path ≠ 0) :
    Calls Tryz.prog 77 #[.agg #[.string path, .int .i64 1, .int .i64 mode, .string data, .string link]] w fun e w' => e = .returned (.int .i64 (checkN path)) ∧ Below w.heap.size w w' := by
  have bE : Below w.heap.size w (w.alloc (.cells #[.string path, .int .i64 1, .int .i64 mode, .string data, .string link] 52)) := (Below.refl _ _).alloc (Nat.le_refl _) _
  have HC : (checkN path != 0) = true := by simpa using hc
  go_enter Tryz.func77, Tryz.ntmps77
  go_wp2_with (go_at_call 101; refine (check_r path _ hp).mono ?_; rintro e w1 ⟨rfl, hb⟩)
  go_ret
  exact ⟨rfl, bE.trans (hb.mono (by simp))⟩
set_option maxRecDepth 100000 in
set_option maxHeartbeats 2000000 in
theorem itself_1m0 (path : ByteArray) (mode : Int) (data link : ByteArray) (w : World) (hp : path.size ≤ 1099511627776) (_hlk : link.size ≤ 1099511627776) (hc : checkN path = 0) (hm0 : mode < 0) :
    Calls Tryz.prog 77 #[.agg #[.string path, .int .i64 1, .int .i64 mode, .string data, .string link]] w fun e w' => e = .returned (.int .i64 16) ∧ Below w.heap.size w w' := by
  have bE : Below w.heap.size w (w.alloc (.cells #[.string path, .int .i64 1, .int .i64 mode, .string data, .string link] 52)) := (Below.refl _ _).alloc (Nat.le_refl _) _
  have HC : Hid (checkN path = 0) := hc
  clear hc
  have b0 : decide (mode < 0) = true := by simpa using hm0
  clear hm0
  go_enter Tryz.func77, Tryz.ntmps77
  go_wp2_with ((go_at_call 101; refine (check_r path _ hp).mono ?_; rintro e w1 ⟨rfl, hb⟩; rw [HC.out]; obtain ⟨c0, c1, c2, c3, c4⟩ := (ent_new w 52 ⟨path, 1, mode, data, link⟩).below hb))
  go_ret
  exact ⟨rfl, bE.trans (hb.mono (by simp))⟩
set_option maxRecDepth 100000 in
set_option maxHeartbeats 2000000 in
theorem itself_1m1 (path : ByteArray) (mode : Int) (data link : ByteArray) (w : World) (hp : path.size ≤ 1099511627776) (_hlk : link.size ≤ 1099511627776) (hc : checkN path = 0) (hm0 : ¬ mode < 0) (hm1 : 4095 < mode) :
    Calls Tryz.prog 77 #[.agg #[.string path, .int .i64 1, .int .i64 mode, .string data, .string link]] w fun e w' => e = .returned (.int .i64 16) ∧ Below w.heap.size w w' := by
  have bE : Below w.heap.size w (w.alloc (.cells #[.string path, .int .i64 1, .int .i64 mode, .string data, .string link] 52)) := (Below.refl _ _).alloc (Nat.le_refl _) _
  have HC : Hid (checkN path = 0) := hc
  clear hc
  have b0 : decide (mode < 0) = false := by simpa using hm0
  have b1 : decide (4095 < mode) = true := by simpa using hm1
  clear hm0 hm1
  go_enter Tryz.func77, Tryz.ntmps77
  go_wp2_with ((go_at_call 101; refine (check_r path _ hp).mono ?_; rintro e w1 ⟨rfl, hb⟩; rw [HC.out]; obtain ⟨c0, c1, c2, c3, c4⟩ := (ent_new w 52 ⟨path, 1, mode, data, link⟩).below hb))
  go_ret
  exact ⟨rfl, bE.trans (hb.mono (by simp))⟩
set_option maxRecDepth 100000 in
set_option maxHeartbeats 2000000 in
theorem itself_1d (path : ByteArray) (mode : Int) (data link : ByteArray) (w : World) (hp : path.size ≤ 1099511627776) (_hlk : link.size ≤ 1099511627776) (hc : checkN path = 0) (hm0 : ¬ mode < 0) (hm1 : ¬ 4095 < mode) (hd : data.toList.isEmpty = false) :
    Calls Tryz.prog 77 #[.agg #[.string path, .int .i64 1, .int .i64 mode, .string data, .string link]] w fun e w' => e = .returned (.int .i64 4) ∧ Below w.heap.size w w' := by
  have bE : Below w.heap.size w (w.alloc (.cells #[.string path, .int .i64 1, .int .i64 mode, .string data, .string link] 52)) := (Below.refl _ _).alloc (Nat.le_refl _) _
  have HC : Hid (checkN path = 0) := hc
  clear hc
  have b0 : decide (mode < 0) = false := by simpa using hm0
  have b1 : decide (4095 < mode) = false := by simpa using hm1
  clear hm0 hm1
  go_enter Tryz.func77, Tryz.ntmps77
  go_wp2_with ((go_at_call 101; refine (check_r path _ hp).mono ?_; rintro e w1 ⟨rfl, hb⟩; rw [HC.out]; obtain ⟨c0, c1, c2, c3, c4⟩ := (ent_new w 52 ⟨path, 1, mode, data, link⟩).below hb))
  go_ret
  exact ⟨rfl, bE.trans (hb.mono (by simp))⟩
set_option maxRecDepth 100000 in
set_option maxHeartbeats 2000000 in
theorem itself_1l (path : ByteArray) (mode : Int) (data link : ByteArray) (w : World) (hp : path.size ≤ 1099511627776) (_hlk : link.size ≤ 1099511627776) (hc : checkN path = 0) (hm0 : ¬ mode < 0) (hm1 : ¬ 4095 < mode) (hd : data.toList.isEmpty = true) (hl : link.toList.isEmpty = false) :
    Calls Tryz.prog 77 #[.agg #[.string path, .int .i64 1, .int .i64 mode, .string data, .string link]] w fun e w' => e = .returned (.int .i64 4) ∧ Below w.heap.size w w' := by
  have bE : Below w.heap.size w (w.alloc (.cells #[.string path, .int .i64 1, .int .i64 mode, .string data, .string link] 52)) := (Below.refl _ _).alloc (Nat.le_refl _) _
  have HC : Hid (checkN path = 0) := hc
  clear hc
  have b0 : decide (mode < 0) = false := by simpa using hm0
  have b1 : decide (4095 < mode) = false := by simpa using hm1
  clear hm0 hm1
  go_enter Tryz.func77, Tryz.ntmps77
  go_wp2_with ((go_at_call 101; refine (check_r path _ hp).mono ?_; rintro e w1 ⟨rfl, hb⟩; rw [HC.out]; obtain ⟨c0, c1, c2, c3, c4⟩ := (ent_new w 52 ⟨path, 1, mode, data, link⟩).below hb))
  go_ret
  exact ⟨rfl, bE.trans (hb.mono (by simp))⟩
set_option maxRecDepth 100000 in
set_option maxHeartbeats 2000000 in
theorem itself_1o (path : ByteArray) (mode : Int) (data link : ByteArray) (w : World) (hp : path.size ≤ 1099511627776) (_hlk : link.size ≤ 1099511627776) (hc : checkN path = 0) (hm0 : ¬ mode < 0) (hm1 : ¬ 4095 < mode) (hd : data.toList.isEmpty = true) (hl : link.toList.isEmpty = true) :
    Calls Tryz.prog 77 #[.agg #[.string path, .int .i64 1, .int .i64 mode, .string data, .string link]] w fun e w' => e = .returned (.int .i64 0) ∧ Below w.heap.size w w' := by
  have bE : Below w.heap.size w (w.alloc (.cells #[.string path, .int .i64 1, .int .i64 mode, .string data, .string link] 52)) := (Below.refl _ _).alloc (Nat.le_refl _) _
  have HC : Hid (checkN path = 0) := hc
  clear hc
  have b0 : decide (mode < 0) = false := by simpa using hm0
  have b1 : decide (4095 < mode) = false := by simpa using hm1
  clear hm0 hm1
  go_enter Tryz.func77, Tryz.ntmps77
  go_wp2_with ((go_at_call 101; refine (check_r path _ hp).mono ?_; rintro e w1 ⟨rfl, hb⟩; rw [HC.out]; obtain ⟨c0, c1, c2, c3, c4⟩ := (ent_new w 52 ⟨path, 1, mode, data, link⟩).below hb))
  go_ret
  exact ⟨rfl, bE.trans (hb.mono (by simp))⟩
set_option maxRecDepth 100000 in
set_option maxHeartbeats 2000000 in
theorem itself_2c (path : ByteArray) (mode : Int) (data link : ByteArray) (w : World) (hp : path.size ≤ 1099511627776) (_hlk : link.size ≤ 1099511627776) (hc : checkN path ≠ 0) :
    Calls Tryz.prog 77 #[.agg #[.string path, .int .i64 2, .int .i64 mode, .string data, .string link]] w fun e w' => e = .returned (.int .i64 (checkN path)) ∧ Below w.heap.size w w' := by
  have bE : Below w.heap.size w (w.alloc (.cells #[.string path, .int .i64 2, .int .i64 mode, .string data, .string link] 52)) := (Below.refl _ _).alloc (Nat.le_refl _) _
  have HC : (checkN path != 0) = true := by simpa using hc
  go_enter Tryz.func77, Tryz.ntmps77
  go_wp2_with (go_at_call 101; refine (check_r path _ hp).mono ?_; rintro e w1 ⟨rfl, hb⟩)
  go_ret
  exact ⟨rfl, bE.trans (hb.mono (by simp))⟩
set_option maxRecDepth 100000 in
set_option maxHeartbeats 2000000 in
theorem itself_2m0 (path : ByteArray) (mode : Int) (data link : ByteArray) (w : World) (hp : path.size ≤ 1099511627776) (_hlk : link.size ≤ 1099511627776) (hc : checkN path = 0) (hm0 : mode < 0) :
    Calls Tryz.prog 77 #[.agg #[.string path, .int .i64 2, .int .i64 mode, .string data, .string link]] w fun e w' => e = .returned (.int .i64 16) ∧ Below w.heap.size w w' := by
  have bE : Below w.heap.size w (w.alloc (.cells #[.string path, .int .i64 2, .int .i64 mode, .string data, .string link] 52)) := (Below.refl _ _).alloc (Nat.le_refl _) _
  have HC : Hid (checkN path = 0) := hc
  clear hc
  have b0 : decide (mode < 0) = true := by simpa using hm0
  clear hm0
  go_enter Tryz.func77, Tryz.ntmps77
  go_wp2_with ((go_at_call 101; refine (check_r path _ hp).mono ?_; rintro e w1 ⟨rfl, hb⟩; rw [HC.out]; obtain ⟨c0, c1, c2, c3, c4⟩ := (ent_new w 52 ⟨path, 2, mode, data, link⟩).below hb))
  go_ret
  exact ⟨rfl, bE.trans (hb.mono (by simp))⟩
set_option maxRecDepth 100000 in
set_option maxHeartbeats 2000000 in
theorem itself_2m1 (path : ByteArray) (mode : Int) (data link : ByteArray) (w : World) (hp : path.size ≤ 1099511627776) (_hlk : link.size ≤ 1099511627776) (hc : checkN path = 0) (hm0 : ¬ mode < 0) (hm1 : 4095 < mode) :
    Calls Tryz.prog 77 #[.agg #[.string path, .int .i64 2, .int .i64 mode, .string data, .string link]] w fun e w' => e = .returned (.int .i64 16) ∧ Below w.heap.size w w' := by
  have bE : Below w.heap.size w (w.alloc (.cells #[.string path, .int .i64 2, .int .i64 mode, .string data, .string link] 52)) := (Below.refl _ _).alloc (Nat.le_refl _) _
  have HC : Hid (checkN path = 0) := hc
  clear hc
  have b0 : decide (mode < 0) = false := by simpa using hm0
  have b1 : decide (4095 < mode) = true := by simpa using hm1
  clear hm0 hm1
  go_enter Tryz.func77, Tryz.ntmps77
  go_wp2_with ((go_at_call 101; refine (check_r path _ hp).mono ?_; rintro e w1 ⟨rfl, hb⟩; rw [HC.out]; obtain ⟨c0, c1, c2, c3, c4⟩ := (ent_new w 52 ⟨path, 2, mode, data, link⟩).below hb))
  go_ret
  exact ⟨rfl, bE.trans (hb.mono (by simp))⟩
set_option maxRecDepth 100000 in
set_option maxHeartbeats 2000000 in
theorem itself_2z (path : ByteArray) (mode : Int) (data link : ByteArray) (w : World) (hp : path.size ≤ 1099511627776) (_hlk : link.size ≤ 1099511627776) (hc : checkN path = 0) (hm0 : ¬ mode < 0) (hm1 : ¬ 4095 < mode) (hz : 1048576 < data.size) :
    Calls Tryz.prog 77 #[.agg #[.string path, .int .i64 2, .int .i64 mode, .string data, .string link]] w fun e w' => e = .returned (.int .i64 5) ∧ Below w.heap.size w w' := by
  have bE : Below w.heap.size w (w.alloc (.cells #[.string path, .int .i64 2, .int .i64 mode, .string data, .string link] 52)) := (Below.refl _ _).alloc (Nat.le_refl _) _
  have HC : Hid (checkN path = 0) := hc
  clear hc
  have b0 : decide (mode < 0) = false := by simpa using hm0
  have b1 : decide (4095 < mode) = false := by simpa using hm1
  have bz : decide ((1048576 : Int) < (data.size : Int)) = true := by simp; omega
  clear hm0 hm1 hz
  go_enter Tryz.func77, Tryz.ntmps77
  go_wp2_with ((go_at_call 101; refine (check_r path _ hp).mono ?_; rintro e w1 ⟨rfl, hb⟩; rw [HC.out]; obtain ⟨c0, c1, c2, c3, c4⟩ := (ent_new w 52 ⟨path, 2, mode, data, link⟩).below hb))
  go_ret
  exact ⟨rfl, bE.trans (hb.mono (by simp))⟩
set_option maxRecDepth 100000 in
set_option maxHeartbeats 2000000 in
theorem itself_2l (path : ByteArray) (mode : Int) (data link : ByteArray) (w : World) (hp : path.size ≤ 1099511627776) (_hlk : link.size ≤ 1099511627776) (hc : checkN path = 0) (hm0 : ¬ mode < 0) (hm1 : ¬ 4095 < mode) (hz : ¬ 1048576 < data.size) (hl : link.toList.isEmpty = false) :
    Calls Tryz.prog 77 #[.agg #[.string path, .int .i64 2, .int .i64 mode, .string data, .string link]] w fun e w' => e = .returned (.int .i64 4) ∧ Below w.heap.size w w' := by
  have bE : Below w.heap.size w (w.alloc (.cells #[.string path, .int .i64 2, .int .i64 mode, .string data, .string link] 52)) := (Below.refl _ _).alloc (Nat.le_refl _) _
  have HC : Hid (checkN path = 0) := hc
  clear hc
  have b0 : decide (mode < 0) = false := by simpa using hm0
  have b1 : decide (4095 < mode) = false := by simpa using hm1
  have bz : decide ((1048576 : Int) < (data.size : Int)) = false := by simp; omega
  clear hm0 hm1 hz
  go_enter Tryz.func77, Tryz.ntmps77
  go_wp2_with ((go_at_call 101; refine (check_r path _ hp).mono ?_; rintro e w1 ⟨rfl, hb⟩; rw [HC.out]; obtain ⟨c0, c1, c2, c3, c4⟩ := (ent_new w 52 ⟨path, 2, mode, data, link⟩).below hb))
  go_ret
  exact ⟨rfl, bE.trans (hb.mono (by simp))⟩
set_option maxRecDepth 100000 in
set_option maxHeartbeats 2000000 in
theorem itself_2o (path : ByteArray) (mode : Int) (data link : ByteArray) (w : World) (hp : path.size ≤ 1099511627776) (_hlk : link.size ≤ 1099511627776) (hc : checkN path = 0) (hm0 : ¬ mode < 0) (hm1 : ¬ 4095 < mode) (hz : ¬ 1048576 < data.size) (hl : link.toList.isEmpty = true) :
    Calls Tryz.prog 77 #[.agg #[.string path, .int .i64 2, .int .i64 mode, .string data, .string link]] w fun e w' => e = .returned (.int .i64 0) ∧ Below w.heap.size w w' := by
  have bE : Below w.heap.size w (w.alloc (.cells #[.string path, .int .i64 2, .int .i64 mode, .string data, .string link] 52)) := (Below.refl _ _).alloc (Nat.le_refl _) _
  have HC : Hid (checkN path = 0) := hc
  clear hc
  have b0 : decide (mode < 0) = false := by simpa using hm0
  have b1 : decide (4095 < mode) = false := by simpa using hm1
  have bz : decide ((1048576 : Int) < (data.size : Int)) = false := by simp; omega
  clear hm0 hm1 hz
  go_enter Tryz.func77, Tryz.ntmps77
  go_wp2_with ((go_at_call 101; refine (check_r path _ hp).mono ?_; rintro e w1 ⟨rfl, hb⟩; rw [HC.out]; obtain ⟨c0, c1, c2, c3, c4⟩ := (ent_new w 52 ⟨path, 2, mode, data, link⟩).below hb))
  go_ret
  exact ⟨rfl, bE.trans (hb.mono (by simp))⟩
set_option maxRecDepth 100000 in
set_option maxHeartbeats 2000000 in
theorem itself_3c (path : ByteArray) (mode : Int) (data link : ByteArray) (w : World) (hp : path.size ≤ 1099511627776) (_hlk : link.size ≤ 1099511627776) (hc : checkN path ≠ 0) :
    Calls Tryz.prog 77 #[.agg #[.string path, .int .i64 3, .int .i64 mode, .string data, .string link]] w fun e w' => e = .returned (.int .i64 (checkN path)) ∧ Below w.heap.size w w' := by
  have bE : Below w.heap.size w (w.alloc (.cells #[.string path, .int .i64 3, .int .i64 mode, .string data, .string link] 52)) := (Below.refl _ _).alloc (Nat.le_refl _) _
  have HC : (checkN path != 0) = true := by simpa using hc
  go_enter Tryz.func77, Tryz.ntmps77
  go_wp2_with (go_at_call 101; refine (check_r path _ hp).mono ?_; rintro e w1 ⟨rfl, hb⟩)
  go_ret
  exact ⟨rfl, bE.trans (hb.mono (by simp))⟩
set_option maxRecDepth 100000 in
set_option maxHeartbeats 2000000 in
theorem itself_3m0 (path : ByteArray) (mode : Int) (data link : ByteArray) (w : World) (hp : path.size ≤ 1099511627776) (_hlk : link.size ≤ 1099511627776) (hc : checkN path = 0) (hm0 : mode < 0) :
    Calls Tryz.prog 77 #[.agg #[.string path, .int .i64 3, .int .i64 mode, .string data, .string link]] w fun e w' => e = .returned (.int .i64 16) ∧ Below w.heap.size w w' := by
  have bE : Below w.heap.size w (w.alloc (.cells #[.string path, .int .i64 3, .int .i64 mode, .string data, .string link] 52)) := (Below.refl _ _).alloc (Nat.le_refl _) _
  have HC : Hid (checkN path = 0) := hc
  clear hc
  have b0 : decide (mode < 0) = true := by simpa using hm0
  clear hm0
  go_enter Tryz.func77, Tryz.ntmps77
  go_wp2_with ((go_at_call 101; refine (check_r path _ hp).mono ?_; rintro e w1 ⟨rfl, hb⟩; rw [HC.out]; obtain ⟨c0, c1, c2, c3, c4⟩ := (ent_new w 52 ⟨path, 3, mode, data, link⟩).below hb))
  go_ret
  exact ⟨rfl, bE.trans (hb.mono (by simp))⟩
set_option maxRecDepth 100000 in
set_option maxHeartbeats 2000000 in
theorem itself_3m1 (path : ByteArray) (mode : Int) (data link : ByteArray) (w : World) (hp : path.size ≤ 1099511627776) (_hlk : link.size ≤ 1099511627776) (hc : checkN path = 0) (hm0 : ¬ mode < 0) (hm1 : 4095 < mode) :
    Calls Tryz.prog 77 #[.agg #[.string path, .int .i64 3, .int .i64 mode, .string data, .string link]] w fun e w' => e = .returned (.int .i64 16) ∧ Below w.heap.size w w' := by
  have bE : Below w.heap.size w (w.alloc (.cells #[.string path, .int .i64 3, .int .i64 mode, .string data, .string link] 52)) := (Below.refl _ _).alloc (Nat.le_refl _) _
  have HC : Hid (checkN path = 0) := hc
  clear hc
  have b0 : decide (mode < 0) = false := by simpa using hm0
  have b1 : decide (4095 < mode) = true := by simpa using hm1
  clear hm0 hm1
  go_enter Tryz.func77, Tryz.ntmps77
  go_wp2_with ((go_at_call 101; refine (check_r path _ hp).mono ?_; rintro e w1 ⟨rfl, hb⟩; rw [HC.out]; obtain ⟨c0, c1, c2, c3, c4⟩ := (ent_new w 52 ⟨path, 3, mode, data, link⟩).below hb))
  go_ret
  exact ⟨rfl, bE.trans (hb.mono (by simp))⟩
set_option maxRecDepth 100000 in
set_option maxHeartbeats 2000000 in
theorem itself_3m5 (path : ByteArray) (mode : Int) (data link : ByteArray) (w : World) (hp : path.size ≤ 1099511627776) (_hlk : link.size ≤ 1099511627776) (hc : checkN path = 0) (hm0 : ¬ mode < 0) (hm1 : ¬ 4095 < mode) (hm5 : mode ≠ 511) :
    Calls Tryz.prog 77 #[.agg #[.string path, .int .i64 3, .int .i64 mode, .string data, .string link]] w fun e w' => e = .returned (.int .i64 16) ∧ Below w.heap.size w w' := by
  have bE : Below w.heap.size w (w.alloc (.cells #[.string path, .int .i64 3, .int .i64 mode, .string data, .string link] 52)) := (Below.refl _ _).alloc (Nat.le_refl _) _
  have HC : Hid (checkN path = 0) := hc
  clear hc
  have b0 : decide (mode < 0) = false := by simpa using hm0
  have b1 : decide (4095 < mode) = false := by simpa using hm1
  have b5 : (mode != 511) = true := by simpa using hm5
  clear hm0 hm1 hm5
  go_enter Tryz.func77, Tryz.ntmps77
  go_wp2_with ((go_at_call 101; refine (check_r path _ hp).mono ?_; rintro e w1 ⟨rfl, hb⟩; rw [HC.out]; obtain ⟨c0, c1, c2, c3, c4⟩ := (ent_new w 52 ⟨path, 3, mode, data, link⟩).below hb))
  go_ret
  exact ⟨rfl, bE.trans (hb.mono (by simp))⟩
set_option maxRecDepth 100000 in
set_option maxHeartbeats 2000000 in
theorem itself_3t (path : ByteArray) (mode : Int) (data link : ByteArray) (w : World) (hp : path.size ≤ 1099511627776) (hlk : link.size ≤ 1099511627776) (hc : checkN path = 0) (hm0 : ¬ mode < 0) (hm1 : ¬ 4095 < mode) (hm5 : mode = 511) (ht : targB link = false) :
    Calls Tryz.prog 77 #[.agg #[.string path, .int .i64 3, .int .i64 mode, .string data, .string link]] w fun e w' => e = .returned (.int .i64 17) ∧ Below w.heap.size w w' := by
  have bE : Below w.heap.size w (w.alloc (.cells #[.string path, .int .i64 3, .int .i64 mode, .string data, .string link] 52)) := (Below.refl _ _).alloc (Nat.le_refl _) _
  have HC : Hid (checkN path = 0) := hc
  clear hc
  have b0 : decide (mode < 0) = false := by simpa using hm0
  have b1 : decide (4095 < mode) = false := by simpa using hm1
  have b5 : (mode != 511) = false := by simpa using hm5
  have HT : Hid (targB link = false) := ht
  clear ht
  clear hm0 hm1 hm5
  go_enter Tryz.func77, Tryz.ntmps77
  go_wp2_with ((first | (go_at_call 101; refine (check_r path _ hp).mono ?_; rintro e w1 ⟨rfl, hb⟩; rw [HC.out]; obtain ⟨c0, c1, c2, c3, c4⟩ := (ent_new w 52 ⟨path, 3, mode, data, link⟩).below hb) | (go_at_call 102; refine (target_r link _ (by omega)).mono ?_; rintro e w2 ⟨rfl, hw2⟩; subst hw2; rw [HT.out])))
  go_ret
  exact ⟨rfl, bE.trans (hb.mono (by simp))⟩
set_option maxRecDepth 100000 in
set_option maxHeartbeats 2000000 in
theorem itself_3d (path : ByteArray) (mode : Int) (data link : ByteArray) (w : World) (hp : path.size ≤ 1099511627776) (hlk : link.size ≤ 1099511627776) (hc : checkN path = 0) (hm0 : ¬ mode < 0) (hm1 : ¬ 4095 < mode) (hm5 : mode = 511) (ht : targB link = true) (hd : data.toList.isEmpty = false) :
    Calls Tryz.prog 77 #[.agg #[.string path, .int .i64 3, .int .i64 mode, .string data, .string link]] w fun e w' => e = .returned (.int .i64 4) ∧ Below w.heap.size w w' := by
  have bE : Below w.heap.size w (w.alloc (.cells #[.string path, .int .i64 3, .int .i64 mode, .string data, .string link] 52)) := (Below.refl _ _).alloc (Nat.le_refl _) _
  have HC : Hid (checkN path = 0) := hc
  clear hc
  have b0 : decide (mode < 0) = false := by simpa using hm0
  have b1 : decide (4095 < mode) = false := by simpa using hm1
  have b5 : (mode != 511) = false := by simpa using hm5
  have HT : Hid (targB link = true) := ht
  clear ht
  clear hm0 hm1 hm5
  go_enter Tryz.func77, Tryz.ntmps77
  go_wp2_with ((first | (go_at_call 101; refine (check_r path _ hp).mono ?_; rintro e w1 ⟨rfl, hb⟩; rw [HC.out]; obtain ⟨c0, c1, c2, c3, c4⟩ := (ent_new w 52 ⟨path, 3, mode, data, link⟩).below hb) | (go_at_call 102; refine (target_r link _ (by omega)).mono ?_; rintro e w2 ⟨rfl, hw2⟩; subst hw2; rw [HT.out])))
  go_ret
  exact ⟨rfl, bE.trans (hb.mono (by simp))⟩
set_option maxRecDepth 100000 in
set_option maxHeartbeats 2000000 in
theorem itself_3o (path : ByteArray) (mode : Int) (data link : ByteArray) (w : World) (hp : path.size ≤ 1099511627776) (hlk : link.size ≤ 1099511627776) (hc : checkN path = 0) (hm0 : ¬ mode < 0) (hm1 : ¬ 4095 < mode) (hm5 : mode = 511) (ht : targB link = true) (hd : data.toList.isEmpty = true) :
    Calls Tryz.prog 77 #[.agg #[.string path, .int .i64 3, .int .i64 mode, .string data, .string link]] w fun e w' => e = .returned (.int .i64 0) ∧ Below w.heap.size w w' := by
  have bE : Below w.heap.size w (w.alloc (.cells #[.string path, .int .i64 3, .int .i64 mode, .string data, .string link] 52)) := (Below.refl _ _).alloc (Nat.le_refl _) _
  have HC : Hid (checkN path = 0) := hc
  clear hc
  have b0 : decide (mode < 0) = false := by simpa using hm0
  have b1 : decide (4095 < mode) = false := by simpa using hm1
  have b5 : (mode != 511) = false := by simpa using hm5
  have HT : Hid (targB link = true) := ht
  clear ht
  clear hm0 hm1 hm5
  go_enter Tryz.func77, Tryz.ntmps77
  go_wp2_with ((first | (go_at_call 101; refine (check_r path _ hp).mono ?_; rintro e w1 ⟨rfl, hb⟩; rw [HC.out]; obtain ⟨c0, c1, c2, c3, c4⟩ := (ent_new w 52 ⟨path, 3, mode, data, link⟩).below hb) | (go_at_call 102; refine (target_r link _ (by omega)).mono ?_; rintro e w2 ⟨rfl, hw2⟩; subst hw2; rw [HT.out])))
  go_ret
  exact ⟨rfl, bE.trans (hb.mono (by simp))⟩
theorem itself_r (e : Ent) (w : World) (hp : e.path.size ≤ 1099511627776) (hlk : e.link.size ≤ 1099511627776) :
    Calls Tryz.prog 77 #[.agg #[.string e.path, .int .i64 e.kind, .int .i64 e.mode, .string e.data, .string e.link]] w fun ex w' => ex = .returned (.int .i64 (wrongN e)) ∧ Below w.heap.size w w' := by
  obtain ⟨path, kind, mode, data, link⟩ := e
  by_cases h1 : kind = 1
  · subst h1
    by_cases hc : checkN path = 0
    · by_cases m0 : mode < 0
      · simpa [wrongN, hc, m0] using itself_1m0 path mode data link w hp hlk hc m0
      · by_cases m1 : 4095 < mode
        · simpa [wrongN, hc, m0, m1] using itself_1m1 path mode data link w hp hlk hc m0 m1
        · cases hd : data.toList.isEmpty
          · simpa [wrongN, hc, m0, m1, hd] using itself_1d path mode data link w hp hlk hc m0 m1 hd
          · cases hl : link.toList.isEmpty
            · simpa [wrongN, hc, m0, m1, hd, hl] using itself_1l path mode data link w hp hlk hc m0 m1 hd hl
            · simpa [wrongN, hc, m0, m1, hd, hl] using itself_1o path mode data link w hp hlk hc m0 m1 hd hl
    · simpa [wrongN, hc] using itself_1c path mode data link w hp hlk hc
  · by_cases h2 : kind = 2
    · subst h2
      by_cases hc : checkN path = 0
      · by_cases m0 : mode < 0
        · simpa [wrongN, hc, m0] using itself_2m0 path mode data link w hp hlk hc m0
        · by_cases m1 : 4095 < mode
          · simpa [wrongN, hc, m0, m1] using itself_2m1 path mode data link w hp hlk hc m0 m1
          · by_cases hz : 1048576 < data.size
            · simpa [wrongN, hc, m0, m1, hz] using itself_2z path mode data link w hp hlk hc m0 m1 hz
            · cases hl : link.toList.isEmpty
              · simpa [wrongN, hc, m0, m1, hz, hl] using itself_2l path mode data link w hp hlk hc m0 m1 hz hl
              · simpa [wrongN, hc, m0, m1, hz, hl] using itself_2o path mode data link w hp hlk hc m0 m1 hz hl
      · simpa [wrongN, hc] using itself_2c path mode data link w hp hlk hc
    · by_cases h3 : kind = 3
      · subst h3
        by_cases hc : checkN path = 0
        · by_cases m0 : mode < 0
          · simpa [wrongN, hc, m0] using itself_3m0 path mode data link w hp hlk hc m0
          · by_cases m1 : 4095 < mode
            · simpa [wrongN, hc, m0, m1] using itself_3m1 path mode data link w hp hlk hc m0 m1
            · by_cases m5 : mode = 511
              · cases ht : targB link
                · simpa [wrongN, hc, m5, ht] using itself_3t path mode data link w hp hlk hc m0 m1 m5 ht
                · cases hd : data.toList.isEmpty
                  · simpa [wrongN, hc, m5, ht, hd] using itself_3d path mode data link w hp hlk hc m0 m1 m5 ht hd
                  · simpa [wrongN, hc, m5, ht, hd] using itself_3o path mode data link w hp hlk hc m0 m1 m5 ht hd
              · simpa [wrongN, hc, m0, m1, m5] using itself_3m5 path mode data link w hp hlk hc m0 m1 m5
        · simpa [wrongN, hc] using itself_3c path mode data link w hp hlk hc
      · simpa [wrongN, h1, h2, h3] using itself_x path kind mode data link w h1 h2 h3
end Go.Proofs.YtfglanibbngdmaaGreatDoor

namespace Go.Proofs.YtfglanibbngdmaaGreatDoor
open Go Go.RowKit

/-- Where the entry at a path stands. -/
def findN (L : List Ent) (p : ByteArray) : Int := match L.findIdx? (pathIs p) with | some k => k | none => -1
theorem isdir_r (x : Ent) (w : World) : Calls Tryz.prog 52 #[.agg #[.string x.path, .int .i64 x.kind, .int .i64 x.mode, .string x.data, .string x.link]] w fun e w' => e = .returned (.bool (x.kind == 1)) ∧ Below w.heap.size w w' := by
  go_enter Tryz.func52, Tryz.ntmps52
  go_wp2
  go_ret
  exact ⟨rfl, (Below.refl _ _).alloc (Nat.le_refl _) _⟩
set_option maxRecDepth 100000 in
set_option maxHeartbeats 2000000 in
theorem find_r (v : Value) (L : List Ent) (p : ByteArray) (w : World) (hv : EntsAt w v L) (hl : L.length ≤ 4611686018427387904) : Calls Tryz.prog 51 #[v, .string p] w fun e w' => e = .returned (.int .i64 (findN L p)) ∧ w' = w := by
  obtain ⟨a, cap, b, o, rfl, ha, hcap, hc⟩ := hv
  go_enter Tryz.func51, Tryz.ntmps51
  go_wp2
  go_loop [5] (fun i => ∃ k : Nat, k ≤ L.length ∧ i = .int .i64 k ∧ ∀ (j : Nat) e, j < k → L[j]? = some e → pathIs p e = false) (fun i => L.length - (intOf i).toNat)
  case atStart => exact ⟨0, Nat.zero_le _, rfl, fun j e hj => by omega⟩
  case round =>
    obtain ⟨k, hk, rfl, hn⟩ := hrel
    have HN : Hid (∀ (j : Nat) e, j < k → L[j]? = some e → pathIs p e = false) := hn
    clear hn
    by_cases hlt : k < L.length
    · have hlt' : (k : Int) < (L.length : Int) := by omega
      have hk0 : (0 : Int) ≤ (k : Int) := by omega
      obtain ⟨x, hx⟩ : ∃ x, L[k]? = some x := ⟨_, List.getElem?_eq_getElem hlt⟩
      obtain rfl := ha (fun e => by rw [e] at hlt; simp at hlt)
      have c0 := (hc k x hx).c0
      have hpi : pathIs p x = (x.path.toList == p.toList) := by unfold pathIs; rw [toList_un, toList_un]
      cases hq : pathIs p x with
      | true =>
        have E : Hid (findN L p = k) := by
          unfold Hid findN
          rw [show L.findIdx? (pathIs p) = some k from by
            rw [List.findIdx?_eq_some_iff_getElem]
            refine ⟨hlt, ?_, fun j hj => ?_⟩
            · have := (List.getElem?_eq_some_iff.1 hx).2; rw [this]; exact hq
            · have := HN.out j _ hj (List.getElem?_eq_getElem (by omega)); simpa using this]
        rw [hq] at hpi
        have hpb : (x.path.toList == p.toList) = true := hpi.symm
        clear hx hc ha hpi hq
        go_wp2
        go_ret
        exact ⟨by rw [E.out]; rfl, rfl⟩
      | false =>
        rw [hq] at hpi
        have hpb : (x.path.toList == p.toList) = false := hpi.symm
        have HN2 : Hid (∀ (j : Nat) e, j < k + 1 → L[j]? = some e → pathIs p e = false) := fun j e hj he => by
          rcases Nat.lt_succ_iff_lt_or_eq.1 hj with h1 | rfl
          · exact HN.out j e h1 he
          · rw [hx] at he; cases he; exact hq
        clear hx hc ha hpi hq
        go_wp2
        go_round
        case rel => exact ⟨k + 1, by omega, by go_num, HN2.out⟩
        case measure => simp [intOf]; omega
    · have hge : ¬ (k : Int) < (L.length : Int) := by omega
      have E : Hid (findN L p = -1) := by
        unfold Hid findN
        rw [show L.findIdx? (pathIs p) = none from by
          rw [List.findIdx?_eq_none_iff]
          intro e he
          obtain ⟨j, hj⟩ := List.getElem?_of_mem he
          exact HN.out j e (by have := (List.getElem?_eq_some_iff.1 hj).1; omega) hj]
      go_wp2
      go_ret
      exact ⟨by rw [E.out]; rfl, rfl⟩
theorem find_at {L : List Ent} {p : ByteArray} : (L.find? (pathIs p) = none ∧ findN L p = -1) ∨ ∃ (k : Nat) (x : Ent), L[k]? = some x ∧ L.find? (pathIs p) = some x ∧ findN L p = k := by
  unfold findN
  cases h : L.findIdx? (pathIs p) with
  | none =>
    left
    refine ⟨List.find?_eq_none.2 (fun x hx => ?_), rfl⟩
    have := List.findIdx?_eq_none_iff.1 h x hx
    simp [this]
  | some k =>
    right
    obtain ⟨h1, h2, h3⟩ := List.findIdx?_eq_some_iff_getElem.1 h
    refine ⟨k, L[k], List.getElem?_eq_getElem h1, ?_, rfl⟩
    rw [List.find?_eq_some_iff_getElem]
    exact ⟨h2, k, h1, rfl, fun j hj => by simpa using h3 j hj⟩
set_option maxRecDepth 100000 in
set_option maxHeartbeats 2000000 in
theorem up_r (v : Value) (L : List Ent) (p : ByteArray) (w : World) (hv : EntsAt w v L) (hl : L.length ≤ 4611686018427387904) (hp : p.size < 4611686018427387904) : Calls Tryz.prog 79 #[v, .string p] w fun e w' => e = .returned (.int .i64 (upN L p)) ∧ Below w.heap.size w w' := by
  by_cases hz : (parentB p).size = 0
  · have he : (parentB p).toList.isEmpty = true := (isEmpty_iff _).2 hz
    have E : Hid (upN L p = 0) := if_pos hz
    go_enter Tryz.func79, Tryz.ntmps79
    go_wp2_with (go_at_call 104; refine (parent_r _ _ hp).mono ?_; rintro e w1 ⟨rfl, hw⟩; subst hw)
    go_ret
    exact ⟨by rw [E.out]; rfl, Below.refl _ _⟩
  · have he : (parentB p).toList.isEmpty = false := (isEmpty_false _).2 (by omega)
    have hF := find_r v L (parentB p) w hv hl
    rcases find_at (L := L) (p := parentB p) with ⟨h1, h2⟩ | ⟨k, x, h1, h2, h3⟩
    · have E : Hid (upN L p = 10) := by unfold Hid upN; rw [if_neg hz, h1]
      rw [h2] at hF
      clear hz h1 h2 hv
      go_enter Tryz.func79, Tryz.ntmps79
      go_wp2_with (first | (go_at_call 104; refine (parent_r _ _ hp).mono ?_; rintro e w1 ⟨rfl, hw⟩; subst hw) | (go_at_call 51; refine hF.mono ?_; rintro e w1 ⟨rfl, hw⟩; subst hw))
      go_ret
      exact ⟨by rw [E.out]; rfl, Below.refl _ _⟩
    · rw [h3] at hF
      have hlt := (List.getElem?_eq_some_iff.1 h1).1
      have hlt' : (k : Int) < (L.length : Int) := by omega
      have hk0 : (0 : Int) ≤ (k : Int) := by omega
      have hkn : decide ((k : Int) < 0) = false := by simp
      obtain ⟨a, cap, b, o, rfl, ha, hcap, hc⟩ := hv
      obtain rfl := ha (fun e => by rw [e] at hlt; simp at hlt)
      obtain ⟨c0, c1, c2, c3, c4⟩ := hc k x h1
      by_cases hk : x.kind = 1
      · have E : Hid (upN L p = 0) := by unfold Hid upN; rw [if_neg hz, h2]; simp [hk]
        have HKD : Hid ((x.kind == 1) = true) := by simpa [Hid] using hk
        clear hz h1 h2 hc ha hk
        go_enter Tryz.func79, Tryz.ntmps79
        go_wp2_with (first | (go_at_call 104; refine (parent_r _ _ hp).mono ?_; rintro e w1 ⟨rfl, hw⟩; subst hw) | (go_at_call 51; refine hF.mono ?_; rintro e w1 ⟨rfl, hw⟩; subst hw) | (go_at_call 52; refine (isdir_r x _).mono ?_; rintro e w2 ⟨rfl, hb2⟩; rw [HKD.out]))
        go_ret
        exact ⟨by rw [E.out]; rfl, hb2⟩
      · have E : Hid (upN L p = 13) := by unfold Hid upN; rw [if_neg hz, h2]; simp [hk]
        have HKD : Hid ((x.kind == 1) = false) := by simpa [Hid] using hk
        clear hz h1 h2 hc ha hk
        go_enter Tryz.func79, Tryz.ntmps79
        go_wp2_with (first | (go_at_call 104; refine (parent_r _ _ hp).mono ?_; rintro e w1 ⟨rfl, hw⟩; subst hw) | (go_at_call 51; refine hF.mono ?_; rintro e w1 ⟨rfl, hw⟩; subst hw) | (go_at_call 52; refine (isdir_r x _).mono ?_; rintro e w2 ⟨rfl, hb2⟩; rw [HKD.out]))
        go_ret
        exact ⟨by rw [E.out]; rfl, hb2⟩
end Go.Proofs.YtfglanibbngdmaaGreatDoor

namespace Go.Proofs.YtfglanibbngdmaaGreatDoor
open Go Go.RowKit

theorem compare_less : ∀ a b : List UInt8, Lib.compareBytes a b = if Op.bytesLess a b then -1 else if a == b then 0 else 1
  | [], [] => rfl
  | [], _ :: _ => rfl
  | _ :: _, [] => rfl
  | x :: a, y :: b => by
    have ih := compare_less a b
    unfold Lib.compareBytes Op.bytesLess
    by_cases h1 : x < y
    · simp [h1]
    · by_cases h2 : y < x
      · have hne : x ≠ y := fun e => h1 (e ▸ h2)
        simp [h1, h2, hne]
      · have e : x = y := by
          have a1 : ¬ x.toNat < y.toNat := h1
          have a2 : ¬ y.toNat < x.toNat := h2
          exact UInt8.toNat_inj.1 (by omega)
        subst e
        simp only [h1, if_false, ih]
        simp
theorem cmpB_less (x y : ByteArray) : cmpB x y = if Op.bytesLess x.toList y.toList then -1 else if x.toList == y.toList then 0 else 1 := by
  unfold cmpB; rw [toList_un, toList_un]; exact compare_less _ _
theorem compareP_step (pre : List ByteArray) (x y : ByteArray) (xs ys : List ByteArray) (h : cmpB x y ≠ 0) : compareP (pre ++ x :: xs) (pre ++ y :: ys) = cmpB x y := by
  rw [compareP_same]; exact if_neg h
theorem row_at {w : World} {g : Nat} {pre xs : List ByteArray} {x : ByteArray} (h : Row w g (pre ++ x :: xs)) : w.cell? ⟨g, pre.length, none⟩ = some (.string x) := h _ _ (by simp)

set_option maxRecDepth 100000 in
set_option maxHeartbeats 4000000 in
theorem compare_r (a b : ByteArray) (w : World) (ha : a.size ≤ 1099511627776) (hb : b.size ≤ 1099511627776) : Calls Tryz.prog 78 #[.string a, .string b] w fun e w' => e = .returned (.int .i64 (compareN a b)) ∧ Below w.heap.size w w' := by
  have hla := piecesB_length a
  have hlb := piecesB_length b
  go_enter Tryz.func78, Tryz.ntmps78
  go_wp2_with fail
  refine (cut_row a _ ha).mono ?_
  rintro e w1 ⟨g1, cap1, rfl, hr1, hg1, _, b1⟩
  go_wp2_with fail
  refine (cut_row b _ hb).mono ?_
  rintro e w2 ⟨g2, cap2, rfl, hr2, hg2, _, b2⟩
  replace hr1 := hr1.below hg1 b2
  have hz2 := b2.size
  have b3 := b1.trans (b2.mono b1.size)
  clear b1 b2
  have HR1 : Hid _ := hr1
  have HR2 : Hid _ := hr2
  clear hr1 hr2
  go_wp2_with fail
  go_loopw [7] (fun i wr => ∃ (pre xs ys : List ByteArray) (q : Nat), piecesB a = pre ++ xs ∧ piecesB b = pre ++ ys ∧ i = .int .i64 pre.length ∧ wr = w2.drewN q) (fun i _ => (piecesB a).length - (intOf i).toNat)
  case atStart => exact ⟨[], _, _, 0, rfl, rfl, rfl, rfl⟩
  case round =>
    obtain ⟨pre, xs, ys, q, hx, hy, rfl, rfl⟩ := hrel
    have hlx : (piecesB a).length = pre.length + xs.length := by rw [hx]; simp
    have hly : (piecesB b).length = pre.length + ys.length := by rw [hy]; simp
    have HX : Hid _ := hx
    have HY : Hid _ := hy
    have HC : Hid (compareN a b = compareP xs ys) := by unfold Hid compareN; rw [hx, hy, compareP_same]
    cases xs with
    | nil =>
      simp only [List.length_nil, Nat.add_zero] at hlx
      cases ys with
      | nil =>
        simp only [List.length_nil, Nat.add_zero] at hly
        have l1 : ¬ (pre.length : Int) < (piecesB a).length := by omega
        have l2 : ¬ ((piecesB a).length : Int) < (piecesB b).length := by omega
        have l3 : ¬ ((piecesB b).length : Int) < (piecesB a).length := by omega
        clear hx hy hlx hly
        go_wp2
        go_ret
        exact ⟨by rw [HC.out]; rfl, b3.trans ((below_draw w2 q).mono b3.size)⟩
      | cons y ys =>
        simp only [List.length_cons] at hly
        have l1 : ¬ (pre.length : Int) < (piecesB a).length := by omega
        have l2 : ((piecesB a).length : Int) < (piecesB b).length := by omega
        clear hx hy hlx hly
        go_wp2
        go_ret
        exact ⟨by rw [HC.out]; rfl, b3.trans ((below_draw w2 q).mono b3.size)⟩
    | cons x xs =>
      simp only [List.length_cons] at hlx
      have l1 : (pre.length : Int) < (piecesB a).length := by omega
      cases ys with
      | nil =>
        simp only [List.length_nil, Nat.add_zero] at hly
        have l2 : ¬ (pre.length : Int) < (piecesB b).length := by omega
        have l3 : ¬ ((piecesB a).length : Int) < (piecesB b).length := by omega
        have l4 : ((piecesB b).length : Int) < (piecesB a).length := by omega
        clear hx hy hlx hly
        go_wp2
        go_ret
        exact ⟨by rw [HC.out]; rfl, b3.trans ((below_draw w2 q).mono b3.size)⟩
      | cons y ys =>
        simp only [List.length_cons] at hly
        have l2 : (pre.length : Int) < (piecesB b).length := by omega
        have hc1 := row_at (hx ▸ HR1.out)
        have hc2 := row_at (hy ▸ HR2.out)
        have HLX : Hid _ := hlx
        have HLY : Hid _ := hly
        clear hx hy hlx hly
        have hcm := cmpB_less x y
        cases e1 : Op.bytesLess x.toList y.toList
        · cases e2 : (x.toList == y.toList)
          · have HZ : Hid (compareN a b = 1) := by unfold Hid; rw [HC.out]; unfold compareP; rw [hcm, e1, e2]; rfl
            clear hcm
            go_wp2
            go_quiet (fail)
            go_wp2
            go_quiet (fail)
            go_wp2
            go_ret
            exact ⟨by rw [HZ.out]; rfl, b3.trans ⟨rfl, rfl, rfl, Nat.le_refl _, fun _ _ => rfl⟩⟩
          · have hxy : x = y := un_inj (by rw [← toList_un, ← toList_un]; exact beq_iff_eq.1 e2)
            have HXY : Hid _ := hxy
            clear hcm hxy
            go_wp2
            go_quiet (fail)
            go_wp2
            go_quiet (fail)
            go_wp2
            go_roundw
            case rel => exact ⟨pre ++ [x], xs, ys, _, by rw [HX.out]; simp, by rw [HY.out, HXY.out]; simp, by simp, rfl⟩
            case measure => have h := HLX.out; simp [intOf]; omega
        · have HZ : Hid (compareN a b = -1) := by unfold Hid; rw [HC.out]; unfold compareP; rw [hcm, e1]; rfl
          clear hcm
          go_wp2
          go_quiet (fail)
          go_wp2
          go_ret
          exact ⟨by rw [HZ.out]; rfl, b3.trans ⟨rfl, rfl, rfl, Nat.le_refl _, fun _ _ => rfl⟩⟩
end Go.Proofs.YtfglanibbngdmaaGreatDoor

namespace Go.Proofs.YtfglanibbngdmaaGreatDoor
open Go Go.RowKit

def oneD (L : List Ent) (e : Ent) : Int :=
  if wrongN e ≠ 0 then wrongN e else if L ≠ [] ∧ pathIs e.path ⟨lastP L, 0, 0, ⟨#[]⟩, ⟨#[]⟩⟩ = true then 11 else if L ≠ [] ∧ 0 < compareN (lastP L) e.path then 1
  else if upN L e.path ≠ 0 then upN L e.path else if 4096 ≤ L.length ∨ (16777216 : Int) < (bytesL L : Int) + e.data.size then 5 else 0
theorem lastP_one {es : List Ent} {j : Nat} {d : Ent} (h : es[j]? = some d) : lastP (es.take (j + 1)) = d.path := lastP_take h
theorem take_ne {es : List Ent} {j : Nat} {d : Ent} (h : es[j]? = some d) : es.take (j + 1) ≠ [] := by rw [List.take_add_one, h]; simp
/-- The document's and the program's are the same, behind a tree. -/
theorem oneD_eq {L : List Ent} {e : Ent} (ho : L.Pairwise ltE) : oneD L e = oneN L e := by
  unfold oneD oneN
  by_cases hw : wrongN e = 0
  · have n1 : ¬ (wrongN e ≠ 0) := by simpa using hw
    rw [if_neg n1, if_neg n1]
    have hck := wrong_check hw
    have core : (∀ x ∈ L, ltE x e) → (if upN L e.path ≠ 0 then upN L e.path else if 4096 ≤ L.length ∨ (16777216 : Int) < (bytesL L : Int) + e.data.size then 5 else 0) = putN L e := fun hb => by
      unfold putN manyN
      rw [put_end hb]
      simp only
      by_cases hu : upN L e.path ≠ 0
      · rw [if_pos hu, if_pos hu]
      · rw [if_neg hu, if_neg hu]
        by_cases h4 : 4096 ≤ L.length ∨ (16777216 : Int) < (bytesL L : Int) + e.data.size
        · rw [if_pos h4, if_pos (by rcases h4 with h | h; exact .inl (by omega); exact .inr h)]
        · rw [if_neg h4, if_neg (by rintro (h | h); exact h4 (.inl (by omega)); exact h4 (.inr h))]
    by_cases hn : L = []
    · have n2 : ¬ (L ≠ [] ∧ pathIs e.path ⟨lastP L, 0, 0, ⟨#[]⟩, ⟨#[]⟩⟩ = true) := fun h => h.1 hn
      have n3 : ¬ (L ≠ [] ∧ 0 < compareN (lastP L) e.path) := fun h => h.1 hn
      have n4 : ¬ (ooN (lastP L) e.path ≠ 0) := by
        rw [hn]
        have : ooN (lastP []) e.path = 0 := oo_start hck
        simpa using this
      rw [if_neg n2, if_neg n3, if_neg n4]
      exact core (by rw [hn]; simp)
    · have hz : compareN (lastP L) e.path = 0 ↔ pathIs e.path ⟨lastP L, 0, 0, ⟨#[]⟩, ⟨#[]⟩⟩ = true := by
        rw [pathIs_iff]
        exact ⟨order_zero, fun h => by have h' : lastP L = e.path := h; rw [h']; exact order_self _⟩
      by_cases h1 : compareN (lastP L) e.path = 0
      · have n2 : L ≠ [] ∧ pathIs e.path ⟨lastP L, 0, 0, ⟨#[]⟩, ⟨#[]⟩⟩ = true := ⟨hn, hz.1 h1⟩
        have h3 : ooN (lastP L) e.path = 11 := by simp [ooN, h1]
        rw [if_pos n2, h3]; rfl
      · have n2 : ¬ (L ≠ [] ∧ pathIs e.path ⟨lastP L, 0, 0, ⟨#[]⟩, ⟨#[]⟩⟩ = true) := fun h => h1 (hz.2 h.2)
        rw [if_neg n2]
        by_cases h2 : 0 < compareN (lastP L) e.path
        · have n3 : L ≠ [] ∧ 0 < compareN (lastP L) e.path := ⟨hn, h2⟩
          have h3 : ooN (lastP L) e.path = 1 := by simp [ooN, h1, h2]
          rw [if_pos n3, h3]; rfl
        · have n3 : ¬ (L ≠ [] ∧ 0 < compareN (lastP L) e.path) := fun h => h2 h.2
          have h3 : ooN (lastP L) e.path = 0 := by simp [ooN, h1, h2]
          have n4 : ¬ (ooN (lastP L) e.path ≠ 0) := by simpa using h3
          rw [if_neg n3, if_neg n4]
          exact core (oo_behind ho h3)
  · rw [if_pos hw, if_pos hw]
/-- No entry is too great. -/
def Small (es : List Ent) : Prop := es.length ≤ 1048576 ∧ ∀ e ∈ es, e.path.size ≤ 1048576 ∧ e.link.size ≤ 1048576 ∧ e.data.size ≤ 1048576
theorem wrap_pred (j : Nat) (h : j ≤ 1099511627777) : IntKind.i64.wrap ((j : Int) + 1 - 1) = (j : Int) := by
  simp only [IntKind.wrap, IntKind.bits, IntKind.signed]
  simp
  omega
set_option maxRecDepth 100000 in
set_option maxHeartbeats 8000000 in
theorem one_r (v : Value) (es : List Ent) (k : Nat) (x : Ent) (w : World) (hv : EntsAt w v es) (hs : Small es) (hx : es[k]? = some x) (hby : bytesL (es.take k) ≤ 1099511627776) :
    Calls Tryz.prog 44 #[v, .int .i64 k, .int .i64 (bytesL (es.take k) : Nat)] w fun e w' => e = .returned (.int .i64 (oneD (es.take k) x)) ∧ Below w.heap.size w w' := by
  obtain ⟨a, cap, b, o, rfl, ha, hcap, hc⟩ := hv
  have hlt := (List.getElem?_eq_some_iff.1 hx).1
  have hlt' : (k : Int) < (es.length : Int) := by omega
  have hk0 : (0 : Int) ≤ (k : Int) := by omega
  obtain rfl := ha (fun e => by rw [e] at hlt; simp at hlt)
  obtain ⟨hxp, hxl, hxd⟩ := hs.2 x (List.mem_of_getElem? hx)
  have hsl := hs.1
  have HC : Hid (∀ W i e, es[i]? = some e → Below w.heap.size w W → EntC W b (o + i * 5) e) := fun W i e he bb => (hc i e he).below bb
  have HX : Hid (es[k]? = some x) := hx
  have HTL : Hid ((es.take k).length = k) := by unfold Hid; rw [List.length_take]; omega
  have HSM : Hid (Small es) := hs
  obtain ⟨c0, c1, c2, c3, c4⟩ := hc k x hx
  have HCAP : Hid (es.length ≤ cap) := hcap
  by_cases hw : wrongN x = 0
  · have HW : Hid (wrongN x = 0) := hw
    clear hw hx hc ha hs
    go_enter Tryz.func44, Tryz.ntmps44
    go_upto_region 4 with (go_at_call 77; refine (itself_r x _ (by omega) (by omega)).mono ?_; rintro e w1 ⟨rfl, hb1⟩; rw [HW.out])
    obtain ⟨d0, d1, d2, d3, d4⟩ := HC.out w1 k x HX.out hb1
    have HB1 : Hid (Below w.heap.size w w1) := hb1
    clear c0 c1 c2 c3 c4 hb1
    by_cases p4 : es.take k ≠ [] ∧ pathIs x.path ⟨lastP (es.take k), 0, 0, ⟨#[]⟩, ⟨#[]⟩⟩ = true
    · have E : Hid (oneD (es.take k) x = 11) := by unfold Hid oneD; rw [if_neg (show ¬ (wrongN x ≠ 0) by simpa using HW.out), if_pos p4]
      have hz0 : k ≠ 0 := fun e => by rw [e] at p4; exact p4.1 rfl
      obtain ⟨j, hj⟩ : ∃ j, k = j + 1 := ⟨k - 1, by omega⟩
      have h0 : 0 < k := by omega
      have h0i : (0 : Int) < (k : Int) := by omega
      have hw1 : IntKind.i64.wrap ((k : Int) - 1) = (j : Int) := by
        have := wrap_pred j (by omega)
        rw [hj]; simpa using this
      have hj0 : (0 : Int) ≤ (j : Int) := by omega
      have hj1 : (j : Int) < (es.length : Int) := by omega
      obtain ⟨d, hd⟩ : ∃ d, es[j]? = some d := ⟨_, List.getElem?_eq_getElem (by omega)⟩
      have hdz := (HSM.out.2 d (List.mem_of_getElem? hd)).1
      have hlp : lastP (es.take k) = d.path := by rw [hj]; exact lastP_one hd
      have hne : es.take k ≠ [] := by rw [hj]; exact take_ne hd
      have hpb : (d.path.toList == x.path.toList) = true := by
        have := p4.2
        rw [hlp] at this
        rw [toList_un, toList_un]; exact this
      have g0 := (HC.out w1 j d hd HB1.out).c0
      clear hj hd hz0 hlp hne p4
      go_quiet (fail)
      go_wp2
      go_ret
      exact ⟨by rw [E.out]; rfl, HB1.out.trans ⟨rfl, rfl, rfl, Nat.le_refl _, fun _ _ => rfl⟩⟩
    · go_cut [31] from 16 to 30 (fun s wx => s = .bool false ∧ Below w.heap.size w wx)
      case first =>
        by_cases hz0 : k = 0
        · have h0 : decide (0 < k) = false := by simp; omega
          clear hz0 p4
          go_quiet (fail)
          go_wp2_with fail
          go_meet
          exact ⟨rfl, HB1.out.trans ⟨rfl, rfl, rfl, Nat.le_refl _, fun _ _ => rfl⟩⟩
        · obtain ⟨j, hj⟩ : ∃ j, k = j + 1 := ⟨k - 1, by omega⟩
          have h0 : 0 < k := by omega
          have h0i : (0 : Int) < (k : Int) := by omega
          have hw1 : IntKind.i64.wrap ((k : Int) - 1) = (j : Int) := by
            have := wrap_pred j (by omega)
            rw [hj]; simpa using this
          have hj0 : (0 : Int) ≤ (j : Int) := by omega
          have hj1 : (j : Int) < (es.length : Int) := by omega
          obtain ⟨d, hd⟩ : ∃ d, es[j]? = some d := ⟨_, List.getElem?_eq_getElem (by omega)⟩
          have hdz := (HSM.out.2 d (List.mem_of_getElem? hd)).1
          have hlp : lastP (es.take k) = d.path := by rw [hj]; exact lastP_one hd
          have hne : es.take k ≠ [] := by rw [hj]; exact take_ne hd
          have hpb : (d.path.toList == x.path.toList) = false := by
            rw [toList_un, toList_un]
            cases hq : (un d.path == un x.path) with
            | false => rfl
            | true => exact absurd ⟨hne, by rw [hlp]; exact hq⟩ p4
          have g0 := (HC.out w1 j d hd HB1.out).c0
          clear hj hd hz0 hlp hne p4
          go_quiet (fail)
          go_wp2_with fail
          go_meet
          exact ⟨rfl, HB1.out.trans ⟨rfl, rfl, rfl, Nat.le_refl _, fun _ _ => rfl⟩⟩
      case rest =>
        obtain ⟨rfl, hb2⟩ := hcut
        have HB2 : Hid (Below w.heap.size w wc) := hb2
        have HP4 : Hid (¬ (es.take k ≠ [] ∧ pathIs x.path ⟨lastP (es.take k), 0, 0, ⟨#[]⟩, ⟨#[]⟩⟩ = true)) := p4
        clear hb2 p4 d0 d1 d2 d3 d4 HB1
        go_upto_region 6 with fail
        by_cases p6 : es.take k ≠ [] ∧ 0 < compareN (lastP (es.take k)) x.path
        · have E : Hid (oneD (es.take k) x = 1) := by unfold Hid oneD; rw [if_neg (show ¬ (wrongN x ≠ 0) by simpa using HW.out), if_neg HP4.out, if_pos p6]
          have hz0 : k ≠ 0 := fun e => by rw [e] at p6; exact p6.1 rfl
          obtain ⟨j, hj⟩ : ∃ j, k = j + 1 := ⟨k - 1, by omega⟩
          have h0 : 0 < k := by omega
          have h0i : (0 : Int) < (k : Int) := by omega
          have hw1 : IntKind.i64.wrap ((k : Int) - 1) = (j : Int) := by
            have := wrap_pred j (by omega)
            rw [hj]; simpa using this
          have hj0 : (0 : Int) ≤ (j : Int) := by omega
          have hj1 : (j : Int) < (es.length : Int) := by omega
          obtain ⟨d, hd⟩ : ∃ d, es[j]? = some d := ⟨_, List.getElem?_eq_getElem (by omega)⟩
          have hdz := (HSM.out.2 d (List.mem_of_getElem? hd)).1
          have hlp : lastP (es.take k) = d.path := by rw [hj]; exact lastP_one hd
          have hne : es.take k ≠ [] := by rw [hj]; exact take_ne hd
          have hcc := p6.2
          rw [hlp] at hcc
          have hC := fun W => compare_r d.path x.path W (by omega) (by omega)
          have HS0 : Hid (wc.drew.cell? ⟨b, o + k * 5, none⟩ = some (.string x.path) ∧ wc.drew.cell? ⟨b, o + j * 5, none⟩ = some (.string d.path) ∧ Below w.heap.size w wc.drew) := ⟨(HC.out wc k x HX.out HB2.out).c0, (HC.out wc j d hd HB2.out).c0, HB2.out.trans ⟨rfl, rfl, rfl, Nat.le_refl _, fun _ _ => rfl⟩⟩
          have HK : Hid (∀ W1 W2, Below W1.heap.size W1 W2 → W1.cell? ⟨b, o + k * 5, none⟩ = some (.string x.path) → W1.cell? ⟨b, o + j * 5, none⟩ = some (.string d.path) → Below w.heap.size w W1 → (W2.cell? ⟨b, o + k * 5, none⟩ = some (.string x.path) ∧ W2.cell? ⟨b, o + j * 5, none⟩ = some (.string d.path) ∧ Below w.heap.size w W2)) := fun W1 W2 bb e1 e2 e3 => ⟨(bb.cell (p := ⟨b, o + k * 5, none⟩) (World.block_lt_of_cell? W1 _ e1)).trans e1, (bb.cell (p := ⟨b, o + j * 5, none⟩) (World.block_lt_of_cell? W1 _ e2)).trans e2, below_join e3 bb⟩
          clear hj hd hz0 hlp hne p6
          generalize compareN d.path x.path = C at *
          have hsb : decide ((0 : Int) < C) = true := by simpa using hcc
          clear hcc
          go_region_held3 (fun w' => w'.cell? ⟨b, o + k * 5, none⟩ = some (.string x.path) ∧ w'.cell? ⟨b, o + j * 5, none⟩ = some (.string d.path) ∧ Below w.heap.size w w') (first | exact HS0.out | (go_split_ands; exact HK.out _ _ b1 (by assumption) (by assumption) (by assumption))) (first | (go_at_call 78; with_reducible refine (hC _).mono ?_; rintro e w1 ⟨rfl, b1⟩))
          have hB1 : Below w.heap.size w w1 := by first | assumption | (go_split_ands; assumption)
          go_wp2
          go_ret
          exact ⟨by rw [E.out]; rfl, hB1⟩
        · go_cut [48] from 32 to 47 (fun s wx => s = .bool false ∧ Below w.heap.size w wx)
          case first =>
            by_cases hz0 : k = 0
            · have h0 : decide (0 < k) = false := by simp; omega
              clear hz0 p6
              go_quiet (fail)
              go_wp2_with fail
              go_meet
              exact ⟨rfl, HB2.out.trans ⟨rfl, rfl, rfl, Nat.le_refl _, fun _ _ => rfl⟩⟩
            · obtain ⟨j, hj⟩ : ∃ j, k = j + 1 := ⟨k - 1, by omega⟩
              have h0 : 0 < k := by omega
              have h0i : (0 : Int) < (k : Int) := by omega
              have hw1 : IntKind.i64.wrap ((k : Int) - 1) = (j : Int) := by
                have := wrap_pred j (by omega)
                rw [hj]; simpa using this
              have hj0 : (0 : Int) ≤ (j : Int) := by omega
              have hj1 : (j : Int) < (es.length : Int) := by omega
              obtain ⟨d, hd⟩ : ∃ d, es[j]? = some d := ⟨_, List.getElem?_eq_getElem (by omega)⟩
              have hdz := (HSM.out.2 d (List.mem_of_getElem? hd)).1
              have hlp : lastP (es.take k) = d.path := by rw [hj]; exact lastP_one hd
              have hne : es.take k ≠ [] := by rw [hj]; exact take_ne hd
              have hcc : ¬ 0 < compareN d.path x.path := fun h => p6 ⟨hne, by rw [hlp]; exact h⟩
              have hC := fun W => compare_r d.path x.path W (by omega) (by omega)
              have HS0 : Hid (wc.drew.cell? ⟨b, o + k * 5, none⟩ = some (.string x.path) ∧ wc.drew.cell? ⟨b, o + j * 5, none⟩ = some (.string d.path) ∧ Below w.heap.size w wc.drew) := ⟨(HC.out wc k x HX.out HB2.out).c0, (HC.out wc j d hd HB2.out).c0, HB2.out.trans ⟨rfl, rfl, rfl, Nat.le_refl _, fun _ _ => rfl⟩⟩
              have HK : Hid (∀ W1 W2, Below W1.heap.size W1 W2 → W1.cell? ⟨b, o + k * 5, none⟩ = some (.string x.path) → W1.cell? ⟨b, o + j * 5, none⟩ = some (.string d.path) → Below w.heap.size w W1 → (W2.cell? ⟨b, o + k * 5, none⟩ = some (.string x.path) ∧ W2.cell? ⟨b, o + j * 5, none⟩ = some (.string d.path) ∧ Below w.heap.size w W2)) := fun W1 W2 bb e1 e2 e3 => ⟨(bb.cell (p := ⟨b, o + k * 5, none⟩) (World.block_lt_of_cell? W1 _ e1)).trans e1, (bb.cell (p := ⟨b, o + j * 5, none⟩) (World.block_lt_of_cell? W1 _ e2)).trans e2, below_join e3 bb⟩
              clear hj hd hz0 hlp hne p6
              generalize compareN d.path x.path = C at *
              have hsb : decide ((0 : Int) < C) = false := by simpa using hcc
              clear hcc
              go_region_held3 (fun w' => w'.cell? ⟨b, o + k * 5, none⟩ = some (.string x.path) ∧ w'.cell? ⟨b, o + j * 5, none⟩ = some (.string d.path) ∧ Below w.heap.size w w') (first | exact HS0.out | (go_split_ands; exact HK.out _ _ b1 (by assumption) (by assumption) (by assumption))) (first | (go_at_call 78; with_reducible refine (hC _).mono ?_; rintro e w1 ⟨rfl, b1⟩))
              have hB1 : Below w.heap.size w w1 := by first | assumption | (go_split_ands; assumption)
              go_wp2_with fail
              go_meet
              exact ⟨rfl, hB1⟩
          case rest =>
            obtain ⟨rfl, hb3⟩ := hcut
            have HB3 : Hid (Below w.heap.size w wc) := hb3
            have HP6 : Hid (¬ (es.take k ≠ [] ∧ 0 < compareN (lastP (es.take k)) x.path)) := p6
            clear hb3 p6 HB2
            go_upto_region 8 with fail
            have c0 : wc.drew.cell? ⟨b, o + k * 5, none⟩ = some (.string x.path) := (HC.out wc k x HX.out HB3.out).c0
            have hkc : (k : Int) ≤ (cap : Int) := by have := HCAP.out; omega
            have hU := fun W (hb : Below w.heap.size w W) => up_r (.slice (some ⟨b, o, none⟩) k cap) (es.take k) x.path W (ents_take (fun _ => rfl) HCAP.out (fun i e he => HC.out W i e he hb) k (by omega)) (by have := HTL.out; omega) (by omega)
            have HB3d : Hid (Below w.heap.size w wc.drew) := HB3.out.trans ⟨rfl, rfl, rfl, Nat.le_refl _, fun _ _ => rfl⟩
            have lb := World.block_lt_of_cell? _ _ c0
            go_region_held3 (fun w' => w'.cell? ⟨b, o + k * 5, none⟩ = some (.string x.path)) (first | exact c0 | exact (b1.cell (p := ⟨b, o + k * 5, none⟩) lb).trans c0 | go_keep) (first | (go_at_call 79; with_reducible refine (hU _ HB3d.out).mono ?_; rintro e w1 ⟨rfl, b1⟩))
            have HB4 : Hid (Below w.heap.size w w1) := below_join HB3d.out b1
            clear hU b1 c0 lb HB3d HB3
            by_cases hu : upN (es.take k) x.path = 0
            · have HU : Hid (upN (es.take k) x.path = 0) := hu
              rw [hu]
              clear hu
              have c3 := (HC.out w1 k x HX.out HB4.out).c3
              by_cases h4 : 4096 ≤ k
              · have h4b : decide ((4096 : Int) ≤ (k : Int)) = true := by simp; omega
                have E : Hid (oneD (es.take k) x = 5) := by unfold Hid oneD; rw [if_neg (show ¬ (wrongN x ≠ 0) by simpa using HW.out), if_neg HP4.out, if_neg HP6.out, if_neg (show ¬ (upN (es.take k) x.path ≠ 0) by simpa using HU.out), if_pos (.inl (by rw [HTL.out]; exact h4))]
                clear h4
                go_wp2
                go_ret
                exact ⟨by rw [E.out]; rfl, HB4.out⟩
              · have h4b : decide ((4096 : Int) ≤ (k : Int)) = false := by simp; omega
                have hwr : wrap64 ((bytesL (es.take k) : Int) + (x.data.size : Int)) = (bytesL (es.take k) : Int) + (x.data.size : Int) := by unfold wrap64; omega
                by_cases h5 : (16777216 : Int) < (bytesL (es.take k) : Int) + x.data.size
                · have h5b : decide ((16777216 : Int) < (bytesL (es.take k) : Int) + (x.data.size : Int)) = true := by simpa using h5
                  have E : Hid (oneD (es.take k) x = 5) := by unfold Hid oneD; rw [if_neg (show ¬ (wrongN x ≠ 0) by simpa using HW.out), if_neg HP4.out, if_neg HP6.out, if_neg (show ¬ (upN (es.take k) x.path ≠ 0) by simpa using HU.out), if_pos (.inr h5)]
                  clear h4 h5
                  go_wp2
                  go_ret
                  exact ⟨by rw [E.out]; rfl, HB4.out⟩
                · have h5b : decide ((16777216 : Int) < (bytesL (es.take k) : Int) + (x.data.size : Int)) = false := by simpa using h5
                  have E : Hid (oneD (es.take k) x = 0) := by unfold Hid oneD; rw [if_neg (show ¬ (wrongN x ≠ 0) by simpa using HW.out), if_neg HP4.out, if_neg HP6.out, if_neg (show ¬ (upN (es.take k) x.path ≠ 0) by simpa using HU.out), if_neg (by rintro (h | h); rw [HTL.out] at h; exact h4 h; exact h5 h)]
                  clear h4 h5
                  go_wp2
                  go_ret
                  exact ⟨by rw [E.out]; rfl, HB4.out⟩
            · have hub : (upN (es.take k) x.path != 0) = true := by simpa using hu
              have E : Hid (oneD (es.take k) x = upN (es.take k) x.path) := by unfold Hid oneD; rw [if_neg (show ¬ (wrongN x ≠ 0) by simpa using HW.out), if_neg HP4.out, if_neg HP6.out, if_pos hu]
              clear hu
              go_wp2
              go_ret
              exact ⟨by rw [E.out]; rfl, HB4.out⟩
  · have E : Hid (oneD (es.take k) x = wrongN x) := if_pos hw
    have hwb : (wrongN x != 0) = true := by simpa using hw
    clear hw hx hc ha hs
    go_enter Tryz.func44, Tryz.ntmps44
    go_wp2_with (go_at_call 77; refine (itself_r x _ (by omega) (by omega)).mono ?_; rintro e w1 ⟨rfl, hb1⟩)
    go_ret
    exact ⟨by rw [E.out]; rfl, hb1⟩
theorem bytes_len (L : List Ent) (h : ∀ e ∈ L, e.data.size ≤ 1048576) : bytesL L ≤ L.length * 1048576 := by
  unfold bytesL
  induction L with
  | nil => simp
  | cons x L ih =>
    have h1 := h x (by simp)
    have h2 := ih (fun e he => h e (by simp [he]))
    simp only [List.map_cons, List.sum_cons, List.length_cons]
    omega
theorem one_ok {L : List Ent} {e : Ent} (h : oneN L e = 0) : wrongN e = 0 ∧ ooN (lastP L) e.path = 0 ∧ putN L e = 0 := by
  unfold oneN at h
  by_cases h1 : wrongN e = 0
  · rw [if_neg (show ¬ (wrongN e ≠ 0) by simpa using h1)] at h
    by_cases h2 : ooN (lastP L) e.path = 0
    · rw [if_neg (show ¬ (ooN (lastP L) e.path ≠ 0) by simpa using h2)] at h
      exact ⟨h1, h2, h⟩
    · rw [if_pos h2] at h; exact absurd h h2
  · rw [if_pos h1] at h; exact absurd h h1
theorem behind_pair {L : List Ent} {e : Ent} (h : L.Pairwise ltE) (h1 : ∀ x ∈ L, ltE x e) : (L ++ [e]).Pairwise ltE :=
  List.pairwise_append.2 ⟨h, List.pairwise_singleton _ _, fun a ha b hb => by
    obtain rfl : b = e := by simpa using hb
    exact h1 a ha⟩
set_option maxRecDepth 100000 in
set_option maxHeartbeats 4000000 in
theorem check_d (v : Value) (es : List Ent) (w : World) (hv : EntsAt w v es) (hs : Small es) :
    Calls Tryz.prog 9 #[v] w fun e w' => e = .returned (.tuple #[.int .i64 (checkGo [] es).1, .int .i64 ((checkGo [] es).2 : Nat)]) ∧ Below w.heap.size w w' := by
  have HV : Hid (EntsAt w v es) := hv
  obtain ⟨a, cap, b, o, rfl, ha, hcap, hc⟩ := hv
  have HS : Hid (Small es) := hs
  have hsl := hs.1
  clear hs
  go_enter Tryz.func9, Tryz.ntmps9
  go_wp2
  go_loopw [4, 5] (fun q i wr => ∃ k : Nat, i = .int .i64 k ∧ k ≤ es.length ∧ q = .int .i64 (bytesL (es.take k) : Nat) ∧ (es.take k).Pairwise ltE ∧ checkGo [] es = checkGo (es.take k) (es.drop k) ∧ Below w.heap.size w wr) (fun _ i _ => es.length - (intOf i).toNat)
  case atStart => exact ⟨0, rfl, Nat.zero_le _, by simp [bytesL], by simp, by simp, Below.refl _ _⟩
  case round =>
    obtain ⟨k, rfl, hk, rfl, hpw, hcg, hB⟩ := hrel
    have HPW : Hid ((es.take k).Pairwise ltE) := hpw
    have HCG : Hid (checkGo [] es = checkGo (es.take k) (es.drop k)) := hcg
    have HB : Hid (Below w.heap.size w wr) := hB
    clear hpw hcg hB
    by_cases hlt : k < es.length
    · have hlt' : (k : Int) < (es.length : Int) := by omega
      have hk0 : (0 : Int) ≤ (k : Int) := by omega
      obtain ⟨x, hx⟩ : ∃ x, es[k]? = some x := ⟨_, List.getElem?_eq_getElem hlt⟩
      obtain rfl := ha (fun e => by rw [e] at hlt; simp at hlt)
      have hxd := (HS.out.2 x (List.mem_of_getElem? hx)).2.2
      have htl : (es.take k).length = k := by rw [List.length_take]; omega
      have hbl : bytesL (es.take k) ≤ 1099511627776 := by
        have := bytes_len (es.take k) (fun e he => (HS.out.2 e (List.mem_of_mem_take he)).2.2)
        omega
      have hO := one_r _ es k x wr (HV.out.below HB.out) HS.out hx hbl
      rw [oneD_eq HPW.out] at hO
      have HST : Hid (checkGo (es.take k) (es.drop k) = if oneN (es.take k) x ≠ 0 then (oneN (es.take k) x, (es.take k).length) else checkGo (es.take (k + 1)) (es.drop (k + 1))) := checkGo_step hx
      have HX : Hid (es.take (k + 1) = es.take k ++ [x]) := by unfold Hid; rw [List.take_add_one, hx]; rfl
      have HC3 : Hid (∀ W, Below w.heap.size w W → W.cell? ⟨b, o + k * 5 + 3, none⟩ = some (.string x.data)) := fun W hb => ((hc k x hx).below hb).c3
      have HTL : Hid ((es.take k).length = k) := htl
      by_cases h1 : oneN (es.take k) x = 0
      · have H1 : Hid (oneN (es.take k) x = 0) := h1
        rw [h1] at hO
        have hwr : wrap64 ((bytesL (es.take k) : Int) + (x.data.size : Int)) = (bytesL (es.take k) : Int) + (x.data.size : Int) := by unfold wrap64; omega
        clear hx hc ha h1 htl
        go_wp2_with (go_at_call 44; refine hO.mono ?_; rintro e w1 ⟨rfl, hb1⟩; have c3 := HC3.out w1 (below_join HB.out hb1))
        go_roundw
        case rel =>
          refine ⟨k + 1, by go_num, by omega, ?_, ?_, ?_, below_join HB.out hb1⟩
          · rw [HX.out]; unfold bytesL; simp
          · rw [HX.out]; exact behind_pair HPW.out (oo_behind HPW.out (one_ok H1.out).2.1)
          · rw [HCG.out, HST.out, if_neg (show ¬ (oneN (es.take k) x ≠ 0) by simpa using H1.out)]
        case measure => simp [intOf]; omega
      · have h1b : (oneN (es.take k) x != 0) = true := by simpa using h1
        have E : Hid (checkGo [] es = (oneN (es.take k) x, k)) := by unfold Hid; rw [HCG.out, HST.out, if_pos h1, HTL.out]
        clear hx hc ha h1 htl
        go_wp2_with (go_at_call 44; refine hO.mono ?_; rintro e w1 ⟨rfl, hb1⟩)
        go_ret2
        exact ⟨by rw [E.out]; rfl, below_join HB.out hb1⟩
    · have hge : ¬ (k : Int) < (es.length : Int) := by omega
      have E : Hid (checkGo [] es = (0, 0)) := by unfold Hid; rw [HCG.out, List.drop_eq_nil_of_le (by omega)]; rfl
      go_wp2
      go_ret2
      exact ⟨by rw [E.out]; rfl, HB.out⟩
end Go.Proofs.YtfglanibbngdmaaGreatDoor
