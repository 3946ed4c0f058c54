/- The document's walk: may, and missing for Make and Place. -/
import Derived.Test.YtcefgnjgcnboeaaGreatDoorSplitM
import Derived.Test.YtcefgnjgcnboeaaGreatDoorProg
import Derived.WalkKit
import Derived.WalkSpells
import Derived.Deep.QuietTactic
import Derived.BigQuiet
import Derived.Outline
import Derived.Test.YtcefgnjgcnboeaaGreatDoorName
import Derived.Test.YtcefgnjgcnboeaaGreatDoorBelM
import Derived.Test.YtcefgnjgcnboeaaGreatDoorSpec
import Derived.Test.YtcefgnjgcnboeaaGreatDoorRefH
import Derived.Test.YtcefgnjgcnboeaaGreatDoorCmpM
import Derived.WalkLawsBesides
import Derived.Test.YtcefgnjgcnboeaaGreatDoorMkN
import Derived.Deep.RegionHeld3

namespace Go.Proofs.YtcefgnjgcnboeaaGreatDoor
open Go.RowKit

set_option maxHeartbeats 1000000 in
theorem split_r (p : ByteArray) (w : World) (hs : p.size < 4611686018427387904) : Calls Tryz.prog 130 #[.string p] w fun e w' => e = .returned (.tuple #[.string (splitP p).1, .string (splitP p).2.1, .int .i64 (splitP p).2.2]) ∧ Below w.heap.size w w' := by
  by_cases h1 : p.size ≤ 100
  · have h1' : (p.size : Int) ≤ 100 := by omega
    go_enter Tryz.func130, Tryz.ntmps130
    go_wp2
    go_ret3
    exact ⟨by simp [splitP, h1], Below.refl _ _⟩
  have h1' : ¬ (p.size : Int) ≤ 100 := by omega
  go_enter Tryz.func130, Tryz.ntmps130
  go_wp2
  go_loop [5] (fun i => ∃ k : Nat, k ≤ p.size ∧ i = .int .i64 k ∧ ∀ j, j < k → ¬ good p j) (fun i => p.size - (intOf i).toNat)
  case atStart => exact ⟨0, Nat.zero_le _, rfl, fun j hj => by omega⟩
  case round =>
    obtain ⟨k, hk, rfl, hn⟩ := hrel
    by_cases hlt : k < p.size
    · have hget : Hid _ := un_getElem? p k hlt
      by_cases hg : good p k
      · have hc : p[k].toNat = 47 := by have := hg.1; rw [hget.out] at this; simp at this; rw [this]; rfl
        have hb1 : (1 : Int) ≤ (p.size : Int) - (k : Int) - 1 := by have := hg.2.1; omega
        have hb2 : (p.size : Int) - (k : Int) - 1 ≤ 100 := by have := hg.2.2; omega
        have HS : Hid _ := splitP_at p k (by omega) hg hn
        clear hg hn
        by_cases c1 : k < 1
        · obtain rfl : k = 0 := by omega
          go_wp2
          go_ret3
          exact ⟨by rw [HS.out, if_pos (by omega)]; rfl, Below.refl _ _⟩
        · have c1' : ¬ (k : Int) < 1 := by omega
          by_cases c2 : 155 < k
          · have c2' : (155 : Int) < (k : Int) := by omega
            go_wp2
            go_ret3
            exact ⟨by rw [HS.out, if_pos (by omega)]; rfl, Below.refl _ _⟩
          · have c2' : ¬ (155 : Int) < (k : Int) := by omega
            have d1 : (0 : Int) ≤ (k : Int) := by omega
            have d2 : (k : Int) ≤ p.size := by omega
            have d3 : (0 : Int) ≤ (k : Int) + 1 := by omega
            have d4 : (k : Int) + 1 ≤ p.size := by omega
            go_wp2
            go_quiet (fail)
            go_wp2
            go_ret3
            exact ⟨by rw [HS.out, if_neg (by omega)]; rfl, ⟨rfl, rfl, rfl, Nat.le_refl _, fun _ _ => rfl⟩⟩
      · have hn2 : ∀ j, j < k + 1 → ¬ good p j := fun j hj => by
          rcases Nat.lt_succ_iff_lt_or_eq.1 hj with h | h
          · exact hn j h
          · rw [h]; exact hg
        have Hn : Hid _ := hn2
        by_cases hc : p[k].toNat = 47
        · have hng : ¬ (k + 2 ≤ p.size ∧ p.size ≤ k + 101) := fun h => hg ⟨by rw [hget.out]; congr 1; exact UInt8.toNat_inj.1 hc, h⟩
          clear hn2 hg hn
          by_cases hb1 : k + 2 ≤ p.size
          · have hb1' : (1 : Int) ≤ (p.size : Int) - (k : Int) - 1 := by omega
            have hb2' : ¬ (p.size : Int) - (k : Int) - 1 ≤ 100 := by omega
            go_wp2
            go_round
            case rel => exact ⟨k + 1, by omega, by go_num, Hn.out⟩
            case measure => simp [intOf]; omega
          · have hb1' : ¬ (1 : Int) ≤ (p.size : Int) - (k : Int) - 1 := by omega
            go_wp2
            go_round
            case rel => exact ⟨k + 1, by omega, by go_num, Hn.out⟩
            case measure => simp [intOf]; omega
        · clear hn2 hg hn
          go_wp2
          go_round
          case rel => exact ⟨k + 1, by omega, by go_num, Hn.out⟩
          case measure => simp [intOf]; omega
    · have HS : Hid _ := splitP_none p (by omega) (fun j hj => hn j (by omega))
      clear hn
      go_wp2
      go_ret3
      exact ⟨by rw [HS.out]; rfl, Below.refl _ _⟩
end Go.Proofs.YtcefgnjgcnboeaaGreatDoor

namespace Go.Proofs.YtcefgnjgcnboeaaGreatDoor
open Go.RowKit
theorem begins_r (s h : ByteArray) (w : World) : Calls Tryz.prog 129 #[.string s, .string h] w fun e w' => e = .returned (.bool (Lib.hasPrefix (un s) (un h))) ∧ w' = w := by
  by_cases c : h.size ≤ s.size
  · have c' : (h.size : Int) ≤ (s.size : Int) := by omega
    have e1 : Lib.hasPrefix (un s) (un h) = ((s.extract 0 h.size).toList == h.toList) := by
      rw [hasPrefix_take, toList_un, toList_un, un_extract, un_length, un_length]; simp [c]
    have E : Hid _ := e1
    clear e1
    go_enter Tryz.func129, Tryz.ntmps129
    go_wp2
    go_ret
    exact ⟨by rw [E.out]; rfl, rfl⟩
  · have c' : ¬ (h.size : Int) ≤ (s.size : Int) := by omega
    have e1 : Lib.hasPrefix (un s) (un h) = false := by
      rw [hasPrefix_take, un_length, un_length]; simp; omega
    have E : Hid _ := e1
    clear e1
    go_enter Tryz.func129, Tryz.ntmps129
    go_wp2
    go_ret
    exact ⟨by rw [E.out]; rfl, rfl⟩

theorem nameN_first {s : ByteArray} (h : s.toList.isEmpty = true ∨ 96 < s.size ∨ (s.toList == [46]) = true ∨ (s.toList == [46, 46]) = true ∨ Lib.hasPrefix (un s) [46, 119, 104, 46] = true) : nameN s = 8 := by
  unfold nameN
  repeat' split
  all_goals first | rfl | (exfalso; simp_all)
theorem nameN_any {s : ByteArray} (h : Lib.containsAny (un s) [0, 47] = true) : nameN s = 8 := by
  unfold nameN
  repeat' split
  all_goals first | rfl | (exfalso; simp_all)
theorem nameN_ok {s : ByteArray} (h1 : s.toList.isEmpty = false) (h2 : ¬ 96 < s.size) (h3 : (s.toList == [46]) = false) (h4 : (s.toList == [46, 46]) = false) (h5 : Lib.hasPrefix (un s) [46, 119, 104, 46] = false) (h6 : Lib.containsAny (un s) [0, 47] = false) : nameN s = 0 := by
  unfold nameN
  simp only [h1, h2, h3, h4, h5, h6]; rfl

set_option maxHeartbeats 2000000 in
theorem name_r (s : ByteArray) (w : World) (hs : s.size ≤ 9223372036854775806) : Calls Tryz.prog 111 #[.string s] w fun e w' => e = .returned (.int .i64 (nameN s)) ∧ w' = w := by
  cases h1 : s.toList.isEmpty
  rotate_left
  · have E : Hid _ := nameN_first (.inl h1)
    go_enter Tryz.func111, Tryz.ntmps111
    go_wp2
    go_ret
    exact ⟨by rw [E.out]; rfl, rfl⟩
  by_cases h2 : 96 < s.size
  · have h2' : (96 : Int) < s.size := by omega
    have E : Hid _ := nameN_first (.inr (.inl h2))
    go_enter Tryz.func111, Tryz.ntmps111
    go_wp2
    go_ret
    exact ⟨by rw [E.out]; rfl, rfl⟩
  have h2' : ¬ (96 : Int) < s.size := by omega
  cases h3 : (s.toList == [46])
  rotate_left
  · have E : Hid _ := nameN_first (.inr (.inr (.inl h3)))
    go_enter Tryz.func111, Tryz.ntmps111
    go_wp2
    go_ret
    exact ⟨by rw [E.out]; rfl, rfl⟩
  cases h4 : (s.toList == [46, 46])
  rotate_left
  · have E : Hid _ := nameN_first (.inr (.inr (.inr (.inl h4))))
    go_enter Tryz.func111, Tryz.ntmps111
    go_wp2
    go_ret
    exact ⟨by rw [E.out]; rfl, rfl⟩
  cases h5 : Lib.hasPrefix (un s) [46, 119, 104, 46]
  rotate_left
  · have E : Hid _ := nameN_first (.inr (.inr (.inr (.inr h5))))
    have H5 : Hid _ := h5
    clear h5
    go_enter Tryz.func111, Tryz.ntmps111
    go_wp2_with (go_at_call 129; refine (begins_r _ _ _).mono ?_; rintro e w2 ⟨rfl, hw⟩; subst hw; rw [show Lib.hasPrefix (un s) (un ⟨#[46, 119, 104, 46]⟩) = true from H5.out])
    go_ret
    exact ⟨by rw [E.out]; rfl, rfl⟩
  have H5 : Hid _ := h5
  have H8 : Hid (Lib.containsAny (un s) [0, 47] = true → nameN s = 8) := nameN_any
  have H0 : Hid (Lib.containsAny (un s) [0, 47] = false → nameN s = 0) := nameN_ok h1 h2 h3 h4 h5
  clear h5
  go_enter Tryz.func111, Tryz.ntmps111
  go_wp2_with (go_at_call 129; refine (begins_r _ _ _).mono ?_; rintro e w2 ⟨rfl, hw⟩; subst hw; rw [show Lib.hasPrefix (un s) (un ⟨#[46, 119, 104, 46]⟩) = false from H5.out])
  go_loop [3] (fun i => ∃ k : Nat, k ≤ s.size ∧ i = .int .i64 k ∧ Lib.NoAny (un s) [0, 47] k) (fun i => s.size - (intOf i).toNat)
  case atStart => exact ⟨0, Nat.zero_le _, rfl, Lib.NoAny.zero _ _⟩
  case round =>
    obtain ⟨k, hk, rfl, hn⟩ := hrel
    have HN : Hid _ := hn
    clear hn
    by_cases hlt : k < s.size
    · have hget : Hid _ := un_getElem? s k hlt
      by_cases c0 : s[k].toNat = 0
      · have E : Hid (nameN s = 8) := H8.out (by
          unfold Lib.containsAny
          rw [Lib.indexAny_hit HN.out hget.out (by rw [show s[k] = 0 from UInt8.toNat_inj.1 c0]; decide)]; simp)
        go_wp2
        go_ret
        exact ⟨by rw [E.out]; rfl, rfl⟩
      · by_cases c47 : s[k].toNat = 47
        · have E : Hid (nameN s = 8) := H8.out (by
            unfold Lib.containsAny
            rw [Lib.indexAny_hit HN.out hget.out (by rw [show s[k] = 47 from UInt8.toNat_inj.1 c47]; decide)]; simp)
          go_wp2
          go_ret
          exact ⟨by rw [E.out]; rfl, rfl⟩
        · have d0 : s[k] ≠ 0 := fun e => c0 (by rw [e]; rfl)
          have d47 : s[k] ≠ 47 := fun e => c47 (by rw [e]; rfl)
          have HN2 : Hid _ := Lib.NoAny.succ (show Lib.NoAny (un s) [0, 47] k from HN.out) hget.out (by simp [d0, d47])
          clear d0 d47
          have c0' : ((s[k].toNat : Int) == 0) = false := by simpa using c0
          have c47' : ((s[k].toNat : Int) == 47) = false := by simp; omega
          go_wp2
          go_round
          case rel => exact ⟨k + 1, by omega, by go_num, HN2.out⟩
          case measure => simp [intOf]; omega
    · obtain rfl : k = s.size := by omega
      have E : Hid (nameN s = 0) := H0.out (by
        unfold Lib.containsAny
        rw [Lib.indexAny_none (by rw [un_length]; exact HN.out)]; decide)
      go_wp2
      go_ret
      exact ⟨by rw [E.out]; rfl, rfl⟩
end Go.Proofs.YtcefgnjgcnboeaaGreatDoor

namespace Go.Proofs.YtcefgnjgcnboeaaGreatDoor
open Go

def wt : List ByteArray → Nat
  | [] => 0
  | x :: xs => x.size + 1 + wt xs
theorem wt_append (a b : List ByteArray) : wt (a ++ b) = wt a + wt b := by induction a with | nil => simp [wt] | cons x a ih => simp [wt, ih]; omega
theorem wt_cut : ∀ l : List UInt8, wt ((cutL l).map bs) = l.length + 1
  | [] => by simp [cutL, wt, size_bs]
  | c :: l => by
    have ih := wt_cut l
    rw [cutL_cons]
    split
    · simp [wt, size_bs, ih]; omega
    · cases h : cutL l with
      | nil => exact absurd h (cutL_ne l)
      | cons p r => rw [h] at ih; simp [wt, size_bs] at ih ⊢; omega
theorem length_wt : ∀ xs : List ByteArray, xs.length ≤ wt xs
  | [] => Nat.le_refl _
  | x :: xs => by have := length_wt xs; simp [wt]; omega
theorem wt_prefix {pre xs : List ByteArray} (h : pre <+: xs) : wt pre ≤ wt xs := by obtain ⟨t, rfl⟩ := h; rw [wt_append]; omega
end Go.Proofs.YtcefgnjgcnboeaaGreatDoor

namespace Go.Proofs.YtcefgnjgcnboeaaGreatDoor
open Go Go.RowKit

theorem whiteout_r (a : ByteArray) (w : World) (hs : a.size < 1152921504606846976) : Calls Tryz.prog 131 #[.string a] w fun e w' => e = .returned (.string (whiteoutB a)) ∧ w' = w := by
  have h1 := parentB_size a
  have h2 := lastB_size a
  go_enter Tryz.func131, Tryz.ntmps131
  go_wp2_with (first | (go_at_call 77; refine (parent_r _ _ (by omega)).mono ?_; rintro e w' ⟨rfl, rfl⟩) | (go_at_call 145; refine (last_r _ _ (by omega)).mono ?_; rintro e w' ⟨rfl, rfl⟩) | (go_at_call 78; go_must (refine (join_r _ _ _ (by rw [ByteArray.size_append, show (ByteArray.mk #[46, 119, 104, 46]).size = 4 from rfl]; omega)).mono ?_); rintro e w' ⟨rfl, rfl⟩))
  go_ret
  exact ⟨rfl, rfl⟩

theorem any_bad {xs : List ByteArray} {k : Nat} {x : ByteArray} (hx : xs[k]? = some x) (h : nameN x = 8) : xs.any (fun x => nameN x != 0) = true :=
  List.any_eq_true.2 ⟨x, List.mem_of_getElem? hx, by rw [h]; rfl⟩
theorem any_good {xs : List ByteArray} (h : ∀ j x, j < xs.length → xs[j]? = some x → nameN x = 0) : xs.any (fun x => nameN x != 0) = false := by
  rw [List.any_eq_false]; intro x hx
  obtain ⟨j, hj, rfl⟩ := List.getElem_of_mem hx
  rw [h j _ hj (List.getElem?_eq_getElem hj)]; decide

set_option maxRecDepth 100000 in
set_option maxHeartbeats 2000000 in
theorem check_r (p : ByteArray) (w : World) (hs : p.size ≤ 1099511627776) : Calls Tryz.prog 112 #[.string p] w fun e w' => e = .returned (.int .i64 (checkN p)) ∧ Below w.heap.size w w' := by
  cases h : p.toList.isEmpty
  rotate_left
  · have E : Hid (checkN p = 15) := by unfold Hid; simp [checkN, h]
    go_enter Tryz.func112, Tryz.ntmps112
    go_wp2
    go_ret
    exact ⟨by rw [E.out]; rfl, Below.refl _ _⟩
  have hpl := piecesB_length p
  have hwz := whiteoutB_size p
  go_enter Tryz.func112, Tryz.ntmps112
  go_wp2_with (go_at_call 76; refine (cut_row p _ hs).mono ?_; rintro e w1 ⟨g, cap, rfl, hrow, hgl, _, hb1⟩)
  go_loop [4] (fun i => ∃ k : Nat, k ≤ (piecesB p).length ∧ i = .int .i64 k ∧ ∀ (j : Nat) x, j < k → (piecesB p)[j]? = some x → nameN x = 0) (fun i => (piecesB p).length - (intOf i).toNat)
  case atStart => exact ⟨0, Nat.zero_le _, rfl, fun j x hj => by omega⟩
  case round =>
    obtain ⟨k, hk, rfl, hn⟩ := hrel
    have HN : Hid _ := hn
    clear hn
    by_cases hlt : k < (piecesB p).length
    · obtain ⟨x, hx⟩ : ∃ x, (piecesB p)[k]? = some x := ⟨_, List.getElem?_eq_getElem hlt⟩
      have hcell := hrow k x hx
      have hxs : x.size ≤ 9223372036854775806 := by
        have h1 := wt_prefix (pre := [x]) (xs := [x]) (List.prefix_refl _)
        have h2 : x.size + 1 ≤ wt (piecesB p) := by
          obtain ⟨a, b, hab⟩ := List.append_of_mem (List.mem_of_getElem? hx)
          rw [hab, wt_append]; simp [wt]; omega
        have h3 : wt (piecesB p) = p.size + 1 := by unfold piecesB; rw [wt_cut, un_length]
        omega
      rcases nameN_cases x with h0 | h8
      · have HN2 : Hid (∀ (j : Nat) x, j < k + 1 → (piecesB p)[j]? = some x → nameN x = 0) := fun j y hj hy => by
          rcases Nat.lt_succ_iff_lt_or_eq.1 hj with h1 | h1
          · exact HN.out j y h1 hy
          · subst h1; rw [hx] at hy; cases hy; exact h0
        have H0 : Hid _ := h0
        have Hrow : Hid _ := hrow
        clear h0 hx hrow
        go_wp2_with (go_at_call 111; refine (name_r _ _ hxs).mono ?_; rintro e w2 ⟨rfl, hw⟩; subst hw; rw [H0.out])
        first
          | exact ⟨⟨k + 1, by omega, by go_num, HN2.out⟩, by simp [intOf]; omega⟩
          | (go_round
             case rel => exact ⟨k + 1, by omega, by go_num, HN2.out⟩
             case measure => simp [intOf]; omega)
      · have E : Hid (checkN p = 8) := by unfold Hid; simp [checkN, h, any_bad hx h8]
        have H8 : Hid _ := h8
        have Hrow : Hid _ := hrow
        clear h8 hx hrow
        go_wp2_with (go_at_call 111; refine (name_r _ _ hxs).mono ?_; rintro e w2 ⟨rfl, hw⟩; subst hw; rw [H8.out])
        go_ret
        exact ⟨by rw [E.out]; rfl, hb1⟩
    · obtain rfl : k = (piecesB p).length := by omega
      have hany := any_good (xs := piecesB p) (fun j x hj => HN.out j x hj)
      by_cases h32 : 32 < (piecesB p).length
      · have h32' : (32 : Int) < (piecesB p).length := by omega
        have E : Hid (checkN p = 9) := by unfold Hid; simp [checkN, h, hany, h32]
        clear hany
        go_wp2
        go_ret
        exact ⟨by rw [E.out]; rfl, hb1⟩
      have h32' : ¬ (32 : Int) < (piecesB p).length := by omega
      by_cases h255 : 255 < p.size
      · have h255' : (255 : Int) < p.size := by omega
        have E : Hid (checkN p = 9) := by unfold Hid; simp [checkN, h, hany, h255]
        clear hany
        go_wp2
        go_ret
        exact ⟨by rw [E.out]; rfl, hb1⟩
      · have h255' : ¬ (255 : Int) < p.size := by omega
        have E : Hid (checkN p = (splitP (whiteoutB p)).2.2) := by unfold Hid; simp [checkN, h, hany, h32, h255]
        clear hany
        go_wp2_with (first | (go_at_call 131; refine (whiteout_r _ _ (by omega)).mono ?_; rintro e w2 ⟨rfl, hw⟩; subst hw) | (go_at_call 130; refine (split_r _ _ (by omega)).mono ?_; rintro e w3 ⟨rfl, hb3⟩))
        go_ret
        exact ⟨by rw [E.out]; rfl, hb1.trans (hb3.mono hb1.size)⟩
end Go.Proofs.YtcefgnjgcnboeaaGreatDoor

namespace Go.Proofs.YtcefgnjgcnboeaaGreatDoor
open Go Go.RowKit

theorem compare_less : ∀ a b : List UInt8, Lib.compareBytes a b = if Op.bytesLess a b then -1 else if a == b then 0 else 1
  | [], [] => rfl
  | [], _ :: _ => rfl
  | _ :: _, [] => rfl
  | x :: a, y :: b => by
    have ih := compare_less a b
    unfold Lib.compareBytes Op.bytesLess
    by_cases h1 : x < y
    · simp [h1]
    · by_cases h2 : y < x
      · have hne : x ≠ y := fun e => h1 (e ▸ h2)
        simp [h1, h2, hne]
      · have e : x = y := by
          have a1 : ¬ x.toNat < y.toNat := h1
          have a2 : ¬ y.toNat < x.toNat := h2
          exact UInt8.toNat_inj.1 (by omega)
        subst e
        simp only [h1, if_false, ih]
        simp
theorem cmpB_less (x y : ByteArray) : cmpB x y = if Op.bytesLess x.toList y.toList then -1 else if x.toList == y.toList then 0 else 1 := by
  unfold cmpB; rw [toList_un, toList_un]; exact compare_less _ _
theorem compareP_step (pre : List ByteArray) (x y : ByteArray) (xs ys : List ByteArray) (h : cmpB x y ≠ 0) : compareP (pre ++ x :: xs) (pre ++ y :: ys) = cmpB x y := by
  rw [compareP_same]; exact if_neg h
theorem row_at {w : World} {g : Nat} {pre xs : List ByteArray} {x : ByteArray} (h : Row w g (pre ++ x :: xs)) : w.cell? ⟨g, pre.length, none⟩ = some (.string x) := h _ _ (by simp)

set_option maxRecDepth 100000 in
set_option maxHeartbeats 4000000 in
theorem compare_r (a b : ByteArray) (w : World) (ha : a.size ≤ 1099511627776) (hb : b.size ≤ 1099511627776) : Calls Tryz.prog 113 #[.string a, .string b] w fun e w' => e = .returned (.int .i64 (compareN a b)) ∧ Below w.heap.size w w' := by
  have hla := piecesB_length a
  have hlb := piecesB_length b
  go_enter Tryz.func113, Tryz.ntmps113
  go_wp2_with fail
  refine (cut_row a _ ha).mono ?_
  rintro e w1 ⟨g1, cap1, rfl, hr1, hg1, _, b1⟩
  go_wp2_with fail
  refine (cut_row b _ hb).mono ?_
  rintro e w2 ⟨g2, cap2, rfl, hr2, hg2, _, b2⟩
  replace hr1 := hr1.below hg1 b2
  have hz2 := b2.size
  have b3 := b1.trans (b2.mono b1.size)
  clear b1 b2
  have HR1 : Hid _ := hr1
  have HR2 : Hid _ := hr2
  clear hr1 hr2
  go_wp2_with fail
  go_loopw [7] (fun i wr => ∃ (pre xs ys : List ByteArray) (q : Nat), piecesB a = pre ++ xs ∧ piecesB b = pre ++ ys ∧ i = .int .i64 pre.length ∧ wr = w2.drewN q) (fun i _ => (piecesB a).length - (intOf i).toNat)
  case atStart => exact ⟨[], _, _, 0, rfl, rfl, rfl, rfl⟩
  case round =>
    obtain ⟨pre, xs, ys, q, hx, hy, rfl, rfl⟩ := hrel
    have hlx : (piecesB a).length = pre.length + xs.length := by rw [hx]; simp
    have hly : (piecesB b).length = pre.length + ys.length := by rw [hy]; simp
    have HX : Hid _ := hx
    have HY : Hid _ := hy
    have HC : Hid (compareN a b = compareP xs ys) := by unfold Hid compareN; rw [hx, hy, compareP_same]
    cases xs with
    | nil =>
      simp only [List.length_nil, Nat.add_zero] at hlx
      cases ys with
      | nil =>
        simp only [List.length_nil, Nat.add_zero] at hly
        have l1 : ¬ (pre.length : Int) < (piecesB a).length := by omega
        have l2 : ¬ ((piecesB a).length : Int) < (piecesB b).length := by omega
        have l3 : ¬ ((piecesB b).length : Int) < (piecesB a).length := by omega
        clear hx hy hlx hly
        go_wp2
        go_ret
        exact ⟨by rw [HC.out]; rfl, b3.trans ((below_draw w2 q).mono b3.size)⟩
      | cons y ys =>
        simp only [List.length_cons] at hly
        have l1 : ¬ (pre.length : Int) < (piecesB a).length := by omega
        have l2 : ((piecesB a).length : Int) < (piecesB b).length := by omega
        clear hx hy hlx hly
        go_wp2
        go_ret
        exact ⟨by rw [HC.out]; rfl, b3.trans ((below_draw w2 q).mono b3.size)⟩
    | cons x xs =>
      simp only [List.length_cons] at hlx
      have l1 : (pre.length : Int) < (piecesB a).length := by omega
      cases ys with
      | nil =>
        simp only [List.length_nil, Nat.add_zero] at hly
        have l2 : ¬ (pre.length : Int) < (piecesB b).length := by omega
        have l3 : ¬ ((piecesB a).length : Int) < (piecesB b).length := by omega
        have l4 : ((piecesB b).length : Int) < (piecesB a).length := by omega
        clear hx hy hlx hly
        go_wp2
        go_ret
        exact ⟨by rw [HC.out]; rfl, b3.trans ((below_draw w2 q).mono b3.size)⟩
      | cons y ys =>
        simp only [List.length_cons] at hly
        have l2 : (pre.length : Int) < (piecesB b).length := by omega
        have hc1 := row_at (hx ▸ HR1.out)
        have hc2 := row_at (hy ▸ HR2.out)
        have HLX : Hid _ := hlx
        have HLY : Hid _ := hly
        clear hx hy hlx hly
        have hcm := cmpB_less x y
        cases e1 : Op.bytesLess x.toList y.toList
        · cases e2 : (x.toList == y.toList)
          · have HZ : Hid (compareN a b = 1) := by unfold Hid; rw [HC.out]; unfold compareP; rw [hcm, e1, e2]; rfl
            clear hcm
            go_wp2
            go_quiet (fail)
            go_wp2
            go_quiet (fail)
            go_wp2
            go_ret
            exact ⟨by rw [HZ.out]; rfl, b3.trans ⟨rfl, rfl, rfl, Nat.le_refl _, fun _ _ => rfl⟩⟩
          · have hxy : x = y := un_inj (by rw [← toList_un, ← toList_un]; exact beq_iff_eq.1 e2)
            have HXY : Hid _ := hxy
            clear hcm hxy
            go_wp2
            go_quiet (fail)
            go_wp2
            go_quiet (fail)
            go_wp2
            go_roundw
            case rel => exact ⟨pre ++ [x], xs, ys, _, by rw [HX.out]; simp, by rw [HY.out, HXY.out]; simp, by simp, rfl⟩
            case measure => have h := HLX.out; simp [intOf]; omega
        · have HZ : Hid (compareN a b = -1) := by unfold Hid; rw [HC.out]; unfold compareP; rw [hcm, e1]; rfl
          clear hcm
          go_wp2
          go_quiet (fail)
          go_wp2
          go_ret
          exact ⟨by rw [HZ.out]; rfl, b3.trans ⟨rfl, rfl, rfl, Nat.le_refl _, fun _ _ => rfl⟩⟩
end Go.Proofs.YtcefgnjgcnboeaaGreatDoor

namespace Go.Proofs.YtcefgnjgcnboeaaGreatDoor
open Go Go.RowKit

theorem own_below {W W2 : World} {base e size n : Nat} {v : Value} {xs : List Value} (h : W.ownsRow base e size v n xs) (hb : Below W.heap.size W W2) : W2.ownsRow base e size v n xs := by
  refine ⟨h.1, ?_⟩
  rcases h.2 with hn | ⟨g, cap, cur, rfl, hg, hgg, rest⟩
  · exact .inl hn
  · exact .inr ⟨g, cap, cur, rfl, hg, (hb.block g (Array.getElem?_eq_some_iff.1 hgg).1).trans hgg, rest⟩
def wthStep (e : Ent) (s : List Ent × Bool) (x : Ent) : List Ent × Bool := if s.2 = false ∧ compareN e.path x.path < 0 then (s.1 ++ [e] ++ [x], true) else (s.1 ++ [x], s.2)
def wthAll (e : Ent) (L : List Ent) : List Ent × Bool := L.foldl (wthStep e) ([], false)
def wthEnd (e : Ent) (L : List Ent) : List Ent := if (wthAll e L).2 then (wthAll e L).1 else (wthAll e L).1 ++ [e]
theorem wth_snoc (e : Ent) (L : List Ent) (x : Ent) : wthAll e (L ++ [x]) = wthStep e (wthAll e L) x := by unfold wthAll; rw [List.foldl_append]; rfl
theorem wth_done (e : Ent) : ∀ (M : List Ent) (pre : List Ent), M.foldl (wthStep e) (pre, true) = (pre ++ M, true)
  | [], pre => by simp
  | x :: M, pre => by
    rw [List.foldl_cons]
    have : wthStep e (pre, true) x = (pre ++ [x], true) := by unfold wthStep; rw [if_neg (by simp)]
    rw [this, wth_done e M]
    simp
theorem wth_len (e : Ent) (L : List Ent) : (wthAll e L).1.length ≤ 2 * L.length := by
  have : ∀ (M : List Ent) (s : List Ent × Bool), (M.foldl (wthStep e) s).1.length ≤ s.1.length + 2 * M.length := by
    intro M
    induction M with
    | nil => intro s; simp
    | cons x M ih =>
      intro s
      have h1 := ih (wthStep e s x)
      have h2 : (wthStep e s x).1.length ≤ s.1.length + 2 := by
        unfold wthStep
        split <;> simp
      rw [List.foldl_cons, List.length_cons]
      omega
  have h := this L ([], false)
  simpa [wthAll] using h
theorem wth_laid (e : Ent) : ∀ (M pre : List Ent), M.Pairwise ltE → (∀ x ∈ M, x.path ≠ e.path) → (if (M.foldl (wthStep e) (pre, false)).2 then (M.foldl (wthStep e) (pre, false)).1 else (M.foldl (wthStep e) (pre, false)).1 ++ [e]) = pre ++ laidL M e
  | [], pre, _, _ => rfl
  | x :: M, pre, ho, hn => by
    rw [List.foldl_cons]
    have hneg := order_neg e.path x.path
    have hnz : compareN e.path x.path ≠ 0 := fun h => hn x (by simp) (order_zero h).symm
    by_cases hc : compareN e.path x.path < 0
    · have hs : wthStep e (pre, false) x = (pre ++ [e] ++ [x], true) := by unfold wthStep; rw [if_pos ⟨rfl, hc⟩]
      rw [hs, wth_done]
      have hall : ∀ y ∈ x :: M, 0 < compareN y.path e.path := fun y hy => by
        have h1 : compareN e.path y.path < 0 := by
          rcases List.mem_cons.1 hy with rfl | hy
          · exact hc
          · exact order_trans hc ((List.pairwise_cons.1 ho).1 y hy)
        have := order_neg y.path e.path
        omega
      have e1 : (x :: M).filter (fun y => decide (compareN y.path e.path < 0)) = [] := List.filter_eq_nil_iff.2 (fun y hy => by have := hall y hy; simp; omega)
      have e2 : (x :: M).filter (fun y => decide (0 < compareN y.path e.path)) = x :: M := List.filter_eq_self.2 (fun y hy => by have := hall y hy; simpa using this)
      unfold laidL
      rw [e1, e2]
      simp
    · have hs : wthStep e (pre, false) x = (pre ++ [x], false) := by unfold wthStep; rw [if_neg (fun h => hc h.2)]
      rw [hs, wth_laid e M (pre ++ [x]) (List.pairwise_cons.1 ho).2 (fun y hy => hn y (by simp [hy]))]
      have h1 : decide (compareN x.path e.path < 0) = true := by simp; omega
      have h2 : decide (0 < compareN x.path e.path) = false := by simp; omega
      unfold laidL
      rw [List.filter_cons, List.filter_cons, if_pos h1, if_neg (by rw [h2]; simp)]
      simp
theorem wth_eq {L : List Ent} {e : Ent} (ho : L.Pairwise ltE) (hn : L.find? (pathIs e.path) = none) : wthEnd e L = laidL L e := by
  have := wth_laid e L [] ho (fun x hx he => by
    have := List.find?_eq_none.1 hn x hx
    exact this (pathIs_iff.2 he))
  unfold wthEnd wthAll
  rw [this]
  rfl
set_option maxRecDepth 100000 in
set_option maxHeartbeats 8000000 in
theorem with_r (v : Value) (L : List Ent) (e : Ent) (w : World) (hv : EntsAt w v L) (hl : L.length ≤ 268435456) (hz : ∀ x ∈ L, x.path.size ≤ 1048576) (hez : e.path.size ≤ 1048576) : Calls Tryz.prog 101 #[v, .agg #[.string e.path, .int .i64 e.kind, .int .i64 e.mode, .string e.data, .string e.link]] w fun r w' => ∃ u, r = .returned u ∧ w'.ownsRow w.heap.size 52 5 u (wthEnd e L).length (ecells (wthEnd e L)) ∧ Below w.heap.size w w' := by
  obtain ⟨i0, hi, hz0, hz1, hz2⟩ := info_parts info_ent
  obtain ⟨a, cap, b, o, rfl, ha, hcap, hc⟩ := hv
  have hbA : Below w.heap.size w (w.alloc (.cells #[.string e.path, .int .i64 e.kind, .int .i64 e.mode, .string e.data, .string e.link] 52)) := (Below.refl _ _).alloc (Nat.le_refl _) _
  have HE : Hid (EntC (w.alloc (.cells #[.string e.path, .int .i64 e.kind, .int .i64 e.mode, .string e.data, .string e.link] 52)) w.heap.size 0 e) := ent_new w _ e
  have hWs : (w.alloc (.cells #[.string e.path, .int .i64 e.kind, .int .i64 e.mode, .string e.data, .string e.link] 52)).heap.size = w.heap.size + 1 := by simp
  go_enter Tryz.func101, Tryz.ntmps101
  go_wp2
  generalize w.alloc (.cells #[.string e.path, .int .i64 e.kind, .int .i64 e.mode, .string e.data, .string e.link] 52) = W0 at *
  go_loopw [5, 6, 7] (fun u d i wr => ∃ k : Nat, i = .int .i64 k ∧ k ≤ L.length ∧ d = .bool (wthAll e (L.take k)).2 ∧ wr.ownsRow W0.heap.size 52 5 u (wthAll e (L.take k)).1.length (ecells (wthAll e (L.take k)).1) ∧ Below W0.heap.size W0 wr) (fun _ _ i _ => L.length - (intOf i).toNat)
  case atStart => exact ⟨0, rfl, Nat.zero_le _, rfl, World.ownsRow_nil _ _ _ _, Below.refl _ _⟩
  case round =>
    obtain ⟨k, rfl, hk, rfl, hown, hB⟩ := hrel
    have hsz := hB.size
    have hll := wth_len e (L.take k)
    rw [List.length_take] at hll
    by_cases hlt : k < L.length
    · have hlt' : (k : Int) < (L.length : Int) := by omega
      have hk0 : (0 : Int) ≤ (k : Int) := by omega
      obtain ⟨x, hx⟩ : ∃ x, L[k]? = some x := ⟨_, List.getElem?_eq_getElem hlt⟩
      obtain rfl := ha (fun e => by rw [e] at hlt; simp at hlt)
      have HC : Hid (∀ W, Below W0.heap.size W0 W → EntC W b (o + k * 5) x ∧ EntC W w.heap.size 0 e) := fun W bb => ⟨(hc k x hx).below (below_join hbA bb), HE.out.below bb⟩
      have hxz := hz x (List.mem_of_getElem? hx)
      have hCm := fun W => compare_r e.path x.path W (by omega) (by omega)
      have HS0 : Hid (wr.drew.cell? ⟨b, o + k * 5, none⟩ = some (.string x.path) ∧ wr.drew.cell? ⟨w.heap.size, 0, none⟩ = some (.string e.path) ∧ Below W0.heap.size W0 wr.drew) := ⟨(HC.out wr hB).1.c0, (HC.out wr hB).2.c0, below_drewN hB 1⟩
      have HK : Hid (∀ W1 W2, Below W1.heap.size W1 W2 → W1.cell? ⟨b, o + k * 5, none⟩ = some (.string x.path) → W1.cell? ⟨w.heap.size, 0, none⟩ = some (.string e.path) → Below W0.heap.size W0 W1 → (W2.cell? ⟨b, o + k * 5, none⟩ = some (.string x.path) ∧ W2.cell? ⟨w.heap.size, 0, none⟩ = some (.string e.path) ∧ Below W0.heap.size W0 W2)) := fun W1 W2 bb e1 e2 e3 => ⟨(HC.out _ (below_join e3 bb)).1.c0, (HC.out _ (below_join e3 bb)).2.c0, below_join e3 bb⟩
      have HST : Hid (wthAll e (L.take (k + 1)) = wthStep e (wthAll e (L.take k)) x) := by unfold Hid; rw [List.take_add_one, hx]; exact wth_snoc e _ x
      unfold wthStep at HST
      clear hx hc ha
      generalize wthAll e (L.take k) = s at *
      obtain ⟨s1, s2⟩ := s
      generalize compareN e.path x.path = C at *
      go_wp2
      cases s2 with
      | true =>
        have HN : Hid (wthAll e (L.take (k + 1)) = (s1 ++ [x], true)) := by unfold Hid; rw [HST.out, if_neg (by simp)]
        clear HST
        go_quiet (fail)
        have hB1 : Below W0.heap.size W0 (wr.drewN nq) := below_drewN hB nq
        have hown' : (wr.drewN nq).ownsRow W0.heap.size 52 5 u5 s1.length (ecells s1) := hown
        obtain ⟨c0, c1, c2, c3, c4⟩ := (HC.out _ hB1).1
        have hsz1 := hB1.size
        generalize hww : wr.drewN nq = w1 at *
        clear hww hown HS0
        go_wp2_with (at_builtin; refine wpList_append_own _ rfl _ _ 29 rfl W0.heap.size 52 i0 (.agg #[.string ⟨#[]⟩, .int .i64 0, .int .i64 0, .string ⟨#[]⟩, .string ⟨#[]⟩]) 5 64 Tryz.underlying29 hi hz0 hz1 hz2 rfl (by decide) _ _ _ rfl (hown'.alloc _) ⟨w1.heap.size, 0, none⟩ 1 1 (ecs x) rfl rfl (ent_cells (ent_new w1 _ x)) (ent_one x) (by unfold maxLen; omega) (by omega) (by simp; omega) ?_; intro v1 w2 hown1 hgrow1 _)
        have hb2 : Below W0.heap.size W0 w2 := (hB1.alloc hsz1 _).grown hgrow1 (by simp; omega) (fun j hj => (own_ge hown' j hj.symm).1)
        have hown2 : w2.ownsRow W0.heap.size 52 5 v1 (s1 ++ [x]).length (ecells (s1 ++ [x])) := by rw [ecells_append, List.length_append]; simpa [ecells] using hown1
        go_roundw
        case rel => exact ⟨k + 1, by go_num, by omega, by rw [HN.out], by rw [HN.out]; exact hown2, hb2⟩
        case measure => simp [intOf]; omega
      | false =>
        by_cases hC : C < 0
        · have hg0 : decide (C < 0) = true := by simpa using hC
          have HN : Hid (wthAll e (L.take (k + 1)) = ((s1 ++ [e]) ++ [x], true)) := by unfold Hid; rw [HST.out, if_pos ⟨rfl, hC⟩]
          clear HST hC
          go_region_held3 (fun w' => w'.cell? ⟨b, o + k * 5, none⟩ = some (.string x.path) ∧ w'.cell? ⟨w.heap.size, 0, none⟩ = some (.string e.path) ∧ Below W0.heap.size W0 w') (first | exact HS0.out | (go_split_ands; exact HK.out _ _ b1 (by assumption) (by assumption) (by assumption))) (first | (go_at_call 113; with_reducible refine (hCm _).mono ?_; rintro r w1 ⟨rfl, b1⟩))
          have hB1 : Below W0.heap.size W0 w1 := by first | assumption | (go_split_ands; assumption)
          have hown' : w1.ownsRow W0.heap.size 52 5 u5 s1.length (ecells s1) := own_below (W := wr.drew) hown b1
          have hsz1 := hB1.size
          obtain ⟨c0, c1, c2, c3, c4⟩ := (HC.out w1 hB1).1
          obtain ⟨d0, d1, d2, d3, d4⟩ := (HC.out w1 hB1).2
          simp only [Nat.zero_add] at d1 d2 d3 d4
          generalize hww : wr.drew = wd at *
          clear hww hown HS0 b1
          have HOUT : Hid (∀ (W2 : World) (v1 : Value), W2.ownsRow W0.heap.size 52 5 v1 (s1.length + 1) (ecells s1 ++ ecs e) → W2.ownsRow W0.heap.size 52 5 v1 (s1 ++ [e]).length (ecells (s1 ++ [e]))) := fun W2 v1 h => by rw [ecells_append, List.length_append]; simpa [ecells] using h
          have hl9 : (s1 ++ [e]).length ≤ 536870913 := by simp; omega
          go_upto_region 8 with (at_builtin; refine wpList_append_own _ rfl _ _ 29 rfl W0.heap.size 52 i0 (.agg #[.string ⟨#[]⟩, .int .i64 0, .int .i64 0, .string ⟨#[]⟩, .string ⟨#[]⟩]) 5 64 Tryz.underlying29 hi hz0 hz1 hz2 rfl (by decide) _ _ _ rfl (hown'.alloc _) ⟨w1.heap.size, 0, none⟩ 1 1 (ecs e) rfl rfl (ent_cells (ent_new w1 _ e)) (ent_one e) (by unfold maxLen; omega) (by omega) (by simp; omega) ?_; intro v1 w2 hown1 hgrow1 _)
          have hb2 : Below W0.heap.size W0 w2 := (hB1.alloc hsz1 _).grown hgrow1 (by simp; omega) (fun j hj => (own_ge hown' j hj.symm).1)
          have hown2 := HOUT.out w2 v1 hown1
          have hsz2 := hb2.size
          obtain ⟨c0, c1, c2, c3, c4⟩ := (HC.out w2 hb2).1
          clear hown1 hgrow1 hown'
          go_wp2_with (at_builtin; refine wpList_append_own _ rfl _ _ 29 rfl W0.heap.size 52 i0 (.agg #[.string ⟨#[]⟩, .int .i64 0, .int .i64 0, .string ⟨#[]⟩, .string ⟨#[]⟩]) 5 64 Tryz.underlying29 hi hz0 hz1 hz2 rfl (by decide) _ _ _ rfl (hown2.alloc _) ⟨w2.heap.size, 0, none⟩ 1 1 (ecs x) rfl rfl (ent_cells (ent_new w2 _ x)) (ent_one x) (by unfold maxLen; omega) (by omega) (by simp; omega) ?_; intro v3 w3 hown3 hgrow3 _)
          have hb3 : Below W0.heap.size W0 w3 := (hb2.alloc hsz2 _).grown hgrow3 (by simp; omega) (fun j hj => (own_ge hown2 j hj.symm).1)
          have hown4 : w3.ownsRow W0.heap.size 52 5 v3 ((s1 ++ [e]) ++ [x]).length (ecells ((s1 ++ [e]) ++ [x])) := by rw [ecells_append, List.length_append]; simpa [ecells] using hown3
          go_roundw
          case rel => exact ⟨k + 1, by go_num, by omega, by rw [HN.out], by rw [HN.out]; exact hown4, hb3⟩
          case measure => simp [intOf]; omega
        · have hg0 : decide (C < 0) = false := by simpa using hC
          have HN : Hid (wthAll e (L.take (k + 1)) = (s1 ++ [x], false)) := by unfold Hid; rw [HST.out, if_neg (fun h => hC h.2)]
          clear HST hC
          go_region_held3 (fun w' => w'.cell? ⟨b, o + k * 5, none⟩ = some (.string x.path) ∧ w'.cell? ⟨w.heap.size, 0, none⟩ = some (.string e.path) ∧ Below W0.heap.size W0 w') (first | exact HS0.out | (go_split_ands; exact HK.out _ _ b1 (by assumption) (by assumption) (by assumption))) (first | (go_at_call 113; with_reducible refine (hCm _).mono ?_; rintro r w1 ⟨rfl, b1⟩))
          have hB1 : Below W0.heap.size W0 w1 := by first | assumption | (go_split_ands; assumption)
          have hown' : w1.ownsRow W0.heap.size 52 5 u5 s1.length (ecells s1) := own_below (W := wr.drew) hown b1
          have hsz1 := hB1.size
          obtain ⟨c0, c1, c2, c3, c4⟩ := (HC.out w1 hB1).1
          obtain ⟨d0, d1, d2, d3, d4⟩ := (HC.out w1 hB1).2
          simp only [Nat.zero_add] at d1 d2 d3 d4
          generalize hww : wr.drew = wd at *
          clear hww hown HS0 b1
          go_wp2_with (at_builtin; refine wpList_append_own _ rfl _ _ 29 rfl W0.heap.size 52 i0 (.agg #[.string ⟨#[]⟩, .int .i64 0, .int .i64 0, .string ⟨#[]⟩, .string ⟨#[]⟩]) 5 64 Tryz.underlying29 hi hz0 hz1 hz2 rfl (by decide) _ _ _ rfl (hown'.alloc _) ⟨w1.heap.size, 0, none⟩ 1 1 (ecs x) rfl rfl (ent_cells (ent_new w1 _ x)) (ent_one x) (by unfold maxLen; omega) (by omega) (by simp; omega) ?_; intro v1 w2 hown1 hgrow1 _)
          have hb2 : Below W0.heap.size W0 w2 := (hB1.alloc hsz1 _).grown hgrow1 (by simp; omega) (fun j hj => (own_ge hown' j hj.symm).1)
          have hown2 : w2.ownsRow W0.heap.size 52 5 v1 (s1 ++ [x]).length (ecells (s1 ++ [x])) := by rw [ecells_append, List.length_append]; simpa [ecells] using hown1
          go_roundw
          case rel => exact ⟨k + 1, by go_num, by omega, by rw [HN.out], by rw [HN.out]; exact hown2, hb2⟩
          case measure => simp [intOf]; omega
    · have hge : ¬ (k : Int) < (L.length : Int) := by omega
      have hall : L.take k = L := List.take_of_length_le (by omega)
      rw [hall] at hown hll
      rw [hall]
      have HEN : Hid (wthEnd e L = if (wthAll e L).2 then (wthAll e L).1 else (wthAll e L).1 ++ [e]) := rfl
      clear hall hc
      generalize wthAll e L = s at *
      obtain ⟨s1, s2⟩ := s
      cases s2 with
      | true =>
        have HN : Hid (wthEnd e L = s1) := HEN.out
        go_wp2
        go_ret
        exact ⟨_, rfl, by rw [HN.out]; exact owns_le hown (by omega), hbA.trans (hB.mono (by omega))⟩
      | false =>
        have HN : Hid (wthEnd e L = s1 ++ [e]) := HEN.out
        obtain ⟨d0, d1, d2, d3, d4⟩ := HE.out.below hB
        simp only [Nat.zero_add] at d1 d2 d3 d4
        go_wp2_with (at_builtin; refine wpList_append_own _ rfl _ _ 29 rfl W0.heap.size 52 i0 (.agg #[.string ⟨#[]⟩, .int .i64 0, .int .i64 0, .string ⟨#[]⟩, .string ⟨#[]⟩]) 5 64 Tryz.underlying29 hi hz0 hz1 hz2 rfl (by decide) _ _ _ rfl (hown.alloc _) ⟨wr.heap.size, 0, none⟩ 1 1 (ecs e) rfl rfl (ent_cells (ent_new wr _ e)) (ent_one e) (by unfold maxLen; omega) (by omega) (by simp; omega) ?_; intro v1 w2 hown1 hgrow1 _)
        have hb2 : Below W0.heap.size W0 w2 := (hB.alloc hsz _).grown hgrow1 (by simp; omega) (fun j hj => (own_ge hown j hj.symm).1)
        have hown2 : w2.ownsRow W0.heap.size 52 5 v1 (s1 ++ [e]).length (ecells (s1 ++ [e])) := by rw [ecells_append, List.length_append]; simpa [ecells] using hown1
        go_ret
        exact ⟨_, rfl, by rw [HN.out]; exact owns_le hown2 (by omega), hbA.trans (hb2.mono (by omega))⟩
end Go.Proofs.YtcefgnjgcnboeaaGreatDoor

namespace Go.Proofs.YtcefgnjgcnboeaaGreatDoor
open Go Go.RowKit

def mayN (c q : ByteArray) : Int := if nameN c ≠ 0 then nameN c else checkN q
set_option maxRecDepth 100000 in
theorem may_r (c q : ByteArray) (w : World) (hc : c.size ≤ 1099511627776) (hq : q.size ≤ 1099511627776) : Calls Tryz.prog 100 #[.string c, .string q] w fun e w' => e = .returned (.int .i64 (mayN c q)) ∧ Below w.heap.size w w' := by
  have hN := fun W => name_r c W (by omega)
  have hC := fun W => check_r q W hq
  by_cases h : nameN c = 0
  · have HM : Hid (mayN c q = checkN q) := if_neg (by simpa using h)
    rw [h] at hN
    clear h
    go_enter Tryz.func100, Tryz.ntmps100
    go_wp2_with (first | (go_at_call 111; refine (hN _).mono ?_; rintro e w1 ⟨rfl, hw1⟩; replace hw1 := hw1.symm; subst hw1) | (go_at_call 112; refine (hC _).mono ?_; rintro e w2 ⟨rfl, hb2⟩))
    go_ret
    exact ⟨by rw [HM.out]; rfl, hb2⟩
  · have HM : Hid (mayN c q = nameN c) := if_pos h
    have hb : (nameN c == 0) = false := by simpa using h
    generalize nameN c = n at *
    clear h
    go_enter Tryz.func100, Tryz.ntmps100
    go_wp2_with (first | (go_at_call 111; refine (hN _).mono ?_; rintro e w1 ⟨rfl, hw1⟩; replace hw1 := hw1.symm; subst hw1))
    go_ret
    exact ⟨by rw [HM.out]; rfl, Below.refl _ _⟩
variable {a1 a2 a3 : Option Addr} {n1 n2 n3 c1 c2 c3 : Nat} {here ans : ByteArray} {hops : Nat} {dn : Bool} {no : Int}
/-- The two blocks that missing begins with. -/
theorem miss_begin (w : World) (cs : Array Value) (W : World) (hb : Below ((w.alloc (.cells cs 81)).alloc (.cells zw8 81)).heap.size ((w.alloc (.cells cs 81)).alloc (.cells zw8 81)) W) :
    Below w.heap.size w W ∧ W.heap[w.heap.size]? = some (.cells cs 81 (0, 0)) ∧ W.heap[w.heap.size + 1]? = some (.cells zw8 81 (0, 0)) := by
  refine ⟨below_join (two_below _ _ _) hb, (hb.block _ (by simp; omega)).trans ?_, (hb.block _ (by simp)).trans (new_two w _ _ _)⟩
  exact (Below.heap_alloc _ _ _ (by simp)).trans (World.alloc_heap_new w _)
set_option maxRecDepth 100000 in
set_option maxHeartbeats 4000000 in
theorem missing_may (srt : Int) (hs : srt = 2 ∨ srt = 3) (c q : ByteArray) (w : World) (hc : c.size ≤ 1099511627776) (hq : q.size ≤ 1099511627776) (hm : mayN c q ≠ 0) : Calls Tryz.prog 80 #[.agg (wk8 (.slice a1 n1 c1) here (.slice a2 n2 c2) hops (.slice a3 n3 c3) dn ans no), .string c, .string q, .int .i64 srt] w fun e w' => e = .returned (.agg (wk8 (.slice a1 n1 c1) here (.slice a2 n2 c2) hops (.slice a3 n3 c3) dn ans (mayN c q))) ∧ Below w.heap.size w w' := by
  have hM := may_r c q ((w.alloc (.cells (wk8 (.slice a1 n1 c1) here (.slice a2 n2 c2) hops (.slice a3 n3 c3) dn ans no) 81)).alloc (.cells zw8 81)) hc hq
  have h0 : (srt == 0) = false := by rcases hs with rfl | rfl <;> decide
  have h1 : (srt == 1) = false := by rcases hs with rfl | rfl <;> decide
  have hmb : (mayN c q == 0) = false := by simpa using hm
  generalize mayN c q = n at *
  clear hs hm
  go_enter Tryz.func80, Tryz.ntmps80
  go_wp2_with fail
  refine hM.mono ?_
  rintro e w1 ⟨rfl, hb1⟩
  obtain ⟨hB1, k0, k1⟩ := miss_begin w _ w1 hb1
  clear hM hb1
  have hL : ∀ w3, Below w1.heap.size w1 w3 → w3.heap[w.heap.size + 1]? = some (.cells zw8 81 (0, 0)) := fun w3 hb => (hb.block _ (Array.getElem?_eq_some_iff.1 k1).1).trans k1
  go_wp2_with (first
    | (refine wpList_load_row rfl 81 (.tmp 4) rfl w.heap.size rfl 81 _ (0, 0) _ k0 Tryz.underlying81 rfl (info_w8 _ rfl) ?_)
    | (go_at_call 81; refine (refused_r _ _).mono ?_; rintro e w3 ⟨rfl, hb3⟩; have hL3 := hL _ hb3)
    | (refine wpList_store_row rfl 81 (.tmp 8) (.tmp 25) rfl (w.heap.size + 1) (wk8 (.slice a1 n1 c1) here (.slice a2 n2 c2) hops (.slice a3 n3 c3) dn ans n) rfl rfl 81 zw8 hL3 (info_w8 _ rfl) rfl (one_w8 _ _ _ _ _ _ _ _ _ _ _ _ _ _) ?_))
  refine bodyPost_ret (results_cell_row rfl _ _ (w.heap.size + 1) 81 _ (0, 0) _ rfl (setRow_heap _ (w.heap.size + 1) _ _ _ (0, 0) hL3) Tryz.underlying81 rfl (info_w8 _ rfl)) rfl ?_
  exact ⟨rfl, below_setRow' (below_join hB1 hb3) (by omega) _⟩
set_option maxRecDepth 100000 in
set_option maxHeartbeats 4000000 in
theorem missing_end (c q : ByteArray) (w : World) (hc : c.size ≤ 1099511627776) (hq : q.size ≤ 1099511627776) (hm : mayN c q = 0) : Calls Tryz.prog 80 #[.agg (wk8 (.slice a1 n1 c1) here (.slice a2 0 c2) hops (.slice a3 n3 c3) dn ans no), .string c, .string q, .int .i64 3] w fun e w' => e = .returned (.agg (wk8 (.slice a1 n1 c1) here (.slice a2 0 c2) hops (.slice a3 n3 c3) true q no)) ∧ Below w.heap.size w w' := by
  have hM := may_r c q ((w.alloc (.cells (wk8 (.slice a1 n1 c1) here (.slice a2 0 c2) hops (.slice a3 n3 c3) dn ans no) 81)).alloc (.cells zw8 81)) hc hq
  rw [hm] at hM
  clear hm
  go_enter Tryz.func80, Tryz.ntmps80
  go_wp2_with fail
  refine hM.mono ?_
  rintro e w1 ⟨rfl, hb1⟩
  obtain ⟨hB1, k0, k1⟩ := miss_begin w _ w1 hb1
  clear hM hb1
  have d2 : w1.cell? ⟨w.heap.size, 2, none⟩ = some (.slice a2 0 c2) := w8_cells k0 rfl
  have hL : ∀ w3, Below w1.heap.size w1 w3 → w3.heap[w.heap.size + 1]? = some (.cells zw8 81 (0, 0)) := fun w3 hb => (hb.block _ (Array.getElem?_eq_some_iff.1 k1).1).trans k1
  go_wp2_with (first
    | (refine wpList_load_row rfl 81 (.tmp 4) rfl w.heap.size rfl 81 _ (0, 0) _ k0 Tryz.underlying81 rfl (info_w8 _ rfl) ?_)
    | (go_at_call 53; refine (ended_r _ _).mono ?_; rintro e w3 ⟨rfl, hb3⟩; have hL3 := hL _ hb3)
    | (refine wpList_store_row rfl 81 (.tmp 8) (.tmp 36) rfl (w.heap.size + 1) (wk8 (.slice a1 n1 c1) here (.slice a2 0 c2) hops (.slice a3 n3 c3) true q no) rfl rfl 81 zw8 hL3 (info_w8 _ rfl) rfl (one_w8 _ _ _ _ _ _ _ _ _ _ _ _ _ _) ?_))
  refine bodyPost_ret (results_cell_row rfl _ _ (w.heap.size + 1) 81 _ (0, 0) _ rfl (setRow_heap _ (w.heap.size + 1) _ _ _ (0, 0) hL3) Tryz.underlying81 rfl (info_w8 _ rfl)) rfl ?_
  exact ⟨rfl, below_setRow' (below_join hB1 hb3) (by omega) _⟩
/-- The document asks besides whether the walk is Place's last piece. -/
def NotEnd (srt : Int) (n2 : Nat) : Prop := srt = 2 ∨ (srt = 3 ∧ n2 ≠ 0)
theorem notEnd_bools {srt : Int} {n2 : Nat} (h : NotEnd srt n2) : (srt == 0) = false ∧ (srt == 1) = false ∧ ((srt == 3) = false ∨ ((srt == 3) = true ∧ ((n2 : Int) == 0) = false)) := by
  rcases h with rfl | ⟨rfl, h⟩
  · exact ⟨by decide, by decide, .inl (by decide)⟩
  · exact ⟨by decide, by decide, .inr ⟨by decide, by rw [beq_eq_false_iff_ne]; omega⟩⟩
set_option maxRecDepth 100000 in
set_option maxHeartbeats 4000000 in
theorem missing_many (srt : Int) (c q : ByteArray) (w : World) (hs : NotEnd srt n2) (hc : c.size ≤ 1099511627776) (hq : q.size ≤ 1099511627776) (hm : mayN c q = 0) (hl : 4096 ≤ n1) : Calls Tryz.prog 80 #[.agg (wk8 (.slice a1 n1 c1) here (.slice a2 n2 c2) hops (.slice a3 n3 c3) dn ans no), .string c, .string q, .int .i64 srt] w fun e w' => e = .returned (.agg (wk8 (.slice a1 n1 c1) here (.slice a2 n2 c2) hops (.slice a3 n3 c3) dn ans 5)) ∧ Below w.heap.size w w' := by
  have hM := may_r c q ((w.alloc (.cells (wk8 (.slice a1 n1 c1) here (.slice a2 n2 c2) hops (.slice a3 n3 c3) dn ans no) 81)).alloc (.cells zw8 81)) hc hq
  rw [hm] at hM
  obtain ⟨h0, h1, h3⟩ := notEnd_bools hs
  have hl' : (4096 : Int) ≤ (n1 : Int) := by omega
  clear hm hs
  rcases h3 with h3 | ⟨h3, h4⟩
  · go_enter Tryz.func80, Tryz.ntmps80
    go_wp2_with fail
    refine hM.mono ?_
    rintro e w1 ⟨rfl, hb1⟩
    obtain ⟨hB1, k0, k1⟩ := miss_begin w _ w1 hb1
    clear hM hb1
    have d2 : w1.cell? ⟨w.heap.size, 2, none⟩ = some (.slice a2 n2 c2) := w8_cells k0 rfl
    have d0 : w1.cell? ⟨w.heap.size, 0, none⟩ = some (.slice a1 n1 c1) := w8_cells k0 rfl
    have hL : ∀ w3, Below w1.heap.size w1 w3 → w3.heap[w.heap.size + 1]? = some (.cells zw8 81 (0, 0)) := fun w3 hb => (hb.block _ (Array.getElem?_eq_some_iff.1 k1).1).trans k1
    go_wp2_with (first
      | (refine wpList_load_row rfl 81 (.tmp 4) rfl w.heap.size rfl 81 _ (0, 0) _ k0 Tryz.underlying81 rfl (info_w8 _ rfl) ?_)
      | (go_at_call 81; refine (refused_r _ _).mono ?_; rintro e w3 ⟨rfl, hb3⟩; have hL3 := hL _ hb3)
      | (refine wpList_store_row rfl 81 (.tmp 8) (.tmp 42) rfl (w.heap.size + 1) (wk8 (.slice a1 n1 c1) here (.slice a2 n2 c2) hops (.slice a3 n3 c3) dn ans 5) rfl rfl 81 zw8 hL3 (info_w8 _ rfl) rfl (one_w8 _ _ _ _ _ _ _ _ _ _ _ _ _ _) ?_))
    refine bodyPost_ret (results_cell_row rfl _ _ (w.heap.size + 1) 81 _ (0, 0) _ rfl (setRow_heap _ (w.heap.size + 1) _ _ _ (0, 0) hL3) Tryz.underlying81 rfl (info_w8 _ rfl)) rfl ?_
    exact ⟨rfl, below_setRow' (below_join hB1 hb3) (by omega) _⟩
  · go_enter Tryz.func80, Tryz.ntmps80
    go_wp2_with fail
    refine hM.mono ?_
    rintro e w1 ⟨rfl, hb1⟩
    obtain ⟨hB1, k0, k1⟩ := miss_begin w _ w1 hb1
    clear hM hb1
    have d2 : w1.cell? ⟨w.heap.size, 2, none⟩ = some (.slice a2 n2 c2) := w8_cells k0 rfl
    have d0 : w1.cell? ⟨w.heap.size, 0, none⟩ = some (.slice a1 n1 c1) := w8_cells k0 rfl
    have hL : ∀ w3, Below w1.heap.size w1 w3 → w3.heap[w.heap.size + 1]? = some (.cells zw8 81 (0, 0)) := fun w3 hb => (hb.block _ (Array.getElem?_eq_some_iff.1 k1).1).trans k1
    go_wp2_with (first
      | (refine wpList_load_row rfl 81 (.tmp 4) rfl w.heap.size rfl 81 _ (0, 0) _ k0 Tryz.underlying81 rfl (info_w8 _ rfl) ?_)
      | (go_at_call 81; refine (refused_r _ _).mono ?_; rintro e w3 ⟨rfl, hb3⟩; have hL3 := hL _ hb3)
      | (refine wpList_store_row rfl 81 (.tmp 8) (.tmp 42) rfl (w.heap.size + 1) (wk8 (.slice a1 n1 c1) here (.slice a2 n2 c2) hops (.slice a3 n3 c3) dn ans 5) rfl rfl 81 zw8 hL3 (info_w8 _ rfl) rfl (one_w8 _ _ _ _ _ _ _ _ _ _ _ _ _ _) ?_))
    refine bodyPost_ret (results_cell_row rfl _ _ (w.heap.size + 1) 81 _ (0, 0) _ rfl (setRow_heap _ (w.heap.size + 1) _ _ _ (0, 0) hL3) Tryz.underlying81 rfl (info_w8 _ rfl)) rfl ?_
    exact ⟨rfl, below_setRow' (below_join hB1 hb3) (by omega) _⟩
set_option maxRecDepth 100000 in
set_option maxHeartbeats 8000000 in
theorem missing_lay (srt : Int) (L : List Ent) (c q : ByteArray) (w : World) (hs : NotEnd srt n2) (hc : c.size ≤ 1099511627776) (hq : q.size ≤ 1048576) (hm : mayN c q = 0) (hl : L.length < 4096) (hE : EntsAt w (.slice a1 L.length c1) L) (hz : ∀ x ∈ L, x.path.size ≤ 1048576) : Calls Tryz.prog 80 #[.agg (wk8 (.slice a1 L.length c1) here (.slice a2 n2 c2) hops (.slice a3 n3 c3) dn ans no), .string c, .string q, .int .i64 srt] w fun e w' => ∃ u, e = .returned (.agg (wk8 u q (.slice a2 n2 c2) hops (.slice a3 n3 c3) dn ans no)) ∧ w'.ownsRow w.heap.size 52 5 u (wthEnd (dirE q) L).length (ecells (wthEnd (dirE q) L)) ∧ Below w.heap.size w w' := by
  have hM := may_r c q ((w.alloc (.cells (wk8 (.slice a1 L.length c1) here (.slice a2 n2 c2) hops (.slice a3 n3 c3) dn ans no) 81)).alloc (.cells zw8 81)) (by omega) (by omega)
  rw [hm] at hM
  obtain ⟨h0, h1, h3⟩ := notEnd_bools hs
  have hl' : ¬ (4096 : Int) ≤ (L.length : Int) := by omega
  clear hm hs
  rcases h3 with h3 | ⟨h3, h4⟩
  · go_enter Tryz.func80, Tryz.ntmps80
    go_wp2_with fail
    refine hM.mono ?_
    rintro e w1 ⟨rfl, hb1⟩
    obtain ⟨hB1, k0, k1⟩ := miss_begin w _ w1 hb1
    clear hM hb1
    have d2 : w1.cell? ⟨w.heap.size, 2, none⟩ = some (.slice a2 n2 c2) := w8_cells k0 rfl
    have d0 : w1.cell? ⟨w.heap.size, 0, none⟩ = some (.slice a1 L.length c1) := w8_cells k0 rfl
    have hW := with_r (.slice a1 L.length c1) L (dirE q) w1 (hE.below hB1) (by omega) hz hq
    have hk0l : w.heap.size < w1.heap.size := (Array.getElem?_eq_some_iff.1 k0).1
    have hk1l : w.heap.size + 1 < w1.heap.size := (Array.getElem?_eq_some_iff.1 k1).1
    go_wp2_with fail
    refine hW.mono ?_
    rintro e w2 ⟨u2, rfl, hu2, hb2⟩
    obtain ⟨v1, v2, rfl⟩ := row_form hu2
    have k02 : w2.heap[w.heap.size]? = some (.cells (wk8 (.slice a1 L.length c1) here (.slice a2 n2 c2) hops (.slice a3 n3 c3) dn ans no) 81 (0, 0)) := (hb2.block _ hk0l).trans k0
    have k12 : w2.heap[w.heap.size + 1]? = some (.cells zw8 81 (0, 0)) := (hb2.block _ hk1l).trans k1
    have HU2 : Hid (w2.ownsRow w1.heap.size 52 5 (.slice v1 (wthEnd (dirE q) L).length v2) (wthEnd (dirE q) L).length (ecells (wthEnd (dirE q) L))) := hu2
    have HB2 : Hid (Below w.heap.size w w2) := below_join hB1 hb2
    have f0 : w2.frozen? ⟨w.heap.size, 0, none⟩ = false := by simp [World.frozen?, k02]
    have g0 : w2.cell? ⟨w.heap.size, 0, none⟩ = some (.slice a1 L.length c1) := w8_cells k02 rfl
    have k03 := set_block (i := 0) k02 (.slice v1 (wthEnd (dirE q) L).length v2)
    have f1 : (w2.setCell ⟨w.heap.size, 0, none⟩ (.slice v1 (wthEnd (dirE q) L).length v2)).frozen? ⟨w.heap.size, 1, none⟩ = false := by simp [World.frozen?, k03]
    have g1 : (w2.setCell ⟨w.heap.size, 0, none⟩ (.slice v1 (wthEnd (dirE q) L).length v2)).cell? ⟨w.heap.size, 1, none⟩ = some (.string here) := w8_cells k03 rfl
    have k04 : ((w2.setCell ⟨w.heap.size, 0, none⟩ (.slice v1 (wthEnd (dirE q) L).length v2)).setCell ⟨w.heap.size, 1, none⟩ (.string q)).heap[w.heap.size]? = some (.cells (wk8 (.slice v1 (wthEnd (dirE q) L).length v2) q (.slice a2 n2 c2) hops (.slice a3 n3 c3) dn ans no) 81 (0, 0)) := set_block (i := 1) k03 (.string q)
    have k14 : ((w2.setCell ⟨w.heap.size, 0, none⟩ (.slice v1 (wthEnd (dirE q) L).length v2)).setCell ⟨w.heap.size, 1, none⟩ (.string q)).heap[w.heap.size + 1]? = some (.cells zw8 81 (0, 0)) := (Below.heap_setCell _ _ _ _ (by show w.heap.size + 1 ≠ w.heap.size; omega)).trans ((Below.heap_setCell _ _ _ _ (by show w.heap.size + 1 ≠ w.heap.size; omega)).trans k12)
    clear hW hu2 hb2 k0 k1 k02 k12 k03 hB1
    go_wp2_with (first
      | (refine wpList_load_row rfl 81 (.tmp 4) rfl w.heap.size rfl 81 _ (0, 0) _ k04 Tryz.underlying81 rfl (info_w8 _ rfl) ?_)
      | (refine wpList_store_row rfl 81 (.tmp 8) (.tmp 51) rfl (w.heap.size + 1) (wk8 (.slice v1 (wthEnd (dirE q) L).length v2) q (.slice a2 n2 c2) hops (.slice a3 n3 c3) dn ans no) rfl rfl 81 zw8 k14 (info_w8 _ rfl) rfl (one_w8 _ _ _ _ _ _ _ _ _ _ _ _ _ _) ?_))
    refine bodyPost_ret (results_cell_row rfl _ _ (w.heap.size + 1) 81 _ (0, 0) _ rfl (setRow_heap _ (w.heap.size + 1) _ _ _ (0, 0) k14) Tryz.underlying81 rfl (info_w8 _ rfl)) rfl ?_
    refine ⟨_, rfl, owns_le (row_loc HU2.out (fun k hk => ?_)) (by omega), below_setRow' ((HB2.out.setCell (p := ⟨w.heap.size, 0, none⟩) (Nat.le_refl _) _).setCell (p := ⟨w.heap.size, 1, none⟩) (Nat.le_refl _) _) (by omega) _⟩
    have := (HU2.out.lt k hk).1
    exact (setRow_other _ _ _ _ (by omega)).trans ((Below.heap_setCell _ _ _ _ (by show k ≠ w.heap.size; omega)).trans (Below.heap_setCell _ _ _ _ (by show k ≠ w.heap.size; omega)))
  · go_enter Tryz.func80, Tryz.ntmps80
    go_wp2_with fail
    refine hM.mono ?_
    rintro e w1 ⟨rfl, hb1⟩
    obtain ⟨hB1, k0, k1⟩ := miss_begin w _ w1 hb1
    clear hM hb1
    have d2 : w1.cell? ⟨w.heap.size, 2, none⟩ = some (.slice a2 n2 c2) := w8_cells k0 rfl
    have d0 : w1.cell? ⟨w.heap.size, 0, none⟩ = some (.slice a1 L.length c1) := w8_cells k0 rfl
    have hW := with_r (.slice a1 L.length c1) L (dirE q) w1 (hE.below hB1) (by omega) hz hq
    have hk0l : w.heap.size < w1.heap.size := (Array.getElem?_eq_some_iff.1 k0).1
    have hk1l : w.heap.size + 1 < w1.heap.size := (Array.getElem?_eq_some_iff.1 k1).1
    go_wp2_with fail
    refine hW.mono ?_
    rintro e w2 ⟨u2, rfl, hu2, hb2⟩
    obtain ⟨v1, v2, rfl⟩ := row_form hu2
    have k02 : w2.heap[w.heap.size]? = some (.cells (wk8 (.slice a1 L.length c1) here (.slice a2 n2 c2) hops (.slice a3 n3 c3) dn ans no) 81 (0, 0)) := (hb2.block _ hk0l).trans k0
    have k12 : w2.heap[w.heap.size + 1]? = some (.cells zw8 81 (0, 0)) := (hb2.block _ hk1l).trans k1
    have HU2 : Hid (w2.ownsRow w1.heap.size 52 5 (.slice v1 (wthEnd (dirE q) L).length v2) (wthEnd (dirE q) L).length (ecells (wthEnd (dirE q) L))) := hu2
    have HB2 : Hid (Below w.heap.size w w2) := below_join hB1 hb2
    have f0 : w2.frozen? ⟨w.heap.size, 0, none⟩ = false := by simp [World.frozen?, k02]
    have g0 : w2.cell? ⟨w.heap.size, 0, none⟩ = some (.slice a1 L.length c1) := w8_cells k02 rfl
    have k03 := set_block (i := 0) k02 (.slice v1 (wthEnd (dirE q) L).length v2)
    have f1 : (w2.setCell ⟨w.heap.size, 0, none⟩ (.slice v1 (wthEnd (dirE q) L).length v2)).frozen? ⟨w.heap.size, 1, none⟩ = false := by simp [World.frozen?, k03]
    have g1 : (w2.setCell ⟨w.heap.size, 0, none⟩ (.slice v1 (wthEnd (dirE q) L).length v2)).cell? ⟨w.heap.size, 1, none⟩ = some (.string here) := w8_cells k03 rfl
    have k04 : ((w2.setCell ⟨w.heap.size, 0, none⟩ (.slice v1 (wthEnd (dirE q) L).length v2)).setCell ⟨w.heap.size, 1, none⟩ (.string q)).heap[w.heap.size]? = some (.cells (wk8 (.slice v1 (wthEnd (dirE q) L).length v2) q (.slice a2 n2 c2) hops (.slice a3 n3 c3) dn ans no) 81 (0, 0)) := set_block (i := 1) k03 (.string q)
    have k14 : ((w2.setCell ⟨w.heap.size, 0, none⟩ (.slice v1 (wthEnd (dirE q) L).length v2)).setCell ⟨w.heap.size, 1, none⟩ (.string q)).heap[w.heap.size + 1]? = some (.cells zw8 81 (0, 0)) := (Below.heap_setCell _ _ _ _ (by show w.heap.size + 1 ≠ w.heap.size; omega)).trans ((Below.heap_setCell _ _ _ _ (by show w.heap.size + 1 ≠ w.heap.size; omega)).trans k12)
    clear hW hu2 hb2 k0 k1 k02 k12 k03 hB1
    go_wp2_with (first
      | (refine wpList_load_row rfl 81 (.tmp 4) rfl w.heap.size rfl 81 _ (0, 0) _ k04 Tryz.underlying81 rfl (info_w8 _ rfl) ?_)
      | (refine wpList_store_row rfl 81 (.tmp 8) (.tmp 51) rfl (w.heap.size + 1) (wk8 (.slice v1 (wthEnd (dirE q) L).length v2) q (.slice a2 n2 c2) hops (.slice a3 n3 c3) dn ans no) rfl rfl 81 zw8 k14 (info_w8 _ rfl) rfl (one_w8 _ _ _ _ _ _ _ _ _ _ _ _ _ _) ?_))
    refine bodyPost_ret (results_cell_row rfl _ _ (w.heap.size + 1) 81 _ (0, 0) _ rfl (setRow_heap _ (w.heap.size + 1) _ _ _ (0, 0) k14) Tryz.underlying81 rfl (info_w8 _ rfl)) rfl ?_
    refine ⟨_, rfl, owns_le (row_loc HU2.out (fun k hk => ?_)) (by omega), below_setRow' ((HB2.out.setCell (p := ⟨w.heap.size, 0, none⟩) (Nat.le_refl _) _).setCell (p := ⟨w.heap.size, 1, none⟩) (Nat.le_refl _) _) (by omega) _⟩
    have := (HU2.out.lt k hk).1
    exact (setRow_other _ _ _ _ (by omega)).trans ((Below.heap_setCell _ _ _ _ (by show k ≠ w.heap.size; omega)).trans (Below.heap_setCell _ _ _ _ (by show k ≠ w.heap.size; omega)))
end Go.Proofs.YtcefgnjgcnboeaaGreatDoor
