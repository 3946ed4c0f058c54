/- The document's answer for what is a path. -/
import Derived.Test.YtjgdeblmgmojcaaGreatDoorRefA
import Derived.Test.YtjgdeblmgmojcaaGreatDoorRefB
import Derived.Test.YtjgdeblmgmojcaaGreatDoorRefC
import Derived.Test.YtjgdeblmgmojcaaGreatDoorRefD
namespace Go.Proofs.YtjgdeblmgmojcaaGreatDoor
open Go Go.RowKit

theorem whiteout_r (a : ByteArray) (w : World) (hs : a.size < 1152921504606846976) : Calls Tryz.prog 15 #[.string a] w fun e w' => e = .returned (.string (whiteoutB a)) ∧ w' = w := by
  have h1 := parentB_size a
  have h2 := lastB_size a
  go_enter Tryz.func15, Tryz.ntmps15
  go_wp2_with (first | (go_at_call 9; refine (parent_r _ _ (by omega)).mono ?_; rintro e w' ⟨rfl, rfl⟩) | (go_at_call 10; refine (last_r _ _ (by omega)).mono ?_; rintro e w' ⟨rfl, rfl⟩) | (go_at_call 8; go_must (refine (join_r _ _ _ (by rw [ByteArray.size_append, show (ByteArray.mk #[46, 119, 104, 46]).size = 4 from rfl]; omega)).mono ?_); rintro e w' ⟨rfl, rfl⟩))
  go_ret
  exact ⟨rfl, rfl⟩

theorem any_bad {xs : List ByteArray} {k : Nat} {x : ByteArray} (hx : xs[k]? = some x) (h : nameN x = 8) : xs.any (fun x => nameN x != 0) = true :=
  List.any_eq_true.2 ⟨x, List.mem_of_getElem? hx, by rw [h]; rfl⟩
theorem any_good {xs : List ByteArray} (h : ∀ j x, j < xs.length → xs[j]? = some x → nameN x = 0) : xs.any (fun x => nameN x != 0) = false := by
  rw [List.any_eq_false]; intro x hx
  obtain ⟨j, hj, rfl⟩ := List.getElem_of_mem hx
  rw [h j _ hj (List.getElem?_eq_getElem hj)]; decide

set_option maxRecDepth 100000 in
set_option maxHeartbeats 2000000 in
theorem check_r (p : ByteArray) (w : World) (hs : p.size ≤ 1099511627776) : Calls Tryz.prog 4 #[.string p] w fun e w' => e = .returned (.int .i64 (checkN p)) ∧ Below w.heap.size w w' := by
  cases h : p.toList.isEmpty
  rotate_left
  · have E : Hid (checkN p = 15) := by unfold Hid; simp [checkN, h]
    go_enter Tryz.func4, Tryz.ntmps4
    go_wp2
    go_ret
    exact ⟨by rw [E.out]; rfl, Below.refl _ _⟩
  have hpl := piecesB_length p
  have hwz := whiteoutB_size p
  go_enter Tryz.func4, Tryz.ntmps4
  go_wp2_with (go_at_call 12; refine (cut_row p _ hs).mono ?_; rintro e w1 ⟨g, cap, rfl, hrow, hgl, _, hb1⟩)
  go_loop [4] (fun i => ∃ k : Nat, k ≤ (piecesB p).length ∧ i = .int .i64 k ∧ ∀ (j : Nat) x, j < k → (piecesB p)[j]? = some x → nameN x = 0) (fun i => (piecesB p).length - (intOf i).toNat)
  case atStart => exact ⟨0, Nat.zero_le _, rfl, fun j x hj => by omega⟩
  case round =>
    obtain ⟨k, hk, rfl, hn⟩ := hrel
    have HN : Hid _ := hn
    clear hn
    by_cases hlt : k < (piecesB p).length
    · obtain ⟨x, hx⟩ : ∃ x, (piecesB p)[k]? = some x := ⟨_, List.getElem?_eq_getElem hlt⟩
      have hcell := hrow k x hx
      have hxs : x.size ≤ 9223372036854775806 := by
        have h1 := wt_prefix (pre := [x]) (xs := [x]) (List.prefix_refl _)
        have h2 : x.size + 1 ≤ wt (piecesB p) := by
          obtain ⟨a, b, hab⟩ := List.append_of_mem (List.mem_of_getElem? hx)
          rw [hab, wt_append]; simp [wt]; omega
        have h3 : wt (piecesB p) = p.size + 1 := by unfold piecesB; rw [wt_cut, un_length]
        omega
      rcases nameN_cases x with h0 | h8
      · have HN2 : Hid (∀ (j : Nat) x, j < k + 1 → (piecesB p)[j]? = some x → nameN x = 0) := fun j y hj hy => by
          rcases Nat.lt_succ_iff_lt_or_eq.1 hj with h1 | h1
          · exact HN.out j y h1 hy
          · subst h1; rw [hx] at hy; cases hy; exact h0
        have H0 : Hid _ := h0
        have Hrow : Hid _ := hrow
        clear h0 hx hrow
        go_wp2_with (go_at_call 13; refine (name_r _ _ hxs).mono ?_; rintro e w2 ⟨rfl, hw⟩; subst hw; rw [H0.out])
        first
          | exact ⟨⟨k + 1, by omega, by go_num, HN2.out⟩, by simp [intOf]; omega⟩
          | (go_round
             case rel => exact ⟨k + 1, by omega, by go_num, HN2.out⟩
             case measure => simp [intOf]; omega)
      · have E : Hid (checkN p = 8) := by unfold Hid; simp [checkN, h, any_bad hx h8]
        have H8 : Hid _ := h8
        have Hrow : Hid _ := hrow
        clear h8 hx hrow
        go_wp2_with (go_at_call 13; refine (name_r _ _ hxs).mono ?_; rintro e w2 ⟨rfl, hw⟩; subst hw; rw [H8.out])
        go_ret
        exact ⟨by rw [E.out]; rfl, hb1⟩
    · obtain rfl : k = (piecesB p).length := by omega
      have hany := any_good (xs := piecesB p) (fun j x hj => HN.out j x hj)
      by_cases h32 : 32 < (piecesB p).length
      · have h32' : (32 : Int) < (piecesB p).length := by omega
        have E : Hid (checkN p = 9) := by unfold Hid; simp [checkN, h, hany, h32]
        clear hany
        go_wp2
        go_ret
        exact ⟨by rw [E.out]; rfl, hb1⟩
      have h32' : ¬ (32 : Int) < (piecesB p).length := by omega
      by_cases h255 : 255 < p.size
      · have h255' : (255 : Int) < p.size := by omega
        have E : Hid (checkN p = 9) := by unfold Hid; simp [checkN, h, hany, h255]
        clear hany
        go_wp2
        go_ret
        exact ⟨by rw [E.out]; rfl, hb1⟩
      · have h255' : ¬ (255 : Int) < p.size := by omega
        have E : Hid (checkN p = (splitP (whiteoutB p)).2.2) := by unfold Hid; simp [checkN, h, hany, h32, h255]
        clear hany
        go_wp2_with (first | (go_at_call 15; refine (whiteout_r _ _ (by omega)).mono ?_; rintro e w2 ⟨rfl, hw⟩; subst hw) | (go_at_call 14; refine (split_r _ _ (by omega)).mono ?_; rintro e w3 ⟨rfl, hb3⟩))
        go_ret
        exact ⟨by rw [E.out]; rfl, hb1.trans (hb3.mono hb1.size)⟩
end Go.Proofs.YtjgdeblmgmojcaaGreatDoor
