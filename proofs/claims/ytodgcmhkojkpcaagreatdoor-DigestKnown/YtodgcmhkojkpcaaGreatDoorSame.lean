/- Two lists of texts held against each other. -/
import Derived.Test.YtodgcmhkojkpcaaGreatDoorLists
namespace Go.Proofs.YtodgcmhkojkpcaaGreatDoor
open Go Go.RowKit

set_option maxHeartbeats 2000000 in
theorem same_p (l m : List ByteArray) (u v : Value) (w : World) (h1 : TextsAt w u l) (h2 : TextsAt w v m) (hz : l.length ≤ 1099511627776) (he : l = m) : Calls Tryz.prog 39 #[u, v] w fun e w' => e = .returned (.bool true) ∧ Below w.heap.size w w' := by
  subst he
  obtain ⟨a, c, rfl, _, hc⟩ := h1
  obtain ⟨a2, c2, rfl, _, hc2⟩ := h2
  have HC : Hid _ := hc
  have HC2 : Hid _ := hc2
  clear hc hc2
  go_enter Tryz.func39, Tryz.ntmps39
  go_wp2
  go_loopw [5] (fun n wr => ∃ (k d : Nat), k ≤ l.length ∧ n = .int .i64 k ∧ wr = w.drewN d) (fun n _ => l.length - (intOf n).toNat)
  case atStart => exact ⟨0, 0, Nat.zero_le _, rfl, rfl⟩
  case round =>
    obtain ⟨k, d, hk, rfl, rfl⟩ := hrel
    by_cases hlt : k < l.length
    · obtain ⟨x, hx⟩ : ∃ x, l[k]? = some x := ⟨_, List.getElem?_eq_getElem hlt⟩
      obtain ⟨b, o, rfl, hcell⟩ := HC.out k x hx
      obtain ⟨b2, o2, rfl, hcell2⟩ := HC2.out k x hx
      have d1 : (0 : Int) ≤ (k : Int) := by omega
      have d2 : (k : Int) < (l.length : Int) := by omega
      have d3 : (x.toList == x.toList) = true := by simp
      go_wp2
      go_region
      go_wp2
      go_roundw
      case rel => exact ⟨k + 1, d + 1, by omega, by go_num, rfl⟩
      case measure => simp [intOf]; omega
    · obtain rfl : k = l.length := by omega
      go_wp2
      go_ret
      exact ⟨rfl, below_drawn (Below.refl _ _) d⟩

set_option maxHeartbeats 4000000 in
set_option maxRecDepth 100000 in
theorem copy_p (l : List ByteArray) (v : Value) (w : World) (h : TextsAt w v l) (hz : l.length ≤ 1048576) : Calls Tryz.prog 45 #[v] w fun e w' => ∃ u, e = .returned u ∧ w'.ownsRow w.heap.size 9 1 u l.length (strs l) ∧ Below w.heap.size w w' := by
  obtain ⟨i0, hi, z0, z1, z2⟩ := info_parts str_info
  obtain ⟨a, c, rfl, _, hc⟩ := h
  have HC : Hid _ := hc
  clear hc
  go_enter Tryz.func45, Tryz.ntmps45
  go_wp2
  go_loopw [3, 4] (fun u n wr => ∃ k : Nat, k ≤ l.length ∧ n = .int .i64 k ∧ wr.ownsRow w.heap.size 9 1 u k (strs (l.take k)) ∧ Below w.heap.size w wr) (fun _ n _ => l.length - (intOf n).toNat)
  case atStart => exact ⟨0, Nat.zero_le _, rfl, World.ownsRow_nil _ _ _ _, Below.refl _ _⟩
  case round =>
    obtain ⟨k, hk, rfl, hown, hB⟩ := hrel
    by_cases hlt : k < l.length
    · obtain ⟨x, hx⟩ : ∃ x, l[k]? = some x := ⟨_, List.getElem?_eq_getElem hlt⟩
      obtain ⟨b, o, rfl, hcell0⟩ := HC.out k x hx
      have hcell := (hB.cell (p := ⟨b, o + k, none⟩) (World.block_lt_of_cell? w _ hcell0)).trans hcell0
      have H3 : Hid (strs (l.take (k + 1)) = strs (l.take k) ++ [.string x]) := by unfold Hid; rw [List.take_add_one, hx, strs_append]; rfl
      have d1 : (0 : Int) ≤ (k : Int) := by omega
      have d2 : (k : Int) < (l.length : Int) := by omega
      clear hcell0 hx
      go_wp2_with (at_builtin; refine wpList_append_own _ rfl _ _ 29 rfl w.heap.size 9 i0 (.string ⟨#[]⟩) 1 16 Tryz.underlying29 hi z0 z1 z2 rfl (by decide) _ _ _ rfl (hown.alloc _) ⟨wr.heap.size, 0, none⟩ 1 1 [.string x] rfl rfl ?c1 ?c2 ?c3 ?c4 ?c5 ?_)
      case c1 =>
        intro j u hj
        rcases j with _ | j
        · simp at hj; subst hj; simp [Addr.add]
        · simp at hj
      case c2 => intro u hu; simp at hu; subst hu; rfl
      case c3 => unfold maxLen; omega
      case c4 => omega
      case c5 => have := hB.size; simp; omega
      intro v' w2 hown' hg _
      go_wp2
      go_roundw
      case rel => exact ⟨k + 1, by omega, by go_num, by rw [H3.out]; exact hown', (hB.alloc hB.size _).grown hg (by have := hB.size; simp; omega) (fun r hr => (hown.lt r hr).1)⟩
      case measure => simp [intOf]; omega
    · obtain rfl : k = l.length := by omega
      rw [List.take_length] at hown
      go_wp2
      go_ret
      exact ⟨_, rfl, hown, hB⟩
end Go.Proofs.YtodgcmhkojkpcaaGreatDoor
