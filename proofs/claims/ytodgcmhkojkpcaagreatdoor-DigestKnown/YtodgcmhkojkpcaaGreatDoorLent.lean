/- Lists that are lent, and whether they were kept. -/
import Derived.Test.YtodgcmhkojkpcaaGreatDoorMark
namespace Go.Proofs.YtodgcmhkojkpcaaGreatDoor
open Go Go.RowKit

/-- A list that was lent: the texts, and sixteen marks behind them. -/
def LentIs (w : World) (v : Value) (l : List ByteArray) : Prop :=
  ∃ g cap, v = .slice (some ⟨g, 0, none⟩) l.length cap ∧ l.length + 16 ≤ cap ∧ ∀ j x, (l ++ marksN 16)[j]? = some x → w.cell? ⟨g, j, none⟩ = some (.string x)
theorem LentIs.below {w w' : World} {v : Value} {l : List ByteArray} (h : LentIs w v l) (hb : Below w.heap.size w w') : LentIs w' v l := by
  obtain ⟨g, cap, rfl, hc, h3⟩ := h
  exact ⟨g, cap, rfl, hc, fun j x hx => (hb.cell (p := ⟨g, j, none⟩) (World.block_lt_of_cell? w _ (h3 j x hx))).trans (h3 j x hx)⟩
theorem LentIs.texts {w : World} {v : Value} {l : List ByteArray} (h : LentIs w v l) : TextsAt w v l := by
  obtain ⟨g, cap, rfl, hc, h3⟩ := h
  refine ⟨_, _, rfl, (fun e => nomatch e), fun i x hx => ⟨g, 0, rfl, ?_⟩⟩
  rw [Nat.zero_add]
  exact h3 i x (by rw [List.getElem?_append_left (List.getElem?_eq_some_iff.1 hx).1]; exact hx)
set_option maxHeartbeats 2000000 in
set_option maxRecDepth 100000 in
theorem lent_p (l : List ByteArray) (v : Value) (w : World) (h : TextsAt w v l) (hz : l.length ≤ 8796093021952) : Calls Tryz.prog 42 #[v] w fun e w' => ∃ u, e = .returned u ∧ LentIs w' u l ∧ Below w.heap.size w w' := by
  have hF := full_p l v w h hz
  obtain ⟨a, c, rfl, _, hc⟩ := h
  have HC : Hid _ := hc
  clear hc
  go_enter Tryz.func42, Tryz.ntmps42
  go_wp2_with fail
  refine hF.mono ?_
  rintro e w1 ⟨u, rfl, hown, b1⟩
  have hown2 := hown
  rcases hown.2 with ⟨_, h0⟩ | ⟨g, cap, cur, rfl, _, _, hcap, hmax, _, _⟩
  · omega
  have HI : Hid (LentIs w1 (.slice (some ⟨g, 0, none⟩) l.length cap) l) := ⟨g, cap, rfl, hcap, fun j x hx => row_cell hown2 j _ (by unfold strs; rw [List.getElem?_map, hx]; rfl)⟩
  clear hown hown2
  unfold maxLen at hmax
  have d1 : (0 : Int) ≤ (l.length : Int) := by omega
  have d2 : (l.length : Int) ≤ (cap : Int) := by omega
  go_wp2
  go_ret
  exact ⟨_, rfl, HI.out, b1⟩

set_option maxHeartbeats 2000000 in
set_option maxRecDepth 100000 in
theorem keptfull_p (l : List ByteArray) (g cap : Nat) (v : Value) (w : World) (h : TextsAt w v l) (hz : l.length ≤ 8796093021952) (hG : ∀ j x, (l ++ marksN 16)[j]? = some x → w.cell? ⟨g, j, none⟩ = some (.string x)) : Calls Tryz.prog 65 #[.slice (some ⟨g, 0, none⟩) (l.length + 16) cap, v] w fun e w' => e = .returned (.bool true) ∧ Below w.heap.size w w' := by
  obtain ⟨a, c, rfl, _, hc⟩ := h
  have HC : Hid _ := hc
  have HG : Hid _ := hG
  clear hc hG
  go_enter Tryz.func65, Tryz.ntmps65
  go_wp2_with fail
  go_loopw [5] (fun n wr => ∃ k : Nat, k ≤ l.length + 16 ∧ n = .int .i64 k ∧ Below w.heap.size w wr) (fun n _ => l.length + 16 - (intOf n).toNat)
  case atStart => exact ⟨0, Nat.zero_le _, rfl, Below.refl _ _⟩
  case round =>
    obtain ⟨k, hk, rfl, hB⟩ := hrel
    by_cases hlt : k < l.length + 16
    · obtain ⟨x, hx⟩ : ∃ x, (l ++ marksN 16)[k]? = some x := ⟨_, List.getElem?_eq_getElem (by rw [List.length_append, marksN_length]; exact hlt)⟩
      have hg0 := HG.out k x hx
      have hgl := World.block_lt_of_cell? w _ hg0
      have d1 : (0 : Int) ≤ (k : Int) := by omega
      have d2 : (k : Int) < (l.length : Int) + 16 := by omega
      have dxx : (x.toList == x.toList) = true := by simp
      go_wp2_with fail
      refine (marks_p 90 _ _).mono ?_
      rintro e w1 ⟨rfl, b1⟩
      have hB1 := below_join hB b1
      have hg1 := (hB1.cell (p := ⟨g, k, none⟩) hgl).trans hg0
      clear hB b1
      by_cases hin : k < l.length
      · have hx2 : l[k]? = some x := by rwa [List.getElem?_append_left hin] at hx
        obtain ⟨b, o, rfl, hcell0⟩ := HC.out k x hx2
        have hcell := (hB1.cell (p := ⟨b, o + k, none⟩) (World.block_lt_of_cell? w _ hcell0)).trans hcell0
        have d3 : (k : Int) < (l.length : Int) := by omega
        clear hcell0 hx hx2
        go_wp2
        exact ⟨⟨k + 1, by omega, by go_num, hB1⟩, by simp [intOf]; omega⟩
      · have hx2 : x = markB 90 ((k : Int) - (l.length : Int)) := by
          rw [List.getElem?_append_right (by omega)] at hx
          unfold marksN at hx
          rw [List.getElem?_map, List.getElem?_range (by omega)] at hx
          have := Option.some.inj hx
          have e9 : ((k - l.length : Nat) : Int) = (k : Int) - (l.length : Int) := by omega
          rw [← this]
          show markB 90 ((k - l.length : Nat) : Int) = _
          rw [e9]
        have d3 : ¬ (k : Int) < (l.length : Int) := by omega
        rw [← hx2]
        clear hx hx2
        go_wp2
        exact ⟨⟨k + 1, by omega, by go_num, hB1⟩, by simp [intOf]; omega⟩
    · obtain rfl : k = l.length + 16 := by omega
      go_wp2
      go_ret
      exact ⟨rfl, hB⟩

set_option maxHeartbeats 2000000 in
set_option maxRecDepth 100000 in
theorem kept_p (l : List ByteArray) (u v : Value) (w : World) (hu : LentIs w u l) (h : TextsAt w v l) (hz : l.length ≤ 8796093021952) : Calls Tryz.prog 44 #[u, v] w fun e w' => e = .returned (.bool true) ∧ Below w.heap.size w w' := by
  obtain ⟨g, cap, rfl, hcap, hG⟩ := hu
  have hK := keptfull_p l g cap v w h hz hG
  obtain ⟨a, c, rfl, _, hc⟩ := h
  clear hc hG
  have d1 : (0 : Int) ≤ (l.length : Int) + 16 := by omega
  have d2 : (l.length : Int) + 16 ≤ (cap : Int) := by omega
  go_enter Tryz.func44, Tryz.ntmps44
  go_wp2_with fail
  refine hK.mono ?_
  rintro e w1 ⟨rfl, b1⟩
  go_wp2
  go_ret
  exact ⟨rfl, b1⟩
end Go.Proofs.YtodgcmhkojkpcaaGreatDoor
