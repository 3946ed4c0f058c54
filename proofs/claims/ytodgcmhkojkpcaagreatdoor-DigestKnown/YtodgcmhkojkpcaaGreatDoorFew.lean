/- Lists of texts of any size that a machine holds: are they of few bytes in all? -/
import Derived.Test.YtodgcmhkojkpcaaGreatDoorLists
namespace Go.Proofs.YtodgcmhkojkpcaaGreatDoor
open Go Go.RowKit

def tot (l : List ByteArray) : Nat := (l.map ByteArray.size).sum
theorem tot_append (a b : List ByteArray) : tot (a ++ b) = tot a + tot b := by simp [tot]
theorem tot_take_succ (l : List ByteArray) (k : Nat) (x : ByteArray) (h : l[k]? = some x) : tot (l.take (k + 1)) = tot (l.take k) + x.size := by
  obtain ⟨hk, he⟩ := List.getElem?_eq_some_iff.1 h
  rw [List.take_succ_eq_append_getElem hk, he, tot_append]; simp [tot]
theorem tot_take_le (l : List ByteArray) (k : Nat) : tot (l.take k) ≤ tot l := by
  have h := tot_append (l.take k) (l.drop k)
  rw [List.take_append_drop] at h; omega
theorem size_tot {l : List ByteArray} {x : ByteArray} (h : x ∈ l) : x.size ≤ tot l := by
  induction l with
  | nil => cases h
  | cons y l ih =>
    have e : tot (y :: l) = y.size + tot l := by simp [tot]
    rcases List.mem_cons.1 h with rfl | h
    · omega
    · have := ih h; omega
set_option maxHeartbeats 1000000 in
/-- few tells whether the texts have at most 2^20 bytes in all. -/
theorem few_q (l : List ByteArray) (v : Value) (w : World) (h : TextsAt w v l) (hl : l.length ≤ 140737488351232) (hx : ∀ x ∈ l, x.size ≤ 140737488351232) : Calls Tryz.prog 32 #[v] w fun e w' => (e = .returned (.bool false) ∨ (e = .returned (.bool true) ∧ tot l ≤ 1048576)) ∧ w' = w := by
  obtain ⟨a, c, rfl, _, hc⟩ := h
  have HC : Hid _ := hc
  have HX : Hid _ := hx
  clear hc hx
  go_enter Tryz.func32, Tryz.ntmps32
  go_wp2
  go_loop [3, 4] (fun m n => ∃ (k : Nat), k ≤ l.length ∧ n = .int .i64 k ∧ m = .int .i64 (tot (l.take k)) ∧ tot (l.take k) ≤ 1048576) (fun _ n => l.length - (intOf n).toNat)
  case atStart => exact ⟨0, Nat.zero_le _, rfl, rfl, Nat.zero_le _⟩
  case round =>
    obtain ⟨k, hk, rfl, rfl, hs⟩ := hrel
    by_cases hlt : k < l.length
    · obtain ⟨x, hx⟩ : ∃ x, l[k]? = some x := ⟨_, List.getElem?_eq_getElem hlt⟩
      obtain ⟨b, o, rfl, hcell⟩ := HC.out k x hx
      have hxz := HX.out x (List.mem_of_getElem? hx)
      have HW : Hid _ := tot_take_succ l k x hx
      generalize tot (l.take k) = s at *
      have d1 : (0 : Int) ≤ (k : Int) := by omega
      have d2 : (k : Int) < (l.length : Int) := by omega
      by_cases hbig : 1048576 < s + x.size
      · have d3 : (1048576 : Int) < (s : Int) + (x.size : Int) := by omega
        go_wp2
        go_ret
        exact ⟨Or.inl rfl, rfl⟩
      · have d3 : ¬ (1048576 : Int) < (s : Int) + (x.size : Int) := by omega
        go_wp2
        go_round
        case rel => exact ⟨k + 1, by omega, by go_num, by rw [HW.out]; go_num, by rw [HW.out]; omega⟩
        case measure => simp [intOf]; omega
    · obtain rfl : k = l.length := by omega
      rw [List.take_length] at hs
      have HS : Hid _ := hs
      clear hs
      go_wp2
      go_ret
      have hq := HS.out
      exact ⟨Or.inr ⟨rfl, hq⟩, rfl⟩
end Go.Proofs.YtodgcmhkojkpcaaGreatDoor
