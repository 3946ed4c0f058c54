/- A text without its line ends. -/
import Derived.Test.YtmgoknlpimfmnaaDoorRefNames
namespace Go.Proofs.YtmgoknlpimfmnaaDoor
open Go Go.RowKit

def withoutB (s : ByteArray) : ByteArray := bs ((un s).filter (fun c => c != 10))
theorem withoutB_size (s : ByteArray) : (withoutB s).size ≤ s.size := by
  unfold withoutB; rw [size_bs, ← un_length]; exact List.length_filter_le _ _
theorem withoutB_none (s : ByteArray) : (10 : UInt8) ∉ un (withoutB s) := by
  unfold withoutB; rw [un_bs]; simp
set_option maxHeartbeats 2000000 in
theorem without_p (s : ByteArray) (w : World) (hs : s.size ≤ 1099511627776) :
    Calls Tryd.prog 5 #[.string s] w fun e w' => e = .returned (.string (withoutB s)) ∧ w' = w := by
  go_enter Tryd.func5, Tryd.ntmps5
  go_wp2
  go_loop [3, 4] (fun a n => ∃ k : Nat, k ≤ s.size ∧ n = .int .i64 k ∧ a = .string (bs (((un s).take k).filter (fun c => c != 10)))) (fun _ n => s.size - (intOf n).toNat)
  case atStart => exact ⟨0, Nat.zero_le _, rfl, rfl⟩
  case round =>
    obtain ⟨k, hk, rfl, rfl⟩ := hrel
    have hz1 : (bs (((un s).take k).filter (fun c => c != 10))).size ≤ k := by
      rw [size_bs]; exact Nat.le_trans (List.length_filter_le _ _) (by simp; omega)
    by_cases hlt : k < s.size
    · have hget := un_getElem? s k hlt
      have d1 : (0 : Int) ≤ (k : Int) := by omega
      have d2 : (k : Int) < (s.size : Int) := by omega
      by_cases hc : s[k].toNat = 10
      · have hst : Hid (bs (((un s).take (k + 1)).filter (fun c => c != 10)) = bs (((un s).take k).filter (fun c => c != 10))) := by
          unfold Hid
          rw [List.take_add_one, hget, show s[k] = 10 from UInt8.toNat_inj.1 hc]
          simp [List.filter_append]
        obtain ⟨a, ha⟩ : ∃ a, bs (((un s).take k).filter (fun c => c != 10)) = a := ⟨_, rfl⟩
        rw [ha] at hz1 hst ⊢
        clear ha hget
        go_wp2
        go_round
        case rel => exact ⟨k + 1, by omega, by go_num, by rw [hst.out]⟩
        case measure => simp [intOf]; omega
      · have hst : Hid (bs (((un s).take (k + 1)).filter (fun c => c != 10)) = bs (((un s).take k).filter (fun c => c != 10)) ++ s.extract k (k + 1)) := by
          unfold Hid
          refine un_inj ?_
          have hc2 : (s[k] != 10) = true := by
            rw [bne_iff_ne]; intro e; exact hc (by rw [e]; rfl)
          have hx : ((un s).take (k + 1)).drop k = [s[k]] := by
            rw [List.take_add_one, hget, List.drop_append_of_le_length (by simp [un_length]; omega), List.drop_eq_nil_of_le (by simp; omega)]; rfl
          rw [un_append, un_bs, un_bs, un_extract, hx, List.take_add_one, hget]
          simp [List.filter_append, hc2]
        obtain ⟨a, ha⟩ : ∃ a, bs (((un s).take k).filter (fun c => c != 10)) = a := ⟨_, rfl⟩
        rw [ha] at hz1 hst ⊢
        have hz3 : (s.extract k (k + 1)).size = 1 := by rw [size_extract' s k (k + 1) (by omega)]; omega
        clear ha hget
        go_wp2
        go_round
        case rel => exact ⟨k + 1, by omega, by go_num, by rw [hst.out]⟩
        case measure => simp [intOf]; omega
    · obtain rfl : k = s.size := by omega
      have he : Hid (bs (((un s).take s.size).filter (fun c => c != 10)) = withoutB s) := by
        unfold Hid withoutB; rw [← un_length, List.take_length]
      rw [he.out]
      go_wp2
      go_ret
      exact ⟨rfl, rfl⟩
end Go.Proofs.YtmgoknlpimfmnaaDoor
