/- Two lists of texts held against each other: round 4's, again. -/
import Derived.Test.YtjmekcakiacdfaaTxA
namespace Go.Proofs.Ytjmekcakiacdfaa.Tx
open Go Go.RowKit
set_option maxHeartbeats 2000000 in
theorem same_p (l m : List ByteArray) (u v : Value) (w : World) (h1 : TextsAt w u l) (h2 : TextsAt w v m) (hz : l.length ≤ 1099511627776) (he : l = m) : Calls Try.prog 8 #[u, v] w fun e w' => e = .returned (.bool true) ∧ Below w.heap.size w w' := by
  subst he
  obtain ⟨a, c, rfl, _, hc⟩ := h1
  obtain ⟨a2, c2, rfl, _, hc2⟩ := h2
  have HC : Hid _ := hc
  have HC2 : Hid _ := hc2
  clear hc hc2
  go_enter Try.func8, Try.ntmps8
  go_wp2
  go_loopw [5] (fun n wr => ∃ (k d : Nat), k ≤ l.length ∧ n = .int .i64 k ∧ wr = w.drewN d) (fun n _ => l.length - (intOf n).toNat)
  case atStart => exact ⟨0, 0, Nat.zero_le _, rfl, rfl⟩
  case round =>
    obtain ⟨k, d, hk, rfl, rfl⟩ := hrel
    by_cases hlt : k < l.length
    · obtain ⟨x, hx⟩ : ∃ x, l[k]? = some x := ⟨_, List.getElem?_eq_getElem hlt⟩
      obtain ⟨b, o, rfl, hcell⟩ := HC.out k x hx
      obtain ⟨b2, o2, rfl, hcell2⟩ := HC2.out k x hx
      have d1 : (0 : Int) ≤ (k : Int) := by omega
      have d2 : (k : Int) < (l.length : Int) := by omega
      have d3 : (x.toList == x.toList) = true := by simp
      go_wp2
      go_region
      go_wp2
      go_roundw
      case rel => exact ⟨k + 1, d + 1, by omega, by go_num, rfl⟩
      case measure => simp [intOf]; omega
    · obtain rfl : k = l.length := by omega
      go_wp2
      go_ret
      exact ⟨rfl, below_drawn (Below.refl _ _) d⟩

end Go.Proofs.Ytjmekcakiacdfaa.Tx
