/- The document's answer for a text as a header says it. -/
import Derived.Test.YtgdkgdlgalinbaaGreatDoorSplitM
import Derived.Test.YtgdkgdlgalinbaaGreatDoorProg
import Derived.WalkKit
import Derived.WalkSpells
import Derived.Deep.QuietTactic
import Derived.BigQuiet
import Derived.Outline
namespace Go.Proofs.YtgdkgdlgalinbaaGreatDoor
open Go.RowKit

set_option maxHeartbeats 1000000 in
theorem split_r (p : ByteArray) (w : World) (hs : p.size < 4611686018427387904) : Calls Tryz.prog 28 #[.string p] w fun e w' => e = .returned (.tuple #[.string (splitP p).1, .string (splitP p).2.1, .int .i64 (splitP p).2.2]) ∧ Below w.heap.size w w' := by
  by_cases h1 : p.size ≤ 100
  · have h1' : (p.size : Int) ≤ 100 := by omega
    go_enter Tryz.func28, Tryz.ntmps28
    go_wp2
    go_ret3
    exact ⟨by simp [splitP, h1], Below.refl _ _⟩
  have h1' : ¬ (p.size : Int) ≤ 100 := by omega
  go_enter Tryz.func28, Tryz.ntmps28
  go_wp2
  go_loop [5] (fun i => ∃ k : Nat, k ≤ p.size ∧ i = .int .i64 k ∧ ∀ j, j < k → ¬ good p j) (fun i => p.size - (intOf i).toNat)
  case atStart => exact ⟨0, Nat.zero_le _, rfl, fun j hj => by omega⟩
  case round =>
    obtain ⟨k, hk, rfl, hn⟩ := hrel
    by_cases hlt : k < p.size
    · have hget : Hid _ := un_getElem? p k hlt
      by_cases hg : good p k
      · have hc : p[k].toNat = 47 := by have := hg.1; rw [hget.out] at this; simp at this; rw [this]; rfl
        have hb1 : (1 : Int) ≤ (p.size : Int) - (k : Int) - 1 := by have := hg.2.1; omega
        have hb2 : (p.size : Int) - (k : Int) - 1 ≤ 100 := by have := hg.2.2; omega
        have HS : Hid _ := splitP_at p k (by omega) hg hn
        clear hg hn
        by_cases c1 : k < 1
        · obtain rfl : k = 0 := by omega
          go_wp2
          go_ret3
          exact ⟨by rw [HS.out, if_pos (by omega)]; rfl, Below.refl _ _⟩
        · have c1' : ¬ (k : Int) < 1 := by omega
          by_cases c2 : 155 < k
          · have c2' : (155 : Int) < (k : Int) := by omega
            go_wp2
            go_ret3
            exact ⟨by rw [HS.out, if_pos (by omega)]; rfl, Below.refl _ _⟩
          · have c2' : ¬ (155 : Int) < (k : Int) := by omega
            have d1 : (0 : Int) ≤ (k : Int) := by omega
            have d2 : (k : Int) ≤ p.size := by omega
            have d3 : (0 : Int) ≤ (k : Int) + 1 := by omega
            have d4 : (k : Int) + 1 ≤ p.size := by omega
            go_wp2
            go_quiet (fail)
            go_wp2
            go_ret3
            exact ⟨by rw [HS.out, if_neg (by omega)]; rfl, ⟨rfl, rfl, rfl, Nat.le_refl _, fun _ _ => rfl⟩⟩
      · have hn2 : ∀ j, j < k + 1 → ¬ good p j := fun j hj => by
          rcases Nat.lt_succ_iff_lt_or_eq.1 hj with h | h
          · exact hn j h
          · rw [h]; exact hg
        have Hn : Hid _ := hn2
        by_cases hc : p[k].toNat = 47
        · have hng : ¬ (k + 2 ≤ p.size ∧ p.size ≤ k + 101) := fun h => hg ⟨by rw [hget.out]; congr 1; exact UInt8.toNat_inj.1 hc, h⟩
          clear hn2 hg hn
          by_cases hb1 : k + 2 ≤ p.size
          · have hb1' : (1 : Int) ≤ (p.size : Int) - (k : Int) - 1 := by omega
            have hb2' : ¬ (p.size : Int) - (k : Int) - 1 ≤ 100 := by omega
            go_wp2
            go_round
            case rel => exact ⟨k + 1, by omega, by go_num, Hn.out⟩
            case measure => simp [intOf]; omega
          · have hb1' : ¬ (1 : Int) ≤ (p.size : Int) - (k : Int) - 1 := by omega
            go_wp2
            go_round
            case rel => exact ⟨k + 1, by omega, by go_num, Hn.out⟩
            case measure => simp [intOf]; omega
        · clear hn2 hg hn
          go_wp2
          go_round
          case rel => exact ⟨k + 1, by omega, by go_num, Hn.out⟩
          case measure => simp [intOf]; omega
    · have HS : Hid _ := splitP_none p (by omega) (fun j hj => hn j (by omega))
      clear hn
      go_wp2
      go_ret3
      exact ⟨by rw [HS.out]; rfl, Below.refl _ _⟩
end Go.Proofs.YtgdkgdlgalinbaaGreatDoor
