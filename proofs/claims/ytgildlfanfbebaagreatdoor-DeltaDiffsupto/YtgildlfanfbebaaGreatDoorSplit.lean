/- Package path's Split. -/
import Derived.Test.YtgildlfanfbebaaGreatDoorName
import Derived.Test.YtgildlfanfbebaaGreatDoorCut
import Derived.Test.YtgildlfanfbebaaGreatDoorSplitM
namespace Go.Proofs.YtgildlfanfbebaaGreatDoor
open Go.RowKit

theorem below_draw (w : World) (n : Nat) : Below w.heap.size w (w.drewN n) := ⟨rfl, rfl, rfl, Nat.le_refl _, fun _ _ => rfl⟩
theorem indexByte_p (s : ByteArray) (w : World) : Calls Tryz.prog 137 #[.string s, .int .u8 47] w fun e w' => e = .returned (.int .i64 (ix s)) ∧ w' = w := Tryz.strings_IndexByte s 47 w
set_option maxHeartbeats 1000000 in
theorem split_p (p : ByteArray) (w : World) (hs : p.size < 4611686018427387904) : Calls Tryz.prog 135 #[.string p] w fun e w' => e = .returned (.tuple #[.string (splitP p).1, .string (splitP p).2.1, errV (splitP p).2.2]) ∧ Below w.heap.size w w' := by
  by_cases h1 : p.size ≤ 100
  · have h1' : (p.size : Int) ≤ 100 := by omega
    go_enter Tryz.func135, Tryz.ntmps135
    go_wp2
    go_ret3
    exact ⟨by simp [splitP, h1]; rfl, Below.refl _ _⟩
  have h1' : ¬ (p.size : Int) ≤ 100 := by omega
  have hr := ix_range (p.extract (p.size - 100 - 1) p.size)
  by_cases h2 : ix (p.extract (p.size - 100 - 1) p.size) < 0
  · have H2 : Hid (ix (p.extract (p.size - 100 - 1) p.size) = -1) := by unfold Hid; omega
    clear hr
    go_enter Tryz.func135, Tryz.ntmps135
    go_wp2_with (go_at_call 137; refine (indexByte_p _ _).mono ?_; rintro e w' ⟨rfl, rfl⟩; rw [H2.out])
    go_ret3
    exact ⟨by simp only [splitP, h1, H2.out]; rfl, Below.refl _ _⟩
  obtain ⟨k, hk⟩ : ∃ k : Nat, ix (p.extract (p.size - 100 - 1) p.size) = k := ⟨(ix (p.extract (p.size - 100 - 1) p.size)).toNat, by omega⟩
  have hlen : (p.extract (p.size - 100 - 1) p.size).size = 101 := by rw [← un_length, un_extract, ← un_length]; simp; rw [un_length]; omega
  rw [hk, hlen] at hr
  have hk1 : k ≤ 100 := by omega
  have Hk : Hid _ := hk
  have HS : Hid (splitP p = if (p.extract (p.size - 100 - 1 + k + 1) p.size).toList.isEmpty then (⟨#[]⟩, ⟨#[]⟩, 9) else if (p.extract 0 (p.size - 100 - 1 + k)).toList.isEmpty then (⟨#[]⟩, ⟨#[]⟩, 9) else if 155 < (p.extract 0 (p.size - 100 - 1 + k)).size then (⟨#[]⟩, ⟨#[]⟩, 9) else (p.extract 0 (p.size - 100 - 1 + k), p.extract (p.size - 100 - 1 + k + 1) p.size, 0)) := by
    unfold Hid splitP
    rw [if_neg h1, if_neg h2, hk]; rfl
  clear hk h2 hlen hr
  go_enter Tryz.func135, Tryz.ntmps135
  go_wp2_with (go_at_call 137; refine (indexByte_p _ _).mono ?_; rintro e w' ⟨rfl, rfl⟩; rw [Hk.out])
  go_quiet (fail)
  generalize p.extract 0 (p.size - 100 - 1 + k) = pr at *
  generalize p.extract (p.size - 100 - 1 + k + 1) p.size = nm at *
  cases e1 : nm.toList.isEmpty
  rotate_left
  · go_wp2
    go_ret3
    exact ⟨by rw [HS.out, e1]; rfl, below_draw _ _⟩
  cases e2 : pr.toList.isEmpty
  rotate_left
  · go_wp2
    go_ret3
    exact ⟨by rw [HS.out, e1, e2]; rfl, below_draw _ _⟩
  by_cases e3 : 155 < pr.size
  · have e3' : (155 : Int) < pr.size := by omega
    go_wp2
    go_ret3
    exact ⟨by rw [HS.out, e1, e2, if_neg (by decide), if_neg (by decide), if_pos e3]; rfl, below_draw _ _⟩
  · have e3' : ¬ (155 : Int) < pr.size := by omega
    go_wp2
    go_ret3
    exact ⟨by rw [HS.out, e1, e2, if_neg (by decide), if_neg (by decide), if_neg e3]; rfl, below_draw _ _⟩
end Go.Proofs.YtgildlfanfbebaaGreatDoor
