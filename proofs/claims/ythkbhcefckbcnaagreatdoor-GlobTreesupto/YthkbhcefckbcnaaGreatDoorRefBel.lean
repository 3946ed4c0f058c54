/- The document's answer for what lies below a path. (Out of strata01's RefC.) -/
import Derived.Test.YthkbhcefckbcnaaGreatDoorBelK
import Derived.Test.YthkbhcefckbcnaaGreatDoorSplitM
namespace Go.Proofs.YthkbhcefckbcnaaGreatDoor
open Go.RowKit

theorem begins_r (s h : ByteArray) (w : World) : Calls Tryz.prog 62 #[.string s, .string h] w fun e w' => e = .returned (.bool (Lib.hasPrefix (un s) (un h))) ∧ w' = w := by
  by_cases c : h.size ≤ s.size
  · have c' : (h.size : Int) ≤ (s.size : Int) := by omega
    have e1 : Lib.hasPrefix (un s) (un h) = ((s.extract 0 h.size).toList == h.toList) := by
      rw [hasPrefix_take, toList_un, toList_un, un_extract, un_length, un_length]; simp [c]
    have E : Hid _ := e1
    clear e1
    go_enter Tryz.func62, Tryz.ntmps62
    go_wp2
    go_ret
    exact ⟨by rw [E.out]; rfl, rfl⟩
  · have c' : ¬ (h.size : Int) ≤ (s.size : Int) := by omega
    have e1 : Lib.hasPrefix (un s) (un h) = false := by
      rw [hasPrefix_take, un_length, un_length]; simp; omega
    have E : Hid _ := e1
    clear e1
    go_enter Tryz.func62, Tryz.ntmps62
    go_wp2
    go_ret
    exact ⟨by rw [E.out]; rfl, rfl⟩

theorem below_r (a b : ByteArray) (w : World) (ha : a.size < 4611686018427387904) : Calls Tryz.prog 32 #[.string a, .string b] w fun e w' => e = .returned (.bool (belowB a b)) ∧ w' = w := by
  cases h1 : a.toList.isEmpty
  · have E : Hid _ := belowB_r a b h1
    have e2 : un (a ++ ⟨#[47]⟩) = un a ++ [47] := un_append a ⟨#[47]⟩
    have E2 : Hid _ := e2
    clear e2
    go_enter Tryz.func32, Tryz.ntmps32
    go_wp2_with (go_at_call 62; refine (begins_r _ _ _).mono ?_; rintro e w2 ⟨rfl, hw⟩; subst hw)
    go_ret
    exact ⟨by rw [E.out, ← E2.out]; rfl, rfl⟩
  · go_enter Tryz.func32, Tryz.ntmps32
    go_wp2
    go_ret
    exact ⟨by simp [belowB, h1]; try rfl, rfl⟩
end Go.Proofs.YthkbhcefckbcnaaGreatDoor
