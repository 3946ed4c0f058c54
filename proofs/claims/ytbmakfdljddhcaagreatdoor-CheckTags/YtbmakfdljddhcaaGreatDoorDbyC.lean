/- The document's small, letter, digit. -/
import Derived.Test.YtbmakfdljddhcaaGreatDoorHasC
namespace Go.Proofs.YtbmakfdljddhcaaGreatDoor
open Go Go.RowKit

def smB (b : UInt8) : Bool := decide (97 ≤ b.toNat) && decide (b.toNat ≤ 122)
def upB (b : UInt8) : Bool := decide (65 ≤ b.toNat) && decide (b.toNat ≤ 90)
def dgB (b : UInt8) : Bool := decide (48 ≤ b.toNat) && decide (b.toNat ≤ 57)
theorem small_r (b : UInt8) (w : World) : Calls Tryz.prog 32 #[.int .u8 b.toNat] w fun e w' => e = .returned (.bool (smB b)) ∧ w' = w := by
  unfold smB
  by_cases h1 : 97 ≤ b.toNat
  · have c1 : (97 : Int) ≤ (b.toNat : Int) := by omega
    by_cases h2 : b.toNat ≤ 122
    · have c2 : (b.toNat : Int) ≤ 122 := by omega
      rw [decide_eq_true h1, decide_eq_true h2]
      go_enter Tryz.func32, Tryz.ntmps32
      go_wp2
      go_ret
      exact ⟨rfl, rfl⟩
    · have c2 : ¬ (b.toNat : Int) ≤ 122 := by omega
      rw [decide_eq_true h1, decide_eq_false h2]
      go_enter Tryz.func32, Tryz.ntmps32
      go_wp2
      go_ret
      exact ⟨rfl, rfl⟩
  · have c1 : ¬ (97 : Int) ≤ (b.toNat : Int) := by omega
    rw [decide_eq_false h1]
    go_enter Tryz.func32, Tryz.ntmps32
    go_wp2
    go_ret
    exact ⟨rfl, rfl⟩
theorem digit_r (b : UInt8) (w : World) : Calls Tryz.prog 31 #[.int .u8 b.toNat] w fun e w' => e = .returned (.bool (dgB b)) ∧ w' = w := by
  unfold dgB
  by_cases h1 : 48 ≤ b.toNat
  · have c1 : (48 : Int) ≤ (b.toNat : Int) := by omega
    by_cases h2 : b.toNat ≤ 57
    · have c2 : (b.toNat : Int) ≤ 57 := by omega
      rw [decide_eq_true h1, decide_eq_true h2]
      go_enter Tryz.func31, Tryz.ntmps31
      go_wp2
      go_ret
      exact ⟨rfl, rfl⟩
    · have c2 : ¬ (b.toNat : Int) ≤ 57 := by omega
      rw [decide_eq_true h1, decide_eq_false h2]
      go_enter Tryz.func31, Tryz.ntmps31
      go_wp2
      go_ret
      exact ⟨rfl, rfl⟩
  · have c1 : ¬ (48 : Int) ≤ (b.toNat : Int) := by omega
    rw [decide_eq_false h1]
    go_enter Tryz.func31, Tryz.ntmps31
    go_wp2
    go_ret
    exact ⟨rfl, rfl⟩
theorem letter_r (b : UInt8) (w : World) : Calls Tryz.prog 30 #[.int .u8 b.toNat] w fun e w' => e = .returned (.bool (smB b || upB b)) ∧ w' = w := by
  have hp := fun W => small_r b W
  cases hs : smB b
  all_goals rw [hs] at hp
  · unfold upB
    by_cases h1 : 65 ≤ b.toNat
    · have c1 : (65 : Int) ≤ (b.toNat : Int) := by omega
      by_cases h2 : b.toNat ≤ 90
      · have c2 : (b.toNat : Int) ≤ 90 := by omega
        rw [decide_eq_true h1, decide_eq_true h2]
        clear hs
        go_enter Tryz.func30, Tryz.ntmps30
        go_wp2_with (go_at_call 32; refine (hp _).mono ?_; rintro e w1 ⟨rfl, hw⟩; replace hw := hw.symm; subst hw)
        go_ret
        exact ⟨rfl, rfl⟩
      · have c2 : ¬ (b.toNat : Int) ≤ 90 := by omega
        rw [decide_eq_true h1, decide_eq_false h2]
        clear hs
        go_enter Tryz.func30, Tryz.ntmps30
        go_wp2_with (go_at_call 32; refine (hp _).mono ?_; rintro e w1 ⟨rfl, hw⟩; replace hw := hw.symm; subst hw)
        go_ret
        exact ⟨congrArg (fun b => Ending.returned (Value.bool b)) (decide_eq_false (by omega)), rfl⟩
    · have c1 : ¬ (65 : Int) ≤ (b.toNat : Int) := by omega
      rw [decide_eq_false h1]
      clear hs
      go_enter Tryz.func30, Tryz.ntmps30
      go_wp2_with (go_at_call 32; refine (hp _).mono ?_; rintro e w1 ⟨rfl, hw⟩; replace hw := hw.symm; subst hw)
      go_ret
      exact ⟨rfl, rfl⟩
  · clear hs
    go_enter Tryz.func30, Tryz.ntmps30
    go_wp2_with (go_at_call 32; refine (hp _).mono ?_; rintro e w1 ⟨rfl, hw⟩; replace hw := hw.symm; subst hw)
    go_ret
    exact ⟨rfl, rfl⟩
def okP (n i : Nat) (b : UInt8) : Bool := smB b || dgB b || (!(i == 0 || i + 1 == n) && (b.toNat == 46 || b.toNat == 95 || b.toNat == 45))
def okT (i : Nat) (b : UInt8) : Bool := smB b || upB b || dgB b || b.toNat == 95 || (!(i == 0) && (b.toNat == 46 || b.toNat == 45))
def allP (l : List UInt8) (k : Nat) : Prop := ∀ i b, i < k → l[i]? = some b → okP l.length i b = true
def allT (l : List UInt8) (k : Nat) : Prop := ∀ i b, i < k → l[i]? = some b → okT i b = true
theorem allP_succ {l : List UInt8} {k : Nat} {b : UInt8} (h : allP l k) (hb : l[k]? = some b) (ho : okP l.length k b = true) : allP l (k + 1) := fun i c hi hc => by
  rcases Nat.lt_or_ge i k with h1 | h1
  · exact h i c h1 hc
  · obtain rfl : i = k := by omega
    rw [hb] at hc; cases hc; exact ho
theorem allT_succ {l : List UInt8} {k : Nat} {b : UInt8} (h : allT l k) (hb : l[k]? = some b) (ho : okT k b = true) : allT l (k + 1) := fun i c hi hc => by
  rcases Nat.lt_or_ge i k with h1 | h1
  · exact h i c h1 hc
  · obtain rfl : i = k := by omega
    rw [hb] at hc; cases hc; exact ho
end Go.Proofs.YtbmakfdljddhcaaGreatDoor
