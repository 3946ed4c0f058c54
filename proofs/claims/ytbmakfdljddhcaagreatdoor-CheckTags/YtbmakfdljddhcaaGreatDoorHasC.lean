/- Package check's small functions on texts: isMadeOf, begins, ends, isPiece, isTag. -/
import Derived.Test.YtbmakfdljddhcaaGreatDoorShelf
import Derived.Test.YtbmakfdljddhcaaGreatDoorSpec
import Derived.WalkKit
import Derived.WalkSpells
import Derived.RegionTactic
import Derived.Deep.QuietTactic
import Derived.BigQuiet
import Derived.Outline
namespace Go.Proofs.YtbmakfdljddhcaaGreatDoor
open Go Go.RowKit

def hasB (B : List UInt8) (c : UInt8) : Bool := decide (0 ≤ Lib.indexByte B c)
def madeL (B l : List UInt8) : Bool := l.all (hasB B) && !l.isEmpty
def begL (B l : List UInt8) : Bool := l.head?.any (hasB B)
def endL (B l : List UInt8) : Bool := l.getLast?.any (hasB B)
theorem byte_back (b : UInt8) : ((b.toNat : Int).toNat).toUInt8 = b := by simp
theorem ibyte_p (B : ByteArray) (c : UInt8) (W : World) : Calls Tryz.prog 50 #[.string B, .int .u8 c.toNat] W fun e w' => e = .returned (.int .i64 (Lib.indexByte (un B) c)) ∧ w' = W := by
  have h := Tryz.strings_IndexByte B (c.toNat : Int) W
  rw [byte_back] at h; exact h

set_option maxHeartbeats 2000000 in
theorem made_p (s B : ByteArray) (w : World) (hs : s.size ≤ 1099511627776) : Calls Tryz.prog 41 #[.string s, .string B] w fun e w' => e = .returned (.bool (madeL (un B) (un s))) ∧ w' = w := by
  have hsl := un_length s
  go_enter Tryz.func41, Tryz.ntmps41
  go_wp2
  go_loop [5, 8] (fun _ i => ∃ k : Nat, k ≤ s.size ∧ i = .int .i64 k ∧ Hid ((un s).take k |>.all (hasB (un B)))) (fun _ i => s.size - (intOf i).toNat)
  case atStart => exact ⟨0, Nat.zero_le _, rfl, by simp [Hid]⟩
  case round =>
    obtain ⟨k, hk, rfl, HA⟩ := hrel
    by_cases hlt : k < s.size
    · have hget := un_getElem? s k hlt
      have hp := fun W => ibyte_p B s[k] W
      have k0 : (0 : Int) ≤ (k : Int) := by omega
      have k1 : (k : Int) < (s.size : Int) := by omega
      generalize hix : Lib.indexByte (un B) s[k] = ix at hp
      by_cases hneg : ix < 0
      · have HF : Hid (madeL (un B) (un s) = false) := by
          unfold Hid madeL
          rw [Bool.and_eq_false_iff]; left
          rw [List.all_eq_false]
          exact ⟨s[k], List.mem_of_getElem? hget, by unfold hasB; rw [hix]; simp; omega⟩
        clear hix hget
        go_wp2_with (go_at_call 50; refine (hp _).mono ?_; rintro e w1 ⟨rfl, hw⟩; replace hw := hw.symm; subst hw)
        go_ret
        exact ⟨by rw [HF.out]; rfl, rfl⟩
      · have HA2 : Hid (((un s).take (k + 1)).all (hasB (un B)) = true) := by
          unfold Hid
          rw [List.take_add_one, hget, List.all_append, HA.out]
          simp [hasB, hix]; omega
        clear hix hget
        go_wp2_with (go_at_call 50; refine (hp _).mono ?_; rintro e w1 ⟨rfl, hw⟩; replace hw := hw.symm; subst hw)
        first
          | exact ⟨⟨k + 1, by omega, by go_num, HA2⟩, by simp [intOf]; omega⟩
          | (go_round
             case rel => exact ⟨k + 1, by omega, by go_num, HA2⟩
             case measure => simp [intOf]; omega)
    · obtain rfl : k = s.size := by omega
      have HE : Hid (madeL (un B) (un s) = !s.toList.isEmpty) := by
        unfold Hid madeL
        have := HA.out
        rw [← hsl, List.take_length] at this
        rw [this, toList_un]; rfl
      cases hem : s.toList.isEmpty
      all_goals
        rw [hem] at HE
        go_wp2
        go_ret
        exact ⟨by rw [HE.out]; rfl, rfl⟩

set_option maxHeartbeats 2000000 in
theorem begins_p (s B : ByteArray) (w : World) : Calls Tryz.prog 40 #[.string s, .string B] w fun e w' => e = .returned (.bool (begL (un B) (un s))) ∧ w' = w := by
  cases hem : s.toList.isEmpty
  · have hpos : 0 < s.size := (isEmpty_false s).1 hem
    have hget := un_getElem? s 0 hpos
    have hp := fun W => ibyte_p B s[0] W
    have k1 : (0 : Int) < (s.size : Int) := by omega
    have HE : Hid (begL (un B) (un s) = decide (0 ≤ Lib.indexByte (un B) s[0])) := by
      unfold Hid begL
      rw [List.head?_eq_getElem?, hget]; rfl
    rw [HE.out]
    clear HE hget
    generalize Lib.indexByte (un B) s[0] = ix at *
    go_enter Tryz.func40, Tryz.ntmps40
    go_wp2_with (go_at_call 50; refine (hp _).mono ?_; rintro e w1 ⟨rfl, hw⟩; replace hw := hw.symm; subst hw)
    go_ret
    exact ⟨rfl, rfl⟩
  · obtain rfl : s = ⟨#[]⟩ := un_inj (by rw [← toList_un, List.isEmpty_iff.1 hem]; rfl)
    go_enter Tryz.func40, Tryz.ntmps40
    go_wp2
    go_ret
    exact ⟨rfl, rfl⟩
set_option maxHeartbeats 2000000 in
theorem ends_p (s B : ByteArray) (w : World) (hs : s.size ≤ 1099511627776) : Calls Tryz.prog 49 #[.string s, .string B] w fun e w' => e = .returned (.bool (endL (un B) (un s))) ∧ w' = w := by
  cases hem : s.toList.isEmpty
  · have hpos : 0 < s.size := (isEmpty_false s).1 hem
    have hget := un_getElem? s (s.size - 1) (by omega)
    have hp := fun W => ibyte_p B s[s.size - 1] W
    have k0 : (0 : Int) ≤ (s.size : Int) - 1 := by omega
    have k1 : (s.size : Int) - 1 < (s.size : Int) := by omega
    have hat : ((s.size : Int) - 1).toNat = s.size - 1 := by omega
    have HE : Hid (endL (un B) (un s) = decide (0 ≤ Lib.indexByte (un B) s[s.size - 1])) := by
      unfold Hid endL
      rw [List.getLast?_eq_getElem?, un_length, hget]; rfl
    rw [HE.out]
    clear HE hget
    generalize Lib.indexByte (un B) s[s.size - 1] = ix at *
    go_enter Tryz.func49, Tryz.ntmps49
    go_wp2_with (go_at_call 50; refine (hp _).mono ?_; rintro e w1 ⟨rfl, hw⟩; replace hw := hw.symm; subst hw)
    go_ret
    exact ⟨rfl, rfl⟩
  · obtain rfl : s = ⟨#[]⟩ := un_inj (by rw [← toList_un, List.isEmpty_iff.1 hem]; rfl)
    go_enter Tryz.func49, Tryz.ntmps49
    go_wp2
    go_ret
    exact ⟨rfl, rfl⟩
end Go.Proofs.YtbmakfdljddhcaaGreatDoor
