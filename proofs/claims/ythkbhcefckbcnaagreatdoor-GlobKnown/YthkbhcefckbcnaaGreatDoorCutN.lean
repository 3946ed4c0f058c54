/- strings.Cut of any text around a line end. -/
import Derived.Test.YthkbhcefckbcnaaGreatDoorShelf
import Derived.Test.YthkbhcefckbcnaaGreatDoorSpec
import Derived.WalkKit
import Derived.WalkSpells
import Derived.RegionTactic
import Derived.Deep.QuietTactic
import Derived.BigQuiet
import Derived.Outline
namespace Go.Proofs.YthkbhcefckbcnaaGreatDoor
open Go.RowKit

/-- Where the first line ends, or -1. -/
def ixn (s : ByteArray) : Int := Lib.indexByte (un s) 10
theorem ixn_range (s : ByteArray) : -1 ≤ ixn s ∧ ixn s < s.size := by
  have h := indexByte_range 10 (un s); rw [un_length] at h; exact h

set_option maxRecDepth 100000 in
theorem index_n (s : ByteArray) (w : World) : Calls Tryz.prog 86 #[.string s, .string ⟨#[10]⟩] w fun e w' => e = .returned (.int .i64 (ixn s)) ∧ w' = w := by
  cases h : (([10] : List UInt8) == s.toList)
  · go_enter Tryz.func86, Tryz.ntmps86
    go_wp2_with (go_at_call 112; refine (Tryz.stringslite_IndexByte _ _ _).mono ?_; rintro e w' ⟨rfl, rfl⟩)
    go_ret
    exact ⟨rfl, rfl⟩
  · obtain rfl : s = ⟨#[10]⟩ := un_inj (by rw [← toList_un, ← beq_iff_eq.1 h]; rfl)
    clear h
    rw [show ixn ⟨#[10]⟩ = 0 by decide +kernel]
    go_enter Tryz.func86, Tryz.ntmps86
    go_wp2
    go_ret
    exact ⟨rfl, rfl⟩
theorem cutn_miss1 (s : ByteArray) (w : World) (h : ixn s = -1) : Calls Tryz.prog 51 #[.string s, .string ⟨#[10]⟩] w fun e w' => e = .returned (.tuple #[.string s, .string ⟨#[]⟩, .bool false]) ∧ w' = w := by
  go_enter Tryz.func51, Tryz.ntmps51
  go_wp2_with (go_at_call 86; refine (index_n _ _).mono ?_; rintro e w' ⟨rfl, rfl⟩; rw [h])
  go_ret3
  exact ⟨rfl, rfl⟩
theorem cutn_miss (s : ByteArray) (w : World) (h : ixn s = -1) : Calls Tryz.prog 25 #[.string s, .string ⟨#[10]⟩] w fun e w' => e = .returned (.tuple #[.string s, .string ⟨#[]⟩, .bool false]) ∧ w' = w := by
  go_enter Tryz.func25, Tryz.ntmps25
  go_wp2_with (go_at_call 51; refine (cutn_miss1 _ _ h).mono ?_; rintro e w' ⟨rfl, rfl⟩)
  go_ret3
  exact ⟨rfl, rfl⟩
theorem cutn_hit1 (s : ByteArray) (i : Nat) (w : World) (h : ixn s = i) (hs : s.size ≤ 9223372036854775807) : Calls Tryz.prog 51 #[.string s, .string ⟨#[10]⟩] w fun e w' => e = .returned (.tuple #[.string (s.extract 0 i), .string (s.extract (i + 1) s.size), .bool true]) ∧ ∃ n, w' = w.drewN n := by
  have hr := ixn_range s
  rw [h] at hr
  have c1 : (0 : Int) ≤ ↑i := by omega
  have c2 : (↑i : Int) ≤ ↑s.size := by omega
  have c3 : (0 : Int) ≤ ↑i + 1 := by omega
  have c4 : (↑i + 1 : Int) ≤ ↑s.size := by omega
  have H : Hid _ := h
  clear h
  go_enter Tryz.func51, Tryz.ntmps51
  go_wp2_with (go_at_call 86; refine (index_n _ _).mono ?_; rintro e w' ⟨rfl, rfl⟩; rw [H.out])
  go_quiet (fail)
  go_wp2
  go_ret3
  exact ⟨rfl, _, rfl⟩
theorem cutn_hit (s : ByteArray) (i : Nat) (w : World) (h : ixn s = i) (hs : s.size ≤ 9223372036854775807) : Calls Tryz.prog 25 #[.string s, .string ⟨#[10]⟩] w fun e w' => e = .returned (.tuple #[.string (s.extract 0 i), .string (s.extract (i + 1) s.size), .bool true]) ∧ ∃ n, w' = w.drewN n := by
  have H : Hid _ := h
  clear h
  go_enter Tryz.func25, Tryz.ntmps25
  go_wp2_with (go_at_call 51; refine (cutn_hit1 _ i _ (H.out) hs).mono ?_; rintro e w' ⟨rfl, n, rfl⟩)
  go_ret3
  exact ⟨rfl, _, rfl⟩
end Go.Proofs.YthkbhcefckbcnaaGreatDoor
