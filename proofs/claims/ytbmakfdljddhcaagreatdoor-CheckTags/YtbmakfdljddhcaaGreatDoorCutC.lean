/- strings.Cut of any text around a colon. -/
import Derived.Test.YtbmakfdljddhcaaGreatDoorShelf
import Derived.Test.YtbmakfdljddhcaaGreatDoorSpec
import Derived.WalkKit
import Derived.WalkSpells
import Derived.RegionTactic
import Derived.Deep.QuietTactic
import Derived.BigQuiet
import Derived.Outline
namespace Go.Proofs.YtbmakfdljddhcaaGreatDoor
open Go.RowKit

/-- Where the first colon stands, or -1. -/
def ixc (s : ByteArray) : Int := Lib.indexByte (un s) 58
theorem ixc_range (s : ByteArray) : -1 ≤ ixc s ∧ ixc s < s.size := by
  have h := indexByte_range 58 (un s); rw [un_length] at h; exact h

set_option maxRecDepth 100000 in
theorem index_c (s : ByteArray) (w : World) : Calls Tryz.prog 47 #[.string s, .string ⟨#[58]⟩] w fun e w' => e = .returned (.int .i64 (ixc s)) ∧ w' = w := by
  cases h : (([58] : List UInt8) == s.toList)
  · go_enter Tryz.func47, Tryz.ntmps47
    go_wp2_with (go_at_call 63; refine (Tryz.stringslite_IndexByte _ _ _).mono ?_; rintro e w' ⟨rfl, rfl⟩)
    go_ret
    exact ⟨rfl, rfl⟩
  · obtain rfl : s = ⟨#[58]⟩ := un_inj (by rw [← toList_un, ← beq_iff_eq.1 h]; rfl)
    clear h
    rw [show ixc ⟨#[58]⟩ = 0 by decide +kernel]
    go_enter Tryz.func47, Tryz.ntmps47
    go_wp2
    go_ret
    exact ⟨rfl, rfl⟩
theorem cutc_miss1 (s : ByteArray) (w : World) (h : ixc s = -1) : Calls Tryz.prog 37 #[.string s, .string ⟨#[58]⟩] w fun e w' => e = .returned (.tuple #[.string s, .string ⟨#[]⟩, .bool false]) ∧ w' = w := by
  go_enter Tryz.func37, Tryz.ntmps37
  go_wp2_with (go_at_call 47; refine (index_c _ _).mono ?_; rintro e w' ⟨rfl, rfl⟩; rw [h])
  go_ret3
  exact ⟨rfl, rfl⟩
theorem cutc_miss (s : ByteArray) (w : World) (h : ixc s = -1) : Calls Tryz.prog 23 #[.string s, .string ⟨#[58]⟩] w fun e w' => e = .returned (.tuple #[.string s, .string ⟨#[]⟩, .bool false]) ∧ w' = w := by
  go_enter Tryz.func23, Tryz.ntmps23
  go_wp2_with (go_at_call 37; refine (cutc_miss1 _ _ h).mono ?_; rintro e w' ⟨rfl, rfl⟩)
  go_ret3
  exact ⟨rfl, rfl⟩
theorem cutc_hit1 (s : ByteArray) (i : Nat) (w : World) (h : ixc s = i) (hs : s.size ≤ 9223372036854775807) : Calls Tryz.prog 37 #[.string s, .string ⟨#[58]⟩] w fun e w' => e = .returned (.tuple #[.string (s.extract 0 i), .string (s.extract (i + 1) s.size), .bool true]) ∧ ∃ n, w' = w.drewN n := by
  have hr := ixc_range s
  rw [h] at hr
  have c1 : (0 : Int) ≤ ↑i := by omega
  have c2 : (↑i : Int) ≤ ↑s.size := by omega
  have c3 : (0 : Int) ≤ ↑i + 1 := by omega
  have c4 : (↑i + 1 : Int) ≤ ↑s.size := by omega
  have H : Hid _ := h
  clear h
  go_enter Tryz.func37, Tryz.ntmps37
  go_wp2_with (go_at_call 47; refine (index_c _ _).mono ?_; rintro e w' ⟨rfl, rfl⟩; rw [H.out])
  go_quiet (fail)
  go_wp2
  go_ret3
  exact ⟨rfl, _, rfl⟩
theorem cutc_hit (s : ByteArray) (i : Nat) (w : World) (h : ixc s = i) (hs : s.size ≤ 9223372036854775807) : Calls Tryz.prog 23 #[.string s, .string ⟨#[58]⟩] w fun e w' => e = .returned (.tuple #[.string (s.extract 0 i), .string (s.extract (i + 1) s.size), .bool true]) ∧ ∃ n, w' = w.drewN n := by
  have H : Hid _ := h
  clear h
  go_enter Tryz.func23, Tryz.ntmps23
  go_wp2_with (go_at_call 37; refine (cutc_hit1 _ i _ (H.out) hs).mono ?_; rintro e w' ⟨rfl, n, rfl⟩)
  go_ret3
  exact ⟨rfl, _, rfl⟩
end Go.Proofs.YtbmakfdljddhcaaGreatDoor
