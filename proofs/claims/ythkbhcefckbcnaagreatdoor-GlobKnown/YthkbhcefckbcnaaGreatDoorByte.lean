/- Package glob's readByte and readRange. -/
import Derived.Test.YthkbhcefckbcnaaGreatDoorPatM
import Derived.Test.YthkbhcefckbcnaaGreatDoorSplitM
import Derived.Deep.QuietTactic
import Derived.BigQuiet
namespace Go.Proofs.YthkbhcefckbcnaaGreatDoor
open Go Go.RowKit

def errP : Value := .iface 56 (.int .i64 24)
theorem un_zero (s : ByteArray) (h : 0 < s.size) : ∃ l, un s = s[0] :: l := by
  have h1 : (un s)[0]? = some s[0] := un_getElem? s 0 h
  cases hl : un s with
  | nil => rw [hl] at h1; simp at h1
  | cons c l => rw [hl] at h1; simp at h1; exact ⟨l, by rw [h1]⟩
theorem rest_one_bs (s : ByteArray) : s.extract 1 s.size = bs ((un s).drop 1) := un_inj (by rw [un_extract, un_bs, List.take_of_length_le (by rw [un_length]; omega)])
theorem size_pos (s : ByteArray) (c : UInt8) (l : List UInt8) (h : un s = c :: l) : s.size = l.length + 1 := by rw [← un_length, h]; rfl
theorem get_zero (s : ByteArray) (c : UInt8) (l : List UInt8) (h : un s = c :: l) (hz : 0 < s.size) : s[0] = c := by
  have h1 := un_getElem? s 0 hz
  rw [h] at h1; simp at h1; exact h1.symm
theorem get_one (s : ByteArray) (c d : UInt8) (l : List UInt8) (h : un s = c :: d :: l) (hz : 1 < s.size) : s[1] = d := by
  have h1 := un_getElem? s 1 hz
  rw [h] at h1; simp at h1; exact h1.symm

set_option maxHeartbeats 1000000 in
theorem readByte_plain (s r : ByteArray) (b : UInt8) (w : World) (h : un s = b :: un r) (hb : b.toNat ≠ 92) (hz : s.size ≤ 1099511627776) : Calls Tryz.prog 144 #[.string s] w fun e w' => e = .returned (.tuple #[.int .u8 b.toNat, .string r, .nilIface]) ∧ ∃ k, w' = w.drewN k := by
  have h0 : 0 < s.size := by rw [size_pos s b _ h]; omega
  have hg := get_zero s b _ h h0
  have hr : s.extract 1 s.size = r := by rw [rest_one_bs, h]; exact un_inj (by rw [un_bs]; rfl)
  have hc : ((b.toNat : Int) == 92) = false := by simp; omega
  clear hb h
  have d1 : (0 : Int) < (s.size : Int) := by omega
  have d2 : (1 : Int) ≤ (s.size : Int) := by omega
  go_enter Tryz.func144, Tryz.ntmps144
  go_wp2
  go_quiet (fail)
  go_wp2
  go_ret3
  exact ⟨rfl, _, rfl⟩
set_option maxHeartbeats 1000000 in
theorem readByte_esc (s r : ByteArray) (b : UInt8) (w : World) (h : un s = 92 :: b :: un r) (hz : s.size ≤ 1099511627776) : Calls Tryz.prog 144 #[.string s] w fun e w' => e = .returned (.tuple #[.int .u8 b.toNat, .string r, .nilIface]) ∧ ∃ k, w' = w.drewN k := by
  have h0 : 0 < s.size := by rw [size_pos s _ _ h]; omega
  have hg := get_zero s 92 _ h h0
  obtain ⟨t, ht⟩ : ∃ t, t = s.extract 1 s.size := ⟨_, rfl⟩
  have hu : un t = b :: un r := by rw [ht, rest_one_bs, h, un_bs]; rfl
  have t0 : 0 < t.size := by rw [size_pos t b _ hu]; omega
  have tz : t.size ≤ s.size := by rw [size_pos t b _ hu, size_pos s _ _ h]; simp
  have tg := get_zero t b _ hu t0
  have te : t.toList.isEmpty = false := (isEmpty_false t).2 t0
  have hr : t.extract 1 t.size = r := by rw [rest_one_bs, hu]; exact un_inj (by rw [un_bs]; rfl)
  have ht2 := ht.symm
  clear h hu ht
  have d1 : (0 : Int) < (s.size : Int) := by omega
  have d2 : (1 : Int) ≤ (s.size : Int) := by omega
  have d3 : (0 : Int) < (t.size : Int) := by omega
  have d4 : (1 : Int) ≤ (t.size : Int) := by omega
  go_enter Tryz.func144, Tryz.ntmps144
  go_wp2
  go_quiet (fail)
  go_wp2
  go_ret3
  exact ⟨rfl, _, rfl⟩
set_option maxHeartbeats 1000000 in
theorem readByte_end (s : ByteArray) (w : World) (h : un s = [92]) (hz : s.size ≤ 1099511627776) : Calls Tryz.prog 144 #[.string s] w fun e w' => e = .returned (.tuple #[.int .u8 0, .string ⟨#[]⟩, errP]) ∧ ∃ k, w' = w.drewN k := by
  have h0 : 0 < s.size := by rw [size_pos s _ _ h]; omega
  have hg := get_zero s 92 _ h h0
  have ht2 : s.extract 1 s.size = ⟨#[]⟩ := by rw [rest_one_bs, h]; rfl
  have te : (⟨#[]⟩ : ByteArray).toList.isEmpty = true := by rw [toList_un]; rfl
  clear h
  have d1 : (0 : Int) < (s.size : Int) := by omega
  have d2 : (1 : Int) ≤ (s.size : Int) := by omega
  go_enter Tryz.func144, Tryz.ntmps144
  go_wp2
  go_ret3
  exact ⟨rfl, 0, rfl⟩
theorem readByte_ok (s r : ByteArray) (b : UInt8) (w : World) (h : rByte (un s) = some (b, un r)) (hz : s.size ≤ 1099511627776) : Calls Tryz.prog 144 #[.string s] w fun e w' => e = .returned (.tuple #[.int .u8 b.toNat, .string r, .nilIface]) ∧ ∃ k, w' = w.drewN k := by
  cases hl : un s with
  | nil => rw [hl] at h; simp [rByte] at h
  | cons c l =>
    rw [hl] at h
    simp only [rByte] at h
    split at h
    · rename_i hc
      obtain rfl := beq_iff_eq.1 hc
      cases l with
      | nil => simp at h
      | cons d l =>
        simp at h
        obtain ⟨rfl, rfl⟩ := h
        exact readByte_esc s r d w hl hz
    · rename_i hc
      simp at h
      obtain ⟨rfl, rfl⟩ := h
      exact readByte_plain s r c w hl (fun e => hc (by rw [beq_iff_eq]; exact UInt8.toNat_inj.1 e)) hz
theorem readByte_no (s : ByteArray) (w : World) (h0 : un s ≠ []) (h : rByte (un s) = none) (hz : s.size ≤ 1099511627776) : Calls Tryz.prog 144 #[.string s] w fun e w' => e = .returned (.tuple #[.int .u8 0, .string ⟨#[]⟩, errP]) ∧ ∃ k, w' = w.drewN k := by
  cases hl : un s with
  | nil => exact (h0 hl).elim
  | cons c l =>
    rw [hl] at h
    simp only [rByte] at h
    split at h
    · rename_i hc
      obtain rfl := beq_iff_eq.1 hc
      cases l with
      | nil => exact readByte_end s w hl hz
      | cons d l => simp at h
    · simp at h
end Go.Proofs.YthkbhcefckbcnaaGreatDoor
