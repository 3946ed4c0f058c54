/- Package flate's Crc, and the document's. -/
import Derived.Test.YtcoinfancoeepabDoorCrcM
import Derived.Test.YtcoinfancoeepabDoorBaseU
namespace Go.Proofs.YtcoinfancoeepabDoor
open Go Go.RowKit

/-- The table of sums lies in its variable. -/
def CrcAt (w : World) : Prop := ∀ k : Nat, k < 16 → w.cell? ⟨0, k, none⟩ = some (.int .u32 (crcTab.getD k 0 : Nat))
theorem CrcAt.below {w w' : World} (h : CrcAt w) (hb : Below w.heap.size w w') : CrcAt w' := fun k hk =>
  (hb.cell (p := ⟨0, k, none⟩) (World.block_lt_of_cell? w _ (h k hk))).trans (h k hk)
theorem CrcAt.drew {w : World} (h : CrcAt w) (n : Nat) : CrcAt (w.drewN n) := h
theorem tab_lt (k : Nat) : crcTab.getD k 0 < 4294967296 := by
  rcases Nat.lt_or_ge k 16 with h | h
  · exact (by decide : ∀ k, k < 16 → crcTab.getD k 0 < 4294967296) k h
  · rw [List.getD_eq_getElem?_getD, List.getElem?_eq_none (by exact h)]; decide
theorem step4_lt {r : Nat} (h : r < 4294967296) : step4 r < 4294967296 := xor_lt32 (by omega) (tab_lt _)
theorem not32 (r : Nat) (h : r < 4294967296) : bits .xor .u32 (if IntKind.u32.signed = true then -1 else IntKind.u32.max) (r : Int) = ((r ^^^ 4294967295 : Nat) : Int) := by
  have := bx32 4294967295 r (by decide) h
  rw [Nat.xor_comm] at this
  exact this
set_option maxRecDepth 100000 in
set_option maxHeartbeats 2000000 in
theorem crc_p (s : ByteArray) (hs : s.size ≤ 9223372036854775806) (w : World) (hT : CrcAt w) : Calls Tryd.prog 15 #[.string s] w fun e w' => e = .returned (.int .u32 (crcN (un s) : Nat)) ∧ w' = w := by
  have HT : Hid (CrcAt w) := hT
  clear hT
  go_enter Tryd.func15, Tryd.ntmps15
  go_wp2
  go_loop [3, 7] (fun r i => ∃ k : Nat, k ≤ s.size ∧ i = .int .i64 k ∧ r = .int .u32 (crcRun 4294967295 ((un s).take k) : Nat)) (fun _ i => s.size - (intOf i).toNat)
  case atStart => exact ⟨0, Nat.zero_le _, rfl, rfl⟩
  case round =>
    obtain ⟨k, hk, rfl, rfl⟩ := hrel
    have hR := crcRun_lt ((un s).take k) (show 4294967295 < 4294967296 by decide)
    by_cases hlt : k < s.size
    · have hlt' : (k : Int) < (s.size : Int) := by omega
      have hk0 : (0 : Int) ≤ (k : Int) := by omega
      have hget := un_getElem? s k hlt
      have HN : Hid (crcRun 4294967295 ((un s).take (k + 1)) = step4 (step4 (crcRun 4294967295 ((un s).take k) ^^^ s[k].toNat))) := by
        unfold Hid
        have hl : k < (un s).length := by rw [un_length]; exact hlt
        rw [List.take_succ_eq_append_getElem hl, crcRun_snoc, step4_eq, step4_eq]
        rw [List.getElem?_eq_getElem hl] at hget
        rw [Option.some.inj hget]; rfl
      clear hget
      generalize crcRun 4294967295 ((un s).take k) = R at *
      have hc := s[k].toNat_lt
      have x1 := bx32 R s[k].toNat hR (by omega)
      have hX : R ^^^ s[k].toNat < 4294967296 := xor_lt32 hR (by omega)
      generalize R ^^^ s[k].toNat = X at *
      have d1 : (X : Int) / 16 = ((X / 16 : Nat) : Int) := by omega
      have a1 := ba32 X hX
      have c1 := HT.out (X % 16) (Nat.mod_lt _ (by decide))
      have y1 := bx32 (X / 16) (crcTab.getD (X % 16) 0) (by omega) (tab_lt _)
      have hY : step4 X < 4294967296 := step4_lt hX
      change _ = ((step4 X : Nat) : Int) at y1
      have k1 : ((X % 16 : Nat) : Int) < 16 := by omega
      have k1' : (0 : Int) ≤ ((X % 16 : Nat) : Int) := by omega
      generalize crcTab.getD (X % 16) 0 = T1 at *
      generalize step4 X = Y at *
      generalize X % 16 = K1 at *
      generalize X / 16 = Q1 at *
      have d2 : (Y : Int) / 16 = ((Y / 16 : Nat) : Int) := by omega
      have a2 := ba32 Y hY
      have c2 := HT.out (Y % 16) (Nat.mod_lt _ (by decide))
      have y2 := bx32 (Y / 16) (crcTab.getD (Y % 16) 0) (by omega) (tab_lt _)
      change _ = ((step4 Y : Nat) : Int) at y2
      have k2 : ((Y % 16 : Nat) : Int) < 16 := by omega
      have k2' : (0 : Int) ≤ ((Y % 16 : Nat) : Int) := by omega
      generalize crcTab.getD (Y % 16) 0 = T2 at *
      generalize step4 Y = Z at *
      generalize Y % 16 = K2 at *
      generalize Y / 16 = Q2 at *
      clear hX hY hR
      go_wp2
      go_round
      case rel => exact ⟨k + 1, by omega, by go_num, by rw [HN.out]⟩
      case measure => simp [intOf]; omega
    · obtain rfl : k = s.size := by omega
      have hlt' : ¬ (s.size : Int) < (s.size : Int) := by omega
      have HN : Hid (((crcRun 4294967295 ((un s).take s.size) ^^^ 4294967295 : Nat) : Int) = ((crcN (un s) : Nat) : Int)) := by
        unfold Hid crcN; rw [List.take_of_length_le (by rw [un_length]; exact Nat.le_refl _)]
      have n1 := not32 _ hR
      generalize crcRun 4294967295 ((un s).take s.size) = R at *
      go_wp2
      go_ret
      first
        | exact ⟨by rw [← HN.out, ← n1]; rfl, rfl⟩
        | exact ⟨by rw [← HN.out], rfl⟩
end Go.Proofs.YtcoinfancoeepabDoor
