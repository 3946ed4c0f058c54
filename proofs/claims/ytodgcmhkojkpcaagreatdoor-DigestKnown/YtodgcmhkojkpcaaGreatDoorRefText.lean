/- The document's answer for a digest's text. -/
import Derived.Test.YtodgcmhkojkpcaaGreatDoorHexM
namespace Go.Proofs.YtodgcmhkojkpcaaGreatDoor
open Go Go.RowKit

theorem byte_div (b : UInt8) : b.toNat / 16 < 16 := by have := b.toNat_lt; omega
theorem byte_mod (b : UInt8) : b.toNat % 16 < 16 := by omega

set_option maxRecDepth 100000 in
set_option maxHeartbeats 4000000 in
theorem text_r (l : List UInt8) (hl : l.length = 32) (w : World) : Calls Tryz.prog 36 #[.agg (dig32 l)] w fun e w' => e = .returned (.string (bs (textL l))) ∧ Below w.heap.size w w' := by
  go_enter Tryz.func36, Tryz.ntmps36
  go_wp2
  go_loopw [3, 4] (fun a n wr => ∃ k : Nat, k ≤ 32 ∧ n = .int .i64 k ∧ a = .string (bs (kindL ++ hexL (l.take k))) ∧ Lies wr w.heap.size 25 (dig32 l) ∧ Below w.heap.size w wr) (fun _ n _ => 32 - (intOf n).toNat)
  case atStart => exact ⟨0, by omega, rfl, rfl, Lies.new w _ _, (Below.refl _ w).alloc (Nat.le_refl _) _⟩
  case round =>
    obtain ⟨k, hk, rfl, rfl, hL, hB⟩ := hrel
    by_cases hlt : k < 32
    · have hk2 : k < l.length := by omega
      have hc := hL.cell (dig32_get l k hk2)
      have Hd := byte_div l[k]
      have Hm := byte_mod l[k]
      have e1 := dig_extract _ Hd
      have e2 := dig_extract _ Hm
      have H3 : Hid (bs (kindL ++ hexL (l.take (k + 1))) = bs (kindL ++ hexL (l.take k)) ++ (⟨#[48, 49, 50, 51, 52, 53, 54, 55, 56, 57, 97, 98, 99, 100, 101, 102]⟩ : ByteArray).extract (l[k].toNat / 16) (l[k].toNat / 16 + 1) ++ (⟨#[48, 49, 50, 51, 52, 53, 54, 55, 56, 57, 97, 98, 99, 100, 101, 102]⟩ : ByteArray).extract (l[k].toNat % 16) (l[k].toNat % 16 + 1)) := un_inj (by
        rw [un_append, un_append, e1, e2, un_bs, un_bs, hexL_snoc l k hk2]; simp)
      have hz : (bs (kindL ++ hexL (l.take k))).size ≤ 1000 := by rw [size_bs]; simp [hexL_length, kindL]; omega
      generalize bs (kindL ++ hexL (l.take k)) = a at *
      generalize l[k] = b at *
      have hb := b.toNat_lt
      clear e1 e2 hk2
      have d1 : (0 : Int) ≤ (k : Int) := by omega
      have d2 : (k : Int) < 32 := by omega
      go_wp2
      go_region
      go_wp2
      go_roundw
      case rel => exact ⟨k + 1, by omega, by go_num, by rw [H3.out], hL.drew 1, below_drawn hB 1⟩
      case measure => simp [intOf]; omega
    · obtain rfl : k = 32 := by omega
      rw [show l.take 32 = l by rw [← hl, List.take_length]]
      go_wp2
      go_ret
      exact ⟨rfl, hB⟩
end Go.Proofs.YtodgcmhkojkpcaaGreatDoor
