/- Package digest's Text. -/
import Derived.Test.YtodgcmhkojkpcaaGreatDoorBld
import Derived.Test.YtodgcmhkojkpcaaGreatDoorHexM
import Derived.Test.YtodgcmhkojkpcaaGreatDoorShelf
namespace Go.Proofs.YtodgcmhkojkpcaaGreatDoor
open Go Go.RowKit

theorem bld_new (W : World) (n : Nat) (h : W.heap.size = n) : Bld n n [] (W.alloc (.cells #[.pointer none, .slice none 0 0] 44)) := by
  subst h; exact Lib.fresh_isBuilder _ _ W
set_option maxRecDepth 100000 in
set_option maxHeartbeats 4000000 in
theorem text_p (l : List UInt8) (hl : l.length = 32) (w : World) : Calls Tryz.prog 9 #[.agg (dig32 l)] w fun e w' => e = .returned (.string (bs (textL l))) ∧ Below w.heap.size w w' := by
  go_enter Tryz.func9, Tryz.ntmps9
  go_wp2_with fail
  refine (wstring_p (w.heap.size + 1) (w.heap.size + 1) [] ⟨#[115, 104, 97, 50, 53, 54, 58]⟩ _ (bld_new _ _ (by simp)) (by decide) (by simp)).mono ?_
  rintro e w1 ⟨rfl, h1, b1⟩
  have hL1 : Lies w1 w.heap.size 25 (dig32 l) := (b1.block _ (by omega)).trans ((Lies.new w _ _).alloc _)
  have b2 : Below w.heap.size w w1 := (((Below.refl _ w).alloc (Nat.le_refl _) _).alloc (by simp) _).trans (b1.mono (by omega))
  have hs1 : w.heap.size + 1 < w1.heap.size := by have := b1.size; simp at this; omega
  clear b1
  have hi : (Tryz.prog.info? 25).map (·.size) = some (dig32 l).size := by rw [dig32_size, hl]; kernel_rfl
  go_wp2_with (refine wpList_load_row rfl 25 (.tmp 1) rfl w.heap.size rfl 25 (dig32 l) (0, 0) _ hL1 Tryz.underlying25 rfl hi ?_)
  go_loopw [8] (fun n wr => ∃ k : Nat, k ≤ 32 ∧ n = .int .i64 k ∧ Bld (w.heap.size + 1) (w.heap.size + 1) (kindL ++ hexL (l.take k)) wr ∧ Below w.heap.size w wr ∧ w.heap.size + 1 < wr.heap.size) (fun n _ => 32 - (intOf n).toNat)
  case atStart => exact ⟨0, by omega, rfl, h1, b2, hs1⟩
  case round =>
    obtain ⟨k, hk, rfl, hW, hB, hsz⟩ := hrel
    by_cases hlt : k < 32
    · have hk2 : k < l.length := by omega
      have hc := run_index_arr (w := wr) k Tryz.underlying25 (Tryz.sizeOf5 _) (Tryz.isAgg5 _) hlt (dig32_get l k hk2)
      have H3 : Hid (kindL ++ hexL (l.take (k + 1)) = kindL ++ hexL (l.take k) ++ [dig (l[k].toNat / 16)] ++ [dig (l[k].toNat % 16)]) := by
        unfold Hid; rw [hexL_snoc l k hk2]; simp
      have hz : (kindL ++ hexL (l.take k)).length ≤ 1000 := by simp [hexL_length, kindL]; omega
      generalize kindL ++ hexL (l.take k) = a at *
      generalize l[k] = b at *
      have d1 : (0 : Int) ≤ (k : Int) := by omega
      have d2 : (k : Int) < 32 := by omega
      have hb := b.toNat_lt
      have d4 : (0 : Int) ≤ (b.toNat : Int) / 16 ∧ (b.toNat : Int) / 16 < 16 := by omega
      have d5 : (0 : Int) ≤ (b.toNat : Int) % 16 ∧ (b.toNat : Int) % 16 < 16 := by omega
      go_wp2_with fail
      refine (wbyte_p _ _ a _ wr hW (by omega) (by omega)).mono ?_
      rintro e w2 ⟨rfl, hW2, b3⟩
      rw [dig_at] at hW2
      have hs2 := b3.size
      go_wp2_with fail
      refine (wbyte_p _ _ _ _ w2 hW2 (by simp; omega) (by omega)).mono ?_
      rintro e w3 ⟨rfl, hW3, b4⟩
      rw [dig_at] at hW3
      have hs3 := b4.size
      go_wp2
      go_roundw
      case rel => exact ⟨k + 1, by omega, by go_num, by rw [H3.out]; exact hW3, (hB.trans (b3.mono (by omega))).trans (b4.mono (by omega)), by omega⟩
      case measure => simp [intOf]; omega
    · obtain rfl : k = 32 := by omega
      rw [show l.take 32 = l by rw [← hl, List.take_length]] at hW
      go_wp2_with fail
      refine (Tryz.Builder_String_any _ _ _ wr hW (by omega)).mono ?_
      rintro e w2 ⟨rfl, b3⟩
      go_wp2
      go_ret
      exact ⟨rfl, hB.trans (b3.mono (by omega))⟩
end Go.Proofs.YtodgcmhkojkpcaaGreatDoor
