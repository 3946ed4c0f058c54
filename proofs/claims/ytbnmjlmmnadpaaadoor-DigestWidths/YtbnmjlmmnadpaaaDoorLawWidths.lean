/- DigestWidths: the statement walked. -/
import Derived.Test.YtbnmjlmmnadpaaaDoorWorks3
import Derived.Deep.QuietTactic
import Derived.BigQuiet
namespace Go.Proofs.YtbnmjlmmnadpaaaDoor
open Go Go.RowKit

theorem sumK_get (xs : List Int) (k i : Nat) (hk : k ≤ 32) (hi : i < 32) : (sumK xs k)[i]? = some (if i < k then sumByte xs i else 0) := by
  unfold sumK
  by_cases h : i < k
  · rw [List.getElem?_append_left (by simpa using h), if_pos h]
    simp [h]
  · rw [List.getElem?_append_right (by simp; omega), if_neg h]
    rw [List.getElem?_replicate, if_pos (by simp; omega)]
theorem dig_sum (wd : Nat) (t : List UInt8) (i : Nat) (hk : wd ≤ 32) (hi : i < 32) : (dig32 (sumB wd t))[i]? = some (.int .u8 (if i < wd then ((sumByte (finalS t) i).toNat : Int) else 0)) := by
  have h := dig32_get (sumB wd t) i (by rw [sumB_length wd t hk]; exact hi)
  rw [h]
  have e := sumK_get (finalS t) wd i hk hi
  rw [show sumK (finalS t) wd = sumB wd t from rfl, List.getElem?_eq_getElem (by rw [sumB_length wd t hk]; exact hi)] at e
  rw [Option.some.inj e]
  by_cases h2 : i < wd
  · rw [if_pos h2, if_pos h2]
  · rw [if_neg h2, if_neg h2]; rfl

set_option maxRecDepth 100000 in
set_option maxHeartbeats 4000000 in
theorem widths_law (a b : Int) (s : ByteArray) (w : World) (hk : KTab w) (hp : Pow10 w) (hs : s.size ≤ 140737488351232) : Calls Tryd.prog 6 #[.int .i64 a, .int .i64 b, .string s] w fun e w' => e = .returned (.bool true) ∧ Below w.heap.size w w' := by
  have hz := (zero_of_info (P := Tryd.prog) info_digest).1
  have hg := var_lt l_k hk
  have hA2 := widthN_le a
  have hB2 := widthN_le b
  have hwa : Hid ((widthN a : Int) = max 1 (min a 32)) := widthN_eq a
  have hwb : Hid ((widthN b : Int) = max 1 (min b 32)) := widthN_eq b
  have hia : (Tryd.prog.info? 23).map (·.size) = some (dig32 (sumB (widthN a) (un s))).size := by rw [dig32_size, sumB_length _ _ (widthN_le a)]; kernel_rfl
  have hib : (Tryd.prog.info? 23).map (·.size) = some (dig32 (sumB (widthN b) (un s))).size := by rw [dig32_size, sumB_length _ _ (widthN_le b)]; kernel_rfl
  have hda : (dig32 zeros).size = (dig32 (sumB (widthN a) (un s))).size := by rw [dig32_size, dig32_size, sumB_length _ _ (widthN_le a)]; rfl
  have hdb : (dig32 zeros).size = (dig32 (sumB (widthN b) (un s))).size := by rw [dig32_size, dig32_size, sumB_length _ _ (widthN_le b)]; rfl
  have hca : Hid (∀ i, i < 32 → (dig32 (sumB (widthN a) (un s)))[i]? = some (.int .u8 (if i < widthN a then ((sumByte (finalS (un s)) i).toNat : Int) else 0))) := fun i hi => dig_sum _ _ i hA2 hi
  have hcb : Hid (∀ i, i < 32 → (dig32 (sumB (widthN b) (un s)))[i]? = some (.int .u8 (if i < widthN b then ((sumByte (finalS (un s)) i).toNat : Int) else 0))) := fun i hi => dig_sum _ _ i hB2 hi
  have o1 := dig32_one (sumB (widthN a) (un s))
  have o2 := dig32_one (sumB (widthN b) (un s))
  go_enter Tryd.func6, Tryd.ntmps6
  go_wp2_with fail
  refine (sum_p a s w hk (by omega)).mono ?_
  rintro e w1 ⟨rfl, B1⟩
  generalize dig32 (sumB (widthN a) (un s)) = X at *
  have A1 : Lies (w1.alloc (.cells (dig32 zeros) 23)) w1.heap.size 23 (dig32 zeros) := Lies.new _ _ _
  have L1 : Lies ((w1.alloc (.cells (dig32 zeros) 23)).setRow w1.heap.size X) w1.heap.size 23 X := A1.row _
  have B2 : Below w.heap.size w ((w1.alloc (.cells (dig32 zeros) 23)).setRow w1.heap.size X) := below_setRow (B1.alloc B1.size _) B1.size _
  have K2 := var?_below B2 l_k hg hk
  go_wp2_with (refine wpList_store_row rfl 23 (.tmp 7) (.tmp 13) rfl w1.heap.size X rfl rfl 23 (dig32 zeros) A1 hia hda o1 ?_)
  have h2 := L1.lt
  generalize hW2 : (w1.alloc (.cells (dig32 zeros) 23)).setRow w1.heap.size X = w2 at *
  clear hW2 A1 B1
  refine (sum_p b s w2 K2 (by omega)).mono ?_
  rintro e w3 ⟨rfl, b3⟩
  generalize dig32 (sumB (widthN b) (un s)) = Y at *
  have B3 := below_join B2 b3
  have L3 := L1.below b3
  have A3 : Lies (w3.alloc (.cells (dig32 zeros) 23)) w3.heap.size 23 (dig32 zeros) := Lies.new _ _ _
  have LY : Lies ((w3.alloc (.cells (dig32 zeros) 23)).setRow w3.heap.size Y) w3.heap.size 23 Y := A3.row _
  have LX : Lies ((w3.alloc (.cells (dig32 zeros) 23)).setRow w3.heap.size Y) w1.heap.size 23 X := (L3.alloc _).otherRow _ (by have := L3.lt; omega)
  have B4 : Below w.heap.size w ((w3.alloc (.cells (dig32 zeros) 23)).setRow w3.heap.size Y) := below_setRow (B3.alloc B3.size _) B3.size _
  go_wp2_with (refine wpList_store_row rfl 23 (.tmp 8) (.tmp 16) rfl w3.heap.size Y rfl rfl 23 (dig32 zeros) A3 hib hdb o2 ?_)
  generalize hW4 : (w3.alloc (.cells (dig32 zeros) 23)).setRow w3.heap.size Y = w4 at *
  clear hW4 A3 B3 L3 B2 K2 L1 b3
  generalize hpd : widthN a = p at *
  generalize hqd : widthN b = q at *
  go_loopw [10] (fun n wr => ∃ (k d : Nat), k ≤ 32 ∧ n = .int .i64 k ∧ wr = w4.drewN d) (fun n _ => 32 - (intOf n).toNat)
  case atStart => exact ⟨0, 0, Nat.zero_le _, rfl, rfl⟩
  case round =>
    obtain ⟨k, d, hk32, rfl, rfl⟩ := hrel
    by_cases hlt : k < 32
    · have cX := LX.cell (hca.out k hlt)
      have cY := LY.cell (hcb.out k hlt)
      have d1 : (0 : Int) ≤ (k : Int) := by omega
      have d2 : (k : Int) < 32 := by omega
      have pa := hwa.out
      have pb := hwb.out
      generalize ((sumByte (finalS (un s)) k).toNat : Int) = v at *
      by_cases ha : k < p
      · rw [if_pos ha] at cX
        by_cases hb : k < q
        · rw [if_pos hb] at cY
          have t1 : (k : Int) < min (max (min a b) 1) 32 := by omega
          have t2 : decide ((k : Int) ≥ min (max a 1) 32) = false := decide_eq_false (by omega)
          have t3 : decide ((k : Int) ≥ min (max b 1) 32) = false := decide_eq_false (by omega)
          clear pa pb
          go_wp2
          go_quiet (fail)
          go_wp2
          go_roundw
          case rel => exact ⟨k + 1, d + nq, by omega, by go_num, rfl⟩
          case measure => simp [intOf]; omega
        · rw [if_neg hb] at cY
          have t1 : decide ((k : Int) < min (max (min a b) 1) 32) = false := decide_eq_false (by omega)
          have t2 : decide ((k : Int) ≥ min (max a 1) 32) = false := decide_eq_false (by omega)
          have t3 : min (max b 1) 32 ≤ (k : Int) := by omega
          clear pa pb
          go_wp2
          go_quiet (fail)
          go_wp2
          go_roundw
          case rel => exact ⟨k + 1, d + nq, by omega, by go_num, rfl⟩
          case measure => simp [intOf]; omega
      · rw [if_neg ha] at cX
        by_cases hb : k < q
        · rw [if_pos hb] at cY
          have t1 : decide ((k : Int) < min (max (min a b) 1) 32) = false := decide_eq_false (by omega)
          have t2 : min (max a 1) 32 ≤ (k : Int) := by omega
          have t3 : decide ((k : Int) ≥ min (max b 1) 32) = false := decide_eq_false (by omega)
          clear pa pb
          go_wp2
          go_quiet (fail)
          go_wp2
          go_roundw
          case rel => exact ⟨k + 1, d + nq, by omega, by go_num, rfl⟩
          case measure => simp [intOf]; omega
        · rw [if_neg hb] at cY
          have t1 : decide ((k : Int) < min (max (min a b) 1) 32) = false := decide_eq_false (by omega)
          have t2 : min (max a 1) 32 ≤ (k : Int) := by omega
          have t3 : min (max b 1) 32 ≤ (k : Int) := by omega
          clear pa pb
          go_wp2
          go_quiet (fail)
          go_wp2
          go_roundw
          case rel => exact ⟨k + 1, d + nq, by omega, by go_num, rfl⟩
          case measure => simp [intOf]; omega
    · obtain rfl : k = 32 := by omega
      have B5 := below_drawn B4 d
      have K5 := var?_below B5 l_k hg hk
      have p5 := hp.below B5
      go_wp2_with fail
      refine (works_p _ K5 p5).mono ?_
      rintro e w6 ⟨rfl, b6⟩
      have B6 := below_join B5 b6
      go_wp2
      go_ret
      exact ⟨rfl, B6⟩
end Go.Proofs.YtbnmjlmmnadpaaaDoor
