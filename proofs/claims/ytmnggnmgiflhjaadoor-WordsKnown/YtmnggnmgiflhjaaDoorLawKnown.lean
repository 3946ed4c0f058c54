/- WordsKnown: its walk. -/
import Derived.Test.YtmnggnmgiflhjaaDoorKnW
namespace Go.Proofs.YtmnggnmgiflhjaaDoor
open Go Go.RowKit

abbrev oddS : ByteArray := ⟨#[33, 35, 38, 39, 40, 41, 42, 59, 60, 62, 63, 91, 93, 94, 96, 123, 124, 125, 126, 0, 127, 128, 10, 32]⟩
theorem odd_all : ∀ i : Fin 24, quoL (escN 92) (un (oddS.extract i.val (i.val + 1))) = 34 :: (un (oddS.extract i.val (i.val + 1)) ++ [34]) := by decide +kernel
theorem kn1 : splitR (escN 92) (un ⟨#[97, 32, 32, 98]⟩) = .ok [(0, 1), (3, 4)] := by kernel_rfl
theorem kr1 : (wdsOf ⟨#[97, 32, 32, 98]⟩ [(0, 1), (3, 4)]).map (·.r) = [⟨#[97]⟩, ⟨#[98]⟩] := by decide +kernel
theorem kn2 : splitR (escN 92) (un ⟨#[32, 9, 13]⟩) = .ok [] := by kernel_rfl
theorem kr2 : (wdsOf ⟨#[32, 9, 13]⟩ []).map (·.r) = [] := by decide +kernel
theorem kn3 : splitR (escN 92) (un ⟨#[]⟩) = .ok [] := by kernel_rfl
theorem kr3 : (wdsOf ⟨#[]⟩ []).map (·.r) = [] := by decide +kernel
theorem kn4 : splitR (escN 92) (un ⟨#[97, 39, 98, 32, 99, 39, 100, 32, 34, 101, 32, 102, 34]⟩) = .ok [(0, 7), (8, 13)] := by kernel_rfl
theorem kr4 : (wdsOf ⟨#[97, 39, 98, 32, 99, 39, 100, 32, 34, 101, 32, 102, 34]⟩ [(0, 7), (8, 13)]).map (·.r) = [⟨#[97, 39, 98, 32, 99, 39, 100]⟩, ⟨#[34, 101, 32, 102, 34]⟩] := by decide +kernel
theorem kn5 : splitR (escN 92) (un ⟨#[97, 92, 32, 98, 32, 99]⟩) = .ok [(0, 4), (5, 6)] := by kernel_rfl
theorem kr5 : (wdsOf ⟨#[97, 92, 32, 98, 32, 99]⟩ [(0, 4), (5, 6)]).map (·.r) = [⟨#[97, 92, 32, 98]⟩, ⟨#[99]⟩] := by decide +kernel
theorem kn6 : splitR (escN 96) (un ⟨#[97, 92, 32, 98, 32, 99]⟩) = .ok [(0, 2), (3, 4), (5, 6)] := by kernel_rfl
theorem kr6 : (wdsOf ⟨#[97, 92, 32, 98, 32, 99]⟩ [(0, 2), (3, 4), (5, 6)]).map (·.r) = [⟨#[97, 92]⟩, ⟨#[98]⟩, ⟨#[99]⟩] := by decide +kernel
theorem kn7 : splitR (escN 92) (un ⟨#[34, 97, 92, 34, 98, 34, 32, 39, 99, 92, 39, 32, 100]⟩) = .ok [(0, 6), (7, 11), (12, 13)] := by kernel_rfl
theorem kr7 : (wdsOf ⟨#[34, 97, 92, 34, 98, 34, 32, 39, 99, 92, 39, 32, 100]⟩ [(0, 6), (7, 11), (12, 13)]).map (·.r) = [⟨#[34, 97, 92, 34, 98, 34]⟩, ⟨#[39, 99, 92, 39]⟩, ⟨#[100]⟩] := by decide +kernel
theorem kn8 : splitR (escN 92) (un ⟨#[92, 39, 97, 32, 98]⟩) = .ok [(0, 3), (4, 5)] := by kernel_rfl
theorem kr8 : (wdsOf ⟨#[92, 39, 97, 32, 98]⟩ [(0, 3), (4, 5)]).map (·.r) = [⟨#[92, 39, 97]⟩, ⟨#[98]⟩] := by decide +kernel
theorem kn9 : splitR (escN 92) (un ⟨#[97, 92]⟩) = .ok [(0, 2)] := by kernel_rfl
theorem kr9 : (wdsOf ⟨#[97, 92]⟩ [(0, 2)]).map (·.r) = [⟨#[97, 92]⟩] := by decide +kernel
theorem kn10 : splitR (escN 92) (un ⟨#[97, 10, 98, 11, 99, 0]⟩) = .ok [(0, 6)] := by kernel_rfl
theorem kr10 : (wdsOf ⟨#[97, 10, 98, 11, 99, 0]⟩ [(0, 6)]).map (·.r) = [⟨#[97, 10, 98, 11, 99, 0]⟩] := by decide +kernel
theorem kn11 : splitR (escN 92) (un ⟨#[97, 96, 34, 98, 32, 99]⟩) = .error 2 := by kernel_rfl
theorem kn12 : splitR (escN 92) (un ⟨#[97, 32, 39, 98]⟩) = .error 2 := by kernel_rfl
theorem kn13 : splitR (escN 92) (un ⟨#[34, 97, 92, 34]⟩) = .error 0 := by kernel_rfl
theorem kn14 : splitR (escN 92) (un ⟨#[39, 34, 32, 120]⟩) = .error 0 := by kernel_rfl
theorem kn15 : splitR (escN 92) (un ⟨#[97, 39, 39, 34]⟩) = .error 3 := by kernel_rfl
theorem kn16 : splitR (escN 92) (un ⟨#[34, 92]⟩) = .error 0 := by kernel_rfl
theorem kn17 : splitR (escN 96) (un ⟨#[97, 96, 34, 32, 98, 96, 96, 34, 99, 32, 100, 34]⟩) = .ok [(0, 3), (4, 12)] := by kernel_rfl
theorem kr17 : (wdsOf ⟨#[97, 96, 34, 32, 98, 96, 96, 34, 99, 32, 100, 34]⟩ [(0, 3), (4, 12)]).map (·.r) = [⟨#[97, 96, 34]⟩, ⟨#[98, 96, 96, 34, 99, 32, 100, 34]⟩] := by decide +kernel
theorem kn18 : splitR (escN 120) (un ⟨#[97, 92, 92, 32, 98]⟩) = .ok [(0, 3), (4, 5)] := by kernel_rfl
theorem kr18 : (wdsOf ⟨#[97, 92, 92, 32, 98]⟩ [(0, 3), (4, 5)]).map (·.r) = [⟨#[97, 92, 92]⟩, ⟨#[98]⟩] := by decide +kernel
theorem kn19 : bs (quoL (escN 92) (un ⟨#[97, 47, 98, 46, 99]⟩)) = ⟨#[97, 47, 98, 46, 99]⟩ := by decide +kernel
theorem kn20 : bs (quoL (escN 92) (un ⟨#[]⟩)) = ⟨#[34, 34]⟩ := by decide +kernel
theorem kn21 : bs (quoL (escN 92) (un ⟨#[97, 32, 98]⟩)) = ⟨#[34, 97, 32, 98, 34]⟩ := by decide +kernel
theorem kn22 : bs (quoL (escN 92) (un ⟨#[97, 34, 36, 92, 96]⟩)) = ⟨#[34, 97, 92, 34, 92, 36, 92, 92, 96, 34]⟩ := by decide +kernel
theorem kn23 : bs (quoL (escN 96) (un ⟨#[92, 96]⟩)) = ⟨#[34, 92, 96, 96, 34]⟩ := by decide +kernel
theorem kn24 : bs (quoL (escN 120) (un ⟨#[92]⟩)) = ⟨#[34, 92, 92, 34]⟩ := by decide +kernel
theorem kn25 : bs (quoL (escN 96) (un ⟨#[97, 90, 48, 57, 95, 45, 46, 47, 58, 44, 43, 61, 64, 37]⟩)) = ⟨#[97, 90, 48, 57, 95, 45, 46, 47, 58, 44, 43, 61, 64, 37]⟩ := by decide +kernel
set_option maxRecDepth 100000 in
set_option maxHeartbeats 16000000 in
theorem wordsknown_law (w : World) (he : ErrType w) : Calls Tryd.prog 8 #[] w fun e w' => e = .returned (.bool true) ∧ Below w.heap.size w w' := by
  have B0 : Below w.heap.size w w := Below.refl _ _
  go_enter Tryd.func8, Tryd.ntmps8
  have T1 : TextsAt (w.alloc (.cells #[.string ⟨#[97]⟩, .string ⟨#[98]⟩] 9)) (.slice (some ⟨w.heap.size, 0, none⟩) 2 2) [⟨#[97]⟩, ⟨#[98]⟩] := tx_new w [⟨#[97]⟩, ⟨#[98]⟩]
  have A1 : Below w.heap.size w (w.alloc (.cells #[.string ⟨#[97]⟩, .string ⟨#[98]⟩] 9)) := B0.alloc B0.size _
  have R1 : Calls Tryd.prog 20 #[.string ⟨#[97, 32, 32, 98]⟩, .int .u8 92, .slice (some ⟨w.heap.size, 0, none⟩) 2 2] (w.alloc (.cells #[.string ⟨#[97]⟩, .string ⟨#[98]⟩] 9)) fun e w' => e = .returned (.bool true) ∧ Below (w.alloc (.cells #[.string ⟨#[97]⟩, .string ⟨#[98]⟩] 9)).heap.size (w.alloc (.cells #[.string ⟨#[97]⟩, .string ⟨#[98]⟩] 9)) w' := raws_p ⟨#[97, 32, 32, 98]⟩ 92 _ [⟨#[97]⟩, ⟨#[98]⟩] _ T1 _ kn1 kr1 (by decide) (by decide)
  go_wp2_with fail
  with_reducible refine R1.mono ?_
  rintro e w1 ⟨rfl, b1⟩
  have B1 := below_join A1 b1
  clear B0 b1 A1 T1 R1
  have R2 : Calls Tryd.prog 20 #[.string ⟨#[32, 9, 13]⟩, .int .u8 92, .slice none 0 0] w1 fun e w' => e = .returned (.bool true) ∧ Below w1.heap.size w1 w' := raws_p ⟨#[32, 9, 13]⟩ 92 (.slice none 0 0) [] _ (TextsAt.nil _) _ kn2 kr2 (by decide) (by decide)
  go_wp2_with fail
  with_reducible refine R2.mono ?_
  rintro e w2 ⟨rfl, b2⟩
  have B2 := below_join B1 b2
  clear B1 b2 R2
  have R3 : Calls Tryd.prog 20 #[.string ⟨#[]⟩, .int .u8 92, .slice none 0 0] w2 fun e w' => e = .returned (.bool true) ∧ Below w2.heap.size w2 w' := raws_p ⟨#[]⟩ 92 (.slice none 0 0) [] _ (TextsAt.nil _) _ kn3 kr3 (by decide) (by decide)
  go_wp2_with fail
  with_reducible refine R3.mono ?_
  rintro e w3 ⟨rfl, b3⟩
  have B3 := below_join B2 b3
  clear B2 b3 R3
  have T4 : TextsAt (w3.alloc (.cells #[.string ⟨#[97, 39, 98, 32, 99, 39, 100]⟩, .string ⟨#[34, 101, 32, 102, 34]⟩] 9)) (.slice (some ⟨w3.heap.size, 0, none⟩) 2 2) [⟨#[97, 39, 98, 32, 99, 39, 100]⟩, ⟨#[34, 101, 32, 102, 34]⟩] := tx_new w3 [⟨#[97, 39, 98, 32, 99, 39, 100]⟩, ⟨#[34, 101, 32, 102, 34]⟩]
  have A4 : Below w.heap.size w (w3.alloc (.cells #[.string ⟨#[97, 39, 98, 32, 99, 39, 100]⟩, .string ⟨#[34, 101, 32, 102, 34]⟩] 9)) := B3.alloc B3.size _
  have R4 : Calls Tryd.prog 20 #[.string ⟨#[97, 39, 98, 32, 99, 39, 100, 32, 34, 101, 32, 102, 34]⟩, .int .u8 92, .slice (some ⟨w3.heap.size, 0, none⟩) 2 2] (w3.alloc (.cells #[.string ⟨#[97, 39, 98, 32, 99, 39, 100]⟩, .string ⟨#[34, 101, 32, 102, 34]⟩] 9)) fun e w' => e = .returned (.bool true) ∧ Below (w3.alloc (.cells #[.string ⟨#[97, 39, 98, 32, 99, 39, 100]⟩, .string ⟨#[34, 101, 32, 102, 34]⟩] 9)).heap.size (w3.alloc (.cells #[.string ⟨#[97, 39, 98, 32, 99, 39, 100]⟩, .string ⟨#[34, 101, 32, 102, 34]⟩] 9)) w' := raws_p ⟨#[97, 39, 98, 32, 99, 39, 100, 32, 34, 101, 32, 102, 34]⟩ 92 _ [⟨#[97, 39, 98, 32, 99, 39, 100]⟩, ⟨#[34, 101, 32, 102, 34]⟩] _ T4 _ kn4 kr4 (by decide) (by decide)
  go_wp2_with fail
  with_reducible refine R4.mono ?_
  rintro e w4 ⟨rfl, b4⟩
  have B4 := below_join A4 b4
  clear B3 b4 A4 T4 R4
  have T5 : TextsAt (w4.alloc (.cells #[.string ⟨#[97, 92, 32, 98]⟩, .string ⟨#[99]⟩] 9)) (.slice (some ⟨w4.heap.size, 0, none⟩) 2 2) [⟨#[97, 92, 32, 98]⟩, ⟨#[99]⟩] := tx_new w4 [⟨#[97, 92, 32, 98]⟩, ⟨#[99]⟩]
  have A5 : Below w.heap.size w (w4.alloc (.cells #[.string ⟨#[97, 92, 32, 98]⟩, .string ⟨#[99]⟩] 9)) := B4.alloc B4.size _
  have R5 : Calls Tryd.prog 20 #[.string ⟨#[97, 92, 32, 98, 32, 99]⟩, .int .u8 92, .slice (some ⟨w4.heap.size, 0, none⟩) 2 2] (w4.alloc (.cells #[.string ⟨#[97, 92, 32, 98]⟩, .string ⟨#[99]⟩] 9)) fun e w' => e = .returned (.bool true) ∧ Below (w4.alloc (.cells #[.string ⟨#[97, 92, 32, 98]⟩, .string ⟨#[99]⟩] 9)).heap.size (w4.alloc (.cells #[.string ⟨#[97, 92, 32, 98]⟩, .string ⟨#[99]⟩] 9)) w' := raws_p ⟨#[97, 92, 32, 98, 32, 99]⟩ 92 _ [⟨#[97, 92, 32, 98]⟩, ⟨#[99]⟩] _ T5 _ kn5 kr5 (by decide) (by decide)
  go_wp2_with fail
  with_reducible refine R5.mono ?_
  rintro e w5 ⟨rfl, b5⟩
  have B5 := below_join A5 b5
  clear B4 b5 A5 T5 R5
  have T6 : TextsAt (w5.alloc (.cells #[.string ⟨#[97, 92]⟩, .string ⟨#[98]⟩, .string ⟨#[99]⟩] 9)) (.slice (some ⟨w5.heap.size, 0, none⟩) 3 3) [⟨#[97, 92]⟩, ⟨#[98]⟩, ⟨#[99]⟩] := tx_new w5 [⟨#[97, 92]⟩, ⟨#[98]⟩, ⟨#[99]⟩]
  have A6 : Below w.heap.size w (w5.alloc (.cells #[.string ⟨#[97, 92]⟩, .string ⟨#[98]⟩, .string ⟨#[99]⟩] 9)) := B5.alloc B5.size _
  have R6 : Calls Tryd.prog 20 #[.string ⟨#[97, 92, 32, 98, 32, 99]⟩, .int .u8 96, .slice (some ⟨w5.heap.size, 0, none⟩) 3 3] (w5.alloc (.cells #[.string ⟨#[97, 92]⟩, .string ⟨#[98]⟩, .string ⟨#[99]⟩] 9)) fun e w' => e = .returned (.bool true) ∧ Below (w5.alloc (.cells #[.string ⟨#[97, 92]⟩, .string ⟨#[98]⟩, .string ⟨#[99]⟩] 9)).heap.size (w5.alloc (.cells #[.string ⟨#[97, 92]⟩, .string ⟨#[98]⟩, .string ⟨#[99]⟩] 9)) w' := raws_p ⟨#[97, 92, 32, 98, 32, 99]⟩ 96 _ [⟨#[97, 92]⟩, ⟨#[98]⟩, ⟨#[99]⟩] _ T6 _ kn6 kr6 (by decide) (by decide)
  go_wp2_with fail
  with_reducible refine R6.mono ?_
  rintro e w6 ⟨rfl, b6⟩
  have B6 := below_join A6 b6
  clear B5 b6 A6 T6 R6
  have T7 : TextsAt (w6.alloc (.cells #[.string ⟨#[34, 97, 92, 34, 98, 34]⟩, .string ⟨#[39, 99, 92, 39]⟩, .string ⟨#[100]⟩] 9)) (.slice (some ⟨w6.heap.size, 0, none⟩) 3 3) [⟨#[34, 97, 92, 34, 98, 34]⟩, ⟨#[39, 99, 92, 39]⟩, ⟨#[100]⟩] := tx_new w6 [⟨#[34, 97, 92, 34, 98, 34]⟩, ⟨#[39, 99, 92, 39]⟩, ⟨#[100]⟩]
  have A7 : Below w.heap.size w (w6.alloc (.cells #[.string ⟨#[34, 97, 92, 34, 98, 34]⟩, .string ⟨#[39, 99, 92, 39]⟩, .string ⟨#[100]⟩] 9)) := B6.alloc B6.size _
  have R7 : Calls Tryd.prog 20 #[.string ⟨#[34, 97, 92, 34, 98, 34, 32, 39, 99, 92, 39, 32, 100]⟩, .int .u8 92, .slice (some ⟨w6.heap.size, 0, none⟩) 3 3] (w6.alloc (.cells #[.string ⟨#[34, 97, 92, 34, 98, 34]⟩, .string ⟨#[39, 99, 92, 39]⟩, .string ⟨#[100]⟩] 9)) fun e w' => e = .returned (.bool true) ∧ Below (w6.alloc (.cells #[.string ⟨#[34, 97, 92, 34, 98, 34]⟩, .string ⟨#[39, 99, 92, 39]⟩, .string ⟨#[100]⟩] 9)).heap.size (w6.alloc (.cells #[.string ⟨#[34, 97, 92, 34, 98, 34]⟩, .string ⟨#[39, 99, 92, 39]⟩, .string ⟨#[100]⟩] 9)) w' := raws_p ⟨#[34, 97, 92, 34, 98, 34, 32, 39, 99, 92, 39, 32, 100]⟩ 92 _ [⟨#[34, 97, 92, 34, 98, 34]⟩, ⟨#[39, 99, 92, 39]⟩, ⟨#[100]⟩] _ T7 _ kn7 kr7 (by decide) (by decide)
  go_wp2_with fail
  with_reducible refine R7.mono ?_
  rintro e w7 ⟨rfl, b7⟩
  have B7 := below_join A7 b7
  clear B6 b7 A7 T7 R7
  have T8 : TextsAt (w7.alloc (.cells #[.string ⟨#[92, 39, 97]⟩, .string ⟨#[98]⟩] 9)) (.slice (some ⟨w7.heap.size, 0, none⟩) 2 2) [⟨#[92, 39, 97]⟩, ⟨#[98]⟩] := tx_new w7 [⟨#[92, 39, 97]⟩, ⟨#[98]⟩]
  have A8 : Below w.heap.size w (w7.alloc (.cells #[.string ⟨#[92, 39, 97]⟩, .string ⟨#[98]⟩] 9)) := B7.alloc B7.size _
  have R8 : Calls Tryd.prog 20 #[.string ⟨#[92, 39, 97, 32, 98]⟩, .int .u8 92, .slice (some ⟨w7.heap.size, 0, none⟩) 2 2] (w7.alloc (.cells #[.string ⟨#[92, 39, 97]⟩, .string ⟨#[98]⟩] 9)) fun e w' => e = .returned (.bool true) ∧ Below (w7.alloc (.cells #[.string ⟨#[92, 39, 97]⟩, .string ⟨#[98]⟩] 9)).heap.size (w7.alloc (.cells #[.string ⟨#[92, 39, 97]⟩, .string ⟨#[98]⟩] 9)) w' := raws_p ⟨#[92, 39, 97, 32, 98]⟩ 92 _ [⟨#[92, 39, 97]⟩, ⟨#[98]⟩] _ T8 _ kn8 kr8 (by decide) (by decide)
  go_wp2_with fail
  with_reducible refine R8.mono ?_
  rintro e w8 ⟨rfl, b8⟩
  have B8 := below_join A8 b8
  clear B7 b8 A8 T8 R8
  have T9 : TextsAt (w8.alloc (.cells #[.string ⟨#[97, 92]⟩] 9)) (.slice (some ⟨w8.heap.size, 0, none⟩) 1 1) [⟨#[97, 92]⟩] := tx_new w8 [⟨#[97, 92]⟩]
  have A9 : Below w.heap.size w (w8.alloc (.cells #[.string ⟨#[97, 92]⟩] 9)) := B8.alloc B8.size _
  have R9 : Calls Tryd.prog 20 #[.string ⟨#[97, 92]⟩, .int .u8 92, .slice (some ⟨w8.heap.size, 0, none⟩) 1 1] (w8.alloc (.cells #[.string ⟨#[97, 92]⟩] 9)) fun e w' => e = .returned (.bool true) ∧ Below (w8.alloc (.cells #[.string ⟨#[97, 92]⟩] 9)).heap.size (w8.alloc (.cells #[.string ⟨#[97, 92]⟩] 9)) w' := raws_p ⟨#[97, 92]⟩ 92 _ [⟨#[97, 92]⟩] _ T9 _ kn9 kr9 (by decide) (by decide)
  go_wp2_with fail
  with_reducible refine R9.mono ?_
  rintro e w9 ⟨rfl, b9⟩
  have B9 := below_join A9 b9
  clear B8 b9 A9 T9 R9
  have T10 : TextsAt (w9.alloc (.cells #[.string ⟨#[97, 10, 98, 11, 99, 0]⟩] 9)) (.slice (some ⟨w9.heap.size, 0, none⟩) 1 1) [⟨#[97, 10, 98, 11, 99, 0]⟩] := tx_new w9 [⟨#[97, 10, 98, 11, 99, 0]⟩]
  have A10 : Below w.heap.size w (w9.alloc (.cells #[.string ⟨#[97, 10, 98, 11, 99, 0]⟩] 9)) := B9.alloc B9.size _
  have R10 : Calls Tryd.prog 20 #[.string ⟨#[97, 10, 98, 11, 99, 0]⟩, .int .u8 92, .slice (some ⟨w9.heap.size, 0, none⟩) 1 1] (w9.alloc (.cells #[.string ⟨#[97, 10, 98, 11, 99, 0]⟩] 9)) fun e w' => e = .returned (.bool true) ∧ Below (w9.alloc (.cells #[.string ⟨#[97, 10, 98, 11, 99, 0]⟩] 9)).heap.size (w9.alloc (.cells #[.string ⟨#[97, 10, 98, 11, 99, 0]⟩] 9)) w' := raws_p ⟨#[97, 10, 98, 11, 99, 0]⟩ 92 _ [⟨#[97, 10, 98, 11, 99, 0]⟩] _ T10 _ kn10 kr10 (by decide) (by decide)
  go_wp2_with fail
  with_reducible refine R10.mono ?_
  rintro e w10 ⟨rfl, b10⟩
  have B10 := below_join A10 b10
  clear B9 b10 A10 T10 R10
  have R11 : Calls Tryd.prog 21 #[.string ⟨#[97, 96, 34, 98, 32, 99]⟩, .int .i64 2] w10 fun e w' => e = .returned (.bool true) ∧ Below w10.heap.size w10 w' := endless_p ⟨#[97, 96, 34, 98, 32, 99]⟩ 2 _ (he.below B10) kn11 (by decide)
  go_wp2_with fail
  with_reducible refine R11.mono ?_
  rintro e w11 ⟨rfl, b11⟩
  have B11 := below_join B10 b11
  clear B10 b11 R11
  have R12 : Calls Tryd.prog 21 #[.string ⟨#[97, 32, 39, 98]⟩, .int .i64 2] w11 fun e w' => e = .returned (.bool true) ∧ Below w11.heap.size w11 w' := endless_p ⟨#[97, 32, 39, 98]⟩ 2 _ (he.below B11) kn12 (by decide)
  go_wp2_with fail
  with_reducible refine R12.mono ?_
  rintro e w12 ⟨rfl, b12⟩
  have B12 := below_join B11 b12
  clear B11 b12 R12
  have R13 : Calls Tryd.prog 21 #[.string ⟨#[34, 97, 92, 34]⟩, .int .i64 0] w12 fun e w' => e = .returned (.bool true) ∧ Below w12.heap.size w12 w' := endless_p ⟨#[34, 97, 92, 34]⟩ 0 _ (he.below B12) kn13 (by decide)
  go_wp2_with fail
  with_reducible refine R13.mono ?_
  rintro e w13 ⟨rfl, b13⟩
  have B13 := below_join B12 b13
  clear B12 b13 R13
  have R14 : Calls Tryd.prog 21 #[.string ⟨#[39, 34, 32, 120]⟩, .int .i64 0] w13 fun e w' => e = .returned (.bool true) ∧ Below w13.heap.size w13 w' := endless_p ⟨#[39, 34, 32, 120]⟩ 0 _ (he.below B13) kn14 (by decide)
  go_wp2_with fail
  with_reducible refine R14.mono ?_
  rintro e w14 ⟨rfl, b14⟩
  have B14 := below_join B13 b14
  clear B13 b14 R14
  have R15 : Calls Tryd.prog 21 #[.string ⟨#[97, 39, 39, 34]⟩, .int .i64 3] w14 fun e w' => e = .returned (.bool true) ∧ Below w14.heap.size w14 w' := endless_p ⟨#[97, 39, 39, 34]⟩ 3 _ (he.below B14) kn15 (by decide)
  go_wp2_with fail
  with_reducible refine R15.mono ?_
  rintro e w15 ⟨rfl, b15⟩
  have B15 := below_join B14 b15
  clear B14 b15 R15
  have R16 : Calls Tryd.prog 21 #[.string ⟨#[34, 92]⟩, .int .i64 0] w15 fun e w' => e = .returned (.bool true) ∧ Below w15.heap.size w15 w' := endless_p ⟨#[34, 92]⟩ 0 _ (he.below B15) kn16 (by decide)
  go_wp2_with fail
  with_reducible refine R16.mono ?_
  rintro e w16 ⟨rfl, b16⟩
  have B16 := below_join B15 b16
  clear B15 b16 R16
  have T17 : TextsAt (w16.alloc (.cells #[.string ⟨#[97, 96, 34]⟩, .string ⟨#[98, 96, 96, 34, 99, 32, 100, 34]⟩] 9)) (.slice (some ⟨w16.heap.size, 0, none⟩) 2 2) [⟨#[97, 96, 34]⟩, ⟨#[98, 96, 96, 34, 99, 32, 100, 34]⟩] := tx_new w16 [⟨#[97, 96, 34]⟩, ⟨#[98, 96, 96, 34, 99, 32, 100, 34]⟩]
  have A17 : Below w.heap.size w (w16.alloc (.cells #[.string ⟨#[97, 96, 34]⟩, .string ⟨#[98, 96, 96, 34, 99, 32, 100, 34]⟩] 9)) := B16.alloc B16.size _
  have R17 : Calls Tryd.prog 20 #[.string ⟨#[97, 96, 34, 32, 98, 96, 96, 34, 99, 32, 100, 34]⟩, .int .u8 96, .slice (some ⟨w16.heap.size, 0, none⟩) 2 2] (w16.alloc (.cells #[.string ⟨#[97, 96, 34]⟩, .string ⟨#[98, 96, 96, 34, 99, 32, 100, 34]⟩] 9)) fun e w' => e = .returned (.bool true) ∧ Below (w16.alloc (.cells #[.string ⟨#[97, 96, 34]⟩, .string ⟨#[98, 96, 96, 34, 99, 32, 100, 34]⟩] 9)).heap.size (w16.alloc (.cells #[.string ⟨#[97, 96, 34]⟩, .string ⟨#[98, 96, 96, 34, 99, 32, 100, 34]⟩] 9)) w' := raws_p ⟨#[97, 96, 34, 32, 98, 96, 96, 34, 99, 32, 100, 34]⟩ 96 _ [⟨#[97, 96, 34]⟩, ⟨#[98, 96, 96, 34, 99, 32, 100, 34]⟩] _ T17 _ kn17 kr17 (by decide) (by decide)
  go_wp2_with fail
  with_reducible refine R17.mono ?_
  rintro e w17 ⟨rfl, b17⟩
  have B17 := below_join A17 b17
  clear B16 b17 A17 T17 R17
  have T18 : TextsAt (w17.alloc (.cells #[.string ⟨#[97, 92, 92]⟩, .string ⟨#[98]⟩] 9)) (.slice (some ⟨w17.heap.size, 0, none⟩) 2 2) [⟨#[97, 92, 92]⟩, ⟨#[98]⟩] := tx_new w17 [⟨#[97, 92, 92]⟩, ⟨#[98]⟩]
  have A18 : Below w.heap.size w (w17.alloc (.cells #[.string ⟨#[97, 92, 92]⟩, .string ⟨#[98]⟩] 9)) := B17.alloc B17.size _
  have R18 : Calls Tryd.prog 20 #[.string ⟨#[97, 92, 92, 32, 98]⟩, .int .u8 120, .slice (some ⟨w17.heap.size, 0, none⟩) 2 2] (w17.alloc (.cells #[.string ⟨#[97, 92, 92]⟩, .string ⟨#[98]⟩] 9)) fun e w' => e = .returned (.bool true) ∧ Below (w17.alloc (.cells #[.string ⟨#[97, 92, 92]⟩, .string ⟨#[98]⟩] 9)).heap.size (w17.alloc (.cells #[.string ⟨#[97, 92, 92]⟩, .string ⟨#[98]⟩] 9)) w' := raws_p ⟨#[97, 92, 92, 32, 98]⟩ 120 _ [⟨#[97, 92, 92]⟩, ⟨#[98]⟩] _ T18 _ kn18 kr18 (by decide) (by decide)
  go_wp2_with fail
  with_reducible refine R18.mono ?_
  rintro e w18 ⟨rfl, b18⟩
  have B18 := below_join A18 b18
  clear B17 b18 A18 T18 R18
  have Q19 : ∀ W, Calls Tryd.prog 15 #[.string ⟨#[97, 47, 98, 46, 99]⟩, .int .u8 92] W fun e w' => e = .returned (.string ⟨#[97, 47, 98, 46, 99]⟩) ∧ Below W.heap.size W w' := fun W => by
    have h := quote_p ⟨#[97, 47, 98, 46, 99]⟩ 92 W (by decide)
    rw [kn19] at h; exact h
  go_wp2_with fail
  with_reducible refine (Q19 _).mono ?_
  rintro e w19 ⟨rfl, b19⟩
  have B19 := below_join B18 b19
  clear B18 b19 Q19
  have Q20 : ∀ W, Calls Tryd.prog 15 #[.string ⟨#[]⟩, .int .u8 92] W fun e w' => e = .returned (.string ⟨#[34, 34]⟩) ∧ Below W.heap.size W w' := fun W => by
    have h := quote_p ⟨#[]⟩ 92 W (by decide)
    rw [kn20] at h; exact h
  go_wp2_with fail
  with_reducible refine (Q20 _).mono ?_
  rintro e w20 ⟨rfl, b20⟩
  have B20 := below_join B19 b20
  clear B19 b20 Q20
  have Q21 : ∀ W, Calls Tryd.prog 15 #[.string ⟨#[97, 32, 98]⟩, .int .u8 92] W fun e w' => e = .returned (.string ⟨#[34, 97, 32, 98, 34]⟩) ∧ Below W.heap.size W w' := fun W => by
    have h := quote_p ⟨#[97, 32, 98]⟩ 92 W (by decide)
    rw [kn21] at h; exact h
  go_wp2_with fail
  with_reducible refine (Q21 _).mono ?_
  rintro e w21 ⟨rfl, b21⟩
  have B21 := below_join B20 b21
  clear B20 b21 Q21
  have Q22 : ∀ W, Calls Tryd.prog 15 #[.string ⟨#[97, 34, 36, 92, 96]⟩, .int .u8 92] W fun e w' => e = .returned (.string ⟨#[34, 97, 92, 34, 92, 36, 92, 92, 96, 34]⟩) ∧ Below W.heap.size W w' := fun W => by
    have h := quote_p ⟨#[97, 34, 36, 92, 96]⟩ 92 W (by decide)
    rw [kn22] at h; exact h
  go_wp2_with fail
  with_reducible refine (Q22 _).mono ?_
  rintro e w22 ⟨rfl, b22⟩
  have B22 := below_join B21 b22
  clear B21 b22 Q22
  have Q23 : ∀ W, Calls Tryd.prog 15 #[.string ⟨#[92, 96]⟩, .int .u8 96] W fun e w' => e = .returned (.string ⟨#[34, 92, 96, 96, 34]⟩) ∧ Below W.heap.size W w' := fun W => by
    have h := quote_p ⟨#[92, 96]⟩ 96 W (by decide)
    rw [kn23] at h; exact h
  go_wp2_with fail
  with_reducible refine (Q23 _).mono ?_
  rintro e w23 ⟨rfl, b23⟩
  have B23 := below_join B22 b23
  clear B22 b23 Q23
  have Q24 : ∀ W, Calls Tryd.prog 15 #[.string ⟨#[92]⟩, .int .u8 120] W fun e w' => e = .returned (.string ⟨#[34, 92, 92, 34]⟩) ∧ Below W.heap.size W w' := fun W => by
    have h := quote_p ⟨#[92]⟩ 120 W (by decide)
    rw [kn24] at h; exact h
  go_wp2_with fail
  with_reducible refine (Q24 _).mono ?_
  rintro e w24 ⟨rfl, b24⟩
  have B24 := below_join B23 b24
  clear B23 b24 Q24
  have Q25 : ∀ W, Calls Tryd.prog 15 #[.string ⟨#[97, 90, 48, 57, 95, 45, 46, 47, 58, 44, 43, 61, 64, 37]⟩, .int .u8 96] W fun e w' => e = .returned (.string ⟨#[97, 90, 48, 57, 95, 45, 46, 47, 58, 44, 43, 61, 64, 37]⟩) ∧ Below W.heap.size W w' := fun W => by
    have h := quote_p ⟨#[97, 90, 48, 57, 95, 45, 46, 47, 58, 44, 43, 61, 64, 37]⟩ 96 W (by decide)
    rw [kn25] at h; exact h
  go_wp2_with fail
  with_reducible refine (Q25 _).mono ?_
  rintro e w25 ⟨rfl, b25⟩
  have B25 := below_join B24 b25
  clear B24 b25 Q25
  go_wp2
  go_loopw [6, 7] (fun iv _ wr => ∃ i : Nat, i ≤ 24 ∧ iv = .int .i64 i ∧ Below w.heap.size w wr) (fun iv _ _ => 24 - (intOf iv).toNat)
  case atStart => exact ⟨0, Nat.zero_le _, rfl, B25⟩
  case round =>
    obtain ⟨i, hi, rfl, hB⟩ := hrel
    by_cases hlt : i < 24
    · have i0 : (0 : Int) ≤ (i : Int) := by omega
      have i1 : (i : Int) < 24 := by omega
      have i2 : (i : Int) ≤ (i : Int) + 1 := by omega
      have i3 : (i : Int) + 1 ≤ 24 := by omega
      have hq := fun W => quote_p (oddS.extract i (i + 1)) 92 W (by rw [size_extract' _ _ _ (show i + 1 ≤ 24 by omega)]; omega)
      have hsz : (oddS.extract i (i + 1)).size = 1 := by rw [size_extract' _ _ _ (show i + 1 ≤ 24 by omega)]; omega
      have HO : Hid (bs (quoL (escN 92) (un (oddS.extract i (i + 1)))) = ⟨#[34]⟩ ++ oddS.extract i (i + 1) ++ ⟨#[34]⟩) := by
        have h := odd_all ⟨i, hlt⟩
        apply un_inj
        rw [un_bs, un_append, un_append]
        exact h
      rw [HO.out] at hq
      have hne : ((⟨#[34]⟩ ++ oddS.extract i (i + 1) ++ ⟨#[34]⟩ : ByteArray).toList != (⟨#[34]⟩ ++ oddS.extract i (i + 1) ++ ⟨#[34]⟩ : ByteArray).toList) = false := by simp
      clear HO
      go_wp2_with fail
      refine (hq _).mono ?_
      rintro e wz ⟨rfl, bz⟩
      have hBz := below_join hB bz
      clear hq
      generalize oddS.extract i (i + 1) = C at *
      go_wp2
      first
        | exact ⟨⟨i + 1, by omega, by go_num, hBz⟩, by simp [intOf]; omega⟩
        | (go_roundw
           case rel => exact ⟨i + 1, by omega, by go_num, hBz⟩
           case measure => simp [intOf]; omega)
    · obtain rfl : i = 24 := by omega
      go_wp2_with fail
      refine (works_w _ (he.below hB)).mono ?_
      rintro e wz ⟨rfl, bz⟩
      go_wp2
      go_ret
      exact ⟨rfl, below_join hB bz⟩
end Go.Proofs.YtmnggnmgiflhjaaDoor
