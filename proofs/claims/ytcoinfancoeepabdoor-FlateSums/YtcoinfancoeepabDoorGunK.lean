/- The known text, out of its frame. -/
import Derived.Test.YtcoinfancoeepabDoorFrameU
namespace Go.Proofs.YtcoinfancoeepabDoor
open Go Go.RowKit

theorem CrcAt.lt {w : World} (h : CrcAt w) : 0 < w.heap.size := World.block_lt_of_cell? w _ (h 0 (by omega))
theorem CrcAt.turned {b : Nat} {w w' : World} (h : CrcAt w) (k : Turned b w w') (hne : 0 ≠ b) : CrcAt w' := fun i hi =>
  (World.cell?_of_block (w := w) (k.block _ h.lt (fun e => hne (Option.some.inj e)))).trans (h i hi)
theorem crc_a : crcN (un ⟨#[97]⟩) = 3904355907 := by decide
theorem crc_9 : crcN (un ⟨#[49, 50, 51, 52, 53, 54, 55, 56, 57]⟩) = 3421780262 := by kernel_rfl
theorem four_a : bs (four 3904355907) = ⟨#[67, 190, 183, 232]⟩ := by decide
theorem four_1 : bs (four 1) = ⟨#[1, 0, 0, 0]⟩ := by decide
theorem crcA_p (w : World) (hT : CrcAt w) : Calls Tryd.prog 15 #[.string ⟨#[97]⟩] w fun e w' => e = .returned (.int .u32 3904355907) ∧ w' = w := by
  have := crc_p ⟨#[97]⟩ (by decide) w hT
  rw [crc_a] at this; exact this
theorem crc9_p (w : World) (hT : CrcAt w) : Calls Tryd.prog 15 #[.string ⟨#[49, 50, 51, 52, 53, 54, 55, 56, 57]⟩] w fun e w' => e = .returned (.int .u32 3421780262) ∧ w' = w := by
  have := crc_p ⟨#[49, 50, 51, 52, 53, 54, 55, 56, 57]⟩ (by decide) w hT
  rw [crc_9] at this; exact this
theorem fourA_p (w : World) : Calls Tryd.prog 19 #[.int .u32 3904355907] w fun e w' => e = .returned (.string ⟨#[67, 190, 183, 232]⟩) ∧ Below w.heap.size w w' := by
  have := four_p 3904355907 (by decide) w
  rw [four_a] at this; exact this
theorem four1_p (w : World) : Calls Tryd.prog 19 #[.int .u32 1] w fun e w' => e = .returned (.string ⟨#[1, 0, 0, 0]⟩) ∧ Below w.heap.size w w' := by
  have := four_p 1 (by decide) w
  rw [four_1] at this; exact this
set_option maxRecDepth 100000 in
set_option maxHeartbeats 4000000 in
theorem gunzip_k (w : World) (hT : CrcAt w) : Calls Tryd.prog 12 #[.string z0, .int .i64 1] w fun e w' => e = .returned (.tuple #[.string ⟨#[97]⟩, .nilIface]) ∧ Below w.heap.size w w' := by
  have L0 : Lies (w.alloc (.cells #[.string z0, .int .i64 0] 52)) w.heap.size 52 (frameC z0 0) := Lies.new w _ _
  have B0 := (Below.refl _ w).alloc (Nat.le_refl _) (.cells #[.string z0, .int .i64 0] 52)
  have hlt := hT.lt
  have T0 := hT.below B0
  obtain ⟨gf, hgf⟩ : ∃ g, w.heap.size = g := ⟨_, rfl⟩
  have hne : 0 ≠ gf := by omega
  have hz : z0.extract 10 21 = ⟨#[75, 4, 0, 67, 190, 183, 232, 1, 0, 0, 0]⟩ := rfl
  have hzs : z0.size = 21 := rfl
  have HIN : Hid (∀ W, Calls Tryd.prog 9 #[.string ⟨#[75, 4, 0, 67, 190, 183, 232, 1, 0, 0, 0]⟩, .int .i64 1] W fun e w' => e = .returned (.tuple #[.string ⟨#[97]⟩, .int .i64 3, .nilIface]) ∧ Below W.heap.size W w') := fun W => inflate_k (s := ⟨#[75, 4, 0, 67, 190, 183, 232, 1, 0, 0, 0]⟩) rfl (by decide) (by decide) W
  have HTK : Hid (∀ W, Lies W gf 52 (frameC z0 13) → Calls Tryd.prog 24 #[.pointer (some ⟨gf, 0, none⟩), .int .i64 8] W fun e w' => e = .returned (.tuple #[.string ⟨#[67, 190, 183, 232, 1, 0, 0, 0]⟩, .nilIface]) ∧ Lies w' gf 52 (frameC z0 21) ∧ Turned gf W w') := fun W hW => take_p gf z0 ⟨#[67, 190, 183, 232, 1, 0, 0, 0]⟩ 13 8 (by rw [z0_size]; omega) (by rw [z0_size]; omega) rfl W hW
  have HHD : Hid (∀ W, Lies W gf 52 (frameC z0 0) → Calls Tryd.prog 23 #[.pointer (some ⟨gf, 0, none⟩)] W fun e w' => e = .returned .nilIface ∧ Lies w' gf 52 (frameC z0 10) ∧ Turned gf W w') := fun W hW => head_k gf W hW
  have HG : Hid (w.heap.size = gf) := hgf
  rw [hgf] at L0
  generalize z0 = z at *
  go_enter Tryd.func12, Tryd.ntmps12
  go_wp2_with fail
  refine (HHD.out _ L0).mono ?_
  rintro e w2 ⟨rfl, L2, T2⟩
  have C2 := T0.turned T2 hne
  have B2 : Below w.heap.size w w2 := Turned.below B0 T2 (by omega)
  have c10 : w2.cell? ⟨gf, 1, none⟩ = some (.int .i64 10) := L2.cell rfl
  clear L0 B0 T0 T2 HHD
  go_wp2_with fail
  refine (HIN.out w2).mono ?_
  rintro e w3 ⟨rfl, b3⟩
  have L3 := L2.below b3
  have C3 := C2.below b3
  have B3 := below_join B2 b3
  have d10 : w3.cell? ⟨gf, 1, none⟩ = some (.int .i64 10) := L3.cell rfl
  have f10 := L3.frozen 1
  have L4 : Lies (w3.setCell ⟨gf, 1, none⟩ (.int .i64 13)) gf 52 (frameC z 13) := L3.set _
  have C4 : CrcAt (w3.setCell ⟨gf, 1, none⟩ (.int .i64 13)) := C3.turned (Turned.set gf w3 1 _) hne
  have B4 : Below w.heap.size w (w3.setCell ⟨gf, 1, none⟩ (.int .i64 13)) := B3.setCell (p := ⟨gf, 1, none⟩) (by show w.heap.size ≤ gf; omega) _
  clear L2 C2 B2 c10 b3 HIN L3 C3 B3
  go_wp2_with fail
  refine (HTK.out _ L4).mono ?_
  rintro e w5 ⟨rfl, L5, T5⟩
  have C5 := C4.turned T5 hne
  have B5 : Below w.heap.size w w5 := Turned.below B4 T5 (by omega)
  clear L4 C4 B4 T5 d10 f10 HTK
  have hcat : ((⟨#[67, 190, 183, 232]⟩ : ByteArray) ++ (⟨#[1, 0, 0, 0]⟩ : ByteArray)) = ⟨#[67, 190, 183, 232, 1, 0, 0, 0]⟩ := rfl
  go_wp2_with (first
    | (go_at_call 15; refine (crcA_p w5 C5).mono ?_; rintro e w6 ⟨rfl, h6⟩; have h6' := h6.symm; clear h6; subst h6')
    | (go_at_call 19; with_reducible refine (fourA_p w5).mono ?_; rintro e w6 ⟨rfl, b6⟩)
    | (go_at_call 19; with_reducible refine (four1_p w6).mono ?_; rintro e w7 ⟨rfl, b7⟩; have L7 := (L5.below b6).below b7; have c21 : w7.cell? ⟨gf, 1, none⟩ = some (.int .i64 21) := L7.cell rfl))
  go_ret2
  exact ⟨rfl, below_join (below_join B5 b6) b7⟩
end Go.Proofs.YtcoinfancoeepabDoor
