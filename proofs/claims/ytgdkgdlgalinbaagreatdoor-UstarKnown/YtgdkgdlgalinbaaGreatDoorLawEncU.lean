/- UstarEncode, walked: of every header. -/
import Derived.Test.YtgdkgdlgalinbaaGreatDoorWorksU
import Derived.Test.YtgdkgdlgalinbaaGreatDoorEncR
namespace Go.Proofs.YtgdkgdlgalinbaaGreatDoor
open Go Go.RowKit

theorem enc_range (h : Hd) : 0 ≤ (encP h).2 ∧ (encP h).2 ≤ 32 := by
  unfold encP
  split
  · decide
  · split
    · have := splitP_cases h.path; exact ⟨by show (0 : Int) ≤ (splitP h.path).2.2; omega, by show (splitP h.path).2.2 ≤ 32; omega⟩
    · split
      · decide
      · split
        · decide
        · exact ⟨by show (0 : Int) ≤ 0; decide, by show (0 : Int) ≤ 32; decide⟩
set_option maxRecDepth 100000 in
set_option maxHeartbeats 1000000 in
theorem encode_law (h : Hd) (hs : h.path.size < 4611686018427387904) (hl : h.link.size ≤ 140737488351232) (hu : h.user.size ≤ 140737488351232) (hgr : h.group.size ≤ 140737488351232) (w : World) (hE : Env w) (hg : ErrType w) :
    Calls Tryz.prog 14 #[.agg (hcs h)] w fun e w' => e = .returned (.bool true) ∧ Below w.heap.size w w' := by
  obtain ⟨h0, h32⟩ := enc_range h
  have L0 := Lies.new w 28 (hcs h)
  have B0 := (Below.refl _ w).alloc (Nat.le_refl _) (.cells (hcs h) 28)
  have E0 := hE.below B0
  have G0 := hg.below B0
  have HR : Hid (∀ W, Calls Tryz.prog 10 #[.agg (hcs h)] W fun e w' => e = .returned (.tuple #[.string (encP h).1, .int .i64 (encP h).2]) ∧ Below W.heap.size W w') := fun W => encode_r h hs hl hu hgr W
  have HEN : Hid (∀ W, Env W → Calls Tryz.prog 7 #[.agg (hcs h)] W fun e w' => e = .returned (.tuple #[.string (encP h).1, errV (encP h).2]) ∧ Below W.heap.size W w') := fun W hW => encode_p shelf5 h W hs hW
  have hi : (Tryz.prog.info? 28).map (·.size) = some (hcs h).size := info_hd
  have hpl := fun W hW => plain_v (encP h).2 h0 h32 W hW
  have hrr : ((encP h).1.toList == (encP h).1.toList) = true := by simp
  clear h0 h32 hs hl hu hgr
  generalize errV (encP h).2 = EV at *
  generalize (encP h).2 = n at *
  generalize (encP h).1 = R at *
  generalize hcs h = CA at *
  go_enter Tryz.func14, Tryz.ntmps14
  go_wp2_with (first | (refine wpList_load_row rfl 28 (.tmp 1) rfl w.heap.size rfl 28 CA (0, 0) _ L0 Tryz.underlying28 rfl hi ?_))
  refine (HR.out _).mono ?_
  rintro e w1 ⟨rfl, b1⟩
  have L1 := L0.below b1
  have B1 := below_join B0 b1
  have E1 := E0.below b1
  have G1 := G0.below b1
  clear L0 B0 E0 G0 b1 HR
  go_wp2_with (first | (refine wpList_load_row rfl 28 (.tmp 1) rfl w.heap.size rfl 28 CA (0, 0) _ L1 Tryz.underlying28 rfl hi ?_))
  refine (HEN.out _ E1).mono ?_
  rintro e w2 ⟨rfl, b2⟩
  have B2 := below_join B1 b2
  have E2 := E1.below b2
  have G2 := G1.below b2
  clear L1 B1 E1 G1 b2 HEN
  go_wp2_with (first
    | (go_at_call 9; refine (hpl _ G2).mono ?_; rintro e w6 ⟨rfl, b6⟩; have B6 := below_join B2 b6; have E6 := E2.below b6; have G6 := G2.below b6)
    | (go_at_call 38; refine (works_p _ E6 G6).mono ?_; rintro e w7 ⟨rfl, b7⟩))
  go_ret
  exact ⟨rfl, below_join B6 b7⟩
end Go.Proofs.YtgdkgdlgalinbaaGreatDoor
