/- UstarForged, walked: of a header that was written, in which a piece is another one, its sum put right. -/
import Derived.Test.YtgdkgdlgalinbaaGreatDoorWorksU
import Derived.Test.YtgdkgdlgalinbaaGreatDoorDecR
import Derived.Test.YtgdkgdlgalinbaaGreatDoorLawEncU
import Derived.Test.YtgdkgdlgalinbaaGreatDoorForU
import Derived.Test.YtgdkgdlgalinbaaGreatDoorOneM
namespace Go.Proofs.YtgdkgdlgalinbaaGreatDoor
open Go Go.RowKit

theorem dec_range (s : ByteArray) : 0 ≤ (decP s).2 ∧ (decP s).2 ≤ 32 := by
  unfold decP
  split
  · decide
  · split
    · decide
    · split
      · decide
      · split
        · decide
        · split
          · decide
          · split
            · decide
            · exact ⟨by show (0 : Int) ≤ 0; decide, by show (0 : Int) ≤ 32; decide⟩
set_option maxRecDepth 100000 in
set_option maxHeartbeats 1000000 in
theorem forged_law (h : Hd) (hs : h.path.size < 4611686018427387904) (hl : h.link.size ≤ 140737488351232) (hu : h.user.size ≤ 140737488351232) (hgr : h.group.size ≤ 140737488351232) (at' : Int) (p : ByteArray) (w : World) (hE : Env w) (hg : ErrType w) :
    Calls Tryz.prog 16 #[.agg (hcs h), .int .i64 at', .string p] w fun e w' => e = .returned (.bool true) ∧ Below w.heap.size w w' := by
  have L0 := Lies.new w 28 (hcs h)
  have B0 := (Below.refl _ w).alloc (Nat.le_refl _) (.cells (hcs h) 28)
  have E0 := hE.below B0
  have G0 := hg.below B0
  have HR : Hid (∀ W, Calls Tryz.prog 10 #[.agg (hcs h)] W fun e w' => e = .returned (.tuple #[.string (encP h).1, .int .i64 (encP h).2]) ∧ Below W.heap.size W w') := fun W => encode_r h hs hl hu hgr W
  have hi : (Tryz.prog.info? 28).map (·.size) = some (hcs h).size := info_hd
  clear hs hl hu hgr
  by_cases he : (encP h).2 = 0
  rotate_left
  · have hne : ((encP h).2 == 0) = false := beq_eq_false_iff_ne.2 he
    clear he
    generalize (encP h).2 = n at *
    generalize (encP h).1 = R at *
    generalize hcs h = CA at *
    go_enter Tryz.func16, Tryz.ntmps16
    go_wp2_with (first | (refine wpList_load_row rfl 28 (.tmp 3) rfl w.heap.size rfl 28 CA (0, 0) _ L0 Tryz.underlying28 rfl hi ?_))
    refine (HR.out _).mono ?_
    rintro e w1 ⟨rfl, b1⟩
    have B1 := below_join B0 b1
    have E1 := E0.below b1
    have G1 := G0.below b1
    go_wp2_with (go_at_call 38; refine (works_p w1 E1 G1).mono ?_; rintro e w2 ⟨rfl, b2⟩)
    go_ret
    exact ⟨rfl, below_join B1 b2⟩
  obtain ⟨good, hL⟩ := good_of h he
  have hsz : (encP h).1.size ≤ 1000 := by rw [hL, size_bs, enc_length good]; decide
  rw [he] at HR
  clear he good hL
  generalize (encP h).1 = R at *
  generalize hcs h = CA at *
  go_enter Tryz.func16, Tryz.ntmps16
  go_wp2_with (first | (refine wpList_load_row rfl 28 (.tmp 3) rfl w.heap.size rfl 28 CA (0, 0) _ L0 Tryz.underlying28 rfl hi ?_))
  refine (HR.out _).mono ?_
  rintro e w1 ⟨rfl, b1⟩
  have B1 := below_join B0 b1
  have E1 := E0.below b1
  have G1 := G0.below b1
  clear L0 B0 E0 G0 b1 HR hi
  go_wp2_with fail
  refine (pick_p at' w1).mono ?_
  rintro e w9 ⟨⟨j, hj, rfl⟩, h9⟩
  have h9' := h9.symm; clear h9; subst h9'
  go_wp2_with fail
  refine (forged_p R p j hsz (by omega) _).mono ?_
  rintro e w2 ⟨⟨s, rfl⟩, b2⟩
  have B2 := below_join B1 b2
  have E2 := E1.below b2
  have G2 := G1.below b2
  clear B1 E1 G1 b2 hsz hj
  obtain ⟨h0, h32⟩ := dec_range s
  have HD : Hid (∀ W, Env W → Calls Tryz.prog 11 #[.string s] W fun e w' => e = .returned (.tuple #[.agg (hcs (decP s).1), errV (decP s).2]) ∧ Below W.heap.size W w') := fun W hW => decode_p shelf5 s W hW
  have HDR : Hid (∀ W, Calls Tryz.prog 40 #[.string s] W fun e w' => e = .returned (.tuple #[.agg (hcs (decP s).1), .int .i64 (decP s).2]) ∧ Below W.heap.size W w') := fun W => decode_r s W
  have hi : (Tryz.prog.info? 28).map (·.size) = some (hcs (decP s).1).size := info_hd
  have ho : (hcs (decP s).1).all (·.oneCell') = true := hcs_one _
  have hzs : (hcs zeroHd).size = (hcs (decP s).1).size := rfl
  have heq := fun W => eq_hd (decP s).1 (decP s).1 W
  rw [(eqHd_iff _ _).2 rfl] at heq
  have hpl := fun W hW => plain_v (decP s).2 h0 h32 W hW
  have HLZ : Hid ((#[.string ⟨#[]⟩, .int .i64 0, .int .i64 0, .int .i64 0, .int .i64 0, .int .i64 0, .int .u8 0, .string ⟨#[]⟩, .string ⟨#[]⟩, .string ⟨#[]⟩, .int .i64 0, .int .i64 0] : Array Value) = hcs zeroHd) := rfl
  clear h0 h32
  generalize errV (decP s).2 = EV at *
  generalize (decP s).2 = n at *
  generalize hcs (decP s).1 = CD at *
  go_wp2_with fail
  refine (HDR.out _).mono ?_
  rintro e w3 ⟨rfl, b3⟩
  have B3 := below_join B2 b3
  have E3 := E2.below b3
  have G3 := G2.below b3
  clear B2 E2 G2 b3 HDR
  have M3 : Lies ((w3.alloc (.cells (hcs zeroHd) 28)).setRow w3.heap.size CD) w3.heap.size 28 CD := (Lies.new w3 _ _).row _
  have b3 : Below w3.heap.size w3 ((w3.alloc (.cells (hcs zeroHd) 28)).setRow w3.heap.size CD) := below_setRow ((Below.refl _ w3).alloc (Nat.le_refl _) _) (Nat.le_refl _) _
  have B4 := below_join B3 b3
  have E4 := E3.below b3
  have G4 := G3.below b3
  clear b3 B3 E3 G3
  rw [← HLZ.out] at M3 B4 E4 G4
  go_wp2_with (refine wpList_store_row rfl 28 (.tmp 10) (.tmp 29) rfl w3.heap.size CD rfl rfl 28 (hcs zeroHd) (Lies.new w3 _ _) hi hzs ho ?_)
  generalize (w3.alloc (.cells _ 28)).setRow w3.heap.size CD = W3 at *
  generalize w3.heap.size = b2 at *
  refine (HD.out W3 E4).mono ?_
  rintro e w4 ⟨rfl, b4⟩
  have M4 := M3.below b4
  have B5 := below_join B4 b4
  have E5 := E4.below b4
  have G5 := G4.below b4
  clear M3 B4 E4 G4 b4 HD
  have hb4 : b2 < w4.heap.size := M4.lt
  have M5 : Lies ((w4.alloc (.cells (hcs zeroHd) 28)).setRow w4.heap.size CD) b2 28 CD := (M4.alloc _).otherRow _ (by omega)
  have L5 : Lies ((w4.alloc (.cells (hcs zeroHd) 28)).setRow w4.heap.size CD) w4.heap.size 28 CD := (Lies.new w4 _ _).row _
  have b5 : Below w4.heap.size w4 ((w4.alloc (.cells (hcs zeroHd) 28)).setRow w4.heap.size CD) := below_setRow ((Below.refl _ w4).alloc (Nat.le_refl _) _) (Nat.le_refl _) _
  have B6 := below_join B5 b5
  have E6 := E5.below b5
  have G6 := G5.below b5
  clear b5 B5 E5 G5 M4
  rw [← HLZ.out] at M5 L5 B6 E6 G6
  go_wp2_with (first
    | (refine wpList_store_row rfl 28 (.tmp 11) (.tmp 34) rfl w4.heap.size CD rfl rfl 28 (hcs zeroHd) (Lies.new w4 _ _) hi hzs ho ?_)
    | (refine wpList_load_row rfl 28 (.tmp 11) rfl w4.heap.size rfl 28 CD (0, 0) _ L5 Tryz.underlying28 rfl hi ?_)
    | (refine wpList_load_row rfl 28 (.tmp 10) rfl b2 rfl 28 CD (0, 0) _ M5 Tryz.underlying28 rfl hi ?_)
    | (go_at_call 9; refine (hpl _ G6).mono ?_; rintro e w6 ⟨rfl, b6⟩; have B7 := below_join B6 b6; have E7 := E6.below b6; have G7 := G6.below b6)
    | (go_at_call 38; refine (works_p _ E7 G7).mono ?_; rintro e w7 ⟨rfl, b7⟩))
  go_ret
  exact ⟨rfl, below_join B7 b7⟩
end Go.Proofs.YtgdkgdlgalinbaaGreatDoor
