/- UstarBack, walked: what is written is read as the same, and written again the same. -/
import Derived.Test.YtgdkgdlgalinbaaGreatDoorWorksU
namespace Go.Proofs.YtgdkgdlgalinbaaGreatDoor
open Go Go.RowKit

theorem enc_bad (h : Hd) (he : (encP h).2 ≠ 0) : (encP h).1 = ⟨#[]⟩ := by
  unfold encP at he ⊢
  split
  · rfl
  · split
    · rfl
    · split
      · rfl
      · split
        · rfl
        · exfalso
          apply he
          rw [if_neg (by assumption), if_neg (by assumption), if_neg (by assumption), if_neg (by assumption)]
set_option maxRecDepth 100000 in
set_option maxHeartbeats 1000000 in
theorem back_law (h : Hd) (hs : h.path.size < 4611686018427387904) (w : World) (hE : Env w) (hg : ErrType w) : Calls Tryz.prog 15 #[.agg (hcs h)] w fun e w' => e = .returned (.bool true) ∧ Below w.heap.size w w' := by
  have L0 := Lies.new w 28 (hcs h)
  have B0 := (Below.refl _ w).alloc (Nat.le_refl _) (.cells (hcs h) 28)
  have E0 := hE.below B0
  have G0 := hg.below B0
  have HEN : Hid (∀ W, Env W → Calls Tryz.prog 7 #[.agg (hcs h)] W fun e w' => e = .returned (.tuple #[.string (encP h).1, errV (encP h).2]) ∧ Below W.heap.size W w') := fun W hW => encode_p shelf5 h W hs hW
  have hi : (Tryz.prog.info? 28).map (·.size) = some (hcs h).size := info_hd
  have ho : (hcs h).all (·.oneCell') = true := hcs_one h
  have hzs : (hcs zeroHd).size = (hcs h).size := rfl
  have heq := fun W => eq_hd h h W
  rw [(eqHd_iff h h).2 rfl] at heq
  have HLZ : Hid ((#[.string ⟨#[]⟩, .int .i64 0, .int .i64 0, .int .i64 0, .int .i64 0, .int .i64 0, .int .u8 0, .string ⟨#[]⟩, .string ⟨#[]⟩, .string ⟨#[]⟩, .int .i64 0, .int .i64 0] : Array Value) = hcs zeroHd) := rfl
  by_cases he : (encP h).2 = 0
  rotate_left
  · have hbad := enc_bad h he
    rw [hbad] at HEN
    rw [errV_some _ he] at HEN
    clear heq HLZ hzs ho
    generalize (encP h).2 = n at *
    generalize hcs h = CA at *
    go_enter Tryz.func15, Tryz.ntmps15
    go_wp2_with (first | (refine wpList_load_row rfl 28 (.tmp 1) rfl w.heap.size rfl 28 CA (0, 0) _ L0 Tryz.underlying28 rfl hi ?_))
    refine (HEN.out _ E0).mono ?_
    rintro e w1 ⟨rfl, b1⟩
    have B1 := below_join B0 b1
    have E1 := E0.below b1
    have G1 := G0.below b1
    go_wp2_with (go_at_call 38; refine (works_p w1 E1 G1).mono ?_; rintro e w2 ⟨rfl, b2⟩)
    go_ret
    exact ⟨rfl, below_join B1 b2⟩
  obtain ⟨good, hL⟩ := good_of h he
  rw [hL, he] at HEN
  have hsz : (bs (encL h)).size = 512 := by rw [size_bs, enc_length good]
  have HD : Hid (∀ W, Env W → Calls Tryz.prog 11 #[.string (bs (encL h))] W fun e w' => e = .returned (.tuple #[.agg (hcs h), .nilIface]) ∧ Below W.heap.size W w') := fun W hW => by
    have := decode_p shelf5 (bs (encL h)) W hW
    rw [dec_enc good] at this; exact this
  have hrr : ((bs (encL h)).toList == (bs (encL h)).toList) = true := by simp
  rw [errV_zero] at HEN
  clear hL he good
  generalize bs (encL h) = R at *
  generalize hcs h = CA at *
  go_enter Tryz.func15, Tryz.ntmps15
  go_wp2_with (first | (refine wpList_load_row rfl 28 (.tmp 1) rfl w.heap.size rfl 28 CA (0, 0) _ L0 Tryz.underlying28 rfl hi ?_))
  refine (HEN.out _ E0).mono ?_
  rintro e w1 ⟨rfl, b1⟩
  have L1 := L0.below b1
  have B1 := below_join B0 b1
  have E1 := E0.below b1
  have G1 := G0.below b1
  clear L0 B0 E0 G0 b1
  go_wp2_with fail
  refine (HD.out w1 E1).mono ?_
  rintro e w2 ⟨rfl, b2⟩
  have L2 := L1.below b2
  have B2 := below_join B1 b2
  have E2 := E1.below b2
  have G2 := G1.below b2
  clear L1 B1 E1 G1 b2 HD
  have hb2 : w.heap.size < w2.heap.size := L2.lt
  have L3 : Lies ((w2.alloc (.cells (hcs zeroHd) 28)).setRow w2.heap.size CA) w.heap.size 28 CA := (L2.alloc _).otherRow _ (by omega)
  have M3 : Lies ((w2.alloc (.cells (hcs zeroHd) 28)).setRow w2.heap.size CA) w2.heap.size 28 CA := (Lies.new w2 _ _).row _
  have b3 : Below w2.heap.size w2 ((w2.alloc (.cells (hcs zeroHd) 28)).setRow w2.heap.size CA) := below_setRow ((Below.refl _ w2).alloc (Nat.le_refl _) _) (Nat.le_refl _) _
  have B3 := below_join B2 b3
  have E3 := E2.below b3
  have G3 := G2.below b3
  clear b3 B2 E2 G2 L2
  rw [← HLZ.out] at L3 M3 B3 E3 G3
  go_wp2_with (first
    | (refine wpList_store_row rfl 28 (.tmp 5) (.tmp 24) rfl w2.heap.size CA rfl rfl 28 (hcs zeroHd) (Lies.new w2 _ _) hi hzs ho ?_)
    | (refine wpList_load_row rfl 28 (.tmp 5) rfl w2.heap.size rfl 28 CA (0, 0) _ M3 Tryz.underlying28 rfl hi ?_))
  generalize (w2.alloc (.cells _ 28)).setRow w2.heap.size CA = W3 at *
  generalize w2.heap.size = b2 at *
  refine (HEN.out W3 E3).mono ?_
  rintro e w4 ⟨rfl, b4⟩
  have L4 := L3.below b4
  have M4 := M3.below b4
  have B4 := below_join B3 b4
  have E4 := E3.below b4
  have G4 := G3.below b4
  clear L3 M3 B3 E3 G3 b4 HEN
  go_wp2_with (first
    | (refine wpList_load_row_g rfl 28 (.tmp 5) rfl b2 rfl 28 CA (0, 0) _ M4 Tryz.underlying28 rfl hi ?_)
    | (refine wpList_load_row_g rfl 28 (.tmp 1) rfl w.heap.size rfl 28 CA (0, 0) _ L4 Tryz.underlying28 rfl hi ?_)
    | (go_at_call 38; refine (works_p w4 E4 G4).mono ?_; rintro e w5 ⟨rfl, b5⟩))
  go_ret
  exact ⟨rfl, below_join B4 b5⟩
end Go.Proofs.YtgdkgdlgalinbaaGreatDoor
