/- UstarDecode, walked: of any bytes. -/
import Derived.Test.YtolaekngmoacaaaGreatDoorWorksU
import Derived.Test.YtolaekngmoacaaaGreatDoorDecR
namespace Go.Proofs.YtolaekngmoacaaaGreatDoor
open Go Go.RowKit

theorem dec_range (s : ByteArray) : 0 ≤ (decP s).2 ∧ (decP s).2 ≤ 32 := by
  unfold decP
  split
  · decide
  · split
    · decide
    · split
      · decide
      · split
        · decide
        · split
          · decide
          · split
            · decide
            · exact ⟨by show (0 : Int) ≤ 0; decide, by show (0 : Int) ≤ 32; decide⟩
set_option maxRecDepth 100000 in
set_option maxHeartbeats 1000000 in
theorem decode_law (s : ByteArray) (w : World) (hE : Env w) (hg : ErrType w) : Calls Tryz.prog 4 #[.string s] w fun e w' => e = .returned (.bool true) ∧ Below w.heap.size w w' := by
  obtain ⟨h0, h32⟩ := dec_range s
  have HD : Hid (∀ W, Env W → Calls Tryz.prog 14 #[.string s] W fun e w' => e = .returned (.tuple #[.agg (hcs (decP s).1), errV (decP s).2]) ∧ Below W.heap.size W w') := fun W hW => decode_p shelf5 s W hW
  have HR : Hid (∀ W, Calls Tryz.prog 13 #[.string s] W fun e w' => e = .returned (.tuple #[.agg (hcs (decP s).1), .int .i64 (decP s).2]) ∧ Below W.heap.size W w') := fun W => decode_r s W
  have hi : (Tryz.prog.info? 23).map (·.size) = some (hcs (decP s).1).size := info_hd
  have ho : (hcs (decP s).1).all (·.oneCell') = true := hcs_one _
  have hzs : (hcs zeroHd).size = (hcs (decP s).1).size := rfl
  have heq := fun W => eq_hd (decP s).1 (decP s).1 W
  rw [(eqHd_iff _ _).2 rfl] at heq
  have hpl := fun W hW => plain_v (decP s).2 h0 h32 W hW
  have HLZ : Hid ((#[.string ⟨#[]⟩, .int .i64 0, .int .i64 0, .int .i64 0, .int .i64 0, .int .i64 0, .int .u8 0, .string ⟨#[]⟩, .string ⟨#[]⟩, .string ⟨#[]⟩, .int .i64 0, .int .i64 0] : Array Value) = hcs zeroHd) := rfl
  clear h0 h32
  generalize errV (decP s).2 = EV at *
  generalize (decP s).2 = n at *
  generalize hcs (decP s).1 = CA at *
  go_enter Tryz.func4, Tryz.ntmps4
  go_wp2_with fail
  refine (HR.out w).mono ?_
  rintro e w2 ⟨rfl, B2⟩
  have E2 := hE.below B2
  have G2 := hg.below B2
  have hle := B2.size
  have M3 : Lies ((w2.alloc (.cells (hcs zeroHd) 23)).setRow w2.heap.size CA) w2.heap.size 23 CA := (Lies.new w2 _ _).row _
  have b3 : Below w2.heap.size w2 ((w2.alloc (.cells (hcs zeroHd) 23)).setRow w2.heap.size CA) := below_setRow ((Below.refl _ w2).alloc (Nat.le_refl _) _) (Nat.le_refl _) _
  have B3 := below_join B2 b3
  have E3 := E2.below b3
  have G3 := G2.below b3
  clear b3 B2 E2 G2 HR
  rw [← HLZ.out] at M3 B3 E3 G3
  go_wp2_with (refine wpList_store_row rfl 23 (.tmp 3) (.tmp 10) rfl w2.heap.size CA rfl rfl 23 (hcs zeroHd) (Lies.new w2 _ _) hi hzs ho ?_)
  generalize (w2.alloc (.cells _ 23)).setRow w2.heap.size CA = W3 at *
  generalize w2.heap.size = b2 at *
  refine (HD.out W3 E3).mono ?_
  rintro e w4 ⟨rfl, b4⟩
  have M4 := M3.below b4
  have B4 := below_join B3 b4
  have E4 := E3.below b4
  have G4 := G3.below b4
  clear M3 B3 E3 G3 b4 HD
  have hb4 : b2 < w4.heap.size := M4.lt
  have M5 : Lies ((w4.alloc (.cells (hcs zeroHd) 23)).setRow w4.heap.size CA) b2 23 CA := (M4.alloc _).otherRow _ (by omega)
  have L5 : Lies ((w4.alloc (.cells (hcs zeroHd) 23)).setRow w4.heap.size CA) w4.heap.size 23 CA := (Lies.new w4 _ _).row _
  have b5 : Below w4.heap.size w4 ((w4.alloc (.cells (hcs zeroHd) 23)).setRow w4.heap.size CA) := below_setRow ((Below.refl _ w4).alloc (Nat.le_refl _) _) (Nat.le_refl _) _
  have B5 := below_join B4 b5
  have E5 := E4.below b5
  have G5 := G4.below b5
  clear b5 B4 E4 G4 M4
  rw [← HLZ.out] at M5 L5 B5 E5 G5
  go_wp2_with (first
    | (refine wpList_store_row rfl 23 (.tmp 5) (.tmp 15) rfl w4.heap.size CA rfl rfl 23 (hcs zeroHd) (Lies.new w4 _ _) hi hzs ho ?_)
    | (refine wpList_load_row rfl 23 (.tmp 5) rfl w4.heap.size rfl 23 CA (0, 0) _ L5 Tryz.underlying23 rfl hi ?_)
    | (refine wpList_load_row rfl 23 (.tmp 3) rfl b2 rfl 23 CA (0, 0) _ M5 Tryz.underlying23 rfl hi ?_)
    | (go_at_call 11; refine (hpl _ G5).mono ?_; rintro e w6 ⟨rfl, b6⟩; have B6 := below_join B5 b6; have E6 := E5.below b6; have G6 := G5.below b6)
    | (go_at_call 12; refine (works_p _ E6 G6).mono ?_; rintro e w7 ⟨rfl, b7⟩))
  go_ret
  exact ⟨rfl, below_join B6 b7⟩
end Go.Proofs.YtolaekngmoacaaaGreatDoor
