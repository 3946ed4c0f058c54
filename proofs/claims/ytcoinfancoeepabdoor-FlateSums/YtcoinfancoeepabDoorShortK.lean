/- The known text's short form, and what it is deflated to. -/
import Derived.Test.YtcoinfancoeepabDoorLitU
import Derived.Test.YtcoinfancoeepabDoorPlaceK
namespace Go.Proofs.YtcoinfancoeepabDoor
open Go Go.RowKit

theorem PutAt.other {W : World} {B gh gc go held count gb : Nat} {l : List UInt8} {x : Array Value} (u : Value) (h : PutAt W B gh gc go held count l) (hb : Lies W gb 21 x) (hB : B ≤ gb) : PutAt (W.setCell ⟨gb, 0, none⟩ u) B gh gc go held count l := by
  obtain ⟨v, ho, hv⟩ := h.o
  have b1 := h.b1
  have b2 := h.b2
  have b3 := h.b3
  refine ⟨h.h.other _ (by omega), h.c.other _ (by omega), ⟨v, ho.other _ (by omega), ?_⟩, h.n1, h.n2, h.n3, h.b1, h.b2, h.b3⟩
  refine hv.kept (grownBy_setCell' W gb u) ?_
  rcases hv.2 with ⟨rfl, _⟩ | ⟨g, cap, cur, rfl, hg, hgb, _⟩
  · exact .inl rfl
  · exact .inr fun e2 => by
      simp [Value.ownBlock] at e2
      subst e2
      have := hb.symm.trans hgb
      cases this
theorem conv_put (l : List UInt8) (B : Nat) (v : Value) (w : World) (h : w.ownsRow B 5 1 v l.length (Lib.byteCells l)) : (convert 34 9 v).run Tryd.prog w = .ok (.string (bs l)) w := by
  rcases h.2 with ⟨rfl, h0⟩ | ⟨g, cap, cur, rfl, hg, hgb, hc⟩
  · have : l = [] := List.eq_nil_of_length_eq_zero h0
    subst this
    rw [run_convert_bytes_string w 34 9 5 none 0 0 Tryd.underlying34 Tryd.underlying5 Tryd.underlying9]
    rfl
  · exact run_convert_bytes_back w 34 9 5 ⟨g, 0, none⟩ cap l Tryd.underlying34 Tryd.underlying5 Tryd.underlying9 (fun j hj => by
      have := h.cells (g := g) rfl j (.int .u8 l[j].toNat) (by simp [Lib.byteCells, hj])
      exact this)
set_option maxRecDepth 100000 in
set_option maxHeartbeats 4000000 in
theorem short_k (w : World) : Calls Tryd.prog 16 #[.string ⟨#[97]⟩] w fun e w' => e = .returned (.string ⟨#[75, 4, 0]⟩) ∧ Below w.heap.size w w' := by
  have z1 : (w.alloc (.cells #[.slice none 0 0] 34)).heap.size = w.heap.size + 1 := by simp
  have z2 : ((w.alloc (.cells #[.slice none 0 0] 34)).alloc (.cells #[.int .i64 0] 3)).heap.size = w.heap.size + 2 := by simp
  have z3 : (((w.alloc (.cells #[.slice none 0 0] 34)).alloc (.cells #[.int .i64 0] 3)).alloc (.cells #[.int .i64 0] 3)).heap.size = w.heap.size + 3 := by simp
  have LO : Lies (((w.alloc (.cells #[.slice none 0 0] 34)).alloc (.cells #[.int .i64 0] 3)).alloc (.cells #[.int .i64 0] 3)) w.heap.size 34 #[.slice none 0 0] := ((Lies.new w _ _).alloc _).alloc _
  have LH : Lies (((w.alloc (.cells #[.slice none 0 0] 34)).alloc (.cells #[.int .i64 0] 3)).alloc (.cells #[.int .i64 0] 3)) (w.heap.size + 1) 3 #[.int .i64 (0 : Nat)] := by
    have := (Lies.new (w.alloc (.cells #[.slice none 0 0] 34)) 3 #[.int .i64 0]).alloc (.cells #[.int .i64 0] 3)
    rw [z1] at this; exact this
  have LC : Lies (((w.alloc (.cells #[.slice none 0 0] 34)).alloc (.cells #[.int .i64 0] 3)).alloc (.cells #[.int .i64 0] 3)) (w.heap.size + 2) 3 #[.int .i64 (0 : Nat)] := by
    have := Lies.new ((w.alloc (.cells #[.slice none 0 0] 34)).alloc (.cells #[.int .i64 0] 3)) 3 #[.int .i64 0]
    rw [z2] at this; exact this
  have BW : Below w.heap.size w (((w.alloc (.cells #[.slice none 0 0] 34)).alloc (.cells #[.int .i64 0] 3)).alloc (.cells #[.int .i64 0] 3)) := (((Below.refl _ w).alloc (Nat.le_refl _) _).alloc (by rw [z1]; omega) _).alloc (by rw [z2]; omega) _
  have P0 : PutAt (((w.alloc (.cells #[.slice none 0 0] 34)).alloc (.cells #[.int .i64 0] 3)).alloc (.cells #[.int .i64 0] 3)) (w.heap.size + 3) (w.heap.size + 1) (w.heap.size + 2) w.heap.size 0 0 [] := ⟨LH, LC, ⟨_, LO, World.ownsRow_nil _ _ _ _⟩, by omega, by omega, by omega, by omega, by omega, by omega⟩
  have HPT : Hid (Calls Tryd.prog 27 #[.int .i64 3, .int .i64 3, .pointer (some ⟨w.heap.size + 1, 0, none⟩), .pointer (some ⟨w.heap.size + 2, 0, none⟩), .pointer (some ⟨w.heap.size, 0, none⟩)] (((w.alloc (.cells #[.slice none 0 0] 34)).alloc (.cells #[.int .i64 0] 3)).alloc (.cells #[.int .i64 0] 3)) fun e w' => e = .returned (.tuple #[]) ∧ PutAt w' (w.heap.size + 3) (w.heap.size + 1) (w.heap.size + 2) w.heap.size 3 3 [] ∧ w.heap.size + 3 ≤ w'.heap.size ∧ Below w.heap.size (((w.alloc (.cells #[.slice none 0 0] 34)).alloc (.cells #[.int .i64 0] 3)).alloc (.cells #[.int .i64 0] 3)) w') := put_p (w.heap.size + 3) (w.heap.size + 1) (w.heap.size + 2) w.heap.size 0 0 3 3 [] (by decide) (by decide) (by decide) (by decide) (by decide) _ (by rw [z3]; omega) P0 w.heap.size (by omega) (by omega) (by omega)
  have e2 : w.heap.size + 1 + 1 = w.heap.size + 2 := rfl
  clear LO LH LC P0 z1 z2 z3
  go_enter Tryd.func16, Tryd.ntmps16
  go_wp2_with fail
  refine HPT.out.mono ?_
  rintro e w1 ⟨rfl, P1, B1, N1⟩
  have N1' := BW.trans N1
  clear HPT BW N1
  go_wp2_with fail
  refine (newPl_k w1).mono ?_
  rintro e w2 ⟨gp, gb, R, Q, rfl, hp, hb, p1, p2, b2⟩
  have P2 := P1.below b2
  have B2 : w.heap.size + 3 ≤ w2.heap.size := Nat.le_trans B1 b2.size
  have N2 : Below w.heap.size w w2 := N1'.trans (b2.mono (by omega))
  have gB : w.heap.size + 3 ≤ gb := by omega
  have nbp : gb ≠ gp := fun e => by
    subst e
    have := hb.symm.trans hp
    cases this
  clear P1 B1 N1' b2 p1 p2
  go_wp2
  go_loopw [8, 19] (fun x i wr => (i = .int .i64 0 ∧ x = .int .i64 0 ∧ PutAt wr (w.heap.size + 3) (w.heap.size + 1) (w.heap.size + 2) w.heap.size 3 3 [] ∧ Lies wr gp 97 (plC R Q gb) ∧ Lies wr gb 21 #[.int .i32 0] ∧ w.heap.size + 3 ≤ wr.heap.size ∧ Below w.heap.size w wr) ∨ (i = .int .i64 1 ∧ PutAt wr (w.heap.size + 3) (w.heap.size + 1) (w.heap.size + 2) w.heap.size 4 3 [75] ∧ w.heap.size + 3 ≤ wr.heap.size ∧ Below w.heap.size w wr)) (fun _ i _ => 1 - (intOf i).toNat)
  case atStart => exact .inl ⟨rfl, rfl, P2, hp, hb, B2, N2⟩
  case round =>
    clear P2 hp hb B2 N2
    obtain ⟨rfl, rfl, hP, hp, hb, hB, hN⟩ | ⟨rfl, hP, hB, hN⟩ := hrel
    · have hp2 := hp.other (b := gb) (i := 0) (.int .i32 (-32769)) nbp
      have hb2 := hb.set (i := 0) (.int .i32 (-32769))
      have hP2 := PutAt.other (.int .i32 (-32769)) hP hb gB
      have hB2 : w.heap.size + 3 ≤ (wr.setCell ⟨gb, 0, none⟩ (.int .i32 (-32769))).heap.size := by simp; exact hB
      have hN2 := hN.setCell (p := ⟨gb, 0, none⟩) (by show w.heap.size ≤ gb; omega) (.int .i32 (-32769))
      have HNO := note_k gp gb R Q wr hp hb
      have HBE : Hid (Calls Tryd.prog 30 #[.pointer (some ⟨gp, 0, none⟩), .int .i64 0] (wr.setCell ⟨gb, 0, none⟩ (.int .i32 (-32769))) fun e w' => e = .returned (.tuple #[.int .i64 0, .int .i64 0]) ∧ w' = wr.setCell ⟨gb, 0, none⟩ (.int .i32 (-32769))) := best_k gp gb R Q _ hp2 hb2
      have HLI : Hid (Calls Tryd.prog 32 #[putF (w.heap.size + 1) (w.heap.size + 2) w.heap.size, .int .i64 97] (wr.setCell ⟨gb, 0, none⟩ (.int .i32 (-32769))) fun e w' => e = .returned (.tuple #[]) ∧ PutAt w' (w.heap.size + 3) (w.heap.size + 1) (w.heap.size + 2) w.heap.size 4 3 [75] ∧ w.heap.size + 3 ≤ w'.heap.size ∧ Below w.heap.size (wr.setCell ⟨gb, 0, none⟩ (.int .i32 (-32769))) w') := lit_a _ _ _ _ _ hB2 hP2 w.heap.size (by omega) (by omega) (by omega)
      have w97 : Go.RowKit.wrap64 (((⟨#[97]⟩ : ByteArray)[0]'(by decide)).toNat : Int) = 97 := by kernel_rfl
      clear hp hb hP hB hN hp2 hb2 hP2 hB2
      go_wp2_with (first
        | (go_at_call 29; refine HNO.mono ?_; rintro e w3 ⟨rfl, rfl⟩)
        | (go_at_call 30; refine HBE.out.mono ?_; rintro e w4 ⟨rfl, rfl⟩)
        | (go_at_call 32; (try rw [w97]); refine HLI.out.mono ?_; rintro e w5 ⟨rfl, P5, B5, N5⟩))
      exact ⟨.inr ⟨by go_num, P5, B5, hN2.trans N5⟩, by simp [intOf]⟩
    · have HLE := lit_e _ _ _ _ wr hB hP w.heap.size (by omega) (by omega) (by omega)
      go_wp2_with (first
        | (go_at_call 32; refine HLE.mono ?_; rintro e w5 ⟨rfl, P5, B5, N5⟩)
        | (go_at_call 27; refine (put_e _ _ _ _ 0 [75, 4] [75, 4, 0] 0 2 1 (by decide) (by decide) (by decide) (by decide) (by decide) (by decide) w5 B5 P5 w.heap.size (by omega) (by omega) (by omega)).mono ?_; rintro e w6 ⟨rfl, P6, B6, N6⟩; obtain ⟨v6, o6, r6⟩ := P6.o; have c6 : w6.cell? ⟨w.heap.size, 0, none⟩ = some v6 := o6.cell rfl; have hcv : (convert 34 9 v6).run Tryd.prog w6 = .ok (.string ⟨#[75, 4, 0]⟩) w6 := conv_put [75, 4, 0] _ v6 w6 r6))
      go_ret
      exact ⟨rfl, (hN.trans N5).trans N6⟩
end Go.Proofs.YtcoinfancoeepabDoor
