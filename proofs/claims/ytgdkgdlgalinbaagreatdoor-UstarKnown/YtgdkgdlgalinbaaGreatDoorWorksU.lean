/- What each statement of layer 5 asks besides. -/
import Derived.Test.YtgdkgdlgalinbaaGreatDoorDecU
import Derived.Test.YtgdkgdlgalinbaaGreatDoorBackN
import Derived.Test.YtgdkgdlgalinbaaGreatDoorShP
import Derived.Test.YtgdkgdlgalinbaaGreatDoorPlain
import Derived.Test.YtgdkgdlgalinbaaGreatDoorEqU
namespace Go.Proofs.YtgdkgdlgalinbaaGreatDoor
open Go Go.RowKit

def hA : Hd := ⟨⟨#[97]⟩, 420, 0, 0, 0, 0, 48, ⟨#[]⟩, ⟨#[]⟩, ⟨#[]⟩, 0, 0⟩
def hB : Hd := ⟨⟨#[97]⟩, -1, 0, 0, 0, 0, 0, ⟨#[]⟩, ⟨#[]⟩, ⟨#[]⟩, 0, 0⟩
theorem good_a : Good hA := ⟨by decide +kernel, by decide +kernel, by decide, by decide +kernel⟩
theorem enc_b : encP hB = (⟨#[]⟩, 1) := by
  unfold encP
  rw [if_neg (by decide +kernel), if_neg (by decide +kernel), if_neg (by decide), if_pos (by decide +kernel)]
theorem plain_v (n : Int) (h0 : 0 ≤ n) (h1 : n ≤ 32) (w : World) (hg : ErrType w) : Calls Tryz.prog 9 #[errV n, .int .i64 n] w fun e w' => e = .returned (.bool true) ∧ Below w.heap.size w w' := by
  by_cases h : n = 0
  · subst h; exact plain_nil w
  · rw [errV_some n h]; exact plain_some n (by omega) h1 w hg
/-- A whole row is loaded in a guarded place. -/
theorem wpList_load_row_g {P : Program} {ops : Array Oper} {rest : List Oper} {o : Oper} {a : Act} {w : World} {Q : Exit → Act → World → Prop} (hw : Region.wanted o (yielded ops a.tmps) = true) (ty : TypeId) (x : Operand) (ho : o.op = .load ty x)
    (g : Nat) (hx : a.eval x = .pointer (some ⟨g, 0, none⟩)) (t : TypeId) (cs : Array Value) (fr : Nat × Nat) (d : TypeDesc) (hg : w.heap[g]? = some (.cells cs t fr))
    (hu : P.underlying ty = some d) (hd : (match d with | .struct _ | .array _ _ => true | _ => false) = true) (hi : (P.info? ty).map (·.size) = some cs.size)
    (h : wpList P ops Q rest (a.put o.dst (.agg cs)) w) : wpList P ops Q (o :: rest) a w := by
  unfold wpList
  rw [if_pos hw]
  exact .inl (wp_load_row ty x ho g hx t cs fr d hg hu hd hi h)
set_option maxRecDepth 100000 in
set_option maxHeartbeats 1000000 in
theorem works_p (w : World) (hE : Env w) (hg : ErrType w) : Calls Tryz.prog 38 #[] w fun e w' => e = .returned (.bool true) ∧ Below w.heap.size w w' := by
  have LA := Lies.new w 28 (hcs hA)
  have BA := (Below.refl _ w).alloc (Nat.le_refl _) (.cells (hcs hA) 28)
  have eA := good_a.enc
  have lA := enc_length good_a
  have dA := dec_enc good_a
  have hsz : (bs (encL hA)).size = 512 := by rw [size_bs, lA]
  have HE1 : Hid (∀ W, Env W → Calls Tryz.prog 7 #[.agg (hcs hA)] W fun e w' => e = .returned (.tuple #[.string (bs (encL hA)), .nilIface]) ∧ Below W.heap.size W w') := fun W hW => by
    have := encode_p shelf5 hA W (by decide) hW
    rw [eA] at this; exact this
  have HE2 : Hid (∀ W, Env W → Calls Tryz.prog 7 #[.agg (hcs hB)] W fun e w' => e = .returned (.tuple #[.string ⟨#[]⟩, .iface 46 (.int .i64 1)]) ∧ Below W.heap.size W w') := fun W hW => by
    have := encode_p shelf5 hB W (by decide) hW
    rw [enc_b] at this; exact this
  have HD : Hid (∀ W, Env W → Calls Tryz.prog 11 #[.string (bs (encL hA))] W fun e w' => e = .returned (.tuple #[.agg (hcs hA), .nilIface]) ∧ Below W.heap.size W w') := fun W hW => by
    have := decode_p shelf5 (bs (encL hA)) W hW
    rw [dA] at this; exact this
  clear eA dA lA
  generalize bs (encL hA) = R at *
  go_enter Tryz.func38, Tryz.ntmps38
  have HLA : Hid ((#[.string ⟨#[97]⟩, .int .i64 420, .int .i64 0, .int .i64 0, .int .i64 0, .int .i64 0, .int .u8 48, .string ⟨#[]⟩, .string ⟨#[]⟩, .string ⟨#[]⟩, .int .i64 0, .int .i64 0] : Array Value) = hcs hA) := rfl
  have HLB : Hid ((#[.string ⟨#[97]⟩, .int .i64 (-1), .int .i64 0, .int .i64 0, .int .i64 0, .int .i64 0, .int .u8 0, .string ⟨#[]⟩, .string ⟨#[]⟩, .string ⟨#[]⟩, .int .i64 0, .int .i64 0] : Array Value) = hcs hB) := rfl
  have HLZ : Hid ((#[.string ⟨#[]⟩, .int .i64 0, .int .i64 0, .int .i64 0, .int .i64 0, .int .i64 0, .int .u8 0, .string ⟨#[]⟩, .string ⟨#[]⟩, .string ⟨#[]⟩, .int .i64 0, .int .i64 0] : Array Value) = hcs zeroHd) := rfl
  have heq := fun W => eq_hd hA hA W
  rw [(eqHd_iff hA hA).2 rfl] at heq
  have EA := hE.below BA
  have GA := hg.below BA
  go_wp2_with fail
  rw [HLA.out]
  generalize w.alloc (.cells (hcs hA) 28) = W0 at *
  have hb0 := LA.lt
  refine (HE1.out W0 EA).mono ?_
  rintro e w1 ⟨rfl, b1⟩
  have L1 := LA.below b1
  have B1 := below_join BA b1
  have E1 := EA.below b1
  have G1 := GA.below b1
  clear LA BA EA GA b1 HE1
  have hi : (Tryz.prog.info? 28).map (·.size) = some (hcs hA).size := info_hd
  have ho : (hcs hA).all (·.oneCell') = true := hcs_one hA
  have hzs : (hcs zeroHd).size = (hcs hA).size := rfl
  generalize hcs hA = CA at *
  go_wp2_with fail
  refine (HD.out w1 E1).mono ?_
  rintro e w2 ⟨rfl, b2⟩
  have L2 := L1.below b2
  have B2 := below_join B1 b2
  have E2 := E1.below b2
  have G2 := G1.below b2
  clear L1 B1 E1 G1 b2 HD
  have hb2 : w.heap.size < w2.heap.size := L2.lt
  have L3 : Lies ((w2.alloc (.cells (hcs zeroHd) 28)).setRow w2.heap.size CA) w.heap.size 28 CA := (L2.alloc _).otherRow _ (by omega)
  have M3 : Lies ((w2.alloc (.cells (hcs zeroHd) 28)).setRow w2.heap.size CA) w2.heap.size 28 CA := (Lies.new w2 _ _).row _
  have b3 : Below w2.heap.size w2 ((w2.alloc (.cells (hcs zeroHd) 28)).setRow w2.heap.size CA) := below_setRow ((Below.refl _ w2).alloc (Nat.le_refl _) _) (Nat.le_refl _) _
  have B3 := below_join B2 b3
  have E3 := E2.below b3
  have G3 := G2.below b3
  clear b3 B2 E2 G2 L2
  rw [← HLZ.out] at L3 M3 B3 E3 G3
  go_wp2_with (refine wpList_store_row rfl 28 (.tmp 4) (.tmp 17) rfl w2.heap.size CA rfl rfl 28 (hcs zeroHd) (Lies.new w2 _ _) hi hzs ho ?_)
  generalize (w2.alloc (.cells _ 28)).setRow w2.heap.size CA = W3 at *
  generalize w2.heap.size = b2 at *
  rw [HLB.out]
  refine (HE2.out W3 E3).mono ?_
  rintro e w4 ⟨rfl, b4⟩
  have L4 := L3.below b4
  have M4 := M3.below b4
  have B4 := below_join B3 b4
  have G4 := G3.below b4
  clear L3 M3 B3 E3 G3 b4 HE2
  go_wp2_with (first
    | (refine wpList_load_row_g rfl 28 (.tmp 4) rfl b2 rfl 28 CA (0, 0) _ M4 Tryz.underlying28 rfl hi ?_)
    | (refine wpList_load_row_g rfl 28 (.tmp 1) rfl w.heap.size rfl 28 CA (0, 0) _ L4 Tryz.underlying28 rfl hi ?_)
    | (go_at_call 9; refine (plain_some 1 (by decide) (by decide) _ G4).mono ?_; rintro e w5 ⟨rfl, b5⟩))
  go_ret
  exact ⟨rfl, below_join B4 b5⟩
end Go.Proofs.YtgdkgdlgalinbaaGreatDoor
