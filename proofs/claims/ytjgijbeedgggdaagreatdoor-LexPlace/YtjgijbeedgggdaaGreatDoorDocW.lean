/- The program's document. -/
import Derived.Test.YtjgijbeedgggdaaGreatDoorOpnW
import Derived.Test.YtjgijbeedgggdaaGreatDoorMkW
import Derived.Test.YtjgijbeedgggdaaGreatDoorJnM
import Derived.Deep.RegionHeld3
import Derived.Deep.DeepCutAuto
namespace Go.Proofs.YtjgijbeedgggdaaGreatDoor
open Go Go.RowKit

def dcC (nm : ByteArray) (raw : Bool) (line : Nat) (t : ByteArray) : Array Value := #[.string nm, .bool raw, .int .i64 line, .string t]
theorem dc_info : (Tryz.prog.info? 133).map (·.size) = some 4 := by kernel_rfl
theorem dc_one (nm : ByteArray) (a : Bool) (l : Nat) (t : ByteArray) : (dcC nm a l t).all (·.oneCell') = true := by simp [dcC, Value.oneCell']
/-- What document holds in memory. -/
structure DW (w : World) (B gR gT gD gO : Nat) (s : ByteArray) (q c : Nat) (nm : ByteArray) (raw tabs : Bool) (ln : Nat) (T : Ln) (W : World) : Prop where
  oth : Oth B w W
  rd : Rd W B s q c
  res : Lies W gR 133 (dcC ⟨#[]⟩ false 0 ⟨#[]⟩)
  bld : Bld gT gT T W
  dn : Lies W gD 133 (dcC nm raw ln ⟨#[]⟩)
  op : Lies W gO 304 (opC nm raw tabs)
structure DB (w : World) (B gR gT gD gO : Nat) : Prop where
  b : B < w.heap.size
  r : w.heap.size ≤ gR
  t : w.heap.size ≤ gT
  d : w.heap.size ≤ gD
  o : w.heap.size ≤ gO
  rt : gR ≠ gT
  rd : gR ≠ gD
  td : gT ≠ gD
  tO : gT ≠ gO
variable {w W W' : World} {B gR gT gD gO q c ln : Nat} {s nm : ByteArray} {raw tabs : Bool} {T : Ln}
theorem DW.below (h : DW w B gR gT gD gO s q c nm raw tabs ln T W) (hb : Below W.heap.size W W') : DW w B gR gT gD gO s q c nm raw tabs ln T W' :=
  ⟨h.oth.on hb, h.rd.below hb, h.res.below hb, bld_below h.bld hb, h.dn.below hb, h.op.below hb⟩
theorem DW.reader (h : DW w B gR gT gD gO s q c nm raw tabs ln T W) (hB : DB w B gR gT gD gO) (ho : Oth B W W') {q2 c2 : Nat} (hr : Rd W' B s q2 c2) : DW w B gR gT gD gO s q2 c2 nm raw tabs ln T W' := by
  have := hB.b; have := hB.r; have := hB.t; have := hB.d; have := hB.o
  exact ⟨h.oth.trans ho, hr, ho.lies h.res (by omega), bld_oth h.bld ho (by omega), ho.lies h.dn (by omega), ho.lies h.op (by omega)⟩
theorem DW.keeps (h : DW w B gR gT gD gO s q c nm raw tabs ln T W) (hB : DB w B gR gT gD gO) (hl : Below gT W W') (hk : Lib.OthersKept 5 (some gT) W W') : Oth B w W' ∧ Rd W' B s q c ∧ Lies W' gR 133 (dcC ⟨#[]⟩ false 0 ⟨#[]⟩) ∧ Lies W' gD 133 (dcC nm raw ln ⟨#[]⟩) ∧ Lies W' gO 304 (opC nm raw tabs) := by
  have := hB.b; have := hB.t
  exact ⟨⟨hl.os.trans h.oth.os, hl.tape.trans h.oth.tape, hl.output.trans h.oth.output, Nat.le_trans h.oth.size hl.size, fun k h1 h2 => (hl.block k (by omega)).trans (h.oth.block k h1 h2)⟩, kept_lies hk h.rd (by omega) (by decide), kept_lies hk h.res hB.rt (by decide), kept_lies hk h.dn (fun e => hB.td e.symm) (by decide), kept_lies hk h.op (fun e => hB.tO e.symm) (by decide)⟩
theorem DW.wrote (h : DW w B gR gT gD gO s q c nm raw tabs ln T W) (hB : DB w B gR gT gD gO) {T2 : Ln} (hb : Bld gT gT T2 W') (hl : Below gT W W') (hk : Lib.OthersKept 5 (some gT) W W') : DW w B gR gT gD gO s q c nm raw tabs ln T2 W' := by
  obtain ⟨h1, h2, h3, h4, h5⟩ := h.keeps hB hl hk
  exact ⟨h1, h2, h3, hb, h4, h5⟩
theorem DW.line (h : DW w B gR gT gD gO s q c nm raw tabs ln T W) {b i : Nat} (hb : ∃ cur, Lies W b 155 cur) (hw : w.heap.size ≤ b) (v : Value) : DW w B gR gT gD gO s q c nm raw tabs ln T (W.setCell ⟨b, i, none⟩ v) := by
  obtain ⟨cur, hb⟩ := hb
  have hT : ∀ (g : Nat) (cu : Array Value) (e : TypeId), e ≠ 155 → W.heap[g]? = some (Obj.cells cu e (0, 0)) → (W.setCell ⟨b, i, none⟩ v).heap[g]? = W.heap[g]? := fun g cu e he hg => Below.heap_setCell W ⟨b, i, none⟩ v g (fun eq => by
    have eq2 : g = b := eq
    subst eq2
    unfold Lies at hb
    rw [hg] at hb
    injection hb with h3
    injection h3 with _ h4 _
    exact he h4)
  have hbld : Bld gT gT T (W.setCell ⟨b, i, none⟩ v) := by
    have key : ∀ p, Lib.BuilderAt 258 5 gT gT p (Lib.byteCells T) W → Lib.BuilderAt 258 5 gT gT p (Lib.byteCells T) (W.setCell ⟨b, i, none⟩ v) := by
      rintro p ⟨h1, v, h2, h3, h4⟩
      exact ⟨h1, v, (hT gT _ _ (by decide) h2).trans h2, own_keep h3 (fun g cur hg hgg _ => hT g cur _ (by decide) hgg), h4⟩
    rcases h.bld with h | h
    · exact .inl (key _ h)
    · exact .inr (key _ h)
  exact ⟨⟨h.oth.os, h.oth.tape, h.oth.output, by simpa using h.oth.size, fun k h1 h2 => (Below.heap_setCell W ⟨b, i, none⟩ v k (by simp; omega)).trans (h.oth.block k h1 h2)⟩, (hT B _ _ (by decide) h.rd).trans h.rd, (hT gR _ _ (by decide) h.res).trans h.res, hbld, (hT gD _ _ (by decide) h.dn).trans h.dn, (hT gO _ _ (by decide) h.op).trans h.op⟩
theorem trimL9_p (x : Ln) (w : World) : Calls Tryz.prog 138 #[.string (bs x), .string ⟨#[9]⟩] w fun e w' => e = .returned (.string (bs (x.dropWhile (· == 9)))) ∧ w' = w := by
  have := Tryz.strings_TrimLeft_one (bs x) 9 (by decide) w
  rwa [show (bs x).data.toList = x from un_bs x] at this
theorem bare_len (tabs : Bool) (x : Ln) : (bareL tabs x).length ≤ x.length := by
  unfold bareL; split
  · exact (List.dropWhile_sublist _).length_le
  · exact Nat.le_refl _
/-- What document answers. -/
def DocP (raw : Ln) (s : ByteArray) (B c : Nat) (w : World) (e : Ending) (w' : World) : Prop := Oth B w w' ∧ (if nameL (openL raw).1 = true then (match bodyG (openL raw).1 (openL raw).2.2 ((cutL (un s)).drop c) c with
    | none => e = .returned (.tuple #[.agg (dcC ⟨#[]⟩ false 0 ⟨#[]⟩), .bool false])
    | some (t, j) => e = .returned (.tuple #[.agg (dcC (bs (openL raw).1) (openL raw).2.1 (c + 1) (bs t)), .bool true]) ∧ ∃ q, Rd w' B s q j ∧ Stands (un s) q j ∧ j ≤ (cutL (un s)).length)
  else e = .returned (.tuple #[.agg (dcC ⟨#[]⟩ false 0 ⟨#[]⟩), .bool false]))
set_option maxRecDepth 100000 in
set_option maxHeartbeats 800000 in
theorem document_p (raw : Ln) (h2 : raw.take 2 = [60, 60]) (hrl : raw.length ≤ 1099511627776) (B : Nat) (s : ByteArray) (p c : Nat) (w : World) (h : Rd w B s p c) (hA : Stands (un s) p c) (hs : s.size ≤ 1099511627776) (hcl : (cutL (un s)).length ≤ 1099511627776) (hc : c ≤ (cutL (un s)).length) :
    Calls Tryz.prog 155 #[ptr B, .string (bs raw)] w (DocP raw s B c w) := by
  have hBw : B < w.heap.size := h.lt
  have hO := fun W => readOpening_p raw h2 W hrl
  have HDP : Hid (DocP raw s B c w = DocP raw s B c w) := rfl
  have L0 := Lies.new w 133 #[.string ⟨#[]⟩, .bool false, .int .i64 0, .string ⟨#[]⟩]
  have r0 := Lies.alloc h (.cells #[.string ⟨#[]⟩, .bool false, .int .i64 0, .string ⟨#[]⟩] 133)
  have o0 := (Oth.refl B w).alloc (.cells #[.string ⟨#[]⟩, .bool false, .int .i64 0, .string ⟨#[]⟩] 133)
  generalize hw0 : w.alloc (.cells #[.string ⟨#[]⟩, .bool false, .int .i64 0, .string ⟨#[]⟩] 133) = w0 at *
  cases hN : nameL (openL raw).1 with
  | false =>
    rw [hN] at hO
    go_enter Tryz.func155, Tryz.ntmps155
    go_wp2_with fail
    refine (hO _).mono ?_
    rintro e w1 ⟨rfl, b1⟩
    clear hw0
    have LR := (L0.below b1).alloc (.cells #[.string ⟨#[]⟩, .bool false, .bool false] 304)
    have LR2 := lies_setRow' LR (by have := (L0.below b1).lt; omega : w.heap.size ≠ w1.heap.size) (opC (bs (openL raw).1) (openL raw).2.1 (openL raw).2.2)
    have LO := Lies.new w1 304 #[.string ⟨#[]⟩, .bool false, .bool false]
    have o2 := ((o0.on b1).alloc (.cells #[.string ⟨#[]⟩, .bool false, .bool false] 304)).row (o0.on b1).size (opC (bs (openL raw).1) (openL raw).2.1 (openL raw).2.2)
    go_wp2_with (first
      | (refine wpList_store_row rfl 304 (.tmp 6) (.tmp 15) rfl w1.heap.size (opC (bs (openL raw).1) (openL raw).2.1 (openL raw).2.2) rfl rfl 304 _ LO op_info rfl (op_one _ _ _) ?_)
      | (refine wpList_store_row rfl 133 (.tmp 4) (.tmp 19) rfl w.heap.size (dcC ⟨#[]⟩ false 0 ⟨#[]⟩) rfl rfl 133 _ LR2 dc_info rfl (dc_one _ _ _ _) ?_))
    refine bodyPost_ret (results_row_tmp rfl _ _ w.heap.size 133 (dcC ⟨#[]⟩ false 0 ⟨#[]⟩) (0, 0) _ rfl (lies_setRow LR2 _) Tryz.underlying133 rfl dc_info) rfl ?_
    exact ⟨o2.row (Nat.le_refl _) _, by rw [hN]; rfl⟩
  | true =>
    rw [hN] at hO
    go_enter Tryz.func155, Tryz.ntmps155
    go_wp2_with fail
    refine (hO _).mono ?_
    rintro e w1 ⟨rfl, b1⟩
    clear hw0 hO
    have HB : Hid (∀ e w', Oth B w w' → (match bodyG (openL raw).1 (openL raw).2.2 ((cutL (un s)).drop c) c with
      | none => e = .returned (.tuple #[.agg (dcC ⟨#[]⟩ false 0 ⟨#[]⟩), .bool false])
      | some (t, j) => e = .returned (.tuple #[.agg (dcC (bs (openL raw).1) (openL raw).2.1 (c + 1) (bs t)), .bool true]) ∧ ∃ q, Rd w' B s q j ∧ Stands (un s) q j ∧ j ≤ (cutL (un s)).length) → DocP raw s B c w e w') := fun e w' h1 h2 => ⟨h1, by rw [hN]; exact h2⟩
    generalize DocP raw s B c w = DP at *
    generalize (openL raw).1 = N at *
    generalize (openL raw).2.1 = R at *
    generalize (openL raw).2.2 = tb at *
    have LR1 := L0.below b1
    have hne1 : w.heap.size ≠ w1.heap.size := by have := LR1.lt; omega
    have LO := Lies.new w1 304 #[.string ⟨#[]⟩, .bool false, .bool false]
    have LO2 := lies_setRow LO (opC (bs N) R tb)
    have LR2 := lies_setRow' (LR1.alloc (.cells #[.string ⟨#[]⟩, .bool false, .bool false] 304)) hne1 (opC (bs N) R tb)
    have r1 := Rd.below r0 b1
    have o1 := o0.on b1
    have r2 := lies_setRow' (Lies.alloc r1 (.cells #[.string ⟨#[]⟩, .bool false, .bool false] 304)) (by have := o1.size; omega : B ≠ w1.heap.size) (opC (bs N) R tb)
    have o2 := (o1.alloc (.cells #[.string ⟨#[]⟩, .bool false, .bool false] 304)).row o1.size (opC (bs N) R tb)
    have hs2 : w1.heap.size < ((w1.alloc (.cells #[.string ⟨#[]⟩, .bool false, .bool false] 304)).setRow w1.heap.size (opC (bs N) R tb)).heap.size := LO2.lt
    generalize hw2 : (w1.alloc (.cells #[.string ⟨#[]⟩, .bool false, .bool false] 304)).setRow w1.heap.size (opC (bs N) R tb) = w2 at *
    have k0 : w2.cell? ⟨w1.heap.size, 0, none⟩ = some (.string (bs N)) := LO2.cell (i := 0) rfl
    have k1 : w2.cell? ⟨w1.heap.size, 1, none⟩ = some (.bool R) := LO2.cell (i := 1) rfl
    have k2 : w2.cell? ⟨B, 2, none⟩ = some (.int .i64 c) := Lies.cell r2 (i := 2) rfl
    have hwc : IntKind.i64.wrap ((c : Int) + 1) = (c : Int) + 1 := wrap_small _ (by omega) (by omega)
    go_wp2_with (first
      | (refine wpList_store_row rfl 304 (.tmp 6) (.tmp 15) rfl w1.heap.size (opC (bs N) R tb) rfl rfl 304 _ LO op_info rfl (op_one _ _ _) ?_; rw [hw2]))
    have bd : Below w2.heap.size w2 w2.drew := (Below.refl _ _).drew
    have q0 := (LO2.below bd).cell (i := 0) rfl
    go_region_held3 (fun W => W.cell? ⟨w1.heap.size, 0, none⟩ = some (.string (bs N)) ∧ W.cell? ⟨w1.heap.size, 1, none⟩ = some (.bool R) ∧ W.cell? ⟨B, 2, none⟩ = some (.int .i64 c))
      (first | exact ⟨(LO2.below bd).cell (i := 0) rfl, (LO2.below bd).cell (i := 1) rfl, Lies.cell (Lies.below r2 bd) (i := 2) rfl⟩ | exact ⟨((LO2.below bd).alloc _).cell (i := 0) rfl, ((LO2.below bd).alloc _).cell (i := 1) rfl, Lies.cell (Lies.alloc (Lies.below r2 bd) _) (i := 2) rfl⟩ | go_keep)
      (fail)
    have LO3 := (LO2.alloc (.cells #[.string (bs N), .bool R, .int .i64 ((c : Int) + 1), .string ⟨#[]⟩] 133)).below (Below.refl _ _).drew
    have LR3 := (LR2.alloc (.cells #[.string (bs N), .bool R, .int .i64 ((c : Int) + 1), .string ⟨#[]⟩] 133)).below (Below.refl _ _).drew
    have r3 := (Lies.alloc r2 (.cells #[.string (bs N), .bool R, .int .i64 ((c : Int) + 1), .string ⟨#[]⟩] 133)).below (Below.refl _ _).drew
    have o3 := (o2.alloc (.cells #[.string (bs N), .bool R, .int .i64 ((c : Int) + 1), .string ⟨#[]⟩] 133)).on (Below.refl _ _).drew
    have LD3 := (Lies.new w2 133 #[.string (bs N), .bool R, .int .i64 ((c : Int) + 1), .string ⟨#[]⟩]).below (Below.refl _ _).drew
    clear q0 k0 k1 k2 bd
    generalize hw3 : World.drew (w2.alloc (.cells #[.string (bs N), .bool R, .int .i64 ((c : Int) + 1), .string ⟨#[]⟩] 133)) = w3 at *
    have B4 : Below w3.heap.size w3 (w3.alloc (.cells #[.pointer none, .slice none 0 0] 258)) := (Below.refl _ _).alloc (Nat.le_refl _) _
    have bl4 := bld_new w3 w3.heap.size rfl
    have hDB : DB w B w.heap.size w3.heap.size w2.heap.size w1.heap.size := ⟨hBw, Nat.le_refl _, o3.size, by have := o2.size; omega, by have := o1.size; omega, by have := LR3.lt; omega, by have := LR2.lt; omega, by have := LD3.lt; omega, by have := LO3.lt; omega⟩
    have hW0 : DW w B w.heap.size w3.heap.size w2.heap.size w1.heap.size s p c (bs N) R tb (c + 1) [] (w3.alloc (.cells #[.pointer none, .slice none 0 0] 258)) := ⟨o3.on B4, Rd.below r3 B4, LR3.below B4, bl4, LD3.below B4, LO3.below B4⟩
    clear LO3 LR3 r3 o3 LD3 B4 bl4 LO2 LR2 r2 o2 hs2 LO LR1 r1 o1 L0 r0 o0 b1 hw2
    go_wp2
    generalize w3.heap.size = gT at *
    generalize w2.heap.size = gD at *
    generalize w1.heap.size = gO at *
    have hBD : B ≠ gD := by have := hDB.d; omega
    have hBR : B ≠ w.heap.size := by omega
    have hsum0 : ((cutL (un s)).drop c).flatten.length + ((cutL (un s)).length - c) ≤ s.size + (cutL (un s)).length := by
      have h2 := drop_flat (cutL (un s)) c
      have h3 := cut_sum (un s)
      rw [un_length] at h3
      omega
    go_loopw [] (fun wr => ∃ j T q, Stands (un s) q j ∧ DW w B w.heap.size gT gD gO s q j (bs N) R tb (c + 1) T wr ∧ c ≤ j ∧ j ≤ (cutL (un s)).length ∧ T.length + ((cutL (un s)).drop j).flatten.length + ((cutL (un s)).length - j) ≤ s.size + (cutL (un s)).length ∧ bodyG N tb ((cutL (un s)).drop c) c = (bodyG N tb ((cutL (un s)).drop j) j).map (fun p => (T ++ p.1, p.2))) (fun wr => (cutL (un s)).length - (intOf ((wr.cell? ⟨B, 2, none⟩).getD undef)).toNat)
    case atStart => exact ⟨c, [], p, hA, hW0, Nat.le_refl _, hc, by simpa using hsum0, by simp⟩
    case round =>
      obtain ⟨j, T, q, hA1, hW1, hcj, hjl, hsum, hI⟩ := hrel
      cases hx : (cutL (un s))[j]? with
      | none =>
        go_wp2_with fail
        refine (take_no B s q j _ hW1.rd hA1 hx).mono ?_
        rintro e v1 ⟨rfl, b1⟩
        have hW2 := hW1.below b1
        have L5 := Lies.new v1 155 #[.int .i64 0, .string ⟨#[]⟩]
        have hW3 := hW2.below (below_setRow' ((Below.refl _ v1).alloc (Nat.le_refl _) (.cells #[.int .i64 0, .string ⟨#[]⟩] 155)) (Nat.le_refl _) (flC 0 ⟨#[]⟩))
        have hbody : bodyG N tb ((cutL (un s)).drop c) c = none := by rw [hI, List.drop_of_length_le (List.getElem?_eq_none_iff.1 hx)]; rfl
        go_wp2_with (first
          | (refine wpList_store_row rfl 155 (.tmp 10) (.tmp 33) rfl v1.heap.size (flC 0 ⟨#[]⟩) rfl rfl 155 _ L5 fl_info rfl (fl_one _ _) ?_)
          | (refine wpList_store_row rfl 133 (.tmp 4) (.tmp 37) rfl w.heap.size (dcC ⟨#[]⟩ false 0 ⟨#[]⟩) rfl rfl 133 _ hW3.res dc_info rfl (dc_one _ _ _ _) ?_))
        refine bodyPost_ret (results_row_tmp rfl _ _ w.heap.size 133 (dcC ⟨#[]⟩ false 0 ⟨#[]⟩) (0, 0) _ rfl (lies_setRow hW3.res _) Tryz.underlying133 rfl dc_info) rfl ?_
        refine HB.out _ _ (hW3.oth.row (Nat.le_refl _) _) ?_
        rw [hbody]; rfl
      | some x =>
        have hxs := cut_len (un s) x (List.mem_of_getElem? hx)
        rw [un_length] at hxs
        have hjl2 := (List.getElem?_eq_some_iff.1 hx).1
        have hsum2 : ((cutL (un s)).drop j).flatten.length = x.length + ((cutL (un s)).drop (j + 1)).flatten.length := by rw [drop_consT hx, List.flatten_cons, List.length_append]
        go_wp2_with fail
        refine (take_at B s q j _ hW1.rd hA1 x hx hs (by omega)).mono ?_
        rintro e v1 ⟨rfl, q2, hr2, hA2, ho2⟩
        have hW2 := hW1.reader hDB ho2 hr2
        have hDBv : w.heap.size ≤ v1.heap.size := hW2.oth.size
        cases tb with
        | true =>
          obtain ⟨Y, hY0⟩ : ∃ Y, x.dropWhile (· == 9) = Y := ⟨_, rfl⟩
          have hTr := fun W => trimL9_p x W
          rw [hY0] at hTr
          have hyl : Y.length ≤ x.length := by rw [← hY0]; exact (List.dropWhile_sublist _).length_le
          have hY : Hid (bareL true x = Y) := by unfold Hid bareL; rw [if_pos rfl]; exact hY0
          clear hY0
          have L5 := Lies.new v1 155 #[.int .i64 0, .string ⟨#[]⟩]
          have hW3 := hW2.below (below_setRow' ((Below.refl _ v1).alloc (Nat.le_refl _) (.cells #[.int .i64 0, .string ⟨#[]⟩] 155)) (Nat.le_refl _) (flC (j + 1) (bs x)))
          have L6 := lies_setRow L5 (flC (j + 1) (bs x))
          generalize hv2 : (v1.alloc (.cells #[.int .i64 0, .string ⟨#[]⟩] 155)).setRow v1.heap.size (flC (j + 1) (bs x)) = v2 at *
          have t2 : v2.cell? ⟨gO, 2, none⟩ = some (.bool true) := hW3.op.cell (i := 2) rfl
          have x1 : v2.cell? ⟨v1.heap.size, 1, none⟩ = some (.string (bs x)) := L6.cell (i := 1) rfl
          have x2 := L6.frozen 1
          have hW4 := hW3.line (b := v1.heap.size) (i := 1) ⟨_, L6⟩ hDBv (.string (bs Y))
          have L7 := Lies.set (i := 1) L6 (.string (bs Y))
          generalize hv3 : v2.setCell ⟨v1.heap.size, 1, none⟩ (.string (bs Y)) = v3 at *
          have y1 : v3.cell? ⟨v1.heap.size, 1, none⟩ = some (.string (bs Y)) := L7.cell (i := 1) rfl
          have y2 : v3.cell? ⟨gO, 0, none⟩ = some (.string (bs N)) := hW4.op.cell (i := 0) rfl
          by_cases heq0 : Y = N
          · have hc1 : ((bs Y).toList == (bs N).toList) = true := by rw [heq0]; simp
            have heq : Hid (Y = N) := heq0
            clear heq0
            have hbody : bodyG N true ((cutL (un s)).drop c) c = some (T, j + 1) := by rw [hI, drop_consT hx, bodyG, if_pos (by rw [hY.out]; exact heq.out)]; simp
            go_wp2_with (first
              | (refine wpList_store_row rfl 155 (.tmp 10) (.tmp 33) rfl v1.heap.size (flC (j + 1) (bs x)) rfl rfl 155 _ L5 fl_info rfl (fl_one _ _) ?_; rw [hv2])
              | (go_at_call 138; refine (hTr _).mono ?_; rintro e v9 ⟨rfl, rfl⟩))
            have hSt8 := Tryz.Builder_String_any_k gT gT _ _ (Lib.IsBuilderF.of hW4.bld) (Nat.le_of_lt (bld_lt hW4.bld))
            refine hSt8.mono ?_
            rintro e w8 ⟨rfl, _, hl8, hk8⟩
            obtain ⟨oth8, rd8, res8, dn8, _⟩ := hW4.keeps hDB hl8 hk8
            have l8 : w8.cell? ⟨gD, 3, none⟩ = some (.string ⟨#[]⟩) := dn8.cell (i := 3) rfl
            have f8 := dn8.frozen 3
            have dn9 := Lies.set (i := 3) dn8 (.string (bs T))
            have res9 := lies_set' (i := 3) res8 hDB.rd (.string (bs T))
            have rd9 := lies_set' (i := 3) rd8 hBD (.string (bs T))
            have oth9 : Oth B w (w8.setCell ⟨gD, 3, none⟩ (.string (bs T))) := ⟨oth8.os, oth8.tape, oth8.output, by simpa using oth8.size, fun k h1 h2 => (Below.heap_setCell w8 ⟨gD, 3, none⟩ _ k (by have := hDB.d; simp; omega)).trans (oth8.block k h1 h2)⟩
            go_wp2_with (first
              | (refine wpList_load_row rfl 133 (.tmp 8) rfl gD rfl 133 (dcC (bs N) R (c + 1) (bs T)) (0, 0) _ dn9 Tryz.underlying133 rfl dc_info ?_)
              | (refine wpList_store_row rfl 133 (.tmp 4) (.tmp 51) rfl w.heap.size (dcC (bs N) R (c + 1) (bs T)) rfl rfl 133 _ res9 dc_info rfl (dc_one _ _ _ _) ?_))
            refine bodyPost_ret (results_row_tmp rfl _ _ w.heap.size 133 (dcC (bs N) R (c + 1) (bs T)) (0, 0) _ rfl (lies_setRow res9 _) Tryz.underlying133 rfl dc_info) rfl ?_
            refine HB.out _ _ (oth9.row (Nat.le_refl _) _) ?_
            rw [hbody]
            exact ⟨rfl, q2, lies_setRow' rd9 hBR _, hA2, by omega⟩
          · have hc1 : ((bs Y).toList == (bs N).toList) = false := by rw [toList_un, toList_un, un_bs, un_bs]; exact beq_false_of_ne heq0
            have heq : Hid (¬ Y = N) := heq0
            clear heq0
            have hWS := wstring_p gT gT T (bs Y) v3 hW4.bld (by rw [size_bs]; omega) (Nat.le_of_lt (bld_lt hW4.bld))
            rw [un_bs] at hWS
            have hbody : bodyG N true ((cutL (un s)).drop c) c = (bodyG N true ((cutL (un s)).drop (j + 1)) (j + 1)).map (fun p => (T ++ Y ++ [10] ++ p.1, p.2)) := by
              rw [hI, drop_consT hx, bodyG, hY.out, if_neg heq.out, Option.map_map]
              congr 1; funext p; simp
            go_wp2_with (first
              | (refine wpList_store_row rfl 155 (.tmp 10) (.tmp 33) rfl v1.heap.size (flC (j + 1) (bs x)) rfl rfl 155 _ L5 fl_info rfl (fl_one _ _) ?_; rw [hv2])
              | (go_at_call 138; refine (hTr _).mono ?_; rintro e v9 ⟨rfl, rfl⟩))
            refine hWS.mono ?_
            rintro e v5 ⟨rfl, hb5, hl5, hk5⟩
            have hW5 := hW4.wrote hDB hb5 hl5 hk5
            have hWB := wbyte_p gT gT (T ++ Y) 10 v5 hW5.bld (by rw [List.length_append]; omega) (Nat.le_of_lt (bld_lt hW5.bld))
            go_wp2_with fail
            refine hWB.mono ?_
            rintro e v6 ⟨rfl, hb6, hl6, hk6⟩
            have hW6 := hW5.wrote hDB hb6 hl6 hk6
            go_wp2
            go_roundw
            case rel => exact ⟨j + 1, _, q2, hA2, hW6, by omega, by omega, by have hz := hsum; rw [hsum2] at hz; simp only [List.length_append, List.length_singleton]; omega, hbody⟩
            case measure =>
              have e1 := Lies.cell hW6.rd (i := 2) rfl
              have e2 := Lies.cell hW1.rd (i := 2) rfl
              rw [e1, e2]; simp [intOf]; omega
        | false =>
          obtain ⟨Y, hY0⟩ : ∃ Y, x = Y := ⟨_, rfl⟩
          have hyl : Y.length ≤ x.length := by rw [← hY0]; exact Nat.le_refl _
          have hY : Hid (bareL false x = Y) := by unfold Hid bareL; rw [if_neg (by decide)]; exact hY0
          subst hY0
          have L5 := Lies.new v1 155 #[.int .i64 0, .string ⟨#[]⟩]
          have hW3 := hW2.below (below_setRow' ((Below.refl _ v1).alloc (Nat.le_refl _) (.cells #[.int .i64 0, .string ⟨#[]⟩] 155)) (Nat.le_refl _) (flC (j + 1) (bs x)))
          have L6 := lies_setRow L5 (flC (j + 1) (bs x))
          generalize hv2 : (v1.alloc (.cells #[.int .i64 0, .string ⟨#[]⟩] 155)).setRow v1.heap.size (flC (j + 1) (bs x)) = v2 at *
          have t2 : v2.cell? ⟨gO, 2, none⟩ = some (.bool false) := hW3.op.cell (i := 2) rfl
          have x1 : v2.cell? ⟨v1.heap.size, 1, none⟩ = some (.string (bs x)) := L6.cell (i := 1) rfl
          have x2 := L6.frozen 1
          have y2 : v2.cell? ⟨gO, 0, none⟩ = some (.string (bs N)) := hW3.op.cell (i := 0) rfl
          by_cases heq0 : x = N
          · have hc1 : ((bs x).toList == (bs N).toList) = true := by rw [heq0]; simp
            have heq : Hid (x = N) := heq0
            clear heq0
            have hbody : bodyG N false ((cutL (un s)).drop c) c = some (T, j + 1) := by rw [hI, drop_consT hx, bodyG, if_pos (by rw [hY.out]; exact heq.out)]; simp
            go_wp2_with (first
              | (refine wpList_store_row rfl 155 (.tmp 10) (.tmp 33) rfl v1.heap.size (flC (j + 1) (bs x)) rfl rfl 155 _ L5 fl_info rfl (fl_one _ _) ?_; rw [hv2]))
            have hSt8 := Tryz.Builder_String_any_k gT gT _ _ (Lib.IsBuilderF.of hW3.bld) (Nat.le_of_lt (bld_lt hW3.bld))
            refine hSt8.mono ?_
            rintro e w8 ⟨rfl, _, hl8, hk8⟩
            obtain ⟨oth8, rd8, res8, dn8, _⟩ := hW3.keeps hDB hl8 hk8
            have l8 : w8.cell? ⟨gD, 3, none⟩ = some (.string ⟨#[]⟩) := dn8.cell (i := 3) rfl
            have f8 := dn8.frozen 3
            have dn9 := Lies.set (i := 3) dn8 (.string (bs T))
            have res9 := lies_set' (i := 3) res8 hDB.rd (.string (bs T))
            have rd9 := lies_set' (i := 3) rd8 hBD (.string (bs T))
            have oth9 : Oth B w (w8.setCell ⟨gD, 3, none⟩ (.string (bs T))) := ⟨oth8.os, oth8.tape, oth8.output, by simpa using oth8.size, fun k h1 h2 => (Below.heap_setCell w8 ⟨gD, 3, none⟩ _ k (by have := hDB.d; simp; omega)).trans (oth8.block k h1 h2)⟩
            go_wp2_with (first
              | (refine wpList_load_row rfl 133 (.tmp 8) rfl gD rfl 133 (dcC (bs N) R (c + 1) (bs T)) (0, 0) _ dn9 Tryz.underlying133 rfl dc_info ?_)
              | (refine wpList_store_row rfl 133 (.tmp 4) (.tmp 51) rfl w.heap.size (dcC (bs N) R (c + 1) (bs T)) rfl rfl 133 _ res9 dc_info rfl (dc_one _ _ _ _) ?_))
            refine bodyPost_ret (results_row_tmp rfl _ _ w.heap.size 133 (dcC (bs N) R (c + 1) (bs T)) (0, 0) _ rfl (lies_setRow res9 _) Tryz.underlying133 rfl dc_info) rfl ?_
            refine HB.out _ _ (oth9.row (Nat.le_refl _) _) ?_
            rw [hbody]
            exact ⟨rfl, q2, lies_setRow' rd9 hBR _, hA2, by omega⟩
          · have hc1 : ((bs x).toList == (bs N).toList) = false := by rw [toList_un, toList_un, un_bs, un_bs]; exact beq_false_of_ne heq0
            have heq : Hid (¬ x = N) := heq0
            clear heq0
            have hWS := wstring_p gT gT T (bs x) v2 hW3.bld (by rw [size_bs]; omega) (Nat.le_of_lt (bld_lt hW3.bld))
            rw [un_bs] at hWS
            have hbody : bodyG N false ((cutL (un s)).drop c) c = (bodyG N false ((cutL (un s)).drop (j + 1)) (j + 1)).map (fun p => (T ++ x ++ [10] ++ p.1, p.2)) := by
              rw [hI, drop_consT hx, bodyG, hY.out, if_neg heq.out, Option.map_map]
              congr 1; funext p; simp
            go_wp2_with (first
              | (refine wpList_store_row rfl 155 (.tmp 10) (.tmp 33) rfl v1.heap.size (flC (j + 1) (bs x)) rfl rfl 155 _ L5 fl_info rfl (fl_one _ _) ?_; rw [hv2]))
            refine hWS.mono ?_
            rintro e v5 ⟨rfl, hb5, hl5, hk5⟩
            have hW5 := hW3.wrote hDB hb5 hl5 hk5
            have hWB := wbyte_p gT gT (T ++ x) 10 v5 hW5.bld (by rw [List.length_append]; omega) (Nat.le_of_lt (bld_lt hW5.bld))
            go_wp2_with fail
            refine hWB.mono ?_
            rintro e v6 ⟨rfl, hb6, hl6, hk6⟩
            have hW6 := hW5.wrote hDB hb6 hl6 hk6
            go_wp2
            go_roundw
            case rel => exact ⟨j + 1, _, q2, hA2, hW6, by omega, by omega, by have hz := hsum; rw [hsum2] at hz; simp only [List.length_append, List.length_singleton]; omega, hbody⟩
            case measure =>
              have e1 := Lies.cell hW6.rd (i := 2) rfl
              have e2 := Lies.cell hW1.rd (i := 2) rfl
              rw [e1, e2]; simp [intOf]; omega
end Go.Proofs.YtjgijbeedgggdaaGreatDoor
