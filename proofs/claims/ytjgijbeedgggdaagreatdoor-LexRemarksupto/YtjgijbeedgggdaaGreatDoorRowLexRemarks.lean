/- LexRemarks, where the text is of bulk at most 1048576: a remark or an empty line that is put in changes nothing but numbers: from its walk to its row and its card. -/
import Derived.Test.YtjgijbeedgggdaaGreatDoorRows
import Derived.Test.YtjgijbeedgggdaaGreatDoorPlain
import Derived.Test.YtjgijbeedgggdaaGreatDoorCwW
import Derived.LaidHandle
import Derived.LaidLaws
import Derived.Stop.Joined
import Derived.Lib.LaidTab
import Derived.Lib.LaidU8T
import Derived.Lib.LaidCase
import Derived.SliceStrings
import Derived.Laws.Tables
import Derived.Test.YtjgijbeedgggdaaGreatDoorShelf
import Derived.Lib.LaidCaseMet
import Derived.Lib.LaidIn
import Derived.Test.YtjgijbeedgggdaaGreatDoorLexM
import Derived.Test.YtjgijbeedgggdaaGreatDoorByM
import Derived.Test.YtjgijbeedgggdaaGreatDoorLexL
import Derived.BigQuiet
import Derived.Test.YtjgijbeedgggdaaGreatDoorBytes
import Derived.Laws.AppendOwn
import Derived.OwnWalk
import Derived.Test.YtjgijbeedgggdaaGreatDoorCkW
import Derived.Test.YtjgijbeedgggdaaGreatDoorDrsW
import Derived.Test.YtjgijbeedgggdaaGreatDoorAllW
import Derived.Test.YtjgijbeedgggdaaGreatDoorPlaceF
import Derived.Deep.Cut
import Derived.Test.YtjgijbeedgggdaaGreatDoorLexJ
import Derived.Test.YtjgijbeedgggdaaGreatDoorRdW
import Derived.Test.YtjgijbeedgggdaaGreatDoorCards
import Derived.Test.YtjgijbeedgggdaaGreatDoorTie
import Derived.ProofKit
import Derived.OpenShut
import Derived.SizedLaws
import Derived.Deep.DeepHandedRow
import Derived.SevenTiedAt
import Derived.Deep.DeepWitnessRowRef

namespace Go.Proofs.YtjgijbeedgggdaaGreatDoor
open Go.ChangeShapes Go.WideShapes Go.RowKit Go.Lib

theorem own : ownKnob Tryz.prog.godebug = none := by kernel_rfl
theorem l_et : Tryz.prog.globalNamed "errors.errorType" = some 0 := by kernel_rfl
theorem l_rt : (Tryz.prog.cutTypes.find? (·.1 == "internal/reflectlite.rtype")).map (·.2) = some 287 := by kernel_rfl
theorem l_oneRow : ((List.range 364).filter fun t => Tryz.prog.rowNamed t [101, 114, 114, 111, 114]) = [26] := by kernel_rfl
theorem l_size : Tryz.prog.types.size = 364 := by kernel_rfl

abbrev listedL : List (String × DataW Unit) := [("unicode/utf8.acceptRanges", Rows.laid_unicode_utf8_acceptRanges), ("errors.errorType", Rows.laid_errors_errorType), ("unicode.asciiFold", Rows.laid_unicode_asciiFold), ("unicode.caseOrbit", Rows.laid_unicode_caseOrbit), ("unicode.CaseRanges", Rows.laid_unicode_CaseRanges), ("unicode/utf8.first", Rows.laid_unicode_utf8_first)]
abbrev listedN : List (String × DataW Unit) := [("unicode/utf8.acceptRanges", Rows.laid_unicode_utf8_acceptRanges), ("unicode.asciiFold", Rows.laid_unicode_asciiFold), ("unicode.caseOrbit", Rows.laid_unicode_caseOrbit), ("unicode.CaseRanges", Rows.laid_unicode_CaseRanges), ("unicode/utf8.first", Rows.laid_unicode_utf8_first)]
theorem parts_of_laidL {W : World} (h : laidMetH Tryz.prog listedL W) : laidMet Tryz.prog listedN W ∧ handlesMet Tryz.prog [("errors.errorType", Rows.laid_errors_errorType)] W := h
set_option maxRecDepth 100000 in
theorem handle_of_laidL {W : World} (h : laidMetH Tryz.prog listedL W) : ErrType W := by
  have h2 := parts_of_laidL h
  obtain ⟨name, u, ty, e1, e2, e3, e4, e5⟩ := h2.2 _ (List.mem_singleton.2 rfl)
  have en : name = [101, 114, 114, 111, 114] := (Option.some.inj e1).symm
  subst en
  obtain rfl := Option.some.inj (l_rt.symm.trans e2)
  have hm : ty ∈ (List.range 364).filter fun t => Tryz.prog.rowNamed t [101, 114, 114, 111, 114] := List.mem_filter.2 ⟨List.mem_range.2 (by rw [← l_size]; exact e3), e4⟩
  rw [l_oneRow] at hm
  obtain rfl := List.mem_singleton.1 hm
  have hh : typeHandle Tryz.prog 26 = .pointer (some ⟨7, 26, none⟩) := by kernel_rfl
  rw [hh] at e5
  have h3 := World.var?_cell l_et e5 0
  unfold ErrType
  simpa using h3
def u8ren : Go.Shelf.Ren := ⟨fun n => n, fun | 5 => 5 | 119 => 313 | 138 => 315 | 139 => 316 | n => n, fun | 3 => 2 | 4 => 3 | n => n⟩
theorem u8types : U8Types Tryz.prog u8ren := ⟨by kernel_rfl, by kernel_rfl, by kernel_rfl, by kernel_rfl⟩
set_option maxRecDepth 100000 in
theorem e_first : Rows.laid_unicode_utf8_first = Lib.firstData := by kernel_rfl
set_option maxRecDepth 100000 in
theorem e_acc : (Rows.laid_unicode_utf8_acceptRanges : DataW Unit) = Lib.acceptData := by kernel_rfl
theorem utf8_of_laidL {W : World} (h : laidMetH Tryz.prog listedL W) : Lib.Utf8Tabs 2 3 W := by
  have h1 := Lib.laidMet.reads (parts_of_laidL h).1 (n := "unicode/utf8.first") (d := Rows.laid_unicode_utf8_first) (.tail _ (.tail _ (.tail _ (.tail _ (.head _)))))
  have h2 := Lib.laidMet.reads (parts_of_laidL h).1 (n := "unicode/utf8.acceptRanges") (d := Rows.laid_unicode_utf8_acceptRanges) (.head _)
  rw [e_first] at h1
  rw [e_acc] at h2
  exact utf8Tabs_of_readsT u8types ⟨by kernel_rfl, by kernel_rfl, by kernel_rfl, by kernel_rfl, by kernel_rfl, by kernel_rfl, by kernel_rfl⟩ h1 h2
def intsOf : DataW Unit → List Int
  | .agg ds => ds.map fun
    | .lit (.int _ n) => n
    | _ => 0
  | _ => []
set_option maxRecDepth 100000 in
theorem e_fold : (Rows.laid_unicode_asciiFold : DataW Unit) = tabData .u16 (intsOf Rows.laid_unicode_asciiFold) := by kernel_rfl
theorem f_name : Tryz.prog.globalNamed "unicode.asciiFold" = some 4 := by kernel_rfl
theorem f_type : (Tryz.prog.globals[4]?).map (·.type) = some 326 := by kernel_rfl
theorem o_name : Tryz.prog.globalNamed "unicode.caseOrbit" = some 5 := by kernel_rfl
theorem o_type : (Tryz.prog.globals[5]?).map (·.type) = some 327 := by kernel_rfl
theorem c_u16 : Tryz.prog.cellsOf 325 = 1 := by kernel_rfl
theorem c_128 : Tryz.prog.cellsOf 326 = 128 := by kernel_rfl
theorem c_pair : Tryz.prog.cellsOf 329 = 2 := by kernel_rfl
set_option maxRecDepth 100000 in
theorem fold1_of_laidL {W : World} (h : laidMetH Tryz.prog listedL W) : Fold1 W := by
  have h1 := Lib.laidMet.reads (parts_of_laidL h).1 (n := "unicode.asciiFold") (d := Rows.laid_unicode_asciiFold) (.tail _ (.head _))
  rw [e_fold] at h1
  obtain ⟨g, t, cs, fuel, p, hg, hty, hvar, hd⟩ := h1
  obtain rfl := Option.some.inj (f_name.symm.trans hg)
  obtain rfl := Option.some.inj (f_type.symm.trans hty)
  have hcs := cells_of_tab Tryz.underlying326 Tryz.underlying325 c_u16 c_128 hd
  have hc : ∀ c : Nat, W.cell? ⟨4, c, none⟩ = ((intsOf Rows.laid_unicode_asciiFold).map fun z => Value.int .u16 z)[c]? := fun c => by
    rw [World.var?_cell hg hvar c, ← Array.getElem?_toList, hcs]
  intro c hm
  rw [hc, hc]
  simp only [List.mem_cons, List.not_mem_nil, or_false] at hm
  rcases hm with rfl | rfl | rfl | rfl | rfl | rfl | rfl
  all_goals exact ⟨by kernel_rfl, by kernel_rfl⟩
def pairsOf : DataW Unit → List (DataW Unit)
  | .slice ds _ => ds
  | _ => []
theorem pair_cells {H : Type} {enc : TypeId × Value → H} {w : World} {base : Nat} {sp : Nat → Bool} {held : Bool} {fuel : Nat} {cs : List Value} {a b : Int} {p : List MemPlace}
    (h : DataW.trod enc Tryz.prog w base sp held fuel 329 cs = some (.agg [.lit (.int .u16 a), .lit (.int .u16 b)], p)) : cs[0]? = some (.int .u16 a) ∧ cs[1]? = some (.int .u16 b) := by
  obtain ⟨xs, n, rfl, hx, hl, hxl, hall⟩ := DataW.trod_struct Tryz.underlying329 h
  have hx3 : xs.map (·.1) = [.lit (.int .u16 a), .lit (.int .u16 b)] := by
    have := congrArg Prod.fst hx
    simpa using this.symm
  obtain ⟨x0, x1, rfl⟩ : ∃ x0 x1, xs = [x0, x1] := by
    match xs, hx3 with
    | [x0, x1], _ => exact ⟨x0, x1, rfl⟩
  simp only [List.map_cons, List.map_nil, List.cons.injEq, and_true] at hx3
  obtain ⟨e0, e1⟩ := hx3
  have f0 := hall 0 _ rfl
  have f1 := hall 1 _ rfl
  change DataW.trod _ _ _ _ _ _ _ 325 ((cs.drop 0).take (Tryz.prog.cellsOf 325)) = some x0 at f0
  change DataW.trod _ _ _ _ _ _ _ 325 ((cs.drop 1).take (Tryz.prog.cellsOf 325)) = some x1 at f1
  rw [c_u16] at f0 f1
  refine ⟨?_, ?_⟩
  · obtain ⟨z, hz, hx', _⟩ := DataW.trod_int Tryz.underlying325 f0
    rw [hx'] at e0
    cases e0
    exact at_of_take hz
  · obtain ⟨z, hz, hx', _⟩ := DataW.trod_int Tryz.underlying325 f1
    rw [hx'] at e1
    cases e1
    exact at_of_take hz
set_option maxRecDepth 100000 in
theorem fold2_of_laidL {W : World} (h : laidMetH Tryz.prog listedL W) : Fold2 W := by
  have h1 := Lib.laidMet.reads (parts_of_laidL h).1 (n := "unicode.caseOrbit") (d := Rows.laid_unicode_caseOrbit) (.tail _ (.tail _ (.head _)))
  obtain ⟨g, t, cs, fuel, p, hg, hty, hvar, hd⟩ := h1
  obtain rfl := Option.some.inj (o_name.symm.trans hg)
  obtain rfl := Option.some.inj (o_type.symm.trans hty)
  rcases DataW.trod_slice Tryz.underlying327 hd with ⟨_, hx'⟩ | ⟨a', len, cap, el, rs, m, rfl, hc0, hx', _, hlc, _, hel, helem, hsp, _⟩
  · have := congrArg Prod.fst hx'
    cases this
  have e0 := congrArg (fun x => pairsOf x.1) hx'
  have eE : pairsOf Rows.laid_unicode_caseOrbit = el.map (·.1) := e0
  have hpl : (pairsOf Rows.laid_unicode_caseOrbit).length = 94 := by kernel_rfl
  have hlen : len = 94 := by
    have := congrArg List.length eE
    rw [hpl, List.length_map] at this
    omega
  have hrow : ∀ (i : Nat) (a b : Int), (pairsOf Rows.laid_unicode_caseOrbit)[i]? = some (.agg [.lit (.int .u16 a), .lit (.int .u16 b)]) → W.cell? ((a'.add (i * 2)).add 0) = some (.int .u16 a) ∧ W.cell? ((a'.add (i * 2)).add 1) = some (.int .u16 b) := by
    intro i a b hi
    have hil := (List.getElem?_eq_some_iff.1 hi).1
    rw [hpl] at hil
    have h1 := helem i (by omega)
    rw [c_pair] at h1
    obtain ⟨b1, hb⟩ : ∃ b, el[i]? = some b := ⟨el[i]'(by omega), List.getElem?_eq_getElem (by omega)⟩
    rw [hb] at h1
    obtain ⟨ce, hce, hte⟩ := Option.bind_eq_some_iff.1 h1
    have hb1 : b1.1 = .agg [.lit (.int .u16 a), .lit (.int .u16 b)] := by
      rw [eE, List.getElem?_map, hb, Option.map_some] at hi
      exact Option.some.inj hi
    obtain ⟨q0, q1⟩ := pair_cells (p := b1.2) (by rw [← hb1]; exact hte)
    obtain ⟨_, _, hcc⟩ := World.cells?_some hce
    exact ⟨by rw [hcc 0 (by omega), q0], by rw [hcc 1 (by omega), q1]⟩
  obtain ⟨R, oR, sR⟩ := a'
  obtain rfl : sR = none := by
    have h00 := (hrow 0 75 107 (by kernel_rfl)).1
    have : (Addr.add (Addr.add ⟨R, oR, sR⟩ (0 * 2)) 0) = ⟨R, oR, sR⟩ := by simp [Addr.add]
    rw [this] at h00
    exact cell_spot h00
  have hc : ∀ (i : Nat) (a b : Int), (pairsOf Rows.laid_unicode_caseOrbit)[i]? = some (.agg [.lit (.int .u16 a), .lit (.int .u16 b)]) → W.cell? ⟨R, oR + i * 2, none⟩ = some (.int .u16 a) ∧ W.cell? ⟨R, oR + (i * 2 + 1), none⟩ = some (.int .u16 b) := by
    intro i a b hi
    obtain ⟨q0, q1⟩ := hrow i a b hi
    have a0 : (Addr.add (Addr.add ⟨R, oR, none⟩ (i * 2)) 0) = ⟨R, oR + i * 2, none⟩ := by simp [Addr.add]
    have a1 : (Addr.add (Addr.add ⟨R, oR, none⟩ (i * 2)) 1) = ⟨R, oR + (i * 2 + 1), none⟩ := by rw [Addr.add_mid, Addr.add_mid, Nat.add_assoc]
    rw [a0] at q0
    rw [a1] at q1
    exact ⟨q0, q1⟩
  have hR := World.block_lt_of_cell? W _ (hc 0 75 107 (by kernel_rfl)).1
  refine ⟨R, oR, cap, hR, ?_, (hc 47 966 981 (by kernel_rfl)).1, (hc 23 837 921 (by kernel_rfl)).1, (hc 11 452 453 (by kernel_rfl)).1, (hc 5 197 229 (by kernel_rfl)).1, (hc 8 304 304 (by kernel_rfl)).1, (hc 10 383 83 (by kernel_rfl)).1, (hc 9 305 305 (by kernel_rfl)).1, (hc 10 383 83 (by kernel_rfl)).2⟩
  rw [World.var?_cell hg hvar 0, ← Array.getElem?_toList, hc0, hlen]
  rfl
theorem tabs_of_laidL {W : World} (h : laidMetH Tryz.prog listedL W) : Tabs W := ⟨utf8_of_laidL h, fold1_of_laidL h, fold2_of_laidL h⟩
end Go.Proofs.YtjgijbeedgggdaaGreatDoor

namespace Go.Proofs.YtjgijbeedgggdaaGreatDoor
open Go.ChangeShapes Go.WideShapes Go.RowKit Go.Lib

def caseRen : Go.Shelf.Ren := ⟨Tryz.lays274_ren.f, Tryz.lays274_ren.t, fun | 13 => 6 | n => n⟩
theorem caseLays : Go.Proofs.Lays.n274 Tryz.prog caseRen := { Tryz.lays274 with }
theorem case206 : Tryz.prog.underlying (caseRen.t 206) = some (.array 3 (caseRen.t 21)) := by kernel_rfl
theorem caseX : CaseExtra Tryz.prog caseRen := ⟨by kernel_rfl, by kernel_rfl, by kernel_rfl, by kernel_rfl, by kernel_rfl, by kernel_rfl⟩
set_option maxRecDepth 100000 in
theorem laidIn_caseL {w : World} (R : Nat) (t : TypeId) (hgR : 6 ≠ R)
    (hvar : w.heap[6]? = some (.cells #[.slice (some ⟨R, 0, none⟩) caseA.size caseA.size] 332 (0, 0)))
    (hblk : w.heap[R]? = some (.cells caseCells5 t (0, 0))) : LaidIn Tryz.prog w [("unicode.CaseRanges", caseData)] [6, R] := by
  have hT := caseTab_of_block hblk
  have hread := case_slice_reads caseLays case206 caseX hT caseA_wf (by rw [caseA_size]; unfold maxLen; omega) 0
  rw [case_rows_data] at hread
  have hv : w.var? Tryz.prog "unicode.CaseRanges" = some #[.slice (some ⟨R, 0, none⟩) caseA.size caseA.size] := by
    have hn := caseX.n13
    simp only [caseRen] at hn
    simp [World.var?, hn, hvar]
  have hshape : MemPlace.row ⟨6, 0, none⟩ (#[Value.slice (some ⟨R, 0, none⟩) caseA.size caseA.size] : Array Value).size ++ MemPlace.row ⟨R, 0, none⟩ (caseA.size * 5) =
      ([((⟨6, 0, none⟩ : Addr), 1), (⟨R, 0, none⟩, caseA.size * 5)] : List (Addr × Nat)).flatMap (fun r => MemPlace.row r.1 r.2) := by simp
  refine LaidIn.one _ caseX.n13 caseX.y13 hv hread ?_ ?_ ?_
  · show (MemPlace.row ⟨6, 0, none⟩ _ ++ _).Nodup
    rw [hshape]
    exact rows_nodup _ (by simp; exact hgR)
  · show RowsFit _ _ (MemPlace.row ⟨6, 0, none⟩ _ ++ _)
    rw [hshape]
    intro b off hp
    simp only [List.flatMap_cons, List.flatMap_nil, List.append_nil, List.mem_append] at hp
    rcases hp with hp | hp
    · obtain ⟨i, hi, e'⟩ := MemPlace.mem_row.1 hp
      cases e'
      refine ⟨⟨_, _, hvar⟩, fun u v hc' => ?_⟩
      obtain rfl : i = 0 := Nat.lt_one_iff.1 hi
      rw [cell_of_heap hvar] at hc'
      cases hc'
    · obtain ⟨i, hi, e⟩ := MemPlace.mem_row.1 hp
      cases e
      refine ⟨⟨_, _, hblk⟩, fun u v hc => ?_⟩
      obtain ⟨c0, c1, c2, c3, c4⟩ := hT (i / 5) (by omega)
      have hi5 : 0 + i = 0 + i / 5 * 5 + i % 5 := by omega
      simp only at hc
      rw [hi5] at hc
      have hm : i % 5 < 5 := Nat.mod_lt _ (by omega)
      match hk : i % 5, hm with
      | 0, _ => rw [hk, Nat.add_zero, c0] at hc; cases hc
      | 1, _ => rw [hk, c1] at hc; cases hc
      | 2, _ => rw [hk, c2] at hc; cases hc
      | 3, _ => rw [hk, c3] at hc; cases hc
      | 4, _ => rw [hk, c4] at hc; cases hc
  · show ∀ x ∈ MemPlace.row ⟨6, 0, none⟩ _ ++ _, _
    rw [hshape]
    exact rows_block _
def flatV : Nat → DataW Unit → List Value
  | _ + 1, .lit (.int k n) => [.int k n]
  | fu + 1, .agg ds => ds.flatMap (flatV fu)
  | fu + 1, .slice ds _ => ds.flatMap (flatV fu)
  | _, _ => []
noncomputable def baseL (os : Os) : World := ((World.holding Tryz.prog os ⟨#[], #[], []⟩).alloc (.cells (flatV 5 Rows.laid_unicode_caseOrbit).toArray 329)).alloc (.cells caseCells5 338)
noncomputable def laidWorldL (os : Os) : World :=
  ((((((baseL os).setRow 3 (flatV 5 Rows.laid_unicode_utf8_acceptRanges).toArray).setRow 2 (flatV 5 Rows.laid_unicode_utf8_first).toArray).setRow 4 (flatV 5 Rows.laid_unicode_asciiFold).toArray).setRow 5 #[.slice (some ⟨(World.holding Tryz.prog os ⟨#[], #[], []⟩).heap.size, 0, none⟩) 94 94]).setRow 6 #[.slice (some ⟨(World.holding Tryz.prog os ⟨#[], #[], []⟩).heap.size + 1, 0, none⟩) caseA.size caseA.size]).setRow 0 #[.iface 287 (.agg #[.pointer (some ⟨7, 26, none⟩)])]
set_option maxRecDepth 100000 in
theorem e_case : Rows.laid_unicode_CaseRanges = caseData := by kernel_rfl
set_option maxRecDepth 100000 in
theorem metL (os : Os) (args : Array Value) : laidMetH Tryz.prog listedL ((laidWorldL os).forCall (fun _ _ => 0) ⟨#[], args, []⟩).memory := by
  have hA : LaidIn Tryz.prog ((laidWorldL os).forCall (fun _ _ => 0) ⟨#[], args, []⟩).memory [("unicode/utf8.acceptRanges", Rows.laid_unicode_utf8_acceptRanges), ("unicode.asciiFold", Rows.laid_unicode_asciiFold), ("unicode.caseOrbit", Rows.laid_unicode_caseOrbit)] [3, 4, 5, (World.holding Tryz.prog os ⟨#[], #[], []⟩).heap.size] :=
    LaidIn.of_run _ 8 (by kernel_rfl) (by kernel_rfl) (by kernel_rfl) (by kernel_rfl)
  have hB := laidIn_caseL (w := ((laidWorldL os).forCall (fun _ _ => 0) ⟨#[], args, []⟩).memory) ((World.holding Tryz.prog os ⟨#[], #[], []⟩).heap.size + 1) 338 (of_decide_eq_true (by kernel_rfl)) (by kernel_rfl) (by kernel_rfl)
  rw [← e_case] at hB
  have hC : LaidIn Tryz.prog ((laidWorldL os).forCall (fun _ _ => 0) ⟨#[], args, []⟩).memory [("unicode/utf8.first", Rows.laid_unicode_utf8_first)] [2] :=
    LaidIn.of_run _ 8 (by kernel_rfl) (by kernel_rfl) (by kernel_rfl) (by kernel_rfl)
  exact laidMetH_of_parts ((LaidIn.append hA (LaidIn.append hB hC (by kernel_rfl)) (by kernel_rfl)).met) (by kernel_rfl)
end Go.Proofs.YtjgijbeedgggdaaGreatDoor

namespace Go.Proofs.YtjgijbeedgggdaaGreatDoor
open Go Go.RowKit

theorem blank_r (c : UInt8) (w : World) : Calls Tryz.prog 31 #[.int .u8 c.toNat] w fun e w' => e = .returned (.bool (isBl c)) ∧ w' = w := by
  have q1 : ((c.toNat : Int) == 32) = decide (c = 32) := beq_b8 c 32 (by decide)
  have q2 : ((c.toNat : Int) == 9) = decide (c = 9) := beq_b8 c 9 (by decide)
  have q3 : ((c.toNat : Int) == 13) = decide (c = 13) := beq_b8 c 13 (by decide)
  have HB : Hid (isBl c = (decide (c = 32) || decide (c = 9) || decide (c = 13))) := rfl
  generalize isBl c = r at *
  generalize decide (c = 32) = m1 at *
  generalize decide (c = 9) = m2 at *
  generalize decide (c = 13) = m3 at *
  cases m1 <;> cases m2 <;> cases m3
  all_goals
    have hb := HB.out
    simp at hb
    subst hb
    clear HB
    go_enter Tryz.func31, Tryz.ntmps31
    go_wp2
    go_ret
    exact ⟨rfl, rfl⟩
theorem hd_at (x : Ln) (k : Nat) (b : UInt8) (h1 : (x.take k).all isBl = true) (h2 : x[k]? = some b) (h3 : isBl b = false) : hd x = k := by
  induction x generalizing k with
  | nil => simp at h2
  | cons c x ih =>
    cases k with
    | zero =>
      simp at h2; subst h2
      unfold hd; rw [List.takeWhile_cons_of_neg (by rw [h3]; decide)]; rfl
    | succ k =>
      simp only [List.take_succ_cons, List.all_cons, Bool.and_eq_true] at h1
      unfold hd
      rw [List.takeWhile_cons_of_pos h1.1, List.length_cons]
      exact congrArg (· + 1) (ih k h1.2 (by simpa using h2))
theorem hd_all (x : Ln) (h : x.all isBl = true) : hd x = x.length := by
  unfold hd
  have : x.takeWhile isBl = x := by
    induction x with
    | nil => rfl
    | cons c x ih =>
      simp only [List.all_cons, Bool.and_eq_true] at h
      rw [List.takeWhile_cons_of_pos h.1, ih h.2]
  rw [this]
def headI (x : Ln) : Int := if hd x < x.length then (hd x : Int) else -1
theorem head_r (s : ByteArray) (w : World) (hs : s.size ≤ 1099511627776) : Calls Tryz.prog 37 #[.string s] w fun e w' => e = .returned (.int .i64 (headI (un s))) ∧ w' = w := by
  have hsl := un_length s
  go_enter Tryz.func37, Tryz.ntmps37
  go_wp2
  go_loop [3] (fun i => ∃ k : Nat, k ≤ s.size ∧ i = .int .i64 k ∧ Hid (((un s).take k).all isBl = true)) (fun i => s.size - (intOf i).toNat)
  case atStart => exact ⟨0, Nat.zero_le _, rfl, by simp [Hid]⟩
  case round =>
    obtain ⟨k, hk, rfl, HA⟩ := hrel
    by_cases hlt : k < s.size
    · have hget := un_getElem? s k hlt
      have k0 : (0 : Int) ≤ (k : Int) := by omega
      have k1 : (k : Int) < (s.size : Int) := by omega
      have hbl := fun W => blank_r s[k] W
      cases hb : isBl s[k]
      · rw [hb] at hbl
        have HR : Hid (headI (un s) = (k : Int)) := by unfold Hid headI; rw [hd_at (un s) k s[k] HA.out hget hb, if_pos (by omega)]
        clear hget hb
        go_wp2_with (go_at_call 31; refine (hbl _).mono ?_; rintro e w1 ⟨rfl, hw⟩; replace hw := hw.symm; subst hw)
        go_ret
        exact ⟨by rw [HR.out]; rfl, rfl⟩
      · rw [hb] at hbl
        have HA2 : Hid (((un s).take (k + 1)).all isBl = true) := by
          unfold Hid
          rw [List.take_add_one, hget, List.all_append, HA.out]; simp [hb]
        clear hget hb
        go_wp2_with (go_at_call 31; refine (hbl _).mono ?_; rintro e w1 ⟨rfl, hw⟩; replace hw := hw.symm; subst hw)
        first
          | exact ⟨⟨k + 1, by omega, by go_num, HA2⟩, by simp [intOf]; omega⟩
          | (go_round
             case rel => exact ⟨k + 1, by omega, by go_num, HA2⟩
             case measure => simp [intOf]; omega)
    · obtain rfl : k = s.size := by omega
      have HR : Hid (headI (un s) = -1) := by
        unfold Hid headI
        have := HA.out
        rw [← hsl, List.take_length] at this
        rw [hd_all _ this, if_neg (Nat.lt_irrefl _)]
      go_wp2
      go_ret
      exact ⟨by rw [HR.out]; rfl, rfl⟩
end Go.Proofs.YtjgijbeedgggdaaGreatDoor

namespace Go.Proofs.YtjgijbeedgggdaaGreatDoor
open Go Go.RowKit

theorem dropWhile_all (p : UInt8 → Bool) (a b : Ln) (h : a.all p = true) : (a ++ b).dropWhile p = b.dropWhile p := by
  induction a with
  | nil => rfl
  | cons c a ih =>
    simp only [List.all_cons, Bool.and_eq_true] at h
    rw [List.cons_append, List.dropWhile_cons_of_pos h.1]; exact ih h.2
theorem en_at (x : Ln) (k : Nat) (b : UInt8) (h1 : (x.drop (k + 1)).all isBl = true) (h2 : x[k]? = some b) (h3 : isBl b = false) : en x = k + 1 := by
  obtain ⟨hk, hb⟩ := List.getElem?_eq_some_iff.1 h2
  have e : x = x.take k ++ (b :: x.drop (k + 1)) := by rw [← hb, ← List.drop_eq_getElem_cons hk, List.take_append_drop]
  have e2 : x.reverse = (x.drop (k + 1)).reverse ++ (b :: (x.take k).reverse) := by
    conv => lhs; rw [e]
    simp
  unfold en
  rw [e2, dropWhile_all _ _ _ (by rw [List.all_reverse]; exact h1), List.dropWhile_cons_of_neg (by rw [h3]; decide)]
  simp; omega
theorem en_all (x : Ln) (h : x.all isBl = true) : en x = 0 := by
  unfold en
  have := dropWhile_all isBl x.reverse [] (by rw [List.all_reverse]; exact h)
  rw [List.append_nil] at this
  rw [this]; rfl
theorem last_r (s : ByteArray) (w : World) (hs : s.size ≤ 1099511627776) : Calls Tryz.prog 78 #[.string s] w fun e w' => e = .returned (.int .i64 ((en (un s) : Int) - 1)) ∧ w' = w := by
  have hsl := un_length s
  go_enter Tryz.func78, Tryz.ntmps78
  go_wp2
  go_loop [3] (fun i => ∃ k : Nat, k ≤ s.size ∧ i = .int .i64 ((k : Int) - 1) ∧ Hid (((un s).drop k).all isBl = true)) (fun i => (intOf i + 1).toNat)
  case atStart => exact ⟨s.size, Nat.le_refl _, rfl, by unfold Hid; rw [← hsl, List.drop_length]; rfl⟩
  case round =>
    obtain ⟨k, hk, rfl, HA⟩ := hrel
    by_cases hlt : 0 < k
    · obtain ⟨m, rfl⟩ : ∃ m, k = m + 1 := ⟨k - 1, by omega⟩
      have hm : m < s.size := by omega
      have hget := un_getElem? s m hm
      have e1 : (((m + 1 : Nat) : Int) - 1) = (m : Int) := by omega
      rw [e1]
      have k0 : (0 : Int) ≤ (m : Int) := by omega
      have k1 : (m : Int) < (s.size : Int) := by omega
      have hbl := fun W => blank_r s[m] W
      cases hb : isBl s[m]
      · rw [hb] at hbl
        have HR : Hid ((en (un s) : Int) - 1 = (m : Int)) := by unfold Hid; rw [en_at (un s) m s[m] HA.out hget hb]; omega
        clear hget hb
        go_wp2_with (go_at_call 31; refine (hbl _).mono ?_; rintro e w1 ⟨rfl, hw⟩; replace hw := hw.symm; subst hw)
        go_ret
        exact ⟨by rw [HR.out]; rfl, rfl⟩
      · rw [hb] at hbl
        have HA2 : Hid (((un s).drop m).all isBl = true) := by
          unfold Hid
          have hml : m < (un s).length := by omega
          rw [List.drop_eq_getElem_cons hml, List.all_cons, HA.out]
          rw [List.getElem?_eq_getElem hml] at hget
          rw [Option.some.inj hget, hb]; rfl
        clear hget hb
        go_wp2_with (go_at_call 31; refine (hbl _).mono ?_; rintro e w1 ⟨rfl, hw⟩; replace hw := hw.symm; subst hw)
        first
          | exact ⟨⟨m, by omega, by go_num, HA2⟩, by simp [intOf]⟩
          | (go_round
             case rel => exact ⟨m, by omega, by go_num, HA2⟩
             case measure => simp [intOf])
    · obtain rfl : k = 0 := by omega
      have HR : Hid ((en (un s) : Int) - 1 = -1) := by unfold Hid; have h0 := HA.out; rw [List.drop_zero] at h0; rw [en_all _ h0]; rfl
      have e1 : (((0 : Nat) : Int) - 1) = -1 := rfl
      rw [e1]
      go_wp2
      go_ret
      exact ⟨by rw [HR.out]; rfl, rfl⟩
theorem hd_le (x : Ln) : hd x ≤ x.length := (List.takeWhile_sublist isBl (l := x)).length_le
theorem nothing_r (s : ByteArray) (w : World) (hs : s.size ≤ 1099511627776) : Calls Tryz.prog 35 #[.string s] w fun e w' => e = .returned (.bool (noth (un s))) ∧ w' = w := by
  have hsl := un_length s
  have hh := fun W => head_r s W hs
  have hle := hd_le (un s)
  by_cases hlt : hd (un s) < s.size
  · have hI : headI (un s) = (hd (un s) : Int) := by unfold headI; rw [if_pos (by omega)]
    rw [hI] at hh
    have hget := un_getElem? s _ hlt
    have HN : Hid (noth (un s) = decide (s[hd (un s)] = 35)) := by unfold Hid noth; rw [hget]; simp; rfl
    have q1 : ((s[hd (un s)].toNat : Int) == 35) = decide (s[hd (un s)] = 35) := beq_b8 _ 35 (by decide)
    have k0 : (0 : Int) ≤ (hd (un s) : Int) := by omega
    have k1 : (hd (un s) : Int) < (s.size : Int) := by omega
    have k2 : ¬ (hd (un s) : Int) < 0 := by omega
    rw [HN.out]
    clear HN hget hI hle
    generalize hd (un s) = h at *
    go_enter Tryz.func35, Tryz.ntmps35
    go_wp2_with (go_at_call 37; refine (hh _).mono ?_; rintro e w1 ⟨rfl, hw⟩; replace hw := hw.symm; subst hw)
    go_ret
    exact ⟨by rw [← q1]; rfl, rfl⟩
  · have hI : headI (un s) = -1 := by unfold headI; rw [if_neg (by omega)]
    rw [hI] at hh
    have HN : Hid (noth (un s) = true) := by unfold Hid noth; rw [List.getElem?_eq_none (by omega)]; rfl
    rw [HN.out]
    go_enter Tryz.func35, Tryz.ntmps35
    go_wp2_with (go_at_call 37; refine (hh _).mono ?_; rintro e w1 ⟨rfl, hw⟩; replace hw := hw.symm; subst hw)
    go_ret
    exact ⟨rfl, rfl⟩
theorem past_at (x : Ln) (i k : Nat) (h1 : ((x.drop i).take k).all isBl = true) (h2 : ∀ b, x[i + k]? = some b → isBl b = false) (h3 : i + k ≤ x.length) : pastL x i = i + k := by
  unfold pastL
  congr 1
  have hk : k ≤ (x.drop i).length := by rw [List.length_drop]; omega
  generalize hy : x.drop i = y at *
  have h2' : ∀ b, y[k]? = some b → isBl b = false := fun b hb => h2 b (by rw [← hy, List.getElem?_drop] at hb; exact hb)
  by_cases hlt : k < y.length
  · exact hd_at y k y[k] h1 (List.getElem?_eq_getElem hlt) (h2' _ (List.getElem?_eq_getElem hlt))
  · have : k = y.length := by omega
    subst this
    rw [List.take_length] at h1
    exact hd_all y h1
theorem past_r (s : ByteArray) (i : Nat) (w : World) (hs : s.size ≤ 1099511627776) (hi : i ≤ s.size) : Calls Tryz.prog 76 #[.string s, .int .i64 i] w fun e w' => e = .returned (.int .i64 (pastL (un s) i)) ∧ w' = w := by
  have hsl := un_length s
  go_enter Tryz.func76, Tryz.ntmps76
  go_wp2
  go_loop [1] (fun iv => ∃ k : Nat, i + k ≤ s.size ∧ iv = .int .i64 ((i + k : Nat) : Int) ∧ Hid ((((un s).drop i).take k).all isBl = true)) (fun iv => s.size - (intOf iv).toNat)
  case atStart => exact ⟨0, by omega, rfl, by simp [Hid]⟩
  case round =>
    obtain ⟨k, hk, rfl, HA⟩ := hrel
    by_cases hlt : i + k < s.size
    · have hget := un_getElem? s (i + k) hlt
      generalize hm : i + k = m at *
      have k0 : (0 : Int) ≤ (m : Int) := by omega
      have k1 : (m : Int) < (s.size : Int) := by omega
      have hbl := fun W => blank_r s[m] W
      cases hb : isBl s[m]
      · rw [hb] at hbl
        have HR : Hid (pastL (un s) i = m) := by
          unfold Hid
          rw [← hm]
          exact past_at (un s) i k HA.out (fun b hbb => by rw [hm, hget] at hbb; cases hbb; exact hb) (by omega)
        clear hget hb
        go_wp2_with (go_at_call 31; refine (hbl _).mono ?_; rintro e w1 ⟨rfl, hw⟩; replace hw := hw.symm; subst hw)
        go_ret
        exact ⟨by rw [HR.out]; rfl, rfl⟩
      · rw [hb] at hbl
        have HA2 : Hid ((((un s).drop i).take (k + 1)).all isBl = true) := by
          unfold Hid
          rw [List.take_add_one, List.getElem?_drop, hm, hget, List.all_append, HA.out]; simp [hb]
        clear hget hb
        go_wp2_with (go_at_call 31; refine (hbl _).mono ?_; rintro e w1 ⟨rfl, hw⟩; replace hw := hw.symm; subst hw)
        first
          | exact ⟨⟨k + 1, by omega, by rw [← hm]; go_num, HA2⟩, by simp [intOf]; omega⟩
          | (go_round
             case rel => exact ⟨k + 1, by omega, by rw [← hm]; go_num, HA2⟩
             case measure => simp [intOf]; omega)
    · have hm : i + k = s.size := by omega
      have HR : Hid (pastL (un s) i = s.size) := by
        unfold Hid
        rw [← hm]
        exact past_at (un s) i k HA.out (fun b hbb => by rw [List.getElem?_eq_none (by omega)] at hbb; cases hbb) (by omega)
      rw [hm]
      go_wp2
      go_ret
      exact ⟨by rw [HR.out]; rfl, rfl⟩
end Go.Proofs.YtjgijbeedgggdaaGreatDoor

namespace Go.Proofs.YtjgijbeedgggdaaGreatDoor
open Go Go.RowKit

theorem lower_r (c : UInt8) (w : World) : Calls Tryz.prog 121 #[.int .u8 c.toNat] w fun e w' => e = .returned (.int .u8 (lowB c).toNat) ∧ w' = w := by
  have hn := c.toNat_lt
  by_cases h1 : 65 ≤ c.toNat
  · by_cases h2 : c.toNat ≤ 90
    · have HL : Hid (((lowB c).toNat : Int) = (c.toNat : Int) + 32) := by
        unfold Hid lowB
        rw [if_pos ⟨by rw [UInt8.le_iff_toNat_le]; exact h1, by rw [UInt8.le_iff_toNat_le]; exact h2⟩, UInt8.toNat_add]
        show (((c.toNat + 32) % 256 : Nat) : Int) = _
        omega
      have k1 : (65 : Int) ≤ (c.toNat : Int) := by omega
      have k2 : (c.toNat : Int) ≤ 90 := by omega
      rw [HL.out]
      go_enter Tryz.func121, Tryz.ntmps121
      go_wp2
      go_ret
      exact ⟨rfl, rfl⟩
    · have HL : Hid (lowB c = c) := by
        unfold Hid lowB
        rw [if_neg (show ¬ (65 ≤ c ∧ c ≤ 90) from fun h => h2 (UInt8.le_iff_toNat_le.1 h.2))]
      have k1 : (65 : Int) ≤ (c.toNat : Int) := by omega
      have k2 : ¬ (c.toNat : Int) ≤ 90 := by omega
      rw [HL.out]
      go_enter Tryz.func121, Tryz.ntmps121
      go_wp2
      go_ret
      exact ⟨rfl, rfl⟩
  · have HL : Hid (lowB c = c) := by
      unfold Hid lowB
      rw [if_neg (show ¬ (65 ≤ c ∧ c ≤ 90) from fun h => h1 (UInt8.le_iff_toNat_le.1 h.1))]
    have k1 : ¬ (65 : Int) ≤ (c.toNat : Int) := by omega
    rw [HL.out]
    go_enter Tryz.func121, Tryz.ntmps121
    go_wp2
    go_ret
    exact ⟨rfl, rfl⟩
theorem says_neg (s t : ByteArray) (w : World) : Calls Tryz.prog 77 #[.string s, .int .i64 (-1), .string t] w fun e w' => e = .returned (.bool false) ∧ w' = w := by
  go_enter Tryz.func77, Tryz.ntmps77
  go_wp2
  go_ret
  exact ⟨rfl, rfl⟩
theorem says_step (x w : Ln) (i : Nat) : (∀ k a b, x[i + k]? = some a → w[k]? = some b → lowB a = b) → i + w.length ≤ x.length → saysL x i w = true := by
  intro h hl
  unfold saysL
  rw [decide_eq_true hl, Bool.true_and]
  rw [beq_iff_eq]
  apply List.ext_getElem?
  intro k
  rw [List.getElem?_map, List.getElem?_take]
  by_cases hk : k < w.length
  · rw [if_pos hk, List.getElem?_drop, List.getElem?_eq_getElem (show i + k < x.length by omega), List.getElem?_eq_getElem hk]
    exact congrArg some (h k _ _ (List.getElem?_eq_getElem (by omega)) (List.getElem?_eq_getElem hk))
  · rw [if_neg hk, List.getElem?_eq_none (by omega)]; rfl
theorem says_off (x w : Ln) (i k : Nat) (a b : UInt8) (h1 : x[i + k]? = some a) (h2 : w[k]? = some b) (h3 : lowB a ≠ b) : saysL x i w = false := by
  unfold saysL
  rw [Bool.and_eq_false_iff]
  right
  rw [beq_eq_false_iff_ne]
  intro e
  have hk := (List.getElem?_eq_some_iff.1 h2).1
  have this : (List.map lowB ((x.drop i).take w.length))[k]? = w[k]? := by rw [e]
  rw [List.getElem?_map, List.getElem?_take, if_pos hk, List.getElem?_drop, h1, h2] at this
  exact h3 (Option.some.inj this)
set_option maxHeartbeats 1000000 in
theorem says_r (s t : ByteArray) (i : Nat) (w : World) (hs : s.size ≤ 1099511627776) (ht : t.size ≤ 1000) (hi : i ≤ s.size) : Calls Tryz.prog 77 #[.string s, .int .i64 i, .string t] w fun e w' => e = .returned (.bool (saysL (un s) i (un t))) ∧ Below w.heap.size w w' := by
  have hsl := un_length s
  have htl := un_length t
  have k0 : ¬ (i : Int) < 0 := by omega
  by_cases hfit : i + t.size ≤ s.size
  · have k1 : ¬ (s.size : Int) < (i : Int) + (t.size : Int) := by omega
    go_enter Tryz.func77, Tryz.ntmps77
    go_wp2
    go_loopw [7] (fun kv wr => ∃ k : Nat, k ≤ t.size ∧ kv = .int .i64 k ∧ Hid (∀ j a b, j < k → (un s)[i + j]? = some a → (un t)[j]? = some b → lowB a = b) ∧ Below w.heap.size w wr) (fun kv _ => t.size - (intOf kv).toNat)
    case atStart => exact ⟨0, Nat.zero_le _, rfl, fun j a b h => by omega, Below.refl _ _⟩
    case round =>
      obtain ⟨k, hk, rfl, HA, hB⟩ := hrel
      by_cases hlt : k < t.size
      · have hik : i + k < s.size := by omega
        have hg1 := un_getElem? s (i + k) hik
        have hg2 := un_getElem? t k hlt
        have hlo := fun W => lower_r s[i + k] W
        have j0 : (0 : Int) ≤ (k : Int) := by omega
        have j1 : (k : Int) < (t.size : Int) := by omega
        have j2 : (0 : Int) ≤ (i : Int) + (k : Int) := by omega
        have j3 : (i : Int) + (k : Int) < (s.size : Int) := by omega
        have hT : ((i : Int) + (k : Int)).toNat = i + k := by omega
        have hw1 : IntKind.i64.wrap ((i : Int) + (k : Int)) = (i : Int) + (k : Int) := by
          simp only [IntKind.wrap, IntKind.bits, IntKind.signed]
          simp
          omega
        have q1 : (((lowB s[i + k]).toNat : Int) == (t[k].toNat : Int)) = decide (lowB s[i + k] = t[k]) := beq_b88 _ _
        by_cases he : lowB s[i + k] = t[k]
        · rw [decide_eq_true he] at q1
          have HA2 : Hid (∀ j a b, j < k + 1 → (un s)[i + j]? = some a → (un t)[j]? = some b → lowB a = b) := fun j a b h1 h2 h3 => by
            rcases Nat.lt_succ_iff_lt_or_eq.1 h1 with h4 | h4
            · exact HA.out j a b h4 h2 h3
            · subst h4
              rw [hg1] at h2; rw [hg2] at h3
              cases h2; cases h3; exact he
          clear hg1 hg2 HA he
          go_wp2
          go_quiet ((go_at_call 121; with_reducible exact Calls.quiet_of_same (hlo _)))
          go_wp2
          go_roundw
          case rel => exact ⟨k + 1, by omega, by go_num, HA2, below_drawn hB _⟩
          case measure => simp [intOf]; omega
        · rw [decide_eq_false he] at q1
          have HR : Hid (saysL (un s) i (un t) = false) := says_off _ _ i k _ _ hg1 hg2 he
          clear hg1 hg2 HA he
          go_wp2
          go_quiet ((go_at_call 121; with_reducible exact Calls.quiet_of_same (hlo _)))
          go_wp2
          go_ret
          exact ⟨by rw [HR.out]; rfl, below_drawn hB _⟩
      · obtain rfl : k = t.size := by omega
        have HR : Hid (saysL (un s) i (un t) = true) := says_step _ _ _ (fun j a b h1 h2 => HA.out j a b (by have := (List.getElem?_eq_some_iff.1 h2).1; omega) h1 h2) (by omega)
        go_wp2
        go_ret
        exact ⟨by rw [HR.out]; rfl, hB⟩
  · have k1 : (s.size : Int) < (i : Int) + (t.size : Int) := by omega
    have HR : Hid (saysL (un s) i (un t) = false) := by unfold Hid saysL; rw [decide_eq_false (by omega)]; rfl
    go_enter Tryz.func77, Tryz.ntmps77
    go_wp2
    go_ret
    exact ⟨by rw [HR.out]; rfl, Below.refl _ _⟩
end Go.Proofs.YtjgijbeedgggdaaGreatDoor

namespace Go.Proofs.YtjgijbeedgggdaaGreatDoor
open Go Go.RowKit

/-- The list at v holds these texts. -/
def TextsAt (w : World) (v : Value) (l : List ByteArray) : Prop :=
  ∃ a c, v = .slice a l.length c ∧ (a = none → c = 0) ∧ ∀ i x, l[i]? = some x → ∃ b o, a = some ⟨b, o, none⟩ ∧ w.cell? ⟨b, o + i, none⟩ = some (.string x)
theorem TextsAt.below {w w' : World} {v : Value} {l : List ByteArray} (h : TextsAt w v l) (hb : Below w.heap.size w w') : TextsAt w' v l := by
  obtain ⟨a, c, rfl, ha, hc⟩ := h
  refine ⟨a, c, rfl, ha, fun i x hx => ?_⟩
  obtain ⟨b, o, rfl, h1⟩ := hc i x hx
  exact ⟨b, o, rfl, (hb.cell (p := ⟨b, o + i, none⟩) (World.block_lt_of_cell? w _ h1)).trans h1⟩
theorem TextsAt.nil (w : World) : TextsAt w (.slice none 0 0) [] := ⟨none, 0, rfl, fun _ => rfl, fun i x h => by simp at h⟩
def strs (xs : List ByteArray) : List Value := xs.map Value.string
theorem strs_length (xs : List ByteArray) : (strs xs).length = xs.length := by simp [strs]
theorem strs_append (a b : List ByteArray) : strs (a ++ b) = strs a ++ strs b := by simp [strs]
theorem row_cell {W : World} {base e size n : Nat} {g cap : Nat} {xs : List Value} (h : W.ownsRow base e size (.slice (some ⟨g, 0, none⟩) n cap) n xs) (j : Nat) (u : Value) (hu : xs[j]? = some u) : W.cell? ⟨g, j, none⟩ = some u := by
  rcases h.2 with ⟨hv, _⟩ | ⟨g', cap', cur, hv, _, hg, _, _, _, hx⟩
  · cases hv
  · cases hv
    have hj : j < xs.length := (List.getElem?_eq_some_iff.1 hu).1
    have h2 : cur[j]? = some u := by
      rw [← Array.getElem?_toList]
      have h3 : (cur.toList.take xs.length)[j]? = some u := by rw [h.1, hx]; exact hu
      rwa [List.getElem?_take, if_pos hj] at h3
    simp [World.cell?, hg, h2]
theorem TextsAt.own {w : World} {B : Nat} {v : Value} {l : List ByteArray} (h : w.ownsRow B 9 1 v l.length (strs l)) : TextsAt w v l := by
  have h2 := h
  rcases h.2 with ⟨hv, h0⟩ | ⟨g, cap, cur, hv, _⟩
  · subst hv
    obtain rfl : l = [] := List.length_eq_zero_iff.1 h0
    exact TextsAt.nil w
  · subst hv
    exact ⟨_, _, rfl, (fun e => nomatch e), fun i x hx => ⟨g, 0, rfl, by rw [Nat.zero_add]; exact row_cell h2 i _ (by simp [strs, hx])⟩⟩
/-- How much a list of texts weighs. -/
def wt (l : List ByteArray) : Nat := (l.map fun x => x.size + 1).sum
theorem wt_append (a b : List ByteArray) : wt (a ++ b) = wt a + wt b := by simp [wt]
theorem wt_take_succ (l : List ByteArray) (k : Nat) (x : ByteArray) (h : l[k]? = some x) : wt (l.take (k + 1)) = wt (l.take k) + x.size + 1 := by
  rw [List.take_add_one, h, wt_append]; simp [wt]; omega
theorem wt_take_le (l : List ByteArray) (k : Nat) : wt (l.take k) ≤ wt l := by
  conv => rhs; rw [← List.take_append_drop k l, wt_append]
  omega
theorem length_wt (l : List ByteArray) : l.length ≤ wt l := by
  induction l with
  | nil => simp [wt]
  | cons x l ih => simp [wt] at ih ⊢; omega
theorem size_wt {l : List ByteArray} {x : ByteArray} (h : x ∈ l) : x.size + 1 ≤ wt l := by
  obtain ⟨a, b, rfl⟩ := List.append_of_mem h
  rw [wt_append]; simp [wt]; omega

theorem str_info : (Tryz.prog.info? 9).map (fun i => (i.zero, i.size, i.bytes)) = some (some (.string ⟨#[]⟩), 1, 16) := by kernel_rfl
end Go.Proofs.YtjgijbeedgggdaaGreatDoor

namespace Go.Proofs.YtjgijbeedgggdaaGreatDoor
open Go Go.RowKit

theorem trimR_13 (x : Ln) : trimR (x ++ [13]) = trimR x := by
  unfold trimR
  rw [List.reverse_append]
  show (([13] ++ x.reverse).dropWhile (· == 13)).reverse = _
  rw [List.singleton_append, List.dropWhile_cons_of_pos (p := fun b : UInt8 => b == 13) (by decide)]
theorem trimR_end (x : Ln) (b : UInt8) (h : b ≠ 13) : trimR (x ++ [b]) = x ++ [b] := by
  unfold trimR
  rw [List.reverse_append]
  show (([b] ++ x.reverse).dropWhile (· == 13)).reverse = _
  rw [List.singleton_append, List.dropWhile_cons_of_neg (p := fun b : UInt8 => b == 13) (by simp [h])]
  simp
theorem seg_snoc (x : Ln) (fr e : Nat) (b : UInt8) (h : x[e]? = some b) (hf : fr ≤ e) : (x.take (e + 1)).drop fr = (x.take e).drop fr ++ [b] := by
  have he := (List.getElem?_eq_some_iff.1 h).1
  rw [List.take_add_one, h, List.drop_append_of_le_length (by rw [List.length_take]; omega)]; rfl
theorem own_ge' {W : World} {base e size k : Nat} {v : Value} {xs : List Value} (h : W.ownsRow base e size v k xs) : ∀ j, some j = v.ownBlock → base ≤ j := by
  intro j hj
  rcases h.2 with ⟨rfl, _⟩ | ⟨g, cap, cur, rfl, hg, hgb, _⟩
  · simp [Value.ownBlock] at hj
  · simp [Value.ownBlock] at hj; subst hj; exact hg
theorem cell_one'' (w : World) (x : Value) (t : TypeId) : ∀ (j : Nat) u, [x][j]? = some u → (w.alloc (.cells #[x] t)).cell? ((⟨w.heap.size, 0, none⟩ : Addr).add j) = some u := by
  intro j u hj
  rcases j with _ | j
  · simp at hj; subst hj; simp [Addr.add]
  · simp at hj
def CutI (s : Ln) (i fr : Nat) (out : List Ln) : Prop :=
  (i ≤ s.length ∧ fr ≤ i ∧ cutL s = out ++ (segsG ((s.take i).drop fr) (s.drop i)).map trimR) ∨ (i = s.length + 1 ∧ cutL s = out)
theorem CutI.start (s : Ln) : CutI s 0 0 [] := .inl ⟨Nat.zero_le _, Nat.le_refl _, by simp [cutL]⟩
theorem CutI.on {s : Ln} {i fr : Nat} {out : List Ln} {b : UInt8} (h : CutI s i fr out) (hb : s[i]? = some b) (h10 : b ≠ 10) : CutI s (i + 1) fr out := by
  have hi := (List.getElem?_eq_some_iff.1 hb).1
  rcases h with ⟨h1, h2, h3⟩ | ⟨h1, _⟩
  · refine .inl ⟨by omega, by omega, ?_⟩
    rw [h3, seg_snoc s fr i b hb h2]
    have : s.drop i = b :: s.drop (i + 1) := by
      rw [List.drop_eq_getElem_cons hi]; congr 1
      rw [List.getElem?_eq_getElem hi] at hb; exact Option.some.inj hb
    rw [this, segsG, if_neg h10]
  · omega
theorem CutI.cut {s : Ln} {i fr : Nat} {out : List Ln} (h : CutI s i fr out) (hb : s[i]? = some 10) : CutI s (i + 1) (i + 1) (out ++ [trimR ((s.take i).drop fr)]) := by
  have hi := (List.getElem?_eq_some_iff.1 hb).1
  rcases h with ⟨h1, h2, h3⟩ | ⟨h1, _⟩
  · refine .inl ⟨by omega, Nat.le_refl _, ?_⟩
    have : s.drop i = 10 :: s.drop (i + 1) := by
      rw [List.drop_eq_getElem_cons hi]; congr 1
      rw [List.getElem?_eq_getElem hi] at hb; exact Option.some.inj hb
    have hz : (s.take (i + 1)).drop (i + 1) = [] := List.drop_of_length_le (by rw [List.length_take]; omega)
    rw [h3, this, segsG, if_pos rfl, hz]
    simp
  · omega
theorem CutI.last {s : Ln} {fr : Nat} {out : List Ln} (h : CutI s s.length fr out) (hf : fr < s.length) : CutI s (s.length + 1) (s.length + 1) (out ++ [trimR ((s.take s.length).drop fr)]) := by
  rcases h with ⟨h1, h2, h3⟩ | ⟨h1, _⟩
  · refine .inr ⟨rfl, ?_⟩
    rw [h3, List.drop_length, segsG, if_neg (fun e => by have := congrArg List.length e; rw [List.length_drop, List.length_take, List.length_nil] at this; omega)]
    rfl
  · omega
theorem CutI.none {s : Ln} {out : List Ln} (h : CutI s s.length s.length out) : CutI s (s.length + 1) s.length out := by
  rcases h with ⟨h1, h2, h3⟩ | ⟨h1, _⟩
  · refine .inr ⟨rfl, ?_⟩
    rw [h3, List.drop_length, List.drop_of_length_le (by rw [List.length_take]; omega)]
    simp [segsG]
  · omega
theorem CutI.bound {s : Ln} {i fr : Nat} {out : List Ln} (h : CutI s i fr out) (hi : i ≤ s.length) : fr ≤ i := by
  rcases h with ⟨_, h2, _⟩ | ⟨h1, _⟩
  · exact h2
  · omega
set_option maxRecDepth 100000 in
set_option maxHeartbeats 4000000 in
theorem cut_r (s : ByteArray) (w : World) (hs : s.size ≤ 1073741824) : Calls Tryz.prog 24 #[.string s] w fun e w' => ∃ v, e = .returned v ∧ w'.ownsRow w.heap.size 9 1 v (cutL (un s)).length (strs ((cutL (un s)).map bs)) ∧ Below w.heap.size w w' := by
  obtain ⟨i0, hi, z0, z1, z2⟩ := info_parts str_info
  have hsl := un_length s
  go_enter Tryz.func24, Tryz.ntmps24
  go_wp2
  go_loopw [3, 4, 5, 6] (fun v fv iv _ wr => ∃ (i fr : Nat) (out : List Ln), iv = .int .i64 i ∧ fv = .int .i64 fr ∧ i ≤ s.size + 1 ∧ fr ≤ s.size + 1 ∧ out.length ≤ i ∧ Hid (CutI (un s) i fr out) ∧ wr.ownsRow w.heap.size 9 1 v out.length (strs (out.map bs)) ∧ Below w.heap.size w wr) (fun _ _ iv _ _ => s.size + 1 - (intOf iv).toNat)
  case atStart => exact ⟨0, 0, [], rfl, rfl, by omega, by omega, Nat.le_refl _, CutI.start _, World.ownsRow_nil _ _ _ _, Below.refl _ _⟩
  case round =>
    obtain ⟨i, fr, out, rfl, rfl, hi1, hf1, hol, HI, hown, hB⟩ := hrel
    have hsz := hB.size
    have k0 : (0 : Int) ≤ (i : Int) := by omega
    by_cases hle : i ≤ s.size
    rotate_left
    · have k1 : ¬ (i : Int) ≤ (s.size : Int) := by omega
      have HE : Hid (cutL (un s) = out) := by
        rcases HI.out with ⟨h, _⟩ | ⟨_, h⟩
        · omega
        · exact h
      go_wp2
      go_ret
      exact ⟨_, rfl, by rw [HE.out]; exact hown, hB⟩
    have k1 : (i : Int) ≤ (s.size : Int) := by omega
    have hfr := HI.out.bound (by omega)
    by_cases hstep : (∃ h : i < s.size, s[i] ≠ 10) ∨ (i = s.size ∧ fr = i)
    · rcases hstep with ⟨hlt, h10⟩ | ⟨hi2, hf2⟩
      · have hget := un_getElem? s i hlt
        have q1 : ((s[i].toNat : Int) != 10) = true := by
          unfold bne; rw [show ((s[i].toNat : Int) == 10) = decide (s[i] = 10) from beq_b8 _ 10 (by decide), decide_eq_false h10]; rfl
        have k2 : (i : Int) < (s.size : Int) := by omega
        have HI2 : Hid (CutI (un s) (i + 1) fr out) := HI.out.on hget h10
        clear hget h10 HI
        go_wp2
        first
          | exact ⟨⟨i + 1, fr, out, by go_num, rfl, by omega, hf1, by omega, HI2, hown, hB⟩, by simp [intOf]; omega⟩
          | (go_roundw
             case rel => exact ⟨i + 1, fr, out, by go_num, rfl, by omega, hf1, by omega, HI2, hown, hB⟩
             case measure => simp [intOf]; omega)
      · subst hf2
        subst hi2
        have k2 : ¬ (s.size : Int) < (s.size : Int) := by omega
        have q1 : ((s.size : Int) == (s.size : Int)) = true := by simp
        have HI2 : Hid (CutI (un s) (s.size + 1) s.size out) := by have := HI.out; unfold Hid; rw [← hsl] at this ⊢; exact this.none
        clear HI
        go_wp2
        first
          | exact ⟨⟨s.size + 1, s.size, out, by go_num, rfl, by omega, hf1, by omega, HI2, hown, hB⟩, by simp [intOf]⟩
          | (go_roundw
             case rel => exact ⟨s.size + 1, s.size, out, by go_num, rfl, by omega, hf1, by omega, HI2, hown, hB⟩
             case measure => simp [intOf])
    · have HI2 : Hid (CutI (un s) (i + 1) (i + 1) (out ++ [trimR (((un s).take i).drop fr)])) := by
        by_cases hlt : i < s.size
        · have h10 : s[i] = 10 := Classical.byContradiction (fun h => hstep (.inl ⟨hlt, h⟩))
          exact HI.out.cut (by rw [un_getElem? s i hlt, h10])
        · have : i = (un s).length := by omega
          subst this
          exact HI.out.last (by
            rcases Nat.lt_or_ge fr (un s).length with h | h
            · exact h
            · exact absurd (.inr ⟨by omega, by omega⟩) hstep)
      have tl : ∀ e, fr ≤ e → e ≤ i → Hid (trimR (((un s).take e).drop fr) = trimR (((un s).take i).drop fr)) → (e = fr ∨ ∃ (m : Nat) (b : UInt8), e = m + 1 ∧ (un s)[m]? = some b ∧ b ≠ 13 ∧ fr ≤ m) → Hid (s.extract fr e = bs (trimR (((un s).take i).drop fr))) := by
        intro e he1 he2 he3 he4
        unfold Hid
        rw [← he3.out]
        apply un_inj
        rw [un_extract, un_bs]
        rcases he4 with rfl | ⟨m, b, rfl, hb, h13, hm⟩
        · rw [List.drop_of_length_le (by rw [List.length_take]; omega)]; rfl
        · rw [seg_snoc (un s) fr m b hb hm, trimR_end _ _ h13]
      have TL : Hid _ := tl
      clear tl
      have main : ∀ (q : Bool), True := fun _ => trivial
      by_cases hlt : i < s.size
      · have h10 : s[i] = 10 := Classical.byContradiction (fun h => hstep (.inl ⟨hlt, h⟩))
        have q1 : ((s[i].toNat : Int) != 10) = false := by
          unfold bne; rw [show ((s[i].toNat : Int) == 10) = decide (s[i] = 10) from beq_b8 _ 10 (by decide), decide_eq_true h10]; rfl
        have k2 : (i : Int) < (s.size : Int) := by omega
        have q2 : ((i : Int) == (s.size : Int)) = false := by simp; omega
        clear h10 hstep HI main
        go_wp2
        go_loopw [6] (fun ev wr2 => ∃ e : Nat, ev = .int .i64 e ∧ fr ≤ e ∧ e ≤ i ∧ Hid (trimR (((un s).take e).drop fr) = trimR (((un s).take i).drop fr)) ∧ wr2 = wr) (fun ev _ => (intOf ev).toNat)
        case atStart => exact ⟨i, rfl, hfr, Nat.le_refl _, rfl, rfl⟩
        case round =>
          rename_i wz
          obtain ⟨e, rfl, he1, he2, HT, hwr⟩ := hrel
          subst hwr
          have j1 : (0 : Int) ≤ (fr : Int) := by omega
          have j2 : (fr : Int) ≤ (e : Int) := by omega
          have j3 : (e : Int) ≤ (s.size : Int) := by omega
          by_cases hef : fr < e
          · obtain ⟨m, rfl⟩ : ∃ m, e = m + 1 := ⟨e - 1, by omega⟩
            have hm : m < s.size := by omega
            have hgm := un_getElem? s m hm
            have e1 : (((m + 1 : Nat) : Int) - 1) = (m : Int) := by omega
            have j4 : (fr : Int) < ((m + 1 : Nat) : Int) := by omega
            have j5 : (0 : Int) ≤ (m : Int) := by omega
            have j6 : (m : Int) < (s.size : Int) := by omega
            have q3 : ((s[m].toNat : Int) == 13) = decide (s[m] = 13) := beq_b8 _ 13 (by decide)
            by_cases h13 : s[m] = 13
            · rw [decide_eq_true h13] at q3
              have HT2 : Hid (trimR (((un s).take m).drop fr) = trimR (((un s).take i).drop fr)) := by
                unfold Hid
                rw [← HT.out, seg_snoc (un s) fr m 13 (by rw [hgm, h13]) (by omega), trimR_13]
              clear hgm h13 HT TL
              go_wp2
              first
                | exact ⟨⟨m, by go_num, by omega, by omega, HT2, by first | rfl | trivial⟩, by simp [intOf]⟩
                | (go_roundw
                   case rel => exact ⟨m, by go_num, by omega, by omega, HT2, by first | rfl | trivial⟩
                   case measure => simp [intOf])
            · rw [decide_eq_false h13] at q3
              have HE := TL.out (m + 1) he1 he2 HT (.inr ⟨m, s[m], rfl, hgm, h13, by omega⟩)
              clear hgm h13 HT TL
              go_wp2_with (at_builtin; refine wpList_append_own _ rfl _ _ 70 rfl w.heap.size 9 i0 (.string ⟨#[]⟩) 1 16 Tryz.underlying70 hi z0 z1 z2 rfl (by decide) _ _ _ rfl (hown.alloc _) ⟨wr.heap.size, 0, none⟩ 1 1 [.string (s.extract fr (m + 1))] rfl rfl (cell_one'' _ _ _) (by simp [Value.oneCell']) (by unfold maxLen; omega) (by omega) (by simp; omega) ?_; intro v1 w1 hown1 hgrow1 _)
              have hb1 : Below w.heap.size w w1 := (hB.alloc hsz _).grown hgrow1 (by simp; omega) (fun j hj => own_ge' hown j hj.symm)
              have hfin : w1.ownsRow w.heap.size 9 1 v1 (out ++ [trimR (((un s).take i).drop fr)]).length (strs ((out ++ [trimR (((un s).take i).drop fr)]).map bs)) := by
                rw [List.map_append, strs_append, List.length_append, List.map_cons, ← HE.out]; exact hown1
              first
                | exact ⟨⟨i + 1, i + 1, _, by go_num, by go_num, by omega, by omega, by rw [List.length_append]; simp; omega, HI2, hfin, hb1⟩, by simp [intOf]; omega⟩
                | (go_roundw
                   case rel => exact ⟨i + 1, i + 1, _, by go_num, by go_num, by omega, by omega, by rw [List.length_append]; simp; omega, HI2, hfin, hb1⟩
                   case measure => simp [intOf]; omega)
          · obtain rfl : e = fr := by omega
            have HE := TL.out e he1 he2 HT (.inl rfl)
            have HEE : Hid (s.extract e e = ByteArray.empty) := by
              unfold Hid
              apply un_inj
              rw [un_extract, List.drop_of_length_le (by rw [List.length_take]; omega)]; rfl
            have j4 : ¬ (e : Int) < (e : Int) := by omega
            clear HT TL
            go_wp2_with (at_builtin; refine wpList_append_own _ rfl _ _ 70 rfl w.heap.size 9 i0 (.string ⟨#[]⟩) 1 16 Tryz.underlying70 hi z0 z1 z2 rfl (by decide) _ _ _ rfl (hown.alloc _) ⟨wr.heap.size, 0, none⟩ 1 1 [.string ByteArray.empty] rfl rfl (cell_one'' _ _ _) (by simp [Value.oneCell']) (by unfold maxLen; omega) (by omega) (by simp; omega) ?_; intro v1 w1 hown1 hgrow1 _)
            have hb1 : Below w.heap.size w w1 := (hB.alloc hsz _).grown hgrow1 (by simp; omega) (fun j hj => own_ge' hown j hj.symm)
            have hfin : w1.ownsRow w.heap.size 9 1 v1 (out ++ [trimR (((un s).take i).drop e)]).length (strs ((out ++ [trimR (((un s).take i).drop e)]).map bs)) := by
              rw [List.map_append, strs_append, List.length_append, List.map_cons, ← HE.out, HEE.out]; exact hown1
            first
              | exact ⟨⟨i + 1, i + 1, _, by go_num, by go_num, by omega, by omega, by rw [List.length_append]; simp; omega, HI2, hfin, hb1⟩, by simp [intOf]; omega⟩
              | (go_roundw
                 case rel => exact ⟨i + 1, i + 1, _, by go_num, by go_num, by omega, by omega, by rw [List.length_append]; simp; omega, HI2, hfin, hb1⟩
                 case measure => simp [intOf]; omega)
      · obtain rfl : i = s.size := by omega
        have hff : fr < s.size := by
          rcases Nat.lt_or_ge fr s.size with h | h
          · exact h
          · exact absurd (.inr ⟨rfl, by omega⟩) hstep
        have k2 : ¬ (s.size : Int) < (s.size : Int) := by omega
        have q2 : ((s.size : Int) == (s.size : Int)) = true := by simp
        have q3 : ((fr : Int) == (s.size : Int)) = false := by simp; omega
        clear hstep HI main
        go_wp2
        go_loopw [6] (fun ev wr2 => ∃ e : Nat, ev = .int .i64 e ∧ fr ≤ e ∧ e ≤ s.size ∧ Hid (trimR (((un s).take e).drop fr) = trimR (((un s).take s.size).drop fr)) ∧ wr2 = wr) (fun ev _ => (intOf ev).toNat)
        case atStart => exact ⟨s.size, rfl, hfr, Nat.le_refl _, rfl, rfl⟩
        case round =>
          rename_i wz
          obtain ⟨e, rfl, he1, he2, HT, hwr⟩ := hrel
          subst hwr
          have j1 : (0 : Int) ≤ (fr : Int) := by omega
          have j2 : (fr : Int) ≤ (e : Int) := by omega
          have j3 : (e : Int) ≤ (s.size : Int) := by omega
          by_cases hef : fr < e
          · obtain ⟨m, rfl⟩ : ∃ m, e = m + 1 := ⟨e - 1, by omega⟩
            have hm : m < s.size := by omega
            have hgm := un_getElem? s m hm
            have e1 : (((m + 1 : Nat) : Int) - 1) = (m : Int) := by omega
            have j4 : (fr : Int) < ((m + 1 : Nat) : Int) := by omega
            have j5 : (0 : Int) ≤ (m : Int) := by omega
            have j6 : (m : Int) < (s.size : Int) := by omega
            have q4 : ((s[m].toNat : Int) == 13) = decide (s[m] = 13) := beq_b8 _ 13 (by decide)
            by_cases h13 : s[m] = 13
            · rw [decide_eq_true h13] at q4
              have HT2 : Hid (trimR (((un s).take m).drop fr) = trimR (((un s).take s.size).drop fr)) := by
                unfold Hid
                rw [← HT.out, seg_snoc (un s) fr m 13 (by rw [hgm, h13]) (by omega), trimR_13]
              clear hgm h13 HT TL
              go_wp2
              first
                | exact ⟨⟨m, by go_num, by omega, by omega, HT2, by first | rfl | trivial⟩, by simp [intOf]⟩
                | (go_roundw
                   case rel => exact ⟨m, by go_num, by omega, by omega, HT2, by first | rfl | trivial⟩
                   case measure => simp [intOf])
            · rw [decide_eq_false h13] at q4
              have HE := TL.out (m + 1) he1 he2 HT (.inr ⟨m, s[m], rfl, hgm, h13, by omega⟩)
              clear hgm h13 HT TL
              go_wp2_with (at_builtin; refine wpList_append_own _ rfl _ _ 70 rfl w.heap.size 9 i0 (.string ⟨#[]⟩) 1 16 Tryz.underlying70 hi z0 z1 z2 rfl (by decide) _ _ _ rfl (hown.alloc _) ⟨wr.heap.size, 0, none⟩ 1 1 [.string (s.extract fr (m + 1))] rfl rfl (cell_one'' _ _ _) (by simp [Value.oneCell']) (by unfold maxLen; omega) (by omega) (by simp; omega) ?_; intro v1 w1 hown1 hgrow1 _)
              have hb1 : Below w.heap.size w w1 := (hB.alloc hsz _).grown hgrow1 (by simp; omega) (fun j hj => own_ge' hown j hj.symm)
              have hfin : w1.ownsRow w.heap.size 9 1 v1 (out ++ [trimR (((un s).take s.size).drop fr)]).length (strs ((out ++ [trimR (((un s).take s.size).drop fr)]).map bs)) := by
                rw [List.map_append, strs_append, List.length_append, List.map_cons, ← HE.out]; exact hown1
              first
                | exact ⟨⟨s.size + 1, s.size + 1, _, by go_num, by go_num, by omega, by omega, by rw [List.length_append]; simp; omega, HI2, hfin, hb1⟩, by simp [intOf]⟩
                | (go_roundw
                   case rel => exact ⟨s.size + 1, s.size + 1, _, by go_num, by go_num, by omega, by omega, by rw [List.length_append]; simp; omega, HI2, hfin, hb1⟩
                   case measure => simp [intOf])
          · obtain rfl : e = fr := by omega
            have HE := TL.out e he1 he2 HT (.inl rfl)
            have HEE : Hid (s.extract e e = ByteArray.empty) := by
              unfold Hid
              apply un_inj
              rw [un_extract, List.drop_of_length_le (by rw [List.length_take]; omega)]; rfl
            have j4 : ¬ (e : Int) < (e : Int) := by omega
            clear HT TL
            go_wp2_with (at_builtin; refine wpList_append_own _ rfl _ _ 70 rfl w.heap.size 9 i0 (.string ⟨#[]⟩) 1 16 Tryz.underlying70 hi z0 z1 z2 rfl (by decide) _ _ _ rfl (hown.alloc _) ⟨wr.heap.size, 0, none⟩ 1 1 [.string ByteArray.empty] rfl rfl (cell_one'' _ _ _) (by simp [Value.oneCell']) (by unfold maxLen; omega) (by omega) (by simp; omega) ?_; intro v1 w1 hown1 hgrow1 _)
            have hb1 : Below w.heap.size w w1 := (hB.alloc hsz _).grown hgrow1 (by simp; omega) (fun j hj => own_ge' hown j hj.symm)
            have hfin : w1.ownsRow w.heap.size 9 1 v1 (out ++ [trimR (((un s).take s.size).drop e)]).length (strs ((out ++ [trimR (((un s).take s.size).drop e)]).map bs)) := by
              rw [List.map_append, strs_append, List.length_append, List.map_cons, ← HE.out, HEE.out]; exact hown1
            first
              | exact ⟨⟨s.size + 1, s.size + 1, _, by go_num, by go_num, by omega, by omega, by rw [List.length_append]; simp; omega, HI2, hfin, hb1⟩, by simp [intOf]⟩
              | (go_roundw
                 case rel => exact ⟨s.size + 1, s.size + 1, _, by go_num, by go_num, by omega, by omega, by rw [List.length_append]; simp; omega, HI2, hfin, hb1⟩
                 case measure => simp [intOf])
end Go.Proofs.YtjgijbeedgggdaaGreatDoor

namespace Go.Proofs.YtjgijbeedgggdaaGreatDoor
open Go Go.RowKit

def addE (ec : UInt8) : Except Flt (List LL) → Except Flt (UInt8 × List LL)
  | .error x => .error x
  | .ok ls => .ok (ec, ls)
theorem lexL_ck (s : Ln) : lexL s = (match ckL s with
    | some x => .error x
    | none => match dirsL (cutL s) with
        | .error x => .error x
        | .ok (i, e) => match linesG e (cutL s) ((cutL s).length + 1) i with
          | .error x => .error x
          | .ok ls => .ok (e, ls)) := by
  unfold lexL ckL
  by_cases h1 : 65536 < s.length
  · rw [if_pos h1, if_pos h1]
  · rw [if_neg h1, if_neg h1]
    cases wrongU s.length s 1 1 with
    | some p => rfl
    | none =>
      simp only
      by_cases h2 : 4096 < (cutL s).length
      · rw [if_pos h2, if_pos h2]
      · rw [if_neg h2, if_neg h2]
        rfl
theorem ck_none {s : Ln} (h : ckL s = none) : s.length ≤ 65536 ∧ (cutL s).length ≤ 4096 := by
  unfold ckL at h
  by_cases h1 : 65536 < s.length
  · rw [if_pos h1] at h; cases h
  · rw [if_neg h1] at h
    cases hw : wrongU s.length s 1 1 with
    | some p => rw [hw] at h; cases h
    | none =>
      rw [hw] at h
      simp only at h
      by_cases h2 : 4096 < (cutL s).length
      · rw [if_pos h2] at h; cases h
      · omega
theorem dirs_facts (f : List Ln) (k : Nat) (ec : UInt8) (h : dirsL f = .ok (k, ec)) : (ec = 92 ∨ ec = 96) ∧ k ≤ f.length := by
  unfold dirsL at h
  cases f with
  | nil => cases h; exact ⟨.inl rfl, by simp⟩
  | cons x r =>
    simp only at h
    cases hd : dirAt x with
    | none => rw [hd] at h; cases h; exact ⟨.inl rfl, by simp⟩
    | some a =>
      rw [hd] at h
      simp only at h
      split at h
      · rename_i hv
        have he : ((trimL (x.drop (a + 1))).headD 92 = 92 ∨ (trimL (x.drop (a + 1))).headD 92 = 96) := by
          rcases hv with e | e <;> rw [e]
          · exact .inl rfl
          · exact .inr rfl
        cases r with
        | nil => cases h; exact ⟨he, by simp⟩
        | cons y r =>
          simp only at h
          split at h
          · cases h
          · cases h; exact ⟨he, by simp⟩
      · cases h
theorem ErrType.belowE {w w' : World} (h : ErrType w) (hb : Below w.heap.size w w') : ErrType w' := cell_belowE hb h
/-- What Lines answers. -/
def LinesP (s : Ln) (w : World) (e : Ending) (w' : World) : Prop := Below w.heap.size w w' ∧ (match lexL s with
  | .error (no, l, a) => e = .returned (.tuple #[.int .u8 0, nilS, fltV no l a])
  | .ok (ec, ls) => ∃ v us, e = .returned (.tuple #[.int .u8 ec.toNat, v, .nilIface]) ∧ LnsAt w' w.heap.size v us ls)
set_option maxRecDepth 100000 in
set_option maxHeartbeats 1000000 in
theorem lines_p (s : ByteArray) (w : World) (hT : Tabs w) (hE : ErrType w) : Calls Tryz.prog 10 #[.string s] w (LinesP (un s) w) := by
  have hck := checkSource_p s w (fun W hW => hT.below hW)
  have HL : Hid (lexL (un s) = _) := lexL_ck (un s)
  cases hc : ckL (un s) with
  | some x =>
    obtain ⟨no, l, a⟩ := x
    rw [hc] at hck
    simp only [ckV] at hck
    have HR : Hid (lexL (un s) = .error (no, l, a)) := by unfold Hid; rw [HL.out, hc]
    clear hc HL
    go_enter Tryz.func10, Tryz.ntmps10
    go_wp2_with (go_at_call 39; refine hck.mono ?_; rintro e w1 ⟨rfl, b1⟩)
    go_ret3
    unfold LinesP
    rw [HR.out]
    exact ⟨b1, rfl⟩
  | none =>
    obtain ⟨h1, h2⟩ := ck_none hc
    rw [un_length] at h1
    rw [hc] at hck
    simp only [ckV] at hck
    have HL2 := HL.out
    rw [hc] at HL2
    replace HL2 : Hid _ := HL2
    clear hc HL
    go_enter Tryz.func10, Tryz.ntmps10
    go_wp2_with fail
    refine hck.mono ?_
    rintro e w1 ⟨rfl, b1⟩
    clear hck
    have LA := Lies.new w1 93 #[.string ⟨#[]⟩, .int .i64 0, .int .i64 0]
    have LA1 : Rd ((w1.alloc (.cells #[.string ⟨#[]⟩, .int .i64 0, .int .i64 0] 93)).setRow w1.heap.size #[.string s, .int .i64 0, .int .i64 0]) w1.heap.size s 0 0 := lies_setRow LA _
    have b2 : Below w1.heap.size w1 ((w1.alloc (.cells #[.string ⟨#[]⟩, .int .i64 0, .int .i64 0] 93)).setRow w1.heap.size #[.string s, .int .i64 0, .int .i64 0]) := below_setRow' ((Below.refl _ w1).alloc (Nat.le_refl _) _) (Nat.le_refl _) _
    have B2 := below_join b1 b2
    have hne : w.heap.size ≤ w1.heap.size := b1.size
    generalize hw2 : (w1.alloc (.cells #[.string ⟨#[]⟩, .int .i64 0, .int .i64 0] 93)).setRow w1.heap.size #[.string s, .int .i64 0, .int .i64 0] = w2 at *
    have hlt2 : w1.heap.size < w2.heap.size := Lies.lt LA1
    have hof : ∀ W, Oth w1.heap.size w2 W → Below w.heap.size w W := fun W hW => B2.trans (hW.below hne (by omega))
    have hDr := directives_p eqf w1.heap.size s w2 LA1 (fun W hW => hT.below (hof W hW)) (by omega)
    go_wp2_with (refine wpList_store_row rfl 93 (.tmp 6) (.tmp 17) rfl w1.heap.size #[.string s, .int .i64 0, .int .i64 0] rfl rfl 93 _ LA rd_size rfl (rd_one _ _ _) ?_; rw [hw2])
    refine hDr.mono ?_
    rintro e w3 ⟨o3, hway⟩
    clear hDr
    cases hd : dirsL (cutL (un s)) with
    | error x =>
      obtain ⟨no, l, a⟩ := x
      rw [hd] at hway
      simp only at hway
      subst hway
      have B3 := hof w3 o3
      have HR : Hid (lexL (un s) = .error (no, l, a)) := by unfold Hid; rw [HL2.out]; simp only [hd]
      clear HL2 hd
      go_wp2
      go_ret3
      unfold LinesP
      rw [HR.out]
      exact ⟨B3, rfl⟩
    | ok x =>
      obtain ⟨k, ec⟩ := x
      obtain ⟨d1, d2⟩ := dirs_facts _ k ec hd
      rw [hd] at hway
      simp only at hway
      obtain ⟨rfl, q, rd3, st3⟩ := hway
      obtain ⟨r, hr⟩ : ∃ r, linesG ec (cutL (un s)) ((cutL (un s)).length + 1) k = r := ⟨_, rfl⟩
      have hAl := all_p eqf w1.heap.size s q k ec w3 (fun W hW => hT.below (hof W (o3.trans hW))) (fun W hW => hE.belowE (hof W (o3.trans hW))) rd3 st3 (by rcases d1 with rfl | rfl <;> rfl) (by omega) (by omega) d2 r hr
      have HL3 : Hid (lexL (un s) = addE ec r) := by unfold Hid; rw [HL2.out]; simp only [hd, hr]; cases r <;> rfl
      clear d1 hd HL2
      go_wp2_with fail
      refine hAl.mono ?_
      rintro e w4 ⟨o4, hway⟩
      clear hAl hr
      have B4 := hof w4 (o3.trans o4)
      cases r with
      | error x =>
        obtain ⟨no, l, a⟩ := x
        simp only at hway
        subst hway
        have HR : Hid (lexL (un s) = .error (no, l, a)) := HL3
        clear HL3
        go_wp2
        go_ret3
        unfold LinesP
        rw [HR.out]
        exact ⟨B4, rfl⟩
      | ok ls =>
        simp only at hway
        obtain ⟨v, us, rfl, hv⟩ := hway
        have hb : w.heap.size ≤ w3.heap.size := by have := o3.size; omega
        have hv2 : LnsAt w4 w.heap.size v us ls := ⟨hv.len, row_lower2 hv.own hb, fun i x p a b => row_lower2 (hv.marks i x p a b) hb, fun i x p a b => row_lower2 (hv.docs i x p a b) hb⟩
        have HR : Hid (lexL (un s) = .ok (ec, ls)) := HL3
        clear HL3 hv
        go_wp2
        go_ret3
        unfold LinesP
        rw [HR.out]
        exact ⟨B4, v, us, rfl, hv2⟩
end Go.Proofs.YtjgijbeedgggdaaGreatDoor

namespace Go.Proofs.YtjgijbeedgggdaaGreatDoor
open Go Go.RowKit

theorem at_nil (l a : Int) (w : World) : Calls Tryz.prog 11 #[.nilIface, .int .i64 0, .int .i64 l, .int .i64 a] w fun e w' => e = .returned (.bool true) ∧ w' = w := by
  go_enter Tryz.func11, Tryz.ntmps11
  go_wp2
  go_ret
  exact ⟨rfl, rfl⟩
theorem num_nil' (w : World) : Calls Tryz.prog 12 #[.nilIface] w fun e w' => e = .returned (.int .i64 0) ∧ w' = w := by
  go_enter Tryz.func12, Tryz.ntmps12
  go_wp2
  go_ret
  exact ⟨rfl, rfl⟩
end Go.Proofs.YtjgijbeedgggdaaGreatDoor

namespace Go.Proofs.YtjgijbeedgggdaaGreatDoor
open Go Go.RowKit

structure LnC (W : World) (b q : Nat) (x : LL) (p : Value × Value) : Prop where
  c0 : W.cell? ⟨b, q, none⟩ = some (.int .i64 x.line)
  c1 : W.cell? ⟨b, q + 1, none⟩ = some (.string (bs x.text))
  c2 : W.cell? ⟨b, q + 2, none⟩ = some p.1
  c3 : W.cell? ⟨b, q + 3, none⟩ = some p.2
theorem LnC.below {W W2 : World} {b q : Nat} {x : LL} {p : Value × Value} (h : LnC W b q x p) (hb : Below W.heap.size W W2) : LnC W2 b q x p :=
  ⟨cell_belowE hb h.c0, cell_belowE hb h.c1, cell_belowE hb h.c2, cell_belowE hb h.c3⟩
/-- A list of lines that is read. -/
def LnsR (W : World) (v : Value) (us : List (Value × Value)) (ls : List LL) : Prop :=
  ∃ (a : Option Addr) (cap b : Nat), v = .slice a ls.length cap ∧ (ls ≠ [] → a = some ⟨b, 0, none⟩) ∧ ls.length ≤ cap ∧ us.length = ls.length ∧ ∀ (i : Nat) x p, ls[i]? = some x → us[i]? = some p → LnC W b (i * 4) x p ∧ MksAt W p.1 (x.marks.map Mk.z) ∧ ∃ a' c', p.2 = .slice a' x.docs.length c'
theorem LnsR.below {W W2 : World} {v : Value} {us : List (Value × Value)} {ls : List LL} (h : LnsR W v us ls) (hb : Below W.heap.size W W2) : LnsR W2 v us ls := by
  obtain ⟨a, cap, b, h1, h2, h3, h4, h5⟩ := h
  exact ⟨a, cap, b, h1, h2, h3, h4, fun i x p hx hp => ⟨(h5 i x p hx hp).1.below hb, (h5 i x p hx hp).2.1.below hb, (h5 i x p hx hp).2.2⟩⟩
theorem lcells_get : ∀ (ls : List LL) (us : List (Value × Value)) (k : Nat) (x : LL) (p : Value × Value), ls[k]? = some x → us[k]? = some p → ∀ j v, (lcell x p)[j]? = some v → (lcells ls us)[k * 4 + j]? = some v
  | [], us, k, x, p, h, _, j, v, hj => by simp at h
  | y :: ls, [], k, x, p, _, h, j, v, hj => by simp at h
  | y :: ls, u :: us, 0, x, p, h, hp, j, v, hj => by
    simp at h hp; subst h; subst hp
    have hl := (List.getElem?_eq_some_iff.1 hj).1
    show (lcell y u ++ lcells ls us)[0 * 4 + j]? = some v
    rw [Nat.zero_mul, Nat.zero_add, List.getElem?_append_left hl]; exact hj
  | y :: ls, u :: us, k + 1, x, p, h, hp, j, v, hj => by
    show (lcell y u ++ lcells ls us)[(k + 1) * 4 + j]? = some v
    rw [List.getElem?_append_right (by show 4 ≤ _; omega), show (k + 1) * 4 + j - (lcell y u).length = k * 4 + j by show _ - 4 = _; omega]
    exact lcells_get ls us k x p (by simpa using h) (by simpa using hp) j v hj
theorem lns_read {W : World} {base : Nat} {v : Value} {us : List (Value × Value)} {ls : List LL} (h : LnsAt W base v us ls) : LnsR W v us ls := by
  have hmd : ∀ (i : Nat) x p, ls[i]? = some x → us[i]? = some p → MksAt W p.1 (x.marks.map Mk.z) ∧ ∃ a' c', p.2 = .slice a' x.docs.length c' := fun i x p hx hp => by
    refine ⟨mks_of_owns (h.marks i x p hx hp), ?_⟩
    rcases (h.docs i x p hx hp).2 with ⟨e, h0⟩ | ⟨g, cap, cur, e, _⟩
    · exact ⟨none, 0, by rw [e, h0]⟩
    · exact ⟨_, _, e⟩
  rcases h.own.2 with ⟨rfl, h0⟩ | ⟨g, cap, cur, rfl, hg, hgb, hcap, _⟩
  · have : ls = [] := List.eq_nil_of_length_eq_zero h0
    subst this
    exact ⟨none, 0, 0, rfl, fun h => absurd rfl h, Nat.le_refl _, h.len, fun i x p hx => by simp at hx⟩
  · refine ⟨some ⟨g, 0, none⟩, cap, g, rfl, fun _ => rfl, hcap, h.len, fun i x p hx hp => ⟨?_, hmd i x p hx hp⟩⟩
    have hi := (List.getElem?_eq_some_iff.1 hx).1
    have hc : ∀ j u, (lcell x p)[j]? = some u → W.cell? ⟨g, i * 4 + j, none⟩ = some u := fun j u hj => by
      have hj2 : j < 4 := (List.getElem?_eq_some_iff.1 hj).1
      rw [h.own.cellAt (i * 4 + j) (by omega)]
      exact lcells_get ls us i x p hx hp j u hj
    exact ⟨hc 0 _ rfl, hc 1 _ rfl, hc 2 _ rfl, hc 3 _ rfl⟩
theorem lines_ok (s : ByteArray) (ec : UInt8) (ls : List LL) (h : lexL (un s) = .ok (ec, ls)) (w : World) (hT : Tabs w) (hE : ErrType w) : Calls Tryz.prog 10 #[.string s] w fun e w' => ∃ v us, e = .returned (.tuple #[.int .u8 ec.toNat, v, .nilIface]) ∧ LnsAt w' w.heap.size v us ls ∧ Below w.heap.size w w' := by
  refine (lines_p s w hT hE).mono ?_
  rintro e w' ⟨hb, hw⟩
  rw [h] at hw
  obtain ⟨v, us, rfl, hv⟩ := hw
  exact ⟨v, us, rfl, hv, hb⟩
theorem lines_err (s : ByteArray) (no l a : Nat) (h : lexL (un s) = .error (no, l, a)) (w : World) (hT : Tabs w) (hE : ErrType w) : Calls Tryz.prog 10 #[.string s] w fun e w' => e = .returned (.tuple #[.int .u8 0, nilS, fltV no l a]) ∧ Below w.heap.size w w' := by
  refine (lines_p s w hT hE).mono ?_
  rintro e w' ⟨hb, hw⟩
  rw [h] at hw
  exact ⟨hw, hb⟩
abbrev kL : ByteArray := ⟨#[65, 32, 92, 10, 98, 10]⟩
abbrev kD : ByteArray := ⟨#[67, 79, 80, 89, 32, 60, 60, 69, 32, 100, 10]⟩
theorem known_l : lexL (un kL) = .ok (92, [⟨1, [65, 32, 98], [⟨0, 1, 1⟩, ⟨2, 2, 1⟩], []⟩]) := by kernel_rfl
theorem known_d : lexL (un kD) = .error (26, 1, 6) := by kernel_rfl
set_option maxRecDepth 100000 in
set_option maxHeartbeats 1000000 in
theorem works_l (w : World) (hT : Tabs w) (hE : ErrType w) : Calls Tryz.prog 16 #[] w fun e w' => e = .returned (.bool true) ∧ Below w.heap.size w w' := by
  have hA := lines_ok kL _ _ known_l w hT hE
  go_enter Tryz.func16, Tryz.ntmps16
  go_wp2_with fail
  refine hA.mono ?_
  rintro e w1 ⟨v, us, rfl, hv, b1⟩
  have hB := lines_err kD _ _ _ known_d w1 (hT.below b1) (hE.belowE b1)
  go_wp2_with fail
  refine hB.mono ?_
  rintro e w2 ⟨rfl, b2⟩
  have B2 := below_join b1 b2
  obtain ⟨a, cap, b, rfl, ha, hcap, hul, hx⟩ := (lns_read hv).below b2
  obtain rfl := ha (by simp)
  obtain ⟨p, hp⟩ : ∃ p, us[0]? = some p := by
    cases us with
    | nil => simp at hul
    | cons p us => exact ⟨p, rfl⟩
  have k1 : w2.cell? ⟨b, 1, none⟩ = some (.string ⟨#[65, 32, 98]⟩) := (hx 0 _ p rfl hp).1.c1
  have hAt := at_p 26 1 6 (by decide) (by decide) w2 (hE.belowE B2)
  clear hA hB hv hx hp
  go_wp2_with (go_at_call 11; refine hAt.mono ?_; rintro e w3 ⟨rfl, b3⟩)
  go_ret
  exact ⟨rfl, below_join B2 b3⟩
end Go.Proofs.YtjgijbeedgggdaaGreatDoor

namespace Go.Proofs.YtjgijbeedgggdaaGreatDoor
open Go Go.RowKit

theorem lines_small (ec : UInt8) (s : Ln) (hs : s.length ≤ 1099511627776) : ∀ (fu i : Nat) (ls : List LL), linesG ec (cutL s) fu i = .ok ls → ls.length ≤ (cutL s).length - i ∧ ∀ x ∈ ls, x.text.length ≤ s.length ∧ x.marks.length ≤ (cutL s).length ∧ x.line ≤ (cutL s).length ∧ ∀ m ∈ x.marks, m.pos ≤ 1099511627776 ∧ m.col ≤ 1099511627776
  | 0, i, ls, h => by cases h; simp
  | fu + 1, i, ls, h => by
    unfold linesG at h
    cases hx : (cutL s)[i]? with
    | none => rw [hx] at h; cases h; simp
    | some x =>
      have hi := (List.getElem?_eq_some_iff.1 hx).1
      rw [hx] at h
      simp only at h
      split at h
      · obtain ⟨b1, b2⟩ := lines_small ec s hs fu (i + 1) ls h
        exact ⟨by omega, b2⟩
      · obtain ⟨j1, j2, j3, j4, j5⟩ := join_small ec s i x hs hx _ rfl
        split at h
        · obtain ⟨b1, b2⟩ := lines_small ec s hs fu _ ls h
          exact ⟨by omega, b2⟩
        · split at h
          · cases h
          · rename_i ds j hds
            split at h
            · cases h
            · rename_i ls' hls
              cases h
              have hj := docsL_le _ _ _ _ _ _ _ _ hds
              obtain ⟨b1, b2⟩ := lines_small ec s hs fu j ls' hls
              refine ⟨by rw [List.length_cons]; omega, fun y hy => ?_⟩
              rcases List.mem_cons.1 hy with rfl | hy
              · exact ⟨j1, j2, by simp only; omega, j5⟩
              · exact b2 y hy
/-- What the walk asks of the lines. -/
structure PcsF (f : List Ln) (ls : List LL) : Prop where
  few : ls.length ≤ 4096
  line : ∀ (i : Nat) (x : LL), ls[i]? = some x → ∃ n : Nat, x.line = n + 1 ∧ n < 4096
  rise : ∀ (i : Nat) (x y : LL), ls[i]? = some x → ls[i + 1]? = some y → x.line < y.line
  text : ∀ (i : Nat) (x : LL), ls[i]? = some x → x.text.length ≤ 65536 ∧ x.marks.length ≤ 4096
  first : ∀ (i : Nat) (x : LL), ls[i]? = some x → ∀ q : Mk, x.marks[0]? = some q → x.line ≤ q.line
  next : ∀ (i : Nat) (x : LL), ls[i]? = some x → ∀ (k : Nat) (p q : Mk), x.marks[k]? = some p → x.marks[k + 1]? = some q → p.line < q.line
  place : ∀ (i : Nat) (x : LL), ls[i]? = some x → ∀ k : Nat, k < x.text.length → ∃ (L C : Nat) (y : Ln) (c : UInt8), placeL x.line x.text x.marks k = (L + 1, C + 1) ∧ f[L]? = some y ∧ y[C]? = some c ∧ x.text[k]? = some c
  col : ∀ (i : Nat) (x : LL), ls[i]? = some x → ∀ m ∈ x.marks, m.pos ≤ 1099511627776 ∧ m.col ≤ 1099511627776
theorem pair_next {α : Type} {R : α → α → Prop} {l : List α} (h : l.Pairwise R) (i : Nat) (x y : α) (hx : l[i]? = some x) (hy : l[i + 1]? = some y) : R x y := by
  obtain ⟨h1, rfl⟩ := List.getElem?_eq_some_iff.1 hx
  obtain ⟨h2, rfl⟩ := List.getElem?_eq_some_iff.1 hy
  exact List.pairwise_iff_getElem.1 h i (i + 1) h1 h2 (by omega)
theorem pcs_of (s : Ln) (ec : UInt8) (ls : List LL) (h : lexL s = .ok (ec, ls)) : s.length ≤ 65536 ∧ (cutL s).length ≤ 4096 ∧ PcsF (cutL s) ls := by
  obtain ⟨h1, _, h3, i, _, h5⟩ := lexL_ok s ec ls h
  obtain ⟨b1, b2⟩ := lines_plc ec (cutL s) _ i ls h5
  obtain ⟨c1, c2⟩ := lines_small ec s (by omega) _ i ls h5
  refine ⟨h1, h3, by omega, ?_, fun i x y hx hy => pair_next b2 i x y hx hy, ?_, ?_, ?_, ?_, ?_⟩
  · intro i x hx
    have hm := List.mem_of_getElem? hx
    have := (b1 x hm).1.low
    have := (c2 x hm).2.2.1
    exact ⟨x.line - 1, by omega, by omega⟩
  · intro i x hx
    have hm := List.mem_of_getElem? hx
    have := (c2 x hm).1
    have := (c2 x hm).2.1
    omega
  · intro i x hx q hq
    exact (b1 x (List.mem_of_getElem? hx)).1.first q (List.mem_of_getElem? hq)
  · intro i x hx k p q hp hq
    exact pair_next (b1 x (List.mem_of_getElem? hx)).1.rise k p q hp hq
  · intro i x hx k hk
    obtain ⟨y, p1, p2, p3, p4, p5⟩ := (b1 x (List.mem_of_getElem? hx)).1.place k hk
    refine ⟨(placeL x.line x.text x.marks k).1 - 1, (placeL x.line x.text x.marks k).2 - 1, y, x.text[k], ?_, p3, ?_, List.getElem?_eq_getElem hk⟩
    · rw [Nat.sub_add_cancel p1, Nat.sub_add_cancel p2]
    · rw [p5, List.getElem?_eq_getElem hk]
  · intro i x hx m hm
    exact (c2 x (List.mem_of_getElem? hx)).2.2.2 m hm
theorem bs_get {y : Ln} {c : UInt8} {C : Nat} (h : y[C]? = some c) : ∃ hl : C < (bs y).size, (bs y)[C]'hl = c := by
  have hl : C < (bs y).size := by
    have := (List.getElem?_eq_some_iff.1 h).1
    rw [← un_length, un_bs]; exact this
  refine ⟨hl, ?_⟩
  have := un_getElem? (bs y) C hl
  rw [un_bs, h] at this
  exact (Option.some.inj this).symm
set_option maxRecDepth 100000 in
set_option maxHeartbeats 4000000 in
theorem lexplaces_law (s : ByteArray) (w : World) (hT : Tabs w) (hE : ErrType w) : Calls Tryz.prog 6 #[.string s] w fun e w' => e = .returned (.bool true) ∧ Below w.heap.size w w' := by
  have hWk : ∀ W, Below w.heap.size w W → Calls Tryz.prog 16 #[] W fun e w' => e = .returned (.bool true) ∧ Below W.heap.size W w' := fun W hW => works_l W (hT.below hW) (hE.belowE hW)
  cases hl : lexL (un s) with
  | error fl =>
    obtain ⟨no, l, a⟩ := fl
    have h1 := lines_err s no l a hl w hT hE
    clear hl
    go_enter Tryz.func6, Tryz.ntmps6
    go_wp2_with fail
    refine h1.mono ?_
    rintro e w2 ⟨rfl, b2⟩
    have h2 := hWk w2 b2
    go_wp2_with (go_at_call 16; refine h2.mono ?_; rintro e w3 ⟨rfl, b3⟩)
    go_ret
    exact ⟨rfl, below_join b2 b3⟩
  | ok pr =>
    obtain ⟨ec, ls⟩ := pr
    have h1 := lines_ok s ec ls hl w hT hE
    obtain ⟨hs, hf, hP⟩ := pcs_of _ _ _ hl
    rw [un_length] at hs
    have HP : Hid (PcsF (cutL (un s)) ls) := hP
    have hfew := hP.few
    clear hl hP
    go_enter Tryz.func6, Tryz.ntmps6
    go_wp2_with fail
    refine h1.mono ?_
    rintro e w2 ⟨v, us, rfl, hv, b2⟩
    have HV : Hid (LnsR w2 v us ls) := lns_read hv
    clear h1 hv
    have hC := cut_r s w2 (by omega)
    obtain ⟨a, cap, b, hva, ha, hcap, hul, hx⟩ := HV.out
    subst hva
    have HX : Hid (∀ (i : Nat) x, ls[i]? = some x → ∃ p, a = some ⟨b, 0, none⟩ ∧ LnC w2 b (i * 4) x p ∧ MksAt w2 p.1 (x.marks.map Mk.z)) := fun i x hi => by
      have hlt := (List.getElem?_eq_some_iff.1 hi).1
      obtain ⟨p, hp⟩ : ∃ p, us[i]? = some p := ⟨_, List.getElem?_eq_getElem (by omega)⟩
      exact ⟨p, ha (fun e => by rw [e] at hlt; exact absurd hlt (Nat.not_lt_zero _)), (hx i x p hi hp).1, (hx i x p hi hp).2.1⟩
    clear HV ha hx hul
    go_wp2_with fail
    refine hC.mono ?_
    rintro e w3 ⟨vf, rfl, hown, b3⟩
    have HF : Hid (TextsAt w3 vf ((cutL (un s)).map bs)) := TextsAt.own (by rw [List.length_map]; exact hown)
    have B3 := below_join b2 b3
    clear hC hown
    obtain ⟨fa, fc, hvf, _, hfx⟩ := HF.out
    rw [List.length_map] at hvf
    subst hvf
    have HFX : Hid (∀ (L : Nat) (y : Ln), (cutL (un s))[L]? = some y → ∃ fb fo, fa = some ⟨fb, fo, none⟩ ∧ w3.cell? ⟨fb, fo + L, none⟩ = some (.string (bs y))) := fun L y hy => hfx L (bs y) (by rw [List.getElem?_map, hy]; rfl)
    clear HF hfx
    have HX3 : Hid (∀ (i : Nat) x, ls[i]? = some x → ∃ p, a = some ⟨b, 0, none⟩ ∧ ∀ W, Below w3.heap.size w3 W → LnC W b (i * 4) x p ∧ MksAt W p.1 (x.marks.map Mk.z)) := fun i x hi => by
      obtain ⟨p, q1, q2, q3⟩ := HX.out i x hi
      exact ⟨p, q1, fun W hW => ⟨q2.below (below_join b3 hW), q3.below (below_join b3 hW)⟩⟩
    clear HX
    generalize hfl : (cutL (un s)).length = fl at *
    go_wp2
    go_loopw [7, 8, 9, 10, 11, 12, 13] (fun v7 v8 _ _ _ _ _ wr => ∃ i ab : Nat, v8 = .int .i64 i ∧ i ≤ ls.length ∧ v7 = .int .i64 ab ∧ Hid (∀ x, ls[i]? = some x → ab < x.line) ∧ Below w3.heap.size w3 wr) (fun _ v8 _ _ _ _ _ _ => ls.length - (intOf v8).toNat)
    case atStart => exact ⟨0, 0, rfl, Nat.zero_le _, rfl, fun x hx => by obtain ⟨n, hn, _⟩ := HP.out.line 0 x hx; omega, Below.refl _ _⟩
    case round =>
      obtain ⟨i, ab, rfl, hi, rfl, Hab, hbw⟩ := hrel
      by_cases hlt : i < ls.length
      · obtain ⟨x, hx⟩ : ∃ x, ls[i]? = some x := ⟨_, List.getElem?_eq_getElem hlt⟩
        obtain ⟨⟨mv, dv⟩, rfl, hW⟩ := HX3.out i x hx
        have HW : Hid (∀ W, Below w3.heap.size w3 W → LnC W b (i * 4) x (mv, dv) ∧ MksAt W mv (x.marks.map Mk.z)) := hW
        obtain ⟨hLn, hMk⟩ := HW.out wr hbw
        clear hW
        obtain ⟨n, hn, hn2⟩ := HP.out.line i x hx
        have hab := Hab.out x hx
        have k0 := hLn.c0
        have k1 := hLn.c1
        have k2 : wr.cell? ⟨b, i * 4 + 2, none⟩ = some mv := hLn.c2
        have k3 : wr.cell? ⟨b, i * 4 + 3, none⟩ = some dv := hLn.c3
        have HI : Hid (ls[i]? = some x) := hx
        have HLT : Hid (i < ls.length) := hlt
        have HN : Hid (x.line = n + 1) := hn
        rw [hn] at k0 hab
        have hTx := (HP.out.text i x hx).1
        have hMl := (HP.out.text i x hx).2
        obtain ⟨T, hTT⟩ : ∃ T, bs x.text = T := ⟨_, rfl⟩
        have hTs : T.size = x.text.length := by rw [← hTT, ← un_length, un_bs]
        rw [hTT] at k1
        have HTs : Hid (T.size = x.text.length) := hTs
        have hTs2 : T.size ≤ 65536 := by omega
        clear hTs hTx
        obtain ⟨ma, mcap, mb, mo, hmv, hma, hmcap, hmx⟩ := hMk
        rw [List.length_map] at hmv hmcap
        subst hmv
        have d0 : (0 : Int) ≤ (i : Int) := by omega
        have d1 : (i : Int) < (ls.length : Int) := by omega
        have d2 : ¬ ((n + 1 : Nat) : Int) ≤ (ab : Int) := by omega
        have e1 : (((n + 1 : Nat) : Int) - 1) = (n : Int) := by omega
        clear hx hn hab Hab hlt
        go_wp2
        go_loopw [9, 10] (fun v9 v10 wr2 => ∃ k la : Nat, v10 = .int .i64 k ∧ k ≤ x.marks.length ∧ v9 = .int .i64 la ∧ Hid (∀ q, x.marks[k]? = some q → la < q.line) ∧ wr2 = wr) (fun _ v10 _ => x.marks.length - (intOf v10).toNat)
        case atStart => exact ⟨0, n, rfl, Nat.zero_le _, by go_num, fun q hq => by have := HP.out.first i x HI.out q hq; have := HN.out; omega, rfl⟩
        case round =>
          rename_i wz
          obtain ⟨k, la, rfl, hk, rfl, Hla, hwr⟩ := hrel
          subst hwr
          by_cases hlt : k < x.marks.length
          · obtain ⟨q, hq⟩ : ∃ q, x.marks[k]? = some q := ⟨_, List.getElem?_eq_getElem hlt⟩
            have hla := Hla.out q hq
            obtain ⟨m0, m1, m2⟩ := hmx k q.z (by rw [List.getElem?_map, hq]; rfl)
            obtain rfl := hma (fun e => by have := congrArg List.length e; rw [List.length_map] at this; rw [this] at hlt; simp at hlt)
            have m1' : wr.cell? ⟨mb, mo + k * 3 + 1, none⟩ = some (.int .i64 (q.line : Int)) := m1
            have Hla2 : Hid (∀ q', x.marks[k + 1]? = some q' → q.line < q'.line) := fun q' hq' => HP.out.next i x HI.out k q q' hq hq'
            have f1 : (0 : Int) ≤ (k : Int) := by omega
            have f2 : (k : Int) < (x.marks.length : Int) := by omega
            have f3 : ¬ (q.line : Int) ≤ (la : Int) := by omega
            clear m0 m1 m2 hq hla Hla hlt
            go_wp2
            go_roundw
            case rel => exact ⟨k + 1, q.line, by go_num, by omega, rfl, Hla2, by first | rfl | trivial⟩
            case measure => simp [intOf]; omega
          · have f2 : ¬ (k : Int) < (x.marks.length : Int) := by omega
            clear Hla k0 k1 k3 hmx hLn
            go_wp2
            clear k2
            go_loopw [11, 12, 13] (fun v11 _ _ wr3 => ∃ at1 : Nat, v11 = .int .i64 at1 ∧ at1 ≤ T.size ∧ Below w3.heap.size w3 wr3) (fun v11 _ _ _ => T.size - (intOf v11).toNat)
            case atStart => exact ⟨0, rfl, Nat.zero_le _, hbw⟩
            case round =>
              rename_i wy
              obtain ⟨at1, rfl, hat, hbw3⟩ := hrel
              obtain ⟨hLn, hMk⟩ := HW.out wr hbw3
              have k0 := hLn.c0
              have k1 := hLn.c1
              have k2 : wr.cell? ⟨b, i * 4 + 2, none⟩ = some (.slice ma x.marks.length mcap) := hLn.c2
              have k3 : wr.cell? ⟨b, i * 4 + 3, none⟩ = some dv := hLn.c3
              rw [HN.out] at k0
              rw [hTT] at k1
              by_cases hlt : at1 < T.size
              · obtain ⟨L, C, y, c, hpl, hfy, hyc, htc⟩ := HP.out.place i x HI.out at1 (by rw [← HTs.out]; exact hlt)
                have hPl := place_n (n + 1) T (.slice ma x.marks.length mcap) dv x.marks at1 wr hMk (by omega) (by omega) (HP.out.col i x HI.out)
                rw [← hTT, un_bs, hTT, ← HN.out, hpl] at hPl
                rw [HN.out, show ((n + 1 : Nat) : Int) = (n : Int) + 1 by omega, show ((L + 1 : Nat) : Int) = (L : Int) + 1 by omega, show ((C + 1 : Nat) : Int) = (C : Int) + 1 by omega] at hPl
                obtain ⟨hCl, hCc⟩ := bs_get hyc
                have hfl2 := (List.getElem?_eq_some_iff.1 hfy).1
                rw [hfl] at hfl2
                obtain ⟨fb, fo, hfa, hfc⟩ := HFX.out L y hfy
                subst hfa
                have hTc : ∃ hl : at1 < T.size, T[at1]'hl = c := by
                  have := bs_get htc
                  rw [hTT] at this
                  exact this
                obtain ⟨hTl, hTc⟩ := hTc
                have g0 : (0 : Int) ≤ (at1 : Int) := by omega
                have g1 : (at1 : Int) < (T.size : Int) := by omega
                have HF : Hid (w3.cell? ⟨fb, fo + L, none⟩ = some (.string (bs y))) := hfc
                have hYs : (bs y).size ≤ 65536 := by
                  have h9 := cut_len (un s) y (List.mem_of_getElem? hfy)
                  rw [un_length] at h9
                  rw [← un_length, un_bs]; omega
                clear hpl hfy hyc htc hfc
                go_wp2_with fail
                refine hPl.mono ?_
                rintro e w5 ⟨rfl, b5⟩
                have B5 := below_join hbw3 b5
                have k4 : w5.cell? ⟨b, i * 4 + 1, none⟩ = some (.string T) := by rw [← hTT]; exact (HW.out w5 B5).1.c1
                have k5 : w5.cell? ⟨fb, fo + L, none⟩ = some (.string (bs y)) := cell_belowE B5 HF.out
                clear k0 k1 k2 k3 hPl hLn hMk
                generalize bs y = Y at *
                have t1 : decide ((L : Int) + 1 < 1) = false := decide_eq_false (by omega)
                have t2 : decide ((fl : Int) < (L : Int) + 1) = false := decide_eq_false (by omega)
                have t3 : decide ((C : Int) + 1 < 1) = false := decide_eq_false (by omega)
                have t4 : decide ((Y.size : Int) < (C : Int) + 1) = false := decide_eq_false (by omega)
                have t5 : IntKind.i64.wrap (L : Int) = (L : Int) := wrap_small _ (by omega) (by omega)
                have t5' : IntKind.i64.wrap (C : Int) = (C : Int) := wrap_small _ (by omega) (by omega)
                have t6 : (L : Int) < (fl : Int) := by omega
                have t7 : (0 : Int) ≤ (L : Int) := by omega
                have t8 : (C : Int) < (Y.size : Int) := by omega
                have t9 : (0 : Int) ≤ (C : Int) := by omega
                have t10 : ((c.toNat : Int) != (c.toNat : Int)) = false := by simp
                go_wp2
                go_quiet (fail)
                go_wp2
                go_roundw
                case rel => exact ⟨at1 + 1, by go_num, by omega, below_drawn B5 _⟩
                case measure => simp [intOf]; omega
              · have g1 : ¬ (at1 : Int) < (T.size : Int) := by omega
                have HAB : Hid (∀ y, ls[i + 1]? = some y → n + 1 < y.line) := fun y hy => by rw [← HN.out]; exact HP.out.rise i x y HI.out hy
                have hlt2 := HLT.out
                clear hMk hLn
                go_wp2
                go_roundw
                case rel => exact ⟨i + 1, n + 1, by go_num, by omega, by go_num, HAB, hbw3⟩
                case measure => simp [intOf]; omega
      · have d1 : ¬ (i : Int) < (ls.length : Int) := by omega
        have h4 := hWk wr (below_join B3 hbw)
        go_wp2_with (go_at_call 16; refine h4.mono ?_; rintro e w4 ⟨rfl, b4⟩)
        go_ret
        exact ⟨rfl, below_join (below_join B3 hbw) b4⟩
end Go.Proofs.YtjgijbeedgggdaaGreatDoor

namespace Go.Proofs.YtjgijbeedgggdaaGreatDoor
open Go

def erD (d : Dc) : Ln × Bool × Ln := (d.name, d.raw, d.text)
def erL (x : LL) : Ln × List (Ln × Bool × Ln) := (x.text, x.docs.map erD)
theorem join_shift (e : UInt8) : ∀ (l : List Ln) (i fr n : Nat) (sk : Bool), (joinG e l (i + 1) fr n sk).2.1 = (joinG e l i fr n sk).2.1 ∧ (joinG e l (i + 1) fr n sk).2.2 = (joinG e l i fr n sk).2.2 + 1
  | [], _, _, _, _ => ⟨rfl, rfl⟩
  | x :: r, i, fr, n, sk => by
    unfold joinG
    by_cases h1 : (sk && noth x) = true
    · rw [if_pos h1, if_pos h1]; exact join_shift e r (i + 1) fr n sk
    · rw [if_neg h1, if_neg h1]
      by_cases h2 : goesOn e fr x = true
      · rw [if_pos h2, if_pos h2]
        obtain ⟨a, b⟩ := join_shift e r (i + 1) 0 (n + (segN e fr x).length) true
        exact ⟨by simp only; rw [a], b⟩
      · rw [if_neg h2, if_neg h2]; exact ⟨rfl, rfl⟩
theorem body_shift (n : Ln) (t : Bool) : ∀ (l : List Ln) (i : Nat), bodyG n t l (i + 1) = (bodyG n t l i).map fun p => (p.1, p.2 + 1)
  | [], _ => rfl
  | x :: r, i => by
    unfold bodyG
    by_cases h : bareL t x = n
    · rw [if_pos h, if_pos h]; rfl
    · rw [if_neg h, if_neg h, body_shift n t r (i + 1)]
      cases bodyG n t r (i + 1) <;> rfl
theorem docs_shift (f g : List Ln) (a : Nat) (hs : ∀ m, a ≤ m → g.drop (m + 1) = f.drop m) (line line' : Nat) (text : Ln) (ms ms' : List Mk) : ∀ (ws : List (Nat × Nat)) (i : Nat) (ds : List Dc) (k : Nat), a ≤ i → docsG f line text ms ws i = .ok (ds, k) → ∃ ds', docsG g line' text ms' ws (i + 1) = .ok (ds', k + 1) ∧ ds'.map erD = ds.map erD
  | [], i, ds, k, _, h => by cases h; exact ⟨[], rfl, rfl⟩
  | w :: r, i, ds, k, hi, h => by
    unfold docsG at h ⊢
    simp only at h ⊢
    split at h
    · rename_i h1
      rw [if_pos h1]
      split at h
      · rename_i h2
        rw [if_pos h2]
        split at h
        · cases h
        · rename_i t j hb
          have hb' : bodyG (openL ((text.take w.2).drop w.1)).1 (openL ((text.take w.2).drop w.1)).2.2 (g.drop (i + 1)) (i + 1) = some (t, j + 1) := by
            rw [hs i hi, body_shift, hb]; rfl
          rw [hb']
          simp only
          split at h
          · cases h
          · rename_i ds0 k0 hd0
            cases h
            have hij := (bodyG_le _ _ _ _ _ _ hb).1
            obtain ⟨ds', e1, e2⟩ := docs_shift f g a hs line line' text ms ms' r j ds0 k (by omega) hd0
            rw [e1]
            exact ⟨_, rfl, by simp only [List.map_cons, e2]; rfl⟩
      · cases h
    · rename_i h1
      rw [if_neg h1]
      exact docs_shift f g a hs line line' text ms ms' r i ds k hi h
theorem docsL_shift (e : UInt8) (f g : List Ln) (a : Nat) (hs : ∀ m, a ≤ m → g.drop (m + 1) = f.drop m) (line line' : Nat) (text : Ln) (ms ms' : List Mk) (i : Nat) (ds : List Dc) (k : Nat) (hi : a ≤ i) (h : docsL e f line text ms i = .ok (ds, k)) : ∃ ds', docsL e g line' text ms' (i + 1) = .ok (ds', k + 1) ∧ ds'.map erD = ds.map erD := by
  unfold docsL at h ⊢
  split at h
  · rename_i h1
    rw [if_pos h1]
    split at h
    · cases h
    · exact docs_shift f g a hs line line' text ms ms' _ i ds k hi h
  · rename_i h1
    rw [if_neg h1]
    cases h
    exact ⟨[], rfl, rfl⟩
theorem get_shift {f g : List Ln} {a m : Nat} (hs : ∀ m, a ≤ m → g.drop (m + 1) = f.drop m) (h : a ≤ m) : g[m + 1]? = f[m]? := by
  have h1 := List.getElem?_drop (xs := g) (i := m + 1) (j := 0)
  have h2 := List.getElem?_drop (xs := f) (i := m) (j := 0)
  rw [hs m h] at h1
  rw [Nat.add_zero] at h1 h2
  rw [← h1, ← h2]
theorem join_next (e : UInt8) (f : List Ln) (x : Ln) (i fr n : Nat) (hx : f[i]? = some x) : i < (joinG e (f.drop i) i fr n false).2.2 := by
  obtain ⟨hi, hxi⟩ := List.getElem?_eq_some_iff.1 hx
  rw [List.drop_eq_getElem_cons hi, hxi]
  exact join_more e x _ i fr n
theorem linesG_succ (e : UInt8) (f : List Ln) (fu i : Nat) : linesG e f (fu + 1) i = match f[i]? with
    | none => .ok []
    | some x =>
      if noth x = true then linesG e f fu (i + 1)
      else if hd (joinG e (f.drop i) i (hd x) 0 false).2.1 = (joinG e (f.drop i) i (hd x) 0 false).2.1.length then linesG e f fu (joinG e (f.drop i) i (hd x) 0 false).2.2
      else match docsL e f (i + 1) (joinG e (f.drop i) i (hd x) 0 false).2.1 (joinG e (f.drop i) i (hd x) 0 false).1 (joinG e (f.drop i) i (hd x) 0 false).2.2 with
        | .error x => .error x
        | .ok (ds, j) => match linesG e f fu j with
          | .error x => .error x
          | .ok ls => .ok (⟨i + 1, (joinG e (f.drop i) i (hd x) 0 false).2.1, (joinG e (f.drop i) i (hd x) 0 false).1, ds⟩ :: ls) := rfl
/-- More fuel than lines changes nothing. -/
theorem lines_fuel (e : UInt8) (f : List Ln) : ∀ (fu i : Nat), f.length < fu + i → linesG e f (fu + 1) i = linesG e f fu i
  | 0, i, h => by
    rw [linesG_succ, List.getElem?_eq_none (by omega)]; rfl
  | fu + 1, i, h => by
    rw [linesG_succ e f (fu + 1) i, linesG_succ e f fu i]
    cases hx : f[i]? with
    | none => rfl
    | some x =>
      simp only
      have hnx := join_next e f x i (hd x) 0 hx
      rw [lines_fuel e f fu (i + 1) (by omega), lines_fuel e f fu (joinG e (f.drop i) i (hd x) 0 false).2.2 (by omega)]
      cases hd0 : docsL e f (i + 1) (joinG e (f.drop i) i (hd x) 0 false).2.1 (joinG e (f.drop i) i (hd x) 0 false).1 (joinG e (f.drop i) i (hd x) 0 false).2.2 with
      | error _ => rfl
      | ok p =>
        obtain ⟨ds, j⟩ := p
        have hj := docsL_le _ _ _ _ _ _ _ _ hd0
        simp only
        rw [lines_fuel e f fu j (by omega)]
/-- Behind the new line. -/
theorem lines_shift (e : UInt8) (f g : List Ln) (a : Nat) (hs : ∀ m, a ≤ m → g.drop (m + 1) = f.drop m) : ∀ (fu i : Nat) (ls : List LL), a ≤ i → f.length < fu + i → linesG e f fu i = .ok ls → ∃ ms, linesG e g (fu + 1) (i + 1) = .ok ms ∧ ms.map erL = ls.map erL
  | 0, i, ls, hi, hf, h => by
    cases h
    refine ⟨[], ?_, rfl⟩
    unfold linesG
    rw [get_shift hs hi, List.getElem?_eq_none (by omega)]
  | fu + 1, i, ls, hi, hf, h => by
    unfold linesG at h ⊢
    rw [get_shift hs hi]
    cases hx : f[i]? with
    | none => rw [hx] at h; cases h; exact ⟨[], rfl, rfl⟩
    | some x =>
      rw [hx] at h
      simp only at h ⊢
      split at h
      · rename_i h1
        rw [if_pos h1]
        exact lines_shift e f g a hs fu (i + 1) ls (by omega) (by omega) h
      · rename_i h1
        rw [if_neg h1, hs i hi]
        obtain ⟨t1, t2⟩ := join_shift e (f.drop i) i (hd x) 0 false
        have hnx := join_next e f x i (hd x) 0 hx
        rw [t1, t2]
        split at h
        · rename_i h2
          rw [if_pos h2]
          exact lines_shift e f g a hs fu _ ls (by omega) (by omega) h
        · rename_i h2
          rw [if_neg h2]
          split at h
          · cases h
          · rename_i ds j hd0
            obtain ⟨ds', e1, e2⟩ := docsL_shift e f g a hs (i + 1) (i + 1 + 1) _ _ (joinG e (f.drop i) (i + 1) (hd x) 0 false).1 _ ds j (by omega) hd0
            rw [e1]
            simp only
            split at h
            · cases h
            · rename_i ls0 hl0
              cases h
              have hj := docsL_le _ _ _ _ _ _ _ _ hd0
              obtain ⟨ms, e3, e4⟩ := lines_shift e f g a hs fu j ls0 (by omega) (by omega) hl0
              rw [e3]
              exact ⟨_, rfl, by simp only [List.map_cons, e4]; unfold erL; simp only [e2]⟩
/-- Ahead of the new line: an l-line that may go on over it. -/
theorem join_ins (e : UInt8) (more : Ln) (hm : noth more = true) (v : List Ln) : ∀ (u : List Ln) (i fr n : Nat) (sk : Bool), (u ≠ [] ∨ sk = true) → (joinG e (u ++ more :: v) i fr n sk).2.1 = (joinG e (u ++ v) i fr n sk).2.1 ∧ (((joinG e (u ++ more :: v) i fr n sk).2.2 = (joinG e (u ++ v) i fr n sk).2.2 ∧ (joinG e (u ++ v) i fr n sk).2.2 ≤ i + u.length) ∨ ((joinG e (u ++ more :: v) i fr n sk).2.2 = (joinG e (u ++ v) i fr n sk).2.2 + 1 ∧ i + u.length ≤ (joinG e (u ++ v) i fr n sk).2.2))
  | [], i, fr, n, sk, h => by
    have hsk : sk = true := h.resolve_left (fun h => h rfl)
    subst hsk
    rw [List.nil_append, List.nil_append]
    have e1 : joinG e (more :: v) i fr n true = joinG e v (i + 1) fr n true := by
      rw [joinG]; rw [if_pos (by rw [hm]; rfl)]
    rw [e1]
    obtain ⟨t1, t2⟩ := join_shift e v i fr n true
    have := (join_marks e v i fr n true).2.2.1
    exact ⟨t1, .inr ⟨t2, by simpa using this⟩⟩
  | x :: u, i, fr, n, sk, _ => by
    rw [List.cons_append, List.cons_append]
    rw [joinG, joinG]
    by_cases h1 : (sk && noth x) = true
    · rw [if_pos h1, if_pos h1]
      have hsk : sk = true := by revert h1; cases sk <;> simp
      have := join_ins e more hm v u (i + 1) fr n sk (.inr hsk)
      rw [List.length_cons, show i + (u.length + 1) = i + 1 + u.length by omega]
      exact this
    · rw [if_neg h1, if_neg h1]
      by_cases h2 : goesOn e fr x = true
      · rw [if_pos h2, if_pos h2]
        obtain ⟨t1, t2⟩ := join_ins e more hm v u (i + 1) 0 (n + (segN e fr x).length) true (.inr rfl)
        rw [List.length_cons, show i + (u.length + 1) = i + 1 + u.length by omega]
        exact ⟨by simp only; rw [t1], t2⟩
      · rw [if_neg h2, if_neg h2]
        exact ⟨rfl, .inl ⟨rfl, by simp⟩⟩
theorem body_ins (n : Ln) (t : Bool) (v v' : List Ln) : ∀ (u : List Ln) (i : Nat) (x : Ln) (m : Nat), bodyG n t (u ++ v) i = some (x, m) → m ≤ i + u.length → bodyG n t (u ++ v') i = some (x, m)
  | [], i, x, m, h, hm => by
    have := (bodyG_le _ _ _ _ _ _ h).1
    simp at hm; omega
  | y :: u, i, x, m, h, hm => by
    rw [List.cons_append] at h ⊢
    rw [bodyG] at h ⊢
    by_cases hy : bareL t y = n
    · rw [if_pos hy] at h ⊢; exact h
    · rw [if_neg hy] at h ⊢
      cases hb : bodyG n t (u ++ v) (i + 1) with
      | none => rw [hb] at h; cases h
      | some p =>
        rw [hb] at h
        obtain ⟨p1, p2⟩ := p
        cases h
        rw [body_ins n t v v' u (i + 1) p1 p2 hb (by rw [List.length_cons] at hm; omega)]
        rfl
theorem bare_no (t : Bool) (x : Ln) (h : 10 ∉ x) : 10 ∉ bareL t x := by
  unfold bareL
  split
  · exact fun hm => h ((List.dropWhile_sublist (fun c : UInt8 => c == 9) (l := x)).subset hm)
  · exact h
theorem body_count (n : Ln) (t : Bool) : ∀ (l : List Ln) (i : Nat) (x : Ln) (m : Nat), (∀ y ∈ l, 10 ∉ y) → bodyG n t l i = some (x, m) → x.count 10 + i + 1 = m
  | [], _, _, _, _, h => by cases h
  | y :: r, i, x, m, hn, h => by
    rw [bodyG] at h
    split at h
    · cases h; simp
    · cases hb : bodyG n t r (i + 1) with
      | none => rw [hb] at h; cases h
      | some p =>
        rw [hb] at h
        obtain ⟨p1, p2⟩ := p
        cases h
        have := body_count n t r (i + 1) p1 p2 (fun z hz => hn z (List.mem_cons_of_mem _ hz)) hb
        have h0 : (bareL t y).count 10 = 0 := List.count_eq_zero.2 (bare_no t y (hn y List.mem_cons_self))
        simp only [List.count_append, List.count_cons_self, h0]
        omega
/-- Is the new line one of a document's, or right ahead of its first? -/
def Out (a : Nat) (ds : List Dc) : Prop := ∀ d ∈ ds, ¬ (d.line - 1 ≤ a ∧ a ≤ d.line - 1 + d.text.count 10)
theorem docs_ins (f : List Ln) (more : Ln) (a : Nat) (ha : a ≤ f.length) (hno : ∀ y ∈ f, 10 ∉ y) (line line' : Nat) (text : Ln) (ms ms' : List Mk) : ∀ (ws : List (Nat × Nat)) (i : Nat) (ds : List Dc) (k : Nat), i ≤ a → Out a ds → docsG f line text ms ws i = .ok (ds, k) → k ≤ a ∧ ∃ ds', docsG (f.take a ++ more :: f.drop a) line' text ms' ws i = .ok (ds', k) ∧ ds'.map erD = ds.map erD
  | [], i, ds, k, hi, _, h => by cases h; exact ⟨hi, [], rfl, rfl⟩
  | w :: r, i, ds, k, hi, ho, h => by
    unfold docsG at h ⊢
    simp only at h ⊢
    split at h
    · rename_i h1
      rw [if_pos h1]
      split at h
      · rename_i h2
        rw [if_pos h2]
        split at h
        · cases h
        · rename_i t j hb
          split at h
          · cases h
          · rename_i ds0 k0 hd0
            cases h
            have hcnt := body_count _ _ _ _ _ _ (fun y hy => hno y (List.mem_of_mem_drop hy)) hb
            have hout := ho _ List.mem_cons_self
            simp only [Nat.add_sub_cancel] at hout
            have hja : j ≤ a := by omega
            have hfd : f.drop i = (f.take a).drop i ++ f.drop a := by
              rw [← List.drop_append_of_le_length (by rw [List.length_take]; omega), List.take_append_drop]
            have hgd : (f.take a ++ more :: f.drop a).drop i = (f.take a).drop i ++ more :: f.drop a := List.drop_append_of_le_length (by rw [List.length_take]; omega)
            rw [hfd] at hb
            have hb' := body_ins _ _ (f.drop a) (more :: f.drop a) _ _ _ _ hb (by rw [List.length_drop, List.length_take]; omega)
            rw [hgd, hb']
            simp only
            obtain ⟨g1, ds', e1, e2⟩ := docs_ins f more a ha hno line line' text ms ms' r j ds0 k hja (fun d hd => ho d (List.mem_cons_of_mem _ hd)) hd0
            rw [e1]
            exact ⟨g1, _, rfl, by simp only [List.map_cons, e2]⟩
      · cases h
    · rename_i h1
      rw [if_neg h1]
      exact docs_ins f more a ha hno line line' text ms ms' r i ds k hi ho h
theorem docsL_ins (e : UInt8) (f : List Ln) (more : Ln) (a : Nat) (ha : a ≤ f.length) (hno : ∀ y ∈ f, 10 ∉ y) (line line' : Nat) (text : Ln) (ms ms' : List Mk) (i : Nat) (ds : List Dc) (k : Nat) (hi : i ≤ a) (ho : Out a ds) (h : docsL e f line text ms i = .ok (ds, k)) : k ≤ a ∧ ∃ ds', docsL e (f.take a ++ more :: f.drop a) line' text ms' i = .ok (ds', k) ∧ ds'.map erD = ds.map erD := by
  unfold docsL at h ⊢
  split at h
  · rename_i h1
    rw [if_pos h1]
    split at h
    · cases h
    · exact docs_ins f more a ha hno line line' text ms ms' _ i ds k hi ho h
  · rename_i h1
    rw [if_neg h1]
    cases h
    exact ⟨hi, [], rfl, rfl⟩
theorem ins_shift (f : List Ln) (more : Ln) (a : Nat) (ha : a ≤ f.length) : ∀ m, a ≤ m → (f.take a ++ more :: f.drop a).drop (m + 1) = f.drop m := by
  intro m hm
  rw [List.drop_append, List.drop_of_length_le (by rw [List.length_take]; omega), List.nil_append, List.length_take, Nat.min_eq_left ha, show m + 1 - a = (m - a) + 1 by omega, List.drop_succ_cons, List.drop_drop, show a + (m - a) = m by omega]
/-- A line more. -/
theorem lines_ins (e : UInt8) (f : List Ln) (more : Ln) (hm : noth more = true) (a : Nat) (ha : a ≤ f.length) (hno : ∀ y ∈ f, 10 ∉ y) : ∀ (fu i : Nat) (ls : List LL), i ≤ a → f.length < fu + i → (∀ x ∈ ls, Out a x.docs) → linesG e f fu i = .ok ls → ∃ ms, linesG e (f.take a ++ more :: f.drop a) (fu + 2) i = .ok ms ∧ ms.map erL = ls.map erL
  | 0, i, ls, hi, hf, _, h => by omega
  | fu + 1, i, ls, hi, hf, ho, h => by
    have hs := ins_shift f more a ha
    by_cases hia : i = a
    · subst hia
      obtain ⟨ms, e1, e2⟩ := lines_shift e f _ i hs (fu + 1) i ls (Nat.le_refl _) hf h
      refine ⟨ms, ?_, e2⟩
      rw [linesG]
      have hg : (f.take i ++ more :: f.drop i)[i]? = some more := by
        rw [List.getElem?_append_right (by rw [List.length_take]; omega), List.length_take, Nat.min_eq_left ha, Nat.sub_self]; rfl
      rw [hg]
      simp only
      rw [if_pos hm]
      exact e1
    have hlt : i < a := by omega
    have hgi : (f.take a ++ more :: f.drop a)[i]? = f[i]? := by
      rw [List.getElem?_append_left (by rw [List.length_take]; omega), List.getElem?_take, if_pos hlt]
    have hfd : f.drop i = (f.take a).drop i ++ f.drop a := by
      rw [← List.drop_append_of_le_length (by rw [List.length_take]; omega), List.take_append_drop]
    have hgd : (f.take a ++ more :: f.drop a).drop i = (f.take a).drop i ++ more :: f.drop a := List.drop_append_of_le_length (by rw [List.length_take]; omega)
    rw [linesG] at h ⊢
    rw [hgi]
    cases hx : f[i]? with
    | none => have := (List.getElem?_eq_none_iff.1 hx); omega
    | some x =>
      rw [hx] at h
      simp only at h ⊢
      split at h
      · rename_i h1
        rw [if_pos h1]
        exact lines_ins e f more hm a ha hno fu (i + 1) ls (by omega) (by omega) ho h
      · rename_i h1
        rw [if_neg h1, hgd]
        have hnx := join_next e f x i (hd x) 0 hx
        obtain ⟨t1, t2⟩ := join_ins e more hm (f.drop a) ((f.take a).drop i) i (hd x) 0 false (.inl (fun e => by have := congrArg List.length e; rw [List.length_drop, List.length_take, List.length_nil] at this; omega))
        rw [← hfd] at t1 t2
        rw [List.length_drop, List.length_take, Nat.min_eq_left ha, show i + (a - i) = a by omega] at t2
        rw [t1]
        split at h
        · rename_i h2
          rw [if_pos h2]
          rcases t2 with ⟨t2, t3⟩ | ⟨t2, t3⟩
          · rw [t2]
            exact lines_ins e f more hm a ha hno fu _ ls t3 (by omega) ho h
          · rw [t2]
            obtain ⟨ms, e1, e2⟩ := lines_shift e f _ a hs fu _ ls t3 (by omega) h
            exact ⟨ms, by rw [lines_fuel _ _ _ _ (by rw [List.length_append, List.length_cons, List.length_take, List.length_drop]; omega)]; exact e1, e2⟩
        · rename_i h2
          rw [if_neg h2]
          split at h
          · cases h
          · rename_i ds j hd0
            split at h
            · cases h
            · rename_i ls0 hl0
              cases h
              have hj := docsL_le _ _ _ _ _ _ _ _ hd0
              have ho1 := ho _ List.mem_cons_self
              simp only at ho1
              rcases t2 with ⟨t2, t3⟩ | ⟨t2, t3⟩
              · obtain ⟨hka, ds', e1, e2⟩ := docsL_ins e f more a ha hno (i + 1) (i + 1) _ _ (joinG e ((f.take a).drop i ++ more :: f.drop a) i (hd x) 0 false).1 _ ds j t3 ho1 hd0
                rw [t2, e1]
                simp only
                obtain ⟨ms, e3, e4⟩ := lines_ins e f more hm a ha hno fu j ls0 hka (by omega) (fun y hy => ho y (List.mem_cons_of_mem _ hy)) hl0
                rw [e3]
                exact ⟨_, rfl, by simp only [List.map_cons, e4]; unfold erL; simp only [e2]⟩
              · obtain ⟨ds', e1, e2⟩ := docsL_shift e f _ a hs (i + 1) (i + 1) _ _ (joinG e ((f.take a).drop i ++ more :: f.drop a) i (hd x) 0 false).1 _ ds j t3 hd0
                rw [t2, e1]
                simp only
                obtain ⟨ms, e3, e4⟩ := lines_shift e f _ a hs fu j ls0 (by omega) (by omega) hl0
                rw [lines_fuel _ _ _ _ (by rw [List.length_append, List.length_cons, List.length_take, List.length_drop]; omega), e3]
                exact ⟨_, rfl, by simp only [List.map_cons, e4]; unfold erL; simp only [e2]⟩
end Go.Proofs.YtjgijbeedgggdaaGreatDoor

namespace Go.Proofs.YtjgijbeedgggdaaGreatDoor
open Go

theorem Val.tail {b : UInt8} {s : Ln} (h : Val (b :: s)) (hb : b < 128) : Val s := by
  cases h with
  | step _ _ h2 =>
    have : chrN (b :: s) = 1 := by
      have h1 : leadN b = 1 := by unfold leadN; rw [if_pos hb]
      rw [chrN_cons, if_pos h1]
    rw [this] at h2
    exact h2
theorem segs_val : ∀ (s acc : Ln), Val (acc ++ s) → ∀ x ∈ segsG acc s, Val x
  | [], acc, h, x, hx => by
    rw [segsG] at hx
    split at hx
    · cases hx
    · simp at hx; subst hx; simpa using h
  | b :: s, acc, h, x, hx => by
    rw [segsG] at hx
    split at hx
    · rename_i hb
      subst hb
      have hp := h.part acc.length (by simp) (fun b' hb' => by
        rw [List.getElem?_append_right (Nat.le_refl _), Nat.sub_self] at hb'
        simp at hb'; subst hb'; decide)
      rw [List.take_left, List.drop_left] at hp
      rcases List.mem_cons.1 hx with rfl | hx
      · exact hp.1
      · exact segs_val s [] (by simpa using hp.2.tail (by decide)) x hx
    · exact segs_val s (acc ++ [b]) (by simpa using h) x hx
theorem trimR_parts (x : Ln) : x = trimR x ++ (x.reverse.takeWhile (· == 13)).reverse := by
  unfold trimR
  rw [← List.reverse_append, List.takeWhile_append_dropWhile, List.reverse_reverse]
theorem trimR_val (x : Ln) (h : Val x) : Val (trimR x) := by
  have e := trimR_parts x
  have hz : ∀ b ∈ (x.reverse.takeWhile (· == 13)).reverse, b = 13 := fun b hb => by
    rw [List.mem_reverse] at hb
    have : (b == 13) = true := by
      generalize x.reverse = y at hb
      induction y with
      | nil => simp at hb
      | cons c y ih =>
        by_cases hc : (c == 13) = true
        · rw [List.takeWhile_cons_of_pos (p := fun b : UInt8 => b == 13) hc] at hb
          rcases List.mem_cons.1 hb with rfl | hb
          · exact hc
          · exact ih hb
        · rw [List.takeWhile_cons_of_neg (p := fun b : UInt8 => b == 13) hc] at hb
          cases hb
    simpa using this
  generalize (x.reverse.takeWhile (· == 13)).reverse = z at e hz
  generalize trimR x = y at e ⊢
  subst e
  have hp := h.part y.length (by simp) (fun b hb => by
    rw [List.getElem?_append_right (Nat.le_refl _), Nat.sub_self] at hb
    have := hz b (List.mem_of_getElem? hb)
    subst this; decide)
  rw [List.take_left] at hp
  exact hp.1
theorem cut_val (s : Ln) (h : Val s) : ∀ x ∈ cutL s, Val x := by
  intro x hx
  unfold cutL at hx
  obtain ⟨y, hy, rfl⟩ := List.mem_map.1 hx
  exact trimR_val y (segs_val s [] (by simpa using h) y hy)
theorem file_val (g : List Ln) (h : ∀ x ∈ g, Val x) : Val (fileL g) := by
  induction g with
  | nil => exact Val.nil
  | cons x g ih =>
    have e : fileL (x :: g) = (x ++ [10]) ++ fileL g := by simp [fileL]
    rw [e]
    exact ((h x List.mem_cons_self).append (Val.ascii [10] (by decide))).append (ih (fun y hy => h y (List.mem_cons_of_mem _ hy)))
theorem trimR_length (x : Ln) : (trimR x).length ≤ x.length := by
  have := congrArg List.length (trimR_parts x)
  rw [List.length_append] at this
  omega
theorem file_length : ∀ (s acc : Ln), (fileL ((segsG acc s).map trimR)).length ≤ acc.length + s.length + 1
  | [], acc => by
    rw [segsG]
    split
    · simp [fileL]
    · have := trimR_length acc
      simp [fileL]; omega
  | b :: s, acc => by
    rw [segsG]
    split
    · have h1 := file_length s []
      have h2 := trimR_length acc
      have e : fileL ((acc :: segsG [] s).map trimR) = trimR acc ++ (10 :: fileL ((segsG [] s).map trimR)) := by simp [fileL]
      rw [e, List.length_append, List.length_cons, List.length_cons]
      simp at h1
      omega
    · have h1 := file_length s (acc ++ [b])
      simp at h1 ⊢
      omega
theorem file_append (a b : List Ln) : fileL (a ++ b) = fileL a ++ fileL b := by simp [fileL]
theorem dirs_ins (f : List Ln) (more : Ln) (hm : dirAt more = none) (a i : Nat) (e : UInt8) (ha : a ≤ f.length) (h1 : ∀ x, f[0]? = some x → (dirAt x).isSome = true → 1 ≤ a) (h : dirsL f = .ok (i, e)) : i ≤ a ∧ dirsL (f.take a ++ more :: f.drop a) = .ok (i, e) := by
  cases f with
  | nil =>
    cases h
    have : a = 0 := by simpa using ha
    subst this
    refine ⟨Nat.le_refl _, ?_⟩
    show dirsL [more] = _
    rw [dirsL, hm]
  | cons x r =>
    rw [dirsL] at h
    cases hx : dirAt x with
    | none =>
      rw [hx] at h
      cases h
      refine ⟨Nat.zero_le _, ?_⟩
      cases a with
      | zero =>
        show dirsL (more :: x :: r) = _
        rw [dirsL, hm]
      | succ a =>
        show dirsL (x :: (r.take a ++ more :: r.drop a)) = _
        rw [dirsL, hx]
    | some k =>
      have ha1 := h1 x rfl (by rw [hx]; rfl)
      obtain ⟨a, rfl⟩ : ∃ b, a = b + 1 := ⟨a - 1, by omega⟩
      rw [hx] at h
      simp only at h
      show _ ∧ dirsL (x :: (r.take a ++ more :: r.drop a)) = _
      rw [dirsL, hx]
      simp only
      split at h
      · rename_i hv
        rw [if_pos hv]
        cases r with
        | nil =>
          simp only at h
          cases h
          have : a = 0 := by simpa using ha
          subst this
          refine ⟨by omega, ?_⟩
          simp [hm]
        | cons y r =>
          simp only at h
          split at h
          · cases h
          · rename_i hy
            cases h
            refine ⟨by omega, ?_⟩
            cases a with
            | zero => simp [hm]
            | succ a =>
              rw [List.take_succ_cons, List.cons_append]
              simp only
              rw [if_neg hy]
      · cases h
/-- P14.4: a line more that says nothing. -/
theorem lex_remarks (s : Ln) (e : UInt8) (ls : List LL) (h : lexL s = .ok (e, ls)) (hs : s.length ≤ 60000) (hf : (cutL s).length ≤ 4000) (more : Ln) (hmore : more = [32, 32, 35, 32, 110, 111, 116, 101, 92] ∨ more = [32, 9]) (a : Nat) (ha : a ≤ (cutL s).length)
    (h1 : ∀ x, (cutL s)[0]? = some x → (dirAt x).isSome = true → 1 ≤ a) (ho : ∀ x ∈ ls, Out a x.docs) : ∃ ms, lexL (fileL ((cutL s).take a ++ more :: (cutL s).drop a)) = .ok (e, ms) ∧ ms.map erL = ls.map erL := by
  obtain ⟨_, hv, _, i, h4, h5⟩ := lexL_ok s e ls h
  have hcl := cut_lines s
  have hcv := cut_val s hv
  have hfl : (fileL (cutL s)).length ≤ s.length + 1 := by have := file_length s []; unfold cutL; simpa using this
  have hm : noth more = true ∧ dirAt more = none ∧ 10 ∉ more ∧ trimR more = more ∧ more.length ≤ 9 ∧ (∀ b ∈ more, b < 128) := by
    rcases hmore with rfl | rfl <;> decide
  obtain ⟨m1, m2, m3, m4, m5, m6⟩ := hm
  generalize hff : cutL s = f at *
  obtain ⟨hia, hd0⟩ := dirs_ins f more m2 a i e ha h1 h4
  have hg : ∀ x ∈ f.take a ++ more :: f.drop a, 10 ∉ x ∧ trimR x = x := fun x hx => by
    rcases List.mem_append.1 hx with hx | hx
    · exact hcl x (List.mem_of_mem_take hx)
    · rcases List.mem_cons.1 hx with rfl | hx
      · exact ⟨m3, m4⟩
      · exact hcl x (List.mem_of_mem_drop hx)
  have hcut : cutL (fileL (f.take a ++ more :: f.drop a)) = f.take a ++ more :: f.drop a := by
    have := cut_file _ [] hg
    rw [List.append_nil] at this
    rw [this]; simp [cutL, segsG]
  have hglen : (f.take a ++ more :: f.drop a).length = f.length + 1 := by rw [List.length_append, List.length_cons, List.length_take, List.length_drop]; omega
  obtain ⟨ms, e1, e2⟩ := lines_ins e f more m1 a ha (fun y hy => (hcl y hy).1) (f.length + 1) i ls hia (by omega) ho h5
  refine ⟨ms, lexL_mk _ e ms i ?_ ?_ ?_ ?_ ?_, e2⟩
  · have e3 : fileL (f.take a ++ more :: f.drop a) = fileL (f.take a) ++ ((more ++ [10]) ++ fileL (f.drop a)) := by rw [file_append]; simp [fileL]
    have e4 : (fileL f).length = (fileL (f.take a)).length + (fileL (f.drop a)).length := by rw [← List.length_append, ← file_append, List.take_append_drop]
    rw [e3]
    simp only [List.length_append, List.length_cons, List.length_nil]
    omega
  · exact file_val _ (fun x hx => by
      rcases List.mem_append.1 hx with hx | hx
      · exact hcv x (List.mem_of_mem_take hx)
      · rcases List.mem_cons.1 hx with rfl | hx
        · exact Val.ascii _ m6
        · exact hcv x (List.mem_of_mem_drop hx))
  · rw [hcut, hglen]; omega
  · rw [hcut]; exact hd0
  · rw [hcut, hglen]
    have hfu := lines_fuel e (f.take a ++ more :: f.drop a) (f.length + 1 + 1) i (by rw [hglen]; omega)
    rw [← hfu]
    exact e1
end Go.Proofs.YtjgijbeedgggdaaGreatDoor

namespace Go.Proofs.YtjgijbeedgggdaaGreatDoor
open Go Go.RowKit

structure DcC (W : World) (b q : Nat) (d : Dc) : Prop where
  c0 : W.cell? ⟨b, q, none⟩ = some (.string (bs d.name))
  c1 : W.cell? ⟨b, q + 1, none⟩ = some (.bool d.raw)
  c2 : W.cell? ⟨b, q + 2, none⟩ = some (.int .i64 d.line)
  c3 : W.cell? ⟨b, q + 3, none⟩ = some (.string (bs d.text))
theorem DcC.below {W W2 : World} {b q : Nat} {d : Dc} (h : DcC W b q d) (hb : Below W.heap.size W W2) : DcC W2 b q d :=
  ⟨cell_belowE hb h.c0, cell_belowE hb h.c1, cell_belowE hb h.c2, cell_belowE hb h.c3⟩
/-- A list of documents. -/
def DcsAt (W : World) (v : Value) (ds : List Dc) : Prop :=
  ∃ (a : Option Addr) (cap b o : Nat), v = .slice a ds.length cap ∧ (ds ≠ [] → a = some ⟨b, o, none⟩) ∧ ds.length ≤ cap ∧ ∀ i d, ds[i]? = some d → DcC W b (o + i * 4) d
theorem DcsAt.below {W W2 : World} {v : Value} {ds : List Dc} (h : DcsAt W v ds) (hb : Below W.heap.size W W2) : DcsAt W2 v ds := by
  obtain ⟨a, cap, b, o, h1, h2, h3, h4⟩ := h
  exact ⟨a, cap, b, o, h1, h2, h3, fun i e he => (h4 i e he).below hb⟩
theorem dcells_get : ∀ (es : List Dc) (k : Nat) (e : Dc), es[k]? = some e → ∀ j v, (dcs e)[j]? = some v → (dcells es)[k * 4 + j]? = some v
  | [], k, e, h, j, v, hj => by simp at h
  | x :: es, 0, e, h, j, v, hj => by
    simp at h; subst h
    have hl := (List.getElem?_eq_some_iff.1 hj).1
    show (dcs x ++ dcells es)[0 * 4 + j]? = some v
    rw [Nat.zero_mul, Nat.zero_add, List.getElem?_append_left hl]; exact hj
  | x :: es, k + 1, e, h, j, v, hj => by
    show (dcs x ++ dcells es)[(k + 1) * 4 + j]? = some v
    rw [List.getElem?_append_right (by show 4 ≤ _; omega), show (k + 1) * 4 + j - (dcs x).length = k * 4 + j by show _ - 4 = _; omega]
    exact dcells_get es k e (by simpa using h) j v hj
theorem dcs_of_owns {W : World} {base : Nat} {v : Value} {ds : List Dc} (h : W.ownsRow base 133 4 v ds.length (dcells ds)) : DcsAt W v ds := by
  rcases h.2 with ⟨rfl, h0⟩ | ⟨g, cap, cur, rfl, hg, hgb, hcap, _⟩
  · have : ds = [] := List.eq_nil_of_length_eq_zero h0
    subst this
    exact ⟨none, 0, 0, 0, rfl, fun h => absurd rfl h, Nat.le_refl _, fun i e he => by simp at he⟩
  · refine ⟨some ⟨g, 0, none⟩, cap, g, 0, rfl, fun _ => rfl, hcap, fun i e he => ?_⟩
    have hi := (List.getElem?_eq_some_iff.1 he).1
    have hc : ∀ j v, (dcs e)[j]? = some v → W.cell? ⟨g, 0 + i * 4 + j, none⟩ = some v := fun j v hj => by
      have hj2 : j < 4 := (List.getElem?_eq_some_iff.1 hj).1
      rw [Nat.zero_add, h.cellAt (i * 4 + j) (by omega)]
      exact dcells_get ds i e he j v hj
    exact ⟨hc 0 _ rfl, hc 1 _ rfl, hc 2 _ rfl, hc 3 _ rfl⟩
/-- A list of lines that is read, with its documents. -/
def LnsQ (W : World) (v : Value) (ls : List LL) : Prop :=
  ∃ (a : Option Addr) (cap b : Nat), v = .slice a ls.length cap ∧ (ls ≠ [] → a = some ⟨b, 0, none⟩) ∧ ls.length ≤ cap ∧ ∀ (i : Nat) x, ls[i]? = some x → ∃ p, LnC W b (i * 4) x p ∧ MksAt W p.1 (x.marks.map Mk.z) ∧ DcsAt W p.2 x.docs
theorem LnsQ.below {W W2 : World} {v : Value} {ls : List LL} (h : LnsQ W v ls) (hb : Below W.heap.size W W2) : LnsQ W2 v ls := by
  obtain ⟨a, cap, b, h1, h2, h3, h5⟩ := h
  exact ⟨a, cap, b, h1, h2, h3, fun i x hx => by obtain ⟨p, q1, q2, q3⟩ := h5 i x hx; exact ⟨p, q1.below hb, q2.below hb, q3.below hb⟩⟩
theorem lns_q {W : World} {base : Nat} {v : Value} {us : List (Value × Value)} {ls : List LL} (h : LnsAt W base v us ls) : LnsQ W v ls := by
  obtain ⟨a, cap, b, h1, h2, h3, h4, h5⟩ := lns_read h
  refine ⟨a, cap, b, h1, h2, h3, fun i x hx => ?_⟩
  have hlt := (List.getElem?_eq_some_iff.1 hx).1
  obtain ⟨p, hp⟩ : ∃ p, us[i]? = some p := ⟨_, List.getElem?_eq_getElem (by omega)⟩
  exact ⟨p, (h5 i x p hx hp).1, (h5 i x p hx hp).2.1, dcs_of_owns (h.docs i x p hx hp)⟩
theorem bare_len2 (t : Bool) (x : Ln) : (bareL t x).length ≤ x.length := by
  unfold bareL
  split
  · exact (List.dropWhile_sublist _).length_le
  · exact Nat.le_refl _
theorem body_len (n : Ln) (t : Bool) : ∀ (l : List Ln) (i : Nat) (x : Ln) (m : Nat), bodyG n t l i = some (x, m) → x.length ≤ l.flatten.length + l.length
  | [], i, x, m, h => by cases h
  | y :: r, i, x, m, h => by
    unfold bodyG at h
    split at h
    · cases h; simp
    · cases hb : bodyG n t r (i + 1) with
      | none => rw [hb] at h; cases h
      | some p =>
        rw [hb] at h
        obtain ⟨a, b⟩ := p
        cases h
        have h1 := body_len n t r (i + 1) a b hb
        have h2 := bare_len2 t y
        rw [List.flatten_cons, List.length_append, List.length_append, List.length_cons, List.length_cons]
        simp only
        omega
/-- How great a document is. -/
structure DcF (f : List Ln) (d : Dc) : Prop where
  low : 1 ≤ d.line
  line : d.line ≤ f.length
  text : d.text.length ≤ f.flatten.length + f.length
theorem docsG_f (f : List Ln) (line : Nat) (text : Ln) (marks : List Mk) : ∀ (ws : List (Nat × Nat)) (i : Nat) (ds : List Dc) (j : Nat), docsG f line text marks ws i = .ok (ds, j) → ds.length ≤ f.length - i ∧ ∀ d ∈ ds, DcF f d
  | [], i, ds, j, h => by cases h; simp
  | w :: r, i, ds, j, h => by
    unfold docsG at h
    simp only at h
    split at h
    · split at h
      · split at h
        · cases h
        · rename_i t k hb
          split at h
          · cases h
          · rename_i ds' k' hd
            cases h
            have h1 := bodyG_le _ _ _ _ _ _ hb
            have h3 := body_len _ _ _ _ _ _ hb
            have h4 := drop_flat f i
            obtain ⟨h2, h5⟩ := docsG_f f line text marks r k ds' j hd
            rw [List.length_drop] at h1 h3
            refine ⟨by rw [List.length_cons]; omega, fun d hd => ?_⟩
            rcases List.mem_cons.1 hd with rfl | hd
            · exact ⟨by simp, by simp only; omega, by simp only; omega⟩
            · exact h5 d hd
      · cases h
    · exact docsG_f f line text marks r i ds j h
theorem lines_docs (ec : UInt8) (f : List Ln) : ∀ (fu i : Nat) (ls : List LL), linesG ec f fu i = .ok ls → ∀ x ∈ ls, x.docs.length ≤ f.length ∧ ∀ d ∈ x.docs, DcF f d
  | 0, i, ls, h => by cases h; simp
  | fu + 1, i, ls, h => by
    unfold linesG at h
    cases hx : f[i]? with
    | none => rw [hx] at h; cases h; simp
    | some x =>
      rw [hx] at h
      simp only at h
      split at h
      · exact lines_docs ec f fu (i + 1) ls h
      · split at h
        · exact lines_docs ec f fu _ ls h
        · split at h
          · cases h
          · rename_i ds j hds
            split at h
            · cases h
            · rename_i ls' hls
              cases h
              intro y hy
              rcases List.mem_cons.1 hy with rfl | hy
              · simp only
                unfold docsL at hds
                split at hds
                · split at hds
                  · cases hds
                  · obtain ⟨a1, a2⟩ := docsG_f f _ _ _ _ _ _ _ hds
                    exact ⟨by omega, a2⟩
                · cases hds; simp
              · exact lines_docs ec f fu j ls' hls y hy
/-- How great the lines of a build file are, with their documents. -/
structure LlF (x : LL) : Prop where
  docs : x.docs.length ≤ 4096
  doc : ∀ d ∈ x.docs, 1 ≤ d.line ∧ d.line ≤ 4096 ∧ d.text.length ≤ 69632
theorem llf_of (s : Ln) (ec : UInt8) (ls : List LL) (h : lexL s = .ok (ec, ls)) : ls.length ≤ 4096 ∧ ∀ x ∈ ls, LlF x := by
  obtain ⟨h1, _, h3, i, _, h5⟩ := lexL_ok s ec ls h
  obtain ⟨c1, _⟩ := lines_small ec s (by omega) _ i ls h5
  have h6 := lines_docs ec (cutL s) _ i ls h5
  have h7 := cut_sum s
  refine ⟨by omega, fun x hx => ⟨by have := (h6 x hx).1; omega, fun d hd => ?_⟩⟩
  have := (h6 x hx).2 d hd
  exact ⟨this.low, by have := this.line; omega, by have := this.text; omega⟩
end Go.Proofs.YtjgijbeedgggdaaGreatDoor

namespace Go.Proofs.YtjgijbeedgggdaaGreatDoor
open Go Go.RowKit

theorem fileL_take (g : List Ln) (k : Nat) (x : Ln) (h : g[k]? = some x) : fileL (g.take (k + 1)) = fileL (g.take k) ++ x ++ [10] := by
  rw [List.take_add_one, h, file_append]
  simp [fileL]
theorem fileL_le (g : List Ln) (k : Nat) : (fileL (g.take k)).length ≤ (fileL g).length := by
  conv => rhs; rw [← List.take_append_drop k g, file_append, List.length_append]
  omega
set_option maxRecDepth 100000 in
set_option maxHeartbeats 1000000 in
theorem file_p (g : List Ln) (v : Value) (w : World) (h : TextsAt w v (g.map bs)) (hz : (fileL g).length ≤ 1073741824) : Calls Tryz.prog 28 #[v] w fun e w' => e = .returned (.string (bs (fileL g))) ∧ w' = w := by
  obtain ⟨a, c, rfl, _, hc⟩ := h
  rw [List.length_map]
  have HC : Hid (∀ i x, g[i]? = some x → ∃ b o, a = some ⟨b, o, none⟩ ∧ w.cell? ⟨b, o + i, none⟩ = some (.string (bs x))) := fun i x hx => hc i (bs x) (by rw [List.getElem?_map, hx]; rfl)
  clear hc
  have hgl : g.length ≤ (fileL g).length := by
    clear HC hz
    induction g with
    | nil => simp
    | cons x g ih => simp [fileL] at ih ⊢; omega
  go_enter Tryz.func28, Tryz.ntmps28
  go_wp2
  go_loopw [3, 4] (fun v3 v4 wr => ∃ k : Nat, v4 = .int .i64 k ∧ k ≤ g.length ∧ v3 = .string (bs (fileL (g.take k))) ∧ wr = w) (fun _ v4 _ => g.length - (intOf v4).toNat)
  case atStart => exact ⟨0, rfl, Nat.zero_le _, rfl, rfl⟩
  case round =>
    obtain ⟨k, rfl, hk, rfl, hwr⟩ := hrel
    subst hwr
    by_cases hlt : k < g.length
    · obtain ⟨x, hx⟩ : ∃ x, g[k]? = some x := ⟨_, List.getElem?_eq_getElem hlt⟩
      obtain ⟨b, o, rfl, hcell⟩ := HC.out k x hx
      have d1 : (k : Int) < (g.length : Int) := by omega
      have d2 : (0 : Int) ≤ (k : Int) := by omega
      have h1 := fileL_take g k x hx
      have h2 := fileL_le g (k + 1)
      obtain ⟨P, hP⟩ : ∃ P, bs (fileL (g.take k)) = P := ⟨_, rfl⟩
      have hPs : P.size ≤ 1073741824 := by rw [← hP, size_bs]; have := fileL_le g k; omega
      have hxs : x.length ≤ 1073741824 := by have := congrArg List.length h1; simp at this; omega
      have hb1 : ∀ W, (Op.stringOp .add P (bs x)).run Tryz.prog W = .ok (.string (P ++ bs x)) W := fun W => run_string_add_sum W _ _ (by rw [size_bs]; omega)
      have hb2 : ∀ W, (Op.stringOp .add (P ++ bs x) ⟨#[10]⟩).run Tryz.prog W = .ok (.string (bs (fileL (g.take (k + 1))))) W := fun W => by
        have := run_string_add_sum (P := Tryz.prog) W (P ++ bs x) ⟨#[10]⟩ (by rw [ByteArray.size_append, size_bs]; show _ + _ + 1 ≤ _; omega)
        have e : P ++ bs x ++ ⟨#[10]⟩ = bs (fileL (g.take (k + 1))) := by
          apply un_inj
          rw [un_bs, h1, un_append, un_append, un_bs, ← hP, un_bs]; rfl
        rw [e] at this; exact this
      rw [hP]
      clear h1 h2 hx hP
      go_wp2
      go_roundw
      case rel => exact ⟨k + 1, by go_num, by omega, rfl, by first | rfl | trivial⟩
      case measure => simp [intOf]; omega
    · have d1 : ¬ (k : Int) < (g.length : Int) := by omega
      obtain rfl : k = g.length := by omega
      rw [List.take_length]
      go_wp2
      go_ret
      exact ⟨rfl, rfl⟩
def cntN (t : Ln) (j : Nat) : Nat := (t.take j).count 10
theorem cntN_le (t : Ln) (j : Nat) : cntN t j ≤ j := by
  unfold cntN
  have := List.count_le_length (a := (10 : UInt8)) (l := t.take j)
  rw [List.length_take] at this; omega
theorem cntN_succ (t : Ln) (j : Nat) (b : UInt8) (h : t[j]? = some b) : cntN t (j + 1) = cntN t j + (if b = 10 then 1 else 0) := by
  unfold cntN
  rw [List.take_add_one, h, List.count_append]
  simp [List.count_singleton]
/-- What within answers. -/
def WithP (ls : List LL) (n : Nat) (w : World) (e : Ending) (w' : World) : Prop := ∃ r, e = .returned (.bool r) ∧ (r = false → ∀ x ∈ ls, Out n x.docs) ∧ w' = w
set_option maxRecDepth 100000 in
set_option maxHeartbeats 4000000 in
theorem within_p (ls : List LL) (v vf : Value) (fa : Option Addr) (fl fc n : Nat) (hvf : vf = .slice fa fl fc) (w : World) (h : LnsQ w v ls) (hl : ls.length ≤ 4096) (hF : ∀ x ∈ ls, LlF x) (hn : n ≤ fl) : Calls Tryz.prog 27 #[v, vf, .int .i64 n] w (WithP ls n w) := by
  subst hvf
  obtain ⟨a, cap, b, rfl, ha, hcap, hx⟩ := h
  have HX : Hid (∀ (i : Nat) x, ls[i]? = some x → a = some ⟨b, 0, none⟩ ∧ LlF x ∧ ∃ p, w.cell? ⟨b, i * 4 + 3, none⟩ = some p ∧ DcsAt w p x.docs) := fun i x hi => by
    have hlt := (List.getElem?_eq_some_iff.1 hi).1
    obtain ⟨p, p1, _, p3⟩ := hx i x hi
    exact ⟨ha (fun e => by rw [e] at hlt; exact absurd hlt (Nat.not_lt_zero _)), hF x (List.mem_of_getElem? hi), p.2, p1.c3, p3⟩
  clear ha hx hF
  go_enter Tryz.func27, Tryz.ntmps27
  go_wp2
  go_loopw [7, 8, 9, 10, 11] (fun v7 _ _ _ _ wr => ∃ i : Nat, v7 = .int .i64 i ∧ i ≤ ls.length ∧ Hid (∀ j x, j < i → ls[j]? = some x → Out n x.docs) ∧ wr = w) (fun v7 _ _ _ _ _ => ls.length - (intOf v7).toNat)
  case atStart => exact ⟨0, rfl, Nat.zero_le _, (fun j x hj => absurd hj (Nat.not_lt_zero _)), rfl⟩
  case round =>
    obtain ⟨i, rfl, hi, HO, hwr⟩ := hrel
    subst hwr
    by_cases hlt : i < ls.length
    · obtain ⟨x, hx⟩ : ∃ x, ls[i]? = some x := ⟨_, List.getElem?_eq_getElem hlt⟩
      obtain ⟨rfl, hF, p, k3, hD⟩ := HX.out i x hx
      have HI : Hid (ls[i]? = some x) := hx
      obtain ⟨da, dcap, db, dof, rfl, hda, hdcap, hdx⟩ := hD
      have hdl := hF.docs
      have HF : Hid (∀ d ∈ x.docs, 1 ≤ d.line ∧ d.line ≤ 4096 ∧ d.text.length ≤ 69632) := hF.doc
      have HD : Hid (∀ (k : Nat) d, x.docs[k]? = some d → da = some ⟨db, dof, none⟩ ∧ DcC wr db (dof + k * 4) d) := fun k d hk => by
        have hlt := (List.getElem?_eq_some_iff.1 hk).1
        exact ⟨hda (fun e => by rw [e] at hlt; exact absurd hlt (Nat.not_lt_zero _)), hdx k d hk⟩
      have HLT : Hid (i < ls.length) := hlt
      have d0 : (0 : Int) ≤ (i : Int) := by omega
      have d1 : (i : Int) < (ls.length : Int) := by omega
      clear hx hF hda hdx hlt
      go_wp2
      go_loopw [8, 9, 10, 11] (fun v8 _ _ _ wr2 => ∃ k : Nat, v8 = .int .i64 k ∧ k ≤ x.docs.length ∧ Hid (∀ j d, j < k → x.docs[j]? = some d → ¬ (d.line - 1 ≤ n ∧ n ≤ d.line - 1 + d.text.count 10)) ∧ wr2 = wr) (fun v8 _ _ _ _ => x.docs.length - (intOf v8).toNat)
      case atStart => exact ⟨0, rfl, Nat.zero_le _, (fun j x hj => absurd hj (Nat.not_lt_zero _)), rfl⟩
      case round =>
        rename_i wz
        obtain ⟨k, rfl, hk, HK, hwr⟩ := hrel
        subst hwr
        by_cases hlt : k < x.docs.length
        · obtain ⟨d, hd⟩ : ∃ d, x.docs[k]? = some d := ⟨_, List.getElem?_eq_getElem hlt⟩
          obtain ⟨rfl, hDc⟩ := HD.out k d hd
          have c2 := hDc.c2
          have c3 := hDc.c3
          obtain ⟨f1, f2, f3⟩ := HF.out d (List.mem_of_getElem? hd)
          obtain ⟨L, hL⟩ : ∃ L : Nat, d.line = L + 1 := ⟨d.line - 1, by omega⟩
          rw [hL] at c2
          obtain ⟨T, hT⟩ : ∃ T, bs d.text = T := ⟨_, rfl⟩
          rw [hT] at c3
          have hTs : T.size = d.text.length := by rw [← hT, size_bs]
          have hTz : T.size ≤ 69632 := by omega
          have hL2 : L < 4096 := by omega
          have HT : Hid (un T = d.text) := by unfold Hid; rw [← hT, un_bs]
          have HKd : Hid (x.docs[k]? = some d) := hd
          have HL : Hid (d.line = L + 1) := hL
          have HLT2 : Hid (k < x.docs.length) := hlt
          have e0 : (0 : Int) ≤ (k : Int) := by omega
          have e1 : (k : Int) < (x.docs.length : Int) := by omega
          have e2 : (((L + 1 : Nat) : Int) - 1) = (L : Int) := by omega
          clear hd hDc f1 f2 f3 hL hT hTs hlt
          go_wp2
          go_loopw [10, 11] (fun v10 v11 wr3 => ∃ j : Nat, v11 = .int .i64 j ∧ j ≤ T.size ∧ v10 = .int .i64 ((L + cntN (un T) j : Nat) : Int) ∧ wr3 = wr) (fun _ v11 _ => T.size - (intOf v11).toNat)
          case atStart => exact ⟨0, rfl, Nat.zero_le _, by simp [cntN], rfl⟩
          case round =>
            rename_i wy
            obtain ⟨j, rfl, hj, rfl, hwr⟩ := hrel
            subst hwr
            have hcl := cntN_le (un T) j
            by_cases hlt : j < T.size
            · have g1 : (j : Int) < (T.size : Int) := by omega
              have g0 : (0 : Int) ≤ (j : Int) := by omega
              obtain ⟨y, hy⟩ : ∃ y, T[j]'hlt = y := ⟨_, rfl⟩
              have hfy : (un T)[j]? = some y := by rw [un_getElem? T j hlt, hy]
              have hcs := cntN_succ (un T) j y hfy
              have q10 : ((y.toNat : Int) == 10) = decide (y = 10) := beq_b8 y 10 (by decide)
              by_cases h10 : y = 10
              · rw [decide_eq_true h10] at q10
                rw [if_pos h10] at hcs
                have HCS : Hid (cntN (un T) (j + 1) = cntN (un T) j + 1) := hcs
                clear hcs h10 hfy
                generalize cntN (un T) j = C at *
                go_wp2
                go_roundw
                case rel => exact ⟨j + 1, by go_num, by omega, by rw [HCS.out]; go_num, by first | rfl | trivial⟩
                case measure => simp [intOf]; omega
              · rw [decide_eq_false h10] at q10
                rw [if_neg h10] at hcs
                have HCS : Hid (cntN (un T) (j + 1) = cntN (un T) j) := hcs
                clear hcs h10 hfy
                generalize cntN (un T) j = C at *
                go_wp2
                go_roundw
                case rel => exact ⟨j + 1, by go_num, by omega, by rw [HCS.out], by first | rfl | trivial⟩
                case measure => simp [intOf]; omega
            · have g1 : ¬ (j : Int) < (T.size : Int) := by omega
              obtain rfl : j = T.size := by omega
              have HC : Hid (cntN (un T) T.size = d.text.count 10) := by
                unfold Hid cntN
                rw [List.take_of_length_le (by rw [un_length]; exact Nat.le_refl _), HT.out]
              have HL0 : Hid (d.line - 1 = L) := by unfold Hid; rw [HL.out]; rfl
              rw [HC.out]
              have hC : d.text.count 10 ≤ 69632 := by rw [← HC.out]; omega
              generalize hCC : d.text.count 10 = C at *
              have t3 : decide ((n : Int) ≤ (fl : Int)) = true := decide_eq_true (by omega)
              have t3' : decide (n ≤ fl) = true := decide_eq_true hn
              by_cases hin : L ≤ n ∧ n ≤ L + C
              · have t1 : decide ((L : Int) ≤ (n : Int)) = true := decide_eq_true (by omega)
                have t1' : decide (L ≤ n) = true := decide_eq_true (by omega)
                have t2 : decide ((n : Int) ≤ (L : Int) + (C : Int)) = true := decide_eq_true (by omega)
                have t2' : decide (n ≤ L + C) = true := decide_eq_true (by omega)
                clear hin
                go_wp2
                go_ret
                unfold WithP
                exact ⟨true, rfl, (fun h => by cases h), rfl⟩
              · have HK2 : Hid (∀ j d, j < k + 1 → x.docs[j]? = some d → ¬ (d.line - 1 ≤ n ∧ n ≤ d.line - 1 + d.text.count 10)) := by
                  intro j d' hj hd'
                  rcases Nat.lt_or_ge j k with h | h
                  · exact HK.out j d' h hd'
                  · obtain rfl : j = k := by omega
                    rw [HKd.out] at hd'
                    cases hd'
                    rw [HL0.out, hCC]
                    exact hin
                have hk2 := HLT2.out
                by_cases h1 : L ≤ n
                · have t1 : decide ((L : Int) ≤ (n : Int)) = true := decide_eq_true (by omega)
                  have t1' : decide (L ≤ n) = true := decide_eq_true (by omega)
                  have t2 : decide ((n : Int) ≤ (L : Int) + (C : Int)) = false := decide_eq_false (by omega)
                  have t2' : decide (n ≤ L + C) = false := decide_eq_false (by omega)
                  clear hin h1
                  go_wp2
                  go_roundw
                  case rel => exact ⟨k + 1, by go_num, by omega, HK2, by first | rfl | trivial⟩
                  case measure => simp [intOf]; omega
                · have t1 : decide ((L : Int) ≤ (n : Int)) = false := decide_eq_false (by omega)
                  have t1' : decide (L ≤ n) = false := decide_eq_false (by omega)
                  clear hin h1
                  go_wp2
                  go_roundw
                  case rel => exact ⟨k + 1, by go_num, by omega, HK2, by first | rfl | trivial⟩
                  case measure => simp [intOf]; omega
        · have e1 : ¬ (k : Int) < (x.docs.length : Int) := by omega
          have HO2 : Hid (∀ j x, j < i + 1 → ls[j]? = some x → Out n x.docs) := by
            intro j x' hj hx'
            rcases Nat.lt_or_ge j i with h | h
            · exact HO.out j x' h hx'
            · obtain rfl : j = i := by omega
              rw [HI.out] at hx'
              cases hx'
              intro d hd
              obtain ⟨q, hq, rfl⟩ := List.getElem_of_mem hd
              exact HK.out q _ (by omega) (List.getElem?_eq_getElem hq)
          have hi2 := HLT.out
          clear HK
          go_wp2
          go_roundw
          case rel => exact ⟨i + 1, by go_num, by omega, HO2, by first | rfl | trivial⟩
          case measure => simp [intOf]; omega
    · have d1 : ¬ (i : Int) < (ls.length : Int) := by omega
      go_wp2
      go_ret
      unfold WithP
      refine ⟨false, rfl, fun _ x hx => ?_, rfl⟩
      obtain ⟨q, hq, rfl⟩ := List.getElem_of_mem hx
      exact HO.out q _ (by omega) (List.getElem?_eq_getElem hq)
end Go.Proofs.YtjgijbeedgggdaaGreatDoor

namespace Go.Proofs.YtjgijbeedgggdaaGreatDoor
open Go Go.RowKit

set_option maxRecDepth 100000 in
set_option maxHeartbeats 4000000 in
theorem alike_p (la lb : List LL) (va vb : Value) (w : World) (hA : LnsQ w va la) (hB : LnsQ w vb lb) (hE : lb.map erL = la.map erL) (hl : la.length ≤ 4096) (hF : ∀ x ∈ la, LlF x) : Calls Tryz.prog 29 #[va, vb] w fun e w' => e = .returned (.bool true) ∧ Below w.heap.size w w' := by
  have hll : lb.length = la.length := by have := congrArg List.length hE; simpa using this
  obtain ⟨aa, ca, ba, rfl, haa, hca, hxa⟩ := hA
  obtain ⟨ab, cb, bb, hvb, hab, hcb, hxb⟩ := hB
  rw [hll] at hvb hcb
  subst hvb
  have HX : Hid (∀ (i : Nat) x, la[i]? = some x → aa = some ⟨ba, 0, none⟩ ∧ ab = some ⟨bb, 0, none⟩ ∧ LlF x ∧ ∃ (y : LL) (p q : Value), y.docs.map erD = x.docs.map erD ∧ ∀ W, Below w.heap.size w W → W.cell? ⟨ba, i * 4 + 1, none⟩ = some (.string (bs x.text)) ∧ W.cell? ⟨ba, i * 4 + 3, none⟩ = some p ∧ DcsAt W p x.docs ∧ W.cell? ⟨bb, i * 4 + 1, none⟩ = some (.string (bs x.text)) ∧ W.cell? ⟨bb, i * 4 + 3, none⟩ = some q ∧ DcsAt W q y.docs) := fun i x hi => by
    have hlt := (List.getElem?_eq_some_iff.1 hi).1
    obtain ⟨y, hy⟩ : ∃ y, lb[i]? = some y := ⟨_, List.getElem?_eq_getElem (by omega)⟩
    have hxy : erL y = erL x := by
      have := congrArg (fun l => l[i]?) hE
      simp only [List.getElem?_map, hi, hy, Option.map_some] at this
      exact Option.some.inj this
    have ht : y.text = x.text := congrArg Prod.fst hxy
    have hd : y.docs.map erD = x.docs.map erD := congrArg Prod.snd hxy
    obtain ⟨p, p1, _, p3⟩ := hxa i x hi
    obtain ⟨q, q1, _, q3⟩ := hxb i y hy
    refine ⟨haa (fun e => by rw [e] at hlt; exact absurd hlt (Nat.not_lt_zero _)), hab (fun e => by rw [e] at hll; simp at hll; omega), hF x (List.mem_of_getElem? hi), y, p.2, q.2, hd, fun W hW => ?_⟩
    have q1' := (q1.below hW).c1
    rw [ht] at q1'
    exact ⟨(p1.below hW).c1, (p1.below hW).c3, p3.below hW, q1', (q1.below hW).c3, q3.below hW⟩
  clear haa hxa hab hxb hE hF
  go_enter Tryz.func29, Tryz.ntmps29
  go_wp2
  go_loopw [5, 6, 7, 8] (fun v5 _ _ _ wr => ∃ i : Nat, v5 = .int .i64 i ∧ i ≤ la.length ∧ Below w.heap.size w wr) (fun v5 _ _ _ _ => la.length - (intOf v5).toNat)
  case atStart => exact ⟨0, rfl, Nat.zero_le _, Below.refl _ _⟩
  case round =>
    obtain ⟨i, rfl, hi, hbw⟩ := hrel
    by_cases hlt : i < la.length
    · obtain ⟨x, hx⟩ : ∃ x, la[i]? = some x := ⟨_, List.getElem?_eq_getElem hlt⟩
      obtain ⟨rfl, rfl, hF, y, p, q, hyd, hW⟩ := HX.out i x hx
      have HLT : Hid (i < la.length) := hlt
      have hdl := hF.docs
      have HYD : Hid (y.docs.map erD = x.docs.map erD) := hyd
      have hyl : y.docs.length = x.docs.length := by have := congrArg List.length hyd; simpa using this
      have HWW : Hid (∀ W, Below w.heap.size w W → W.cell? ⟨ba, i * 4 + 3, none⟩ = some p ∧ W.cell? ⟨bb, i * 4 + 3, none⟩ = some q) := fun W hB => ⟨(hW W hB).2.1, (hW W hB).2.2.2.2.1⟩
      obtain ⟨k1, k3, kd, r1, r3, rd⟩ := hW wr hbw
      obtain ⟨pa, pc, pb, po, rfl, hpa, hpc, hpx⟩ := kd
      obtain ⟨qa, qc, qb, qo, hq, hqa, hqc, hqx⟩ := rd
      rw [hyl] at hq hqc
      subst hq
      have HP : Hid (x.docs ≠ [] → pa = some ⟨pb, po, none⟩ ∧ qa = some ⟨qb, qo, none⟩) := fun h => ⟨hpa h, hqa (fun e => by rw [e] at hyl; exact h (List.eq_nil_of_length_eq_zero (by simpa using hyl.symm)))⟩
      have HD : Hid (∀ (k : Nat) d, x.docs[k]? = some d → ∃ d', d'.name = d.name ∧ d'.raw = d.raw ∧ d'.text = d.text ∧ ∀ W, Below wr.heap.size wr W → DcC W pb (po + k * 4) d ∧ DcC W qb (qo + k * 4) d') := fun k d hk => by
        have hlt := (List.getElem?_eq_some_iff.1 hk).1
        obtain ⟨d', hd'⟩ : ∃ d', y.docs[k]? = some d' := ⟨_, List.getElem?_eq_getElem (by omega)⟩
        have hdd : erD d' = erD d := by
          have := congrArg (fun l => l[k]?) hyd
          simp only [List.getElem?_map, hk, hd', Option.map_some] at this
          exact Option.some.inj this
        exact ⟨d', congrArg Prod.fst hdd, congrArg (fun z => z.2.1) hdd, congrArg (fun z => z.2.2) hdd, fun W hW => ⟨(hpx k d hk).below hW, (hqx k d' hd').below hW⟩⟩
      have d0 : (0 : Int) ≤ (i : Int) := by omega
      have d1 : (i : Int) < (la.length : Int) := by omega
      obtain ⟨T, hT⟩ : ∃ T, bs x.text = T := ⟨_, rfl⟩
      rw [hT] at k1 r1
      have t0 : (T.toList != T.toList) = false := by simp
      clear hx hF hyd hyl hlt hpa hqa hpx hqx hW hT
      go_wp2
      go_quiet (fail)
      obtain ⟨w0, hw0⟩ : ∃ w0, w0 = wr := ⟨_, rfl⟩
      subst hw0
      go_wp2
      go_loopw [6, 7, 8] (fun v6 _ _ wr2 => ∃ k : Nat, v6 = .int .i64 k ∧ k ≤ x.docs.length ∧ Below w0.heap.size w0 wr2) (fun v6 _ _ _ => x.docs.length - (intOf v6).toNat)
      case atStart => exact ⟨0, rfl, Nat.zero_le _, below_drawn (Below.refl _ _) _⟩
      case round =>
        obtain ⟨k, rfl, hk, hb0⟩ := hrel
        have hbb := below_join hbw hb0
        obtain ⟨s3, s4⟩ := HWW.out wr hbb
        by_cases hlt : k < x.docs.length
        · obtain ⟨d, hd⟩ : ∃ d, x.docs[k]? = some d := ⟨_, List.getElem?_eq_getElem hlt⟩
          obtain ⟨d', e1, e2, e3, hW⟩ := HD.out k d hd
          obtain ⟨rfl, rfl⟩ := HP.out (fun e => by rw [e] at hlt; simp at hlt)
          have HLT2 : Hid (k < x.docs.length) := hlt
          have f0 : (0 : Int) ≤ (k : Int) := by omega
          have f1 : (k : Int) < (x.docs.length : Int) := by omega
          obtain ⟨c0, c1, c2, c3⟩ := (hW wr hb0).1
          have HQ : Hid (∀ W, Below w0.heap.size w0 W → DcC W qb (qo + k * 4) d') := fun W hB => (hW W hB).2
          have L1 := Lies.new wr 133 #[.string (bs d.name), .bool d.raw, .int .i64 d.line, .string (bs d.text)]
          have B1 : Below wr.heap.size wr (wr.alloc (.cells #[.string (bs d.name), .bool d.raw, .int .i64 d.line, .string (bs d.text)] 133)) := (Below.refl _ wr).alloc (Nat.le_refl _) _
          generalize hw1 : wr.alloc (.cells #[.string (bs d.name), .bool d.raw, .int .i64 d.line, .string (bs d.text)] 133) = w1 at *
          have hb1 := below_join hb0 B1
          obtain ⟨_, s4'⟩ := HWW.out w1 (below_join hbw hb1)
          obtain ⟨g0, g1, g2, g3⟩ := HQ.out w1 hb1
          have L2 := Lies.new w1 133 #[.string (bs d'.name), .bool d'.raw, .int .i64 d'.line, .string (bs d'.text)]
          have B2 : Below w1.heap.size w1 (w1.alloc (.cells #[.string (bs d'.name), .bool d'.raw, .int .i64 d'.line, .string (bs d'.text)] 133)) := (Below.refl _ w1).alloc (Nat.le_refl _) _
          have L1' := L1.below B2
          generalize hw2 : w1.alloc (.cells #[.string (bs d'.name), .bool d'.raw, .int .i64 d'.line, .string (bs d'.text)] 133) = w2 at *
          have hb2 := below_join hb1 B2
          have m0 : w2.cell? ⟨wr.heap.size, 0, none⟩ = some (.string (bs d.name)) := L1'.cell (i := 0) rfl
          have m1 : w2.cell? ⟨wr.heap.size, 1, none⟩ = some (.bool d.raw) := L1'.cell (i := 1) rfl
          have m3 : w2.cell? ⟨wr.heap.size, 3, none⟩ = some (.string (bs d.text)) := L1'.cell (i := 3) rfl
          have n0 : w2.cell? ⟨w1.heap.size, 0, none⟩ = some (.string (bs d.name)) := by rw [← e1]; exact L2.cell (i := 0) rfl
          have n1 : w2.cell? ⟨w1.heap.size, 1, none⟩ = some (.bool d.raw) := by rw [← e2]; exact L2.cell (i := 1) rfl
          have n3 : w2.cell? ⟨w1.heap.size, 3, none⟩ = some (.string (bs d.text)) := by rw [← e3]; exact L2.cell (i := 3) rfl
          clear L1 L2 L1' e1 e2 e3 hW hd hlt
          go_upto_region 12 with fail
          try rw [hw1]
          go_upto_region 13 with fail
          try rw [hw2]
          go_wp2
          have hk2 := HLT2.out
          go_roundw
          case rel => exact ⟨k + 1, by go_num, by omega, hb2⟩
          case measure => simp [intOf]; omega
        · have f1 : ¬ (k : Int) < (x.docs.length : Int) := by omega
          have hi2 := HLT.out
          go_wp2
          go_roundw
          case rel => exact ⟨i + 1, by go_num, by omega, hbb⟩
          case measure => simp [intOf]; omega
    · have d1 : ¬ (i : Int) < (la.length : Int) := by omega
      go_wp2
      go_ret
      exact ⟨rfl, hbw⟩
end Go.Proofs.YtjgijbeedgggdaaGreatDoor

namespace Go.Proofs.YtjgijbeedgggdaaGreatDoor
open Go Go.RowKit

theorem past_le (x : Ln) (i : Nat) (h : i ≤ x.length) : i ≤ pastL x i ∧ pastL x i ≤ x.length := by
  unfold pastL
  have := (List.takeWhile_sublist isBl (l := x.drop i)).length_le
  rw [List.length_drop] at this
  exact ⟨by omega, by omega⟩
def dirI (x : Ln) : Int := match dirAt x with
  | some a => (a : Int)
  | none => -1
abbrev escS : ByteArray := ⟨#[101, 115, 99, 97, 112, 101]⟩
abbrev copyS : ByteArray := ⟨#[99, 111, 112, 121]⟩
set_option maxRecDepth 100000 in
set_option maxHeartbeats 2000000 in
theorem directive_r (s : ByteArray) (w : World) (hs : s.size ≤ 1099511627776) : Calls Tryz.prog 25 #[.string s] w fun e w' => e = .returned (.int .i64 (dirI (un s))) ∧ Below w.heap.size w w' := by
  have hsl := un_length s
  have hh := fun W => head_r s W hs
  have hle := hd_le (un s)
  by_cases hlt : hd (un s) < s.size
  rotate_left
  · have hI : headI (un s) = -1 := by unfold headI; rw [if_neg (by omega)]
    rw [hI] at hh
    have HD : Hid (dirI (un s) = -1) := by
      unfold Hid dirI dirAt
      rw [if_neg (fun h => by rw [List.getElem?_eq_none (by omega)] at h; exact absurd h.1 (by simp))]
    rw [HD.out]
    go_enter Tryz.func25, Tryz.ntmps25
    go_wp2_with (go_at_call 37; refine (hh _).mono ?_; rintro e w1 ⟨rfl, hw⟩; replace hw := hw.symm; subst hw)
    go_ret
    exact ⟨rfl, Below.refl _ _⟩
  have hI : headI (un s) = (hd (un s) : Int) := by unfold headI; rw [if_pos (by omega)]
  rw [hI] at hh
  have hget := un_getElem? s _ hlt
  have q1 : ((s[hd (un s)].toNat : Int) != 35) = !decide (s[hd (un s)] = 35) := by unfold bne; rw [show ((s[hd (un s)].toNat : Int) == 35) = decide (s[hd (un s)] = 35) from beq_b8 _ 35 (by decide)]
  have k0 : (0 : Int) ≤ (hd (un s) : Int) := by omega
  have k1 : (hd (un s) : Int) < (s.size : Int) := by omega
  have k2 : ¬ (hd (un s) : Int) < 0 := by omega
  by_cases h35 : s[hd (un s)] = 35
  rotate_left
  · rw [decide_eq_false h35] at q1
    simp only [Bool.not_false] at q1
    have HD : Hid (dirI (un s) = -1) := by
      unfold Hid dirI dirAt
      rw [if_neg (fun h => by rw [hget] at h; exact h35 (Option.some.inj h.1))]
    rw [HD.out]
    clear HD hget h35 hI hle
    generalize hd (un s) = h at *
    go_enter Tryz.func25, Tryz.ntmps25
    go_wp2_with (go_at_call 37; refine (hh _).mono ?_; rintro e w1 ⟨rfl, hw⟩; replace hw := hw.symm; subst hw)
    go_ret
    exact ⟨rfl, Below.refl _ _⟩
  rw [decide_eq_true h35] at q1
  simp only [Bool.not_true] at q1
  have hp1 : ∀ W, Calls Tryz.prog 76 #[.string s, .int .i64 ((hd (un s) : Int) + 1)] W fun e w' => e = .returned (.int .i64 (pastL (un s) (hd (un s) + 1))) ∧ w' = W := fun W => past_r s (hd (un s) + 1) W hs (by omega)
  have hb1 := past_le (un s) (hd (un s) + 1) (by omega)
  have hsy := fun W => says_r s escS (pastL (un s) (hd (un s) + 1)) W hs (by decide) (by omega)
  cases hsays : saysL (un s) (pastL (un s) (hd (un s) + 1)) (un escS)
  · rw [hsays] at hsy
    have HD : Hid (dirI (un s) = -1) := by
      unfold Hid dirI dirAt
      rw [if_neg (fun h => by have := h.2.1; rw [show escW = un escS from rfl, hsays] at this; cases this)]
    rw [HD.out]
    clear HD hget h35 hI hle hsays
    generalize pastL (un s) (hd (un s) + 1) = p1 at *
    generalize hd (un s) = h at *
    go_enter Tryz.func25, Tryz.ntmps25
    go_wp2_with (first | (go_at_call 37; refine (hh _).mono ?_; rintro e w1 ⟨rfl, hw⟩; replace hw := hw.symm; subst hw) | (go_at_call 76; refine (hp1 _).mono ?_; rintro e w1 ⟨rfl, hw⟩; replace hw := hw.symm; subst hw) | (go_at_call 77; with_reducible refine (hsy _).mono ?_; rintro e w2 ⟨rfl, b2⟩))
    go_ret
    exact ⟨rfl, b2⟩
  · have hfit : pastL (un s) (hd (un s) + 1) + 6 ≤ s.size := by
      have := hsays
      unfold saysL at this
      simp only [Bool.and_eq_true, decide_eq_true_eq] at this
      have h6 : (un escS).length = 6 := rfl
      omega
    rw [hsays] at hsy
    have hp2 : ∀ W, Calls Tryz.prog 76 #[.string s, .int .i64 ((pastL (un s) (hd (un s) + 1) : Int) + 6)] W fun e w' => e = .returned (.int .i64 (pastL (un s) (pastL (un s) (hd (un s) + 1) + 6))) ∧ w' = W := fun W => past_r s (pastL (un s) (hd (un s) + 1) + 6) W hs hfit
    have hb2 := past_le (un s) (pastL (un s) (hd (un s) + 1) + 6) (by omega)
    have HD : Hid (dirI (un s) = if (un s)[pastL (un s) (pastL (un s) (hd (un s) + 1) + 6)]? = some 61 then (pastL (un s) (pastL (un s) (hd (un s) + 1) + 6) : Int) else -1) := by
      unfold Hid dirI dirAt
      by_cases h61 : (un s)[pastL (un s) (pastL (un s) (hd (un s) + 1) + 6)]? = some 61
      · rw [if_pos ⟨by rw [hget, h35], hsays, h61⟩, if_pos h61]
      · rw [if_neg (fun h => h61 h.2.2), if_neg h61]
    rw [HD.out]
    clear HD hget h35 hI hle hsays
    generalize pastL (un s) (pastL (un s) (hd (un s) + 1) + 6) = p2 at *
    generalize pastL (un s) (hd (un s) + 1) = p1 at *
    generalize hd (un s) = h at *
    by_cases hp : p2 < s.size
    · have hg2 := un_getElem? s p2 hp
      have q2 : ((s[p2].toNat : Int) == 61) = decide (s[p2] = 61) := beq_b8 _ 61 (by decide)
      have j1 : (p2 : Int) < (s.size : Int) := by omega
      have j0 : (0 : Int) ≤ (p2 : Int) := by omega
      have HX : Hid ((if (un s)[p2]? = some 61 then (p2 : Int) else -1) = if s[p2] = 61 then (p2 : Int) else -1) := by
        unfold Hid
        rw [hg2]
        by_cases h61 : s[p2] = 61
        · rw [if_pos (by rw [h61]), if_pos h61]
        · rw [if_neg (fun e => h61 (Option.some.inj e)), if_neg h61]
      rw [HX.out]
      clear HX hg2
      by_cases h61 : s[p2] = 61
      all_goals
        first | rw [if_pos h61] | rw [if_neg h61]
        first | rw [decide_eq_true h61] at q2 | rw [decide_eq_false h61] at q2
        clear h61
        go_enter Tryz.func25, Tryz.ntmps25
        go_wp2_with (first | (go_at_call 37; refine (hh _).mono ?_; rintro e w1 ⟨rfl, hw⟩; replace hw := hw.symm; subst hw) | (go_at_call 76; first | (with_reducible refine (hp1 _).mono ?_; rintro e w1 ⟨rfl, hw⟩; replace hw := hw.symm; subst hw) | (with_reducible refine (hp2 _).mono ?_; rintro e w1 ⟨rfl, hw⟩; replace hw := hw.symm; subst hw)) | (go_at_call 77; with_reducible refine (hsy _).mono ?_; rintro e w2 ⟨rfl, b2⟩))
        go_ret
        exact ⟨rfl, b2⟩
    · have j1 : ¬ (p2 : Int) < (s.size : Int) := by omega
      have HX : Hid ((if (un s)[p2]? = some 61 then (p2 : Int) else -1) = -1) := by
        unfold Hid; rw [if_neg (fun e => by rw [List.getElem?_eq_none (by omega)] at e; cases e)]
      rw [HX.out]
      go_enter Tryz.func25, Tryz.ntmps25
      go_wp2_with (first | (go_at_call 37; refine (hh _).mono ?_; rintro e w1 ⟨rfl, hw⟩; replace hw := hw.symm; subst hw) | (go_at_call 76; first | (with_reducible refine (hp1 _).mono ?_; rintro e w1 ⟨rfl, hw⟩; replace hw := hw.symm; subst hw) | (with_reducible refine (hp2 _).mono ?_; rintro e w1 ⟨rfl, hw⟩; replace hw := hw.symm; subst hw)) | (go_at_call 77; with_reducible refine (hsy _).mono ?_; rintro e w2 ⟨rfl, b2⟩))
      go_ret
      exact ⟨rfl, b2⟩
end Go.Proofs.YtjgijbeedgggdaaGreatDoor

namespace Go.Proofs.YtjgijbeedgggdaaGreatDoor
open Go Go.RowKit

theorem wrapP (z : Int) (h : -9223372036854775808 ≤ z ∧ z ≤ 9223372036854775807) : IntKind.i64.wrap z = z := by
  rw [IntKind.wrap_i64]; omega
set_option maxHeartbeats 1000000 in
theorem pick_n (k : Int) (n : Nat) (hn : n ≤ 4611686018427387904) (w : World) : Calls Tryz.prog 26 #[.int .i64 k, .int .i64 n] w fun e w' => (∃ j : Nat, j < max n 1 ∧ e = .returned (.int .i64 j)) ∧ w' = w := by
  rcases Nat.eq_zero_or_pos n with rfl | hp
  · have h1 : (0 : Int) ≤ 0 := by omega
    go_enter Tryz.func26, Tryz.ntmps26
    go_wp2
    go_ret
    exact ⟨⟨0, by omega, rfl⟩, rfl⟩
  · have hn0 : ¬ (n : Int) ≤ 0 := by omega
    have hn1 : ¬ (n : Int) < 1 := by omega
    have hne : ¬ (n : Int) = 0 := by omega
    have hr1 : -(n : Int) < k.tmod n ∧ k.tmod n < n := by
      have := Int.natAbs_tmod k n
      have h2 := Nat.mod_lt k.natAbs (show 0 < (n : Int).natAbs by omega)
      have h3 : (n : Int).natAbs = n := by simp
      omega
    have w1 : IntKind.i64.wrap (k.tmod n) = k.tmod n := wrapP _ (by omega)
    by_cases h0 : k.tmod n < 0
    · have w2 : IntKind.i64.wrap (k.tmod n + n) = k.tmod n + n := wrapP _ (by omega)
      have w3 : IntKind.i64.wrap (n + k.tmod n) = n + k.tmod n := wrapP _ (by omega)
      go_enter Tryz.func26, Tryz.ntmps26
      go_wp2
      go_ret
      refine ⟨⟨(k.tmod n + n).toNat, by omega, ?_⟩, rfl⟩
      rw [Int.toNat_of_nonneg (by omega)]
      first | rfl | (congr 2; omega)
    · go_enter Tryz.func26, Tryz.ntmps26
      go_wp2
      go_ret
      refine ⟨⟨(k.tmod n).toNat, by omega, ?_⟩, rfl⟩
      rw [Int.toNat_of_nonneg (by omega)]
      first | rfl | (congr 2; omega)
end Go.Proofs.YtjgijbeedgggdaaGreatDoor

namespace Go.Proofs.YtjgijbeedgggdaaGreatDoor
open Go Go.RowKit

def gI (f : List Ln) (more : Ln) (a i : Nat) : List Ln := if i ≤ a then f.take i else f.take a ++ more :: (f.drop a).take (i - a)
theorem gI_zero (f : List Ln) (more : Ln) (a : Nat) : gI f more a 0 = [] := by unfold gI; rw [if_pos (Nat.zero_le _)]; rfl
theorem gI_other (f : List Ln) (more : Ln) (a i : Nat) (x : Ln) (hx : f[i]? = some x) (h : i ≠ a) : gI f more a (i + 1) = gI f more a i ++ [x] := by
  unfold gI
  rcases Nat.lt_or_ge i a with h1 | h1
  · rw [if_pos (by omega), if_pos (by omega), List.take_add_one, hx]; rfl
  · rw [if_neg (by omega), if_neg (by omega), show i + 1 - a = (i - a) + 1 by omega, List.take_add_one, List.getElem?_drop, show a + (i - a) = i by omega, hx]
    simp
theorem gI_at (f : List Ln) (more : Ln) (a : Nat) (x : Ln) (hx : f[a]? = some x) : gI f more a (a + 1) = gI f more a a ++ [more] ++ [x] := by
  unfold gI
  rw [if_neg (by omega), if_pos (Nat.le_refl _), show a + 1 - a = 1 by omega, drop_consT hx]
  simp
theorem gI_end (f : List Ln) (more : Ln) (a : Nat) (h : a < f.length) : gI f more a f.length = f.take a ++ more :: f.drop a := by
  unfold gI
  rw [if_neg (by omega), List.take_of_length_le (l := f.drop a) (by rw [List.length_drop]; exact Nat.le_refl _)]
theorem gI_last (f : List Ln) (more : Ln) : gI f more f.length f.length ++ [more] = f.take f.length ++ more :: f.drop f.length := by
  unfold gI
  rw [if_pos (Nat.le_refl _), List.drop_length]
theorem gI_len (f : List Ln) (more : Ln) (a i : Nat) : (gI f more a i).length ≤ i + 1 := by
  unfold gI
  split
  · rw [List.length_take]; omega
  · rw [List.length_append, List.length_cons, List.length_take, List.length_take]; omega
theorem len_le_file (g : List Ln) : g.length ≤ (fileL g).length := by
  induction g with
  | nil => simp
  | cons x g ih => simp [fileL] at ih ⊢; omega
theorem file_ins_len (f : List Ln) (more : Ln) (a : Nat) : (fileL (f.take a ++ more :: f.drop a)).length = (fileL f).length + more.length + 1 := by
  have e : fileL f = fileL (f.take a) ++ fileL (f.drop a) := by rw [← file_append, List.take_append_drop]
  rw [file_append, e, show fileL (more :: f.drop a) = more ++ [10] ++ fileL (f.drop a) from by simp [fileL]]
  simp only [List.length_append, List.length_cons, List.length_nil]
  omega
theorem file_cut_len (s : Ln) : (fileL (cutL s)).length ≤ s.length + 1 := by
  have := file_length s []
  simpa [cutL] using this
set_option maxRecDepth 100000 in
set_option maxHeartbeats 8000000 in
theorem lexremarks_law (s : ByteArray) (k : Int) (em : Bool) (w : World) (hT : Tabs w) (hE : ErrType w) (hs : s.size ≤ 1073741824) : Calls Tryz.prog 7 #[.string s, .int .i64 k, .bool em] w fun e w' => e = .returned (.bool true) ∧ Below w.heap.size w w' := by
  obtain ⟨i0, hi0, z0, z1, z2⟩ := info_parts str_info
  have hWk : ∀ W, Below w.heap.size w W → Calls Tryz.prog 16 #[] W fun e w' => e = .returned (.bool true) ∧ Below W.heap.size W w' := fun W hW => works_l W (hT.below hW) (hE.belowE hW)
  have hC := cut_r s w hs
  have hcs := cut_sum (un s)
  rw [un_length] at hcs
  have hcl : ∀ y ∈ cutL (un s), y.length ≤ s.size := fun y hy => by have := cut_len (un s) y hy; rwa [un_length] at this
  have HCL0 : Hid (∀ y ∈ cutL (un s), y.length ≤ s.size) := hcl
  clear hcl
  go_enter Tryz.func7, Tryz.ntmps7
  go_wp2_with fail
  refine hC.mono ?_
  rintro e w1 ⟨vf, rfl, hown, b1⟩
  have hfl0 : (cutL (un s)).length ≤ 1073741825 := by
    have h1 := len_le_file (cutL (un s))
    have h2 := file_cut_len (un s)
    rw [un_length] at h2; omega
  have HF : Hid (TextsAt w1 vf ((cutL (un s)).map bs)) := TextsAt.own (by rw [List.length_map]; exact hown)
  clear hC hown
  obtain ⟨fa, fc, hvf, _, hfx⟩ := HF.out
  rw [List.length_map] at hvf
  subst hvf
  have HFX : Hid (∀ (L : Nat) (y : Ln), (cutL (un s))[L]? = some y → ∃ fb fo, fa = some ⟨fb, fo, none⟩ ∧ w1.cell? ⟨fb, fo + L, none⟩ = some (.string (bs y))) := fun L y hy => hfx L (bs y) (by rw [List.getElem?_map, hy]; rfl)
  clear HF hfx
  generalize hfl : (cutL (un s)).length = fl at *
  go_wp2
  go_loopw [8] (fun v8 wr => ∃ n : Nat, v8 = .int .i64 n ∧ n ≤ fl ∧ Below w1.heap.size w1 wr) (fun v8 _ => fl - (intOf v8).toNat)
  case atStart => exact ⟨0, rfl, Nat.zero_le _, Below.refl _ _⟩
  case round =>
    obtain ⟨n, rfl, hn, hbn⟩ := hrel
    have HEX : Hid ((∀ x, (cutL (un s))[n]? = some x → dirI x < 0) → ∀ j, ∀ x, (cutL (un s))[0]? = some x → (dirAt x).isSome = true → 1 ≤ n + j) := by
      intro h j x hx hd
      rcases Nat.eq_zero_or_pos n with h0 | h0
      · subst h0
        have := h x hx
        unfold dirI at this
        cases hda : dirAt x with
        | none => rw [hda] at hd; cases hd
        | some q => rw [hda] at this; simp only at this; omega
      · omega
    by_cases hgo : ∃ x, (cutL (un s))[n]? = some x ∧ 0 ≤ dirI x
    · obtain ⟨x, hx, hdx⟩ := hgo
      have hlt := (List.getElem?_eq_some_iff.1 hx).1
      rw [hfl] at hlt
      obtain ⟨fb, fo, rfl, hfc⟩ := HFX.out n x hx
      have c1 := cell_belowE hbn hfc
      have hDi := directive_r (bs x) wr (by rw [size_bs]; have := HCL0.out x (List.mem_of_getElem? hx); omega)
      rw [un_bs] at hDi
      have d0 : (0 : Int) ≤ (n : Int) := by omega
      have d1 : (n : Int) < (fl : Int) := by omega
      generalize dirI x = D at *
      clear hx hfc HEX
      go_wp2_with (go_at_call 25; refine hDi.mono ?_; rintro e w2 ⟨rfl, b2⟩)
      go_roundw
      case rel => exact ⟨n + 1, by go_num, by omega, below_join hbn b2⟩
      case measure => simp [intOf]; omega
    · have hneg : ∀ x, (cutL (un s))[n]? = some x → dirI x < 0 := fun x hx => by
        rcases Int.lt_or_le (dirI x) 0 with h | h
        · exact h
        · exact absurd ⟨x, hx, h⟩ hgo
      have HD0 : Hid (∀ j, ∀ x, (cutL (un s))[0]? = some x → (dirAt x).isSome = true → 1 ≤ n + j) := HEX.out hneg
      clear hgo HEX
      by_cases hlt : n < fl
      · obtain ⟨x, hx⟩ : ∃ x, (cutL (un s))[n]? = some x := ⟨_, List.getElem?_eq_getElem (by rw [hfl]; exact hlt)⟩
        obtain ⟨fb, fo, hfa, hfc⟩ := HFX.out n x hx
        have c1 := cell_belowE hbn hfc
        have hDi := directive_r (bs x) wr (by rw [size_bs]; have := HCL0.out x (List.mem_of_getElem? hx); omega)
        rw [un_bs] at hDi
        have hdx := hneg x hx
        have d0 : (0 : Int) ≤ (n : Int) := by omega
        have d1 : (n : Int) < (fl : Int) := by omega
        have d2 : ¬ (0 : Int) ≤ dirI x := by omega
        generalize dirI x = D at *
        rw [hfa]
        clear hx hfc hneg
        go_wp2_with (go_at_call 25; refine hDi.mono ?_; rintro e w2 ⟨rfl, b2⟩)
        rw [← hfa]
        clear hfa c1 hDi hdx d2
        have BW := below_join hbn b2
        clear b2 hbn
        generalize hww : w2 = W1 at *
        clear hww
        cases hl : lexL (un s) with
        | error fl2 =>
          obtain ⟨no, l, a2⟩ := fl2
          have h1 := lines_err s no l a2 hl W1 (hT.below (below_join b1 BW)) (hE.belowE (below_join b1 BW))
          clear hl
          go_wp2_with fail
          refine h1.mono ?_
          rintro e w3 ⟨rfl, b3⟩
          have B3 := below_join (below_join b1 BW) b3
          have h2 := hWk w3 B3
          go_wp2_with (go_at_call 16; refine h2.mono ?_; rintro e w4 ⟨rfl, b4⟩)
          go_ret
          exact ⟨rfl, below_join B3 b4⟩
        | ok pr =>
          obtain ⟨ec, ls⟩ := pr
          have h1 := lines_ok s ec ls hl W1 (hT.below (below_join b1 BW)) (hE.belowE (below_join b1 BW))
          obtain ⟨hll, hLF⟩ := llf_of _ _ _ hl
          have HLX : Hid (lexL (un s) = .ok (ec, ls)) := hl
          have HLF : Hid (∀ x ∈ ls, LlF x) := hLF
          clear hl hLF
          go_wp2_with fail
          refine h1.mono ?_
          rintro e w3 ⟨v, us, rfl, hv, b3⟩
          have B3 := below_join (below_join b1 BW) b3
          have HQ : Hid (∀ W, Below w3.heap.size w3 W → LnsQ W v ls) := fun W hW => (lns_q hv).below hW
          clear h1 hv
          have h2 := hWk w3 B3
          obtain ⟨av, cv, bv, hsl, _, _, _⟩ := HQ.out w3 (Below.refl _ _)
          subst hsl
          by_cases hs1 : 60000 < s.size
          · have t1 : (60000 : Int) < (s.size : Int) := by omega
            go_wp2_with (go_at_call 16; refine h2.mono ?_; rintro e w4 ⟨rfl, b4⟩)
            go_ret
            exact ⟨rfl, below_join B3 b4⟩
          · have t1 : ¬ (60000 : Int) < (s.size : Int) := by omega
            by_cases hf1 : 4000 < fl
            · have t2 : (4000 : Int) < (fl : Int) := by omega
              go_wp2_with (go_at_call 16; refine h2.mono ?_; rintro e w4 ⟨rfl, b4⟩)
              go_ret
              exact ⟨rfl, below_join B3 b4⟩
            · have t2 : ¬ (4000 : Int) < (fl : Int) := by omega
              have hPk := pick_n k (fl - n + 1) (by omega) w3
              rw [show ((fl - n + 1 : Nat) : Int) = (fl : Int) - (n : Int) + 1 by omega] at hPk
              go_wp2_with fail
              refine hPk.mono ?_
              rintro e w4 ⟨⟨j, hj, rfl⟩, hw4⟩
              subst hw4
              obtain ⟨a, ha⟩ : ∃ a, n + j = a := ⟨_, rfl⟩
              have hafl : a ≤ fl := by omega
              have e1 : (n : Int) + (j : Int) = (a : Int) := by omega
              have HD1 : Hid (∀ x, (cutL (un s))[0]? = some x → (dirAt x).isSome = true → 1 ≤ a) := by unfold Hid; rw [← ha]; exact HD0.out j
              have hWi := within_p ls _ _ fa fl fc a rfl w4 (HQ.out w4 (Below.refl _ _)) hll HLF.out hafl
              clear hPk ha hj
              go_wp2_with fail
              refine hWi.mono ?_
              rintro e W0 hWP
              obtain ⟨r, rfl, hr, hw5⟩ := hWP
              subst hw5
              cases r with
              | true =>
                clear hr
                go_wp2_with (go_at_call 16; refine h2.mono ?_; rintro e w4 ⟨rfl, b4⟩)
                go_ret
                exact ⟨rfl, below_join B3 b4⟩
              | false =>
                have hO := hr rfl
                have B0f := below_join BW b3
                have B0Q : Below W0.heap.size W0 W0 := Below.refl _ _
                have B0 := B3
                clear hr hWi h2
                cases em with
                | true =>
                  obtain ⟨ms, hms1, hms2⟩ := lex_remarks (un s) ec ls HLX.out (by rw [un_length]; omega) (by rw [hfl]; omega) [32, 9] (by first | exact .inl rfl | exact .inr rfl) a (by rw [hfl]; omega) HD1.out hO
                  have HMS : Hid (lexL (fileL ((cutL (un s)).take a ++ [32, 9] :: (cutL (un s)).drop a)) = .ok (ec, ms) ∧ ms.map erL = ls.map erL) := ⟨hms1, hms2⟩
                  clear hms1 hms2 hO
                  go_wp2_with fail
                  go_loopw [13, 14] (fun v13 v14 wr => ∃ i : Nat, v14 = .int .i64 i ∧ i ≤ fl ∧ wr.ownsRow W0.heap.size 9 1 v13 (gI (cutL (un s)) [32, 9] a i).length (strs ((gI (cutL (un s)) [32, 9] a i).map bs)) ∧ Below W0.heap.size W0 wr) (fun _ v14 _ => fl - (intOf v14).toNat)
                  case atStart => exact ⟨0, rfl, Nat.zero_le _, by rw [gI_zero]; exact World.ownsRow_nil _ _ _ _, Below.refl _ _⟩
                  case round =>
                    obtain ⟨i, rfl, hi, hown, hbw⟩ := hrel
                    have hgl := gI_len (cutL (un s)) [32, 9] a i
                    have hsz := hbw.size
                    by_cases hlt : i < fl
                    · obtain ⟨x, hx⟩ : ∃ x, (cutL (un s))[i]? = some x := ⟨_, List.getElem?_eq_getElem (by rw [hfl]; exact hlt)⟩
                      obtain ⟨fb, fo, rfl, hfc⟩ := HFX.out i x hx
                      have d0 : (0 : Int) ≤ (i : Int) := by omega
                      have d1 : (i : Int) < (fl : Int) := by omega
                      have HCL : Hid (∀ W, Below W0.heap.size W0 W → W.cell? ⟨fb, fo + i, none⟩ = some (.string (bs x))) := fun W hW => cell_belowE (below_join B0f hW) hfc
                      by_cases hia : i = a
                      · have q1 : ((i : Int) == (a : Int)) = true := by simp [hia]
                        have HG : Hid (gI (cutL (un s)) [32, 9] a (i + 1) = gI (cutL (un s)) [32, 9] a i ++ [[32, 9]] ++ [x]) := by
                          unfold Hid; subst hia; exact gI_at _ _ _ _ hx
                        obtain ⟨G1, hG1⟩ : ∃ G1, gI (cutL (un s)) [32, 9] a (i + 1) = G1 := ⟨_, rfl⟩
                        have HG1 : Hid (gI (cutL (un s)) [32, 9] a (i + 1) = G1) := hG1
                        rw [hG1] at HG
                        clear hG1
                        generalize gI (cutL (un s)) [32, 9] a i = G0 at *
                        clear hia hx hfc
                        go_upto_region 20 with (first | (at_builtin; refine wpList_append_own _ rfl _ _ 70 rfl W0.heap.size 9 i0 (.string ⟨#[]⟩) 1 16 Tryz.underlying70 hi0 z0 z1 z2 rfl (by decide) _ _ _ rfl (hown.alloc _) ⟨wr.heap.size, 0, none⟩ 1 1 [.string (bs [32, 9])] rfl rfl (cell_one'' _ _ _) (by simp [Value.oneCell']) (by unfold maxLen; omega) (by omega) (by simp; omega) ?_; intro v1 w1 hown1 hgrow1 _))
                        have hb1 : Below W0.heap.size W0 w1 := (hbw.alloc hsz _).grown hgrow1 (by simp; omega) (fun j hj => own_ge' hown j hj.symm)
                        have hc1 := HCL.out w1 hb1
                        have hsz1 := hb1.size
                        go_wp2_with (first | (at_builtin; refine wpList_append_own _ rfl _ _ 70 rfl W0.heap.size 9 i0 (.string ⟨#[]⟩) 1 16 Tryz.underlying70 hi0 z0 z1 z2 rfl (by decide) _ _ _ rfl (hown1.alloc _) ⟨w1.heap.size, 0, none⟩ 1 1 [.string (bs x)] rfl rfl (cell_one'' _ _ _) (by simp [Value.oneCell']) (by unfold maxLen; omega) (by omega) (by simp; omega) ?_; intro v2 w2 hown2 hgrow2 _))
                        have hb2 : Below W0.heap.size W0 w2 := (hb1.alloc hsz1 _).grown hgrow2 (by simp; omega) (fun j hj => own_ge' hown1 j hj.symm)
                        have hown3 : w2.ownsRow W0.heap.size 9 1 v2 G1.length (strs (G1.map bs)) := by
                          rw [HG.out, List.map_append, List.map_append, strs_append, strs_append, List.length_append, List.length_append]; exact hown2
                        go_roundw
                        case rel => exact ⟨i + 1, by go_num, by omega, by rw [HG1.out]; exact hown3, hb2⟩
                        case measure => simp [intOf]; omega
                      · have q1 : ((i : Int) == (a : Int)) = false := by simp; omega
                        have HG : Hid (gI (cutL (un s)) [32, 9] a (i + 1) = gI (cutL (un s)) [32, 9] a i ++ [x]) := gI_other _ _ _ _ _ hx hia
                        obtain ⟨G1, hG1⟩ : ∃ G1, gI (cutL (un s)) [32, 9] a (i + 1) = G1 := ⟨_, rfl⟩
                        have HG1 : Hid (gI (cutL (un s)) [32, 9] a (i + 1) = G1) := hG1
                        rw [hG1] at HG
                        clear hG1
                        generalize gI (cutL (un s)) [32, 9] a i = G0 at *
                        have hc1 := HCL.out wr hbw
                        clear hia hx hfc
                        go_wp2_with (first | (at_builtin; refine wpList_append_own _ rfl _ _ 70 rfl W0.heap.size 9 i0 (.string ⟨#[]⟩) 1 16 Tryz.underlying70 hi0 z0 z1 z2 rfl (by decide) _ _ _ rfl (hown.alloc _) ⟨wr.heap.size, 0, none⟩ 1 1 [.string (bs x)] rfl rfl (cell_one'' _ _ _) (by simp [Value.oneCell']) (by unfold maxLen; omega) (by omega) (by simp; omega) ?_; intro v2 w2 hown2 hgrow2 _))
                        have hb2 : Below W0.heap.size W0 w2 := (hbw.alloc hsz _).grown hgrow2 (by simp; omega) (fun j hj => own_ge' hown j hj.symm)
                        have hown3 : w2.ownsRow W0.heap.size 9 1 v2 G1.length (strs (G1.map bs)) := by
                          rw [HG.out, List.map_append, strs_append, List.length_append]; exact hown2
                        go_roundw
                        case rel => exact ⟨i + 1, by go_num, by omega, by rw [HG1.out]; exact hown3, hb2⟩
                        case measure => simp [intOf]; omega
                    · have d1 : ¬ (i : Int) < (fl : Int) := by omega
                      obtain rfl : i = fl := by omega
                      have BQ6 := below_join B0Q hbw
                      have B6 := below_join B0 hbw
                      by_cases hia : a = i
                      · have q1 : ((a : Int) == (i : Int)) = true := by simp [hia]
                        have HG : Hid (gI (cutL (un s)) [32, 9] a i ++ [[32, 9]] = (cutL (un s)).take a ++ [32, 9] :: (cutL (un s)).drop a) := by
                          unfold Hid; rw [hia, ← hfl]; exact gI_last _ _
                        generalize gI (cutL (un s)) [32, 9] a i = G0 at *
                        clear hia
                        go_upto_region 23 with (first | (at_builtin; refine wpList_append_own _ rfl _ _ 70 rfl W0.heap.size 9 i0 (.string ⟨#[]⟩) 1 16 Tryz.underlying70 hi0 z0 z1 z2 rfl (by decide) _ _ _ rfl (hown.alloc _) ⟨wr.heap.size, 0, none⟩ 1 1 [.string (bs [32, 9])] rfl rfl (cell_one'' _ _ _) (by simp [Value.oneCell']) (by unfold maxLen; omega) (by omega) (by simp; omega) ?_; intro v2 w2 hown2 hgrow2 _))
                        have hb2 : Below W0.heap.size W0 w2 := (hbw.alloc hsz _).grown hgrow2 (by simp; omega) (fun j hj => own_ge' hown j hj.symm)
                        have hown3 : w2.ownsRow W0.heap.size 9 1 v2 ((cutL (un s)).take a ++ [32, 9] :: (cutL (un s)).drop a).length (strs (((cutL (un s)).take a ++ [32, 9] :: (cutL (un s)).drop a).map bs)) := by
                          rw [← HG.out, List.map_append, strs_append, List.length_append]; exact hown2
                        have BQ7 := below_join B0Q hb2
                        have B7 := below_join B0 hb2
                        clear hown2 hgrow2 hown
                        have HTx : Hid (TextsAt w2 _ (((cutL (un s)).take a ++ [32, 9] :: (cutL (un s)).drop a).map bs)) := TextsAt.own (by rw [List.length_map]; exact hown3)
                        have hFl := file_p _ _ w2 HTx.out (by rw [file_ins_len]; have := file_cut_len (un s); rw [un_length] at this; simp only [List.length_cons, List.length_nil]; omega)
                        clear HTx hown3
                        obtain ⟨N, hN⟩ : ∃ N, bs (fileL ((cutL (un s)).take a ++ [32, 9] :: (cutL (un s)).drop a)) = N := ⟨_, rfl⟩
                        rw [hN] at hFl
                        have hL2 := lines_ok N ec ms (by rw [← hN, un_bs]; exact HMS.out.1) w2 (hT.below B7) (hE.belowE B7)
                        clear hN
                        go_wp2_with (go_at_call 28; refine hFl.mono ?_; rintro e w8 ⟨rfl, hw8⟩; subst hw8)
                        refine hL2.mono ?_
                        rintro e w9 ⟨v9, us9, rfl, hv9, b9⟩
                        have B9 := below_join B7 b9
                        have HA : Hid (LnsQ w9 v9 ms) := lns_q hv9
                        have hAl := alike_p ls ms _ v9 w9 (HQ.out w9 (below_join BQ7 b9)) HA.out HMS.out.2 hll HLF.out
                        obtain ⟨av9, cv9, bv9, hsl9, _, _, _⟩ := HA.out
                        subst hsl9
                        clear hv9 HA hL2 hFl
                        go_wp2_with fail
                        refine hAl.mono ?_
                        rintro e w10 ⟨rfl, b10⟩
                        have B10 := below_join B9 b10
                        have h11 := hWk w10 B10
                        go_wp2_with (go_at_call 16; refine h11.mono ?_; rintro e w11 ⟨rfl, b11⟩)
                        go_ret
                        exact ⟨rfl, below_join B10 b11⟩
                      · have q1 : ((a : Int) == (i : Int)) = false := by simp; omega
                        have HG : gI (cutL (un s)) [32, 9] a i = (cutL (un s)).take a ++ [32, 9] :: (cutL (un s)).drop a := by rw [← hfl]; exact gI_end _ _ _ (by omega)
                        rw [HG] at hown
                        clear hia HG
                        go_upto_region 23 with fail
                        have HTx : Hid (TextsAt wr _ (((cutL (un s)).take a ++ [32, 9] :: (cutL (un s)).drop a).map bs)) := TextsAt.own (by rw [List.length_map]; exact hown)
                        have hFl := file_p _ _ wr HTx.out (by rw [file_ins_len]; have := file_cut_len (un s); rw [un_length] at this; simp only [List.length_cons, List.length_nil]; omega)
                        clear HTx hown
                        obtain ⟨N, hN⟩ : ∃ N, bs (fileL ((cutL (un s)).take a ++ [32, 9] :: (cutL (un s)).drop a)) = N := ⟨_, rfl⟩
                        rw [hN] at hFl
                        have hL2 := lines_ok N ec ms (by rw [← hN, un_bs]; exact HMS.out.1) wr (hT.below B6) (hE.belowE B6)
                        clear hN
                        go_wp2_with (go_at_call 28; refine hFl.mono ?_; rintro e w8 ⟨rfl, hw8⟩; subst hw8)
                        refine hL2.mono ?_
                        rintro e w9 ⟨v9, us9, rfl, hv9, b9⟩
                        have B9 := below_join B6 b9
                        have HA : Hid (LnsQ w9 v9 ms) := lns_q hv9
                        have hAl := alike_p ls ms _ v9 w9 (HQ.out w9 (below_join BQ6 b9)) HA.out HMS.out.2 hll HLF.out
                        obtain ⟨av9, cv9, bv9, hsl9, _, _, _⟩ := HA.out
                        subst hsl9
                        clear hv9 HA hL2 hFl
                        go_wp2_with fail
                        refine hAl.mono ?_
                        rintro e w10 ⟨rfl, b10⟩
                        have B10 := below_join B9 b10
                        have h11 := hWk w10 B10
                        go_wp2_with (go_at_call 16; refine h11.mono ?_; rintro e w11 ⟨rfl, b11⟩)
                        go_ret
                        exact ⟨rfl, below_join B10 b11⟩
                | false =>
                  obtain ⟨ms, hms1, hms2⟩ := lex_remarks (un s) ec ls HLX.out (by rw [un_length]; omega) (by rw [hfl]; omega) [32, 32, 35, 32, 110, 111, 116, 101, 92] (by first | exact .inl rfl | exact .inr rfl) a (by rw [hfl]; omega) HD1.out hO
                  have HMS : Hid (lexL (fileL ((cutL (un s)).take a ++ [32, 32, 35, 32, 110, 111, 116, 101, 92] :: (cutL (un s)).drop a)) = .ok (ec, ms) ∧ ms.map erL = ls.map erL) := ⟨hms1, hms2⟩
                  clear hms1 hms2 hO
                  go_wp2_with fail
                  go_loopw [13, 14] (fun v13 v14 wr => ∃ i : Nat, v14 = .int .i64 i ∧ i ≤ fl ∧ wr.ownsRow W0.heap.size 9 1 v13 (gI (cutL (un s)) [32, 32, 35, 32, 110, 111, 116, 101, 92] a i).length (strs ((gI (cutL (un s)) [32, 32, 35, 32, 110, 111, 116, 101, 92] a i).map bs)) ∧ Below W0.heap.size W0 wr) (fun _ v14 _ => fl - (intOf v14).toNat)
                  case atStart => exact ⟨0, rfl, Nat.zero_le _, by rw [gI_zero]; exact World.ownsRow_nil _ _ _ _, Below.refl _ _⟩
                  case round =>
                    obtain ⟨i, rfl, hi, hown, hbw⟩ := hrel
                    have hgl := gI_len (cutL (un s)) [32, 32, 35, 32, 110, 111, 116, 101, 92] a i
                    have hsz := hbw.size
                    by_cases hlt : i < fl
                    · obtain ⟨x, hx⟩ : ∃ x, (cutL (un s))[i]? = some x := ⟨_, List.getElem?_eq_getElem (by rw [hfl]; exact hlt)⟩
                      obtain ⟨fb, fo, rfl, hfc⟩ := HFX.out i x hx
                      have d0 : (0 : Int) ≤ (i : Int) := by omega
                      have d1 : (i : Int) < (fl : Int) := by omega
                      have HCL : Hid (∀ W, Below W0.heap.size W0 W → W.cell? ⟨fb, fo + i, none⟩ = some (.string (bs x))) := fun W hW => cell_belowE (below_join B0f hW) hfc
                      by_cases hia : i = a
                      · have q1 : ((i : Int) == (a : Int)) = true := by simp [hia]
                        have HG : Hid (gI (cutL (un s)) [32, 32, 35, 32, 110, 111, 116, 101, 92] a (i + 1) = gI (cutL (un s)) [32, 32, 35, 32, 110, 111, 116, 101, 92] a i ++ [[32, 32, 35, 32, 110, 111, 116, 101, 92]] ++ [x]) := by
                          unfold Hid; subst hia; exact gI_at _ _ _ _ hx
                        obtain ⟨G1, hG1⟩ : ∃ G1, gI (cutL (un s)) [32, 32, 35, 32, 110, 111, 116, 101, 92] a (i + 1) = G1 := ⟨_, rfl⟩
                        have HG1 : Hid (gI (cutL (un s)) [32, 32, 35, 32, 110, 111, 116, 101, 92] a (i + 1) = G1) := hG1
                        rw [hG1] at HG
                        clear hG1
                        generalize gI (cutL (un s)) [32, 32, 35, 32, 110, 111, 116, 101, 92] a i = G0 at *
                        clear hia hx hfc
                        go_upto_region 20 with (first | (at_builtin; refine wpList_append_own _ rfl _ _ 70 rfl W0.heap.size 9 i0 (.string ⟨#[]⟩) 1 16 Tryz.underlying70 hi0 z0 z1 z2 rfl (by decide) _ _ _ rfl (hown.alloc _) ⟨wr.heap.size, 0, none⟩ 1 1 [.string (bs [32, 32, 35, 32, 110, 111, 116, 101, 92])] rfl rfl (cell_one'' _ _ _) (by simp [Value.oneCell']) (by unfold maxLen; omega) (by omega) (by simp; omega) ?_; intro v1 w1 hown1 hgrow1 _))
                        have hb1 : Below W0.heap.size W0 w1 := (hbw.alloc hsz _).grown hgrow1 (by simp; omega) (fun j hj => own_ge' hown j hj.symm)
                        have hc1 := HCL.out w1 hb1
                        have hsz1 := hb1.size
                        go_wp2_with (first | (at_builtin; refine wpList_append_own _ rfl _ _ 70 rfl W0.heap.size 9 i0 (.string ⟨#[]⟩) 1 16 Tryz.underlying70 hi0 z0 z1 z2 rfl (by decide) _ _ _ rfl (hown1.alloc _) ⟨w1.heap.size, 0, none⟩ 1 1 [.string (bs x)] rfl rfl (cell_one'' _ _ _) (by simp [Value.oneCell']) (by unfold maxLen; omega) (by omega) (by simp; omega) ?_; intro v2 w2 hown2 hgrow2 _))
                        have hb2 : Below W0.heap.size W0 w2 := (hb1.alloc hsz1 _).grown hgrow2 (by simp; omega) (fun j hj => own_ge' hown1 j hj.symm)
                        have hown3 : w2.ownsRow W0.heap.size 9 1 v2 G1.length (strs (G1.map bs)) := by
                          rw [HG.out, List.map_append, List.map_append, strs_append, strs_append, List.length_append, List.length_append]; exact hown2
                        go_roundw
                        case rel => exact ⟨i + 1, by go_num, by omega, by rw [HG1.out]; exact hown3, hb2⟩
                        case measure => simp [intOf]; omega
                      · have q1 : ((i : Int) == (a : Int)) = false := by simp; omega
                        have HG : Hid (gI (cutL (un s)) [32, 32, 35, 32, 110, 111, 116, 101, 92] a (i + 1) = gI (cutL (un s)) [32, 32, 35, 32, 110, 111, 116, 101, 92] a i ++ [x]) := gI_other _ _ _ _ _ hx hia
                        obtain ⟨G1, hG1⟩ : ∃ G1, gI (cutL (un s)) [32, 32, 35, 32, 110, 111, 116, 101, 92] a (i + 1) = G1 := ⟨_, rfl⟩
                        have HG1 : Hid (gI (cutL (un s)) [32, 32, 35, 32, 110, 111, 116, 101, 92] a (i + 1) = G1) := hG1
                        rw [hG1] at HG
                        clear hG1
                        generalize gI (cutL (un s)) [32, 32, 35, 32, 110, 111, 116, 101, 92] a i = G0 at *
                        have hc1 := HCL.out wr hbw
                        clear hia hx hfc
                        go_wp2_with (first | (at_builtin; refine wpList_append_own _ rfl _ _ 70 rfl W0.heap.size 9 i0 (.string ⟨#[]⟩) 1 16 Tryz.underlying70 hi0 z0 z1 z2 rfl (by decide) _ _ _ rfl (hown.alloc _) ⟨wr.heap.size, 0, none⟩ 1 1 [.string (bs x)] rfl rfl (cell_one'' _ _ _) (by simp [Value.oneCell']) (by unfold maxLen; omega) (by omega) (by simp; omega) ?_; intro v2 w2 hown2 hgrow2 _))
                        have hb2 : Below W0.heap.size W0 w2 := (hbw.alloc hsz _).grown hgrow2 (by simp; omega) (fun j hj => own_ge' hown j hj.symm)
                        have hown3 : w2.ownsRow W0.heap.size 9 1 v2 G1.length (strs (G1.map bs)) := by
                          rw [HG.out, List.map_append, strs_append, List.length_append]; exact hown2
                        go_roundw
                        case rel => exact ⟨i + 1, by go_num, by omega, by rw [HG1.out]; exact hown3, hb2⟩
                        case measure => simp [intOf]; omega
                    · have d1 : ¬ (i : Int) < (fl : Int) := by omega
                      obtain rfl : i = fl := by omega
                      have BQ6 := below_join B0Q hbw
                      have B6 := below_join B0 hbw
                      by_cases hia : a = i
                      · have q1 : ((a : Int) == (i : Int)) = true := by simp [hia]
                        have HG : Hid (gI (cutL (un s)) [32, 32, 35, 32, 110, 111, 116, 101, 92] a i ++ [[32, 32, 35, 32, 110, 111, 116, 101, 92]] = (cutL (un s)).take a ++ [32, 32, 35, 32, 110, 111, 116, 101, 92] :: (cutL (un s)).drop a) := by
                          unfold Hid; rw [hia, ← hfl]; exact gI_last _ _
                        generalize gI (cutL (un s)) [32, 32, 35, 32, 110, 111, 116, 101, 92] a i = G0 at *
                        clear hia
                        go_upto_region 23 with (first | (at_builtin; refine wpList_append_own _ rfl _ _ 70 rfl W0.heap.size 9 i0 (.string ⟨#[]⟩) 1 16 Tryz.underlying70 hi0 z0 z1 z2 rfl (by decide) _ _ _ rfl (hown.alloc _) ⟨wr.heap.size, 0, none⟩ 1 1 [.string (bs [32, 32, 35, 32, 110, 111, 116, 101, 92])] rfl rfl (cell_one'' _ _ _) (by simp [Value.oneCell']) (by unfold maxLen; omega) (by omega) (by simp; omega) ?_; intro v2 w2 hown2 hgrow2 _))
                        have hb2 : Below W0.heap.size W0 w2 := (hbw.alloc hsz _).grown hgrow2 (by simp; omega) (fun j hj => own_ge' hown j hj.symm)
                        have hown3 : w2.ownsRow W0.heap.size 9 1 v2 ((cutL (un s)).take a ++ [32, 32, 35, 32, 110, 111, 116, 101, 92] :: (cutL (un s)).drop a).length (strs (((cutL (un s)).take a ++ [32, 32, 35, 32, 110, 111, 116, 101, 92] :: (cutL (un s)).drop a).map bs)) := by
                          rw [← HG.out, List.map_append, strs_append, List.length_append]; exact hown2
                        have BQ7 := below_join B0Q hb2
                        have B7 := below_join B0 hb2
                        clear hown2 hgrow2 hown
                        have HTx : Hid (TextsAt w2 _ (((cutL (un s)).take a ++ [32, 32, 35, 32, 110, 111, 116, 101, 92] :: (cutL (un s)).drop a).map bs)) := TextsAt.own (by rw [List.length_map]; exact hown3)
                        have hFl := file_p _ _ w2 HTx.out (by rw [file_ins_len]; have := file_cut_len (un s); rw [un_length] at this; simp only [List.length_cons, List.length_nil]; omega)
                        clear HTx hown3
                        obtain ⟨N, hN⟩ : ∃ N, bs (fileL ((cutL (un s)).take a ++ [32, 32, 35, 32, 110, 111, 116, 101, 92] :: (cutL (un s)).drop a)) = N := ⟨_, rfl⟩
                        rw [hN] at hFl
                        have hL2 := lines_ok N ec ms (by rw [← hN, un_bs]; exact HMS.out.1) w2 (hT.below B7) (hE.belowE B7)
                        clear hN
                        go_wp2_with (go_at_call 28; refine hFl.mono ?_; rintro e w8 ⟨rfl, hw8⟩; subst hw8)
                        refine hL2.mono ?_
                        rintro e w9 ⟨v9, us9, rfl, hv9, b9⟩
                        have B9 := below_join B7 b9
                        have HA : Hid (LnsQ w9 v9 ms) := lns_q hv9
                        have hAl := alike_p ls ms _ v9 w9 (HQ.out w9 (below_join BQ7 b9)) HA.out HMS.out.2 hll HLF.out
                        obtain ⟨av9, cv9, bv9, hsl9, _, _, _⟩ := HA.out
                        subst hsl9
                        clear hv9 HA hL2 hFl
                        go_wp2_with fail
                        refine hAl.mono ?_
                        rintro e w10 ⟨rfl, b10⟩
                        have B10 := below_join B9 b10
                        have h11 := hWk w10 B10
                        go_wp2_with (go_at_call 16; refine h11.mono ?_; rintro e w11 ⟨rfl, b11⟩)
                        go_ret
                        exact ⟨rfl, below_join B10 b11⟩
                      · have q1 : ((a : Int) == (i : Int)) = false := by simp; omega
                        have HG : gI (cutL (un s)) [32, 32, 35, 32, 110, 111, 116, 101, 92] a i = (cutL (un s)).take a ++ [32, 32, 35, 32, 110, 111, 116, 101, 92] :: (cutL (un s)).drop a := by rw [← hfl]; exact gI_end _ _ _ (by omega)
                        rw [HG] at hown
                        clear hia HG
                        go_upto_region 23 with fail
                        have HTx : Hid (TextsAt wr _ (((cutL (un s)).take a ++ [32, 32, 35, 32, 110, 111, 116, 101, 92] :: (cutL (un s)).drop a).map bs)) := TextsAt.own (by rw [List.length_map]; exact hown)
                        have hFl := file_p _ _ wr HTx.out (by rw [file_ins_len]; have := file_cut_len (un s); rw [un_length] at this; simp only [List.length_cons, List.length_nil]; omega)
                        clear HTx hown
                        obtain ⟨N, hN⟩ : ∃ N, bs (fileL ((cutL (un s)).take a ++ [32, 32, 35, 32, 110, 111, 116, 101, 92] :: (cutL (un s)).drop a)) = N := ⟨_, rfl⟩
                        rw [hN] at hFl
                        have hL2 := lines_ok N ec ms (by rw [← hN, un_bs]; exact HMS.out.1) wr (hT.below B6) (hE.belowE B6)
                        clear hN
                        go_wp2_with (go_at_call 28; refine hFl.mono ?_; rintro e w8 ⟨rfl, hw8⟩; subst hw8)
                        refine hL2.mono ?_
                        rintro e w9 ⟨v9, us9, rfl, hv9, b9⟩
                        have B9 := below_join B6 b9
                        have HA : Hid (LnsQ w9 v9 ms) := lns_q hv9
                        have hAl := alike_p ls ms _ v9 w9 (HQ.out w9 (below_join BQ6 b9)) HA.out HMS.out.2 hll HLF.out
                        obtain ⟨av9, cv9, bv9, hsl9, _, _, _⟩ := HA.out
                        subst hsl9
                        clear hv9 HA hL2 hFl
                        go_wp2_with fail
                        refine hAl.mono ?_
                        rintro e w10 ⟨rfl, b10⟩
                        have B10 := below_join B9 b10
                        have h11 := hWk w10 B10
                        go_wp2_with (go_at_call 16; refine h11.mono ?_; rintro e w11 ⟨rfl, b11⟩)
                        go_ret
                        exact ⟨rfl, below_join B10 b11⟩
      · have d1 : ¬ (n : Int) < (fl : Int) := by omega
        clear hneg
        go_wp2_with fail
        have BW := hbn
        clear hbn
        generalize hww : wr = W1 at *
        clear hww
        cases hl : lexL (un s) with
        | error fl2 =>
          obtain ⟨no, l, a2⟩ := fl2
          have h1 := lines_err s no l a2 hl W1 (hT.below (below_join b1 BW)) (hE.belowE (below_join b1 BW))
          clear hl
          go_wp2_with fail
          refine h1.mono ?_
          rintro e w3 ⟨rfl, b3⟩
          have B3 := below_join (below_join b1 BW) b3
          have h2 := hWk w3 B3
          go_wp2_with (go_at_call 16; refine h2.mono ?_; rintro e w4 ⟨rfl, b4⟩)
          go_ret
          exact ⟨rfl, below_join B3 b4⟩
        | ok pr =>
          obtain ⟨ec, ls⟩ := pr
          have h1 := lines_ok s ec ls hl W1 (hT.below (below_join b1 BW)) (hE.belowE (below_join b1 BW))
          obtain ⟨hll, hLF⟩ := llf_of _ _ _ hl
          have HLX : Hid (lexL (un s) = .ok (ec, ls)) := hl
          have HLF : Hid (∀ x ∈ ls, LlF x) := hLF
          clear hl hLF
          go_wp2_with fail
          refine h1.mono ?_
          rintro e w3 ⟨v, us, rfl, hv, b3⟩
          have B3 := below_join (below_join b1 BW) b3
          have HQ : Hid (∀ W, Below w3.heap.size w3 W → LnsQ W v ls) := fun W hW => (lns_q hv).below hW
          clear h1 hv
          have h2 := hWk w3 B3
          obtain ⟨av, cv, bv, hsl, _, _, _⟩ := HQ.out w3 (Below.refl _ _)
          subst hsl
          by_cases hs1 : 60000 < s.size
          · have t1 : (60000 : Int) < (s.size : Int) := by omega
            go_wp2_with (go_at_call 16; refine h2.mono ?_; rintro e w4 ⟨rfl, b4⟩)
            go_ret
            exact ⟨rfl, below_join B3 b4⟩
          · have t1 : ¬ (60000 : Int) < (s.size : Int) := by omega
            by_cases hf1 : 4000 < fl
            · have t2 : (4000 : Int) < (fl : Int) := by omega
              go_wp2_with (go_at_call 16; refine h2.mono ?_; rintro e w4 ⟨rfl, b4⟩)
              go_ret
              exact ⟨rfl, below_join B3 b4⟩
            · have t2 : ¬ (4000 : Int) < (fl : Int) := by omega
              have hPk := pick_n k (fl - n + 1) (by omega) w3
              rw [show ((fl - n + 1 : Nat) : Int) = (fl : Int) - (n : Int) + 1 by omega] at hPk
              go_wp2_with fail
              refine hPk.mono ?_
              rintro e w4 ⟨⟨j, hj, rfl⟩, hw4⟩
              subst hw4
              obtain ⟨a, ha⟩ : ∃ a, n + j = a := ⟨_, rfl⟩
              have hafl : a ≤ fl := by omega
              have e1 : (n : Int) + (j : Int) = (a : Int) := by omega
              have HD1 : Hid (∀ x, (cutL (un s))[0]? = some x → (dirAt x).isSome = true → 1 ≤ a) := by unfold Hid; rw [← ha]; exact HD0.out j
              have hWi := within_p ls _ _ fa fl fc a rfl w4 (HQ.out w4 (Below.refl _ _)) hll HLF.out hafl
              clear hPk ha hj
              go_wp2_with fail
              refine hWi.mono ?_
              rintro e W0 hWP
              obtain ⟨r, rfl, hr, hw5⟩ := hWP
              subst hw5
              cases r with
              | true =>
                clear hr
                go_wp2_with (go_at_call 16; refine h2.mono ?_; rintro e w4 ⟨rfl, b4⟩)
                go_ret
                exact ⟨rfl, below_join B3 b4⟩
              | false =>
                have hO := hr rfl
                have B0f := below_join BW b3
                have B0Q : Below W0.heap.size W0 W0 := Below.refl _ _
                have B0 := B3
                clear hr hWi h2
                cases em with
                | true =>
                  obtain ⟨ms, hms1, hms2⟩ := lex_remarks (un s) ec ls HLX.out (by rw [un_length]; omega) (by rw [hfl]; omega) [32, 9] (by first | exact .inl rfl | exact .inr rfl) a (by rw [hfl]; omega) HD1.out hO
                  have HMS : Hid (lexL (fileL ((cutL (un s)).take a ++ [32, 9] :: (cutL (un s)).drop a)) = .ok (ec, ms) ∧ ms.map erL = ls.map erL) := ⟨hms1, hms2⟩
                  clear hms1 hms2 hO
                  go_wp2_with fail
                  go_loopw [13, 14] (fun v13 v14 wr => ∃ i : Nat, v14 = .int .i64 i ∧ i ≤ fl ∧ wr.ownsRow W0.heap.size 9 1 v13 (gI (cutL (un s)) [32, 9] a i).length (strs ((gI (cutL (un s)) [32, 9] a i).map bs)) ∧ Below W0.heap.size W0 wr) (fun _ v14 _ => fl - (intOf v14).toNat)
                  case atStart => exact ⟨0, rfl, Nat.zero_le _, by rw [gI_zero]; exact World.ownsRow_nil _ _ _ _, Below.refl _ _⟩
                  case round =>
                    obtain ⟨i, rfl, hi, hown, hbw⟩ := hrel
                    have hgl := gI_len (cutL (un s)) [32, 9] a i
                    have hsz := hbw.size
                    by_cases hlt : i < fl
                    · obtain ⟨x, hx⟩ : ∃ x, (cutL (un s))[i]? = some x := ⟨_, List.getElem?_eq_getElem (by rw [hfl]; exact hlt)⟩
                      obtain ⟨fb, fo, rfl, hfc⟩ := HFX.out i x hx
                      have d0 : (0 : Int) ≤ (i : Int) := by omega
                      have d1 : (i : Int) < (fl : Int) := by omega
                      have HCL : Hid (∀ W, Below W0.heap.size W0 W → W.cell? ⟨fb, fo + i, none⟩ = some (.string (bs x))) := fun W hW => cell_belowE (below_join B0f hW) hfc
                      by_cases hia : i = a
                      · have q1 : ((i : Int) == (a : Int)) = true := by simp [hia]
                        have HG : Hid (gI (cutL (un s)) [32, 9] a (i + 1) = gI (cutL (un s)) [32, 9] a i ++ [[32, 9]] ++ [x]) := by
                          unfold Hid; subst hia; exact gI_at _ _ _ _ hx
                        obtain ⟨G1, hG1⟩ : ∃ G1, gI (cutL (un s)) [32, 9] a (i + 1) = G1 := ⟨_, rfl⟩
                        have HG1 : Hid (gI (cutL (un s)) [32, 9] a (i + 1) = G1) := hG1
                        rw [hG1] at HG
                        clear hG1
                        generalize gI (cutL (un s)) [32, 9] a i = G0 at *
                        clear hia hx hfc
                        go_upto_region 20 with (first | (at_builtin; refine wpList_append_own _ rfl _ _ 70 rfl W0.heap.size 9 i0 (.string ⟨#[]⟩) 1 16 Tryz.underlying70 hi0 z0 z1 z2 rfl (by decide) _ _ _ rfl (hown.alloc _) ⟨wr.heap.size, 0, none⟩ 1 1 [.string (bs [32, 9])] rfl rfl (cell_one'' _ _ _) (by simp [Value.oneCell']) (by unfold maxLen; omega) (by omega) (by simp; omega) ?_; intro v1 w1 hown1 hgrow1 _))
                        have hb1 : Below W0.heap.size W0 w1 := (hbw.alloc hsz _).grown hgrow1 (by simp; omega) (fun j hj => own_ge' hown j hj.symm)
                        have hc1 := HCL.out w1 hb1
                        have hsz1 := hb1.size
                        go_wp2_with (first | (at_builtin; refine wpList_append_own _ rfl _ _ 70 rfl W0.heap.size 9 i0 (.string ⟨#[]⟩) 1 16 Tryz.underlying70 hi0 z0 z1 z2 rfl (by decide) _ _ _ rfl (hown1.alloc _) ⟨w1.heap.size, 0, none⟩ 1 1 [.string (bs x)] rfl rfl (cell_one'' _ _ _) (by simp [Value.oneCell']) (by unfold maxLen; omega) (by omega) (by simp; omega) ?_; intro v2 w2 hown2 hgrow2 _))
                        have hb2 : Below W0.heap.size W0 w2 := (hb1.alloc hsz1 _).grown hgrow2 (by simp; omega) (fun j hj => own_ge' hown1 j hj.symm)
                        have hown3 : w2.ownsRow W0.heap.size 9 1 v2 G1.length (strs (G1.map bs)) := by
                          rw [HG.out, List.map_append, List.map_append, strs_append, strs_append, List.length_append, List.length_append]; exact hown2
                        go_roundw
                        case rel => exact ⟨i + 1, by go_num, by omega, by rw [HG1.out]; exact hown3, hb2⟩
                        case measure => simp [intOf]; omega
                      · have q1 : ((i : Int) == (a : Int)) = false := by simp; omega
                        have HG : Hid (gI (cutL (un s)) [32, 9] a (i + 1) = gI (cutL (un s)) [32, 9] a i ++ [x]) := gI_other _ _ _ _ _ hx hia
                        obtain ⟨G1, hG1⟩ : ∃ G1, gI (cutL (un s)) [32, 9] a (i + 1) = G1 := ⟨_, rfl⟩
                        have HG1 : Hid (gI (cutL (un s)) [32, 9] a (i + 1) = G1) := hG1
                        rw [hG1] at HG
                        clear hG1
                        generalize gI (cutL (un s)) [32, 9] a i = G0 at *
                        have hc1 := HCL.out wr hbw
                        clear hia hx hfc
                        go_wp2_with (first | (at_builtin; refine wpList_append_own _ rfl _ _ 70 rfl W0.heap.size 9 i0 (.string ⟨#[]⟩) 1 16 Tryz.underlying70 hi0 z0 z1 z2 rfl (by decide) _ _ _ rfl (hown.alloc _) ⟨wr.heap.size, 0, none⟩ 1 1 [.string (bs x)] rfl rfl (cell_one'' _ _ _) (by simp [Value.oneCell']) (by unfold maxLen; omega) (by omega) (by simp; omega) ?_; intro v2 w2 hown2 hgrow2 _))
                        have hb2 : Below W0.heap.size W0 w2 := (hbw.alloc hsz _).grown hgrow2 (by simp; omega) (fun j hj => own_ge' hown j hj.symm)
                        have hown3 : w2.ownsRow W0.heap.size 9 1 v2 G1.length (strs (G1.map bs)) := by
                          rw [HG.out, List.map_append, strs_append, List.length_append]; exact hown2
                        go_roundw
                        case rel => exact ⟨i + 1, by go_num, by omega, by rw [HG1.out]; exact hown3, hb2⟩
                        case measure => simp [intOf]; omega
                    · have d1 : ¬ (i : Int) < (fl : Int) := by omega
                      obtain rfl : i = fl := by omega
                      have BQ6 := below_join B0Q hbw
                      have B6 := below_join B0 hbw
                      by_cases hia : a = i
                      · have q1 : ((a : Int) == (i : Int)) = true := by simp [hia]
                        have HG : Hid (gI (cutL (un s)) [32, 9] a i ++ [[32, 9]] = (cutL (un s)).take a ++ [32, 9] :: (cutL (un s)).drop a) := by
                          unfold Hid; rw [hia, ← hfl]; exact gI_last _ _
                        generalize gI (cutL (un s)) [32, 9] a i = G0 at *
                        clear hia
                        go_upto_region 23 with (first | (at_builtin; refine wpList_append_own _ rfl _ _ 70 rfl W0.heap.size 9 i0 (.string ⟨#[]⟩) 1 16 Tryz.underlying70 hi0 z0 z1 z2 rfl (by decide) _ _ _ rfl (hown.alloc _) ⟨wr.heap.size, 0, none⟩ 1 1 [.string (bs [32, 9])] rfl rfl (cell_one'' _ _ _) (by simp [Value.oneCell']) (by unfold maxLen; omega) (by omega) (by simp; omega) ?_; intro v2 w2 hown2 hgrow2 _))
                        have hb2 : Below W0.heap.size W0 w2 := (hbw.alloc hsz _).grown hgrow2 (by simp; omega) (fun j hj => own_ge' hown j hj.symm)
                        have hown3 : w2.ownsRow W0.heap.size 9 1 v2 ((cutL (un s)).take a ++ [32, 9] :: (cutL (un s)).drop a).length (strs (((cutL (un s)).take a ++ [32, 9] :: (cutL (un s)).drop a).map bs)) := by
                          rw [← HG.out, List.map_append, strs_append, List.length_append]; exact hown2
                        have BQ7 := below_join B0Q hb2
                        have B7 := below_join B0 hb2
                        clear hown2 hgrow2 hown
                        have HTx : Hid (TextsAt w2 _ (((cutL (un s)).take a ++ [32, 9] :: (cutL (un s)).drop a).map bs)) := TextsAt.own (by rw [List.length_map]; exact hown3)
                        have hFl := file_p _ _ w2 HTx.out (by rw [file_ins_len]; have := file_cut_len (un s); rw [un_length] at this; simp only [List.length_cons, List.length_nil]; omega)
                        clear HTx hown3
                        obtain ⟨N, hN⟩ : ∃ N, bs (fileL ((cutL (un s)).take a ++ [32, 9] :: (cutL (un s)).drop a)) = N := ⟨_, rfl⟩
                        rw [hN] at hFl
                        have hL2 := lines_ok N ec ms (by rw [← hN, un_bs]; exact HMS.out.1) w2 (hT.below B7) (hE.belowE B7)
                        clear hN
                        go_wp2_with (go_at_call 28; refine hFl.mono ?_; rintro e w8 ⟨rfl, hw8⟩; subst hw8)
                        refine hL2.mono ?_
                        rintro e w9 ⟨v9, us9, rfl, hv9, b9⟩
                        have B9 := below_join B7 b9
                        have HA : Hid (LnsQ w9 v9 ms) := lns_q hv9
                        have hAl := alike_p ls ms _ v9 w9 (HQ.out w9 (below_join BQ7 b9)) HA.out HMS.out.2 hll HLF.out
                        obtain ⟨av9, cv9, bv9, hsl9, _, _, _⟩ := HA.out
                        subst hsl9
                        clear hv9 HA hL2 hFl
                        go_wp2_with fail
                        refine hAl.mono ?_
                        rintro e w10 ⟨rfl, b10⟩
                        have B10 := below_join B9 b10
                        have h11 := hWk w10 B10
                        go_wp2_with (go_at_call 16; refine h11.mono ?_; rintro e w11 ⟨rfl, b11⟩)
                        go_ret
                        exact ⟨rfl, below_join B10 b11⟩
                      · have q1 : ((a : Int) == (i : Int)) = false := by simp; omega
                        have HG : gI (cutL (un s)) [32, 9] a i = (cutL (un s)).take a ++ [32, 9] :: (cutL (un s)).drop a := by rw [← hfl]; exact gI_end _ _ _ (by omega)
                        rw [HG] at hown
                        clear hia HG
                        go_upto_region 23 with fail
                        have HTx : Hid (TextsAt wr _ (((cutL (un s)).take a ++ [32, 9] :: (cutL (un s)).drop a).map bs)) := TextsAt.own (by rw [List.length_map]; exact hown)
                        have hFl := file_p _ _ wr HTx.out (by rw [file_ins_len]; have := file_cut_len (un s); rw [un_length] at this; simp only [List.length_cons, List.length_nil]; omega)
                        clear HTx hown
                        obtain ⟨N, hN⟩ : ∃ N, bs (fileL ((cutL (un s)).take a ++ [32, 9] :: (cutL (un s)).drop a)) = N := ⟨_, rfl⟩
                        rw [hN] at hFl
                        have hL2 := lines_ok N ec ms (by rw [← hN, un_bs]; exact HMS.out.1) wr (hT.below B6) (hE.belowE B6)
                        clear hN
                        go_wp2_with (go_at_call 28; refine hFl.mono ?_; rintro e w8 ⟨rfl, hw8⟩; subst hw8)
                        refine hL2.mono ?_
                        rintro e w9 ⟨v9, us9, rfl, hv9, b9⟩
                        have B9 := below_join B6 b9
                        have HA : Hid (LnsQ w9 v9 ms) := lns_q hv9
                        have hAl := alike_p ls ms _ v9 w9 (HQ.out w9 (below_join BQ6 b9)) HA.out HMS.out.2 hll HLF.out
                        obtain ⟨av9, cv9, bv9, hsl9, _, _, _⟩ := HA.out
                        subst hsl9
                        clear hv9 HA hL2 hFl
                        go_wp2_with fail
                        refine hAl.mono ?_
                        rintro e w10 ⟨rfl, b10⟩
                        have B10 := below_join B9 b10
                        have h11 := hWk w10 B10
                        go_wp2_with (go_at_call 16; refine h11.mono ?_; rintro e w11 ⟨rfl, b11⟩)
                        go_ret
                        exact ⟨rfl, below_join B10 b11⟩
                | false =>
                  obtain ⟨ms, hms1, hms2⟩ := lex_remarks (un s) ec ls HLX.out (by rw [un_length]; omega) (by rw [hfl]; omega) [32, 32, 35, 32, 110, 111, 116, 101, 92] (by first | exact .inl rfl | exact .inr rfl) a (by rw [hfl]; omega) HD1.out hO
                  have HMS : Hid (lexL (fileL ((cutL (un s)).take a ++ [32, 32, 35, 32, 110, 111, 116, 101, 92] :: (cutL (un s)).drop a)) = .ok (ec, ms) ∧ ms.map erL = ls.map erL) := ⟨hms1, hms2⟩
                  clear hms1 hms2 hO
                  go_wp2_with fail
                  go_loopw [13, 14] (fun v13 v14 wr => ∃ i : Nat, v14 = .int .i64 i ∧ i ≤ fl ∧ wr.ownsRow W0.heap.size 9 1 v13 (gI (cutL (un s)) [32, 32, 35, 32, 110, 111, 116, 101, 92] a i).length (strs ((gI (cutL (un s)) [32, 32, 35, 32, 110, 111, 116, 101, 92] a i).map bs)) ∧ Below W0.heap.size W0 wr) (fun _ v14 _ => fl - (intOf v14).toNat)
                  case atStart => exact ⟨0, rfl, Nat.zero_le _, by rw [gI_zero]; exact World.ownsRow_nil _ _ _ _, Below.refl _ _⟩
                  case round =>
                    obtain ⟨i, rfl, hi, hown, hbw⟩ := hrel
                    have hgl := gI_len (cutL (un s)) [32, 32, 35, 32, 110, 111, 116, 101, 92] a i
                    have hsz := hbw.size
                    by_cases hlt : i < fl
                    · obtain ⟨x, hx⟩ : ∃ x, (cutL (un s))[i]? = some x := ⟨_, List.getElem?_eq_getElem (by rw [hfl]; exact hlt)⟩
                      obtain ⟨fb, fo, rfl, hfc⟩ := HFX.out i x hx
                      have d0 : (0 : Int) ≤ (i : Int) := by omega
                      have d1 : (i : Int) < (fl : Int) := by omega
                      have HCL : Hid (∀ W, Below W0.heap.size W0 W → W.cell? ⟨fb, fo + i, none⟩ = some (.string (bs x))) := fun W hW => cell_belowE (below_join B0f hW) hfc
                      by_cases hia : i = a
                      · have q1 : ((i : Int) == (a : Int)) = true := by simp [hia]
                        have HG : Hid (gI (cutL (un s)) [32, 32, 35, 32, 110, 111, 116, 101, 92] a (i + 1) = gI (cutL (un s)) [32, 32, 35, 32, 110, 111, 116, 101, 92] a i ++ [[32, 32, 35, 32, 110, 111, 116, 101, 92]] ++ [x]) := by
                          unfold Hid; subst hia; exact gI_at _ _ _ _ hx
                        obtain ⟨G1, hG1⟩ : ∃ G1, gI (cutL (un s)) [32, 32, 35, 32, 110, 111, 116, 101, 92] a (i + 1) = G1 := ⟨_, rfl⟩
                        have HG1 : Hid (gI (cutL (un s)) [32, 32, 35, 32, 110, 111, 116, 101, 92] a (i + 1) = G1) := hG1
                        rw [hG1] at HG
                        clear hG1
                        generalize gI (cutL (un s)) [32, 32, 35, 32, 110, 111, 116, 101, 92] a i = G0 at *
                        clear hia hx hfc
                        go_upto_region 20 with (first | (at_builtin; refine wpList_append_own _ rfl _ _ 70 rfl W0.heap.size 9 i0 (.string ⟨#[]⟩) 1 16 Tryz.underlying70 hi0 z0 z1 z2 rfl (by decide) _ _ _ rfl (hown.alloc _) ⟨wr.heap.size, 0, none⟩ 1 1 [.string (bs [32, 32, 35, 32, 110, 111, 116, 101, 92])] rfl rfl (cell_one'' _ _ _) (by simp [Value.oneCell']) (by unfold maxLen; omega) (by omega) (by simp; omega) ?_; intro v1 w1 hown1 hgrow1 _))
                        have hb1 : Below W0.heap.size W0 w1 := (hbw.alloc hsz _).grown hgrow1 (by simp; omega) (fun j hj => own_ge' hown j hj.symm)
                        have hc1 := HCL.out w1 hb1
                        have hsz1 := hb1.size
                        go_wp2_with (first | (at_builtin; refine wpList_append_own _ rfl _ _ 70 rfl W0.heap.size 9 i0 (.string ⟨#[]⟩) 1 16 Tryz.underlying70 hi0 z0 z1 z2 rfl (by decide) _ _ _ rfl (hown1.alloc _) ⟨w1.heap.size, 0, none⟩ 1 1 [.string (bs x)] rfl rfl (cell_one'' _ _ _) (by simp [Value.oneCell']) (by unfold maxLen; omega) (by omega) (by simp; omega) ?_; intro v2 w2 hown2 hgrow2 _))
                        have hb2 : Below W0.heap.size W0 w2 := (hb1.alloc hsz1 _).grown hgrow2 (by simp; omega) (fun j hj => own_ge' hown1 j hj.symm)
                        have hown3 : w2.ownsRow W0.heap.size 9 1 v2 G1.length (strs (G1.map bs)) := by
                          rw [HG.out, List.map_append, List.map_append, strs_append, strs_append, List.length_append, List.length_append]; exact hown2
                        go_roundw
                        case rel => exact ⟨i + 1, by go_num, by omega, by rw [HG1.out]; exact hown3, hb2⟩
                        case measure => simp [intOf]; omega
                      · have q1 : ((i : Int) == (a : Int)) = false := by simp; omega
                        have HG : Hid (gI (cutL (un s)) [32, 32, 35, 32, 110, 111, 116, 101, 92] a (i + 1) = gI (cutL (un s)) [32, 32, 35, 32, 110, 111, 116, 101, 92] a i ++ [x]) := gI_other _ _ _ _ _ hx hia
                        obtain ⟨G1, hG1⟩ : ∃ G1, gI (cutL (un s)) [32, 32, 35, 32, 110, 111, 116, 101, 92] a (i + 1) = G1 := ⟨_, rfl⟩
                        have HG1 : Hid (gI (cutL (un s)) [32, 32, 35, 32, 110, 111, 116, 101, 92] a (i + 1) = G1) := hG1
                        rw [hG1] at HG
                        clear hG1
                        generalize gI (cutL (un s)) [32, 32, 35, 32, 110, 111, 116, 101, 92] a i = G0 at *
                        have hc1 := HCL.out wr hbw
                        clear hia hx hfc
                        go_wp2_with (first | (at_builtin; refine wpList_append_own _ rfl _ _ 70 rfl W0.heap.size 9 i0 (.string ⟨#[]⟩) 1 16 Tryz.underlying70 hi0 z0 z1 z2 rfl (by decide) _ _ _ rfl (hown.alloc _) ⟨wr.heap.size, 0, none⟩ 1 1 [.string (bs x)] rfl rfl (cell_one'' _ _ _) (by simp [Value.oneCell']) (by unfold maxLen; omega) (by omega) (by simp; omega) ?_; intro v2 w2 hown2 hgrow2 _))
                        have hb2 : Below W0.heap.size W0 w2 := (hbw.alloc hsz _).grown hgrow2 (by simp; omega) (fun j hj => own_ge' hown j hj.symm)
                        have hown3 : w2.ownsRow W0.heap.size 9 1 v2 G1.length (strs (G1.map bs)) := by
                          rw [HG.out, List.map_append, strs_append, List.length_append]; exact hown2
                        go_roundw
                        case rel => exact ⟨i + 1, by go_num, by omega, by rw [HG1.out]; exact hown3, hb2⟩
                        case measure => simp [intOf]; omega
                    · have d1 : ¬ (i : Int) < (fl : Int) := by omega
                      obtain rfl : i = fl := by omega
                      have BQ6 := below_join B0Q hbw
                      have B6 := below_join B0 hbw
                      by_cases hia : a = i
                      · have q1 : ((a : Int) == (i : Int)) = true := by simp [hia]
                        have HG : Hid (gI (cutL (un s)) [32, 32, 35, 32, 110, 111, 116, 101, 92] a i ++ [[32, 32, 35, 32, 110, 111, 116, 101, 92]] = (cutL (un s)).take a ++ [32, 32, 35, 32, 110, 111, 116, 101, 92] :: (cutL (un s)).drop a) := by
                          unfold Hid; rw [hia, ← hfl]; exact gI_last _ _
                        generalize gI (cutL (un s)) [32, 32, 35, 32, 110, 111, 116, 101, 92] a i = G0 at *
                        clear hia
                        go_upto_region 23 with (first | (at_builtin; refine wpList_append_own _ rfl _ _ 70 rfl W0.heap.size 9 i0 (.string ⟨#[]⟩) 1 16 Tryz.underlying70 hi0 z0 z1 z2 rfl (by decide) _ _ _ rfl (hown.alloc _) ⟨wr.heap.size, 0, none⟩ 1 1 [.string (bs [32, 32, 35, 32, 110, 111, 116, 101, 92])] rfl rfl (cell_one'' _ _ _) (by simp [Value.oneCell']) (by unfold maxLen; omega) (by omega) (by simp; omega) ?_; intro v2 w2 hown2 hgrow2 _))
                        have hb2 : Below W0.heap.size W0 w2 := (hbw.alloc hsz _).grown hgrow2 (by simp; omega) (fun j hj => own_ge' hown j hj.symm)
                        have hown3 : w2.ownsRow W0.heap.size 9 1 v2 ((cutL (un s)).take a ++ [32, 32, 35, 32, 110, 111, 116, 101, 92] :: (cutL (un s)).drop a).length (strs (((cutL (un s)).take a ++ [32, 32, 35, 32, 110, 111, 116, 101, 92] :: (cutL (un s)).drop a).map bs)) := by
                          rw [← HG.out, List.map_append, strs_append, List.length_append]; exact hown2
                        have BQ7 := below_join B0Q hb2
                        have B7 := below_join B0 hb2
                        clear hown2 hgrow2 hown
                        have HTx : Hid (TextsAt w2 _ (((cutL (un s)).take a ++ [32, 32, 35, 32, 110, 111, 116, 101, 92] :: (cutL (un s)).drop a).map bs)) := TextsAt.own (by rw [List.length_map]; exact hown3)
                        have hFl := file_p _ _ w2 HTx.out (by rw [file_ins_len]; have := file_cut_len (un s); rw [un_length] at this; simp only [List.length_cons, List.length_nil]; omega)
                        clear HTx hown3
                        obtain ⟨N, hN⟩ : ∃ N, bs (fileL ((cutL (un s)).take a ++ [32, 32, 35, 32, 110, 111, 116, 101, 92] :: (cutL (un s)).drop a)) = N := ⟨_, rfl⟩
                        rw [hN] at hFl
                        have hL2 := lines_ok N ec ms (by rw [← hN, un_bs]; exact HMS.out.1) w2 (hT.below B7) (hE.belowE B7)
                        clear hN
                        go_wp2_with (go_at_call 28; refine hFl.mono ?_; rintro e w8 ⟨rfl, hw8⟩; subst hw8)
                        refine hL2.mono ?_
                        rintro e w9 ⟨v9, us9, rfl, hv9, b9⟩
                        have B9 := below_join B7 b9
                        have HA : Hid (LnsQ w9 v9 ms) := lns_q hv9
                        have hAl := alike_p ls ms _ v9 w9 (HQ.out w9 (below_join BQ7 b9)) HA.out HMS.out.2 hll HLF.out
                        obtain ⟨av9, cv9, bv9, hsl9, _, _, _⟩ := HA.out
                        subst hsl9
                        clear hv9 HA hL2 hFl
                        go_wp2_with fail
                        refine hAl.mono ?_
                        rintro e w10 ⟨rfl, b10⟩
                        have B10 := below_join B9 b10
                        have h11 := hWk w10 B10
                        go_wp2_with (go_at_call 16; refine h11.mono ?_; rintro e w11 ⟨rfl, b11⟩)
                        go_ret
                        exact ⟨rfl, below_join B10 b11⟩
                      · have q1 : ((a : Int) == (i : Int)) = false := by simp; omega
                        have HG : gI (cutL (un s)) [32, 32, 35, 32, 110, 111, 116, 101, 92] a i = (cutL (un s)).take a ++ [32, 32, 35, 32, 110, 111, 116, 101, 92] :: (cutL (un s)).drop a := by rw [← hfl]; exact gI_end _ _ _ (by omega)
                        rw [HG] at hown
                        clear hia HG
                        go_upto_region 23 with fail
                        have HTx : Hid (TextsAt wr _ (((cutL (un s)).take a ++ [32, 32, 35, 32, 110, 111, 116, 101, 92] :: (cutL (un s)).drop a).map bs)) := TextsAt.own (by rw [List.length_map]; exact hown)
                        have hFl := file_p _ _ wr HTx.out (by rw [file_ins_len]; have := file_cut_len (un s); rw [un_length] at this; simp only [List.length_cons, List.length_nil]; omega)
                        clear HTx hown
                        obtain ⟨N, hN⟩ : ∃ N, bs (fileL ((cutL (un s)).take a ++ [32, 32, 35, 32, 110, 111, 116, 101, 92] :: (cutL (un s)).drop a)) = N := ⟨_, rfl⟩
                        rw [hN] at hFl
                        have hL2 := lines_ok N ec ms (by rw [← hN, un_bs]; exact HMS.out.1) wr (hT.below B6) (hE.belowE B6)
                        clear hN
                        go_wp2_with (go_at_call 28; refine hFl.mono ?_; rintro e w8 ⟨rfl, hw8⟩; subst hw8)
                        refine hL2.mono ?_
                        rintro e w9 ⟨v9, us9, rfl, hv9, b9⟩
                        have B9 := below_join B6 b9
                        have HA : Hid (LnsQ w9 v9 ms) := lns_q hv9
                        have hAl := alike_p ls ms _ v9 w9 (HQ.out w9 (below_join BQ6 b9)) HA.out HMS.out.2 hll HLF.out
                        obtain ⟨av9, cv9, bv9, hsl9, _, _, _⟩ := HA.out
                        subst hsl9
                        clear hv9 HA hL2 hFl
                        go_wp2_with fail
                        refine hAl.mono ?_
                        rintro e w10 ⟨rfl, b10⟩
                        have B10 := below_join B9 b10
                        have h11 := hWk w10 B10
                        go_wp2_with (go_at_call 16; refine h11.mono ?_; rintro e w11 ⟨rfl, b11⟩)
                        go_ret
                        exact ⟨rfl, below_join B10 b11⟩
end Go.Proofs.YtjgijbeedgggdaaGreatDoor

namespace Go.Proofs.YtjgijbeedgggdaaGreatDoor.fnLexRemarksUpto
open Go.ChangeShapes Go.WideShapes Go.ChangeAt Go.RowKit
open Go.WideMaps Go.WideElems
open Go.ChangeMaps (open_string shut_string)

abbrev listed : List (String × DataW Unit) := listedL
set_option maxRecDepth 100000 in
theorem contract (H : Type) (enc : TypeId × Value → H) (W : World) (base : Nat) (args : Array Value) (ds gs : List (DataW H)) (before : List MemPlace)
    (hval : ∀ (j : Nat) t v, Tryz.f7.params[j]? = some t → args[j]? = some v → Value.okWide Tryz.prog W .any base t v)
    (hW : DataW.Whole enc Tryz.prog Tryz.f7.params.toList Rows.lexRemarksSpec.vars false W args.toList ds gs before)
    (hk : Rows.uptoSmall H (ds ++ gs) = true)
    (hL : laidMetH Tryz.prog listed W) :
    Calls Tryz.prog 7 args W fun e W' => ∃ v, e = .returned v ∧ Rows.lexRemarksSpec.post enc Tryz.prog Tryz.f7 false true false false W args v W' := by
  have hW' := hW
  obtain ⟨p, q, hA0, hV, rfl, hfz, hnd⟩ := hW
  have hA : DataW.TrodAll enc Tryz.prog W 0 (fun _ => true) true Tryz.f7.params.toList args.toList ds p := hA0
  rw [Tryz.params7] at hA hval
  obtain ⟨v0, vs0, d0, ds0, p0, q0, hargs, rfl, rfl, h0, r0⟩ := trodAll_cons hA
  obtain ⟨v1, vs1, d1, ds1, p1, q1, rfl, rfl, rfl, h1, r1⟩ := trodAll_cons r0
  obtain ⟨v2, vs2, d2, ds2, p2, q2, rfl, rfl, rfl, h2, r2⟩ := trodAll_cons r1
  obtain ⟨rfl, rfl, rfl⟩ := trodAll_nil r2
  obtain rfl : args = #[v0, v1, v2] := by cases args; simp_all
  obtain ⟨rfl, rfl⟩ := trodVars_none hV
  clear hA0
  simp only [List.append_nil] at hW'
  have hb := of_decide_eq_true hk
  simp only [List.append_nil, Rows.uptoBulkAll] at hb
  have k0 := fun (W' : World) (hg : Below W.heap.size W W') => Below.trod (by kernel_rfl) (by kernel_rfl) (of_decide_eq_true (by kernel_rfl)) h0 hg (by obtain ⟨fu, hf⟩ := h0; exact DataW.trod_lt _ _ _ _ hf)
  obtain ⟨s0, rfl, rfl, rfl, hs0⟩ := open_string Tryz.underlying9 (hval 0 9 v0 rfl rfl) h0
  have k1 := fun (W' : World) (hg : Below W.heap.size W W') => Below.trod (by kernel_rfl) (by kernel_rfl) (of_decide_eq_true (by kernel_rfl)) h1 hg (by obtain ⟨fu, hf⟩ := h1; exact DataW.trod_lt _ _ _ _ hf)
  obtain ⟨s1, rfl, rfl, rfl, hs1⟩ := open_int Tryz.underlying3 (hval 1 3 v1 rfl rfl) h1
  have k2 := fun (W' : World) (hg : Below W.heap.size W W') => Below.trod (by kernel_rfl) (by kernel_rfl) (of_decide_eq_true (by kernel_rfl)) h2 hg (by obtain ⟨fu, hf⟩ := h2; exact DataW.trod_lt _ _ _ _ hf)
  obtain ⟨s2, rfl, rfl, rfl⟩ := open_bool Tryz.underlying4 (hval 2 4 v2 rfl rfl) h2
  simp only [Rows.uptoBulk] at hb
  have z0 : s0.data.toList.length = s0.size := (Lib.size_eq s0).symm
  refine (lexremarks_law s0 s1 s2 W (tabs_of_laidL hL) (handle_of_laidL hL) (by omega)).mono fun e W' ⟨he, hg⟩ => ?_
  subst he
  have e1 : Rows.lexRemarksSpec.fn H ([.lit (.string s0.data.toList), .lit (.int .i64 s1), .lit (.bool s2)] ++ []) = { results := [.lit (.bool true)], args := [.lit (.string s0.data.toList), .lit (.int .i64 s1), .lit (.bool s2)] } := by simp [Rows.lexRemarksSpec]
  refine ⟨_, rfl, _, _, _, [], [] ++ ([] ++ ([] ++ [])), [], hW', ?_, ?_, ?_, hg.frame _, fun h => by cases h⟩
  · rw [e1]; exact trodAll_mk1 (shut_bool Tryz.underlying4 true)
  · rw [e1]; exact trodAll_cons_mk (k0 W' hg) (trodAll_cons_mk (k1 W' hg) (trodAll_cons_mk (k2 W' hg) trodAll_mk0))
  · rw [e1]; rfl

set_option maxRecDepth 100000 in
theorem met (os : Os) (args : Array Value) : laidMetH Tryz.prog listed ((laidWorldL os).forCall (fun _ _ => 0) ⟨#[], args, []⟩).memory :=
  metL os args
theorem reads (os : Os) {H : Type} (enc : TypeId × Value → H) : ∃ places, DataW.whole enc Tryz.prog ((laidWorldL os).forCall (fun _ _ => 0) ⟨#[], #[.string ⟨#[]⟩, .int .i64 0, .bool false], []⟩).memory Tryz.f7.params.toList Rows.lexRemarksSpec.vars false #[Value.string ⟨#[]⟩, Value.int .i64 0, Value.bool false].toList 8 = some ([.lit (.string []), .lit (.int .i64 0), .lit (.bool false)], [], places) :=
  ⟨[], by kernel_rfl⟩

set_option maxRecDepth 100000 in
theorem lifted (os : Os) (started : os.Started) (H : Type) (enc : TypeId × Value → H) (F : Stop.Interp) :
    ReturnsInHanded {} Tryz.checked os 7 .any ((Rows.OpenSpec.upto Rows.lexRemarksSpec).preRow enc Tryz.prog Tryz.f7 Rows.lexRemarksUptoRow.domain false Rows.lexRemarksUptoRow.laid) (((Rows.OpenSpec.upto Rows.lexRemarksSpec).at F).post enc Tryz.prog Tryz.f7 false true false false) := by
  obtain ⟨places, hx⟩ := reads os enc
  refine returnsInHanded_of_row (C := Tryz.checked) (s := Rows.OpenSpec.upto Rows.lexRemarksSpec) own started (by kernel_rfl) Tryz.func7
    (witness_row_atRef (enc := enc) (C := Tryz.checked) false (laidWorldL os) #[.string ⟨#[]⟩, .int .i64 0, .bool false] rfl (by kernel_rfl) (by kernel_rfl) (by kernel_rfl)
      (OpenSpec.preRow_of_cond 8 hx (by kernel_rfl) (fun k hk => by cases hk; kernel_rfl) (by kernel_rfl) (met os _))) ?_
  intro W base args ds gs before hval hW _ hcond _ hL _ _
  exact contract H enc W base args ds gs before hval hW (hcond _ rfl) hL

theorem said : Rows.LexRemarksUptoSaid :=
  OpenClaim.holds_of_cond 7 Tryz.f7 rfl rfl rfl rfl rfl rfl rfl ⟨rfl, rfl, rfl, rfl, rfl⟩ rfl rfl rfl rfl rfl (by kernel_rfl) Tryz.func7 (by kernel_rfl)
    (of_decide_eq_true (by kernel_rfl)) (by unfold Func.isWrapper; rw [if_neg (of_decide_eq_false (by kernel_rfl))]; exact ⟨rfl, rfl⟩)
    (fun os started H enc _ F => by rw [OpenClaim.pre_eq_preRow]; exact lifted os started H enc F)

theorem plainly (f : FuncId) (fn : Func) (hf : Tryz.pinned.checked.prog.funcNamed "strata/stratalaw14.LexRemarks" = some f) (hfn : Tryz.pinned.checked.prog.funcs[f]? = some fn) :
    true = Tryz.pinned.checked.prog.looks [] ∧ ∀ (j : Nat) t, fn.params[j]? = some t → Tryz.pinned.checked.prog.wantsStandIn t = false := by
  obtain rfl : f = 7 := Option.some.inj ((show Tryz.prog.funcNamed "strata/stratalaw14.LexRemarks" = some 7 by kernel_rfl).symm.trans hf) |>.symm
  obtain rfl : fn = Tryz.f7 := (Option.some.inj (Tryz.func7.symm.trans hfn)).symm
  refine ⟨by kernel_rfl, fun j t ht => ?_⟩
  rw [Tryz.params7] at ht
  have hm : t ∈ [9, 3, 4] := by simpa using Array.mem_of_getElem? ht
  have hall : ([9, 3, 4].all fun u => !Tryz.prog.wantsStandIn u) = true := by kernel_rfl
  exact (show Tryz.prog.wantsStandIn t = false by simpa using List.all_eq_true.1 hall t hm)

theorem card : Rows.LexRemarksUptoCardSaid :=
  Claim7.holds_tied_plain_at .later [] _ _ _ _ said (fun _ h => by cases h) (by kernel_rfl) (fun _ h => by cases h) lexRemarksUpto_row_tie rfl ⟨rfl, rfl⟩ (by kernel_rfl) rfl plainly (by kernel_rfl)
end Go.Proofs.YtjgijbeedgggdaaGreatDoor.fnLexRemarksUpto
namespace Go.Proofs.YtjgijbeedgggdaaGreatDoor
theorem lexRemarksUpto_card : Rows.LexRemarksUptoCardSaid := fnLexRemarksUpto.card
end Go.Proofs.YtjgijbeedgggdaaGreatDoor
