/- LexPlaces, for every text: each byte of a line of the build file is the file's byte at its place, and lines rise: from its walk to its row and its card. -/
import Derived.Test.YtjgijbeedgggdaaGreatDoorRows
import Derived.Test.YtjgijbeedgggdaaGreatDoorPlain
import Derived.Test.YtjgijbeedgggdaaGreatDoorCwW
import Derived.LaidHandle
import Derived.LaidLaws
import Derived.Stop.Joined
import Derived.Lib.LaidTab
import Derived.Lib.LaidU8T
import Derived.Lib.LaidCase
import Derived.SliceStrings
import Derived.Laws.Tables
import Derived.Test.YtjgijbeedgggdaaGreatDoorShelf
import Derived.Lib.LaidCaseMet
import Derived.Lib.LaidIn
import Derived.Test.YtjgijbeedgggdaaGreatDoorLexM
import Derived.Test.YtjgijbeedgggdaaGreatDoorByM
import Derived.Test.YtjgijbeedgggdaaGreatDoorLexL
import Derived.BigQuiet
import Derived.Test.YtjgijbeedgggdaaGreatDoorBytes
import Derived.Laws.AppendOwn
import Derived.OwnWalk
import Derived.Test.YtjgijbeedgggdaaGreatDoorCkW
import Derived.Test.YtjgijbeedgggdaaGreatDoorDrsW
import Derived.Test.YtjgijbeedgggdaaGreatDoorAllW
import Derived.Test.YtjgijbeedgggdaaGreatDoorPlaceF
import Derived.Deep.Cut
import Derived.Test.YtjgijbeedgggdaaGreatDoorCards
import Derived.Test.YtjgijbeedgggdaaGreatDoorTie
import Derived.ProofKit
import Derived.OpenShut
import Derived.SizedLaws
import Derived.Deep.DeepHandedRow
import Derived.SevenTiedAt
import Derived.Deep.DeepWitnessRowRef

namespace Go.Proofs.YtjgijbeedgggdaaGreatDoor
open Go.ChangeShapes Go.WideShapes Go.RowKit Go.Lib

theorem own : ownKnob Tryz.prog.godebug = none := by kernel_rfl
theorem l_et : Tryz.prog.globalNamed "errors.errorType" = some 0 := by kernel_rfl
theorem l_rt : (Tryz.prog.cutTypes.find? (·.1 == "internal/reflectlite.rtype")).map (·.2) = some 287 := by kernel_rfl
theorem l_oneRow : ((List.range 364).filter fun t => Tryz.prog.rowNamed t [101, 114, 114, 111, 114]) = [26] := by kernel_rfl
theorem l_size : Tryz.prog.types.size = 364 := by kernel_rfl

abbrev listedL : List (String × DataW Unit) := [("unicode/utf8.acceptRanges", Rows.laid_unicode_utf8_acceptRanges), ("errors.errorType", Rows.laid_errors_errorType), ("unicode.asciiFold", Rows.laid_unicode_asciiFold), ("unicode.caseOrbit", Rows.laid_unicode_caseOrbit), ("unicode.CaseRanges", Rows.laid_unicode_CaseRanges), ("unicode/utf8.first", Rows.laid_unicode_utf8_first)]
abbrev listedN : List (String × DataW Unit) := [("unicode/utf8.acceptRanges", Rows.laid_unicode_utf8_acceptRanges), ("unicode.asciiFold", Rows.laid_unicode_asciiFold), ("unicode.caseOrbit", Rows.laid_unicode_caseOrbit), ("unicode.CaseRanges", Rows.laid_unicode_CaseRanges), ("unicode/utf8.first", Rows.laid_unicode_utf8_first)]
theorem parts_of_laidL {W : World} (h : laidMetH Tryz.prog listedL W) : laidMet Tryz.prog listedN W ∧ handlesMet Tryz.prog [("errors.errorType", Rows.laid_errors_errorType)] W := h
set_option maxRecDepth 100000 in
theorem handle_of_laidL {W : World} (h : laidMetH Tryz.prog listedL W) : ErrType W := by
  have h2 := parts_of_laidL h
  obtain ⟨name, u, ty, e1, e2, e3, e4, e5⟩ := h2.2 _ (List.mem_singleton.2 rfl)
  have en : name = [101, 114, 114, 111, 114] := (Option.some.inj e1).symm
  subst en
  obtain rfl := Option.some.inj (l_rt.symm.trans e2)
  have hm : ty ∈ (List.range 364).filter fun t => Tryz.prog.rowNamed t [101, 114, 114, 111, 114] := List.mem_filter.2 ⟨List.mem_range.2 (by rw [← l_size]; exact e3), e4⟩
  rw [l_oneRow] at hm
  obtain rfl := List.mem_singleton.1 hm
  have hh : typeHandle Tryz.prog 26 = .pointer (some ⟨7, 26, none⟩) := by kernel_rfl
  rw [hh] at e5
  have h3 := World.var?_cell l_et e5 0
  unfold ErrType
  simpa using h3
def u8ren : Go.Shelf.Ren := ⟨fun n => n, fun | 5 => 5 | 119 => 313 | 138 => 315 | 139 => 316 | n => n, fun | 3 => 2 | 4 => 3 | n => n⟩
theorem u8types : U8Types Tryz.prog u8ren := ⟨by kernel_rfl, by kernel_rfl, by kernel_rfl, by kernel_rfl⟩
set_option maxRecDepth 100000 in
theorem e_first : Rows.laid_unicode_utf8_first = Lib.firstData := by kernel_rfl
set_option maxRecDepth 100000 in
theorem e_acc : (Rows.laid_unicode_utf8_acceptRanges : DataW Unit) = Lib.acceptData := by kernel_rfl
theorem utf8_of_laidL {W : World} (h : laidMetH Tryz.prog listedL W) : Lib.Utf8Tabs 2 3 W := by
  have h1 := Lib.laidMet.reads (parts_of_laidL h).1 (n := "unicode/utf8.first") (d := Rows.laid_unicode_utf8_first) (.tail _ (.tail _ (.tail _ (.tail _ (.head _)))))
  have h2 := Lib.laidMet.reads (parts_of_laidL h).1 (n := "unicode/utf8.acceptRanges") (d := Rows.laid_unicode_utf8_acceptRanges) (.head _)
  rw [e_first] at h1
  rw [e_acc] at h2
  exact utf8Tabs_of_readsT u8types ⟨by kernel_rfl, by kernel_rfl, by kernel_rfl, by kernel_rfl, by kernel_rfl, by kernel_rfl, by kernel_rfl⟩ h1 h2
def intsOf : DataW Unit → List Int
  | .agg ds => ds.map fun
    | .lit (.int _ n) => n
    | _ => 0
  | _ => []
set_option maxRecDepth 100000 in
theorem e_fold : (Rows.laid_unicode_asciiFold : DataW Unit) = tabData .u16 (intsOf Rows.laid_unicode_asciiFold) := by kernel_rfl
theorem f_name : Tryz.prog.globalNamed "unicode.asciiFold" = some 4 := by kernel_rfl
theorem f_type : (Tryz.prog.globals[4]?).map (·.type) = some 326 := by kernel_rfl
theorem o_name : Tryz.prog.globalNamed "unicode.caseOrbit" = some 5 := by kernel_rfl
theorem o_type : (Tryz.prog.globals[5]?).map (·.type) = some 327 := by kernel_rfl
theorem c_u16 : Tryz.prog.cellsOf 325 = 1 := by kernel_rfl
theorem c_128 : Tryz.prog.cellsOf 326 = 128 := by kernel_rfl
theorem c_pair : Tryz.prog.cellsOf 329 = 2 := by kernel_rfl
set_option maxRecDepth 100000 in
theorem fold1_of_laidL {W : World} (h : laidMetH Tryz.prog listedL W) : Fold1 W := by
  have h1 := Lib.laidMet.reads (parts_of_laidL h).1 (n := "unicode.asciiFold") (d := Rows.laid_unicode_asciiFold) (.tail _ (.head _))
  rw [e_fold] at h1
  obtain ⟨g, t, cs, fuel, p, hg, hty, hvar, hd⟩ := h1
  obtain rfl := Option.some.inj (f_name.symm.trans hg)
  obtain rfl := Option.some.inj (f_type.symm.trans hty)
  have hcs := cells_of_tab Tryz.underlying326 Tryz.underlying325 c_u16 c_128 hd
  have hc : ∀ c : Nat, W.cell? ⟨4, c, none⟩ = ((intsOf Rows.laid_unicode_asciiFold).map fun z => Value.int .u16 z)[c]? := fun c => by
    rw [World.var?_cell hg hvar c, ← Array.getElem?_toList, hcs]
  intro c hm
  rw [hc, hc]
  simp only [List.mem_cons, List.not_mem_nil, or_false] at hm
  rcases hm with rfl | rfl | rfl | rfl | rfl | rfl | rfl
  all_goals exact ⟨by kernel_rfl, by kernel_rfl⟩
def pairsOf : DataW Unit → List (DataW Unit)
  | .slice ds _ => ds
  | _ => []
theorem pair_cells {H : Type} {enc : TypeId × Value → H} {w : World} {base : Nat} {sp : Nat → Bool} {held : Bool} {fuel : Nat} {cs : List Value} {a b : Int} {p : List MemPlace}
    (h : DataW.trod enc Tryz.prog w base sp held fuel 329 cs = some (.agg [.lit (.int .u16 a), .lit (.int .u16 b)], p)) : cs[0]? = some (.int .u16 a) ∧ cs[1]? = some (.int .u16 b) := by
  obtain ⟨xs, n, rfl, hx, hl, hxl, hall⟩ := DataW.trod_struct Tryz.underlying329 h
  have hx3 : xs.map (·.1) = [.lit (.int .u16 a), .lit (.int .u16 b)] := by
    have := congrArg Prod.fst hx
    simpa using this.symm
  obtain ⟨x0, x1, rfl⟩ : ∃ x0 x1, xs = [x0, x1] := by
    match xs, hx3 with
    | [x0, x1], _ => exact ⟨x0, x1, rfl⟩
  simp only [List.map_cons, List.map_nil, List.cons.injEq, and_true] at hx3
  obtain ⟨e0, e1⟩ := hx3
  have f0 := hall 0 _ rfl
  have f1 := hall 1 _ rfl
  change DataW.trod _ _ _ _ _ _ _ 325 ((cs.drop 0).take (Tryz.prog.cellsOf 325)) = some x0 at f0
  change DataW.trod _ _ _ _ _ _ _ 325 ((cs.drop 1).take (Tryz.prog.cellsOf 325)) = some x1 at f1
  rw [c_u16] at f0 f1
  refine ⟨?_, ?_⟩
  · obtain ⟨z, hz, hx', _⟩ := DataW.trod_int Tryz.underlying325 f0
    rw [hx'] at e0
    cases e0
    exact at_of_take hz
  · obtain ⟨z, hz, hx', _⟩ := DataW.trod_int Tryz.underlying325 f1
    rw [hx'] at e1
    cases e1
    exact at_of_take hz
set_option maxRecDepth 100000 in
theorem fold2_of_laidL {W : World} (h : laidMetH Tryz.prog listedL W) : Fold2 W := by
  have h1 := Lib.laidMet.reads (parts_of_laidL h).1 (n := "unicode.caseOrbit") (d := Rows.laid_unicode_caseOrbit) (.tail _ (.tail _ (.head _)))
  obtain ⟨g, t, cs, fuel, p, hg, hty, hvar, hd⟩ := h1
  obtain rfl := Option.some.inj (o_name.symm.trans hg)
  obtain rfl := Option.some.inj (o_type.symm.trans hty)
  rcases DataW.trod_slice Tryz.underlying327 hd with ⟨_, hx'⟩ | ⟨a', len, cap, el, rs, m, rfl, hc0, hx', _, hlc, _, hel, helem, hsp, _⟩
  · have := congrArg Prod.fst hx'
    cases this
  have e0 := congrArg (fun x => pairsOf x.1) hx'
  have eE : pairsOf Rows.laid_unicode_caseOrbit = el.map (·.1) := e0
  have hpl : (pairsOf Rows.laid_unicode_caseOrbit).length = 94 := by kernel_rfl
  have hlen : len = 94 := by
    have := congrArg List.length eE
    rw [hpl, List.length_map] at this
    omega
  have hrow : ∀ (i : Nat) (a b : Int), (pairsOf Rows.laid_unicode_caseOrbit)[i]? = some (.agg [.lit (.int .u16 a), .lit (.int .u16 b)]) → W.cell? ((a'.add (i * 2)).add 0) = some (.int .u16 a) ∧ W.cell? ((a'.add (i * 2)).add 1) = some (.int .u16 b) := by
    intro i a b hi
    have hil := (List.getElem?_eq_some_iff.1 hi).1
    rw [hpl] at hil
    have h1 := helem i (by omega)
    rw [c_pair] at h1
    obtain ⟨b1, hb⟩ : ∃ b, el[i]? = some b := ⟨el[i]'(by omega), List.getElem?_eq_getElem (by omega)⟩
    rw [hb] at h1
    obtain ⟨ce, hce, hte⟩ := Option.bind_eq_some_iff.1 h1
    have hb1 : b1.1 = .agg [.lit (.int .u16 a), .lit (.int .u16 b)] := by
      rw [eE, List.getElem?_map, hb, Option.map_some] at hi
      exact Option.some.inj hi
    obtain ⟨q0, q1⟩ := pair_cells (p := b1.2) (by rw [← hb1]; exact hte)
    obtain ⟨_, _, hcc⟩ := World.cells?_some hce
    exact ⟨by rw [hcc 0 (by omega), q0], by rw [hcc 1 (by omega), q1]⟩
  obtain ⟨R, oR, sR⟩ := a'
  obtain rfl : sR = none := by
    have h00 := (hrow 0 75 107 (by kernel_rfl)).1
    have : (Addr.add (Addr.add ⟨R, oR, sR⟩ (0 * 2)) 0) = ⟨R, oR, sR⟩ := by simp [Addr.add]
    rw [this] at h00
    exact cell_spot h00
  have hc : ∀ (i : Nat) (a b : Int), (pairsOf Rows.laid_unicode_caseOrbit)[i]? = some (.agg [.lit (.int .u16 a), .lit (.int .u16 b)]) → W.cell? ⟨R, oR + i * 2, none⟩ = some (.int .u16 a) ∧ W.cell? ⟨R, oR + (i * 2 + 1), none⟩ = some (.int .u16 b) := by
    intro i a b hi
    obtain ⟨q0, q1⟩ := hrow i a b hi
    have a0 : (Addr.add (Addr.add ⟨R, oR, none⟩ (i * 2)) 0) = ⟨R, oR + i * 2, none⟩ := by simp [Addr.add]
    have a1 : (Addr.add (Addr.add ⟨R, oR, none⟩ (i * 2)) 1) = ⟨R, oR + (i * 2 + 1), none⟩ := by rw [Addr.add_mid, Addr.add_mid, Nat.add_assoc]
    rw [a0] at q0
    rw [a1] at q1
    exact ⟨q0, q1⟩
  have hR := World.block_lt_of_cell? W _ (hc 0 75 107 (by kernel_rfl)).1
  refine ⟨R, oR, cap, hR, ?_, (hc 47 966 981 (by kernel_rfl)).1, (hc 23 837 921 (by kernel_rfl)).1, (hc 11 452 453 (by kernel_rfl)).1, (hc 5 197 229 (by kernel_rfl)).1, (hc 8 304 304 (by kernel_rfl)).1, (hc 10 383 83 (by kernel_rfl)).1, (hc 9 305 305 (by kernel_rfl)).1, (hc 10 383 83 (by kernel_rfl)).2⟩
  rw [World.var?_cell hg hvar 0, ← Array.getElem?_toList, hc0, hlen]
  rfl
theorem tabs_of_laidL {W : World} (h : laidMetH Tryz.prog listedL W) : Tabs W := ⟨utf8_of_laidL h, fold1_of_laidL h, fold2_of_laidL h⟩
end Go.Proofs.YtjgijbeedgggdaaGreatDoor

namespace Go.Proofs.YtjgijbeedgggdaaGreatDoor
open Go.ChangeShapes Go.WideShapes Go.RowKit Go.Lib

def caseRen : Go.Shelf.Ren := ⟨Tryz.lays274_ren.f, Tryz.lays274_ren.t, fun | 13 => 6 | n => n⟩
theorem caseLays : Go.Proofs.Lays.n274 Tryz.prog caseRen := { Tryz.lays274 with }
theorem case206 : Tryz.prog.underlying (caseRen.t 206) = some (.array 3 (caseRen.t 21)) := by kernel_rfl
theorem caseX : CaseExtra Tryz.prog caseRen := ⟨by kernel_rfl, by kernel_rfl, by kernel_rfl, by kernel_rfl, by kernel_rfl, by kernel_rfl⟩
set_option maxRecDepth 100000 in
theorem laidIn_caseL {w : World} (R : Nat) (t : TypeId) (hgR : 6 ≠ R)
    (hvar : w.heap[6]? = some (.cells #[.slice (some ⟨R, 0, none⟩) caseA.size caseA.size] 332 (0, 0)))
    (hblk : w.heap[R]? = some (.cells caseCells5 t (0, 0))) : LaidIn Tryz.prog w [("unicode.CaseRanges", caseData)] [6, R] := by
  have hT := caseTab_of_block hblk
  have hread := case_slice_reads caseLays case206 caseX hT caseA_wf (by rw [caseA_size]; unfold maxLen; omega) 0
  rw [case_rows_data] at hread
  have hv : w.var? Tryz.prog "unicode.CaseRanges" = some #[.slice (some ⟨R, 0, none⟩) caseA.size caseA.size] := by
    have hn := caseX.n13
    simp only [caseRen] at hn
    simp [World.var?, hn, hvar]
  have hshape : MemPlace.row ⟨6, 0, none⟩ (#[Value.slice (some ⟨R, 0, none⟩) caseA.size caseA.size] : Array Value).size ++ MemPlace.row ⟨R, 0, none⟩ (caseA.size * 5) =
      ([((⟨6, 0, none⟩ : Addr), 1), (⟨R, 0, none⟩, caseA.size * 5)] : List (Addr × Nat)).flatMap (fun r => MemPlace.row r.1 r.2) := by simp
  refine LaidIn.one _ caseX.n13 caseX.y13 hv hread ?_ ?_ ?_
  · show (MemPlace.row ⟨6, 0, none⟩ _ ++ _).Nodup
    rw [hshape]
    exact rows_nodup _ (by simp; exact hgR)
  · show RowsFit _ _ (MemPlace.row ⟨6, 0, none⟩ _ ++ _)
    rw [hshape]
    intro b off hp
    simp only [List.flatMap_cons, List.flatMap_nil, List.append_nil, List.mem_append] at hp
    rcases hp with hp | hp
    · obtain ⟨i, hi, e'⟩ := MemPlace.mem_row.1 hp
      cases e'
      refine ⟨⟨_, _, hvar⟩, fun u v hc' => ?_⟩
      obtain rfl : i = 0 := Nat.lt_one_iff.1 hi
      rw [cell_of_heap hvar] at hc'
      cases hc'
    · obtain ⟨i, hi, e⟩ := MemPlace.mem_row.1 hp
      cases e
      refine ⟨⟨_, _, hblk⟩, fun u v hc => ?_⟩
      obtain ⟨c0, c1, c2, c3, c4⟩ := hT (i / 5) (by omega)
      have hi5 : 0 + i = 0 + i / 5 * 5 + i % 5 := by omega
      simp only at hc
      rw [hi5] at hc
      have hm : i % 5 < 5 := Nat.mod_lt _ (by omega)
      match hk : i % 5, hm with
      | 0, _ => rw [hk, Nat.add_zero, c0] at hc; cases hc
      | 1, _ => rw [hk, c1] at hc; cases hc
      | 2, _ => rw [hk, c2] at hc; cases hc
      | 3, _ => rw [hk, c3] at hc; cases hc
      | 4, _ => rw [hk, c4] at hc; cases hc
  · show ∀ x ∈ MemPlace.row ⟨6, 0, none⟩ _ ++ _, _
    rw [hshape]
    exact rows_block _
def flatV : Nat → DataW Unit → List Value
  | _ + 1, .lit (.int k n) => [.int k n]
  | fu + 1, .agg ds => ds.flatMap (flatV fu)
  | fu + 1, .slice ds _ => ds.flatMap (flatV fu)
  | _, _ => []
noncomputable def baseL (os : Os) : World := ((World.holding Tryz.prog os ⟨#[], #[], []⟩).alloc (.cells (flatV 5 Rows.laid_unicode_caseOrbit).toArray 329)).alloc (.cells caseCells5 338)
noncomputable def laidWorldL (os : Os) : World :=
  ((((((baseL os).setRow 3 (flatV 5 Rows.laid_unicode_utf8_acceptRanges).toArray).setRow 2 (flatV 5 Rows.laid_unicode_utf8_first).toArray).setRow 4 (flatV 5 Rows.laid_unicode_asciiFold).toArray).setRow 5 #[.slice (some ⟨(World.holding Tryz.prog os ⟨#[], #[], []⟩).heap.size, 0, none⟩) 94 94]).setRow 6 #[.slice (some ⟨(World.holding Tryz.prog os ⟨#[], #[], []⟩).heap.size + 1, 0, none⟩) caseA.size caseA.size]).setRow 0 #[.iface 287 (.agg #[.pointer (some ⟨7, 26, none⟩)])]
set_option maxRecDepth 100000 in
theorem e_case : Rows.laid_unicode_CaseRanges = caseData := by kernel_rfl
set_option maxRecDepth 100000 in
theorem metL (os : Os) (args : Array Value) : laidMetH Tryz.prog listedL ((laidWorldL os).forCall (fun _ _ => 0) ⟨#[], args, []⟩).memory := by
  have hA : LaidIn Tryz.prog ((laidWorldL os).forCall (fun _ _ => 0) ⟨#[], args, []⟩).memory [("unicode/utf8.acceptRanges", Rows.laid_unicode_utf8_acceptRanges), ("unicode.asciiFold", Rows.laid_unicode_asciiFold), ("unicode.caseOrbit", Rows.laid_unicode_caseOrbit)] [3, 4, 5, (World.holding Tryz.prog os ⟨#[], #[], []⟩).heap.size] :=
    LaidIn.of_run _ 8 (by kernel_rfl) (by kernel_rfl) (by kernel_rfl) (by kernel_rfl)
  have hB := laidIn_caseL (w := ((laidWorldL os).forCall (fun _ _ => 0) ⟨#[], args, []⟩).memory) ((World.holding Tryz.prog os ⟨#[], #[], []⟩).heap.size + 1) 338 (of_decide_eq_true (by kernel_rfl)) (by kernel_rfl) (by kernel_rfl)
  rw [← e_case] at hB
  have hC : LaidIn Tryz.prog ((laidWorldL os).forCall (fun _ _ => 0) ⟨#[], args, []⟩).memory [("unicode/utf8.first", Rows.laid_unicode_utf8_first)] [2] :=
    LaidIn.of_run _ 8 (by kernel_rfl) (by kernel_rfl) (by kernel_rfl) (by kernel_rfl)
  exact laidMetH_of_parts ((LaidIn.append hA (LaidIn.append hB hC (by kernel_rfl)) (by kernel_rfl)).met) (by kernel_rfl)
end Go.Proofs.YtjgijbeedgggdaaGreatDoor

namespace Go.Proofs.YtjgijbeedgggdaaGreatDoor
open Go Go.RowKit

theorem blank_r (c : UInt8) (w : World) : Calls Tryz.prog 31 #[.int .u8 c.toNat] w fun e w' => e = .returned (.bool (isBl c)) ∧ w' = w := by
  have q1 : ((c.toNat : Int) == 32) = decide (c = 32) := beq_b8 c 32 (by decide)
  have q2 : ((c.toNat : Int) == 9) = decide (c = 9) := beq_b8 c 9 (by decide)
  have q3 : ((c.toNat : Int) == 13) = decide (c = 13) := beq_b8 c 13 (by decide)
  have HB : Hid (isBl c = (decide (c = 32) || decide (c = 9) || decide (c = 13))) := rfl
  generalize isBl c = r at *
  generalize decide (c = 32) = m1 at *
  generalize decide (c = 9) = m2 at *
  generalize decide (c = 13) = m3 at *
  cases m1 <;> cases m2 <;> cases m3
  all_goals
    have hb := HB.out
    simp at hb
    subst hb
    clear HB
    go_enter Tryz.func31, Tryz.ntmps31
    go_wp2
    go_ret
    exact ⟨rfl, rfl⟩
theorem hd_at (x : Ln) (k : Nat) (b : UInt8) (h1 : (x.take k).all isBl = true) (h2 : x[k]? = some b) (h3 : isBl b = false) : hd x = k := by
  induction x generalizing k with
  | nil => simp at h2
  | cons c x ih =>
    cases k with
    | zero =>
      simp at h2; subst h2
      unfold hd; rw [List.takeWhile_cons_of_neg (by rw [h3]; decide)]; rfl
    | succ k =>
      simp only [List.take_succ_cons, List.all_cons, Bool.and_eq_true] at h1
      unfold hd
      rw [List.takeWhile_cons_of_pos h1.1, List.length_cons]
      exact congrArg (· + 1) (ih k h1.2 (by simpa using h2))
theorem hd_all (x : Ln) (h : x.all isBl = true) : hd x = x.length := by
  unfold hd
  have : x.takeWhile isBl = x := by
    induction x with
    | nil => rfl
    | cons c x ih =>
      simp only [List.all_cons, Bool.and_eq_true] at h
      rw [List.takeWhile_cons_of_pos h.1, ih h.2]
  rw [this]
def headI (x : Ln) : Int := if hd x < x.length then (hd x : Int) else -1
theorem head_r (s : ByteArray) (w : World) (hs : s.size ≤ 1099511627776) : Calls Tryz.prog 37 #[.string s] w fun e w' => e = .returned (.int .i64 (headI (un s))) ∧ w' = w := by
  have hsl := un_length s
  go_enter Tryz.func37, Tryz.ntmps37
  go_wp2
  go_loop [3] (fun i => ∃ k : Nat, k ≤ s.size ∧ i = .int .i64 k ∧ Hid (((un s).take k).all isBl = true)) (fun i => s.size - (intOf i).toNat)
  case atStart => exact ⟨0, Nat.zero_le _, rfl, by simp [Hid]⟩
  case round =>
    obtain ⟨k, hk, rfl, HA⟩ := hrel
    by_cases hlt : k < s.size
    · have hget := un_getElem? s k hlt
      have k0 : (0 : Int) ≤ (k : Int) := by omega
      have k1 : (k : Int) < (s.size : Int) := by omega
      have hbl := fun W => blank_r s[k] W
      cases hb : isBl s[k]
      · rw [hb] at hbl
        have HR : Hid (headI (un s) = (k : Int)) := by unfold Hid headI; rw [hd_at (un s) k s[k] HA.out hget hb, if_pos (by omega)]
        clear hget hb
        go_wp2_with (go_at_call 31; refine (hbl _).mono ?_; rintro e w1 ⟨rfl, hw⟩; replace hw := hw.symm; subst hw)
        go_ret
        exact ⟨by rw [HR.out]; rfl, rfl⟩
      · rw [hb] at hbl
        have HA2 : Hid (((un s).take (k + 1)).all isBl = true) := by
          unfold Hid
          rw [List.take_add_one, hget, List.all_append, HA.out]; simp [hb]
        clear hget hb
        go_wp2_with (go_at_call 31; refine (hbl _).mono ?_; rintro e w1 ⟨rfl, hw⟩; replace hw := hw.symm; subst hw)
        first
          | exact ⟨⟨k + 1, by omega, by go_num, HA2⟩, by simp [intOf]; omega⟩
          | (go_round
             case rel => exact ⟨k + 1, by omega, by go_num, HA2⟩
             case measure => simp [intOf]; omega)
    · obtain rfl : k = s.size := by omega
      have HR : Hid (headI (un s) = -1) := by
        unfold Hid headI
        have := HA.out
        rw [← hsl, List.take_length] at this
        rw [hd_all _ this, if_neg (Nat.lt_irrefl _)]
      go_wp2
      go_ret
      exact ⟨by rw [HR.out]; rfl, rfl⟩
end Go.Proofs.YtjgijbeedgggdaaGreatDoor

namespace Go.Proofs.YtjgijbeedgggdaaGreatDoor
open Go Go.RowKit

theorem dropWhile_all (p : UInt8 → Bool) (a b : Ln) (h : a.all p = true) : (a ++ b).dropWhile p = b.dropWhile p := by
  induction a with
  | nil => rfl
  | cons c a ih =>
    simp only [List.all_cons, Bool.and_eq_true] at h
    rw [List.cons_append, List.dropWhile_cons_of_pos h.1]; exact ih h.2
theorem en_at (x : Ln) (k : Nat) (b : UInt8) (h1 : (x.drop (k + 1)).all isBl = true) (h2 : x[k]? = some b) (h3 : isBl b = false) : en x = k + 1 := by
  obtain ⟨hk, hb⟩ := List.getElem?_eq_some_iff.1 h2
  have e : x = x.take k ++ (b :: x.drop (k + 1)) := by rw [← hb, ← List.drop_eq_getElem_cons hk, List.take_append_drop]
  have e2 : x.reverse = (x.drop (k + 1)).reverse ++ (b :: (x.take k).reverse) := by
    conv => lhs; rw [e]
    simp
  unfold en
  rw [e2, dropWhile_all _ _ _ (by rw [List.all_reverse]; exact h1), List.dropWhile_cons_of_neg (by rw [h3]; decide)]
  simp; omega
theorem en_all (x : Ln) (h : x.all isBl = true) : en x = 0 := by
  unfold en
  have := dropWhile_all isBl x.reverse [] (by rw [List.all_reverse]; exact h)
  rw [List.append_nil] at this
  rw [this]; rfl
theorem last_r (s : ByteArray) (w : World) (hs : s.size ≤ 1099511627776) : Calls Tryz.prog 78 #[.string s] w fun e w' => e = .returned (.int .i64 ((en (un s) : Int) - 1)) ∧ w' = w := by
  have hsl := un_length s
  go_enter Tryz.func78, Tryz.ntmps78
  go_wp2
  go_loop [3] (fun i => ∃ k : Nat, k ≤ s.size ∧ i = .int .i64 ((k : Int) - 1) ∧ Hid (((un s).drop k).all isBl = true)) (fun i => (intOf i + 1).toNat)
  case atStart => exact ⟨s.size, Nat.le_refl _, rfl, by unfold Hid; rw [← hsl, List.drop_length]; rfl⟩
  case round =>
    obtain ⟨k, hk, rfl, HA⟩ := hrel
    by_cases hlt : 0 < k
    · obtain ⟨m, rfl⟩ : ∃ m, k = m + 1 := ⟨k - 1, by omega⟩
      have hm : m < s.size := by omega
      have hget := un_getElem? s m hm
      have e1 : (((m + 1 : Nat) : Int) - 1) = (m : Int) := by omega
      rw [e1]
      have k0 : (0 : Int) ≤ (m : Int) := by omega
      have k1 : (m : Int) < (s.size : Int) := by omega
      have hbl := fun W => blank_r s[m] W
      cases hb : isBl s[m]
      · rw [hb] at hbl
        have HR : Hid ((en (un s) : Int) - 1 = (m : Int)) := by unfold Hid; rw [en_at (un s) m s[m] HA.out hget hb]; omega
        clear hget hb
        go_wp2_with (go_at_call 31; refine (hbl _).mono ?_; rintro e w1 ⟨rfl, hw⟩; replace hw := hw.symm; subst hw)
        go_ret
        exact ⟨by rw [HR.out]; rfl, rfl⟩
      · rw [hb] at hbl
        have HA2 : Hid (((un s).drop m).all isBl = true) := by
          unfold Hid
          have hml : m < (un s).length := by omega
          rw [List.drop_eq_getElem_cons hml, List.all_cons, HA.out]
          rw [List.getElem?_eq_getElem hml] at hget
          rw [Option.some.inj hget, hb]; rfl
        clear hget hb
        go_wp2_with (go_at_call 31; refine (hbl _).mono ?_; rintro e w1 ⟨rfl, hw⟩; replace hw := hw.symm; subst hw)
        first
          | exact ⟨⟨m, by omega, by go_num, HA2⟩, by simp [intOf]⟩
          | (go_round
             case rel => exact ⟨m, by omega, by go_num, HA2⟩
             case measure => simp [intOf])
    · obtain rfl : k = 0 := by omega
      have HR : Hid ((en (un s) : Int) - 1 = -1) := by unfold Hid; have h0 := HA.out; rw [List.drop_zero] at h0; rw [en_all _ h0]; rfl
      have e1 : (((0 : Nat) : Int) - 1) = -1 := rfl
      rw [e1]
      go_wp2
      go_ret
      exact ⟨by rw [HR.out]; rfl, rfl⟩
theorem hd_le (x : Ln) : hd x ≤ x.length := (List.takeWhile_sublist isBl (l := x)).length_le
theorem nothing_r (s : ByteArray) (w : World) (hs : s.size ≤ 1099511627776) : Calls Tryz.prog 35 #[.string s] w fun e w' => e = .returned (.bool (noth (un s))) ∧ w' = w := by
  have hsl := un_length s
  have hh := fun W => head_r s W hs
  have hle := hd_le (un s)
  by_cases hlt : hd (un s) < s.size
  · have hI : headI (un s) = (hd (un s) : Int) := by unfold headI; rw [if_pos (by omega)]
    rw [hI] at hh
    have hget := un_getElem? s _ hlt
    have HN : Hid (noth (un s) = decide (s[hd (un s)] = 35)) := by unfold Hid noth; rw [hget]; simp; rfl
    have q1 : ((s[hd (un s)].toNat : Int) == 35) = decide (s[hd (un s)] = 35) := beq_b8 _ 35 (by decide)
    have k0 : (0 : Int) ≤ (hd (un s) : Int) := by omega
    have k1 : (hd (un s) : Int) < (s.size : Int) := by omega
    have k2 : ¬ (hd (un s) : Int) < 0 := by omega
    rw [HN.out]
    clear HN hget hI hle
    generalize hd (un s) = h at *
    go_enter Tryz.func35, Tryz.ntmps35
    go_wp2_with (go_at_call 37; refine (hh _).mono ?_; rintro e w1 ⟨rfl, hw⟩; replace hw := hw.symm; subst hw)
    go_ret
    exact ⟨by rw [← q1]; rfl, rfl⟩
  · have hI : headI (un s) = -1 := by unfold headI; rw [if_neg (by omega)]
    rw [hI] at hh
    have HN : Hid (noth (un s) = true) := by unfold Hid noth; rw [List.getElem?_eq_none (by omega)]; rfl
    rw [HN.out]
    go_enter Tryz.func35, Tryz.ntmps35
    go_wp2_with (go_at_call 37; refine (hh _).mono ?_; rintro e w1 ⟨rfl, hw⟩; replace hw := hw.symm; subst hw)
    go_ret
    exact ⟨rfl, rfl⟩
theorem past_at (x : Ln) (i k : Nat) (h1 : ((x.drop i).take k).all isBl = true) (h2 : ∀ b, x[i + k]? = some b → isBl b = false) (h3 : i + k ≤ x.length) : pastL x i = i + k := by
  unfold pastL
  congr 1
  have hk : k ≤ (x.drop i).length := by rw [List.length_drop]; omega
  generalize hy : x.drop i = y at *
  have h2' : ∀ b, y[k]? = some b → isBl b = false := fun b hb => h2 b (by rw [← hy, List.getElem?_drop] at hb; exact hb)
  by_cases hlt : k < y.length
  · exact hd_at y k y[k] h1 (List.getElem?_eq_getElem hlt) (h2' _ (List.getElem?_eq_getElem hlt))
  · have : k = y.length := by omega
    subst this
    rw [List.take_length] at h1
    exact hd_all y h1
theorem past_r (s : ByteArray) (i : Nat) (w : World) (hs : s.size ≤ 1099511627776) (hi : i ≤ s.size) : Calls Tryz.prog 76 #[.string s, .int .i64 i] w fun e w' => e = .returned (.int .i64 (pastL (un s) i)) ∧ w' = w := by
  have hsl := un_length s
  go_enter Tryz.func76, Tryz.ntmps76
  go_wp2
  go_loop [1] (fun iv => ∃ k : Nat, i + k ≤ s.size ∧ iv = .int .i64 ((i + k : Nat) : Int) ∧ Hid ((((un s).drop i).take k).all isBl = true)) (fun iv => s.size - (intOf iv).toNat)
  case atStart => exact ⟨0, by omega, rfl, by simp [Hid]⟩
  case round =>
    obtain ⟨k, hk, rfl, HA⟩ := hrel
    by_cases hlt : i + k < s.size
    · have hget := un_getElem? s (i + k) hlt
      generalize hm : i + k = m at *
      have k0 : (0 : Int) ≤ (m : Int) := by omega
      have k1 : (m : Int) < (s.size : Int) := by omega
      have hbl := fun W => blank_r s[m] W
      cases hb : isBl s[m]
      · rw [hb] at hbl
        have HR : Hid (pastL (un s) i = m) := by
          unfold Hid
          rw [← hm]
          exact past_at (un s) i k HA.out (fun b hbb => by rw [hm, hget] at hbb; cases hbb; exact hb) (by omega)
        clear hget hb
        go_wp2_with (go_at_call 31; refine (hbl _).mono ?_; rintro e w1 ⟨rfl, hw⟩; replace hw := hw.symm; subst hw)
        go_ret
        exact ⟨by rw [HR.out]; rfl, rfl⟩
      · rw [hb] at hbl
        have HA2 : Hid ((((un s).drop i).take (k + 1)).all isBl = true) := by
          unfold Hid
          rw [List.take_add_one, List.getElem?_drop, hm, hget, List.all_append, HA.out]; simp [hb]
        clear hget hb
        go_wp2_with (go_at_call 31; refine (hbl _).mono ?_; rintro e w1 ⟨rfl, hw⟩; replace hw := hw.symm; subst hw)
        first
          | exact ⟨⟨k + 1, by omega, by rw [← hm]; go_num, HA2⟩, by simp [intOf]; omega⟩
          | (go_round
             case rel => exact ⟨k + 1, by omega, by rw [← hm]; go_num, HA2⟩
             case measure => simp [intOf]; omega)
    · have hm : i + k = s.size := by omega
      have HR : Hid (pastL (un s) i = s.size) := by
        unfold Hid
        rw [← hm]
        exact past_at (un s) i k HA.out (fun b hbb => by rw [List.getElem?_eq_none (by omega)] at hbb; cases hbb) (by omega)
      rw [hm]
      go_wp2
      go_ret
      exact ⟨by rw [HR.out]; rfl, rfl⟩
end Go.Proofs.YtjgijbeedgggdaaGreatDoor

namespace Go.Proofs.YtjgijbeedgggdaaGreatDoor
open Go Go.RowKit

theorem lower_r (c : UInt8) (w : World) : Calls Tryz.prog 121 #[.int .u8 c.toNat] w fun e w' => e = .returned (.int .u8 (lowB c).toNat) ∧ w' = w := by
  have hn := c.toNat_lt
  by_cases h1 : 65 ≤ c.toNat
  · by_cases h2 : c.toNat ≤ 90
    · have HL : Hid (((lowB c).toNat : Int) = (c.toNat : Int) + 32) := by
        unfold Hid lowB
        rw [if_pos ⟨by rw [UInt8.le_iff_toNat_le]; exact h1, by rw [UInt8.le_iff_toNat_le]; exact h2⟩, UInt8.toNat_add]
        show (((c.toNat + 32) % 256 : Nat) : Int) = _
        omega
      have k1 : (65 : Int) ≤ (c.toNat : Int) := by omega
      have k2 : (c.toNat : Int) ≤ 90 := by omega
      rw [HL.out]
      go_enter Tryz.func121, Tryz.ntmps121
      go_wp2
      go_ret
      exact ⟨rfl, rfl⟩
    · have HL : Hid (lowB c = c) := by
        unfold Hid lowB
        rw [if_neg (show ¬ (65 ≤ c ∧ c ≤ 90) from fun h => h2 (UInt8.le_iff_toNat_le.1 h.2))]
      have k1 : (65 : Int) ≤ (c.toNat : Int) := by omega
      have k2 : ¬ (c.toNat : Int) ≤ 90 := by omega
      rw [HL.out]
      go_enter Tryz.func121, Tryz.ntmps121
      go_wp2
      go_ret
      exact ⟨rfl, rfl⟩
  · have HL : Hid (lowB c = c) := by
      unfold Hid lowB
      rw [if_neg (show ¬ (65 ≤ c ∧ c ≤ 90) from fun h => h1 (UInt8.le_iff_toNat_le.1 h.1))]
    have k1 : ¬ (65 : Int) ≤ (c.toNat : Int) := by omega
    rw [HL.out]
    go_enter Tryz.func121, Tryz.ntmps121
    go_wp2
    go_ret
    exact ⟨rfl, rfl⟩
theorem says_neg (s t : ByteArray) (w : World) : Calls Tryz.prog 77 #[.string s, .int .i64 (-1), .string t] w fun e w' => e = .returned (.bool false) ∧ w' = w := by
  go_enter Tryz.func77, Tryz.ntmps77
  go_wp2
  go_ret
  exact ⟨rfl, rfl⟩
theorem says_step (x w : Ln) (i : Nat) : (∀ k a b, x[i + k]? = some a → w[k]? = some b → lowB a = b) → i + w.length ≤ x.length → saysL x i w = true := by
  intro h hl
  unfold saysL
  rw [decide_eq_true hl, Bool.true_and]
  rw [beq_iff_eq]
  apply List.ext_getElem?
  intro k
  rw [List.getElem?_map, List.getElem?_take]
  by_cases hk : k < w.length
  · rw [if_pos hk, List.getElem?_drop, List.getElem?_eq_getElem (show i + k < x.length by omega), List.getElem?_eq_getElem hk]
    exact congrArg some (h k _ _ (List.getElem?_eq_getElem (by omega)) (List.getElem?_eq_getElem hk))
  · rw [if_neg hk, List.getElem?_eq_none (by omega)]; rfl
theorem says_off (x w : Ln) (i k : Nat) (a b : UInt8) (h1 : x[i + k]? = some a) (h2 : w[k]? = some b) (h3 : lowB a ≠ b) : saysL x i w = false := by
  unfold saysL
  rw [Bool.and_eq_false_iff]
  right
  rw [beq_eq_false_iff_ne]
  intro e
  have hk := (List.getElem?_eq_some_iff.1 h2).1
  have this : (List.map lowB ((x.drop i).take w.length))[k]? = w[k]? := by rw [e]
  rw [List.getElem?_map, List.getElem?_take, if_pos hk, List.getElem?_drop, h1, h2] at this
  exact h3 (Option.some.inj this)
set_option maxHeartbeats 1000000 in
theorem says_r (s t : ByteArray) (i : Nat) (w : World) (hs : s.size ≤ 1099511627776) (ht : t.size ≤ 1000) (hi : i ≤ s.size) : Calls Tryz.prog 77 #[.string s, .int .i64 i, .string t] w fun e w' => e = .returned (.bool (saysL (un s) i (un t))) ∧ Below w.heap.size w w' := by
  have hsl := un_length s
  have htl := un_length t
  have k0 : ¬ (i : Int) < 0 := by omega
  by_cases hfit : i + t.size ≤ s.size
  · have k1 : ¬ (s.size : Int) < (i : Int) + (t.size : Int) := by omega
    go_enter Tryz.func77, Tryz.ntmps77
    go_wp2
    go_loopw [7] (fun kv wr => ∃ k : Nat, k ≤ t.size ∧ kv = .int .i64 k ∧ Hid (∀ j a b, j < k → (un s)[i + j]? = some a → (un t)[j]? = some b → lowB a = b) ∧ Below w.heap.size w wr) (fun kv _ => t.size - (intOf kv).toNat)
    case atStart => exact ⟨0, Nat.zero_le _, rfl, fun j a b h => by omega, Below.refl _ _⟩
    case round =>
      obtain ⟨k, hk, rfl, HA, hB⟩ := hrel
      by_cases hlt : k < t.size
      · have hik : i + k < s.size := by omega
        have hg1 := un_getElem? s (i + k) hik
        have hg2 := un_getElem? t k hlt
        have hlo := fun W => lower_r s[i + k] W
        have j0 : (0 : Int) ≤ (k : Int) := by omega
        have j1 : (k : Int) < (t.size : Int) := by omega
        have j2 : (0 : Int) ≤ (i : Int) + (k : Int) := by omega
        have j3 : (i : Int) + (k : Int) < (s.size : Int) := by omega
        have hT : ((i : Int) + (k : Int)).toNat = i + k := by omega
        have hw1 : IntKind.i64.wrap ((i : Int) + (k : Int)) = (i : Int) + (k : Int) := by
          simp only [IntKind.wrap, IntKind.bits, IntKind.signed]
          simp
          omega
        have q1 : (((lowB s[i + k]).toNat : Int) == (t[k].toNat : Int)) = decide (lowB s[i + k] = t[k]) := beq_b88 _ _
        by_cases he : lowB s[i + k] = t[k]
        · rw [decide_eq_true he] at q1
          have HA2 : Hid (∀ j a b, j < k + 1 → (un s)[i + j]? = some a → (un t)[j]? = some b → lowB a = b) := fun j a b h1 h2 h3 => by
            rcases Nat.lt_succ_iff_lt_or_eq.1 h1 with h4 | h4
            · exact HA.out j a b h4 h2 h3
            · subst h4
              rw [hg1] at h2; rw [hg2] at h3
              cases h2; cases h3; exact he
          clear hg1 hg2 HA he
          go_wp2
          go_quiet ((go_at_call 121; with_reducible exact Calls.quiet_of_same (hlo _)))
          go_wp2
          go_roundw
          case rel => exact ⟨k + 1, by omega, by go_num, HA2, below_drawn hB _⟩
          case measure => simp [intOf]; omega
        · rw [decide_eq_false he] at q1
          have HR : Hid (saysL (un s) i (un t) = false) := says_off _ _ i k _ _ hg1 hg2 he
          clear hg1 hg2 HA he
          go_wp2
          go_quiet ((go_at_call 121; with_reducible exact Calls.quiet_of_same (hlo _)))
          go_wp2
          go_ret
          exact ⟨by rw [HR.out]; rfl, below_drawn hB _⟩
      · obtain rfl : k = t.size := by omega
        have HR : Hid (saysL (un s) i (un t) = true) := says_step _ _ _ (fun j a b h1 h2 => HA.out j a b (by have := (List.getElem?_eq_some_iff.1 h2).1; omega) h1 h2) (by omega)
        go_wp2
        go_ret
        exact ⟨by rw [HR.out]; rfl, hB⟩
  · have k1 : (s.size : Int) < (i : Int) + (t.size : Int) := by omega
    have HR : Hid (saysL (un s) i (un t) = false) := by unfold Hid saysL; rw [decide_eq_false (by omega)]; rfl
    go_enter Tryz.func77, Tryz.ntmps77
    go_wp2
    go_ret
    exact ⟨by rw [HR.out]; rfl, Below.refl _ _⟩
end Go.Proofs.YtjgijbeedgggdaaGreatDoor

namespace Go.Proofs.YtjgijbeedgggdaaGreatDoor
open Go Go.RowKit

/-- The list at v holds these texts. -/
def TextsAt (w : World) (v : Value) (l : List ByteArray) : Prop :=
  ∃ a c, v = .slice a l.length c ∧ (a = none → c = 0) ∧ ∀ i x, l[i]? = some x → ∃ b o, a = some ⟨b, o, none⟩ ∧ w.cell? ⟨b, o + i, none⟩ = some (.string x)
theorem TextsAt.below {w w' : World} {v : Value} {l : List ByteArray} (h : TextsAt w v l) (hb : Below w.heap.size w w') : TextsAt w' v l := by
  obtain ⟨a, c, rfl, ha, hc⟩ := h
  refine ⟨a, c, rfl, ha, fun i x hx => ?_⟩
  obtain ⟨b, o, rfl, h1⟩ := hc i x hx
  exact ⟨b, o, rfl, (hb.cell (p := ⟨b, o + i, none⟩) (World.block_lt_of_cell? w _ h1)).trans h1⟩
theorem TextsAt.nil (w : World) : TextsAt w (.slice none 0 0) [] := ⟨none, 0, rfl, fun _ => rfl, fun i x h => by simp at h⟩
def strs (xs : List ByteArray) : List Value := xs.map Value.string
theorem strs_length (xs : List ByteArray) : (strs xs).length = xs.length := by simp [strs]
theorem strs_append (a b : List ByteArray) : strs (a ++ b) = strs a ++ strs b := by simp [strs]
theorem row_cell {W : World} {base e size n : Nat} {g cap : Nat} {xs : List Value} (h : W.ownsRow base e size (.slice (some ⟨g, 0, none⟩) n cap) n xs) (j : Nat) (u : Value) (hu : xs[j]? = some u) : W.cell? ⟨g, j, none⟩ = some u := by
  rcases h.2 with ⟨hv, _⟩ | ⟨g', cap', cur, hv, _, hg, _, _, _, hx⟩
  · cases hv
  · cases hv
    have hj : j < xs.length := (List.getElem?_eq_some_iff.1 hu).1
    have h2 : cur[j]? = some u := by
      rw [← Array.getElem?_toList]
      have h3 : (cur.toList.take xs.length)[j]? = some u := by rw [h.1, hx]; exact hu
      rwa [List.getElem?_take, if_pos hj] at h3
    simp [World.cell?, hg, h2]
theorem TextsAt.own {w : World} {B : Nat} {v : Value} {l : List ByteArray} (h : w.ownsRow B 9 1 v l.length (strs l)) : TextsAt w v l := by
  have h2 := h
  rcases h.2 with ⟨hv, h0⟩ | ⟨g, cap, cur, hv, _⟩
  · subst hv
    obtain rfl : l = [] := List.length_eq_zero_iff.1 h0
    exact TextsAt.nil w
  · subst hv
    exact ⟨_, _, rfl, (fun e => nomatch e), fun i x hx => ⟨g, 0, rfl, by rw [Nat.zero_add]; exact row_cell h2 i _ (by simp [strs, hx])⟩⟩
/-- How much a list of texts weighs. -/
def wt (l : List ByteArray) : Nat := (l.map fun x => x.size + 1).sum
theorem wt_append (a b : List ByteArray) : wt (a ++ b) = wt a + wt b := by simp [wt]
theorem wt_take_succ (l : List ByteArray) (k : Nat) (x : ByteArray) (h : l[k]? = some x) : wt (l.take (k + 1)) = wt (l.take k) + x.size + 1 := by
  rw [List.take_add_one, h, wt_append]; simp [wt]; omega
theorem wt_take_le (l : List ByteArray) (k : Nat) : wt (l.take k) ≤ wt l := by
  conv => rhs; rw [← List.take_append_drop k l, wt_append]
  omega
theorem length_wt (l : List ByteArray) : l.length ≤ wt l := by
  induction l with
  | nil => simp [wt]
  | cons x l ih => simp [wt] at ih ⊢; omega
theorem size_wt {l : List ByteArray} {x : ByteArray} (h : x ∈ l) : x.size + 1 ≤ wt l := by
  obtain ⟨a, b, rfl⟩ := List.append_of_mem h
  rw [wt_append]; simp [wt]; omega

theorem str_info : (Tryz.prog.info? 9).map (fun i => (i.zero, i.size, i.bytes)) = some (some (.string ⟨#[]⟩), 1, 16) := by kernel_rfl
end Go.Proofs.YtjgijbeedgggdaaGreatDoor

namespace Go.Proofs.YtjgijbeedgggdaaGreatDoor
open Go Go.RowKit

theorem trimR_13 (x : Ln) : trimR (x ++ [13]) = trimR x := by
  unfold trimR
  rw [List.reverse_append]
  show (([13] ++ x.reverse).dropWhile (· == 13)).reverse = _
  rw [List.singleton_append, List.dropWhile_cons_of_pos (p := fun b : UInt8 => b == 13) (by decide)]
theorem trimR_end (x : Ln) (b : UInt8) (h : b ≠ 13) : trimR (x ++ [b]) = x ++ [b] := by
  unfold trimR
  rw [List.reverse_append]
  show (([b] ++ x.reverse).dropWhile (· == 13)).reverse = _
  rw [List.singleton_append, List.dropWhile_cons_of_neg (p := fun b : UInt8 => b == 13) (by simp [h])]
  simp
theorem seg_snoc (x : Ln) (fr e : Nat) (b : UInt8) (h : x[e]? = some b) (hf : fr ≤ e) : (x.take (e + 1)).drop fr = (x.take e).drop fr ++ [b] := by
  have he := (List.getElem?_eq_some_iff.1 h).1
  rw [List.take_add_one, h, List.drop_append_of_le_length (by rw [List.length_take]; omega)]; rfl
theorem own_ge' {W : World} {base e size k : Nat} {v : Value} {xs : List Value} (h : W.ownsRow base e size v k xs) : ∀ j, some j = v.ownBlock → base ≤ j := by
  intro j hj
  rcases h.2 with ⟨rfl, _⟩ | ⟨g, cap, cur, rfl, hg, hgb, _⟩
  · simp [Value.ownBlock] at hj
  · simp [Value.ownBlock] at hj; subst hj; exact hg
theorem cell_one'' (w : World) (x : Value) (t : TypeId) : ∀ (j : Nat) u, [x][j]? = some u → (w.alloc (.cells #[x] t)).cell? ((⟨w.heap.size, 0, none⟩ : Addr).add j) = some u := by
  intro j u hj
  rcases j with _ | j
  · simp at hj; subst hj; simp [Addr.add]
  · simp at hj
def CutI (s : Ln) (i fr : Nat) (out : List Ln) : Prop :=
  (i ≤ s.length ∧ fr ≤ i ∧ cutL s = out ++ (segsG ((s.take i).drop fr) (s.drop i)).map trimR) ∨ (i = s.length + 1 ∧ cutL s = out)
theorem CutI.start (s : Ln) : CutI s 0 0 [] := .inl ⟨Nat.zero_le _, Nat.le_refl _, by simp [cutL]⟩
theorem CutI.on {s : Ln} {i fr : Nat} {out : List Ln} {b : UInt8} (h : CutI s i fr out) (hb : s[i]? = some b) (h10 : b ≠ 10) : CutI s (i + 1) fr out := by
  have hi := (List.getElem?_eq_some_iff.1 hb).1
  rcases h with ⟨h1, h2, h3⟩ | ⟨h1, _⟩
  · refine .inl ⟨by omega, by omega, ?_⟩
    rw [h3, seg_snoc s fr i b hb h2]
    have : s.drop i = b :: s.drop (i + 1) := by
      rw [List.drop_eq_getElem_cons hi]; congr 1
      rw [List.getElem?_eq_getElem hi] at hb; exact Option.some.inj hb
    rw [this, segsG, if_neg h10]
  · omega
theorem CutI.cut {s : Ln} {i fr : Nat} {out : List Ln} (h : CutI s i fr out) (hb : s[i]? = some 10) : CutI s (i + 1) (i + 1) (out ++ [trimR ((s.take i).drop fr)]) := by
  have hi := (List.getElem?_eq_some_iff.1 hb).1
  rcases h with ⟨h1, h2, h3⟩ | ⟨h1, _⟩
  · refine .inl ⟨by omega, Nat.le_refl _, ?_⟩
    have : s.drop i = 10 :: s.drop (i + 1) := by
      rw [List.drop_eq_getElem_cons hi]; congr 1
      rw [List.getElem?_eq_getElem hi] at hb; exact Option.some.inj hb
    have hz : (s.take (i + 1)).drop (i + 1) = [] := List.drop_of_length_le (by rw [List.length_take]; omega)
    rw [h3, this, segsG, if_pos rfl, hz]
    simp
  · omega
theorem CutI.last {s : Ln} {fr : Nat} {out : List Ln} (h : CutI s s.length fr out) (hf : fr < s.length) : CutI s (s.length + 1) (s.length + 1) (out ++ [trimR ((s.take s.length).drop fr)]) := by
  rcases h with ⟨h1, h2, h3⟩ | ⟨h1, _⟩
  · refine .inr ⟨rfl, ?_⟩
    rw [h3, List.drop_length, segsG, if_neg (fun e => by have := congrArg List.length e; rw [List.length_drop, List.length_take, List.length_nil] at this; omega)]
    rfl
  · omega
theorem CutI.none {s : Ln} {out : List Ln} (h : CutI s s.length s.length out) : CutI s (s.length + 1) s.length out := by
  rcases h with ⟨h1, h2, h3⟩ | ⟨h1, _⟩
  · refine .inr ⟨rfl, ?_⟩
    rw [h3, List.drop_length, List.drop_of_length_le (by rw [List.length_take]; omega)]
    simp [segsG]
  · omega
theorem CutI.bound {s : Ln} {i fr : Nat} {out : List Ln} (h : CutI s i fr out) (hi : i ≤ s.length) : fr ≤ i := by
  rcases h with ⟨_, h2, _⟩ | ⟨h1, _⟩
  · exact h2
  · omega
set_option maxRecDepth 100000 in
set_option maxHeartbeats 4000000 in
theorem cut_r (s : ByteArray) (w : World) (hs : s.size ≤ 1073741824) : Calls Tryz.prog 24 #[.string s] w fun e w' => ∃ v, e = .returned v ∧ w'.ownsRow w.heap.size 9 1 v (cutL (un s)).length (strs ((cutL (un s)).map bs)) ∧ Below w.heap.size w w' := by
  obtain ⟨i0, hi, z0, z1, z2⟩ := info_parts str_info
  have hsl := un_length s
  go_enter Tryz.func24, Tryz.ntmps24
  go_wp2
  go_loopw [3, 4, 5, 6] (fun v fv iv _ wr => ∃ (i fr : Nat) (out : List Ln), iv = .int .i64 i ∧ fv = .int .i64 fr ∧ i ≤ s.size + 1 ∧ fr ≤ s.size + 1 ∧ out.length ≤ i ∧ Hid (CutI (un s) i fr out) ∧ wr.ownsRow w.heap.size 9 1 v out.length (strs (out.map bs)) ∧ Below w.heap.size w wr) (fun _ _ iv _ _ => s.size + 1 - (intOf iv).toNat)
  case atStart => exact ⟨0, 0, [], rfl, rfl, by omega, by omega, Nat.le_refl _, CutI.start _, World.ownsRow_nil _ _ _ _, Below.refl _ _⟩
  case round =>
    obtain ⟨i, fr, out, rfl, rfl, hi1, hf1, hol, HI, hown, hB⟩ := hrel
    have hsz := hB.size
    have k0 : (0 : Int) ≤ (i : Int) := by omega
    by_cases hle : i ≤ s.size
    rotate_left
    · have k1 : ¬ (i : Int) ≤ (s.size : Int) := by omega
      have HE : Hid (cutL (un s) = out) := by
        rcases HI.out with ⟨h, _⟩ | ⟨_, h⟩
        · omega
        · exact h
      go_wp2
      go_ret
      exact ⟨_, rfl, by rw [HE.out]; exact hown, hB⟩
    have k1 : (i : Int) ≤ (s.size : Int) := by omega
    have hfr := HI.out.bound (by omega)
    by_cases hstep : (∃ h : i < s.size, s[i] ≠ 10) ∨ (i = s.size ∧ fr = i)
    · rcases hstep with ⟨hlt, h10⟩ | ⟨hi2, hf2⟩
      · have hget := un_getElem? s i hlt
        have q1 : ((s[i].toNat : Int) != 10) = true := by
          unfold bne; rw [show ((s[i].toNat : Int) == 10) = decide (s[i] = 10) from beq_b8 _ 10 (by decide), decide_eq_false h10]; rfl
        have k2 : (i : Int) < (s.size : Int) := by omega
        have HI2 : Hid (CutI (un s) (i + 1) fr out) := HI.out.on hget h10
        clear hget h10 HI
        go_wp2
        first
          | exact ⟨⟨i + 1, fr, out, by go_num, rfl, by omega, hf1, by omega, HI2, hown, hB⟩, by simp [intOf]; omega⟩
          | (go_roundw
             case rel => exact ⟨i + 1, fr, out, by go_num, rfl, by omega, hf1, by omega, HI2, hown, hB⟩
             case measure => simp [intOf]; omega)
      · subst hf2
        subst hi2
        have k2 : ¬ (s.size : Int) < (s.size : Int) := by omega
        have q1 : ((s.size : Int) == (s.size : Int)) = true := by simp
        have HI2 : Hid (CutI (un s) (s.size + 1) s.size out) := by have := HI.out; unfold Hid; rw [← hsl] at this ⊢; exact this.none
        clear HI
        go_wp2
        first
          | exact ⟨⟨s.size + 1, s.size, out, by go_num, rfl, by omega, hf1, by omega, HI2, hown, hB⟩, by simp [intOf]⟩
          | (go_roundw
             case rel => exact ⟨s.size + 1, s.size, out, by go_num, rfl, by omega, hf1, by omega, HI2, hown, hB⟩
             case measure => simp [intOf])
    · have HI2 : Hid (CutI (un s) (i + 1) (i + 1) (out ++ [trimR (((un s).take i).drop fr)])) := by
        by_cases hlt : i < s.size
        · have h10 : s[i] = 10 := Classical.byContradiction (fun h => hstep (.inl ⟨hlt, h⟩))
          exact HI.out.cut (by rw [un_getElem? s i hlt, h10])
        · have : i = (un s).length := by omega
          subst this
          exact HI.out.last (by
            rcases Nat.lt_or_ge fr (un s).length with h | h
            · exact h
            · exact absurd (.inr ⟨by omega, by omega⟩) hstep)
      have tl : ∀ e, fr ≤ e → e ≤ i → Hid (trimR (((un s).take e).drop fr) = trimR (((un s).take i).drop fr)) → (e = fr ∨ ∃ (m : Nat) (b : UInt8), e = m + 1 ∧ (un s)[m]? = some b ∧ b ≠ 13 ∧ fr ≤ m) → Hid (s.extract fr e = bs (trimR (((un s).take i).drop fr))) := by
        intro e he1 he2 he3 he4
        unfold Hid
        rw [← he3.out]
        apply un_inj
        rw [un_extract, un_bs]
        rcases he4 with rfl | ⟨m, b, rfl, hb, h13, hm⟩
        · rw [List.drop_of_length_le (by rw [List.length_take]; omega)]; rfl
        · rw [seg_snoc (un s) fr m b hb hm, trimR_end _ _ h13]
      have TL : Hid _ := tl
      clear tl
      have main : ∀ (q : Bool), True := fun _ => trivial
      by_cases hlt : i < s.size
      · have h10 : s[i] = 10 := Classical.byContradiction (fun h => hstep (.inl ⟨hlt, h⟩))
        have q1 : ((s[i].toNat : Int) != 10) = false := by
          unfold bne; rw [show ((s[i].toNat : Int) == 10) = decide (s[i] = 10) from beq_b8 _ 10 (by decide), decide_eq_true h10]; rfl
        have k2 : (i : Int) < (s.size : Int) := by omega
        have q2 : ((i : Int) == (s.size : Int)) = false := by simp; omega
        clear h10 hstep HI main
        go_wp2
        go_loopw [6] (fun ev wr2 => ∃ e : Nat, ev = .int .i64 e ∧ fr ≤ e ∧ e ≤ i ∧ Hid (trimR (((un s).take e).drop fr) = trimR (((un s).take i).drop fr)) ∧ wr2 = wr) (fun ev _ => (intOf ev).toNat)
        case atStart => exact ⟨i, rfl, hfr, Nat.le_refl _, rfl, rfl⟩
        case round =>
          rename_i wz
          obtain ⟨e, rfl, he1, he2, HT, hwr⟩ := hrel
          subst hwr
          have j1 : (0 : Int) ≤ (fr : Int) := by omega
          have j2 : (fr : Int) ≤ (e : Int) := by omega
          have j3 : (e : Int) ≤ (s.size : Int) := by omega
          by_cases hef : fr < e
          · obtain ⟨m, rfl⟩ : ∃ m, e = m + 1 := ⟨e - 1, by omega⟩
            have hm : m < s.size := by omega
            have hgm := un_getElem? s m hm
            have e1 : (((m + 1 : Nat) : Int) - 1) = (m : Int) := by omega
            have j4 : (fr : Int) < ((m + 1 : Nat) : Int) := by omega
            have j5 : (0 : Int) ≤ (m : Int) := by omega
            have j6 : (m : Int) < (s.size : Int) := by omega
            have q3 : ((s[m].toNat : Int) == 13) = decide (s[m] = 13) := beq_b8 _ 13 (by decide)
            by_cases h13 : s[m] = 13
            · rw [decide_eq_true h13] at q3
              have HT2 : Hid (trimR (((un s).take m).drop fr) = trimR (((un s).take i).drop fr)) := by
                unfold Hid
                rw [← HT.out, seg_snoc (un s) fr m 13 (by rw [hgm, h13]) (by omega), trimR_13]
              clear hgm h13 HT TL
              go_wp2
              first
                | exact ⟨⟨m, by go_num, by omega, by omega, HT2, by first | rfl | trivial⟩, by simp [intOf]⟩
                | (go_roundw
                   case rel => exact ⟨m, by go_num, by omega, by omega, HT2, by first | rfl | trivial⟩
                   case measure => simp [intOf])
            · rw [decide_eq_false h13] at q3
              have HE := TL.out (m + 1) he1 he2 HT (.inr ⟨m, s[m], rfl, hgm, h13, by omega⟩)
              clear hgm h13 HT TL
              go_wp2_with (at_builtin; refine wpList_append_own _ rfl _ _ 70 rfl w.heap.size 9 i0 (.string ⟨#[]⟩) 1 16 Tryz.underlying70 hi z0 z1 z2 rfl (by decide) _ _ _ rfl (hown.alloc _) ⟨wr.heap.size, 0, none⟩ 1 1 [.string (s.extract fr (m + 1))] rfl rfl (cell_one'' _ _ _) (by simp [Value.oneCell']) (by unfold maxLen; omega) (by omega) (by simp; omega) ?_; intro v1 w1 hown1 hgrow1 _)
              have hb1 : Below w.heap.size w w1 := (hB.alloc hsz _).grown hgrow1 (by simp; omega) (fun j hj => own_ge' hown j hj.symm)
              have hfin : w1.ownsRow w.heap.size 9 1 v1 (out ++ [trimR (((un s).take i).drop fr)]).length (strs ((out ++ [trimR (((un s).take i).drop fr)]).map bs)) := by
                rw [List.map_append, strs_append, List.length_append, List.map_cons, ← HE.out]; exact hown1
              first
                | exact ⟨⟨i + 1, i + 1, _, by go_num, by go_num, by omega, by omega, by rw [List.length_append]; simp; omega, HI2, hfin, hb1⟩, by simp [intOf]; omega⟩
                | (go_roundw
                   case rel => exact ⟨i + 1, i + 1, _, by go_num, by go_num, by omega, by omega, by rw [List.length_append]; simp; omega, HI2, hfin, hb1⟩
                   case measure => simp [intOf]; omega)
          · obtain rfl : e = fr := by omega
            have HE := TL.out e he1 he2 HT (.inl rfl)
            have HEE : Hid (s.extract e e = ByteArray.empty) := by
              unfold Hid
              apply un_inj
              rw [un_extract, List.drop_of_length_le (by rw [List.length_take]; omega)]; rfl
            have j4 : ¬ (e : Int) < (e : Int) := by omega
            clear HT TL
            go_wp2_with (at_builtin; refine wpList_append_own _ rfl _ _ 70 rfl w.heap.size 9 i0 (.string ⟨#[]⟩) 1 16 Tryz.underlying70 hi z0 z1 z2 rfl (by decide) _ _ _ rfl (hown.alloc _) ⟨wr.heap.size, 0, none⟩ 1 1 [.string ByteArray.empty] rfl rfl (cell_one'' _ _ _) (by simp [Value.oneCell']) (by unfold maxLen; omega) (by omega) (by simp; omega) ?_; intro v1 w1 hown1 hgrow1 _)
            have hb1 : Below w.heap.size w w1 := (hB.alloc hsz _).grown hgrow1 (by simp; omega) (fun j hj => own_ge' hown j hj.symm)
            have hfin : w1.ownsRow w.heap.size 9 1 v1 (out ++ [trimR (((un s).take i).drop e)]).length (strs ((out ++ [trimR (((un s).take i).drop e)]).map bs)) := by
              rw [List.map_append, strs_append, List.length_append, List.map_cons, ← HE.out, HEE.out]; exact hown1
            first
              | exact ⟨⟨i + 1, i + 1, _, by go_num, by go_num, by omega, by omega, by rw [List.length_append]; simp; omega, HI2, hfin, hb1⟩, by simp [intOf]; omega⟩
              | (go_roundw
                 case rel => exact ⟨i + 1, i + 1, _, by go_num, by go_num, by omega, by omega, by rw [List.length_append]; simp; omega, HI2, hfin, hb1⟩
                 case measure => simp [intOf]; omega)
      · obtain rfl : i = s.size := by omega
        have hff : fr < s.size := by
          rcases Nat.lt_or_ge fr s.size with h | h
          · exact h
          · exact absurd (.inr ⟨rfl, by omega⟩) hstep
        have k2 : ¬ (s.size : Int) < (s.size : Int) := by omega
        have q2 : ((s.size : Int) == (s.size : Int)) = true := by simp
        have q3 : ((fr : Int) == (s.size : Int)) = false := by simp; omega
        clear hstep HI main
        go_wp2
        go_loopw [6] (fun ev wr2 => ∃ e : Nat, ev = .int .i64 e ∧ fr ≤ e ∧ e ≤ s.size ∧ Hid (trimR (((un s).take e).drop fr) = trimR (((un s).take s.size).drop fr)) ∧ wr2 = wr) (fun ev _ => (intOf ev).toNat)
        case atStart => exact ⟨s.size, rfl, hfr, Nat.le_refl _, rfl, rfl⟩
        case round =>
          rename_i wz
          obtain ⟨e, rfl, he1, he2, HT, hwr⟩ := hrel
          subst hwr
          have j1 : (0 : Int) ≤ (fr : Int) := by omega
          have j2 : (fr : Int) ≤ (e : Int) := by omega
          have j3 : (e : Int) ≤ (s.size : Int) := by omega
          by_cases hef : fr < e
          · obtain ⟨m, rfl⟩ : ∃ m, e = m + 1 := ⟨e - 1, by omega⟩
            have hm : m < s.size := by omega
            have hgm := un_getElem? s m hm
            have e1 : (((m + 1 : Nat) : Int) - 1) = (m : Int) := by omega
            have j4 : (fr : Int) < ((m + 1 : Nat) : Int) := by omega
            have j5 : (0 : Int) ≤ (m : Int) := by omega
            have j6 : (m : Int) < (s.size : Int) := by omega
            have q4 : ((s[m].toNat : Int) == 13) = decide (s[m] = 13) := beq_b8 _ 13 (by decide)
            by_cases h13 : s[m] = 13
            · rw [decide_eq_true h13] at q4
              have HT2 : Hid (trimR (((un s).take m).drop fr) = trimR (((un s).take s.size).drop fr)) := by
                unfold Hid
                rw [← HT.out, seg_snoc (un s) fr m 13 (by rw [hgm, h13]) (by omega), trimR_13]
              clear hgm h13 HT TL
              go_wp2
              first
                | exact ⟨⟨m, by go_num, by omega, by omega, HT2, by first | rfl | trivial⟩, by simp [intOf]⟩
                | (go_roundw
                   case rel => exact ⟨m, by go_num, by omega, by omega, HT2, by first | rfl | trivial⟩
                   case measure => simp [intOf])
            · rw [decide_eq_false h13] at q4
              have HE := TL.out (m + 1) he1 he2 HT (.inr ⟨m, s[m], rfl, hgm, h13, by omega⟩)
              clear hgm h13 HT TL
              go_wp2_with (at_builtin; refine wpList_append_own _ rfl _ _ 70 rfl w.heap.size 9 i0 (.string ⟨#[]⟩) 1 16 Tryz.underlying70 hi z0 z1 z2 rfl (by decide) _ _ _ rfl (hown.alloc _) ⟨wr.heap.size, 0, none⟩ 1 1 [.string (s.extract fr (m + 1))] rfl rfl (cell_one'' _ _ _) (by simp [Value.oneCell']) (by unfold maxLen; omega) (by omega) (by simp; omega) ?_; intro v1 w1 hown1 hgrow1 _)
              have hb1 : Below w.heap.size w w1 := (hB.alloc hsz _).grown hgrow1 (by simp; omega) (fun j hj => own_ge' hown j hj.symm)
              have hfin : w1.ownsRow w.heap.size 9 1 v1 (out ++ [trimR (((un s).take s.size).drop fr)]).length (strs ((out ++ [trimR (((un s).take s.size).drop fr)]).map bs)) := by
                rw [List.map_append, strs_append, List.length_append, List.map_cons, ← HE.out]; exact hown1
              first
                | exact ⟨⟨s.size + 1, s.size + 1, _, by go_num, by go_num, by omega, by omega, by rw [List.length_append]; simp; omega, HI2, hfin, hb1⟩, by simp [intOf]⟩
                | (go_roundw
                   case rel => exact ⟨s.size + 1, s.size + 1, _, by go_num, by go_num, by omega, by omega, by rw [List.length_append]; simp; omega, HI2, hfin, hb1⟩
                   case measure => simp [intOf])
          · obtain rfl : e = fr := by omega
            have HE := TL.out e he1 he2 HT (.inl rfl)
            have HEE : Hid (s.extract e e = ByteArray.empty) := by
              unfold Hid
              apply un_inj
              rw [un_extract, List.drop_of_length_le (by rw [List.length_take]; omega)]; rfl
            have j4 : ¬ (e : Int) < (e : Int) := by omega
            clear HT TL
            go_wp2_with (at_builtin; refine wpList_append_own _ rfl _ _ 70 rfl w.heap.size 9 i0 (.string ⟨#[]⟩) 1 16 Tryz.underlying70 hi z0 z1 z2 rfl (by decide) _ _ _ rfl (hown.alloc _) ⟨wr.heap.size, 0, none⟩ 1 1 [.string ByteArray.empty] rfl rfl (cell_one'' _ _ _) (by simp [Value.oneCell']) (by unfold maxLen; omega) (by omega) (by simp; omega) ?_; intro v1 w1 hown1 hgrow1 _)
            have hb1 : Below w.heap.size w w1 := (hB.alloc hsz _).grown hgrow1 (by simp; omega) (fun j hj => own_ge' hown j hj.symm)
            have hfin : w1.ownsRow w.heap.size 9 1 v1 (out ++ [trimR (((un s).take s.size).drop e)]).length (strs ((out ++ [trimR (((un s).take s.size).drop e)]).map bs)) := by
              rw [List.map_append, strs_append, List.length_append, List.map_cons, ← HE.out, HEE.out]; exact hown1
            first
              | exact ⟨⟨s.size + 1, s.size + 1, _, by go_num, by go_num, by omega, by omega, by rw [List.length_append]; simp; omega, HI2, hfin, hb1⟩, by simp [intOf]⟩
              | (go_roundw
                 case rel => exact ⟨s.size + 1, s.size + 1, _, by go_num, by go_num, by omega, by omega, by rw [List.length_append]; simp; omega, HI2, hfin, hb1⟩
                 case measure => simp [intOf])
end Go.Proofs.YtjgijbeedgggdaaGreatDoor

namespace Go.Proofs.YtjgijbeedgggdaaGreatDoor
open Go Go.RowKit

def addE (ec : UInt8) : Except Flt (List LL) → Except Flt (UInt8 × List LL)
  | .error x => .error x
  | .ok ls => .ok (ec, ls)
theorem lexL_ck (s : Ln) : lexL s = (match ckL s with
    | some x => .error x
    | none => match dirsL (cutL s) with
        | .error x => .error x
        | .ok (i, e) => match linesG e (cutL s) ((cutL s).length + 1) i with
          | .error x => .error x
          | .ok ls => .ok (e, ls)) := by
  unfold lexL ckL
  by_cases h1 : 65536 < s.length
  · rw [if_pos h1, if_pos h1]
  · rw [if_neg h1, if_neg h1]
    cases wrongU s.length s 1 1 with
    | some p => rfl
    | none =>
      simp only
      by_cases h2 : 4096 < (cutL s).length
      · rw [if_pos h2, if_pos h2]
      · rw [if_neg h2, if_neg h2]
        rfl
theorem ck_none {s : Ln} (h : ckL s = none) : s.length ≤ 65536 ∧ (cutL s).length ≤ 4096 := by
  unfold ckL at h
  by_cases h1 : 65536 < s.length
  · rw [if_pos h1] at h; cases h
  · rw [if_neg h1] at h
    cases hw : wrongU s.length s 1 1 with
    | some p => rw [hw] at h; cases h
    | none =>
      rw [hw] at h
      simp only at h
      by_cases h2 : 4096 < (cutL s).length
      · rw [if_pos h2] at h; cases h
      · omega
theorem dirs_facts (f : List Ln) (k : Nat) (ec : UInt8) (h : dirsL f = .ok (k, ec)) : (ec = 92 ∨ ec = 96) ∧ k ≤ f.length := by
  unfold dirsL at h
  cases f with
  | nil => cases h; exact ⟨.inl rfl, by simp⟩
  | cons x r =>
    simp only at h
    cases hd : dirAt x with
    | none => rw [hd] at h; cases h; exact ⟨.inl rfl, by simp⟩
    | some a =>
      rw [hd] at h
      simp only at h
      split at h
      · rename_i hv
        have he : ((trimL (x.drop (a + 1))).headD 92 = 92 ∨ (trimL (x.drop (a + 1))).headD 92 = 96) := by
          rcases hv with e | e <;> rw [e]
          · exact .inl rfl
          · exact .inr rfl
        cases r with
        | nil => cases h; exact ⟨he, by simp⟩
        | cons y r =>
          simp only at h
          split at h
          · cases h
          · cases h; exact ⟨he, by simp⟩
      · cases h
theorem ErrType.belowE {w w' : World} (h : ErrType w) (hb : Below w.heap.size w w') : ErrType w' := cell_belowE hb h
/-- What Lines answers. -/
def LinesP (s : Ln) (w : World) (e : Ending) (w' : World) : Prop := Below w.heap.size w w' ∧ (match lexL s with
  | .error (no, l, a) => e = .returned (.tuple #[.int .u8 0, nilS, fltV no l a])
  | .ok (ec, ls) => ∃ v us, e = .returned (.tuple #[.int .u8 ec.toNat, v, .nilIface]) ∧ LnsAt w' w.heap.size v us ls)
set_option maxRecDepth 100000 in
set_option maxHeartbeats 1000000 in
theorem lines_p (s : ByteArray) (w : World) (hT : Tabs w) (hE : ErrType w) : Calls Tryz.prog 10 #[.string s] w (LinesP (un s) w) := by
  have hck := checkSource_p s w (fun W hW => hT.below hW)
  have HL : Hid (lexL (un s) = _) := lexL_ck (un s)
  cases hc : ckL (un s) with
  | some x =>
    obtain ⟨no, l, a⟩ := x
    rw [hc] at hck
    simp only [ckV] at hck
    have HR : Hid (lexL (un s) = .error (no, l, a)) := by unfold Hid; rw [HL.out, hc]
    clear hc HL
    go_enter Tryz.func10, Tryz.ntmps10
    go_wp2_with (go_at_call 39; refine hck.mono ?_; rintro e w1 ⟨rfl, b1⟩)
    go_ret3
    unfold LinesP
    rw [HR.out]
    exact ⟨b1, rfl⟩
  | none =>
    obtain ⟨h1, h2⟩ := ck_none hc
    rw [un_length] at h1
    rw [hc] at hck
    simp only [ckV] at hck
    have HL2 := HL.out
    rw [hc] at HL2
    replace HL2 : Hid _ := HL2
    clear hc HL
    go_enter Tryz.func10, Tryz.ntmps10
    go_wp2_with fail
    refine hck.mono ?_
    rintro e w1 ⟨rfl, b1⟩
    clear hck
    have LA := Lies.new w1 93 #[.string ⟨#[]⟩, .int .i64 0, .int .i64 0]
    have LA1 : Rd ((w1.alloc (.cells #[.string ⟨#[]⟩, .int .i64 0, .int .i64 0] 93)).setRow w1.heap.size #[.string s, .int .i64 0, .int .i64 0]) w1.heap.size s 0 0 := lies_setRow LA _
    have b2 : Below w1.heap.size w1 ((w1.alloc (.cells #[.string ⟨#[]⟩, .int .i64 0, .int .i64 0] 93)).setRow w1.heap.size #[.string s, .int .i64 0, .int .i64 0]) := below_setRow' ((Below.refl _ w1).alloc (Nat.le_refl _) _) (Nat.le_refl _) _
    have B2 := below_join b1 b2
    have hne : w.heap.size ≤ w1.heap.size := b1.size
    generalize hw2 : (w1.alloc (.cells #[.string ⟨#[]⟩, .int .i64 0, .int .i64 0] 93)).setRow w1.heap.size #[.string s, .int .i64 0, .int .i64 0] = w2 at *
    have hlt2 : w1.heap.size < w2.heap.size := Lies.lt LA1
    have hof : ∀ W, Oth w1.heap.size w2 W → Below w.heap.size w W := fun W hW => B2.trans (hW.below hne (by omega))
    have hDr := directives_p eqf w1.heap.size s w2 LA1 (fun W hW => hT.below (hof W hW)) (by omega)
    go_wp2_with (refine wpList_store_row rfl 93 (.tmp 6) (.tmp 17) rfl w1.heap.size #[.string s, .int .i64 0, .int .i64 0] rfl rfl 93 _ LA rd_size rfl (rd_one _ _ _) ?_; rw [hw2])
    refine hDr.mono ?_
    rintro e w3 ⟨o3, hway⟩
    clear hDr
    cases hd : dirsL (cutL (un s)) with
    | error x =>
      obtain ⟨no, l, a⟩ := x
      rw [hd] at hway
      simp only at hway
      subst hway
      have B3 := hof w3 o3
      have HR : Hid (lexL (un s) = .error (no, l, a)) := by unfold Hid; rw [HL2.out]; simp only [hd]
      clear HL2 hd
      go_wp2
      go_ret3
      unfold LinesP
      rw [HR.out]
      exact ⟨B3, rfl⟩
    | ok x =>
      obtain ⟨k, ec⟩ := x
      obtain ⟨d1, d2⟩ := dirs_facts _ k ec hd
      rw [hd] at hway
      simp only at hway
      obtain ⟨rfl, q, rd3, st3⟩ := hway
      obtain ⟨r, hr⟩ : ∃ r, linesG ec (cutL (un s)) ((cutL (un s)).length + 1) k = r := ⟨_, rfl⟩
      have hAl := all_p eqf w1.heap.size s q k ec w3 (fun W hW => hT.below (hof W (o3.trans hW))) (fun W hW => hE.belowE (hof W (o3.trans hW))) rd3 st3 (by rcases d1 with rfl | rfl <;> rfl) (by omega) (by omega) d2 r hr
      have HL3 : Hid (lexL (un s) = addE ec r) := by unfold Hid; rw [HL2.out]; simp only [hd, hr]; cases r <;> rfl
      clear d1 hd HL2
      go_wp2_with fail
      refine hAl.mono ?_
      rintro e w4 ⟨o4, hway⟩
      clear hAl hr
      have B4 := hof w4 (o3.trans o4)
      cases r with
      | error x =>
        obtain ⟨no, l, a⟩ := x
        simp only at hway
        subst hway
        have HR : Hid (lexL (un s) = .error (no, l, a)) := HL3
        clear HL3
        go_wp2
        go_ret3
        unfold LinesP
        rw [HR.out]
        exact ⟨B4, rfl⟩
      | ok ls =>
        simp only at hway
        obtain ⟨v, us, rfl, hv⟩ := hway
        have hb : w.heap.size ≤ w3.heap.size := by have := o3.size; omega
        have hv2 : LnsAt w4 w.heap.size v us ls := ⟨hv.len, row_lower2 hv.own hb, fun i x p a b => row_lower2 (hv.marks i x p a b) hb, fun i x p a b => row_lower2 (hv.docs i x p a b) hb⟩
        have HR : Hid (lexL (un s) = .ok (ec, ls)) := HL3
        clear HL3 hv
        go_wp2
        go_ret3
        unfold LinesP
        rw [HR.out]
        exact ⟨B4, v, us, rfl, hv2⟩
end Go.Proofs.YtjgijbeedgggdaaGreatDoor

namespace Go.Proofs.YtjgijbeedgggdaaGreatDoor
open Go Go.RowKit

theorem at_nil (l a : Int) (w : World) : Calls Tryz.prog 11 #[.nilIface, .int .i64 0, .int .i64 l, .int .i64 a] w fun e w' => e = .returned (.bool true) ∧ w' = w := by
  go_enter Tryz.func11, Tryz.ntmps11
  go_wp2
  go_ret
  exact ⟨rfl, rfl⟩
theorem num_nil' (w : World) : Calls Tryz.prog 12 #[.nilIface] w fun e w' => e = .returned (.int .i64 0) ∧ w' = w := by
  go_enter Tryz.func12, Tryz.ntmps12
  go_wp2
  go_ret
  exact ⟨rfl, rfl⟩
end Go.Proofs.YtjgijbeedgggdaaGreatDoor

namespace Go.Proofs.YtjgijbeedgggdaaGreatDoor
open Go Go.RowKit

structure LnC (W : World) (b q : Nat) (x : LL) (p : Value × Value) : Prop where
  c0 : W.cell? ⟨b, q, none⟩ = some (.int .i64 x.line)
  c1 : W.cell? ⟨b, q + 1, none⟩ = some (.string (bs x.text))
  c2 : W.cell? ⟨b, q + 2, none⟩ = some p.1
  c3 : W.cell? ⟨b, q + 3, none⟩ = some p.2
theorem LnC.below {W W2 : World} {b q : Nat} {x : LL} {p : Value × Value} (h : LnC W b q x p) (hb : Below W.heap.size W W2) : LnC W2 b q x p :=
  ⟨cell_belowE hb h.c0, cell_belowE hb h.c1, cell_belowE hb h.c2, cell_belowE hb h.c3⟩
/-- A list of lines that is read. -/
def LnsR (W : World) (v : Value) (us : List (Value × Value)) (ls : List LL) : Prop :=
  ∃ (a : Option Addr) (cap b : Nat), v = .slice a ls.length cap ∧ (ls ≠ [] → a = some ⟨b, 0, none⟩) ∧ ls.length ≤ cap ∧ us.length = ls.length ∧ ∀ (i : Nat) x p, ls[i]? = some x → us[i]? = some p → LnC W b (i * 4) x p ∧ MksAt W p.1 (x.marks.map Mk.z) ∧ ∃ a' c', p.2 = .slice a' x.docs.length c'
theorem LnsR.below {W W2 : World} {v : Value} {us : List (Value × Value)} {ls : List LL} (h : LnsR W v us ls) (hb : Below W.heap.size W W2) : LnsR W2 v us ls := by
  obtain ⟨a, cap, b, h1, h2, h3, h4, h5⟩ := h
  exact ⟨a, cap, b, h1, h2, h3, h4, fun i x p hx hp => ⟨(h5 i x p hx hp).1.below hb, (h5 i x p hx hp).2.1.below hb, (h5 i x p hx hp).2.2⟩⟩
theorem lcells_get : ∀ (ls : List LL) (us : List (Value × Value)) (k : Nat) (x : LL) (p : Value × Value), ls[k]? = some x → us[k]? = some p → ∀ j v, (lcell x p)[j]? = some v → (lcells ls us)[k * 4 + j]? = some v
  | [], us, k, x, p, h, _, j, v, hj => by simp at h
  | y :: ls, [], k, x, p, _, h, j, v, hj => by simp at h
  | y :: ls, u :: us, 0, x, p, h, hp, j, v, hj => by
    simp at h hp; subst h; subst hp
    have hl := (List.getElem?_eq_some_iff.1 hj).1
    show (lcell y u ++ lcells ls us)[0 * 4 + j]? = some v
    rw [Nat.zero_mul, Nat.zero_add, List.getElem?_append_left hl]; exact hj
  | y :: ls, u :: us, k + 1, x, p, h, hp, j, v, hj => by
    show (lcell y u ++ lcells ls us)[(k + 1) * 4 + j]? = some v
    rw [List.getElem?_append_right (by show 4 ≤ _; omega), show (k + 1) * 4 + j - (lcell y u).length = k * 4 + j by show _ - 4 = _; omega]
    exact lcells_get ls us k x p (by simpa using h) (by simpa using hp) j v hj
theorem lns_read {W : World} {base : Nat} {v : Value} {us : List (Value × Value)} {ls : List LL} (h : LnsAt W base v us ls) : LnsR W v us ls := by
  have hmd : ∀ (i : Nat) x p, ls[i]? = some x → us[i]? = some p → MksAt W p.1 (x.marks.map Mk.z) ∧ ∃ a' c', p.2 = .slice a' x.docs.length c' := fun i x p hx hp => by
    refine ⟨mks_of_owns (h.marks i x p hx hp), ?_⟩
    rcases (h.docs i x p hx hp).2 with ⟨e, h0⟩ | ⟨g, cap, cur, e, _⟩
    · exact ⟨none, 0, by rw [e, h0]⟩
    · exact ⟨_, _, e⟩
  rcases h.own.2 with ⟨rfl, h0⟩ | ⟨g, cap, cur, rfl, hg, hgb, hcap, _⟩
  · have : ls = [] := List.eq_nil_of_length_eq_zero h0
    subst this
    exact ⟨none, 0, 0, rfl, fun h => absurd rfl h, Nat.le_refl _, h.len, fun i x p hx => by simp at hx⟩
  · refine ⟨some ⟨g, 0, none⟩, cap, g, rfl, fun _ => rfl, hcap, h.len, fun i x p hx hp => ⟨?_, hmd i x p hx hp⟩⟩
    have hi := (List.getElem?_eq_some_iff.1 hx).1
    have hc : ∀ j u, (lcell x p)[j]? = some u → W.cell? ⟨g, i * 4 + j, none⟩ = some u := fun j u hj => by
      have hj2 : j < 4 := (List.getElem?_eq_some_iff.1 hj).1
      rw [h.own.cellAt (i * 4 + j) (by omega)]
      exact lcells_get ls us i x p hx hp j u hj
    exact ⟨hc 0 _ rfl, hc 1 _ rfl, hc 2 _ rfl, hc 3 _ rfl⟩
theorem lines_ok (s : ByteArray) (ec : UInt8) (ls : List LL) (h : lexL (un s) = .ok (ec, ls)) (w : World) (hT : Tabs w) (hE : ErrType w) : Calls Tryz.prog 10 #[.string s] w fun e w' => ∃ v us, e = .returned (.tuple #[.int .u8 ec.toNat, v, .nilIface]) ∧ LnsAt w' w.heap.size v us ls ∧ Below w.heap.size w w' := by
  refine (lines_p s w hT hE).mono ?_
  rintro e w' ⟨hb, hw⟩
  rw [h] at hw
  obtain ⟨v, us, rfl, hv⟩ := hw
  exact ⟨v, us, rfl, hv, hb⟩
theorem lines_err (s : ByteArray) (no l a : Nat) (h : lexL (un s) = .error (no, l, a)) (w : World) (hT : Tabs w) (hE : ErrType w) : Calls Tryz.prog 10 #[.string s] w fun e w' => e = .returned (.tuple #[.int .u8 0, nilS, fltV no l a]) ∧ Below w.heap.size w w' := by
  refine (lines_p s w hT hE).mono ?_
  rintro e w' ⟨hb, hw⟩
  rw [h] at hw
  exact ⟨hw, hb⟩
abbrev kL : ByteArray := ⟨#[65, 32, 92, 10, 98, 10]⟩
abbrev kD : ByteArray := ⟨#[67, 79, 80, 89, 32, 60, 60, 69, 32, 100, 10]⟩
theorem known_l : lexL (un kL) = .ok (92, [⟨1, [65, 32, 98], [⟨0, 1, 1⟩, ⟨2, 2, 1⟩], []⟩]) := by kernel_rfl
theorem known_d : lexL (un kD) = .error (26, 1, 6) := by kernel_rfl
set_option maxRecDepth 100000 in
set_option maxHeartbeats 1000000 in
theorem works_l (w : World) (hT : Tabs w) (hE : ErrType w) : Calls Tryz.prog 16 #[] w fun e w' => e = .returned (.bool true) ∧ Below w.heap.size w w' := by
  have hA := lines_ok kL _ _ known_l w hT hE
  go_enter Tryz.func16, Tryz.ntmps16
  go_wp2_with fail
  refine hA.mono ?_
  rintro e w1 ⟨v, us, rfl, hv, b1⟩
  have hB := lines_err kD _ _ _ known_d w1 (hT.below b1) (hE.belowE b1)
  go_wp2_with fail
  refine hB.mono ?_
  rintro e w2 ⟨rfl, b2⟩
  have B2 := below_join b1 b2
  obtain ⟨a, cap, b, rfl, ha, hcap, hul, hx⟩ := (lns_read hv).below b2
  obtain rfl := ha (by simp)
  obtain ⟨p, hp⟩ : ∃ p, us[0]? = some p := by
    cases us with
    | nil => simp at hul
    | cons p us => exact ⟨p, rfl⟩
  have k1 : w2.cell? ⟨b, 1, none⟩ = some (.string ⟨#[65, 32, 98]⟩) := (hx 0 _ p rfl hp).1.c1
  have hAt := at_p 26 1 6 (by decide) (by decide) w2 (hE.belowE B2)
  clear hA hB hv hx hp
  go_wp2_with (go_at_call 11; refine hAt.mono ?_; rintro e w3 ⟨rfl, b3⟩)
  go_ret
  exact ⟨rfl, below_join B2 b3⟩
end Go.Proofs.YtjgijbeedgggdaaGreatDoor

namespace Go.Proofs.YtjgijbeedgggdaaGreatDoor
open Go Go.RowKit

theorem lines_small (ec : UInt8) (s : Ln) (hs : s.length ≤ 1099511627776) : ∀ (fu i : Nat) (ls : List LL), linesG ec (cutL s) fu i = .ok ls → ls.length ≤ (cutL s).length - i ∧ ∀ x ∈ ls, x.text.length ≤ s.length ∧ x.marks.length ≤ (cutL s).length ∧ x.line ≤ (cutL s).length ∧ ∀ m ∈ x.marks, m.pos ≤ 1099511627776 ∧ m.col ≤ 1099511627776
  | 0, i, ls, h => by cases h; simp
  | fu + 1, i, ls, h => by
    unfold linesG at h
    cases hx : (cutL s)[i]? with
    | none => rw [hx] at h; cases h; simp
    | some x =>
      have hi := (List.getElem?_eq_some_iff.1 hx).1
      rw [hx] at h
      simp only at h
      split at h
      · obtain ⟨b1, b2⟩ := lines_small ec s hs fu (i + 1) ls h
        exact ⟨by omega, b2⟩
      · obtain ⟨j1, j2, j3, j4, j5⟩ := join_small ec s i x hs hx _ rfl
        split at h
        · obtain ⟨b1, b2⟩ := lines_small ec s hs fu _ ls h
          exact ⟨by omega, b2⟩
        · split at h
          · cases h
          · rename_i ds j hds
            split at h
            · cases h
            · rename_i ls' hls
              cases h
              have hj := docsL_le _ _ _ _ _ _ _ _ hds
              obtain ⟨b1, b2⟩ := lines_small ec s hs fu j ls' hls
              refine ⟨by rw [List.length_cons]; omega, fun y hy => ?_⟩
              rcases List.mem_cons.1 hy with rfl | hy
              · exact ⟨j1, j2, by simp only; omega, j5⟩
              · exact b2 y hy
/-- What the walk asks of the lines. -/
structure PcsF (f : List Ln) (ls : List LL) : Prop where
  few : ls.length ≤ 4096
  line : ∀ (i : Nat) (x : LL), ls[i]? = some x → ∃ n : Nat, x.line = n + 1 ∧ n < 4096
  rise : ∀ (i : Nat) (x y : LL), ls[i]? = some x → ls[i + 1]? = some y → x.line < y.line
  text : ∀ (i : Nat) (x : LL), ls[i]? = some x → x.text.length ≤ 65536 ∧ x.marks.length ≤ 4096
  first : ∀ (i : Nat) (x : LL), ls[i]? = some x → ∀ q : Mk, x.marks[0]? = some q → x.line ≤ q.line
  next : ∀ (i : Nat) (x : LL), ls[i]? = some x → ∀ (k : Nat) (p q : Mk), x.marks[k]? = some p → x.marks[k + 1]? = some q → p.line < q.line
  place : ∀ (i : Nat) (x : LL), ls[i]? = some x → ∀ k : Nat, k < x.text.length → ∃ (L C : Nat) (y : Ln) (c : UInt8), placeL x.line x.text x.marks k = (L + 1, C + 1) ∧ f[L]? = some y ∧ y[C]? = some c ∧ x.text[k]? = some c
  col : ∀ (i : Nat) (x : LL), ls[i]? = some x → ∀ m ∈ x.marks, m.pos ≤ 1099511627776 ∧ m.col ≤ 1099511627776
theorem pair_next {α : Type} {R : α → α → Prop} {l : List α} (h : l.Pairwise R) (i : Nat) (x y : α) (hx : l[i]? = some x) (hy : l[i + 1]? = some y) : R x y := by
  obtain ⟨h1, rfl⟩ := List.getElem?_eq_some_iff.1 hx
  obtain ⟨h2, rfl⟩ := List.getElem?_eq_some_iff.1 hy
  exact List.pairwise_iff_getElem.1 h i (i + 1) h1 h2 (by omega)
theorem pcs_of (s : Ln) (ec : UInt8) (ls : List LL) (h : lexL s = .ok (ec, ls)) : s.length ≤ 65536 ∧ (cutL s).length ≤ 4096 ∧ PcsF (cutL s) ls := by
  obtain ⟨h1, _, h3, i, _, h5⟩ := lexL_ok s ec ls h
  obtain ⟨b1, b2⟩ := lines_plc ec (cutL s) _ i ls h5
  obtain ⟨c1, c2⟩ := lines_small ec s (by omega) _ i ls h5
  refine ⟨h1, h3, by omega, ?_, fun i x y hx hy => pair_next b2 i x y hx hy, ?_, ?_, ?_, ?_, ?_⟩
  · intro i x hx
    have hm := List.mem_of_getElem? hx
    have := (b1 x hm).1.low
    have := (c2 x hm).2.2.1
    exact ⟨x.line - 1, by omega, by omega⟩
  · intro i x hx
    have hm := List.mem_of_getElem? hx
    have := (c2 x hm).1
    have := (c2 x hm).2.1
    omega
  · intro i x hx q hq
    exact (b1 x (List.mem_of_getElem? hx)).1.first q (List.mem_of_getElem? hq)
  · intro i x hx k p q hp hq
    exact pair_next (b1 x (List.mem_of_getElem? hx)).1.rise k p q hp hq
  · intro i x hx k hk
    obtain ⟨y, p1, p2, p3, p4, p5⟩ := (b1 x (List.mem_of_getElem? hx)).1.place k hk
    refine ⟨(placeL x.line x.text x.marks k).1 - 1, (placeL x.line x.text x.marks k).2 - 1, y, x.text[k], ?_, p3, ?_, List.getElem?_eq_getElem hk⟩
    · rw [Nat.sub_add_cancel p1, Nat.sub_add_cancel p2]
    · rw [p5, List.getElem?_eq_getElem hk]
  · intro i x hx m hm
    exact (c2 x (List.mem_of_getElem? hx)).2.2.2 m hm
theorem bs_get {y : Ln} {c : UInt8} {C : Nat} (h : y[C]? = some c) : ∃ hl : C < (bs y).size, (bs y)[C]'hl = c := by
  have hl : C < (bs y).size := by
    have := (List.getElem?_eq_some_iff.1 h).1
    rw [← un_length, un_bs]; exact this
  refine ⟨hl, ?_⟩
  have := un_getElem? (bs y) C hl
  rw [un_bs, h] at this
  exact (Option.some.inj this).symm
set_option maxRecDepth 100000 in
set_option maxHeartbeats 4000000 in
theorem lexplaces_law (s : ByteArray) (w : World) (hT : Tabs w) (hE : ErrType w) : Calls Tryz.prog 6 #[.string s] w fun e w' => e = .returned (.bool true) ∧ Below w.heap.size w w' := by
  have hWk : ∀ W, Below w.heap.size w W → Calls Tryz.prog 16 #[] W fun e w' => e = .returned (.bool true) ∧ Below W.heap.size W w' := fun W hW => works_l W (hT.below hW) (hE.belowE hW)
  cases hl : lexL (un s) with
  | error fl =>
    obtain ⟨no, l, a⟩ := fl
    have h1 := lines_err s no l a hl w hT hE
    clear hl
    go_enter Tryz.func6, Tryz.ntmps6
    go_wp2_with fail
    refine h1.mono ?_
    rintro e w2 ⟨rfl, b2⟩
    have h2 := hWk w2 b2
    go_wp2_with (go_at_call 16; refine h2.mono ?_; rintro e w3 ⟨rfl, b3⟩)
    go_ret
    exact ⟨rfl, below_join b2 b3⟩
  | ok pr =>
    obtain ⟨ec, ls⟩ := pr
    have h1 := lines_ok s ec ls hl w hT hE
    obtain ⟨hs, hf, hP⟩ := pcs_of _ _ _ hl
    rw [un_length] at hs
    have HP : Hid (PcsF (cutL (un s)) ls) := hP
    have hfew := hP.few
    clear hl hP
    go_enter Tryz.func6, Tryz.ntmps6
    go_wp2_with fail
    refine h1.mono ?_
    rintro e w2 ⟨v, us, rfl, hv, b2⟩
    have HV : Hid (LnsR w2 v us ls) := lns_read hv
    clear h1 hv
    have hC := cut_r s w2 (by omega)
    obtain ⟨a, cap, b, hva, ha, hcap, hul, hx⟩ := HV.out
    subst hva
    have HX : Hid (∀ (i : Nat) x, ls[i]? = some x → ∃ p, a = some ⟨b, 0, none⟩ ∧ LnC w2 b (i * 4) x p ∧ MksAt w2 p.1 (x.marks.map Mk.z)) := fun i x hi => by
      have hlt := (List.getElem?_eq_some_iff.1 hi).1
      obtain ⟨p, hp⟩ : ∃ p, us[i]? = some p := ⟨_, List.getElem?_eq_getElem (by omega)⟩
      exact ⟨p, ha (fun e => by rw [e] at hlt; exact absurd hlt (Nat.not_lt_zero _)), (hx i x p hi hp).1, (hx i x p hi hp).2.1⟩
    clear HV ha hx hul
    go_wp2_with fail
    refine hC.mono ?_
    rintro e w3 ⟨vf, rfl, hown, b3⟩
    have HF : Hid (TextsAt w3 vf ((cutL (un s)).map bs)) := TextsAt.own (by rw [List.length_map]; exact hown)
    have B3 := below_join b2 b3
    clear hC hown
    obtain ⟨fa, fc, hvf, _, hfx⟩ := HF.out
    rw [List.length_map] at hvf
    subst hvf
    have HFX : Hid (∀ (L : Nat) (y : Ln), (cutL (un s))[L]? = some y → ∃ fb fo, fa = some ⟨fb, fo, none⟩ ∧ w3.cell? ⟨fb, fo + L, none⟩ = some (.string (bs y))) := fun L y hy => hfx L (bs y) (by rw [List.getElem?_map, hy]; rfl)
    clear HF hfx
    have HX3 : Hid (∀ (i : Nat) x, ls[i]? = some x → ∃ p, a = some ⟨b, 0, none⟩ ∧ ∀ W, Below w3.heap.size w3 W → LnC W b (i * 4) x p ∧ MksAt W p.1 (x.marks.map Mk.z)) := fun i x hi => by
      obtain ⟨p, q1, q2, q3⟩ := HX.out i x hi
      exact ⟨p, q1, fun W hW => ⟨q2.below (below_join b3 hW), q3.below (below_join b3 hW)⟩⟩
    clear HX
    generalize hfl : (cutL (un s)).length = fl at *
    go_wp2
    go_loopw [7, 8, 9, 10, 11, 12, 13] (fun v7 v8 _ _ _ _ _ wr => ∃ i ab : Nat, v8 = .int .i64 i ∧ i ≤ ls.length ∧ v7 = .int .i64 ab ∧ Hid (∀ x, ls[i]? = some x → ab < x.line) ∧ Below w3.heap.size w3 wr) (fun _ v8 _ _ _ _ _ _ => ls.length - (intOf v8).toNat)
    case atStart => exact ⟨0, 0, rfl, Nat.zero_le _, rfl, fun x hx => by obtain ⟨n, hn, _⟩ := HP.out.line 0 x hx; omega, Below.refl _ _⟩
    case round =>
      obtain ⟨i, ab, rfl, hi, rfl, Hab, hbw⟩ := hrel
      by_cases hlt : i < ls.length
      · obtain ⟨x, hx⟩ : ∃ x, ls[i]? = some x := ⟨_, List.getElem?_eq_getElem hlt⟩
        obtain ⟨⟨mv, dv⟩, rfl, hW⟩ := HX3.out i x hx
        have HW : Hid (∀ W, Below w3.heap.size w3 W → LnC W b (i * 4) x (mv, dv) ∧ MksAt W mv (x.marks.map Mk.z)) := hW
        obtain ⟨hLn, hMk⟩ := HW.out wr hbw
        clear hW
        obtain ⟨n, hn, hn2⟩ := HP.out.line i x hx
        have hab := Hab.out x hx
        have k0 := hLn.c0
        have k1 := hLn.c1
        have k2 : wr.cell? ⟨b, i * 4 + 2, none⟩ = some mv := hLn.c2
        have k3 : wr.cell? ⟨b, i * 4 + 3, none⟩ = some dv := hLn.c3
        have HI : Hid (ls[i]? = some x) := hx
        have HLT : Hid (i < ls.length) := hlt
        have HN : Hid (x.line = n + 1) := hn
        rw [hn] at k0 hab
        have hTx := (HP.out.text i x hx).1
        have hMl := (HP.out.text i x hx).2
        obtain ⟨T, hTT⟩ : ∃ T, bs x.text = T := ⟨_, rfl⟩
        have hTs : T.size = x.text.length := by rw [← hTT, ← un_length, un_bs]
        rw [hTT] at k1
        have HTs : Hid (T.size = x.text.length) := hTs
        have hTs2 : T.size ≤ 65536 := by omega
        clear hTs hTx
        obtain ⟨ma, mcap, mb, mo, hmv, hma, hmcap, hmx⟩ := hMk
        rw [List.length_map] at hmv hmcap
        subst hmv
        have d0 : (0 : Int) ≤ (i : Int) := by omega
        have d1 : (i : Int) < (ls.length : Int) := by omega
        have d2 : ¬ ((n + 1 : Nat) : Int) ≤ (ab : Int) := by omega
        have e1 : (((n + 1 : Nat) : Int) - 1) = (n : Int) := by omega
        clear hx hn hab Hab hlt
        go_wp2
        go_loopw [9, 10] (fun v9 v10 wr2 => ∃ k la : Nat, v10 = .int .i64 k ∧ k ≤ x.marks.length ∧ v9 = .int .i64 la ∧ Hid (∀ q, x.marks[k]? = some q → la < q.line) ∧ wr2 = wr) (fun _ v10 _ => x.marks.length - (intOf v10).toNat)
        case atStart => exact ⟨0, n, rfl, Nat.zero_le _, by go_num, fun q hq => by have := HP.out.first i x HI.out q hq; have := HN.out; omega, rfl⟩
        case round =>
          rename_i wz
          obtain ⟨k, la, rfl, hk, rfl, Hla, hwr⟩ := hrel
          subst hwr
          by_cases hlt : k < x.marks.length
          · obtain ⟨q, hq⟩ : ∃ q, x.marks[k]? = some q := ⟨_, List.getElem?_eq_getElem hlt⟩
            have hla := Hla.out q hq
            obtain ⟨m0, m1, m2⟩ := hmx k q.z (by rw [List.getElem?_map, hq]; rfl)
            obtain rfl := hma (fun e => by have := congrArg List.length e; rw [List.length_map] at this; rw [this] at hlt; simp at hlt)
            have m1' : wr.cell? ⟨mb, mo + k * 3 + 1, none⟩ = some (.int .i64 (q.line : Int)) := m1
            have Hla2 : Hid (∀ q', x.marks[k + 1]? = some q' → q.line < q'.line) := fun q' hq' => HP.out.next i x HI.out k q q' hq hq'
            have f1 : (0 : Int) ≤ (k : Int) := by omega
            have f2 : (k : Int) < (x.marks.length : Int) := by omega
            have f3 : ¬ (q.line : Int) ≤ (la : Int) := by omega
            clear m0 m1 m2 hq hla Hla hlt
            go_wp2
            go_roundw
            case rel => exact ⟨k + 1, q.line, by go_num, by omega, rfl, Hla2, by first | rfl | trivial⟩
            case measure => simp [intOf]; omega
          · have f2 : ¬ (k : Int) < (x.marks.length : Int) := by omega
            clear Hla k0 k1 k3 hmx hLn
            go_wp2
            clear k2
            go_loopw [11, 12, 13] (fun v11 _ _ wr3 => ∃ at1 : Nat, v11 = .int .i64 at1 ∧ at1 ≤ T.size ∧ Below w3.heap.size w3 wr3) (fun v11 _ _ _ => T.size - (intOf v11).toNat)
            case atStart => exact ⟨0, rfl, Nat.zero_le _, hbw⟩
            case round =>
              rename_i wy
              obtain ⟨at1, rfl, hat, hbw3⟩ := hrel
              obtain ⟨hLn, hMk⟩ := HW.out wr hbw3
              have k0 := hLn.c0
              have k1 := hLn.c1
              have k2 : wr.cell? ⟨b, i * 4 + 2, none⟩ = some (.slice ma x.marks.length mcap) := hLn.c2
              have k3 : wr.cell? ⟨b, i * 4 + 3, none⟩ = some dv := hLn.c3
              rw [HN.out] at k0
              rw [hTT] at k1
              by_cases hlt : at1 < T.size
              · obtain ⟨L, C, y, c, hpl, hfy, hyc, htc⟩ := HP.out.place i x HI.out at1 (by rw [← HTs.out]; exact hlt)
                have hPl := place_n (n + 1) T (.slice ma x.marks.length mcap) dv x.marks at1 wr hMk (by omega) (by omega) (HP.out.col i x HI.out)
                rw [← hTT, un_bs, hTT, ← HN.out, hpl] at hPl
                rw [HN.out, show ((n + 1 : Nat) : Int) = (n : Int) + 1 by omega, show ((L + 1 : Nat) : Int) = (L : Int) + 1 by omega, show ((C + 1 : Nat) : Int) = (C : Int) + 1 by omega] at hPl
                obtain ⟨hCl, hCc⟩ := bs_get hyc
                have hfl2 := (List.getElem?_eq_some_iff.1 hfy).1
                rw [hfl] at hfl2
                obtain ⟨fb, fo, hfa, hfc⟩ := HFX.out L y hfy
                subst hfa
                have hTc : ∃ hl : at1 < T.size, T[at1]'hl = c := by
                  have := bs_get htc
                  rw [hTT] at this
                  exact this
                obtain ⟨hTl, hTc⟩ := hTc
                have g0 : (0 : Int) ≤ (at1 : Int) := by omega
                have g1 : (at1 : Int) < (T.size : Int) := by omega
                have HF : Hid (w3.cell? ⟨fb, fo + L, none⟩ = some (.string (bs y))) := hfc
                have hYs : (bs y).size ≤ 65536 := by
                  have h9 := cut_len (un s) y (List.mem_of_getElem? hfy)
                  rw [un_length] at h9
                  rw [← un_length, un_bs]; omega
                clear hpl hfy hyc htc hfc
                go_wp2_with fail
                refine hPl.mono ?_
                rintro e w5 ⟨rfl, b5⟩
                have B5 := below_join hbw3 b5
                have k4 : w5.cell? ⟨b, i * 4 + 1, none⟩ = some (.string T) := by rw [← hTT]; exact (HW.out w5 B5).1.c1
                have k5 : w5.cell? ⟨fb, fo + L, none⟩ = some (.string (bs y)) := cell_belowE B5 HF.out
                clear k0 k1 k2 k3 hPl hLn hMk
                generalize bs y = Y at *
                have t1 : decide ((L : Int) + 1 < 1) = false := decide_eq_false (by omega)
                have t2 : decide ((fl : Int) < (L : Int) + 1) = false := decide_eq_false (by omega)
                have t3 : decide ((C : Int) + 1 < 1) = false := decide_eq_false (by omega)
                have t4 : decide ((Y.size : Int) < (C : Int) + 1) = false := decide_eq_false (by omega)
                have t5 : IntKind.i64.wrap (L : Int) = (L : Int) := wrap_small _ (by omega) (by omega)
                have t5' : IntKind.i64.wrap (C : Int) = (C : Int) := wrap_small _ (by omega) (by omega)
                have t6 : (L : Int) < (fl : Int) := by omega
                have t7 : (0 : Int) ≤ (L : Int) := by omega
                have t8 : (C : Int) < (Y.size : Int) := by omega
                have t9 : (0 : Int) ≤ (C : Int) := by omega
                have t10 : ((c.toNat : Int) != (c.toNat : Int)) = false := by simp
                go_wp2
                go_quiet (fail)
                go_wp2
                go_roundw
                case rel => exact ⟨at1 + 1, by go_num, by omega, below_drawn B5 _⟩
                case measure => simp [intOf]; omega
              · have g1 : ¬ (at1 : Int) < (T.size : Int) := by omega
                have HAB : Hid (∀ y, ls[i + 1]? = some y → n + 1 < y.line) := fun y hy => by rw [← HN.out]; exact HP.out.rise i x y HI.out hy
                have hlt2 := HLT.out
                clear hMk hLn
                go_wp2
                go_roundw
                case rel => exact ⟨i + 1, n + 1, by go_num, by omega, by go_num, HAB, hbw3⟩
                case measure => simp [intOf]; omega
      · have d1 : ¬ (i : Int) < (ls.length : Int) := by omega
        have h4 := hWk wr (below_join B3 hbw)
        go_wp2_with (go_at_call 16; refine h4.mono ?_; rintro e w4 ⟨rfl, b4⟩)
        go_ret
        exact ⟨rfl, below_join (below_join B3 hbw) b4⟩
end Go.Proofs.YtjgijbeedgggdaaGreatDoor

namespace Go.Proofs.YtjgijbeedgggdaaGreatDoor.fnLexPlaces
open Go.ChangeShapes Go.WideShapes Go.ChangeAt Go.RowKit
open Go.WideMaps Go.WideElems
open Go.ChangeMaps (open_string shut_string)

abbrev listed : List (String × DataW Unit) := listedL
set_option maxRecDepth 100000 in
theorem contract (H : Type) (enc : TypeId × Value → H) (W : World) (base : Nat) (args : Array Value) (ds gs : List (DataW H)) (before : List MemPlace)
    (hval : ∀ (j : Nat) t v, Tryz.f6.params[j]? = some t → args[j]? = some v → Value.okWide Tryz.prog W .any base t v)
    (hW : DataW.Whole enc Tryz.prog Tryz.f6.params.toList Rows.lexPlacesSpec.vars false W args.toList ds gs before)
    (hz : (DataW.weightsEach Tryz.prog (Tryz.f6.params.toList ++ (OpenSpec.ofChange Rows.lexPlacesSpec).bare.plain.varTypes Tryz.prog) (ds ++ gs)).all (· ≤ reachBytes) = true)
    (hL : laidMetH Tryz.prog listed W) :
    Calls Tryz.prog 6 args W fun e W' => ∃ v, e = .returned v ∧ Rows.lexPlacesSpec.post enc Tryz.prog Tryz.f6 false true false false W args v W' := by
  have hW' := hW
  obtain ⟨p, q, hA0, hV, rfl, hfz, hnd⟩ := hW
  have hA : DataW.TrodAll enc Tryz.prog W 0 (fun _ => true) true Tryz.f6.params.toList args.toList ds p := hA0
  rw [Tryz.params6] at hA hval
  obtain ⟨v0, vs0, d0, ds0, p0, q0, hargs, rfl, rfl, h0, r0⟩ := trodAll_cons hA
  obtain ⟨rfl, rfl, rfl⟩ := trodAll_nil r0
  obtain rfl : args = #[v0] := by cases args; simp_all
  obtain ⟨rfl, rfl⟩ := trodVars_none hV
  clear hA0
  simp only [List.append_nil] at hW'
  have k0 := fun (W' : World) (hg : Below W.heap.size W W') => Below.trod (by kernel_rfl) (by kernel_rfl) (of_decide_eq_true (by kernel_rfl)) h0 hg (by obtain ⟨fu, hf⟩ := h0; exact DataW.trod_lt _ _ _ _ hf)
  obtain ⟨s0, rfl, rfl, rfl, hs0⟩ := open_string Tryz.underlying9 (hval 0 9 v0 rfl rfl) h0
  have z0 : s0.size ≤ 140737488351232 := by have e := Lib.size_eq s0; have h := sized_string (j := 0) (t := 9) (bytes := s0.data.toList) hz rfl rfl; have e2 : reachBytes = 140737488351232 := rfl; omega
  refine (lexplaces_law s0 W (tabs_of_laidL hL) (handle_of_laidL hL)).mono fun e W' ⟨he, hg⟩ => ?_
  subst he
  have e1 : Rows.lexPlacesSpec.fn H ([.lit (.string s0.data.toList)] ++ []) = { results := [.lit (.bool true)], args := [.lit (.string s0.data.toList)] } := by simp [Rows.lexPlacesSpec]
  refine ⟨_, rfl, _, _, _, [], [] ++ [], [], hW', ?_, ?_, ?_, hg.frame _, fun h => by cases h⟩
  · rw [e1]; exact trodAll_mk1 (shut_bool Tryz.underlying4 true)
  · rw [e1]; exact trodAll_cons_mk (k0 W' hg) trodAll_mk0
  · rw [e1]; rfl

set_option maxRecDepth 100000 in
theorem met (os : Os) (args : Array Value) : laidMetH Tryz.prog listed ((laidWorldL os).forCall (fun _ _ => 0) ⟨#[], args, []⟩).memory :=
  metL os args
theorem reads (os : Os) {H : Type} (enc : TypeId × Value → H) : ∃ places, DataW.whole enc Tryz.prog ((laidWorldL os).forCall (fun _ _ => 0) ⟨#[], #[.string ⟨#[]⟩], []⟩).memory Tryz.f6.params.toList Rows.lexPlacesSpec.vars false #[Value.string ⟨#[]⟩].toList 8 = some ([.lit (.string [])], [], places) :=
  ⟨[], by kernel_rfl⟩

set_option maxRecDepth 100000 in
theorem lifted (os : Os) (started : os.Started) (H : Type) (enc : TypeId × Value → H) (F : Stop.Interp) :
    ReturnsInHanded {} Tryz.checked os 6 .any ((OpenSpec.ofChange Rows.lexPlacesSpec).preRow enc Tryz.prog Tryz.f6 Rows.lexPlacesRow.domain false Rows.lexPlacesRow.laid) (((OpenSpec.ofChange Rows.lexPlacesSpec).at F).post enc Tryz.prog Tryz.f6 false true false false) := by
  obtain ⟨places, hx⟩ := reads os enc
  refine returnsInHanded_of_row (C := Tryz.checked) (s := OpenSpec.ofChange Rows.lexPlacesSpec) own started (by kernel_rfl) Tryz.func6
    (witness_row_atRef (enc := enc) (C := Tryz.checked) false (laidWorldL os) #[.string ⟨#[]⟩] rfl (by kernel_rfl) (by kernel_rfl) (by kernel_rfl)
      (OpenSpec.preRow_of_cond 8 hx (by kernel_rfl) (fun k hk => by cases hk) (by kernel_rfl) (met os _))) ?_
  intro W base args ds gs before hval hW _ _ hz hL _ _
  exact contract H enc W base args ds gs before hval hW hz hL

theorem said : Rows.LexPlacesSaid :=
  OpenClaim.holds_of_cond 6 Tryz.f6 rfl rfl rfl rfl rfl rfl rfl ⟨rfl, rfl, rfl, rfl, rfl⟩ rfl rfl rfl rfl rfl (by kernel_rfl) Tryz.func6 (by kernel_rfl)
    (of_decide_eq_true (by kernel_rfl)) (by unfold Func.isWrapper; rw [if_neg (of_decide_eq_false (by kernel_rfl))]; exact ⟨rfl, rfl⟩)
    (fun os started H enc _ F => by rw [OpenClaim.pre_eq_preRow]; exact lifted os started H enc F)

theorem plainly (f : FuncId) (fn : Func) (hf : Tryz.pinned.checked.prog.funcNamed "strata/stratalaw14.LexPlaces" = some f) (hfn : Tryz.pinned.checked.prog.funcs[f]? = some fn) :
    true = Tryz.pinned.checked.prog.looks [] ∧ ∀ (j : Nat) t, fn.params[j]? = some t → Tryz.pinned.checked.prog.wantsStandIn t = false := by
  obtain rfl : f = 6 := Option.some.inj ((show Tryz.prog.funcNamed "strata/stratalaw14.LexPlaces" = some 6 by kernel_rfl).symm.trans hf) |>.symm
  obtain rfl : fn = Tryz.f6 := (Option.some.inj (Tryz.func6.symm.trans hfn)).symm
  refine ⟨by kernel_rfl, fun j t ht => ?_⟩
  rw [Tryz.params6] at ht
  have hm : t ∈ [9] := by simpa using Array.mem_of_getElem? ht
  have hall : ([9].all fun u => !Tryz.prog.wantsStandIn u) = true := by kernel_rfl
  exact (show Tryz.prog.wantsStandIn t = false by simpa using List.all_eq_true.1 hall t hm)

theorem card : Rows.LexPlacesCardSaid :=
  Claim7.holds_tied_plain_at .later [] _ _ _ _ said (fun _ h => by cases h) (by kernel_rfl) (fun _ h => by cases h) lexPlaces_row_tie rfl ⟨rfl, rfl⟩ (by kernel_rfl) rfl plainly (by kernel_rfl)
end Go.Proofs.YtjgijbeedgggdaaGreatDoor.fnLexPlaces
namespace Go.Proofs.YtjgijbeedgggdaaGreatDoor
theorem lexPlaces_card : Rows.LexPlacesCardSaid := fnLexPlaces.card
end Go.Proofs.YtjgijbeedgggdaaGreatDoor
