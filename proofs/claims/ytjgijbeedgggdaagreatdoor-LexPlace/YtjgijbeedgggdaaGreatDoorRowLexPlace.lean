/- LexPlace, for every line and every number: the place of a byte, and the line is left as it was: from its walk to its row and its card. -/
import Derived.Test.YtjgijbeedgggdaaGreatDoorRows
import Derived.Test.YtjgijbeedgggdaaGreatDoorPlain
import Derived.Test.YtjgijbeedgggdaaGreatDoorCwW
import Derived.LaidHandle
import Derived.LaidLaws
import Derived.Stop.Joined
import Derived.Lib.LaidTab
import Derived.Lib.LaidU8T
import Derived.Lib.LaidCase
import Derived.SliceStrings
import Derived.Laws.Tables
import Derived.Test.YtjgijbeedgggdaaGreatDoorShelf
import Derived.Lib.LaidCaseMet
import Derived.Lib.LaidIn
import Derived.Test.YtjgijbeedgggdaaGreatDoorBytes
import Derived.Laws.IdiomStrings
import Derived.Laws.CopyOwn
import Derived.Laws.StructEq
import Derived.Laws.OwnMore
import Derived.Laws.AppendOwn
import Derived.OwnWalk
import Derived.Deep.Cut
import Derived.Deep.CutRange
import Derived.Deep.MidRow
import Derived.ChangeKeysEq
import Derived.Test.YtjgijbeedgggdaaGreatDoorPlW
import Derived.WideShapes
import Derived.ChangeArms
import Derived.SizedLaws
import Derived.Deep.Slices
import Derived.Deep.DeepHandedRow
import Derived.Test.YtjgijbeedgggdaaGreatDoorCkW
import Derived.Test.YtjgijbeedgggdaaGreatDoorDrsW
import Derived.Test.YtjgijbeedgggdaaGreatDoorAllW
import Derived.Test.YtjgijbeedgggdaaGreatDoorPlaceF
import Derived.Test.YtjgijbeedgggdaaGreatDoorCards
import Derived.Test.YtjgijbeedgggdaaGreatDoorTie
import Derived.ProofKit
import Derived.OpenShut
import Derived.SevenTiedAt
import Derived.Deep.DeepWitnessRowRef

namespace Go.Proofs.YtjgijbeedgggdaaGreatDoor
open Go.ChangeShapes Go.WideShapes Go.RowKit Go.Lib

theorem own : ownKnob Tryz.prog.godebug = none := by kernel_rfl
theorem l_et : Tryz.prog.globalNamed "errors.errorType" = some 0 := by kernel_rfl
theorem l_rt : (Tryz.prog.cutTypes.find? (·.1 == "internal/reflectlite.rtype")).map (·.2) = some 287 := by kernel_rfl
theorem l_oneRow : ((List.range 364).filter fun t => Tryz.prog.rowNamed t [101, 114, 114, 111, 114]) = [26] := by kernel_rfl
theorem l_size : Tryz.prog.types.size = 364 := by kernel_rfl

abbrev listedL : List (String × DataW Unit) := [("unicode/utf8.acceptRanges", Rows.laid_unicode_utf8_acceptRanges), ("errors.errorType", Rows.laid_errors_errorType), ("unicode.asciiFold", Rows.laid_unicode_asciiFold), ("unicode.caseOrbit", Rows.laid_unicode_caseOrbit), ("unicode.CaseRanges", Rows.laid_unicode_CaseRanges), ("unicode/utf8.first", Rows.laid_unicode_utf8_first)]
abbrev listedN : List (String × DataW Unit) := [("unicode/utf8.acceptRanges", Rows.laid_unicode_utf8_acceptRanges), ("unicode.asciiFold", Rows.laid_unicode_asciiFold), ("unicode.caseOrbit", Rows.laid_unicode_caseOrbit), ("unicode.CaseRanges", Rows.laid_unicode_CaseRanges), ("unicode/utf8.first", Rows.laid_unicode_utf8_first)]
theorem parts_of_laidL {W : World} (h : laidMetH Tryz.prog listedL W) : laidMet Tryz.prog listedN W ∧ handlesMet Tryz.prog [("errors.errorType", Rows.laid_errors_errorType)] W := h
set_option maxRecDepth 100000 in
theorem handle_of_laidL {W : World} (h : laidMetH Tryz.prog listedL W) : ErrType W := by
  have h2 := parts_of_laidL h
  obtain ⟨name, u, ty, e1, e2, e3, e4, e5⟩ := h2.2 _ (List.mem_singleton.2 rfl)
  have en : name = [101, 114, 114, 111, 114] := (Option.some.inj e1).symm
  subst en
  obtain rfl := Option.some.inj (l_rt.symm.trans e2)
  have hm : ty ∈ (List.range 364).filter fun t => Tryz.prog.rowNamed t [101, 114, 114, 111, 114] := List.mem_filter.2 ⟨List.mem_range.2 (by rw [← l_size]; exact e3), e4⟩
  rw [l_oneRow] at hm
  obtain rfl := List.mem_singleton.1 hm
  have hh : typeHandle Tryz.prog 26 = .pointer (some ⟨7, 26, none⟩) := by kernel_rfl
  rw [hh] at e5
  have h3 := World.var?_cell l_et e5 0
  unfold ErrType
  simpa using h3
def u8ren : Go.Shelf.Ren := ⟨fun n => n, fun | 5 => 5 | 119 => 313 | 138 => 315 | 139 => 316 | n => n, fun | 3 => 2 | 4 => 3 | n => n⟩
theorem u8types : U8Types Tryz.prog u8ren := ⟨by kernel_rfl, by kernel_rfl, by kernel_rfl, by kernel_rfl⟩
set_option maxRecDepth 100000 in
theorem e_first : Rows.laid_unicode_utf8_first = Lib.firstData := by kernel_rfl
set_option maxRecDepth 100000 in
theorem e_acc : (Rows.laid_unicode_utf8_acceptRanges : DataW Unit) = Lib.acceptData := by kernel_rfl
theorem utf8_of_laidL {W : World} (h : laidMetH Tryz.prog listedL W) : Lib.Utf8Tabs 2 3 W := by
  have h1 := Lib.laidMet.reads (parts_of_laidL h).1 (n := "unicode/utf8.first") (d := Rows.laid_unicode_utf8_first) (.tail _ (.tail _ (.tail _ (.tail _ (.head _)))))
  have h2 := Lib.laidMet.reads (parts_of_laidL h).1 (n := "unicode/utf8.acceptRanges") (d := Rows.laid_unicode_utf8_acceptRanges) (.head _)
  rw [e_first] at h1
  rw [e_acc] at h2
  exact utf8Tabs_of_readsT u8types ⟨by kernel_rfl, by kernel_rfl, by kernel_rfl, by kernel_rfl, by kernel_rfl, by kernel_rfl, by kernel_rfl⟩ h1 h2
def intsOf : DataW Unit → List Int
  | .agg ds => ds.map fun
    | .lit (.int _ n) => n
    | _ => 0
  | _ => []
set_option maxRecDepth 100000 in
theorem e_fold : (Rows.laid_unicode_asciiFold : DataW Unit) = tabData .u16 (intsOf Rows.laid_unicode_asciiFold) := by kernel_rfl
theorem f_name : Tryz.prog.globalNamed "unicode.asciiFold" = some 4 := by kernel_rfl
theorem f_type : (Tryz.prog.globals[4]?).map (·.type) = some 326 := by kernel_rfl
theorem o_name : Tryz.prog.globalNamed "unicode.caseOrbit" = some 5 := by kernel_rfl
theorem o_type : (Tryz.prog.globals[5]?).map (·.type) = some 327 := by kernel_rfl
theorem c_u16 : Tryz.prog.cellsOf 325 = 1 := by kernel_rfl
theorem c_128 : Tryz.prog.cellsOf 326 = 128 := by kernel_rfl
theorem c_pair : Tryz.prog.cellsOf 329 = 2 := by kernel_rfl
set_option maxRecDepth 100000 in
theorem fold1_of_laidL {W : World} (h : laidMetH Tryz.prog listedL W) : Fold1 W := by
  have h1 := Lib.laidMet.reads (parts_of_laidL h).1 (n := "unicode.asciiFold") (d := Rows.laid_unicode_asciiFold) (.tail _ (.head _))
  rw [e_fold] at h1
  obtain ⟨g, t, cs, fuel, p, hg, hty, hvar, hd⟩ := h1
  obtain rfl := Option.some.inj (f_name.symm.trans hg)
  obtain rfl := Option.some.inj (f_type.symm.trans hty)
  have hcs := cells_of_tab Tryz.underlying326 Tryz.underlying325 c_u16 c_128 hd
  have hc : ∀ c : Nat, W.cell? ⟨4, c, none⟩ = ((intsOf Rows.laid_unicode_asciiFold).map fun z => Value.int .u16 z)[c]? := fun c => by
    rw [World.var?_cell hg hvar c, ← Array.getElem?_toList, hcs]
  intro c hm
  rw [hc, hc]
  simp only [List.mem_cons, List.not_mem_nil, or_false] at hm
  rcases hm with rfl | rfl | rfl | rfl | rfl | rfl | rfl
  all_goals exact ⟨by kernel_rfl, by kernel_rfl⟩
def pairsOf : DataW Unit → List (DataW Unit)
  | .slice ds _ => ds
  | _ => []
theorem pair_cells {H : Type} {enc : TypeId × Value → H} {w : World} {base : Nat} {sp : Nat → Bool} {held : Bool} {fuel : Nat} {cs : List Value} {a b : Int} {p : List MemPlace}
    (h : DataW.trod enc Tryz.prog w base sp held fuel 329 cs = some (.agg [.lit (.int .u16 a), .lit (.int .u16 b)], p)) : cs[0]? = some (.int .u16 a) ∧ cs[1]? = some (.int .u16 b) := by
  obtain ⟨xs, n, rfl, hx, hl, hxl, hall⟩ := DataW.trod_struct Tryz.underlying329 h
  have hx3 : xs.map (·.1) = [.lit (.int .u16 a), .lit (.int .u16 b)] := by
    have := congrArg Prod.fst hx
    simpa using this.symm
  obtain ⟨x0, x1, rfl⟩ : ∃ x0 x1, xs = [x0, x1] := by
    match xs, hx3 with
    | [x0, x1], _ => exact ⟨x0, x1, rfl⟩
  simp only [List.map_cons, List.map_nil, List.cons.injEq, and_true] at hx3
  obtain ⟨e0, e1⟩ := hx3
  have f0 := hall 0 _ rfl
  have f1 := hall 1 _ rfl
  change DataW.trod _ _ _ _ _ _ _ 325 ((cs.drop 0).take (Tryz.prog.cellsOf 325)) = some x0 at f0
  change DataW.trod _ _ _ _ _ _ _ 325 ((cs.drop 1).take (Tryz.prog.cellsOf 325)) = some x1 at f1
  rw [c_u16] at f0 f1
  refine ⟨?_, ?_⟩
  · obtain ⟨z, hz, hx', _⟩ := DataW.trod_int Tryz.underlying325 f0
    rw [hx'] at e0
    cases e0
    exact at_of_take hz
  · obtain ⟨z, hz, hx', _⟩ := DataW.trod_int Tryz.underlying325 f1
    rw [hx'] at e1
    cases e1
    exact at_of_take hz
set_option maxRecDepth 100000 in
theorem fold2_of_laidL {W : World} (h : laidMetH Tryz.prog listedL W) : Fold2 W := by
  have h1 := Lib.laidMet.reads (parts_of_laidL h).1 (n := "unicode.caseOrbit") (d := Rows.laid_unicode_caseOrbit) (.tail _ (.tail _ (.head _)))
  obtain ⟨g, t, cs, fuel, p, hg, hty, hvar, hd⟩ := h1
  obtain rfl := Option.some.inj (o_name.symm.trans hg)
  obtain rfl := Option.some.inj (o_type.symm.trans hty)
  rcases DataW.trod_slice Tryz.underlying327 hd with ⟨_, hx'⟩ | ⟨a', len, cap, el, rs, m, rfl, hc0, hx', _, hlc, _, hel, helem, hsp, _⟩
  · have := congrArg Prod.fst hx'
    cases this
  have e0 := congrArg (fun x => pairsOf x.1) hx'
  have eE : pairsOf Rows.laid_unicode_caseOrbit = el.map (·.1) := e0
  have hpl : (pairsOf Rows.laid_unicode_caseOrbit).length = 94 := by kernel_rfl
  have hlen : len = 94 := by
    have := congrArg List.length eE
    rw [hpl, List.length_map] at this
    omega
  have hrow : ∀ (i : Nat) (a b : Int), (pairsOf Rows.laid_unicode_caseOrbit)[i]? = some (.agg [.lit (.int .u16 a), .lit (.int .u16 b)]) → W.cell? ((a'.add (i * 2)).add 0) = some (.int .u16 a) ∧ W.cell? ((a'.add (i * 2)).add 1) = some (.int .u16 b) := by
    intro i a b hi
    have hil := (List.getElem?_eq_some_iff.1 hi).1
    rw [hpl] at hil
    have h1 := helem i (by omega)
    rw [c_pair] at h1
    obtain ⟨b1, hb⟩ : ∃ b, el[i]? = some b := ⟨el[i]'(by omega), List.getElem?_eq_getElem (by omega)⟩
    rw [hb] at h1
    obtain ⟨ce, hce, hte⟩ := Option.bind_eq_some_iff.1 h1
    have hb1 : b1.1 = .agg [.lit (.int .u16 a), .lit (.int .u16 b)] := by
      rw [eE, List.getElem?_map, hb, Option.map_some] at hi
      exact Option.some.inj hi
    obtain ⟨q0, q1⟩ := pair_cells (p := b1.2) (by rw [← hb1]; exact hte)
    obtain ⟨_, _, hcc⟩ := World.cells?_some hce
    exact ⟨by rw [hcc 0 (by omega), q0], by rw [hcc 1 (by omega), q1]⟩
  obtain ⟨R, oR, sR⟩ := a'
  obtain rfl : sR = none := by
    have h00 := (hrow 0 75 107 (by kernel_rfl)).1
    have : (Addr.add (Addr.add ⟨R, oR, sR⟩ (0 * 2)) 0) = ⟨R, oR, sR⟩ := by simp [Addr.add]
    rw [this] at h00
    exact cell_spot h00
  have hc : ∀ (i : Nat) (a b : Int), (pairsOf Rows.laid_unicode_caseOrbit)[i]? = some (.agg [.lit (.int .u16 a), .lit (.int .u16 b)]) → W.cell? ⟨R, oR + i * 2, none⟩ = some (.int .u16 a) ∧ W.cell? ⟨R, oR + (i * 2 + 1), none⟩ = some (.int .u16 b) := by
    intro i a b hi
    obtain ⟨q0, q1⟩ := hrow i a b hi
    have a0 : (Addr.add (Addr.add ⟨R, oR, none⟩ (i * 2)) 0) = ⟨R, oR + i * 2, none⟩ := by simp [Addr.add]
    have a1 : (Addr.add (Addr.add ⟨R, oR, none⟩ (i * 2)) 1) = ⟨R, oR + (i * 2 + 1), none⟩ := by rw [Addr.add_mid, Addr.add_mid, Nat.add_assoc]
    rw [a0] at q0
    rw [a1] at q1
    exact ⟨q0, q1⟩
  have hR := World.block_lt_of_cell? W _ (hc 0 75 107 (by kernel_rfl)).1
  refine ⟨R, oR, cap, hR, ?_, (hc 47 966 981 (by kernel_rfl)).1, (hc 23 837 921 (by kernel_rfl)).1, (hc 11 452 453 (by kernel_rfl)).1, (hc 5 197 229 (by kernel_rfl)).1, (hc 8 304 304 (by kernel_rfl)).1, (hc 10 383 83 (by kernel_rfl)).1, (hc 9 305 305 (by kernel_rfl)).1, (hc 10 383 83 (by kernel_rfl)).2⟩
  rw [World.var?_cell hg hvar 0, ← Array.getElem?_toList, hc0, hlen]
  rfl
theorem tabs_of_laidL {W : World} (h : laidMetH Tryz.prog listedL W) : Tabs W := ⟨utf8_of_laidL h, fold1_of_laidL h, fold2_of_laidL h⟩
end Go.Proofs.YtjgijbeedgggdaaGreatDoor

namespace Go.Proofs.YtjgijbeedgggdaaGreatDoor
open Go.ChangeShapes Go.WideShapes Go.RowKit Go.Lib

def caseRen : Go.Shelf.Ren := ⟨Tryz.lays274_ren.f, Tryz.lays274_ren.t, fun | 13 => 6 | n => n⟩
theorem caseLays : Go.Proofs.Lays.n274 Tryz.prog caseRen := { Tryz.lays274 with }
theorem case206 : Tryz.prog.underlying (caseRen.t 206) = some (.array 3 (caseRen.t 21)) := by kernel_rfl
theorem caseX : CaseExtra Tryz.prog caseRen := ⟨by kernel_rfl, by kernel_rfl, by kernel_rfl, by kernel_rfl, by kernel_rfl, by kernel_rfl⟩
set_option maxRecDepth 100000 in
theorem laidIn_caseL {w : World} (R : Nat) (t : TypeId) (hgR : 6 ≠ R)
    (hvar : w.heap[6]? = some (.cells #[.slice (some ⟨R, 0, none⟩) caseA.size caseA.size] 332 (0, 0)))
    (hblk : w.heap[R]? = some (.cells caseCells5 t (0, 0))) : LaidIn Tryz.prog w [("unicode.CaseRanges", caseData)] [6, R] := by
  have hT := caseTab_of_block hblk
  have hread := case_slice_reads caseLays case206 caseX hT caseA_wf (by rw [caseA_size]; unfold maxLen; omega) 0
  rw [case_rows_data] at hread
  have hv : w.var? Tryz.prog "unicode.CaseRanges" = some #[.slice (some ⟨R, 0, none⟩) caseA.size caseA.size] := by
    have hn := caseX.n13
    simp only [caseRen] at hn
    simp [World.var?, hn, hvar]
  have hshape : MemPlace.row ⟨6, 0, none⟩ (#[Value.slice (some ⟨R, 0, none⟩) caseA.size caseA.size] : Array Value).size ++ MemPlace.row ⟨R, 0, none⟩ (caseA.size * 5) =
      ([((⟨6, 0, none⟩ : Addr), 1), (⟨R, 0, none⟩, caseA.size * 5)] : List (Addr × Nat)).flatMap (fun r => MemPlace.row r.1 r.2) := by simp
  refine LaidIn.one _ caseX.n13 caseX.y13 hv hread ?_ ?_ ?_
  · show (MemPlace.row ⟨6, 0, none⟩ _ ++ _).Nodup
    rw [hshape]
    exact rows_nodup _ (by simp; exact hgR)
  · show RowsFit _ _ (MemPlace.row ⟨6, 0, none⟩ _ ++ _)
    rw [hshape]
    intro b off hp
    simp only [List.flatMap_cons, List.flatMap_nil, List.append_nil, List.mem_append] at hp
    rcases hp with hp | hp
    · obtain ⟨i, hi, e'⟩ := MemPlace.mem_row.1 hp
      cases e'
      refine ⟨⟨_, _, hvar⟩, fun u v hc' => ?_⟩
      obtain rfl : i = 0 := Nat.lt_one_iff.1 hi
      rw [cell_of_heap hvar] at hc'
      cases hc'
    · obtain ⟨i, hi, e⟩ := MemPlace.mem_row.1 hp
      cases e
      refine ⟨⟨_, _, hblk⟩, fun u v hc => ?_⟩
      obtain ⟨c0, c1, c2, c3, c4⟩ := hT (i / 5) (by omega)
      have hi5 : 0 + i = 0 + i / 5 * 5 + i % 5 := by omega
      simp only at hc
      rw [hi5] at hc
      have hm : i % 5 < 5 := Nat.mod_lt _ (by omega)
      match hk : i % 5, hm with
      | 0, _ => rw [hk, Nat.add_zero, c0] at hc; cases hc
      | 1, _ => rw [hk, c1] at hc; cases hc
      | 2, _ => rw [hk, c2] at hc; cases hc
      | 3, _ => rw [hk, c3] at hc; cases hc
      | 4, _ => rw [hk, c4] at hc; cases hc
  · show ∀ x ∈ MemPlace.row ⟨6, 0, none⟩ _ ++ _, _
    rw [hshape]
    exact rows_block _
def flatV : Nat → DataW Unit → List Value
  | _ + 1, .lit (.int k n) => [.int k n]
  | fu + 1, .agg ds => ds.flatMap (flatV fu)
  | fu + 1, .slice ds _ => ds.flatMap (flatV fu)
  | _, _ => []
noncomputable def baseL (os : Os) : World := ((World.holding Tryz.prog os ⟨#[], #[], []⟩).alloc (.cells (flatV 5 Rows.laid_unicode_caseOrbit).toArray 329)).alloc (.cells caseCells5 338)
noncomputable def laidWorldL (os : Os) : World :=
  ((((((baseL os).setRow 3 (flatV 5 Rows.laid_unicode_utf8_acceptRanges).toArray).setRow 2 (flatV 5 Rows.laid_unicode_utf8_first).toArray).setRow 4 (flatV 5 Rows.laid_unicode_asciiFold).toArray).setRow 5 #[.slice (some ⟨(World.holding Tryz.prog os ⟨#[], #[], []⟩).heap.size, 0, none⟩) 94 94]).setRow 6 #[.slice (some ⟨(World.holding Tryz.prog os ⟨#[], #[], []⟩).heap.size + 1, 0, none⟩) caseA.size caseA.size]).setRow 0 #[.iface 287 (.agg #[.pointer (some ⟨7, 26, none⟩)])]
set_option maxRecDepth 100000 in
theorem e_case : Rows.laid_unicode_CaseRanges = caseData := by kernel_rfl
set_option maxRecDepth 100000 in
theorem metL (os : Os) (args : Array Value) : laidMetH Tryz.prog listedL ((laidWorldL os).forCall (fun _ _ => 0) ⟨#[], args, []⟩).memory := by
  have hA : LaidIn Tryz.prog ((laidWorldL os).forCall (fun _ _ => 0) ⟨#[], args, []⟩).memory [("unicode/utf8.acceptRanges", Rows.laid_unicode_utf8_acceptRanges), ("unicode.asciiFold", Rows.laid_unicode_asciiFold), ("unicode.caseOrbit", Rows.laid_unicode_caseOrbit)] [3, 4, 5, (World.holding Tryz.prog os ⟨#[], #[], []⟩).heap.size] :=
    LaidIn.of_run _ 8 (by kernel_rfl) (by kernel_rfl) (by kernel_rfl) (by kernel_rfl)
  have hB := laidIn_caseL (w := ((laidWorldL os).forCall (fun _ _ => 0) ⟨#[], args, []⟩).memory) ((World.holding Tryz.prog os ⟨#[], #[], []⟩).heap.size + 1) 338 (of_decide_eq_true (by kernel_rfl)) (by kernel_rfl) (by kernel_rfl)
  rw [← e_case] at hB
  have hC : LaidIn Tryz.prog ((laidWorldL os).forCall (fun _ _ => 0) ⟨#[], args, []⟩).memory [("unicode/utf8.first", Rows.laid_unicode_utf8_first)] [2] :=
    LaidIn.of_run _ 8 (by kernel_rfl) (by kernel_rfl) (by kernel_rfl) (by kernel_rfl)
  exact laidMetH_of_parts ((LaidIn.append hA (LaidIn.append hB hC (by kernel_rfl)) (by kernel_rfl)).met) (by kernel_rfl)
end Go.Proofs.YtjgijbeedgggdaaGreatDoor

namespace Go.Proofs.YtjgijbeedgggdaaGreatDoor
open Go Go.RowKit

theorem own_geG {W : World} {base e size k : Nat} {v : Value} {xs : List Value} (h : W.ownsRow base e size v k xs) : ∀ j, some j = v.ownBlock → base ≤ j := by
  intro j hj
  rcases h.2 with ⟨rfl, _⟩ | ⟨g, cap, cur, rfl, hg, hgb, _⟩
  · simp [Value.ownBlock] at hj
  · simp [Value.ownBlock] at hj; subst hj; exact hg
theorem own_upG {A B : World} {base e size n : Nat} {v : Value} {xs : List Value} (h : A.ownsRow base e size v n xs) (hb : Below A.heap.size A B) : B.ownsRow base e size v n xs := by
  refine ⟨h.1, ?_⟩
  rcases h.2 with hn | ⟨g, cap, cur, rfl, hg, hgg, rest⟩
  · exact .inl hn
  · exact .inr ⟨g, cap, cur, rfl, hg, (hb.block g (Array.getElem?_eq_some_iff.1 hgg).1).trans hgg, rest⟩
theorem eqFc {P : Program} {w : World} (d : Nat) (f : Field) (fs : List Field) (xs ys : Array Value) (a b : Value) (r R : Bool) (hn : f.name ≠ "_") (ha : (part f.type xs f.offset).run P w = .ok a w) (hb : (part f.type ys f.offset).run P w = .ok b w)
    (hr : (Op.equalIn d f.type a b).run P w = .ok r w) (hR : (Op.eqFields d xs ys fs).run P w = .ok R w) : (Op.eqFields d xs ys (f :: fs)).run P w = .ok (r && R) w := by
  simp only [Op.eqFields, if_pos hn, Sem.run_bind, ha, hb, hr, Result.andThen_ok]
  cases r with
  | false => simp
  | true => simpa using hR
theorem eqFn {P : Program} {w : World} (d : Nat) (xs ys : Array Value) : (Op.eqFields d xs ys []).run P w = .ok true w := rfl
def mkb8 (x : Int) : UInt8 := UInt8.ofNat (x % 256).toNat
theorem mkb8_int (x : Int) : ((mkb8 x).toNat : Int) = x % 256 := by
  unfold mkb8
  rw [UInt8.toNat_ofNat']; omega
def mkTx (k i : Int) : ByteArray := bs [35, mkb8 k, mkb8 (k / 256), mkb8 i, mkb8 (i / 256)]
set_option maxRecDepth 100000 in
theorem mkTx_conv (k i : Int) (w : World) : (convert 135 9 (.slice (some ⟨w.heap.size, 0, none⟩) 5 5)).run Tryz.prog (w.alloc (.cells #[.int .u8 35, .int .u8 (k % 256), .int .u8 (k / 256 % 256), .int .u8 (i % 256), .int .u8 (i / 256 % 256)] 5)) = .ok (.string (mkTx k i)) (w.alloc (.cells #[.int .u8 35, .int .u8 (k % 256), .int .u8 (k / 256 % 256), .int .u8 (i % 256), .int .u8 (i / 256 % 256)] 5)) := by
  refine run_convert_bytes_back _ 135 9 5 ⟨w.heap.size, 0, none⟩ 5 [35, mkb8 k, mkb8 (k / 256), mkb8 i, mkb8 (i / 256)] Tryz.underlying135 Tryz.underlying5 Tryz.underlying9 ?_
  intro j hj
  simp only [← mkb8_int]
  have hc := fun v (h : (#[.int .u8 35, .int .u8 ((mkb8 k).toNat : Int), .int .u8 ((mkb8 (k / 256)).toNat : Int), .int .u8 ((mkb8 i).toNat : Int), .int .u8 ((mkb8 (i / 256)).toNat : Int)] : Array Value)[j]? = some v) => (Lies.new w 5 #[.int .u8 35, .int .u8 ((mkb8 k).toNat : Int), .int .u8 ((mkb8 (k / 256)).toNat : Int), .int .u8 ((mkb8 i).toNat : Int), .int .u8 ((mkb8 (i / 256)).toNat : Int)]).cell h
  have e : (⟨w.heap.size, 0, none⟩ : Addr).add j = ⟨w.heap.size, j, none⟩ := by rw [Addr.add_mid, Nat.zero_add]
  rw [e]
  refine hc _ ?_
  rcases j with _ | _ | _ | _ | _ | j
  · rfl
  · rfl
  · rfl
  · rfl
  · rfl
  · simp at hj; omega
set_option maxRecDepth 100000 in
set_option maxHeartbeats 2000000 in
theorem mkTx_p (k i : Int) (w : World) : Calls Tryz.prog 161 #[.int .i64 k, .int .i64 i] w fun e w' => e = .returned (.string (mkTx k i)) ∧ Below w.heap.size w w' := by
  have hcv := mkTx_conv k i w
  go_enter Tryz.func161, Tryz.ntmps161
  go_wp2
  go_ret
  exact ⟨rfl, (Below.refl _ w).alloc (Nat.le_refl _) _⟩
end Go.Proofs.YtjgijbeedgggdaaGreatDoor

namespace Go.Proofs.YtjgijbeedgggdaaGreatDoor
open Go Go.RowKit

def csM (x : MkZ) : List Value := [.int .i64 x.pos, .int .i64 x.line, .int .i64 x.col]
def clM (xs : List MkZ) : List Value := xs.flatMap csM
theorem clM_cons (e : MkZ) (es : List MkZ) : clM (e :: es) = csM e ++ clM es := rfl
theorem clM_length (es : List MkZ) : (clM es).length = es.length * 3 := by
  induction es with
  | nil => rfl
  | cons e es ih => rw [clM_cons, List.length_append, ih, List.length_cons, show (csM e).length = 3 from rfl]; omega
theorem clM_append (a b : List MkZ) : clM (a ++ b) = clM a ++ clM b := by simp [clM]
theorem clM_get : ∀ (es : List MkZ) (k : Nat) (e : MkZ), es[k]? = some e → ∀ j v, (csM e)[j]? = some v → (clM es)[k * 3 + j]? = some v
  | [], k, e, h => by simp at h
  | x :: es, 0, e, h => fun j v hj => by
    simp at h; subst h
    have : j < (csM x).length := (List.getElem?_eq_some_iff.1 hj).1
    rw [clM_cons, Nat.zero_mul, Nat.zero_add, List.getElem?_append_left this]; exact hj
  | x :: es, k + 1, e, h => fun j v hj => by
    rw [clM_cons, List.getElem?_append_right (by show 3 ≤ _; omega), show (k + 1) * 3 + j - (csM x).length = k * 3 + j by show (k + 1) * 3 + j - 3 = _; omega]
    exact clM_get es k e (by simpa using h) j v hj
theorem infoM : (Tryz.prog.info? 73).map (fun i => (i.zero, i.size, i.bytes)) = some (some (.agg #[.int .i64 0, .int .i64 0, .int .i64 0]), 3, 24) := by kernel_rfl
theorem at_of_ownsM {W : World} {base : Nat} {v : Value} {es : List MkZ} (h : W.ownsRow base 73 3 v es.length (clM es)) : MksAt W v es := by
  rcases h.2 with ⟨rfl, h0⟩ | ⟨g, cap, cur, rfl, hg, hgb, hcap, _⟩
  · have : es = [] := List.eq_nil_of_length_eq_zero h0
    subst this
    exact ⟨none, 0, 0, 0, rfl, fun h => absurd rfl h, Nat.le_refl _, fun i e he => by simp at he⟩
  · refine ⟨some ⟨g, 0, none⟩, cap, g, 0, rfl, fun _ => rfl, hcap, fun i e he => ?_⟩
    have hi := (List.getElem?_eq_some_iff.1 he).1
    have hc : ∀ j v, (csM e)[j]? = some v → W.cell? ⟨g, 0 + i * 3 + j, none⟩ = some v := fun j v hj => by
      have hj2 : j < 3 := (List.getElem?_eq_some_iff.1 hj).1
      rw [Nat.zero_add, h.cellAt (i * 3 + j) (by omega)]
      exact clM_get es i e he j v hj
    exact ⟨hc 0 _ rfl, hc 1 _ rfl, hc 2 _ rfl⟩
theorem newM (W : World) (t : TypeId) (e : MkZ) : ∀ j u, (csM e)[j]? = some u → (W.alloc (.cells #[.int .i64 e.pos, .int .i64 e.line, .int .i64 e.col] t)).cell? ((⟨W.heap.size, 0, none⟩ : Addr).add j) = some u := by
  intro j u hj
  rw [Addr.add_mid, Nat.zero_add]
  unfold World.cell?
  rw [World.alloc_heap_new]
  simpa [csM] using hj
theorem oneM (e : MkZ) : ∀ u ∈ csM e, u.oneCell' = true := by
  intro u hu
  simp [csM] at hu
  rcases hu with rfl | rfl | rfl <;> rfl
def vaM (e : MkZ) : Array Value := #[.int .i64 e.pos, .int .i64 e.line, .int .i64 e.col]
set_option maxRecDepth 100000 in
theorem eqM (a : MkZ) (w : World) : (Op.equalIn 10000 73 (.agg #[.int .i64 a.pos, .int .i64 a.line, .int .i64 a.col]) (.agg #[.int .i64 a.pos, .int .i64 a.line, .int .i64 a.col])).run Tryz.prog w = .ok true w := by
  show (Op.equalIn 10000 73 (.agg (vaM a)) (.agg (vaM a))).run Tryz.prog w = .ok true w
  rw [run_equalIn_struct w 9999 73 (vaM a) (vaM a) (by kernel_rfl) (by kernel_rfl)]
  have hs : ∀ x y : ByteArray, (Op.equalIn 9999 9 (.string x) (.string y)).run Tryz.prog w = .ok (x.toList == y.toList) w := fun x y => run_equalIn_string w 9998 _ x y Tryz.underlying9
  have hi : ∀ x y : Int, (Op.equalIn 9999 3 (.int .i64 x) (.int .i64 y)).run Tryz.prog w = .ok (x == y) w := fun x y => run_equalIn_int w 9998 _ .i64 .i64 _ _ Tryz.underlying3
  have hb : ∀ x y : Bool, (Op.equalIn 9999 4 (.bool x) (.bool y)).run Tryz.prog w = .ok (x == y) w := fun x y => run_equalIn_bool w 9998 _ x y Tryz.underlying4
  have pt : ∀ (k : Nat) (v : Value) (t : TypeId), (isAgg t).run Tryz.prog w = .ok false w → (vaM a)[k]? = some v → (part t (vaM a) k).run Tryz.prog w = .ok v w := fun k v t ht hv => by simp [part, ht, hv]
  have aS := Tryz.isAgg9 w
  have aI := Tryz.isAgg3 w
  have aB := Tryz.isAgg4 w
  rw [show (Tryz.prog.fieldsOf 73) = _ from by unfold Program.fieldsOf; rw [Tryz.underlying73]]
  refine (?_ : _ = Result.ok ((a.pos == a.pos) && ((a.line == a.line) && ((a.col == a.col) && true))) w).trans (by simp)
  exact eqFc 9999 _ _ _ _ _ _ _ _ (by decide) (pt 0 _ _ aI rfl) (pt 0 _ _ aI rfl) (hi _ _) (eqFc 9999 _ _ _ _ _ _ _ _ (by decide) (pt 1 _ _ aI rfl) (pt 1 _ _ aI rfl) (hi _ _) (eqFc 9999 _ _ _ _ _ _ _ _ (by decide) (pt 2 _ _ aI rfl) (pt 2 _ _ aI rfl) (hi _ _) (eqFn _ _ _)))
/-- A mark in a list of marks. -/
def markM (k i : Int) : MkZ := ⟨-7 - k, -i - 1, 0⟩
set_option maxRecDepth 100000 in
set_option maxHeartbeats 2000000 in
theorem markM_p (k i : Int) (h0 : 0 ≤ k) (h1 : k ≤ 1000000) (h2 : -4611686018427387904 ≤ i) (h3 : i ≤ 4611686018427387904) (w : World) : Calls Tryz.prog 110 #[.int .i64 k, .int .i64 i] w fun e w' => e = .returned (.agg #[.int .i64 (markM k i).pos, .int .i64 (markM k i).line, .int .i64 (markM k i).col]) ∧ Below w.heap.size w w' := by
  have b0 : Below w.heap.size w (w.alloc (.cells #[.int .i64 0, .int .i64 0, .int .i64 0] 73)) := (Below.refl _ w).alloc (Nat.le_refl _) _
  have L0 := Lies.new w 73 #[.int .i64 0, .int .i64 0, .int .i64 0]
  have hw : IntKind.i64.wrap (-7 - k) = -7 - k := by
    simp only [IntKind.wrap, IntKind.bits, IntKind.signed]
    simp
    omega
  have hw2 : IntKind.i64.wrap (-i) = -i := by
    simp only [IntKind.wrap, IntKind.bits, IntKind.signed]
    simp
    omega
  have hw3 : IntKind.i64.wrap (-i - 1) = -i - 1 := by
    simp only [IntKind.wrap, IntKind.bits, IntKind.signed]
    simp
    omega
  have hinf : (Tryz.prog.info? 73).map (·.size) = some 3 := by kernel_rfl
  have hone : (#[.int .i64 (-7 - k), .int .i64 (-i - 1), .int .i64 0] : Array Value).all (·.oneCell') = true := by simp [Value.oneCell']
  go_enter Tryz.func110, Tryz.ntmps110
  go_wp2_with (first
    | (refine wpList_store_row rfl 73 (.tmp 4) (.tmp 10) rfl w.heap.size #[.int .i64 (-7 - k), .int .i64 (-i - 1), .int .i64 0] rfl rfl 73 #[.int .i64 0, .int .i64 0, .int .i64 0] L0 hinf rfl hone ?_))
  dsimp only [Act.put]
  refine bodyPost_ret (results_cell_row rfl _ _ w.heap.size 73 #[.int .i64 (-7 - k), .int .i64 (-i - 1), .int .i64 0] (0, 0) _ rfl (setRow_heap _ w.heap.size _ _ _ (0, 0) L0) Tryz.underlying73 rfl hinf) rfl ?_
  exact ⟨rfl, below_setRow b0 (Nat.le_refl _) _⟩
def marksM (n : Nat) : List MkZ := List.map (fun i : Nat => markM 90 (i : Int)) (List.range n)
theorem marksM_succ (n : Nat) : marksM (n + 1) = marksM n ++ [markM 90 n] := by simp [marksM, List.range_succ]
theorem marksM_length (n : Nat) : (marksM n).length = n := by simp [marksM]
theorem marksM_get (n i : Nat) (h : i < n) : (marksM n)[i]? = some (markM 90 i) := by simp [marksM, h]
set_option maxHeartbeats 4000000 in
set_option maxRecDepth 100000 in
theorem fullM_p (es : List MkZ) (v : Value) (w : World) (hv : MksAt w v es) (hl : es.length ≤ 5864062014634) : Calls Tryz.prog 117 #[v] w fun e w' => ∃ u, e = .returned u ∧ w'.ownsRow w.heap.size 73 3 u (es.length + 16) (clM (es ++ marksM 16)) ∧ Below w.heap.size w w' := by
  obtain ⟨i0, hi, hz0, hz1, hz2⟩ := info_parts infoM
  obtain ⟨a, cap, b, o, rfl, ha, hcap, hc⟩ := hv
  go_enter Tryz.func117, Tryz.ntmps117
  go_wp2
  go_loopw [3, 4] (fun v i wr => ∃ k : Nat, i = .int .i64 k ∧ k ≤ es.length ∧ wr.ownsRow w.heap.size 73 3 v (es.take k).length (clM (es.take k)) ∧ Below w.heap.size w wr) (fun _ i _ => es.length - (intOf i).toNat)
  case atStart => exact ⟨0, rfl, Nat.zero_le _, World.ownsRow_nil _ _ _ _, Below.refl _ _⟩
  case round =>
    obtain ⟨k, rfl, hk, hown, hB⟩ := hrel
    have hsz := hB.size
    by_cases hlt : k < es.length
    · have hlt' : (k : Int) < (es.length : Int) := by omega
      have hk0 : (0 : Int) ≤ (k : Int) := by omega
      obtain ⟨x, hx⟩ : ∃ x, es[k]? = some x := ⟨_, List.getElem?_eq_getElem hlt⟩
      obtain rfl := ha (fun e => by rw [e] at hlt; simp at hlt)
      obtain ⟨c0, c1, c2⟩ := (hc k x hx).below hB
      have hlk : (es.take k).length + 1 ≤ es.length := by rw [List.length_take]; omega
      have HX : Hid (es.take (k + 1) = es.take k ++ [x]) := by unfold Hid; rw [List.take_add_one, hx]; rfl
      clear hx hc ha
      go_wp2_with (at_builtin; refine wpList_append_own _ rfl _ _ 61 rfl w.heap.size 73 i0 (.agg #[.int .i64 0, .int .i64 0, .int .i64 0]) 3 24 Tryz.underlying61 hi hz0 hz1 hz2 rfl (by decide) _ _ _ rfl (hown.alloc _) ⟨wr.heap.size, 0, none⟩ 1 1 (csM x) rfl rfl (newM wr _ x) (oneM x) (by unfold maxLen; omega) (by omega) (by simp; omega) ?_; intro v1 w1 hown1 hgrow1 _)
      have hb1 : Below w.heap.size w w1 := (hB.alloc hsz _).grown hgrow1 (by simp; omega) (fun j hj => own_geG hown j hj.symm)
      have hown2 : w1.ownsRow w.heap.size 73 3 v1 (es.take (k + 1)).length (clM (es.take (k + 1))) := by
        rw [HX.out, clM_append, List.length_append]; simpa [clM] using hown1
      clear hown1 hgrow1 hown
      go_roundw
      case rel => exact ⟨k + 1, by go_num, by omega, hown2, hb1⟩
      case measure => simp [intOf]; omega
    · have hge : ¬ (k : Int) < (es.length : Int) := by omega
      have hall : es.take k = es := List.take_of_length_le (by omega)
      rw [hall] at hown
      clear ha hc
      go_wp2_with fail
      go_loopw [3, 5] (fun v i wr => ∃ m : Nat, i = .int .i64 m ∧ m ≤ 16 ∧ wr.ownsRow w.heap.size 73 3 v (es ++ marksM m).length (clM (es ++ marksM m)) ∧ Below w.heap.size w wr) (fun _ i _ => 16 - (intOf i).toNat)
      case atStart => exact ⟨0, rfl, Nat.zero_le _, by rw [show marksM 0 = [] from rfl, List.append_nil]; exact hown, hB⟩
      case round =>
        clear hown hB hsz
        obtain ⟨m, rfl, hm, hown, hB⟩ := hrel
        by_cases hlt : m < 16
        · have hlt' : (m : Int) < 16 := by omega
          have hM := fun W => markM_p 90 m (by decide) (by decide) (by omega) (by omega) W
          have HX : Hid (es ++ marksM (m + 1) = (es ++ marksM m) ++ [markM 90 m]) := by unfold Hid; rw [marksM_succ, ← List.append_assoc]
          have hln : (es ++ marksM m).length + 1 ≤ 5864062014634 + 16 := by rw [List.length_append, marksM_length]; omega
          generalize markM 90 (m : Int) = x at *
          go_wp2_with (first
            | (go_at_call 110; refine (hM _).mono ?_; rintro e w1 ⟨rfl, b1⟩; have hown1 := own_upG hown b1; have hB1 := hB.trans (b1.mono hB.size); have hs1 := hB1.size)
            | (at_builtin; refine wpList_append_own _ rfl _ _ 61 rfl w.heap.size 73 i0 (.agg #[.int .i64 0, .int .i64 0, .int .i64 0]) 3 24 Tryz.underlying61 hi hz0 hz1 hz2 rfl (by decide) _ _ _ rfl (hown1.alloc _) ⟨w1.heap.size, 0, none⟩ 1 1 (csM x) rfl rfl (newM w1 _ x) (oneM x) (by unfold maxLen; omega) (by omega) (by simp; omega) ?_; intro v1 w2 hown2 hgrow2 _))
          have hb2 : Below w.heap.size w w2 := (hB1.alloc hs1 _).grown hgrow2 (by simp; omega) (fun j hj => own_geG hown1 j hj.symm)
          have hown3 : w2.ownsRow w.heap.size 73 3 v1 (es ++ marksM (m + 1)).length (clM (es ++ marksM (m + 1))) := by
            rw [HX.out, clM_append, List.length_append]; simpa [clM] using hown2
          clear hown1 hgrow2 hown2 hown
          go_roundw
          case rel => exact ⟨m + 1, by go_num, by omega, hown3, hb2⟩
          case measure => simp [intOf]; omega
        · have hge2 : ¬ (m : Int) < 16 := by omega
          have hm16 : m = 16 := by omega
          rw [hm16, List.length_append, marksM_length] at hown
          have HW : Hid _ := hown
          clear hown hm16
          go_wp2
          go_ret
          exact ⟨_, rfl, HW.out, hB⟩
/-- A list that was lent: its elements, and sixteen marks behind them. -/
def LentM (w : World) (v : Value) (es : List MkZ) : Prop :=
  ∃ g cap, v = .slice (some ⟨g, 0, none⟩) es.length cap ∧ es.length + 16 ≤ cap ∧ cap ≤ maxLen ∧ ∀ j x, (es ++ marksM 16)[j]? = some x → MkC w g (j * 3) x
theorem LentM.below {w w' : World} {v : Value} {es : List MkZ} (h : LentM w v es) (hb : Below w.heap.size w w') : LentM w' v es := by
  obtain ⟨g, cap, rfl, hc, hm, h3⟩ := h
  exact ⟨g, cap, rfl, hc, hm, fun j x hx => (h3 j x hx).below hb⟩
theorem LentM.keep {w w' : World} {v : Value} {es : List MkZ} (h : LentM w v es) (hk : ∀ g, v.ownBlock = some g → w'.heap[g]? = w.heap[g]?) : LentM w' v es := by
  obtain ⟨g, cap, rfl, hc, hm, h3⟩ := h
  have e : ∀ q, w'.cell? ⟨g, q, none⟩ = w.cell? ⟨g, q, none⟩ := fun q => by simp [World.cell?, hk g rfl]
  exact ⟨g, cap, rfl, hc, hm, fun j x hx => ⟨(e _).trans (h3 j x hx).c0, (e _).trans (h3 j x hx).c1, (e _).trans (h3 j x hx).c2⟩⟩
theorem LentM.sl {w : World} {v : Value} {es : List MkZ} (h : LentM w v es) : ∃ a l c, v = .slice a l c := by
  obtain ⟨g, cap, rfl, _⟩ := h
  exact ⟨_, _, _, rfl⟩
theorem LentM.at {w : World} {v : Value} {es : List MkZ} (h : LentM w v es) : MksAt w v es := by
  obtain ⟨g, cap, rfl, hc, _, h3⟩ := h
  refine ⟨_, cap, g, 0, rfl, fun _ => rfl, by omega, fun i x hx => ?_⟩
  rw [Nat.zero_add]
  exact h3 i x (by rw [List.getElem?_append_left (List.getElem?_eq_some_iff.1 hx).1]; exact hx)
set_option maxHeartbeats 2000000 in
set_option maxRecDepth 100000 in
theorem lentM_p (es : List MkZ) (v : Value) (w : World) (hv : MksAt w v es) (hl : es.length ≤ 5864062014634) : Calls Tryz.prog 71 #[v] w fun e w' => ∃ u, e = .returned u ∧ LentM w' u es ∧ (∀ j, u.ownBlock = some j → w.heap.size ≤ j) ∧ Below w.heap.size w w' := by
  have hF := fullM_p es v w hv hl
  obtain ⟨a, cap0, b, o, rfl, ha, _, hc⟩ := hv
  clear hc ha
  go_enter Tryz.func71, Tryz.ntmps71
  go_wp2_with fail
  refine hF.mono ?_
  rintro e w1 ⟨u, rfl, hown, b1⟩
  have hown2 : w1.ownsRow w.heap.size 73 3 u (es ++ marksM 16).length (clM (es ++ marksM 16)) := by rw [List.length_append, marksM_length]; exact hown
  obtain ⟨a3, cap3, b3, o3, h31, h32, h33, h34⟩ := at_of_ownsM hown2
  rcases hown.2 with ⟨_, h0⟩ | ⟨g, cap, cur, rfl, hgb, hgg, hcap, hmax, hcs, htk⟩
  · omega
  have hne : es ++ marksM 16 ≠ [] := fun e => by have := congrArg List.length e; rw [List.length_append, marksM_length] at this; simp at this
  have e3 := h32 hne
  rw [e3] at h31
  injection h31 with h311 h312 h313
  injection h311 with h311
  injection h311 with h3a h3b
  subst h3a; subst h3b; subst h313
  clear h312
  have HI : Hid (LentM w1 (.slice (some ⟨g, 0, none⟩) es.length cap) es) := ⟨g, cap, rfl, hcap, hmax, fun j x hx => by have := h34 j x hx; rw [Nat.zero_add] at this; exact this⟩
  clear hown hown2 h34 h32 hgg htk
  unfold maxLen at hmax
  have d1 : (0 : Int) ≤ (es.length : Int) := by omega
  have d2 : (es.length : Int) ≤ (cap : Int) := by omega
  go_wp2
  go_ret
  exact ⟨_, rfl, HI.out, (fun j hj => by simp [Value.ownBlock] at hj; omega), b1⟩
theorem mark_atM {es : List MkZ} {k : Nat} {x : MkZ} (hx : (es ++ marksM 16)[k]? = some x) (hk : ¬ k < es.length) (h2 : k < es.length + 16) : x = markM 90 ((k : Int) - (es.length : Int)) := by
  rw [List.getElem?_append_right (by omega), marksM_get _ _ (by omega)] at hx
  have e9 : ((k - es.length : Nat) : Int) = (k : Int) - (es.length : Int) := by omega
  rw [← Option.some.inj hx, e9]
set_option maxHeartbeats 2000000 in
set_option maxRecDepth 100000 in
theorem keptfullM_p (es : List MkZ) (g cap : Nat) (v : Value) (w : World) (hv : MksAt w v es) (hl : es.length ≤ 5864062014634) (hG : ∀ j x, (es ++ marksM 16)[j]? = some x → MkC w g (j * 3) x) : Calls Tryz.prog 119 #[.slice (some ⟨g, 0, none⟩) (es.length + 16) cap, v] w fun e w' => e = .returned (.bool true) ∧ Below w.heap.size w w' := by
  obtain ⟨a, cap2, b, o, rfl, ha, hcap, hc⟩ := hv
  have HC : Hid (∀ W i e, es[i]? = some e → Below w.heap.size w W → MkC W b (o + i * 3) e) := fun W i e he bb => (hc i e he).below bb
  have HGC : Hid (∀ W j x, (es ++ marksM 16)[j]? = some x → Below w.heap.size w W → MkC W g (j * 3) x) := fun W j x hx bb => (hG j x hx).below bb
  have hinf : (Tryz.prog.info? 73).map (·.size) = some 3 := by kernel_rfl
  clear hc hG
  go_enter Tryz.func119, Tryz.ntmps119
  go_wp2_with fail
  go_loopw [5, 6] (fun n _ wr => ∃ k : Nat, k ≤ es.length + 16 ∧ n = .int .i64 k ∧ Below w.heap.size w wr) (fun n _ _ => es.length + 16 - (intOf n).toNat)
  case atStart => exact ⟨0, Nat.zero_le _, rfl, Below.refl _ _⟩
  case round =>
    obtain ⟨k, hk, rfl, hB⟩ := hrel
    by_cases hlt : k < es.length + 16
    · have hlt' : (k : Int) < (es.length : Int) + 16 := by omega
      have hk0 : (0 : Int) ≤ (k : Int) := by omega
      obtain ⟨x, hx⟩ : ∃ x, (es ++ marksM 16)[k]? = some x := ⟨_, List.getElem?_eq_getElem (by rw [List.length_append, marksM_length]; exact hlt)⟩
      have HX : Hid _ := hx
      have hM := fun W => markM_p 90 ((k : Int) - (es.length : Int)) (by decide) (by decide) (by omega) (by omega) W
      have HMA : Hid (¬ k < es.length → markM 90 ((k : Int) - (es.length : Int)) = x) := fun h => (mark_atM hx h hlt).symm
      have heq := fun W => eqM x W
      by_cases hin : k < es.length
      · have hin' : (k : Int) < (es.length : Int) := by omega
        have hx2 : es[k]? = some x := by rwa [List.getElem?_append_left hin] at hx
        obtain rfl := ha (fun e => by rw [e] at hin; simp at hin)
        clear HMA hx
        generalize markM 90 ((k : Int) - (es.length : Int)) = y at *
        go_upto_region 7 with (go_at_call 110; refine (hM _).mono ?_; rintro e w1 ⟨rfl, b1⟩)
        have B1 := hB.trans (b1.mono hB.size)
        have L2 := Lies.new w1 73 #[.int .i64 y.pos, .int .i64 y.line, .int .i64 y.col]
        have B2 : Below w.heap.size w (w1.alloc (.cells #[.int .i64 y.pos, .int .i64 y.line, .int .i64 y.col] 73)) := B1.alloc B1.size _
        have hge : w.heap.size ≤ w1.heap.size := B1.size
        clear b1 hM B1
        generalize (w1.alloc (.cells #[.int .i64 y.pos, .int .i64 y.line, .int .i64 y.col] 73)) = W2 at *
        generalize w1.heap.size = ge at *
        obtain ⟨c0, c1, c2⟩ := HC.out W2 k x hx2 B2
        have hone : (#[.int .i64 x.pos, .int .i64 x.line, .int .i64 x.col] : Array Value).all (·.oneCell') = true := by simp [Value.oneCell']
        clear hx2
        go_upto_region 9 with (first | (refine wpList_store_row rfl 73 (.tmp 6) (.tmp 31) rfl ge #[.int .i64 x.pos, .int .i64 x.line, .int .i64 x.col] rfl rfl 73 #[.int .i64 y.pos, .int .i64 y.line, .int .i64 y.col] L2 hinf rfl hone ?_))
        have L3 : Lies (W2.setRow ge #[.int .i64 x.pos, .int .i64 x.line, .int .i64 x.col]) ge 73 #[.int .i64 x.pos, .int .i64 x.line, .int .i64 x.col] := setRow_heap W2 ge _ _ _ (0, 0) L2
        have B3 : Below w.heap.size w (W2.setRow ge #[.int .i64 x.pos, .int .i64 x.line, .int .i64 x.col]) := below_setRow B2 hge _
        clear c0 c1 c2 L2
        generalize (W2.setRow ge #[.int .i64 x.pos, .int .i64 x.line, .int .i64 x.col]) = W3 at *
        obtain ⟨d0, d1, d2⟩ := HGC.out W3 k x HX.out B3
        have f0 := L3.cell (i := 0) rfl
        have f1 := L3.cell (i := 1) rfl
        have f2 := L3.cell (i := 2) rfl
        clear L3
        go_wp2
        try (go_quiet (fail))
        try go_wp2
        go_roundw
        case rel => exact ⟨k + 1, by omega, by go_num, B3.trans ⟨rfl, rfl, rfl, Nat.le_refl _, fun _ _ => rfl⟩⟩
        case measure => simp [intOf]; omega
      · have hin' : ¬ (k : Int) < (es.length : Int) := by omega
        have hy := HMA.out hin
        rw [hy] at hM
        clear HMA hx hy
        go_upto_region 7 with (go_at_call 110; refine (hM _).mono ?_; rintro e w1 ⟨rfl, b1⟩)
        have B1 := hB.trans (b1.mono hB.size)
        have L3 := Lies.new w1 73 #[.int .i64 x.pos, .int .i64 x.line, .int .i64 x.col]
        have B3 : Below w.heap.size w (w1.alloc (.cells #[.int .i64 x.pos, .int .i64 x.line, .int .i64 x.col] 73)) := B1.alloc B1.size _
        clear b1 hM B1
        generalize (w1.alloc (.cells #[.int .i64 x.pos, .int .i64 x.line, .int .i64 x.col] 73)) = W3 at *
        generalize w1.heap.size = ge at *
        obtain ⟨d0, d1, d2⟩ := HGC.out W3 k x HX.out B3
        have f0 := L3.cell (i := 0) rfl
        have f1 := L3.cell (i := 1) rfl
        have f2 := L3.cell (i := 2) rfl
        clear L3
        go_wp2
        try (go_quiet (fail))
        try go_wp2
        go_roundw
        case rel => exact ⟨k + 1, by omega, by go_num, B3.trans ⟨rfl, rfl, rfl, Nat.le_refl _, fun _ _ => rfl⟩⟩
        case measure => simp [intOf]; omega
    · have hge : ¬ (k : Int) < (es.length : Int) + 16 := by omega
      go_wp2
      go_ret
      exact ⟨rfl, hB⟩
set_option maxHeartbeats 2000000 in
set_option maxRecDepth 100000 in
theorem keptM_p (es : List MkZ) (u v : Value) (w : World) (hu : LentM w u es) (hv : MksAt w v es) (hl : es.length ≤ 5864062014634) : Calls Tryz.prog 73 #[u, v] w fun e w' => e = .returned (.bool true) ∧ Below w.heap.size w w' := by
  obtain ⟨g, cap, rfl, hcap, _, hG⟩ := hu
  have hK := keptfullM_p es g cap v w hv hl hG
  obtain ⟨a, cap2, b, o, rfl, ha, _, hc⟩ := hv
  clear hc hG ha
  have d1 : (0 : Int) ≤ (es.length : Int) + 16 := by omega
  have d2 : (es.length : Int) + 16 ≤ (cap : Int) := by omega
  go_enter Tryz.func73, Tryz.ntmps73
  go_wp2_with fail
  refine hK.mono ?_
  rintro e w1 ⟨rfl, b1⟩
  go_wp2
  go_ret
  exact ⟨rfl, b1⟩
end Go.Proofs.YtjgijbeedgggdaaGreatDoor

namespace Go.Proofs.YtjgijbeedgggdaaGreatDoor
open Go Go.RowKit

structure DcZ where
  name : ByteArray
  raw : Bool
  line : Int
  text : ByteArray
def csD (x : DcZ) : List Value := [.string x.name, .bool x.raw, .int .i64 x.line, .string x.text]
def clD (xs : List DcZ) : List Value := xs.flatMap csD
theorem clD_cons (e : DcZ) (es : List DcZ) : clD (e :: es) = csD e ++ clD es := rfl
theorem clD_length (es : List DcZ) : (clD es).length = es.length * 4 := by
  induction es with
  | nil => rfl
  | cons e es ih => rw [clD_cons, List.length_append, ih, List.length_cons, show (csD e).length = 4 from rfl]; omega
theorem clD_append (a b : List DcZ) : clD (a ++ b) = clD a ++ clD b := by simp [clD]
theorem clD_get : ∀ (es : List DcZ) (k : Nat) (e : DcZ), es[k]? = some e → ∀ j v, (csD e)[j]? = some v → (clD es)[k * 4 + j]? = some v
  | [], k, e, h => by simp at h
  | x :: es, 0, e, h => fun j v hj => by
    simp at h; subst h
    have : j < (csD x).length := (List.getElem?_eq_some_iff.1 hj).1
    rw [clD_cons, Nat.zero_mul, Nat.zero_add, List.getElem?_append_left this]; exact hj
  | x :: es, k + 1, e, h => fun j v hj => by
    rw [clD_cons, List.getElem?_append_right (by show 4 ≤ _; omega), show (k + 1) * 4 + j - (csD x).length = k * 4 + j by show (k + 1) * 4 + j - 4 = _; omega]
    exact clD_get es k e (by simpa using h) j v hj
theorem infoD : (Tryz.prog.info? 133).map (fun i => (i.zero, i.size, i.bytes)) = some (some (.agg #[.string ⟨#[]⟩, .bool false, .int .i64 0, .string ⟨#[]⟩]), 4, 48) := by kernel_rfl
structure DzC (W : World) (b q : Nat) (e : DcZ) : Prop where
  c0 : W.cell? ⟨b, q, none⟩ = some (.string e.name)
  c1 : W.cell? ⟨b, q + 1, none⟩ = some (.bool e.raw)
  c2 : W.cell? ⟨b, q + 2, none⟩ = some (.int .i64 e.line)
  c3 : W.cell? ⟨b, q + 3, none⟩ = some (.string e.text)
theorem DzC.below {W W2 : World} {b q : Nat} {e : DcZ} (h : DzC W b q e) (hb : Below W.heap.size W W2) : DzC W2 b q e := by
  have hl := World.block_lt_of_cell? W _ h.c0
  exact ⟨(hb.cell (p := ⟨b, q, none⟩) hl).trans h.c0, (hb.cell (p := ⟨b, q + 1, none⟩) hl).trans h.c1, (hb.cell (p := ⟨b, q + 2, none⟩) hl).trans h.c2, (hb.cell (p := ⟨b, q + 3, none⟩) hl).trans h.c3⟩
/-- A list of them that is read. -/
def DzsAt (W : World) (v : Value) (es : List DcZ) : Prop :=
  ∃ (a : Option Addr) (cap b o : Nat), v = .slice a es.length cap ∧ (es ≠ [] → a = some ⟨b, o, none⟩) ∧ es.length ≤ cap ∧ ∀ i e, es[i]? = some e → DzC W b (o + i * 4) e
theorem DzsAt.below {W W2 : World} {v : Value} {es : List DcZ} (h : DzsAt W v es) (hb : Below W.heap.size W W2) : DzsAt W2 v es := by
  obtain ⟨a, cap, b, o, h1, h2, h3, h4⟩ := h
  exact ⟨a, cap, b, o, h1, h2, h3, fun i e he => (h4 i e he).below hb⟩
theorem at_of_ownsD {W : World} {base : Nat} {v : Value} {es : List DcZ} (h : W.ownsRow base 133 4 v es.length (clD es)) : DzsAt W v es := by
  rcases h.2 with ⟨rfl, h0⟩ | ⟨g, cap, cur, rfl, hg, hgb, hcap, _⟩
  · have : es = [] := List.eq_nil_of_length_eq_zero h0
    subst this
    exact ⟨none, 0, 0, 0, rfl, fun h => absurd rfl h, Nat.le_refl _, fun i e he => by simp at he⟩
  · refine ⟨some ⟨g, 0, none⟩, cap, g, 0, rfl, fun _ => rfl, hcap, fun i e he => ?_⟩
    have hi := (List.getElem?_eq_some_iff.1 he).1
    have hc : ∀ j v, (csD e)[j]? = some v → W.cell? ⟨g, 0 + i * 4 + j, none⟩ = some v := fun j v hj => by
      have hj2 : j < 4 := (List.getElem?_eq_some_iff.1 hj).1
      rw [Nat.zero_add, h.cellAt (i * 4 + j) (by omega)]
      exact clD_get es i e he j v hj
    exact ⟨hc 0 _ rfl, hc 1 _ rfl, hc 2 _ rfl, hc 3 _ rfl⟩
theorem newD (W : World) (t : TypeId) (e : DcZ) : ∀ j u, (csD e)[j]? = some u → (W.alloc (.cells #[.string e.name, .bool e.raw, .int .i64 e.line, .string e.text] t)).cell? ((⟨W.heap.size, 0, none⟩ : Addr).add j) = some u := by
  intro j u hj
  rw [Addr.add_mid, Nat.zero_add]
  unfold World.cell?
  rw [World.alloc_heap_new]
  simpa [csD] using hj
theorem oneD (e : DcZ) : ∀ u ∈ csD e, u.oneCell' = true := by
  intro u hu
  simp [csD] at hu
  rcases hu with rfl | rfl | rfl | rfl <;> rfl
def vaD (e : DcZ) : Array Value := #[.string e.name, .bool e.raw, .int .i64 e.line, .string e.text]
set_option maxRecDepth 100000 in
theorem eqD (a : DcZ) (w : World) : (Op.equalIn 10000 133 (.agg #[.string a.name, .bool a.raw, .int .i64 a.line, .string a.text]) (.agg #[.string a.name, .bool a.raw, .int .i64 a.line, .string a.text])).run Tryz.prog w = .ok true w := by
  show (Op.equalIn 10000 133 (.agg (vaD a)) (.agg (vaD a))).run Tryz.prog w = .ok true w
  rw [run_equalIn_struct w 9999 133 (vaD a) (vaD a) (by kernel_rfl) (by kernel_rfl)]
  have hs : ∀ x y : ByteArray, (Op.equalIn 9999 9 (.string x) (.string y)).run Tryz.prog w = .ok (x.toList == y.toList) w := fun x y => run_equalIn_string w 9998 _ x y Tryz.underlying9
  have hi : ∀ x y : Int, (Op.equalIn 9999 3 (.int .i64 x) (.int .i64 y)).run Tryz.prog w = .ok (x == y) w := fun x y => run_equalIn_int w 9998 _ .i64 .i64 _ _ Tryz.underlying3
  have hb : ∀ x y : Bool, (Op.equalIn 9999 4 (.bool x) (.bool y)).run Tryz.prog w = .ok (x == y) w := fun x y => run_equalIn_bool w 9998 _ x y Tryz.underlying4
  have pt : ∀ (k : Nat) (v : Value) (t : TypeId), (isAgg t).run Tryz.prog w = .ok false w → (vaD a)[k]? = some v → (part t (vaD a) k).run Tryz.prog w = .ok v w := fun k v t ht hv => by simp [part, ht, hv]
  have aS := Tryz.isAgg9 w
  have aI := Tryz.isAgg3 w
  have aB := Tryz.isAgg4 w
  rw [show (Tryz.prog.fieldsOf 133) = _ from by unfold Program.fieldsOf; rw [Tryz.underlying133]]
  refine (?_ : _ = Result.ok ((a.name.toList == a.name.toList) && ((a.raw == a.raw) && ((a.line == a.line) && ((a.text.toList == a.text.toList) && true)))) w).trans (by simp)
  exact eqFc 9999 _ _ _ _ _ _ _ _ (by decide) (pt 0 _ _ aS rfl) (pt 0 _ _ aS rfl) (hs _ _) (eqFc 9999 _ _ _ _ _ _ _ _ (by decide) (pt 1 _ _ aB rfl) (pt 1 _ _ aB rfl) (hb _ _) (eqFc 9999 _ _ _ _ _ _ _ _ (by decide) (pt 2 _ _ aI rfl) (pt 2 _ _ aI rfl) (hi _ _) (eqFc 9999 _ _ _ _ _ _ _ _ (by decide) (pt 3 _ _ aS rfl) (pt 3 _ _ aS rfl) (hs _ _) (eqFn _ _ _))))
/-- A mark in a list of documents. -/
def markD (k i : Int) : DcZ := ⟨mkTx k i, false, -7, ⟨#[]⟩⟩
set_option maxRecDepth 100000 in
set_option maxHeartbeats 2000000 in
theorem markD_p (k i : Int) (_h0 : 0 ≤ k) (_h1 : k ≤ 1000000) (w : World) : Calls Tryz.prog 111 #[.int .i64 k, .int .i64 i] w fun e w' => e = .returned (.agg #[.string (markD k i).name, .bool (markD k i).raw, .int .i64 (markD k i).line, .string (markD k i).text]) ∧ Below w.heap.size w w' := by
  have b0 : Below w.heap.size w (w.alloc (.cells #[.string ⟨#[]⟩, .bool false, .int .i64 0, .string ⟨#[]⟩] 133)) := (Below.refl _ w).alloc (Nat.le_refl _) _
  have L0 := Lies.new w 133 #[.string ⟨#[]⟩, .bool false, .int .i64 0, .string ⟨#[]⟩]
  have hinf : (Tryz.prog.info? 133).map (·.size) = some 4 := by kernel_rfl
  have hone : (#[.string (mkTx k i), .bool false, .int .i64 (-7), .string ⟨#[]⟩] : Array Value).all (·.oneCell') = true := by simp [Value.oneCell']
  go_enter Tryz.func111, Tryz.ntmps111
  go_wp2_with (first
    | (go_at_call 161; refine (mkTx_p k i _).mono ?_; rintro e w1 ⟨rfl, b1⟩; have L1 := L0.below b1)
    | (refine wpList_store_row rfl 133 (.tmp 4) (.tmp 8) rfl w.heap.size #[.string (mkTx k i), .bool false, .int .i64 (-7), .string ⟨#[]⟩] rfl rfl 133 #[.string ⟨#[]⟩, .bool false, .int .i64 0, .string ⟨#[]⟩] L1 hinf rfl hone ?_))
  dsimp only [Act.put]
  refine bodyPost_ret (results_cell_row rfl _ _ w.heap.size 133 #[.string (mkTx k i), .bool false, .int .i64 (-7), .string ⟨#[]⟩] (0, 0) _ rfl (setRow_heap w1 w.heap.size _ _ _ (0, 0) L1) Tryz.underlying133 rfl hinf) rfl ?_
  exact ⟨rfl, below_setRow (b0.trans (b1.mono b0.size)) (Nat.le_refl _) _⟩
def marksD (n : Nat) : List DcZ := List.map (fun i : Nat => markD 90 (i : Int)) (List.range n)
theorem marksD_succ (n : Nat) : marksD (n + 1) = marksD n ++ [markD 90 n] := by simp [marksD, List.range_succ]
theorem marksD_length (n : Nat) : (marksD n).length = n := by simp [marksD]
theorem marksD_get (n i : Nat) (h : i < n) : (marksD n)[i]? = some (markD 90 i) := by simp [marksD, h]
set_option maxHeartbeats 4000000 in
set_option maxRecDepth 100000 in
theorem fullD_p (es : List DcZ) (v : Value) (w : World) (hv : DzsAt w v es) (hl : es.length ≤ 2932031007317) : Calls Tryz.prog 118 #[v] w fun e w' => ∃ u, e = .returned u ∧ w'.ownsRow w.heap.size 133 4 u (es.length + 16) (clD (es ++ marksD 16)) ∧ Below w.heap.size w w' := by
  obtain ⟨i0, hi, hz0, hz1, hz2⟩ := info_parts infoD
  obtain ⟨a, cap, b, o, rfl, ha, hcap, hc⟩ := hv
  go_enter Tryz.func118, Tryz.ntmps118
  go_wp2
  go_loopw [3, 4] (fun v i wr => ∃ k : Nat, i = .int .i64 k ∧ k ≤ es.length ∧ wr.ownsRow w.heap.size 133 4 v (es.take k).length (clD (es.take k)) ∧ Below w.heap.size w wr) (fun _ i _ => es.length - (intOf i).toNat)
  case atStart => exact ⟨0, rfl, Nat.zero_le _, World.ownsRow_nil _ _ _ _, Below.refl _ _⟩
  case round =>
    obtain ⟨k, rfl, hk, hown, hB⟩ := hrel
    have hsz := hB.size
    by_cases hlt : k < es.length
    · have hlt' : (k : Int) < (es.length : Int) := by omega
      have hk0 : (0 : Int) ≤ (k : Int) := by omega
      obtain ⟨x, hx⟩ : ∃ x, es[k]? = some x := ⟨_, List.getElem?_eq_getElem hlt⟩
      obtain rfl := ha (fun e => by rw [e] at hlt; simp at hlt)
      obtain ⟨c0, c1, c2, c3⟩ := (hc k x hx).below hB
      have hlk : (es.take k).length + 1 ≤ es.length := by rw [List.length_take]; omega
      have HX : Hid (es.take (k + 1) = es.take k ++ [x]) := by unfold Hid; rw [List.take_add_one, hx]; rfl
      clear hx hc ha
      go_wp2_with (at_builtin; refine wpList_append_own _ rfl _ _ 62 rfl w.heap.size 133 i0 (.agg #[.string ⟨#[]⟩, .bool false, .int .i64 0, .string ⟨#[]⟩]) 4 48 Tryz.underlying62 hi hz0 hz1 hz2 rfl (by decide) _ _ _ rfl (hown.alloc _) ⟨wr.heap.size, 0, none⟩ 1 1 (csD x) rfl rfl (newD wr _ x) (oneD x) (by unfold maxLen; omega) (by omega) (by simp; omega) ?_; intro v1 w1 hown1 hgrow1 _)
      have hb1 : Below w.heap.size w w1 := (hB.alloc hsz _).grown hgrow1 (by simp; omega) (fun j hj => own_geG hown j hj.symm)
      have hown2 : w1.ownsRow w.heap.size 133 4 v1 (es.take (k + 1)).length (clD (es.take (k + 1))) := by
        rw [HX.out, clD_append, List.length_append]; simpa [clD] using hown1
      clear hown1 hgrow1 hown
      go_roundw
      case rel => exact ⟨k + 1, by go_num, by omega, hown2, hb1⟩
      case measure => simp [intOf]; omega
    · have hge : ¬ (k : Int) < (es.length : Int) := by omega
      have hall : es.take k = es := List.take_of_length_le (by omega)
      rw [hall] at hown
      clear ha hc
      go_wp2_with fail
      go_loopw [3, 5] (fun v i wr => ∃ m : Nat, i = .int .i64 m ∧ m ≤ 16 ∧ wr.ownsRow w.heap.size 133 4 v (es ++ marksD m).length (clD (es ++ marksD m)) ∧ Below w.heap.size w wr) (fun _ i _ => 16 - (intOf i).toNat)
      case atStart => exact ⟨0, rfl, Nat.zero_le _, by rw [show marksD 0 = [] from rfl, List.append_nil]; exact hown, hB⟩
      case round =>
        clear hown hB hsz
        obtain ⟨m, rfl, hm, hown, hB⟩ := hrel
        by_cases hlt : m < 16
        · have hlt' : (m : Int) < 16 := by omega
          have hM := fun W => markD_p 90 m (by decide) (by decide) W
          have HX : Hid (es ++ marksD (m + 1) = (es ++ marksD m) ++ [markD 90 m]) := by unfold Hid; rw [marksD_succ, ← List.append_assoc]
          have hln : (es ++ marksD m).length + 1 ≤ 2932031007317 + 16 := by rw [List.length_append, marksD_length]; omega
          generalize markD 90 (m : Int) = x at *
          go_wp2_with (first
            | (go_at_call 111; refine (hM _).mono ?_; rintro e w1 ⟨rfl, b1⟩; have hown1 := own_upG hown b1; have hB1 := hB.trans (b1.mono hB.size); have hs1 := hB1.size)
            | (at_builtin; refine wpList_append_own _ rfl _ _ 62 rfl w.heap.size 133 i0 (.agg #[.string ⟨#[]⟩, .bool false, .int .i64 0, .string ⟨#[]⟩]) 4 48 Tryz.underlying62 hi hz0 hz1 hz2 rfl (by decide) _ _ _ rfl (hown1.alloc _) ⟨w1.heap.size, 0, none⟩ 1 1 (csD x) rfl rfl (newD w1 _ x) (oneD x) (by unfold maxLen; omega) (by omega) (by simp; omega) ?_; intro v1 w2 hown2 hgrow2 _))
          have hb2 : Below w.heap.size w w2 := (hB1.alloc hs1 _).grown hgrow2 (by simp; omega) (fun j hj => own_geG hown1 j hj.symm)
          have hown3 : w2.ownsRow w.heap.size 133 4 v1 (es ++ marksD (m + 1)).length (clD (es ++ marksD (m + 1))) := by
            rw [HX.out, clD_append, List.length_append]; simpa [clD] using hown2
          clear hown1 hgrow2 hown2 hown
          go_roundw
          case rel => exact ⟨m + 1, by go_num, by omega, hown3, hb2⟩
          case measure => simp [intOf]; omega
        · have hge2 : ¬ (m : Int) < 16 := by omega
          have hm16 : m = 16 := by omega
          rw [hm16, List.length_append, marksD_length] at hown
          have HW : Hid _ := hown
          clear hown hm16
          go_wp2
          go_ret
          exact ⟨_, rfl, HW.out, hB⟩
/-- A list that was lent: its elements, and sixteen marks behind them. -/
def LentD (w : World) (v : Value) (es : List DcZ) : Prop :=
  ∃ g cap, v = .slice (some ⟨g, 0, none⟩) es.length cap ∧ es.length + 16 ≤ cap ∧ cap ≤ maxLen ∧ ∀ j x, (es ++ marksD 16)[j]? = some x → DzC w g (j * 4) x
theorem LentD.below {w w' : World} {v : Value} {es : List DcZ} (h : LentD w v es) (hb : Below w.heap.size w w') : LentD w' v es := by
  obtain ⟨g, cap, rfl, hc, hm, h3⟩ := h
  exact ⟨g, cap, rfl, hc, hm, fun j x hx => (h3 j x hx).below hb⟩
theorem LentD.keep {w w' : World} {v : Value} {es : List DcZ} (h : LentD w v es) (hk : ∀ g, v.ownBlock = some g → w'.heap[g]? = w.heap[g]?) : LentD w' v es := by
  obtain ⟨g, cap, rfl, hc, hm, h3⟩ := h
  have e : ∀ q, w'.cell? ⟨g, q, none⟩ = w.cell? ⟨g, q, none⟩ := fun q => by simp [World.cell?, hk g rfl]
  exact ⟨g, cap, rfl, hc, hm, fun j x hx => ⟨(e _).trans (h3 j x hx).c0, (e _).trans (h3 j x hx).c1, (e _).trans (h3 j x hx).c2, (e _).trans (h3 j x hx).c3⟩⟩
theorem LentD.sl {w : World} {v : Value} {es : List DcZ} (h : LentD w v es) : ∃ a l c, v = .slice a l c := by
  obtain ⟨g, cap, rfl, _⟩ := h
  exact ⟨_, _, _, rfl⟩
theorem LentD.at {w : World} {v : Value} {es : List DcZ} (h : LentD w v es) : DzsAt w v es := by
  obtain ⟨g, cap, rfl, hc, _, h3⟩ := h
  refine ⟨_, cap, g, 0, rfl, fun _ => rfl, by omega, fun i x hx => ?_⟩
  rw [Nat.zero_add]
  exact h3 i x (by rw [List.getElem?_append_left (List.getElem?_eq_some_iff.1 hx).1]; exact hx)
set_option maxHeartbeats 2000000 in
set_option maxRecDepth 100000 in
theorem lentD_p (es : List DcZ) (v : Value) (w : World) (hv : DzsAt w v es) (hl : es.length ≤ 2932031007317) : Calls Tryz.prog 72 #[v] w fun e w' => ∃ u, e = .returned u ∧ LentD w' u es ∧ (∀ j, u.ownBlock = some j → w.heap.size ≤ j) ∧ Below w.heap.size w w' := by
  have hF := fullD_p es v w hv hl
  obtain ⟨a, cap0, b, o, rfl, ha, _, hc⟩ := hv
  clear hc ha
  go_enter Tryz.func72, Tryz.ntmps72
  go_wp2_with fail
  refine hF.mono ?_
  rintro e w1 ⟨u, rfl, hown, b1⟩
  have hown2 : w1.ownsRow w.heap.size 133 4 u (es ++ marksD 16).length (clD (es ++ marksD 16)) := by rw [List.length_append, marksD_length]; exact hown
  obtain ⟨a3, cap3, b3, o3, h31, h32, h33, h34⟩ := at_of_ownsD hown2
  rcases hown.2 with ⟨_, h0⟩ | ⟨g, cap, cur, rfl, hgb, hgg, hcap, hmax, hcs, htk⟩
  · omega
  have hne : es ++ marksD 16 ≠ [] := fun e => by have := congrArg List.length e; rw [List.length_append, marksD_length] at this; simp at this
  have e3 := h32 hne
  rw [e3] at h31
  injection h31 with h311 h312 h313
  injection h311 with h311
  injection h311 with h3a h3b
  subst h3a; subst h3b; subst h313
  clear h312
  have HI : Hid (LentD w1 (.slice (some ⟨g, 0, none⟩) es.length cap) es) := ⟨g, cap, rfl, hcap, hmax, fun j x hx => by have := h34 j x hx; rw [Nat.zero_add] at this; exact this⟩
  clear hown hown2 h34 h32 hgg htk
  unfold maxLen at hmax
  have d1 : (0 : Int) ≤ (es.length : Int) := by omega
  have d2 : (es.length : Int) ≤ (cap : Int) := by omega
  go_wp2
  go_ret
  exact ⟨_, rfl, HI.out, (fun j hj => by simp [Value.ownBlock] at hj; omega), b1⟩
theorem mark_atD {es : List DcZ} {k : Nat} {x : DcZ} (hx : (es ++ marksD 16)[k]? = some x) (hk : ¬ k < es.length) (h2 : k < es.length + 16) : x = markD 90 ((k : Int) - (es.length : Int)) := by
  rw [List.getElem?_append_right (by omega), marksD_get _ _ (by omega)] at hx
  have e9 : ((k - es.length : Nat) : Int) = (k : Int) - (es.length : Int) := by omega
  rw [← Option.some.inj hx, e9]
set_option maxHeartbeats 2000000 in
set_option maxRecDepth 100000 in
theorem keptfullD_p (es : List DcZ) (g cap : Nat) (v : Value) (w : World) (hv : DzsAt w v es) (hl : es.length ≤ 2932031007317) (hG : ∀ j x, (es ++ marksD 16)[j]? = some x → DzC w g (j * 4) x) : Calls Tryz.prog 120 #[.slice (some ⟨g, 0, none⟩) (es.length + 16) cap, v] w fun e w' => e = .returned (.bool true) ∧ Below w.heap.size w w' := by
  obtain ⟨a, cap2, b, o, rfl, ha, hcap, hc⟩ := hv
  have HC : Hid (∀ W i e, es[i]? = some e → Below w.heap.size w W → DzC W b (o + i * 4) e) := fun W i e he bb => (hc i e he).below bb
  have HGC : Hid (∀ W j x, (es ++ marksD 16)[j]? = some x → Below w.heap.size w W → DzC W g (j * 4) x) := fun W j x hx bb => (hG j x hx).below bb
  have hinf : (Tryz.prog.info? 133).map (·.size) = some 4 := by kernel_rfl
  clear hc hG
  go_enter Tryz.func120, Tryz.ntmps120
  go_wp2_with fail
  go_loopw [5, 6] (fun n _ wr => ∃ k : Nat, k ≤ es.length + 16 ∧ n = .int .i64 k ∧ Below w.heap.size w wr) (fun n _ _ => es.length + 16 - (intOf n).toNat)
  case atStart => exact ⟨0, Nat.zero_le _, rfl, Below.refl _ _⟩
  case round =>
    obtain ⟨k, hk, rfl, hB⟩ := hrel
    by_cases hlt : k < es.length + 16
    · have hlt' : (k : Int) < (es.length : Int) + 16 := by omega
      have hk0 : (0 : Int) ≤ (k : Int) := by omega
      obtain ⟨x, hx⟩ : ∃ x, (es ++ marksD 16)[k]? = some x := ⟨_, List.getElem?_eq_getElem (by rw [List.length_append, marksD_length]; exact hlt)⟩
      have HX : Hid _ := hx
      have hM := fun W => markD_p 90 ((k : Int) - (es.length : Int)) (by decide) (by decide) W
      have HMA : Hid (¬ k < es.length → markD 90 ((k : Int) - (es.length : Int)) = x) := fun h => (mark_atD hx h hlt).symm
      have heq := fun W => eqD x W
      by_cases hin : k < es.length
      · have hin' : (k : Int) < (es.length : Int) := by omega
        have hx2 : es[k]? = some x := by rwa [List.getElem?_append_left hin] at hx
        obtain rfl := ha (fun e => by rw [e] at hin; simp at hin)
        clear HMA hx
        generalize markD 90 ((k : Int) - (es.length : Int)) = y at *
        go_upto_region 7 with (go_at_call 111; refine (hM _).mono ?_; rintro e w1 ⟨rfl, b1⟩)
        have B1 := hB.trans (b1.mono hB.size)
        have L2 := Lies.new w1 133 #[.string y.name, .bool y.raw, .int .i64 y.line, .string y.text]
        have B2 : Below w.heap.size w (w1.alloc (.cells #[.string y.name, .bool y.raw, .int .i64 y.line, .string y.text] 133)) := B1.alloc B1.size _
        have hge : w.heap.size ≤ w1.heap.size := B1.size
        clear b1 hM B1
        generalize (w1.alloc (.cells #[.string y.name, .bool y.raw, .int .i64 y.line, .string y.text] 133)) = W2 at *
        generalize w1.heap.size = ge at *
        obtain ⟨c0, c1, c2, c3⟩ := HC.out W2 k x hx2 B2
        have hone : (#[.string x.name, .bool x.raw, .int .i64 x.line, .string x.text] : Array Value).all (·.oneCell') = true := by simp [Value.oneCell']
        clear hx2
        go_upto_region 9 with (first | (refine wpList_store_row rfl 133 (.tmp 6) (.tmp 31) rfl ge #[.string x.name, .bool x.raw, .int .i64 x.line, .string x.text] rfl rfl 133 #[.string y.name, .bool y.raw, .int .i64 y.line, .string y.text] L2 hinf rfl hone ?_))
        have L3 : Lies (W2.setRow ge #[.string x.name, .bool x.raw, .int .i64 x.line, .string x.text]) ge 133 #[.string x.name, .bool x.raw, .int .i64 x.line, .string x.text] := setRow_heap W2 ge _ _ _ (0, 0) L2
        have B3 : Below w.heap.size w (W2.setRow ge #[.string x.name, .bool x.raw, .int .i64 x.line, .string x.text]) := below_setRow B2 hge _
        clear c0 c1 c2 c3 L2
        generalize (W2.setRow ge #[.string x.name, .bool x.raw, .int .i64 x.line, .string x.text]) = W3 at *
        obtain ⟨d0, d1, d2, d3⟩ := HGC.out W3 k x HX.out B3
        have f0 := L3.cell (i := 0) rfl
        have f1 := L3.cell (i := 1) rfl
        have f2 := L3.cell (i := 2) rfl
        have f3 := L3.cell (i := 3) rfl
        clear L3
        go_wp2
        try (go_quiet (fail))
        try go_wp2
        go_roundw
        case rel => exact ⟨k + 1, by omega, by go_num, B3.trans ⟨rfl, rfl, rfl, Nat.le_refl _, fun _ _ => rfl⟩⟩
        case measure => simp [intOf]; omega
      · have hin' : ¬ (k : Int) < (es.length : Int) := by omega
        have hy := HMA.out hin
        rw [hy] at hM
        clear HMA hx hy
        go_upto_region 7 with (go_at_call 111; refine (hM _).mono ?_; rintro e w1 ⟨rfl, b1⟩)
        have B1 := hB.trans (b1.mono hB.size)
        have L3 := Lies.new w1 133 #[.string x.name, .bool x.raw, .int .i64 x.line, .string x.text]
        have B3 : Below w.heap.size w (w1.alloc (.cells #[.string x.name, .bool x.raw, .int .i64 x.line, .string x.text] 133)) := B1.alloc B1.size _
        clear b1 hM B1
        generalize (w1.alloc (.cells #[.string x.name, .bool x.raw, .int .i64 x.line, .string x.text] 133)) = W3 at *
        generalize w1.heap.size = ge at *
        obtain ⟨d0, d1, d2, d3⟩ := HGC.out W3 k x HX.out B3
        have f0 := L3.cell (i := 0) rfl
        have f1 := L3.cell (i := 1) rfl
        have f2 := L3.cell (i := 2) rfl
        have f3 := L3.cell (i := 3) rfl
        clear L3
        go_wp2
        try (go_quiet (fail))
        try go_wp2
        go_roundw
        case rel => exact ⟨k + 1, by omega, by go_num, B3.trans ⟨rfl, rfl, rfl, Nat.le_refl _, fun _ _ => rfl⟩⟩
        case measure => simp [intOf]; omega
    · have hge : ¬ (k : Int) < (es.length : Int) + 16 := by omega
      go_wp2
      go_ret
      exact ⟨rfl, hB⟩
set_option maxHeartbeats 2000000 in
set_option maxRecDepth 100000 in
theorem keptD_p (es : List DcZ) (u v : Value) (w : World) (hu : LentD w u es) (hv : DzsAt w v es) (hl : es.length ≤ 2932031007317) : Calls Tryz.prog 74 #[u, v] w fun e w' => e = .returned (.bool true) ∧ Below w.heap.size w w' := by
  obtain ⟨g, cap, rfl, hcap, _, hG⟩ := hu
  have hK := keptfullD_p es g cap v w hv hl hG
  obtain ⟨a, cap2, b, o, rfl, ha, _, hc⟩ := hv
  clear hc hG ha
  have d1 : (0 : Int) ≤ (es.length : Int) + 16 := by omega
  have d2 : (es.length : Int) + 16 ≤ (cap : Int) := by omega
  go_enter Tryz.func74, Tryz.ntmps74
  go_wp2_with fail
  refine hK.mono ?_
  rintro e w1 ⟨rfl, b1⟩
  go_wp2
  go_ret
  exact ⟨rfl, b1⟩
end Go.Proofs.YtjgijbeedgggdaaGreatDoor

namespace Go.Proofs.YtjgijbeedgggdaaGreatDoor
open Go Go.ChangeShapes Go.WideShapes Go.RowKit

theorem sizeM : Tryz.prog.cellsOf 73 = 3 := by kernel_rfl
theorem bytesM : Tryz.prog.bytesOf 73 = 24 := by kernel_rfl
set_option maxRecDepth 100000 in
theorem open_oneM {H : Type} {enc : TypeId × Value → H} {W : World} {n : Nat} {cs : List Value} {x : DataW H × List MemPlace} (hlen : cs.length = 3) (hf : DataW.trod enc Tryz.prog W 0 (fun _ => true) true n 73 cs = some x) :
    ∃ c : MkZ, cs = csM c := by
  obtain ⟨xs, n, _, hx, hl, hlen2, hff⟩ := DataW.trod_struct Tryz.underlying73 hf
  obtain ⟨v0, v1, v2, hvs⟩ : ∃ v0 v1 v2, cs = [v0, v1, v2] := by
    match cs, hlen with
    | [v0, v1, v2], _ => exact ⟨v0, v1, v2, rfl⟩
  obtain ⟨y0, y1, y2, hys⟩ : ∃ y0 y1 y2, xs = [y0, y1, y2] := by
    match xs, hlen2 with
    | [y0, y1, y2], _ => exact ⟨y0, y1, y2, rfl⟩
  subst hys
  subst hvs
  have g0 : DataW.trod enc Tryz.prog W 0 (fun _ => true) true n 3 [v0] = some y0 := by
    have e : DataW.trod enc Tryz.prog W 0 (fun _ => true) true n 3 ((([v0, v1, v2] : List Value).drop 0).take (Tryz.prog.cellsOf 3)) = some y0 := hff 0 _ rfl
    rw [show Tryz.prog.cellsOf 3 = 1 by kernel_rfl] at e
    exact e
  have g1 : DataW.trod enc Tryz.prog W 0 (fun _ => true) true n 3 [v1] = some y1 := by
    have e : DataW.trod enc Tryz.prog W 0 (fun _ => true) true n 3 ((([v0, v1, v2] : List Value).drop 1).take (Tryz.prog.cellsOf 3)) = some y1 := hff 1 _ rfl
    rw [show Tryz.prog.cellsOf 3 = 1 by kernel_rfl] at e
    exact e
  have g2 : DataW.trod enc Tryz.prog W 0 (fun _ => true) true n 3 [v2] = some y2 := by
    have e : DataW.trod enc Tryz.prog W 0 (fun _ => true) true n 3 ((([v0, v1, v2] : List Value).drop 2).take (Tryz.prog.cellsOf 3)) = some y2 := hff 2 _ rfl
    rw [show Tryz.prog.cellsOf 3 = 1 by kernel_rfl] at e
    exact e
  clear hff
  obtain ⟨s0, a0, b0, _⟩ := DataW.trod_int Tryz.underlying3 g0
  obtain rfl := (List.cons.inj a0).1
  obtain ⟨s1, a1, b1, _⟩ := DataW.trod_int Tryz.underlying3 g1
  obtain rfl := (List.cons.inj a1).1
  obtain ⟨s2, a2, b2, _⟩ := DataW.trod_int Tryz.underlying3 g2
  obtain rfl := (List.cons.inj a2).1
  exact ⟨⟨s0, s1, s2⟩, rfl⟩
set_option maxRecDepth 100000 in
/-- A list of them among the arguments. -/
theorem open_listM {H : Type} {enc : TypeId × Value → H} {W : World} {fuel : Nat} {v : Value} {x : DataW H × List MemPlace} (hf : DataW.trod enc Tryz.prog W 0 (fun _ => true) true fuel 61 [v] = some x) :
    ∃ l : List MkZ, MksAt W v l ∧ (l.length = 0 ∨ ∃ m ∈ DataW.weights Tryz.prog 61 x.1, l.length * 24 ≤ m) := by
  rcases Go.Deep.open_slice Tryz.underlying61 hf with ⟨hcs, hx⟩ | ⟨a, len, cap, m, n, D, Pl, hcs, _, hl, hm, hmm, hx, hall⟩
  · obtain rfl : v = .slice none 0 0 := by simpa [Value.cells] using hcs
    exact ⟨[], ⟨none, 0, 0, 0, rfl, fun h => absurd rfl h, Nat.le_refl _, fun i x h => by simp at h⟩, .inl rfl⟩
  · obtain rfl : v = .slice (some a) len cap := by simpa [Value.cells] using hcs
    rw [if_pos rfl] at hmm
    have e2 : x.1 = .slice ((List.range len).map D) ((List.range (m - len)).map fun j => D (len + j)) := congrArg Prod.fst hx
    have each : ∀ i, i < len → ∃ s : MkZ, ∀ j v, (csM s)[j]? = some v → W.cell? (a.add (i * 3 + j)) = some v := by
      intro i hi
      obtain ⟨cs', h1, h2⟩ := hall i (by omega)
      rw [sizeM] at h1
      obtain ⟨_, hlen, hcell⟩ := World.cells?_some h1
      obtain ⟨s, hxe⟩ := open_oneM hlen h2
      refine ⟨s, fun j v hj => ?_⟩
      have hj5 : j < 3 := (List.getElem?_eq_some_iff.1 hj).1
      have c := hcell j (by omega)
      rw [Go.Deep.add_add] at c
      rw [c]
      subst hxe
      first | exact hj | (rw [← hj]; simp) | simpa using hj
    obtain ⟨f, hfx⟩ : ∃ f : Nat → MkZ, ∀ i, i < len → ∀ j v, (csM (f i))[j]? = some v → W.cell? (a.add (i * 3 + j)) = some v :=
      ⟨fun i => if h : i < len then Classical.choose (each i h) else ⟨0, 0, 0⟩, fun i hi => by simp only [dif_pos hi]; exact Classical.choose_spec (each i hi)⟩
    refine ⟨(List.range len).map f, ?_, .inr ⟨(len + (m - len)) * 24, ?_, by rw [List.length_map, List.length_range]; exact Nat.mul_le_mul_right _ (by omega)⟩⟩
    · by_cases h0 : len = 0
      · subst h0
        exact ⟨some a, cap, 0, 0, by simp, fun h => absurd rfl h, by simp, fun i x h => by simp at h⟩
      · obtain ⟨b, off, spot⟩ := a
        have hc0 := hfx 0 (by omega) 0 _ rfl
        have hspot : spot = none := by simpa [Addr.add] using World.cell?_spot hc0
        subst hspot
        refine ⟨some ⟨b, off, none⟩, cap, b, off, by simp, fun _ => rfl, by simpa using hl, fun i x hi => ?_⟩
        have h1 : i < len := by have := (List.getElem?_eq_some_iff.1 hi).1; simpa using this
        have hx2 : x = f i := by simpa [h1] using hi.symm
        subst hx2
        have hc : ∀ j v, (csM (f i))[j]? = some v → W.cell? ⟨b, off + i * 3 + j, none⟩ = some v := fun j v hj => by
          have := hfx i h1 j v hj
          rw [Addr.add_mid] at this
          rw [Nat.add_assoc]; exact this
        exact ⟨hc 0 _ rfl, hc 1 _ rfl, hc 2 _ rfl⟩
    · rw [e2]
      simp [DataW.weights, Tryz.underlying61, bytesM]
theorem sizeD : Tryz.prog.cellsOf 133 = 4 := by kernel_rfl
theorem bytesD : Tryz.prog.bytesOf 133 = 48 := by kernel_rfl
set_option maxRecDepth 100000 in
theorem open_oneD {H : Type} {enc : TypeId × Value → H} {W : World} {n : Nat} {cs : List Value} {x : DataW H × List MemPlace} (hlen : cs.length = 4) (hf : DataW.trod enc Tryz.prog W 0 (fun _ => true) true n 133 cs = some x) :
    ∃ c : DcZ, cs = csD c := by
  obtain ⟨xs, n, _, hx, hl, hlen2, hff⟩ := DataW.trod_struct Tryz.underlying133 hf
  obtain ⟨v0, v1, v2, v3, hvs⟩ : ∃ v0 v1 v2 v3, cs = [v0, v1, v2, v3] := by
    match cs, hlen with
    | [v0, v1, v2, v3], _ => exact ⟨v0, v1, v2, v3, rfl⟩
  obtain ⟨y0, y1, y2, y3, hys⟩ : ∃ y0 y1 y2 y3, xs = [y0, y1, y2, y3] := by
    match xs, hlen2 with
    | [y0, y1, y2, y3], _ => exact ⟨y0, y1, y2, y3, rfl⟩
  subst hys
  subst hvs
  have g0 : DataW.trod enc Tryz.prog W 0 (fun _ => true) true n 9 [v0] = some y0 := by
    have e : DataW.trod enc Tryz.prog W 0 (fun _ => true) true n 9 ((([v0, v1, v2, v3] : List Value).drop 0).take (Tryz.prog.cellsOf 9)) = some y0 := hff 0 _ rfl
    rw [show Tryz.prog.cellsOf 9 = 1 by kernel_rfl] at e
    exact e
  have g1 : DataW.trod enc Tryz.prog W 0 (fun _ => true) true n 4 [v1] = some y1 := by
    have e : DataW.trod enc Tryz.prog W 0 (fun _ => true) true n 4 ((([v0, v1, v2, v3] : List Value).drop 1).take (Tryz.prog.cellsOf 4)) = some y1 := hff 1 _ rfl
    rw [show Tryz.prog.cellsOf 4 = 1 by kernel_rfl] at e
    exact e
  have g2 : DataW.trod enc Tryz.prog W 0 (fun _ => true) true n 3 [v2] = some y2 := by
    have e : DataW.trod enc Tryz.prog W 0 (fun _ => true) true n 3 ((([v0, v1, v2, v3] : List Value).drop 2).take (Tryz.prog.cellsOf 3)) = some y2 := hff 2 _ rfl
    rw [show Tryz.prog.cellsOf 3 = 1 by kernel_rfl] at e
    exact e
  have g3 : DataW.trod enc Tryz.prog W 0 (fun _ => true) true n 9 [v3] = some y3 := by
    have e : DataW.trod enc Tryz.prog W 0 (fun _ => true) true n 9 ((([v0, v1, v2, v3] : List Value).drop 3).take (Tryz.prog.cellsOf 9)) = some y3 := hff 3 _ rfl
    rw [show Tryz.prog.cellsOf 9 = 1 by kernel_rfl] at e
    exact e
  clear hff
  obtain ⟨s0, a0, b0, _⟩ := DataW.trod_string Tryz.underlying9 g0
  obtain rfl := (List.cons.inj a0).1
  obtain ⟨s1, a1, b1⟩ := DataW.trod_bool Tryz.underlying4 g1
  obtain rfl := (List.cons.inj a1).1
  obtain ⟨s2, a2, b2, _⟩ := DataW.trod_int Tryz.underlying3 g2
  obtain rfl := (List.cons.inj a2).1
  obtain ⟨s3, a3, b3, _⟩ := DataW.trod_string Tryz.underlying9 g3
  obtain rfl := (List.cons.inj a3).1
  exact ⟨⟨s0, s1, s2, s3⟩, rfl⟩
set_option maxRecDepth 100000 in
/-- A list of them among the arguments. -/
theorem open_listD {H : Type} {enc : TypeId × Value → H} {W : World} {fuel : Nat} {v : Value} {x : DataW H × List MemPlace} (hf : DataW.trod enc Tryz.prog W 0 (fun _ => true) true fuel 62 [v] = some x) :
    ∃ l : List DcZ, DzsAt W v l ∧ (l.length = 0 ∨ ∃ m ∈ DataW.weights Tryz.prog 62 x.1, l.length * 48 ≤ m) := by
  rcases Go.Deep.open_slice Tryz.underlying62 hf with ⟨hcs, hx⟩ | ⟨a, len, cap, m, n, D, Pl, hcs, _, hl, hm, hmm, hx, hall⟩
  · obtain rfl : v = .slice none 0 0 := by simpa [Value.cells] using hcs
    exact ⟨[], ⟨none, 0, 0, 0, rfl, fun h => absurd rfl h, Nat.le_refl _, fun i x h => by simp at h⟩, .inl rfl⟩
  · obtain rfl : v = .slice (some a) len cap := by simpa [Value.cells] using hcs
    rw [if_pos rfl] at hmm
    have e2 : x.1 = .slice ((List.range len).map D) ((List.range (m - len)).map fun j => D (len + j)) := congrArg Prod.fst hx
    have each : ∀ i, i < len → ∃ s : DcZ, ∀ j v, (csD s)[j]? = some v → W.cell? (a.add (i * 4 + j)) = some v := by
      intro i hi
      obtain ⟨cs', h1, h2⟩ := hall i (by omega)
      rw [sizeD] at h1
      obtain ⟨_, hlen, hcell⟩ := World.cells?_some h1
      obtain ⟨s, hxe⟩ := open_oneD hlen h2
      refine ⟨s, fun j v hj => ?_⟩
      have hj5 : j < 4 := (List.getElem?_eq_some_iff.1 hj).1
      have c := hcell j (by omega)
      rw [Go.Deep.add_add] at c
      rw [c]
      subst hxe
      first | exact hj | (rw [← hj]; simp) | simpa using hj
    obtain ⟨f, hfx⟩ : ∃ f : Nat → DcZ, ∀ i, i < len → ∀ j v, (csD (f i))[j]? = some v → W.cell? (a.add (i * 4 + j)) = some v :=
      ⟨fun i => if h : i < len then Classical.choose (each i h) else ⟨⟨#[]⟩, false, 0, ⟨#[]⟩⟩, fun i hi => by simp only [dif_pos hi]; exact Classical.choose_spec (each i hi)⟩
    refine ⟨(List.range len).map f, ?_, .inr ⟨(len + (m - len)) * 48, ?_, by rw [List.length_map, List.length_range]; exact Nat.mul_le_mul_right _ (by omega)⟩⟩
    · by_cases h0 : len = 0
      · subst h0
        exact ⟨some a, cap, 0, 0, by simp, fun h => absurd rfl h, by simp, fun i x h => by simp at h⟩
      · obtain ⟨b, off, spot⟩ := a
        have hc0 := hfx 0 (by omega) 0 _ rfl
        have hspot : spot = none := by simpa [Addr.add] using World.cell?_spot hc0
        subst hspot
        refine ⟨some ⟨b, off, none⟩, cap, b, off, by simp, fun _ => rfl, by simpa using hl, fun i x hi => ?_⟩
        have h1 : i < len := by have := (List.getElem?_eq_some_iff.1 hi).1; simpa using this
        have hx2 : x = f i := by simpa [h1] using hi.symm
        subst hx2
        have hc : ∀ j v, (csD (f i))[j]? = some v → W.cell? ⟨b, off + i * 4 + j, none⟩ = some v := fun j v hj => by
          have := hfx i h1 j v hj
          rw [Addr.add_mid] at this
          rw [Nat.add_assoc]; exact this
        exact ⟨hc 0 _ rfl, hc 1 _ rfl, hc 2 _ rfl, hc 3 _ rfl⟩
    · rw [e2]
      simp [DataW.weights, Tryz.underlying62, bytesD]

set_option maxRecDepth 100000 in
theorem open_line_sized {H : Type} {enc : TypeId × Value → H} {W : World} {b0 j : Nat} {v : Value} {d : DataW H} {p : List MemPlace} {ts : List TypeId} {dl : List (DataW H)}
    (hz : (DataW.weightsEach Tryz.prog ts dl).all (· ≤ reachBytes) = true) (ht : ts[j]? = some 64) (hd : dl[j]? = some d)
    (hv : Value.okWide Tryz.prog W .any b0 64 v) (h : DataW.Trod enc Tryz.prog W 0 (fun _ => true) true 64 v d p) : ∃ (n : Int) (t : ByteArray) (u e : Value) (ms : List MkZ) (ds : List DcZ), v = .agg #[.int .i64 n, .string t, u, e] ∧ MksAt W u ms ∧ DzsAt W e ds ∧ t.size ≤ 140737488351232 ∧ ms.length ≤ 5864062014634 ∧ ds.length ≤ 2932031007317 := by
  obtain ⟨cs, rfl, hcs⟩ := okWide_struct Tryz.underlying64 hv
  obtain ⟨fuel, hf⟩ := h
  obtain ⟨xs, n, _, hx, hl, hlen, hff⟩ := DataW.trod_struct Tryz.underlying64 hf
  have hcl : cs.toList.length = 4 := by rw [Array.length_toList, hcs]; kernel_rfl
  obtain ⟨v0, v1, v2, v3, hvs⟩ : ∃ v0 v1 v2 v3, cs.toList = [v0, v1, v2, v3] := by
    match cs.toList, hcl with
    | [v0, v1, v2, v3], _ => exact ⟨v0, v1, v2, v3, rfl⟩
  obtain ⟨y0, y1, y2, y3, hys⟩ : ∃ y0 y1 y2 y3, xs = [y0, y1, y2, y3] := by
    match xs, hlen with
    | [y0, y1, y2, y3], _ => exact ⟨y0, y1, y2, y3, rfl⟩
  subst hys
  have hca : cs = #[v0, v1, v2, v3] := by cases cs; simp at hvs ⊢; exact hvs
  subst hca
  clear hf hl hlen hcl hvs hcs hv
  have g0 : DataW.trod enc Tryz.prog W 0 (fun _ => true) true n 3 [v0] = some y0 := by
    have e : DataW.trod enc Tryz.prog W 0 (fun _ => true) true n 3 ((([v0, v1, v2, v3] : List Value).drop 0).take (Tryz.prog.cellsOf 3)) = some y0 := hff 0 _ rfl
    rw [show Tryz.prog.cellsOf 3 = 1 by kernel_rfl] at e
    exact e
  have g1 : DataW.trod enc Tryz.prog W 0 (fun _ => true) true n 9 [v1] = some y1 := by
    have e : DataW.trod enc Tryz.prog W 0 (fun _ => true) true n 9 ((([v0, v1, v2, v3] : List Value).drop 1).take (Tryz.prog.cellsOf 9)) = some y1 := hff 1 _ rfl
    rw [show Tryz.prog.cellsOf 9 = 1 by kernel_rfl] at e
    exact e
  have g2 : DataW.trod enc Tryz.prog W 0 (fun _ => true) true n 61 [v2] = some y2 := by
    have e : DataW.trod enc Tryz.prog W 0 (fun _ => true) true n 61 ((([v0, v1, v2, v3] : List Value).drop 2).take (Tryz.prog.cellsOf 61)) = some y2 := hff 2 _ rfl
    rw [show Tryz.prog.cellsOf 61 = 1 by kernel_rfl] at e
    exact e
  have g3 : DataW.trod enc Tryz.prog W 0 (fun _ => true) true n 62 [v3] = some y3 := by
    have e : DataW.trod enc Tryz.prog W 0 (fun _ => true) true n 62 ((([v0, v1, v2, v3] : List Value).drop 3).take (Tryz.prog.cellsOf 62)) = some y3 := hff 3 _ rfl
    rw [show Tryz.prog.cellsOf 62 = 1 by kernel_rfl] at e
    exact e
  clear hff
  obtain ⟨s0, a0, c0, _⟩ := DataW.trod_int Tryz.underlying3 g0
  obtain rfl := (List.cons.inj a0).1
  obtain ⟨s1, a1, c1, _⟩ := DataW.trod_string Tryz.underlying9 g1
  obtain rfl := (List.cons.inj a1).1
  obtain ⟨ms, hms, wms⟩ := open_listM g2
  obtain ⟨ds, hds, wds⟩ := open_listD g3
  have e2 : d = .agg [y0.1, y1.1, y2.1, y3.1] := congrArg Prod.fst hx
  have er : reachBytes = 140737488351232 := rfl
  have wt : ∀ k, k ∈ DataW.weights Tryz.prog 64 d → k ≤ reachBytes := fun k hk => of_decide_eq_true (List.all_eq_true.1 hz _ (DataW.weights_mem_each ht hd k hk))
  have wf : ∀ (q : Nat) (ty : TypeId) (y : DataW H), ([3, 9, 61, 62] : List TypeId)[q]? = some ty → ([y0.1, y1.1, y2.1, y3.1] : List (DataW H))[q]? = some y → ∀ k ∈ DataW.weights Tryz.prog ty y, k ≤ reachBytes := fun q ty y h1 h2 k hk => wt k (by
    rw [e2]
    have h9 := DataW.weights_mem_each (P := Tryz.prog) h1 h2 k hk
    simp only [DataW.weights, Tryz.underlying64]
    exact h9)
  refine ⟨s0, s1, v2, v3, ms, ds, rfl, hms, hds, ?_, ?_, ?_⟩
  · have h1 := wf 1 _ _ rfl rfl s1.size (by rw [c1, Lib.size_eq s1]; simp [DataW.weights])
    omega
  · rcases wms with h | ⟨m, hm, hle⟩
    · omega
    · have := wf 2 _ _ rfl rfl m hm
      omega
  · rcases wds with h | ⟨m, hm, hle⟩
    · omega
    · have := wf 3 _ _ rfl rfl m hm
      omega
end Go.Proofs.YtjgijbeedgggdaaGreatDoor

namespace Go.Proofs.YtjgijbeedgggdaaGreatDoor
open Go Go.RowKit

def addE (ec : UInt8) : Except Flt (List LL) → Except Flt (UInt8 × List LL)
  | .error x => .error x
  | .ok ls => .ok (ec, ls)
theorem lexL_ck (s : Ln) : lexL s = (match ckL s with
    | some x => .error x
    | none => match dirsL (cutL s) with
        | .error x => .error x
        | .ok (i, e) => match linesG e (cutL s) ((cutL s).length + 1) i with
          | .error x => .error x
          | .ok ls => .ok (e, ls)) := by
  unfold lexL ckL
  by_cases h1 : 65536 < s.length
  · rw [if_pos h1, if_pos h1]
  · rw [if_neg h1, if_neg h1]
    cases wrongU s.length s 1 1 with
    | some p => rfl
    | none =>
      simp only
      by_cases h2 : 4096 < (cutL s).length
      · rw [if_pos h2, if_pos h2]
      · rw [if_neg h2, if_neg h2]
        rfl
theorem ck_none {s : Ln} (h : ckL s = none) : s.length ≤ 65536 ∧ (cutL s).length ≤ 4096 := by
  unfold ckL at h
  by_cases h1 : 65536 < s.length
  · rw [if_pos h1] at h; cases h
  · rw [if_neg h1] at h
    cases hw : wrongU s.length s 1 1 with
    | some p => rw [hw] at h; cases h
    | none =>
      rw [hw] at h
      simp only at h
      by_cases h2 : 4096 < (cutL s).length
      · rw [if_pos h2] at h; cases h
      · omega
theorem dirs_facts (f : List Ln) (k : Nat) (ec : UInt8) (h : dirsL f = .ok (k, ec)) : (ec = 92 ∨ ec = 96) ∧ k ≤ f.length := by
  unfold dirsL at h
  cases f with
  | nil => cases h; exact ⟨.inl rfl, by simp⟩
  | cons x r =>
    simp only at h
    cases hd : dirAt x with
    | none => rw [hd] at h; cases h; exact ⟨.inl rfl, by simp⟩
    | some a =>
      rw [hd] at h
      simp only at h
      split at h
      · rename_i hv
        have he : ((trimL (x.drop (a + 1))).headD 92 = 92 ∨ (trimL (x.drop (a + 1))).headD 92 = 96) := by
          rcases hv with e | e <;> rw [e]
          · exact .inl rfl
          · exact .inr rfl
        cases r with
        | nil => cases h; exact ⟨he, by simp⟩
        | cons y r =>
          simp only at h
          split at h
          · cases h
          · cases h; exact ⟨he, by simp⟩
      · cases h
theorem ErrType.belowE {w w' : World} (h : ErrType w) (hb : Below w.heap.size w w') : ErrType w' := cell_belowE hb h
/-- What Lines answers. -/
def LinesP (s : Ln) (w : World) (e : Ending) (w' : World) : Prop := Below w.heap.size w w' ∧ (match lexL s with
  | .error (no, l, a) => e = .returned (.tuple #[.int .u8 0, nilS, fltV no l a])
  | .ok (ec, ls) => ∃ v us, e = .returned (.tuple #[.int .u8 ec.toNat, v, .nilIface]) ∧ LnsAt w' w.heap.size v us ls)
set_option maxRecDepth 100000 in
set_option maxHeartbeats 1000000 in
theorem lines_p (s : ByteArray) (w : World) (hT : Tabs w) (hE : ErrType w) : Calls Tryz.prog 10 #[.string s] w (LinesP (un s) w) := by
  have hck := checkSource_p s w (fun W hW => hT.below hW)
  have HL : Hid (lexL (un s) = _) := lexL_ck (un s)
  cases hc : ckL (un s) with
  | some x =>
    obtain ⟨no, l, a⟩ := x
    rw [hc] at hck
    simp only [ckV] at hck
    have HR : Hid (lexL (un s) = .error (no, l, a)) := by unfold Hid; rw [HL.out, hc]
    clear hc HL
    go_enter Tryz.func10, Tryz.ntmps10
    go_wp2_with (go_at_call 39; refine hck.mono ?_; rintro e w1 ⟨rfl, b1⟩)
    go_ret3
    unfold LinesP
    rw [HR.out]
    exact ⟨b1, rfl⟩
  | none =>
    obtain ⟨h1, h2⟩ := ck_none hc
    rw [un_length] at h1
    rw [hc] at hck
    simp only [ckV] at hck
    have HL2 := HL.out
    rw [hc] at HL2
    replace HL2 : Hid _ := HL2
    clear hc HL
    go_enter Tryz.func10, Tryz.ntmps10
    go_wp2_with fail
    refine hck.mono ?_
    rintro e w1 ⟨rfl, b1⟩
    clear hck
    have LA := Lies.new w1 93 #[.string ⟨#[]⟩, .int .i64 0, .int .i64 0]
    have LA1 : Rd ((w1.alloc (.cells #[.string ⟨#[]⟩, .int .i64 0, .int .i64 0] 93)).setRow w1.heap.size #[.string s, .int .i64 0, .int .i64 0]) w1.heap.size s 0 0 := lies_setRow LA _
    have b2 : Below w1.heap.size w1 ((w1.alloc (.cells #[.string ⟨#[]⟩, .int .i64 0, .int .i64 0] 93)).setRow w1.heap.size #[.string s, .int .i64 0, .int .i64 0]) := below_setRow' ((Below.refl _ w1).alloc (Nat.le_refl _) _) (Nat.le_refl _) _
    have B2 := below_join b1 b2
    have hne : w.heap.size ≤ w1.heap.size := b1.size
    generalize hw2 : (w1.alloc (.cells #[.string ⟨#[]⟩, .int .i64 0, .int .i64 0] 93)).setRow w1.heap.size #[.string s, .int .i64 0, .int .i64 0] = w2 at *
    have hlt2 : w1.heap.size < w2.heap.size := Lies.lt LA1
    have hof : ∀ W, Oth w1.heap.size w2 W → Below w.heap.size w W := fun W hW => B2.trans (hW.below hne (by omega))
    have hDr := directives_p eqf w1.heap.size s w2 LA1 (fun W hW => hT.below (hof W hW)) (by omega)
    go_wp2_with (refine wpList_store_row rfl 93 (.tmp 6) (.tmp 17) rfl w1.heap.size #[.string s, .int .i64 0, .int .i64 0] rfl rfl 93 _ LA rd_size rfl (rd_one _ _ _) ?_; rw [hw2])
    refine hDr.mono ?_
    rintro e w3 ⟨o3, hway⟩
    clear hDr
    cases hd : dirsL (cutL (un s)) with
    | error x =>
      obtain ⟨no, l, a⟩ := x
      rw [hd] at hway
      simp only at hway
      subst hway
      have B3 := hof w3 o3
      have HR : Hid (lexL (un s) = .error (no, l, a)) := by unfold Hid; rw [HL2.out]; simp only [hd]
      clear HL2 hd
      go_wp2
      go_ret3
      unfold LinesP
      rw [HR.out]
      exact ⟨B3, rfl⟩
    | ok x =>
      obtain ⟨k, ec⟩ := x
      obtain ⟨d1, d2⟩ := dirs_facts _ k ec hd
      rw [hd] at hway
      simp only at hway
      obtain ⟨rfl, q, rd3, st3⟩ := hway
      obtain ⟨r, hr⟩ : ∃ r, linesG ec (cutL (un s)) ((cutL (un s)).length + 1) k = r := ⟨_, rfl⟩
      have hAl := all_p eqf w1.heap.size s q k ec w3 (fun W hW => hT.below (hof W (o3.trans hW))) (fun W hW => hE.belowE (hof W (o3.trans hW))) rd3 st3 (by rcases d1 with rfl | rfl <;> rfl) (by omega) (by omega) d2 r hr
      have HL3 : Hid (lexL (un s) = addE ec r) := by unfold Hid; rw [HL2.out]; simp only [hd, hr]; cases r <;> rfl
      clear d1 hd HL2
      go_wp2_with fail
      refine hAl.mono ?_
      rintro e w4 ⟨o4, hway⟩
      clear hAl hr
      have B4 := hof w4 (o3.trans o4)
      cases r with
      | error x =>
        obtain ⟨no, l, a⟩ := x
        simp only at hway
        subst hway
        have HR : Hid (lexL (un s) = .error (no, l, a)) := HL3
        clear HL3
        go_wp2
        go_ret3
        unfold LinesP
        rw [HR.out]
        exact ⟨B4, rfl⟩
      | ok ls =>
        simp only at hway
        obtain ⟨v, us, rfl, hv⟩ := hway
        have hb : w.heap.size ≤ w3.heap.size := by have := o3.size; omega
        have hv2 : LnsAt w4 w.heap.size v us ls := ⟨hv.len, row_lower2 hv.own hb, fun i x p a b => row_lower2 (hv.marks i x p a b) hb, fun i x p a b => row_lower2 (hv.docs i x p a b) hb⟩
        have HR : Hid (lexL (un s) = .ok (ec, ls)) := HL3
        clear HL3 hv
        go_wp2
        go_ret3
        unfold LinesP
        rw [HR.out]
        exact ⟨B4, v, us, rfl, hv2⟩
end Go.Proofs.YtjgijbeedgggdaaGreatDoor

namespace Go.Proofs.YtjgijbeedgggdaaGreatDoor
open Go Go.RowKit

theorem at_nil (l a : Int) (w : World) : Calls Tryz.prog 11 #[.nilIface, .int .i64 0, .int .i64 l, .int .i64 a] w fun e w' => e = .returned (.bool true) ∧ w' = w := by
  go_enter Tryz.func11, Tryz.ntmps11
  go_wp2
  go_ret
  exact ⟨rfl, rfl⟩
theorem num_nil' (w : World) : Calls Tryz.prog 12 #[.nilIface] w fun e w' => e = .returned (.int .i64 0) ∧ w' = w := by
  go_enter Tryz.func12, Tryz.ntmps12
  go_wp2
  go_ret
  exact ⟨rfl, rfl⟩
end Go.Proofs.YtjgijbeedgggdaaGreatDoor

namespace Go.Proofs.YtjgijbeedgggdaaGreatDoor
open Go Go.RowKit

structure LnC (W : World) (b q : Nat) (x : LL) (p : Value × Value) : Prop where
  c0 : W.cell? ⟨b, q, none⟩ = some (.int .i64 x.line)
  c1 : W.cell? ⟨b, q + 1, none⟩ = some (.string (bs x.text))
  c2 : W.cell? ⟨b, q + 2, none⟩ = some p.1
  c3 : W.cell? ⟨b, q + 3, none⟩ = some p.2
theorem LnC.below {W W2 : World} {b q : Nat} {x : LL} {p : Value × Value} (h : LnC W b q x p) (hb : Below W.heap.size W W2) : LnC W2 b q x p :=
  ⟨cell_belowE hb h.c0, cell_belowE hb h.c1, cell_belowE hb h.c2, cell_belowE hb h.c3⟩
/-- A list of lines that is read. -/
def LnsR (W : World) (v : Value) (us : List (Value × Value)) (ls : List LL) : Prop :=
  ∃ (a : Option Addr) (cap b : Nat), v = .slice a ls.length cap ∧ (ls ≠ [] → a = some ⟨b, 0, none⟩) ∧ ls.length ≤ cap ∧ us.length = ls.length ∧ ∀ (i : Nat) x p, ls[i]? = some x → us[i]? = some p → LnC W b (i * 4) x p ∧ MksAt W p.1 (x.marks.map Mk.z) ∧ ∃ a' c', p.2 = .slice a' x.docs.length c'
theorem LnsR.below {W W2 : World} {v : Value} {us : List (Value × Value)} {ls : List LL} (h : LnsR W v us ls) (hb : Below W.heap.size W W2) : LnsR W2 v us ls := by
  obtain ⟨a, cap, b, h1, h2, h3, h4, h5⟩ := h
  exact ⟨a, cap, b, h1, h2, h3, h4, fun i x p hx hp => ⟨(h5 i x p hx hp).1.below hb, (h5 i x p hx hp).2.1.below hb, (h5 i x p hx hp).2.2⟩⟩
theorem lcells_get : ∀ (ls : List LL) (us : List (Value × Value)) (k : Nat) (x : LL) (p : Value × Value), ls[k]? = some x → us[k]? = some p → ∀ j v, (lcell x p)[j]? = some v → (lcells ls us)[k * 4 + j]? = some v
  | [], us, k, x, p, h, _, j, v, hj => by simp at h
  | y :: ls, [], k, x, p, _, h, j, v, hj => by simp at h
  | y :: ls, u :: us, 0, x, p, h, hp, j, v, hj => by
    simp at h hp; subst h; subst hp
    have hl := (List.getElem?_eq_some_iff.1 hj).1
    show (lcell y u ++ lcells ls us)[0 * 4 + j]? = some v
    rw [Nat.zero_mul, Nat.zero_add, List.getElem?_append_left hl]; exact hj
  | y :: ls, u :: us, k + 1, x, p, h, hp, j, v, hj => by
    show (lcell y u ++ lcells ls us)[(k + 1) * 4 + j]? = some v
    rw [List.getElem?_append_right (by show 4 ≤ _; omega), show (k + 1) * 4 + j - (lcell y u).length = k * 4 + j by show _ - 4 = _; omega]
    exact lcells_get ls us k x p (by simpa using h) (by simpa using hp) j v hj
theorem lns_read {W : World} {base : Nat} {v : Value} {us : List (Value × Value)} {ls : List LL} (h : LnsAt W base v us ls) : LnsR W v us ls := by
  have hmd : ∀ (i : Nat) x p, ls[i]? = some x → us[i]? = some p → MksAt W p.1 (x.marks.map Mk.z) ∧ ∃ a' c', p.2 = .slice a' x.docs.length c' := fun i x p hx hp => by
    refine ⟨mks_of_owns (h.marks i x p hx hp), ?_⟩
    rcases (h.docs i x p hx hp).2 with ⟨e, h0⟩ | ⟨g, cap, cur, e, _⟩
    · exact ⟨none, 0, by rw [e, h0]⟩
    · exact ⟨_, _, e⟩
  rcases h.own.2 with ⟨rfl, h0⟩ | ⟨g, cap, cur, rfl, hg, hgb, hcap, _⟩
  · have : ls = [] := List.eq_nil_of_length_eq_zero h0
    subst this
    exact ⟨none, 0, 0, rfl, fun h => absurd rfl h, Nat.le_refl _, h.len, fun i x p hx => by simp at hx⟩
  · refine ⟨some ⟨g, 0, none⟩, cap, g, rfl, fun _ => rfl, hcap, h.len, fun i x p hx hp => ⟨?_, hmd i x p hx hp⟩⟩
    have hi := (List.getElem?_eq_some_iff.1 hx).1
    have hc : ∀ j u, (lcell x p)[j]? = some u → W.cell? ⟨g, i * 4 + j, none⟩ = some u := fun j u hj => by
      have hj2 : j < 4 := (List.getElem?_eq_some_iff.1 hj).1
      rw [h.own.cellAt (i * 4 + j) (by omega)]
      exact lcells_get ls us i x p hx hp j u hj
    exact ⟨hc 0 _ rfl, hc 1 _ rfl, hc 2 _ rfl, hc 3 _ rfl⟩
theorem lines_ok (s : ByteArray) (ec : UInt8) (ls : List LL) (h : lexL (un s) = .ok (ec, ls)) (w : World) (hT : Tabs w) (hE : ErrType w) : Calls Tryz.prog 10 #[.string s] w fun e w' => ∃ v us, e = .returned (.tuple #[.int .u8 ec.toNat, v, .nilIface]) ∧ LnsAt w' w.heap.size v us ls ∧ Below w.heap.size w w' := by
  refine (lines_p s w hT hE).mono ?_
  rintro e w' ⟨hb, hw⟩
  rw [h] at hw
  obtain ⟨v, us, rfl, hv⟩ := hw
  exact ⟨v, us, rfl, hv, hb⟩
theorem lines_err (s : ByteArray) (no l a : Nat) (h : lexL (un s) = .error (no, l, a)) (w : World) (hT : Tabs w) (hE : ErrType w) : Calls Tryz.prog 10 #[.string s] w fun e w' => e = .returned (.tuple #[.int .u8 0, nilS, fltV no l a]) ∧ Below w.heap.size w w' := by
  refine (lines_p s w hT hE).mono ?_
  rintro e w' ⟨hb, hw⟩
  rw [h] at hw
  exact ⟨hw, hb⟩
abbrev kL : ByteArray := ⟨#[65, 32, 92, 10, 98, 10]⟩
abbrev kD : ByteArray := ⟨#[67, 79, 80, 89, 32, 60, 60, 69, 32, 100, 10]⟩
theorem known_l : lexL (un kL) = .ok (92, [⟨1, [65, 32, 98], [⟨0, 1, 1⟩, ⟨2, 2, 1⟩], []⟩]) := by kernel_rfl
theorem known_d : lexL (un kD) = .error (26, 1, 6) := by kernel_rfl
set_option maxRecDepth 100000 in
set_option maxHeartbeats 1000000 in
theorem works_l (w : World) (hT : Tabs w) (hE : ErrType w) : Calls Tryz.prog 16 #[] w fun e w' => e = .returned (.bool true) ∧ Below w.heap.size w w' := by
  have hA := lines_ok kL _ _ known_l w hT hE
  go_enter Tryz.func16, Tryz.ntmps16
  go_wp2_with fail
  refine hA.mono ?_
  rintro e w1 ⟨v, us, rfl, hv, b1⟩
  have hB := lines_err kD _ _ _ known_d w1 (hT.below b1) (hE.belowE b1)
  go_wp2_with fail
  refine hB.mono ?_
  rintro e w2 ⟨rfl, b2⟩
  have B2 := below_join b1 b2
  obtain ⟨a, cap, b, rfl, ha, hcap, hul, hx⟩ := (lns_read hv).below b2
  obtain rfl := ha (by simp)
  obtain ⟨p, hp⟩ : ∃ p, us[0]? = some p := by
    cases us with
    | nil => simp at hul
    | cons p us => exact ⟨p, rfl⟩
  have k1 : w2.cell? ⟨b, 1, none⟩ = some (.string ⟨#[65, 32, 98]⟩) := (hx 0 _ p rfl hp).1.c1
  have hAt := at_p 26 1 6 (by decide) (by decide) w2 (hE.belowE B2)
  clear hA hB hv hx hp
  go_wp2_with (go_at_call 11; refine hAt.mono ?_; rintro e w3 ⟨rfl, b3⟩)
  go_ret
  exact ⟨rfl, below_join B2 b3⟩
end Go.Proofs.YtjgijbeedgggdaaGreatDoor

namespace Go.Proofs.YtjgijbeedgggdaaGreatDoor
open Go Go.RowKit

set_option maxRecDepth 100000 in
set_option maxHeartbeats 2000000 in
theorem place_zb (n : Int) (t : ByteArray) (u d : Value) (ms : List MkZ) (k : Int) (w : World) (hu : MksAt w u ms) (hs : t.size ≤ 140737488351232) (hl : ms.length ≤ 140737488351232) :
    Calls Tryz.prog 19 #[.agg #[.int .i64 n, .string t, u, d], .int .i64 k] w fun e w' => e = .returned (.tuple #[.int .i64 (placeZ ms (atZ t k) (n, atZ t k + 1)).1, .int .i64 (placeZ ms (atZ t k) (n, atZ t k + 1)).2]) ∧ Below w.heap.size w w' := by
  obtain ⟨a, cap, b, o, rfl, ha, hcap, hc⟩ := hu
  have hB0 : Below w.heap.size w (w.alloc (.cells #[.int .i64 n, .string t, .slice a ms.length cap, d] 64)) := (Below.refl _ w).alloc (Nat.le_refl _) _
  have HC : Hid (∀ W, Below w.heap.size w W → ∀ i e, ms[i]? = some e → MkC W b (o + i * 3) e) := fun W hW i e he => (hc i e he).below hW
  clear hc
  have hat0 : 0 ≤ atZ t k := by unfold atZ; omega
  have hat1 : atZ t k ≤ t.size := by unfold atZ; omega
  have hw1 : IntKind.i64.wrap (atZ t k + 1) = atZ t k + 1 := wrap_small _ (by omega) (by omega)
  have hAt : min (max k 0) (t.size : Int) = atZ t k := rfl
  generalize atZ t k = K at *
  go_enter Tryz.func19, Tryz.ntmps19
  go_wp2
  go_loopw [6, 7, 23] (fun v6 v7 v23 wr => ∃ j : Nat, j ≤ ms.length ∧ v23 = .int .i64 j ∧ v6 = .int .i64 (placeZ (ms.take j) K (n, K + 1)).1 ∧ v7 = .int .i64 (placeZ (ms.take j) K (n, K + 1)).2 ∧ Below w.heap.size w wr) (fun _ _ v23 _ => ms.length - (intOf v23).toNat)
  case atStart => exact ⟨0, Nat.zero_le _, rfl, rfl, rfl, hB0⟩
  case round =>
    obtain ⟨j, hj, rfl, rfl, rfl, hB1⟩ := hrel
    rcases Nat.lt_or_ge j ms.length with hlt | hge
    · obtain ⟨m, hm⟩ : ∃ m, ms[j]? = some m := ⟨_, List.getElem?_eq_getElem hlt⟩
      obtain ⟨c0, c1, c2⟩ := HC.out wr hB1 j m hm
      have ha' := ha (fun e => by rw [e] at hlt; exact absurd hlt (Nat.not_lt_zero _))
      subst ha'
      have d0 : (0 : Int) ≤ (j : Int) := by omega
      have d1 : (j : Int) < (ms.length : Int) := by omega
      have hT : Hid (ms.take (j + 1) = ms.take j ++ [m]) := by unfold Hid; rw [List.take_add_one, hm]; rfl
      have L2 := Lies.new wr 73 #[.int .i64 m.pos, .int .i64 m.line, .int .i64 m.col]
      have B2 := below_join hB1 ((Below.refl _ wr).alloc (Nat.le_refl _) (.cells #[.int .i64 m.pos, .int .i64 m.line, .int .i64 m.col] 73))
      generalize hw2 : wr.alloc (.cells #[.int .i64 m.pos, .int .i64 m.line, .int .i64 m.col] 73) = w2 at *
      have k0 : w2.cell? ⟨wr.heap.size, 0, none⟩ = some (.int .i64 m.pos) := L2.cell (i := 0) rfl
      have k1 : w2.cell? ⟨wr.heap.size, 1, none⟩ = some (.int .i64 m.line) := L2.cell (i := 1) rfl
      have k2 : w2.cell? ⟨wr.heap.size, 2, none⟩ = some (.int .i64 m.col) := L2.cell (i := 2) rfl
      by_cases hle : m.pos ≤ K
      · go_upto_region 6 with fail
        try rw [hw2]
        go_upto_region 7 with fail
        go_quiet (fail)
        go_wp2
        go_roundw
        case rel => exact ⟨j + 1, by omega, by go_num, by rw [hT.out, placeZ_snoc, if_pos hle], by rw [hT.out, placeZ_snoc, if_pos hle], below_drawn B2 _⟩
        case measure => simp [intOf]; omega
      · go_upto_region 6 with fail
        try rw [hw2]
        go_wp2
        go_roundw
        case rel => exact ⟨j + 1, by omega, by go_num, by rw [hT.out, placeZ_snoc, if_neg hle], by rw [hT.out, placeZ_snoc, if_neg hle], B2⟩
        case measure => simp [intOf]; omega
    · obtain rfl : j = ms.length := by omega
      rw [List.take_length]
      go_wp2
      go_ret2
      exact ⟨rfl, hB1⟩
theorem wrap64_doc (c k p : Int) : wrap64 (c + wrap64 (k - p)) = wrap64 (wrap64 (c + k) - p) := by unfold wrap64; omega
theorem wrapI (z : Int) : IntKind.i64.wrap z = wrap64 z := by
  simp only [IntKind.wrap, IntKind.bits, IntKind.signed, wrap64]
  simp
  omega
/- The document: Place of any line. -/
set_option maxRecDepth 100000 in
set_option maxHeartbeats 4000000 in
theorem place_rb (n : Int) (t : ByteArray) (u d : Value) (ms : List MkZ) (k : Int) (w : World) (hu : MksAt w u ms) (hs : t.size ≤ 140737488351232) (hl : ms.length ≤ 140737488351232) :
    Calls Tryz.prog 17 #[.agg #[.int .i64 n, .string t, u, d], .int .i64 k] w fun e w' => e = .returned (.tuple #[.int .i64 (placeZ ms (atZ t k) (n, atZ t k + 1)).1, .int .i64 (placeZ ms (atZ t k) (n, atZ t k + 1)).2]) ∧ Below w.heap.size w w' := by
  obtain ⟨a, cap, b, o, rfl, ha, hcap, hc⟩ := hu
  have hB0 : Below w.heap.size w (w.alloc (.cells #[.int .i64 n, .string t, .slice a ms.length cap, d] 64)) := (Below.refl _ w).alloc (Nat.le_refl _) _
  have L0 := Lies.new w 64 #[.int .i64 n, .string t, .slice a ms.length cap, d]
  obtain ⟨W0, hW0⟩ : ∃ W0, w.alloc (.cells #[.int .i64 n, .string t, .slice a ms.length cap, d] 64) = W0 := ⟨_, rfl⟩
  rw [hW0] at hB0 L0
  have HL : Hid (Lies W0 w.heap.size 64 #[.int .i64 n, .string t, .slice a ms.length cap, d]) := L0
  have HC : Hid (∀ W, Below W0.heap.size W0 W → ∀ i e, ms[i]? = some e → MkC W b (o + i * 3) e) := fun W hW i e he => (hc i e he).below (below_join hB0 hW)
  have k0 := L0.cell (i := 0) rfl
  have k1 := L0.cell (i := 1) rfl
  have k2 := L0.cell (i := 2) rfl
  clear hc L0
  by_cases h0 : k < 0
  · have e0 : atZ t k = 0 := by unfold atZ; omega
    rw [e0]
    have f1 : ¬ (t.size : Int) < 0 := by omega
    clear e0
    have g9 : True := trivial
    go_enter Tryz.func17, Tryz.ntmps17
    go_wp2
    go_loopw [6, 7, 8] (fun v6 v7 v8 wr => ∃ j : Nat, j ≤ ms.length ∧ v8 = .int .i64 j ∧ v6 = .int .i64 (placeZ (ms.take j) ((0 : Int)) (n, (0 : Int) + 1)).1 ∧ v7 = .int .i64 (placeZ (ms.take j) ((0 : Int)) (n, (0 : Int) + 1)).2 ∧ Below W0.heap.size W0 wr) (fun _ _ v8 _ => ms.length - (intOf v8).toNat)
    case atStart => exact ⟨0, Nat.zero_le _, rfl, rfl, by first | rfl | go_num, Below.refl _ _⟩
    case round =>
      obtain ⟨j, hj, rfl, rfl, rfl, hB1⟩ := hrel
      have c2 := (HL.out.below hB1).cell (i := 2) rfl
      rcases Nat.lt_or_ge j ms.length with hlt | hge
      · obtain ⟨m, hm⟩ : ∃ m, ms[j]? = some m := ⟨_, List.getElem?_eq_getElem hlt⟩
        obtain ⟨m0, m1, m2⟩ := HC.out wr hB1 j m hm
        have ha' := ha (fun e => by rw [e] at hlt; exact absurd hlt (Nat.not_lt_zero _))
        subst ha'
        have d0 : (0 : Int) ≤ (j : Int) := by omega
        have d1 : (j : Int) < (ms.length : Int) := by omega
        have hT : Hid (ms.take (j + 1) = ms.take j ++ [m]) := by unfold Hid; rw [List.take_add_one, hm]; rfl
        by_cases hle : m.pos ≤ (0 : Int)
        · go_wp2
          go_quiet (fail)
          go_wp2
          go_roundw
          case rel => exact ⟨j + 1, by omega, by go_num, by rw [hT.out, placeZ_snoc, if_pos hle], by rw [hT.out, placeZ_snoc, if_pos hle]; (congr 1; unfold wrap64; omega), below_drawn hB1 _⟩
          case measure => simp [intOf]; omega
        · go_wp2
          go_roundw
          case rel => exact ⟨j + 1, by omega, by go_num, by rw [hT.out, placeZ_snoc, if_neg hle], by rw [hT.out, placeZ_snoc, if_neg hle], hB1⟩
          case measure => simp [intOf]; omega
      · obtain rfl : j = ms.length := by omega
        rw [List.take_length]
        go_wp2
        go_ret2
        exact ⟨rfl, below_join hB0 hB1⟩
  · by_cases h1 : (t.size : Int) < k
    · have e0 : atZ t k = (t.size : Int) := by unfold atZ; omega
      rw [e0]
      have hw1 : IntKind.i64.wrap ((t.size : Int) + 1) = (t.size : Int) + 1 := wrap_small _ (by omega) (by omega)
      clear e0
      have g9 : True := trivial
      go_enter Tryz.func17, Tryz.ntmps17
      go_wp2
      go_loopw [6, 7, 8] (fun v6 v7 v8 wr => ∃ j : Nat, j ≤ ms.length ∧ v8 = .int .i64 j ∧ v6 = .int .i64 (placeZ (ms.take j) ((t.size : Int)) (n, (t.size : Int) + 1)).1 ∧ v7 = .int .i64 (placeZ (ms.take j) ((t.size : Int)) (n, (t.size : Int) + 1)).2 ∧ Below W0.heap.size W0 wr) (fun _ _ v8 _ => ms.length - (intOf v8).toNat)
      case atStart => exact ⟨0, Nat.zero_le _, rfl, rfl, by first | rfl | go_num, Below.refl _ _⟩
      case round =>
        obtain ⟨j, hj, rfl, rfl, rfl, hB1⟩ := hrel
        have c2 := (HL.out.below hB1).cell (i := 2) rfl
        rcases Nat.lt_or_ge j ms.length with hlt | hge
        · obtain ⟨m, hm⟩ : ∃ m, ms[j]? = some m := ⟨_, List.getElem?_eq_getElem hlt⟩
          obtain ⟨m0, m1, m2⟩ := HC.out wr hB1 j m hm
          have ha' := ha (fun e => by rw [e] at hlt; exact absurd hlt (Nat.not_lt_zero _))
          subst ha'
          have d0 : (0 : Int) ≤ (j : Int) := by omega
          have d1 : (j : Int) < (ms.length : Int) := by omega
          have hT : Hid (ms.take (j + 1) = ms.take j ++ [m]) := by unfold Hid; rw [List.take_add_one, hm]; rfl
          by_cases hle : m.pos ≤ (t.size : Int)
          · go_wp2
            go_quiet (fail)
            go_wp2
            go_roundw
            case rel => exact ⟨j + 1, by omega, by go_num, by rw [hT.out, placeZ_snoc, if_pos hle], by rw [hT.out, placeZ_snoc, if_pos hle]; (congr 1; unfold wrap64; omega), below_drawn hB1 _⟩
            case measure => simp [intOf]; omega
          · go_wp2
            go_roundw
            case rel => exact ⟨j + 1, by omega, by go_num, by rw [hT.out, placeZ_snoc, if_neg hle], by rw [hT.out, placeZ_snoc, if_neg hle], hB1⟩
            case measure => simp [intOf]; omega
        · obtain rfl : j = ms.length := by omega
          rw [List.take_length]
          go_wp2
          go_ret2
          exact ⟨rfl, below_join hB0 hB1⟩
    · have e0 : atZ t k = k := by unfold atZ; omega
      rw [e0]
      have hw1 : IntKind.i64.wrap (k + 1) = k + 1 := wrap_small _ (by omega) (by omega)
      clear e0
      have g9 : True := trivial
      go_enter Tryz.func17, Tryz.ntmps17
      go_wp2
      go_loopw [6, 7, 8] (fun v6 v7 v8 wr => ∃ j : Nat, j ≤ ms.length ∧ v8 = .int .i64 j ∧ v6 = .int .i64 (placeZ (ms.take j) (k) (n, k + 1)).1 ∧ v7 = .int .i64 (placeZ (ms.take j) (k) (n, k + 1)).2 ∧ Below W0.heap.size W0 wr) (fun _ _ v8 _ => ms.length - (intOf v8).toNat)
      case atStart => exact ⟨0, Nat.zero_le _, rfl, rfl, by first | rfl | go_num, Below.refl _ _⟩
      case round =>
        obtain ⟨j, hj, rfl, rfl, rfl, hB1⟩ := hrel
        have c2 := (HL.out.below hB1).cell (i := 2) rfl
        rcases Nat.lt_or_ge j ms.length with hlt | hge
        · obtain ⟨m, hm⟩ : ∃ m, ms[j]? = some m := ⟨_, List.getElem?_eq_getElem hlt⟩
          obtain ⟨m0, m1, m2⟩ := HC.out wr hB1 j m hm
          have ha' := ha (fun e => by rw [e] at hlt; exact absurd hlt (Nat.not_lt_zero _))
          subst ha'
          have d0 : (0 : Int) ≤ (j : Int) := by omega
          have d1 : (j : Int) < (ms.length : Int) := by omega
          have hT : Hid (ms.take (j + 1) = ms.take j ++ [m]) := by unfold Hid; rw [List.take_add_one, hm]; rfl
          by_cases hle : m.pos ≤ k
          · go_wp2
            go_quiet (fail)
            go_wp2
            go_roundw
            case rel => exact ⟨j + 1, by omega, by go_num, by rw [hT.out, placeZ_snoc, if_pos hle], by rw [hT.out, placeZ_snoc, if_pos hle]; (congr 1; unfold wrap64; omega), below_drawn hB1 _⟩
            case measure => simp [intOf]; omega
          · go_wp2
            go_roundw
            case rel => exact ⟨j + 1, by omega, by go_num, by rw [hT.out, placeZ_snoc, if_neg hle], by rw [hT.out, placeZ_snoc, if_neg hle], hB1⟩
            case measure => simp [intOf]; omega
        · obtain rfl : j = ms.length := by omega
          rw [List.take_length]
          go_wp2
          go_ret2
          exact ⟨rfl, below_join hB0 hB1⟩
end Go.Proofs.YtjgijbeedgggdaaGreatDoor

namespace Go.Proofs.YtjgijbeedgggdaaGreatDoor
open Go Go.RowKit

theorem ln_oneZ (n : Int) (t : ByteArray) (u d : Value) (hu : ∃ a l c, u = .slice a l c) (hd : ∃ a l c, d = .slice a l c) : (#[.int .i64 n, .string t, u, d] : Array Value).all (·.oneCell') = true := by
  obtain ⟨a, l, c, rfl⟩ := hu
  obtain ⟨a2, l2, c2, rfl⟩ := hd
  simp [Value.oneCell']
/-- A line that was lent. -/
structure LentLn (W : World) (u d : Value) (ms : List MkZ) (ds : List DcZ) : Prop where
  m : LentM W u ms
  d : LentD W d ds
theorem LentLn.below {W W2 : World} {u d : Value} {ms : List MkZ} {ds : List DcZ} (h : LentLn W u d ms ds) (hb : Below W.heap.size W W2) : LentLn W2 u d ms ds := ⟨h.m.below hb, h.d.below hb⟩
set_option maxRecDepth 100000 in
set_option maxHeartbeats 4000000 in
theorem lentline_p (n : Int) (t : ByteArray) (u d : Value) (ms : List MkZ) (ds : List DcZ) (w : World) (hu : MksAt w u ms) (hd : DzsAt w d ds) (hml : ms.length ≤ 5864062014634) (hdl : ds.length ≤ 2932031007317) :
    Calls Tryz.prog 18 #[.agg #[.int .i64 n, .string t, u, d]] w fun e w' => ∃ u2 d2, e = .returned (.agg #[.int .i64 n, .string t, u2, d2]) ∧ LentLn w' u2 d2 ms ds ∧ Below w.heap.size w w' := by
  have hus : ∃ a l c, u = .slice a l c := by obtain ⟨a, c, _, _, h, _⟩ := hu; exact ⟨_, _, _, h⟩
  have hds : ∃ a l c, d = .slice a l c := by obtain ⟨a, c, _, _, h, _⟩ := hd; exact ⟨_, _, _, h⟩
  have HU : Hid (MksAt w u ms) := hu
  have HD : Hid (DzsAt w d ds) := hd
  clear hu hd
  obtain ⟨ua, ul, uc, rfl⟩ := hus
  obtain ⟨da, dl, dc, rfl⟩ := hds
  have hinf : (Tryz.prog.info? 64).map (·.size) = some 4 := by kernel_rfl
  have hw0 : Below w.heap.size w (((w.alloc (.cells #[.int .i64 n, .string t, .slice ua ul uc, .slice da dl dc] 64)).alloc (.cells #[.int .i64 0, .string ⟨#[]⟩, .slice none 0 0, .slice none 0 0] 64)).alloc (.cells #[.int .i64 n, .string t, .slice ua ul uc, .slice da dl dc] 64)) := (((Below.refl _ w).alloc (Nat.le_refl _) _).alloc (by simp) _).alloc (by simp; omega) _
  have hL1 : Lies (((w.alloc (.cells #[.int .i64 n, .string t, .slice ua ul uc, .slice da dl dc] 64)).alloc (.cells #[.int .i64 0, .string ⟨#[]⟩, .slice none 0 0, .slice none 0 0] 64)).alloc (.cells #[.int .i64 n, .string t, .slice ua ul uc, .slice da dl dc] 64)) w.heap.size 64 #[.int .i64 n, .string t, .slice ua ul uc, .slice da dl dc] := ((Lies.new w 64 _).below ((Below.refl _ _).alloc (Nat.le_refl _) _)).below ((Below.refl _ _).alloc (Nat.le_refl _) _)
  have hL2 : Lies (((w.alloc (.cells #[.int .i64 n, .string t, .slice ua ul uc, .slice da dl dc] 64)).alloc (.cells #[.int .i64 0, .string ⟨#[]⟩, .slice none 0 0, .slice none 0 0] 64)).alloc (.cells #[.int .i64 n, .string t, .slice ua ul uc, .slice da dl dc] 64)) (w.heap.size + 1) 64 #[.int .i64 0, .string ⟨#[]⟩, .slice none 0 0, .slice none 0 0] := by
    have h := (Lies.new (w.alloc (.cells #[.int .i64 n, .string t, .slice ua ul uc, .slice da dl dc] 64)) 64 #[.int .i64 0, .string ⟨#[]⟩, .slice none 0 0, .slice none 0 0]).below ((Below.refl _ _).alloc (Nat.le_refl _) (.cells #[.int .i64 n, .string t, .slice ua ul uc, .slice da dl dc] 64))
    simpa using h
  have hL3 : Lies (((w.alloc (.cells #[.int .i64 n, .string t, .slice ua ul uc, .slice da dl dc] 64)).alloc (.cells #[.int .i64 0, .string ⟨#[]⟩, .slice none 0 0, .slice none 0 0] 64)).alloc (.cells #[.int .i64 n, .string t, .slice ua ul uc, .slice da dl dc] 64)) (w.heap.size + 1 + 1) 64 #[.int .i64 n, .string t, .slice ua ul uc, .slice da dl dc] := by
    have h := Lies.new ((w.alloc (.cells #[.int .i64 n, .string t, .slice ua ul uc, .slice da dl dc] 64)).alloc (.cells #[.int .i64 0, .string ⟨#[]⟩, .slice none 0 0, .slice none 0 0] 64)) 64 #[.int .i64 n, .string t, .slice ua ul uc, .slice da dl dc]
    simpa using h
  go_enter Tryz.func18, Tryz.ntmps18
  go_wp2_with fail
  generalize (((w.alloc (.cells #[.int .i64 n, .string t, .slice ua ul uc, .slice da dl dc] 64)).alloc (.cells #[.int .i64 0, .string ⟨#[]⟩, .slice none 0 0, .slice none 0 0] 64)).alloc (.cells #[.int .i64 n, .string t, .slice ua ul uc, .slice da dl dc] 64)) = W1 at *
  have hg1 : w.heap.size + 1 + 1 < W1.heap.size := hL3.lt
  obtain ⟨G, hG⟩ : ∃ G, w.heap.size = G := ⟨_, rfl⟩
  rw [hG] at hL1 hL2 hL3 hg1 ⊢
  refine (lentM_p ms _ W1 (HU.out.below hw0) hml).mono ?_
  rintro e w2 ⟨u2, rfl, hLu, hgu, b2⟩
  obtain ⟨xa, xl, xc, rfl⟩ := hLu.sl
  have L1 := hL1.below b2
  have L2 := hL2.below b2
  have L3 := hL3.below b2
  have s2 := b2.size
  clear hL1 hL2 hL3
  have c3 := L3.cell (i := 2) rfl
  have f3 := L3.frozen 2
  have M1 := lies_set' (i := 2) L1 (show G ≠ G + 1 + 1 by omega) (.slice xa xl xc)
  have M2 := lies_set' (i := 2) L2 (show G + 1 ≠ G + 1 + 1 by omega) (.slice xa xl xc)
  have M3 : Lies (w2.setCell ⟨G + 1 + 1, 2, none⟩ (.slice xa xl xc)) (G + 1 + 1) 64 #[.int .i64 n, .string t, .slice xa xl xc, .slice da dl dc] := L3.set _
  have hLu3 : Hid (LentM (w2.setCell ⟨G + 1 + 1, 2, none⟩ (.slice xa xl xc)) (.slice xa xl xc) ms) := hLu.keep (fun g hg => Below.heap_setCell w2 ⟨G + 1 + 1, 2, none⟩ _ g (show g ≠ G + 1 + 1 by have := hgu g hg; omega))
  have B2 : Below G w (w2.setCell ⟨G + 1 + 1, 2, none⟩ (.slice xa xl xc)) := ((hG ▸ hw0 : Below G w W1).trans (b2.mono (show G ≤ W1.heap.size by omega))).setCell (p := ⟨G + 1 + 1, 2, none⟩) (show G ≤ G + 1 + 1 by omega) _
  have k3 := M1.cell (i := 3) rfl
  clear L1 L2
  have HGU : Hid (∀ j, (Value.slice xa xl xc).ownBlock = some j → W1.heap.size ≤ j) := hgu
  clear hgu hLu
  go_wp2_with fail
  have hs3 : W1.heap.size ≤ (w2.setCell ⟨G + 1 + 1, 2, none⟩ (.slice xa xl xc)).heap.size := by simpa using s2
  generalize (w2.setCell ⟨G + 1 + 1, 2, none⟩ (.slice xa xl xc)) = W3 at *
  have B2' : Below w.heap.size w W3 := by rw [hG]; exact B2
  refine (lentD_p ds _ W3 (HD.out.below B2') hdl).mono ?_
  rintro e w4 ⟨d2, rfl, hLd, hgd, b4⟩
  obtain ⟨ya, yl, yc, rfl⟩ := hLd.sl
  have N2 := M2.below b4
  have N3 := M3.below b4
  have s4 := b4.size
  clear M1 M2 M3 k3 L3 c3 f3
  have c4 := N3.cell (i := 3) rfl
  have f4 := N3.frozen 3
  have P2 := lies_set' (i := 3) N2 (show G + 1 ≠ G + 1 + 1 by omega) (.slice ya yl yc)
  have P3 : Lies (w4.setCell ⟨G + 1 + 1, 3, none⟩ (.slice ya yl yc)) (G + 1 + 1) 64 #[.int .i64 n, .string t, .slice xa xl xc, .slice ya yl yc] := N3.set _
  have hLd5 : LentD (w4.setCell ⟨G + 1 + 1, 3, none⟩ (.slice ya yl yc)) (.slice ya yl yc) ds := hLd.keep (fun g hg => Below.heap_setCell w4 ⟨G + 1 + 1, 3, none⟩ _ g (show g ≠ G + 1 + 1 by have := hgd g hg; omega))
  have hLu5 : LentM (w4.setCell ⟨G + 1 + 1, 3, none⟩ (.slice ya yl yc)) (.slice xa xl xc) ms := (hLu3.out.below b4).keep (fun g hg => Below.heap_setCell w4 ⟨G + 1 + 1, 3, none⟩ _ g (show g ≠ G + 1 + 1 by have := HGU.out g hg; omega))
  have B5 : Below G w (w4.setCell ⟨G + 1 + 1, 3, none⟩ (.slice ya yl yc)) := (B2.trans (b4.mono (show G ≤ W3.heap.size by omega))).setCell (p := ⟨G + 1 + 1, 3, none⟩) (show G ≤ G + 1 + 1 by omega) _
  have HLL : Hid (LentLn ((w4.setCell ⟨G + 1 + 1, 3, none⟩ (.slice ya yl yc)).setRow (G + 1) #[.int .i64 n, .string t, .slice xa xl xc, .slice ya yl yc]) (.slice xa xl xc) (.slice ya yl yc) ms ds) := ⟨hLu5.keep (fun g hg => setRow_other _ _ g _ (show g ≠ G + 1 by have := HGU.out g hg; omega)), hLd5.keep (fun g hg => setRow_other _ _ g _ (show g ≠ G + 1 by have := hgd g hg; omega))⟩
  have r0 := P3.cell (i := 0) rfl
  have r1 := P3.cell (i := 1) rfl
  have r2 := P3.cell (i := 2) rfl
  have r3 := P3.cell (i := 3) rfl
  have hone : (#[.int .i64 n, .string t, .slice xa xl xc, .slice ya yl yc] : Array Value).all (·.oneCell') = true := by simp [Value.oneCell']
  clear hLd hgd hLd5 hLu5 hLu3 N2 N3 P3
  go_wp2_with (first
    | (refine wpList_store_row rfl 64 (.tmp 2) (.tmp 13) rfl (G + 1) #[.int .i64 n, .string t, .slice xa xl xc, .slice ya yl yc] rfl rfl 64 #[.int .i64 0, .string ⟨#[]⟩, .slice none 0 0, .slice none 0 0] P2 hinf rfl hone ?_))
  dsimp only [Act.put]
  refine bodyPost_ret (results_cell_row rfl _ _ (G + 1) 64 #[.int .i64 n, .string t, .slice xa xl xc, .slice ya yl yc] (0, 0) _ rfl (setRow_heap _ (G + 1) _ _ _ (0, 0) P2) Tryz.underlying64 rfl hinf) rfl ?_
  exact ⟨_, _, rfl, HLL.out, by rw [hG]; exact below_setRow B5 (by omega) _⟩
set_option maxRecDepth 100000 in
set_option maxHeartbeats 4000000 in
theorem keptline_p (n : Int) (t : ByteArray) (u d u2 d2 : Value) (ms : List MkZ) (ds : List DcZ) (w : World) (hL : LentLn w u2 d2 ms ds) (hu : MksAt w u ms) (hd : DzsAt w d ds) (hml : ms.length ≤ 5864062014634) (hdl : ds.length ≤ 2932031007317) :
    Calls Tryz.prog 20 #[.agg #[.int .i64 n, .string t, u2, d2], .agg #[.int .i64 n, .string t, u, d]] w fun e w' => e = .returned (.bool true) ∧ Below w.heap.size w w' := by
  have hus : ∃ a l c, u = .slice a l c := by obtain ⟨a, c, _, _, h, _⟩ := hu; exact ⟨_, _, _, h⟩
  have hds : ∃ a l c, d = .slice a l c := by obtain ⟨a, c, _, _, h, _⟩ := hd; exact ⟨_, _, _, h⟩
  have HU : Hid (MksAt w u ms) := hu
  have HD : Hid (DzsAt w d ds) := hd
  have HL : Hid (LentLn w u2 d2 ms ds) := hL
  obtain ⟨xa, xl, xc, rfl⟩ := hL.m.sl
  obtain ⟨ya, yl, yc, rfl⟩ := hL.d.sl
  clear hu hd hL
  obtain ⟨ua, ul, uc, rfl⟩ := hus
  obtain ⟨da, dl, dc, rfl⟩ := hds
  have b1 : Below w.heap.size w ((w.alloc (.cells #[.int .i64 n, .string t, .slice xa xl xc, .slice ya yl yc] 64)).alloc (.cells #[.int .i64 n, .string t, .slice ua ul uc, .slice da dl dc] 64)) := ((Below.refl _ w).alloc (Nat.le_refl _) _).alloc (by simp) _
  have hL1 : Lies ((w.alloc (.cells #[.int .i64 n, .string t, .slice xa xl xc, .slice ya yl yc] 64)).alloc (.cells #[.int .i64 n, .string t, .slice ua ul uc, .slice da dl dc] 64)) w.heap.size 64 #[.int .i64 n, .string t, .slice xa xl xc, .slice ya yl yc] := (Lies.new w 64 _).below ((Below.refl _ _).alloc (Nat.le_refl _) _)
  have hL2 : Lies ((w.alloc (.cells #[.int .i64 n, .string t, .slice xa xl xc, .slice ya yl yc] 64)).alloc (.cells #[.int .i64 n, .string t, .slice ua ul uc, .slice da dl dc] 64)) (w.heap.size + 1) 64 #[.int .i64 n, .string t, .slice ua ul uc, .slice da dl dc] := by
    have h := Lies.new (w.alloc (.cells #[.int .i64 n, .string t, .slice xa xl xc, .slice ya yl yc] 64)) 64 #[.int .i64 n, .string t, .slice ua ul uc, .slice da dl dc]
    simpa using h
  go_enter Tryz.func20, Tryz.ntmps20
  go_wp2_with fail
  generalize ((w.alloc (.cells #[.int .i64 n, .string t, .slice xa xl xc, .slice ya yl yc] 64)).alloc (.cells #[.int .i64 n, .string t, .slice ua ul uc, .slice da dl dc] 64)) = W1 at *
  refine (keptM_p ms _ _ W1 (HL.out.m.below b1) (HU.out.below b1) hml).mono ?_
  rintro e w2 ⟨rfl, b2⟩
  have B2 := below_join b1 b2
  have r1 := (hL1.below b2).cell (i := 3) rfl
  have r2 := (hL2.below b2).cell (i := 3) rfl
  clear hL1 hL2
  go_wp2_with fail
  refine (keptD_p ds _ _ w2 (HL.out.d.below B2) (HD.out.below B2) hdl).mono ?_
  rintro e w3 ⟨rfl, b3⟩
  go_wp2
  go_ret
  exact ⟨rfl, below_join B2 b3⟩
set_option maxRecDepth 100000 in
set_option maxHeartbeats 4000000 in
theorem lexplace_law (n : Int) (t : ByteArray) (u d : Value) (ms : List MkZ) (ds : List DcZ) (k : Int) (w : World) (hT : Tabs w) (hE : ErrType w) (hu : MksAt w u ms) (hd : DzsAt w d ds) (ht : t.size ≤ 140737488351232) (hml : ms.length ≤ 5864062014634) (hdl : ds.length ≤ 2932031007317) :
    Calls Tryz.prog 4 #[.agg #[.int .i64 n, .string t, u, d], .int .i64 k] w fun e w' => e = .returned (.bool true) ∧ Below w.heap.size w w' := by
  have hus : ∃ a l c, u = .slice a l c := by obtain ⟨a, c, _, _, h, _⟩ := hu; exact ⟨_, _, _, h⟩
  have hds : ∃ a l c, d = .slice a l c := by obtain ⟨a, c, _, _, h, _⟩ := hd; exact ⟨_, _, _, h⟩
  have HU : Hid (MksAt w u ms) := hu
  have HD : Hid (DzsAt w d ds) := hd
  clear hu hd
  obtain ⟨ua, ul, uc, rfl⟩ := hus
  obtain ⟨da, dl, dc, rfl⟩ := hds
  have hWk : ∀ W, Below w.heap.size w W → Calls Tryz.prog 16 #[] W fun e w' => e = .returned (.bool true) ∧ Below W.heap.size W w' := fun W hW => works_l W (hT.below hW) (hE.belowE hW)
  have b0 : Below w.heap.size w (w.alloc (.cells #[.int .i64 n, .string t, .slice ua ul uc, .slice da dl dc] 64)) := (Below.refl _ w).alloc (Nat.le_refl _) _
  have L0 := Lies.new w 64 #[.int .i64 n, .string t, .slice ua ul uc, .slice da dl dc]
  go_enter Tryz.func4, Tryz.ntmps4
  go_wp2_with fail
  generalize (w.alloc (.cells #[.int .i64 n, .string t, .slice ua ul uc, .slice da dl dc] 64)) = W0 at *
  have hR := place_rb n t (.slice ua ul uc) (.slice da dl dc) ms k W0 (HU.out.below b0) ht (by omega)
  generalize hp1 : (placeZ ms (atZ t k) (n, atZ t k + 1)).1 = p1 at *
  generalize hp2 : (placeZ ms (atZ t k) (n, atZ t k + 1)).2 = p2 at *
  refine hR.mono ?_
  rintro e w1 ⟨rfl, b1⟩
  have B1 := below_join b0 b1
  have L1 := L0.below b1
  have c0 := L1.cell (i := 0) rfl
  have c1 := L1.cell (i := 1) rfl
  have c2 := L1.cell (i := 2) rfl
  have c3 := L1.cell (i := 3) rfl
  go_wp2_with fail
  refine (lentline_p n t _ _ ms ds w1 (HU.out.below B1) (HD.out.below B1) hml hdl).mono ?_
  rintro e w2 ⟨u2, d2, rfl, hLL, b2⟩
  have B2 := below_join B1 b2
  obtain ⟨xa, xl, xc, rfl⟩ := hLL.m.sl
  obtain ⟨ya, yl, yc, rfl⟩ := hLL.d.sl
  have b3 : Below w2.heap.size w2 (w2.alloc (.cells #[.int .i64 n, .string t, .slice xa xl xc, .slice ya yl yc] 64)) := (Below.refl _ w2).alloc (Nat.le_refl _) _
  have L3 := Lies.new w2 64 #[.int .i64 n, .string t, .slice xa xl xc, .slice ya yl yc]
  have M3 := (L1.below b2).below b3
  clear c0 c1 c2 c3
  go_wp2_with fail
  generalize (w2.alloc (.cells #[.int .i64 n, .string t, .slice xa xl xc, .slice ya yl yc] 64)) = W3 at *
  have B3 := below_join B2 b3
  have hLL3 := hLL.below b3
  have hZ := place_zb n t (.slice xa xl xc) (.slice ya yl yc) ms k W3 hLL3.m.at ht (by omega)
  rw [hp1, hp2] at hZ
  refine hZ.mono ?_
  rintro e w4 ⟨rfl, b4⟩
  have B4 := below_join B3 b4
  have N1 := M3.below b4
  have N2 := L3.below b4
  have c0 := N1.cell (i := 0) rfl
  have c1 := N1.cell (i := 1) rfl
  have c2 := N1.cell (i := 2) rfl
  have c3 := N1.cell (i := 3) rfl
  have e0 := N2.cell (i := 0) rfl
  have e1 := N2.cell (i := 1) rfl
  have e2 := N2.cell (i := 2) rfl
  have e3 := N2.cell (i := 3) rfl
  have hK := keptline_p n t _ _ _ _ ms ds w4 (hLL3.below b4) (HU.out.below B4) (HD.out.below B4) hml hdl
  clear hp1 hp2
  go_wp2_with fail
  refine hK.mono ?_
  rintro e w5 ⟨rfl, b5⟩
  have B5 := below_join B4 b5
  have h6 := hWk w5 B5
  go_wp2_with (go_at_call 16; refine h6.mono ?_; rintro e w6 ⟨rfl, b6⟩)
  go_ret
  exact ⟨rfl, below_join B5 b6⟩
end Go.Proofs.YtjgijbeedgggdaaGreatDoor

namespace Go.Proofs.YtjgijbeedgggdaaGreatDoor.fnLexPlace
open Go.ChangeShapes Go.WideShapes Go.ChangeAt Go.RowKit
open Go.WideMaps Go.WideElems
open Go.ChangeMaps (open_string shut_string)

abbrev listed : List (String × DataW Unit) := listedL
set_option maxRecDepth 100000 in
theorem contract (H : Type) (enc : TypeId × Value → H) (W : World) (base : Nat) (args : Array Value) (ds gs : List (DataW H)) (before : List MemPlace)
    (hval : ∀ (j : Nat) t v, Tryz.f4.params[j]? = some t → args[j]? = some v → Value.okWide Tryz.prog W .any base t v)
    (hW : DataW.Whole enc Tryz.prog Tryz.f4.params.toList Rows.lexPlaceSpec.vars false W args.toList ds gs before)
    (hz : (DataW.weightsEach Tryz.prog (Tryz.f4.params.toList ++ (OpenSpec.ofChange Rows.lexPlaceSpec).bare.plain.varTypes Tryz.prog) (ds ++ gs)).all (· ≤ reachBytes) = true)
    (hL : laidMetH Tryz.prog listed W) :
    Calls Tryz.prog 4 args W fun e W' => ∃ v, e = .returned v ∧ Rows.lexPlaceSpec.post enc Tryz.prog Tryz.f4 false true false false W args v W' := by
  have hW' := hW
  obtain ⟨p, q, hA0, hV, rfl, hfz, hnd⟩ := hW
  have hA : DataW.TrodAll enc Tryz.prog W 0 (fun _ => true) true Tryz.f4.params.toList args.toList ds p := hA0
  rw [Tryz.params4] at hA hval
  obtain ⟨v0, vs0, d0, ds0, p0, q0, hargs, rfl, rfl, h0, r0⟩ := trodAll_cons hA
  obtain ⟨v1, vs1, d1, ds1, p1, q1, rfl, rfl, rfl, h1, r1⟩ := trodAll_cons r0
  obtain ⟨rfl, rfl, rfl⟩ := trodAll_nil r1
  obtain rfl : args = #[v0, v1] := by cases args; simp_all
  obtain ⟨rfl, rfl⟩ := trodVars_none hV
  clear hA0
  simp only [List.append_nil] at hW'
  have k0 := fun (W' : World) (hg : Below W.heap.size W W') => Below.trod (by kernel_rfl) (by kernel_rfl) (of_decide_eq_true (by kernel_rfl)) h0 hg (by obtain ⟨fu, hf⟩ := h0; exact DataW.trod_lt _ _ _ _ hf)
  obtain ⟨n0, t0, u0, e0, m0, g0, rfl, hm0, hd0, zt0, zm0, zd0⟩ := open_line_sized (j := 0) hz rfl rfl (hval 0 64 v0 rfl rfl) h0
  have k1 := fun (W' : World) (hg : Below W.heap.size W W') => Below.trod (by kernel_rfl) (by kernel_rfl) (of_decide_eq_true (by kernel_rfl)) h1 hg (by obtain ⟨fu, hf⟩ := h1; exact DataW.trod_lt _ _ _ _ hf)
  obtain ⟨s1, rfl, rfl, rfl, hs1⟩ := open_int Tryz.underlying3 (hval 1 3 v1 rfl rfl) h1
  refine (lexplace_law n0 t0 u0 e0 m0 g0 s1 W (tabs_of_laidL hL) (handle_of_laidL hL) hm0 hd0 zt0 zm0 zd0).mono fun e W' ⟨he, hg⟩ => ?_
  subst he
  have e1 : Rows.lexPlaceSpec.fn H ([d0, .lit (.int .i64 s1)] ++ []) = { results := [.lit (.bool true)], args := [d0, .lit (.int .i64 s1)] } := by simp [Rows.lexPlaceSpec]
  refine ⟨_, rfl, _, _, _, [], p0 ++ ([] ++ []), [], hW', ?_, ?_, ?_, hg.frame _, fun h => by cases h⟩
  · rw [e1]; exact trodAll_mk1 (shut_bool Tryz.underlying4 true)
  · rw [e1]; exact trodAll_cons_mk (k0 W' hg) (trodAll_cons_mk (k1 W' hg) trodAll_mk0)
  · rw [e1]; rfl

set_option maxRecDepth 100000 in
theorem met (os : Os) (args : Array Value) : laidMetH Tryz.prog listed ((laidWorldL os).forCall (fun _ _ => 0) ⟨#[], args, []⟩).memory :=
  metL os args
theorem reads (os : Os) {H : Type} (enc : TypeId × Value → H) : ∃ places, DataW.whole enc Tryz.prog ((laidWorldL os).forCall (fun _ _ => 0) ⟨#[], #[.agg #[.int .i64 0, .string ⟨#[]⟩, .slice none 0 0, .slice none 0 0], .int .i64 0], []⟩).memory Tryz.f4.params.toList Rows.lexPlaceSpec.vars false #[Value.agg #[.int .i64 0, .string ⟨#[]⟩, .slice none 0 0, .slice none 0 0], Value.int .i64 0].toList 8 = some ([.agg [.lit (.int .i64 0), .lit (.string []), .nil, .nil], .lit (.int .i64 0)], [], places) :=
  ⟨[], by kernel_rfl⟩

set_option maxRecDepth 100000 in
theorem lifted (os : Os) (started : os.Started) (H : Type) (enc : TypeId × Value → H) (F : Stop.Interp) :
    ReturnsInHanded {} Tryz.checked os 4 .any ((OpenSpec.ofChange Rows.lexPlaceSpec).preRow enc Tryz.prog Tryz.f4 Rows.lexPlaceRow.domain false Rows.lexPlaceRow.laid) (((OpenSpec.ofChange Rows.lexPlaceSpec).at F).post enc Tryz.prog Tryz.f4 false true false false) := by
  obtain ⟨places, hx⟩ := reads os enc
  refine returnsInHanded_of_row (C := Tryz.checked) (s := OpenSpec.ofChange Rows.lexPlaceSpec) own started (by kernel_rfl) Tryz.func4
    (witness_row_atRef (enc := enc) (C := Tryz.checked) false (laidWorldL os) #[.agg #[.int .i64 0, .string ⟨#[]⟩, .slice none 0 0, .slice none 0 0], .int .i64 0] rfl (by kernel_rfl) (by kernel_rfl) (by kernel_rfl)
      (OpenSpec.preRow_of_cond 8 hx (by kernel_rfl) (fun k hk => by cases hk) (by kernel_rfl) (met os _))) ?_
  intro W base args ds gs before hval hW _ _ hz hL _ _
  exact contract H enc W base args ds gs before hval hW hz hL

theorem said : Rows.LexPlaceSaid :=
  OpenClaim.holds_of_cond 4 Tryz.f4 rfl rfl rfl rfl rfl rfl rfl ⟨rfl, rfl, rfl, rfl, rfl⟩ rfl rfl rfl rfl rfl (by kernel_rfl) Tryz.func4 (by kernel_rfl)
    (of_decide_eq_true (by kernel_rfl)) (by unfold Func.isWrapper; rw [if_neg (of_decide_eq_false (by kernel_rfl))]; exact ⟨rfl, rfl⟩)
    (fun os started H enc _ F => by rw [OpenClaim.pre_eq_preRow]; exact lifted os started H enc F)

theorem plainly (f : FuncId) (fn : Func) (hf : Tryz.pinned.checked.prog.funcNamed "strata/stratalaw14.LexPlace" = some f) (hfn : Tryz.pinned.checked.prog.funcs[f]? = some fn) :
    true = Tryz.pinned.checked.prog.looks [] ∧ ∀ (j : Nat) t, fn.params[j]? = some t → Tryz.pinned.checked.prog.wantsStandIn t = false := by
  obtain rfl : f = 4 := Option.some.inj ((show Tryz.prog.funcNamed "strata/stratalaw14.LexPlace" = some 4 by kernel_rfl).symm.trans hf) |>.symm
  obtain rfl : fn = Tryz.f4 := (Option.some.inj (Tryz.func4.symm.trans hfn)).symm
  refine ⟨by kernel_rfl, fun j t ht => ?_⟩
  rw [Tryz.params4] at ht
  have hm : t ∈ [64, 3] := by simpa using Array.mem_of_getElem? ht
  have hall : ([64, 3].all fun u => !Tryz.prog.wantsStandIn u) = true := by kernel_rfl
  exact (show Tryz.prog.wantsStandIn t = false by simpa using List.all_eq_true.1 hall t hm)

theorem card : Rows.LexPlaceCardSaid :=
  Claim7.holds_tied_plain_at .later [] _ _ _ _ said (fun _ h => by cases h) (by kernel_rfl) (fun _ h => by cases h) lexPlace_row_tie rfl ⟨rfl, rfl⟩ (by kernel_rfl) rfl plainly (by kernel_rfl)
end Go.Proofs.YtjgijbeedgggdaaGreatDoor.fnLexPlace
namespace Go.Proofs.YtjgijbeedgggdaaGreatDoor
theorem lexPlace_card : Rows.LexPlaceCardSaid := fnLexPlace.card
end Go.Proofs.YtjgijbeedgggdaaGreatDoor
