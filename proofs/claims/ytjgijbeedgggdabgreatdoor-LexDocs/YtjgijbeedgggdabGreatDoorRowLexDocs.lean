/- LexDocs, for every two texts: what stands in a document is its text: from its walk to its row and its card. -/
import Derived.Test.YtjgijbeedgggdabGreatDoorRows
import Derived.Test.YtjgijbeedgggdabGreatDoorPlain
import Derived.Test.YtjgijbeedgggdabGreatDoorCwW
import Derived.LaidHandle
import Derived.LaidLaws
import Derived.Stop.Joined
import Derived.Lib.LaidTab
import Derived.Lib.LaidU8T
import Derived.Lib.LaidCase
import Derived.SliceStrings
import Derived.Laws.Tables
import Derived.Test.YtjgijbeedgggdabGreatDoorShelf
import Derived.Lib.LaidCaseMet
import Derived.Lib.LaidIn
import Derived.Test.YtjgijbeedgggdabGreatDoorLexL
import Derived.Test.YtjgijbeedgggdabGreatDoorByM
import Derived.BigQuiet
import Derived.Deep.Cut
import Derived.Test.YtjgijbeedgggdabGreatDoorBytes
import Derived.Laws.AppendOwn
import Derived.OwnWalk
import Derived.Test.YtjgijbeedgggdabGreatDoorLexJ
import Derived.Test.YtjgijbeedgggdabGreatDoorDocM
import Derived.Test.YtjgijbeedgggdabGreatDoorCkW
import Derived.Test.YtjgijbeedgggdabGreatDoorDrsW
import Derived.Test.YtjgijbeedgggdabGreatDoorAllW
import Derived.Test.YtjgijbeedgggdabGreatDoorPlaceF
import Derived.Test.YtjgijbeedgggdabGreatDoorCards
import Derived.Test.YtjgijbeedgggdabGreatDoorTie
import Derived.ProofKit
import Derived.OpenShut
import Derived.SizedLaws
import Derived.Deep.DeepHandedRow
import Derived.SevenTiedAt
import Derived.Deep.DeepWitnessRowRef

namespace Go.Proofs.YtjgijbeedgggdabGreatDoor
open Go.ChangeShapes Go.WideShapes Go.RowKit Go.Lib

theorem own : ownKnob Tryz.prog.godebug = none := by kernel_rfl
theorem l_et : Tryz.prog.globalNamed "errors.errorType" = some 0 := by kernel_rfl
theorem l_rt : (Tryz.prog.cutTypes.find? (·.1 == "internal/reflectlite.rtype")).map (·.2) = some 137 := by kernel_rfl
theorem l_oneRow : ((List.range 204).filter fun t => Tryz.prog.rowNamed t [101, 114, 114, 111, 114]) = [27] := by kernel_rfl
theorem l_size : Tryz.prog.types.size = 204 := by kernel_rfl

abbrev listedL : List (String × DataW Unit) := [("unicode/utf8.acceptRanges", Rows.laid_unicode_utf8_acceptRanges), ("errors.errorType", Rows.laid_errors_errorType), ("unicode.asciiFold", Rows.laid_unicode_asciiFold), ("unicode.caseOrbit", Rows.laid_unicode_caseOrbit), ("unicode.CaseRanges", Rows.laid_unicode_CaseRanges), ("unicode/utf8.first", Rows.laid_unicode_utf8_first)]
abbrev listedN : List (String × DataW Unit) := [("unicode/utf8.acceptRanges", Rows.laid_unicode_utf8_acceptRanges), ("unicode.asciiFold", Rows.laid_unicode_asciiFold), ("unicode.caseOrbit", Rows.laid_unicode_caseOrbit), ("unicode.CaseRanges", Rows.laid_unicode_CaseRanges), ("unicode/utf8.first", Rows.laid_unicode_utf8_first)]
theorem parts_of_laidL {W : World} (h : laidMetH Tryz.prog listedL W) : laidMet Tryz.prog listedN W ∧ handlesMet Tryz.prog [("errors.errorType", Rows.laid_errors_errorType)] W := h
set_option maxRecDepth 100000 in
theorem handle_of_laidL {W : World} (h : laidMetH Tryz.prog listedL W) : ErrType W := by
  have h2 := parts_of_laidL h
  obtain ⟨name, u, ty, e1, e2, e3, e4, e5⟩ := h2.2 _ (List.mem_singleton.2 rfl)
  have en : name = [101, 114, 114, 111, 114] := (Option.some.inj e1).symm
  subst en
  obtain rfl := Option.some.inj (l_rt.symm.trans e2)
  have hm : ty ∈ (List.range 204).filter fun t => Tryz.prog.rowNamed t [101, 114, 114, 111, 114] := List.mem_filter.2 ⟨List.mem_range.2 (by rw [← l_size]; exact e3), e4⟩
  rw [l_oneRow] at hm
  obtain rfl := List.mem_singleton.1 hm
  have hh : typeHandle Tryz.prog 27 = .pointer (some ⟨7, 27, none⟩) := by kernel_rfl
  rw [hh] at e5
  have h3 := World.var?_cell l_et e5 0
  unfold ErrType
  simpa using h3
def u8ren : Go.Shelf.Ren := ⟨fun n => n, fun | 5 => 5 | 119 => 152 | 138 => 155 | 139 => 156 | n => n, fun | 3 => 2 | 4 => 3 | n => n⟩
theorem u8types : U8Types Tryz.prog u8ren := ⟨by kernel_rfl, by kernel_rfl, by kernel_rfl, by kernel_rfl⟩
set_option maxRecDepth 100000 in
theorem e_first : Rows.laid_unicode_utf8_first = Lib.firstData := by kernel_rfl
set_option maxRecDepth 100000 in
theorem e_acc : (Rows.laid_unicode_utf8_acceptRanges : DataW Unit) = Lib.acceptData := by kernel_rfl
theorem utf8_of_laidL {W : World} (h : laidMetH Tryz.prog listedL W) : Lib.Utf8Tabs 2 3 W := by
  have h1 := Lib.laidMet.reads (parts_of_laidL h).1 (n := "unicode/utf8.first") (d := Rows.laid_unicode_utf8_first) (.tail _ (.tail _ (.tail _ (.tail _ (.head _)))))
  have h2 := Lib.laidMet.reads (parts_of_laidL h).1 (n := "unicode/utf8.acceptRanges") (d := Rows.laid_unicode_utf8_acceptRanges) (.head _)
  rw [e_first] at h1
  rw [e_acc] at h2
  exact utf8Tabs_of_readsT u8types ⟨by kernel_rfl, by kernel_rfl, by kernel_rfl, by kernel_rfl, by kernel_rfl, by kernel_rfl, by kernel_rfl⟩ h1 h2
def intsOf : DataW Unit → List Int
  | .agg ds => ds.map fun
    | .lit (.int _ n) => n
    | _ => 0
  | _ => []
set_option maxRecDepth 100000 in
theorem e_fold : (Rows.laid_unicode_asciiFold : DataW Unit) = tabData .u16 (intsOf Rows.laid_unicode_asciiFold) := by kernel_rfl
theorem f_name : Tryz.prog.globalNamed "unicode.asciiFold" = some 4 := by kernel_rfl
theorem f_type : (Tryz.prog.globals[4]?).map (·.type) = some 166 := by kernel_rfl
theorem o_name : Tryz.prog.globalNamed "unicode.caseOrbit" = some 5 := by kernel_rfl
theorem o_type : (Tryz.prog.globals[5]?).map (·.type) = some 167 := by kernel_rfl
theorem c_u16 : Tryz.prog.cellsOf 165 = 1 := by kernel_rfl
theorem c_128 : Tryz.prog.cellsOf 166 = 128 := by kernel_rfl
theorem c_pair : Tryz.prog.cellsOf 169 = 2 := by kernel_rfl
set_option maxRecDepth 100000 in
theorem fold1_of_laidL {W : World} (h : laidMetH Tryz.prog listedL W) : Fold1 W := by
  have h1 := Lib.laidMet.reads (parts_of_laidL h).1 (n := "unicode.asciiFold") (d := Rows.laid_unicode_asciiFold) (.tail _ (.head _))
  rw [e_fold] at h1
  obtain ⟨g, t, cs, fuel, p, hg, hty, hvar, hd⟩ := h1
  obtain rfl := Option.some.inj (f_name.symm.trans hg)
  obtain rfl := Option.some.inj (f_type.symm.trans hty)
  have hcs := cells_of_tab Tryz.underlying166 Tryz.underlying165 c_u16 c_128 hd
  have hc : ∀ c : Nat, W.cell? ⟨4, c, none⟩ = ((intsOf Rows.laid_unicode_asciiFold).map fun z => Value.int .u16 z)[c]? := fun c => by
    rw [World.var?_cell hg hvar c, ← Array.getElem?_toList, hcs]
  intro c hm
  rw [hc, hc]
  simp only [List.mem_cons, List.not_mem_nil, or_false] at hm
  rcases hm with rfl | rfl | rfl | rfl | rfl | rfl | rfl
  all_goals exact ⟨by kernel_rfl, by kernel_rfl⟩
def pairsOf : DataW Unit → List (DataW Unit)
  | .slice ds _ => ds
  | _ => []
theorem pair_cells {H : Type} {enc : TypeId × Value → H} {w : World} {base : Nat} {sp : Nat → Bool} {held : Bool} {fuel : Nat} {cs : List Value} {a b : Int} {p : List MemPlace}
    (h : DataW.trod enc Tryz.prog w base sp held fuel 169 cs = some (.agg [.lit (.int .u16 a), .lit (.int .u16 b)], p)) : cs[0]? = some (.int .u16 a) ∧ cs[1]? = some (.int .u16 b) := by
  obtain ⟨xs, n, rfl, hx, hl, hxl, hall⟩ := DataW.trod_struct Tryz.underlying169 h
  have hx3 : xs.map (·.1) = [.lit (.int .u16 a), .lit (.int .u16 b)] := by
    have := congrArg Prod.fst hx
    simpa using this.symm
  obtain ⟨x0, x1, rfl⟩ : ∃ x0 x1, xs = [x0, x1] := by
    match xs, hx3 with
    | [x0, x1], _ => exact ⟨x0, x1, rfl⟩
  simp only [List.map_cons, List.map_nil, List.cons.injEq, and_true] at hx3
  obtain ⟨e0, e1⟩ := hx3
  have f0 := hall 0 _ rfl
  have f1 := hall 1 _ rfl
  change DataW.trod _ _ _ _ _ _ _ 165 ((cs.drop 0).take (Tryz.prog.cellsOf 165)) = some x0 at f0
  change DataW.trod _ _ _ _ _ _ _ 165 ((cs.drop 1).take (Tryz.prog.cellsOf 165)) = some x1 at f1
  rw [c_u16] at f0 f1
  refine ⟨?_, ?_⟩
  · obtain ⟨z, hz, hx', _⟩ := DataW.trod_int Tryz.underlying165 f0
    rw [hx'] at e0
    cases e0
    exact at_of_take hz
  · obtain ⟨z, hz, hx', _⟩ := DataW.trod_int Tryz.underlying165 f1
    rw [hx'] at e1
    cases e1
    exact at_of_take hz
set_option maxRecDepth 100000 in
theorem fold2_of_laidL {W : World} (h : laidMetH Tryz.prog listedL W) : Fold2 W := by
  have h1 := Lib.laidMet.reads (parts_of_laidL h).1 (n := "unicode.caseOrbit") (d := Rows.laid_unicode_caseOrbit) (.tail _ (.tail _ (.head _)))
  obtain ⟨g, t, cs, fuel, p, hg, hty, hvar, hd⟩ := h1
  obtain rfl := Option.some.inj (o_name.symm.trans hg)
  obtain rfl := Option.some.inj (o_type.symm.trans hty)
  rcases DataW.trod_slice Tryz.underlying167 hd with ⟨_, hx'⟩ | ⟨a', len, cap, el, rs, m, rfl, hc0, hx', _, hlc, _, hel, helem, hsp, _⟩
  · have := congrArg Prod.fst hx'
    cases this
  have e0 := congrArg (fun x => pairsOf x.1) hx'
  have eE : pairsOf Rows.laid_unicode_caseOrbit = el.map (·.1) := e0
  have hpl : (pairsOf Rows.laid_unicode_caseOrbit).length = 94 := by kernel_rfl
  have hlen : len = 94 := by
    have := congrArg List.length eE
    rw [hpl, List.length_map] at this
    omega
  have hrow : ∀ (i : Nat) (a b : Int), (pairsOf Rows.laid_unicode_caseOrbit)[i]? = some (.agg [.lit (.int .u16 a), .lit (.int .u16 b)]) → W.cell? ((a'.add (i * 2)).add 0) = some (.int .u16 a) ∧ W.cell? ((a'.add (i * 2)).add 1) = some (.int .u16 b) := by
    intro i a b hi
    have hil := (List.getElem?_eq_some_iff.1 hi).1
    rw [hpl] at hil
    have h1 := helem i (by omega)
    rw [c_pair] at h1
    obtain ⟨b1, hb⟩ : ∃ b, el[i]? = some b := ⟨el[i]'(by omega), List.getElem?_eq_getElem (by omega)⟩
    rw [hb] at h1
    obtain ⟨ce, hce, hte⟩ := Option.bind_eq_some_iff.1 h1
    have hb1 : b1.1 = .agg [.lit (.int .u16 a), .lit (.int .u16 b)] := by
      rw [eE, List.getElem?_map, hb, Option.map_some] at hi
      exact Option.some.inj hi
    obtain ⟨q0, q1⟩ := pair_cells (p := b1.2) (by rw [← hb1]; exact hte)
    obtain ⟨_, _, hcc⟩ := World.cells?_some hce
    exact ⟨by rw [hcc 0 (by omega), q0], by rw [hcc 1 (by omega), q1]⟩
  obtain ⟨R, oR, sR⟩ := a'
  obtain rfl : sR = none := by
    have h00 := (hrow 0 75 107 (by kernel_rfl)).1
    have : (Addr.add (Addr.add ⟨R, oR, sR⟩ (0 * 2)) 0) = ⟨R, oR, sR⟩ := by simp [Addr.add]
    rw [this] at h00
    exact cell_spot h00
  have hc : ∀ (i : Nat) (a b : Int), (pairsOf Rows.laid_unicode_caseOrbit)[i]? = some (.agg [.lit (.int .u16 a), .lit (.int .u16 b)]) → W.cell? ⟨R, oR + i * 2, none⟩ = some (.int .u16 a) ∧ W.cell? ⟨R, oR + (i * 2 + 1), none⟩ = some (.int .u16 b) := by
    intro i a b hi
    obtain ⟨q0, q1⟩ := hrow i a b hi
    have a0 : (Addr.add (Addr.add ⟨R, oR, none⟩ (i * 2)) 0) = ⟨R, oR + i * 2, none⟩ := by simp [Addr.add]
    have a1 : (Addr.add (Addr.add ⟨R, oR, none⟩ (i * 2)) 1) = ⟨R, oR + (i * 2 + 1), none⟩ := by rw [Addr.add_mid, Addr.add_mid, Nat.add_assoc]
    rw [a0] at q0
    rw [a1] at q1
    exact ⟨q0, q1⟩
  have hR := World.block_lt_of_cell? W _ (hc 0 75 107 (by kernel_rfl)).1
  refine ⟨R, oR, cap, hR, ?_, (hc 47 966 981 (by kernel_rfl)).1, (hc 23 837 921 (by kernel_rfl)).1, (hc 11 452 453 (by kernel_rfl)).1, (hc 5 197 229 (by kernel_rfl)).1, (hc 8 304 304 (by kernel_rfl)).1, (hc 10 383 83 (by kernel_rfl)).1, (hc 9 305 305 (by kernel_rfl)).1, (hc 10 383 83 (by kernel_rfl)).2⟩
  rw [World.var?_cell hg hvar 0, ← Array.getElem?_toList, hc0, hlen]
  rfl
theorem tabs_of_laidL {W : World} (h : laidMetH Tryz.prog listedL W) : Tabs W := ⟨utf8_of_laidL h, fold1_of_laidL h, fold2_of_laidL h⟩
end Go.Proofs.YtjgijbeedgggdabGreatDoor

namespace Go.Proofs.YtjgijbeedgggdabGreatDoor
open Go.ChangeShapes Go.WideShapes Go.RowKit Go.Lib

def caseRen : Go.Shelf.Ren := ⟨Tryz.lays274_ren.f, Tryz.lays274_ren.t, fun | 13 => 6 | n => n⟩
theorem caseLays : Go.Proofs.Lays.n274 Tryz.prog caseRen := { Tryz.lays274 with }
theorem case206 : Tryz.prog.underlying (caseRen.t 206) = some (.array 3 (caseRen.t 21)) := by kernel_rfl
theorem caseX : CaseExtra Tryz.prog caseRen := ⟨by kernel_rfl, by kernel_rfl, by kernel_rfl, by kernel_rfl, by kernel_rfl, by kernel_rfl⟩
set_option maxRecDepth 100000 in
theorem laidIn_caseL {w : World} (R : Nat) (t : TypeId) (hgR : 6 ≠ R)
    (hvar : w.heap[6]? = some (.cells #[.slice (some ⟨R, 0, none⟩) caseA.size caseA.size] 172 (0, 0)))
    (hblk : w.heap[R]? = some (.cells caseCells5 t (0, 0))) : LaidIn Tryz.prog w [("unicode.CaseRanges", caseData)] [6, R] := by
  have hT := caseTab_of_block hblk
  have hread := case_slice_reads caseLays case206 caseX hT caseA_wf (by rw [caseA_size]; unfold maxLen; omega) 0
  rw [case_rows_data] at hread
  have hv : w.var? Tryz.prog "unicode.CaseRanges" = some #[.slice (some ⟨R, 0, none⟩) caseA.size caseA.size] := by
    have hn := caseX.n13
    simp only [caseRen] at hn
    simp [World.var?, hn, hvar]
  have hshape : MemPlace.row ⟨6, 0, none⟩ (#[Value.slice (some ⟨R, 0, none⟩) caseA.size caseA.size] : Array Value).size ++ MemPlace.row ⟨R, 0, none⟩ (caseA.size * 5) =
      ([((⟨6, 0, none⟩ : Addr), 1), (⟨R, 0, none⟩, caseA.size * 5)] : List (Addr × Nat)).flatMap (fun r => MemPlace.row r.1 r.2) := by simp
  refine LaidIn.one _ caseX.n13 caseX.y13 hv hread ?_ ?_ ?_
  · show (MemPlace.row ⟨6, 0, none⟩ _ ++ _).Nodup
    rw [hshape]
    exact rows_nodup _ (by simp; exact hgR)
  · show RowsFit _ _ (MemPlace.row ⟨6, 0, none⟩ _ ++ _)
    rw [hshape]
    intro b off hp
    simp only [List.flatMap_cons, List.flatMap_nil, List.append_nil, List.mem_append] at hp
    rcases hp with hp | hp
    · obtain ⟨i, hi, e'⟩ := MemPlace.mem_row.1 hp
      cases e'
      refine ⟨⟨_, _, hvar⟩, fun u v hc' => ?_⟩
      obtain rfl : i = 0 := Nat.lt_one_iff.1 hi
      rw [cell_of_heap hvar] at hc'
      cases hc'
    · obtain ⟨i, hi, e⟩ := MemPlace.mem_row.1 hp
      cases e
      refine ⟨⟨_, _, hblk⟩, fun u v hc => ?_⟩
      obtain ⟨c0, c1, c2, c3, c4⟩ := hT (i / 5) (by omega)
      have hi5 : 0 + i = 0 + i / 5 * 5 + i % 5 := by omega
      simp only at hc
      rw [hi5] at hc
      have hm : i % 5 < 5 := Nat.mod_lt _ (by omega)
      match hk : i % 5, hm with
      | 0, _ => rw [hk, Nat.add_zero, c0] at hc; cases hc
      | 1, _ => rw [hk, c1] at hc; cases hc
      | 2, _ => rw [hk, c2] at hc; cases hc
      | 3, _ => rw [hk, c3] at hc; cases hc
      | 4, _ => rw [hk, c4] at hc; cases hc
  · show ∀ x ∈ MemPlace.row ⟨6, 0, none⟩ _ ++ _, _
    rw [hshape]
    exact rows_block _
def flatV : Nat → DataW Unit → List Value
  | _ + 1, .lit (.int k n) => [.int k n]
  | fu + 1, .agg ds => ds.flatMap (flatV fu)
  | fu + 1, .slice ds _ => ds.flatMap (flatV fu)
  | _, _ => []
noncomputable def baseL (os : Os) : World := ((World.holding Tryz.prog os ⟨#[], #[], []⟩).alloc (.cells (flatV 5 Rows.laid_unicode_caseOrbit).toArray 169)).alloc (.cells caseCells5 178)
noncomputable def laidWorldL (os : Os) : World :=
  ((((((baseL os).setRow 3 (flatV 5 Rows.laid_unicode_utf8_acceptRanges).toArray).setRow 2 (flatV 5 Rows.laid_unicode_utf8_first).toArray).setRow 4 (flatV 5 Rows.laid_unicode_asciiFold).toArray).setRow 5 #[.slice (some ⟨(World.holding Tryz.prog os ⟨#[], #[], []⟩).heap.size, 0, none⟩) 94 94]).setRow 6 #[.slice (some ⟨(World.holding Tryz.prog os ⟨#[], #[], []⟩).heap.size + 1, 0, none⟩) caseA.size caseA.size]).setRow 0 #[.iface 137 (.agg #[.pointer (some ⟨7, 27, none⟩)])]
set_option maxRecDepth 100000 in
theorem e_case : Rows.laid_unicode_CaseRanges = caseData := by kernel_rfl
set_option maxRecDepth 100000 in
theorem metL (os : Os) (args : Array Value) : laidMetH Tryz.prog listedL ((laidWorldL os).forCall (fun _ _ => 0) ⟨#[], args, []⟩).memory := by
  have hA : LaidIn Tryz.prog ((laidWorldL os).forCall (fun _ _ => 0) ⟨#[], args, []⟩).memory [("unicode/utf8.acceptRanges", Rows.laid_unicode_utf8_acceptRanges), ("unicode.asciiFold", Rows.laid_unicode_asciiFold), ("unicode.caseOrbit", Rows.laid_unicode_caseOrbit)] [3, 4, 5, (World.holding Tryz.prog os ⟨#[], #[], []⟩).heap.size] :=
    LaidIn.of_run _ 8 (by kernel_rfl) (by kernel_rfl) (by kernel_rfl) (by kernel_rfl)
  have hB := laidIn_caseL (w := ((laidWorldL os).forCall (fun _ _ => 0) ⟨#[], args, []⟩).memory) ((World.holding Tryz.prog os ⟨#[], #[], []⟩).heap.size + 1) 178 (of_decide_eq_true (by kernel_rfl)) (by kernel_rfl) (by kernel_rfl)
  rw [← e_case] at hB
  have hC : LaidIn Tryz.prog ((laidWorldL os).forCall (fun _ _ => 0) ⟨#[], args, []⟩).memory [("unicode/utf8.first", Rows.laid_unicode_utf8_first)] [2] :=
    LaidIn.of_run _ 8 (by kernel_rfl) (by kernel_rfl) (by kernel_rfl) (by kernel_rfl)
  exact laidMetH_of_parts ((LaidIn.append hA (LaidIn.append hB hC (by kernel_rfl)) (by kernel_rfl)).met) (by kernel_rfl)
end Go.Proofs.YtjgijbeedgggdabGreatDoor

namespace Go.Proofs.YtjgijbeedgggdabGreatDoor
open Go Go.RowKit

theorem lower_r (c : UInt8) (w : World) : Calls Tryz.prog 25 #[.int .u8 c.toNat] w fun e w' => e = .returned (.int .u8 (lowB c).toNat) ∧ w' = w := by
  have hn := c.toNat_lt
  by_cases h1 : 65 ≤ c.toNat
  · by_cases h2 : c.toNat ≤ 90
    · have HL : Hid (((lowB c).toNat : Int) = (c.toNat : Int) + 32) := by
        unfold Hid lowB
        rw [if_pos ⟨by rw [UInt8.le_iff_toNat_le]; exact h1, by rw [UInt8.le_iff_toNat_le]; exact h2⟩, UInt8.toNat_add]
        show (((c.toNat + 32) % 256 : Nat) : Int) = _
        omega
      have k1 : (65 : Int) ≤ (c.toNat : Int) := by omega
      have k2 : (c.toNat : Int) ≤ 90 := by omega
      rw [HL.out]
      go_enter Tryz.func25, Tryz.ntmps25
      go_wp2
      go_ret
      exact ⟨rfl, rfl⟩
    · have HL : Hid (lowB c = c) := by
        unfold Hid lowB
        rw [if_neg (show ¬ (65 ≤ c ∧ c ≤ 90) from fun h => h2 (UInt8.le_iff_toNat_le.1 h.2))]
      have k1 : (65 : Int) ≤ (c.toNat : Int) := by omega
      have k2 : ¬ (c.toNat : Int) ≤ 90 := by omega
      rw [HL.out]
      go_enter Tryz.func25, Tryz.ntmps25
      go_wp2
      go_ret
      exact ⟨rfl, rfl⟩
  · have HL : Hid (lowB c = c) := by
      unfold Hid lowB
      rw [if_neg (show ¬ (65 ≤ c ∧ c ≤ 90) from fun h => h1 (UInt8.le_iff_toNat_le.1 h.1))]
    have k1 : ¬ (65 : Int) ≤ (c.toNat : Int) := by omega
    rw [HL.out]
    go_enter Tryz.func25, Tryz.ntmps25
    go_wp2
    go_ret
    exact ⟨rfl, rfl⟩
end Go.Proofs.YtjgijbeedgggdabGreatDoor

namespace Go.Proofs.YtjgijbeedgggdabGreatDoor
open Go Go.RowKit

def nmB (c : UInt8) : Bool := (decide (97 ≤ c) && decide (c ≤ 122)) || (decide (48 ≤ c) && decide (c ≤ 57)) || c == 95
theorem nameL_all (x : Ln) : nameL x = (decide (1 ≤ x.length) && decide (x.length ≤ 96) && x.all fun b => nmB (lowB b)) := rfl
set_option maxHeartbeats 2000000 in
theorem isname_r (s : ByteArray) (w : World) (hs : s.size ≤ 1099511627776) : Calls Tryz.prog 12 #[.string s] w fun e w' => e = .returned (.bool (nameL (un s))) ∧ w' = w := by
  have hsl := un_length s
  by_cases h1 : s.size < 1
  · have HN : Hid (nameL (un s) = false) := by unfold Hid; rw [nameL_all, decide_eq_false (by omega)]; rfl
    have k1 : (s.size : Int) < 1 := by omega
    rw [HN.out]
    go_enter Tryz.func12, Tryz.ntmps12
    go_wp2
    go_ret
    exact ⟨rfl, rfl⟩
  by_cases h2 : 96 < s.size
  · have HN : Hid (nameL (un s) = false) := by unfold Hid; rw [nameL_all, decide_eq_false (show ¬ (un s).length ≤ 96 by omega), Bool.and_false, Bool.false_and]
    have k1 : ¬ (s.size : Int) < 1 := by omega
    have k2 : (96 : Int) < (s.size : Int) := by omega
    rw [HN.out]
    go_enter Tryz.func12, Tryz.ntmps12
    go_wp2
    go_ret
    exact ⟨rfl, rfl⟩
  have k1 : ¬ (s.size : Int) < 1 := by omega
  have k2 : ¬ (96 : Int) < (s.size : Int) := by omega
  have HN : Hid (nameL (un s) = (un s).all fun b => nmB (lowB b)) := by
    unfold Hid; rw [nameL_all, decide_eq_true (show 1 ≤ (un s).length by omega), decide_eq_true (show (un s).length ≤ 96 by omega)]; rfl
  go_enter Tryz.func12, Tryz.ntmps12
  go_wp2
  go_loop [3, 4] (fun i _ => ∃ k : Nat, k ≤ s.size ∧ i = .int .i64 k ∧ Hid (((un s).take k).all (fun b => nmB (lowB b)) = true)) (fun i _ => s.size - (intOf i).toNat)
  case atStart => exact ⟨0, Nat.zero_le _, rfl, by simp [Hid]⟩
  case round =>
    obtain ⟨k, hk, rfl, HA⟩ := hrel
    by_cases hlt : k < s.size
    · have hget := un_getElem? s k hlt
      have k0 : (0 : Int) ≤ (k : Int) := by omega
      have k3 : (k : Int) < (s.size : Int) := by omega
      have hlo := fun W => lower_r s[k] W
      have HF : Hid (nmB (lowB s[k]) = false → nameL (un s) = false) := fun hb => by
        rw [HN.out, List.all_eq_false]
        exact ⟨s[k], List.mem_of_getElem? hget, by rw [hb]; decide⟩
      have HA2 : Hid (nmB (lowB s[k]) = true → ((un s).take (k + 1)).all (fun b => nmB (lowB b)) = true) := fun hb => by
        rw [List.take_add_one, hget, List.all_append, HA.out]; simp [hb]
      clear hget
      generalize lowB s[k] = c at *
      have q95 : ((c.toNat : Int) != 95) = !decide (c = 95) := by unfold bne; rw [show ((c.toNat : Int) == 95) = decide (c = 95) from beq_b8 _ 95 (by decide)]
      have HNB : Hid (nmB c = ((decide (97 ≤ c.toNat) && decide (c.toNat ≤ 122)) || (decide (48 ≤ c.toNat) && decide (c.toNat ≤ 57)) || decide (c = 95))) := by
        unfold Hid nmB
        have e : ∀ a b : UInt8, decide (a ≤ b) = decide (a.toNat ≤ b.toNat) := fun a b => decide_eq_decide.2 UInt8.le_iff_toNat_le
        rw [e, e, e, e]; rfl
      have hcases : (c.toNat : Int) < 48 ∨ ((48 : Int) ≤ c.toNat ∧ (c.toNat : Int) ≤ 57) ∨ ((58 : Int) ≤ c.toNat ∧ (c.toNat : Int) ≤ 96) ∨ ((97 : Int) ≤ c.toNat ∧ (c.toNat : Int) ≤ 122) ∨ (123 : Int) ≤ c.toNat := by omega
      by_cases h95 : c = 95
      · have hc : c.toNat = 95 := by rw [h95]; rfl
        have HT := HA2.out (by rw [HNB.out, decide_eq_true h95, Bool.or_true])
        have HTH : Hid _ := HT
        rw [decide_eq_true h95] at q95
        simp only [Bool.not_true] at q95
        have a1 : (c.toNat : Int) < 97 := by omega
        have a3 : ¬ (c.toNat : Int) < 48 := by omega
        have a4 : (57 : Int) < (c.toNat : Int) := by omega
        clear h95 hc hcases HT HF HA2 HNB
        go_wp2_with (go_at_call 25; refine (hlo _).mono ?_; rintro e w1 ⟨rfl, hw⟩; replace hw := hw.symm; subst hw)
        first
          | exact ⟨⟨k + 1, by omega, by go_num, HTH⟩, by simp [intOf]; omega⟩
          | (go_round
             case rel => exact ⟨k + 1, by omega, by go_num, HTH⟩
             case measure => simp [intOf]; omega)
      · rw [decide_eq_false h95] at q95
        simp only [Bool.not_false] at q95
        have HNB2 : Hid (nmB c = ((decide (97 ≤ c.toNat) && decide (c.toNat ≤ 122)) || (decide (48 ≤ c.toNat) && decide (c.toNat ≤ 57)))) := by unfold Hid; rw [HNB.out, decide_eq_false h95, Bool.or_false]
        clear h95 HNB
        rcases hcases with h | ⟨h, h'⟩ | ⟨h, h'⟩ | ⟨h, h'⟩ | h
        all_goals first | have c1 : (c.toNat : Int) < 97 := by omega | have c1 : ¬ (c.toNat : Int) < 97 := by omega
        all_goals first | have c2 : (122 : Int) < (c.toNat : Int) := by omega | have c2 : ¬ (122 : Int) < (c.toNat : Int) := by omega
        all_goals first | have c3 : (c.toNat : Int) < 48 := by omega | have c3 : ¬ (c.toNat : Int) < 48 := by omega
        all_goals first | have c4 : (57 : Int) < (c.toNat : Int) := by omega | have c4 : ¬ (57 : Int) < (c.toNat : Int) := by omega
        all_goals first
          | (have hv : nmB c = true := by
               rw [HNB2.out]
               first
                 | (rw [decide_eq_true (show 97 ≤ c.toNat by omega), decide_eq_true (show c.toNat ≤ 122 by omega)]; rfl)
                 | (rw [decide_eq_true (show 48 ≤ c.toNat by omega), decide_eq_true (show c.toNat ≤ 57 by omega), Bool.and_self, Bool.or_true])
             have HTH : Hid (((un s).take (k + 1)).all (fun b => nmB (lowB b)) = true) := HA2.out hv
             clear hv HF HA2 HNB2
             go_wp2_with (go_at_call 25; refine (hlo _).mono ?_; rintro e w1 ⟨rfl, hw⟩; replace hw := hw.symm; subst hw)
             first
               | exact ⟨⟨k + 1, by omega, by go_num, HTH⟩, by simp [intOf]; omega⟩
               | (go_round
                  case rel => exact ⟨k + 1, by omega, by go_num, HTH⟩
                  case measure => simp [intOf]; omega))
          | (have hv : nmB c = false := by
               rw [HNB2.out, Bool.or_eq_false_iff, Bool.and_eq_false_iff, Bool.and_eq_false_iff]
               simp only [decide_eq_false_iff_not]
               omega
             have HTH : Hid (nameL (un s) = false) := HF.out hv
             clear hv HF HA2 HNB2
             go_wp2_with (go_at_call 25; refine (hlo _).mono ?_; rintro e w1 ⟨rfl, hw⟩; replace hw := hw.symm; subst hw)
             go_ret
             exact ⟨by rw [HTH.out]; rfl, rfl⟩)
    · obtain rfl : k = s.size := by omega
      have HR : Hid (nameL (un s) = true) := by
        unfold Hid
        have := HA.out
        rw [← hsl, List.take_length] at this
        rw [HN.out, this]
      go_wp2
      go_ret
      exact ⟨by rw [HR.out]; rfl, rfl⟩
end Go.Proofs.YtjgijbeedgggdabGreatDoor

namespace Go.Proofs.YtjgijbeedgggdabGreatDoor
open Go Go.RowKit

theorem results_tmp4 {fn : Func} {t u v x : Tmp} (h : fn.results = #[.tmp t, .tmp u, .tmp v, .tmp x]) (tmps : Array Value) (P : Program) (w : World) :
    (results fn tmps).run P w = .ok (.tuple #[tmps.getD t undef, tmps.getD u undef, tmps.getD v undef, tmps.getD x undef]) w := by
  simp [results, h]
def qtB (l : Ln) : Bool := decide (2 ≤ l.length) && (l[0]? == some 34 || l[0]? == some 39) && l[l.length - 1]? == l[0]?
def bodyN (l : Ln) : Ln := if qtB l = true then (l.take (l.length - 1)).drop 1 else l
def tabB (l : Ln) : Bool := l[0]? == some 45
theorem openL_eq (raw : Ln) : openL raw = (bodyN (if tabB (raw.drop 2) = true then (raw.drop 2).drop 1 else raw.drop 2), qtB (if tabB (raw.drop 2) = true then (raw.drop 2).drop 1 else raw.drop 2), tabB (raw.drop 2)) := rfl
/-- What Opening answers. -/
def OpnP (l : Ln) (tb : Bool) (w : World) (e : Ending) (w' : World) : Prop := e = .returned (.tuple #[.string (bs (bodyN l)), .bool (qtB l), .bool tb, .bool (nameL (bodyN l))]) ∧ Below w.heap.size w w'
theorem qt_short (l : Ln) (h : ¬ 2 ≤ l.length) : qtB l = false := by unfold qtB; rw [decide_eq_false h]; rfl
theorem qt_long (l : Ln) (x y : UInt8) (h : 2 ≤ l.length) (hx : l[0]? = some x) (hy : l[l.length - 1]? = some y) : qtB l = ((decide (x = 34) || decide (x = 39)) && decide (y = x)) := by
  unfold qtB
  rw [decide_eq_true h, hx, hy, Bool.true_and]
  have e1 : ∀ a b : UInt8, (some a == some b) = decide (a = b) := fun a b => by
    by_cases h : a = b
    · simp [h]
    · simp [h]
  rw [e1, e1, e1]

set_option maxRecDepth 100000 in
set_option maxHeartbeats 8000000 in
theorem opening_a (raw S : ByteArray) (w : World) (hs : raw.size ≤ 1099511627776) (hr : 2 ≤ raw.size) (hS : raw.extract 2 raw.size = S) (z : UInt8) (hz0 : 0 < S.size) (hz : S[0]'hz0 = z) (ht : z ≠ 45) : Calls Tryz.prog 7 #[.string raw] w (OpnP (un S) false w) := by
  have hSs : S.size ≤ 1099511627776 := by rw [← hS, size_extract' _ _ _ (by omega)]; omega
  have c1 : (2 : Int) ≤ (raw.size : Int) := by omega
  have c2 : (0 : Int) < (S.size : Int) := by omega
  have c3 : ((z.toNat : Int) == 45) = decide (z = 45) := beq_b8 z 45 (by decide)
  rw [decide_eq_false ht] at c3
  clear ht hr
  obtain ⟨n, hn⟩ : ∃ n, S.size = n := ⟨_, rfl⟩
  have hul : (un S).length = n := by rw [un_length, hn]
  have hn1 : n ≤ 1099511627776 := by omega
  have HF : Hid (∀ (X : ByteArray) (q : Bool), bodyN (un S) = un X → qtB (un S) = q → OpnP (un S) false w (.returned (.tuple #[.string X, .bool q, .bool false, .bool (nameL (un X))])) w) := fun X q h1 h2 => by
    unfold OpnP; rw [h1, h2, bs_un]; exact ⟨rfl, Below.refl _ _⟩
  have HFD : Hid (∀ (X : ByteArray) (q : Bool) k, bodyN (un S) = un X → qtB (un S) = q → OpnP (un S) false w (.returned (.tuple #[.string X, .bool q, .bool false, .bool (nameL (un X))])) (w.drewN k)) := fun X q k h1 h2 => by
    unfold OpnP; rw [h1, h2, bs_un]; exact ⟨rfl, below_drawn (Below.refl _ _) _⟩
  have hI1 := fun W => isname_r S W (by omega)
  by_cases h2 : 2 ≤ n
  · have j0 : 0 < S.size := by omega
    have j1 : n - 1 < S.size := by omega
    obtain ⟨x, hx⟩ : ∃ x, S[0]'j0 = x := ⟨_, rfl⟩
    obtain rfl : x = z := by rw [← hz, ← hx]
    obtain ⟨y, hy⟩ : ∃ y, S[n - 1]'j1 = y := ⟨_, rfl⟩
    have hQ := qt_long (un S) x y (by omega) (by rw [un_getElem? S 0 j0, hx]) (by rw [hul, un_getElem? S (n - 1) j1, hy])
    have q1 : ((x.toNat : Int) == 34) = decide (x = 34) := beq_b8 x 34 (by decide)
    have q2 : ((x.toNat : Int) == 39) = decide (x = 39) := beq_b8 x 39 (by decide)
    have q3 : ((y.toNat : Int) == (x.toNat : Int)) = decide (y = x) := by
      by_cases h : y = x
      · subst h; simp
      · have : y.toNat ≠ x.toNat := fun e => h (UInt8.toNat_inj.1 e)
        rw [decide_eq_false h, beq_eq_false_iff_ne]; omega
    have hy2 : ∀ h, S[((n : Int) - 1).toNat]'h = y := fun h => by simp only [show ((n : Int) - 1).toNat = n - 1 by omega]; exact hy
    have d1 : (2 : Int) ≤ (n : Int) := by omega
    have d1b : decide ((2 : Int) ≤ (n : Int)) = true := decide_eq_true d1
    have d1c : decide (2 ≤ n) = true := decide_eq_true h2
    have d2 : (0 : Int) < (n : Int) := by omega
    have d3 : (n : Int) - 1 < (n : Int) := by omega
    have d4 : (0 : Int) ≤ (n : Int) - 1 := by omega
    have d5 : IntKind.i64.wrap ((n : Int) - 1) = (n : Int) - 1 := wrap_small _ (by omega) (by omega)
    have d6 : (1 : Int) ≤ (n : Int) - 1 := by omega
    have d7 : (n : Int) - 1 ≤ (n : Int) := by omega
    have hI2 := fun W => isname_r (S.extract 1 (n - 1)) W (by rw [size_extract' _ _ _ (by omega)]; omega)
    generalize hm1 : decide (x = 34) = m1 at *
    generalize hm2 : decide (x = 39) = m2 at *
    generalize hm3 : decide (y = x) = m3 at *
    by_cases hqq : ((m1 || m2) && m3) = true
    · rw [hqq] at hQ
      have HB : Hid (bodyN (un S) = un (S.extract 1 (n - 1))) := by
        unfold Hid bodyN
        rw [hQ, if_pos rfl, un_extract, hul]
      have HQ : Hid (qtB (un S) = true) := hQ
      clear hQ hul hm1 hm2 hm3 h2 hI1
      cases m1 <;> cases m2 <;> cases m3 <;> simp at hqq
      all_goals
        clear hqq
        go_enter Tryz.func7, Tryz.ntmps7
        go_wp2
        go_quiet (fail)
        go_wp2_with (go_at_call 12; with_reducible refine (hI2 _).mono ?_; rintro e w2 ⟨rfl, hw2⟩; subst hw2)
        ((try simp only [Exit.inBlock, Exit.then]); refine bodyPost_ret (results_tmp4 rfl _ _ _) rfl ?_)
        exact HFD.out _ _ _ HB.out HQ.out
    · have hqf : ((m1 || m2) && m3) = false := by simpa using hqq
      rw [hqf] at hQ
      have HB : Hid (bodyN (un S) = un S) := by
        unfold Hid bodyN
        rw [hQ, if_neg (by decide)]
      have HQ : Hid (qtB (un S) = false) := hQ
      clear hQ hul hm1 hm2 hm3 h2 hI2 hqq
      cases m1 <;> cases m2 <;> cases m3 <;> simp at hqf
      all_goals
        clear hqf
        go_enter Tryz.func7, Tryz.ntmps7
        go_wp2
        go_quiet (fail)
        go_wp2_with (go_at_call 12; with_reducible refine (hI1 _).mono ?_; rintro e w2 ⟨rfl, hw2⟩; subst hw2)
        ((try simp only [Exit.inBlock, Exit.then]); refine bodyPost_ret (results_tmp4 rfl _ _ _) rfl ?_)
        exact HFD.out _ _ _ HB.out HQ.out
  · have HQ : Hid (qtB (un S) = false) := qt_short _ (by omega)
    have HB : Hid (bodyN (un S) = un S) := by
      unfold Hid bodyN
      rw [HQ.out, if_neg (by decide)]
    have d1 : ¬ (2 : Int) ≤ (n : Int) := by omega
    have d1b : decide ((2 : Int) ≤ (n : Int)) = false := decide_eq_false d1
    have d1c : decide (2 ≤ n) = false := decide_eq_false h2
    clear hul h2
    go_enter Tryz.func7, Tryz.ntmps7
    go_wp2
    go_quiet (fail)
    go_wp2_with (go_at_call 12; with_reducible refine (hI1 _).mono ?_; rintro e w2 ⟨rfl, hw2⟩; subst hw2)
    ((try simp only [Exit.inBlock, Exit.then]); refine bodyPost_ret (results_tmp4 rfl _ _ _) rfl ?_)
    exact HFD.out _ _ _ HB.out HQ.out

set_option maxRecDepth 100000 in
set_option maxHeartbeats 8000000 in
theorem opening_n (raw S : ByteArray) (w : World) (hs : raw.size ≤ 1099511627776) (hr : 2 ≤ raw.size) (hS : raw.extract 2 raw.size = S) (hz0 : S.size = 0) : Calls Tryz.prog 7 #[.string raw] w (OpnP (un S) false w) := by
  have hSs : S.size ≤ 1099511627776 := by omega
  have c1 : (2 : Int) ≤ (raw.size : Int) := by omega
  have c2 : ¬ (0 : Int) < (S.size : Int) := by omega
  have hI1 := fun W => isname_r S W (by omega)
  have HF : Hid (∀ k, OpnP (un S) false w (.returned (.tuple #[.string S, .bool false, .bool false, .bool (nameL (un S))])) (w.drewN k)) := fun k => by
    have h0 : un S = [] := List.eq_nil_of_length_eq_zero (by rw [un_length]; exact hz0)
    have hq : qtB (un S) = false := qt_short _ (by rw [h0]; decide)
    have hb : bodyN (un S) = un S := by unfold bodyN; rw [hq, if_neg (by decide)]
    unfold OpnP; rw [hb, hq, bs_un]; exact ⟨rfl, below_drawn (Below.refl _ _) _⟩
  have d1b : decide ((2 : Int) ≤ (S.size : Int)) = false := decide_eq_false (by omega)
  have d1c : decide (2 ≤ S.size) = false := decide_eq_false (by omega)
  clear hz0 hr
  go_enter Tryz.func7, Tryz.ntmps7
  go_wp2
  go_quiet (fail)
  go_wp2_with (go_at_call 12; with_reducible refine (hI1 _).mono ?_; rintro e w2 ⟨rfl, hw2⟩; subst hw2)
  ((try simp only [Exit.inBlock, Exit.then]); refine bodyPost_ret (results_tmp4 rfl _ _ _) rfl ?_)
  exact HF.out _

set_option maxRecDepth 100000 in
set_option maxHeartbeats 8000000 in
theorem opening_b (raw S R : ByteArray) (w : World) (hs : raw.size ≤ 1099511627776) (hr : 2 ≤ raw.size) (hS : raw.extract 2 raw.size = S) (hz0 : 0 < S.size) (hz : S[0]'hz0 = 45) (hR : S.extract 1 S.size = R) : Calls Tryz.prog 7 #[.string raw] w (OpnP (un R) true w) := by
  have hSs : S.size ≤ 1099511627776 := by rw [← hS, size_extract' _ _ _ (by omega)]; omega
  have hRs : R.size ≤ 1099511627776 := by rw [← hR, size_extract' _ _ _ (by omega)]; omega
  have c1 : (2 : Int) ≤ (raw.size : Int) := by omega
  have c2 : (0 : Int) < (S.size : Int) := by omega
  have c4 : (1 : Int) ≤ (S.size : Int) := by omega
  clear hr
  obtain ⟨n, hn⟩ : ∃ n, R.size = n := ⟨_, rfl⟩
  have hul : (un R).length = n := by rw [un_length, hn]
  have hn1 : n ≤ 1099511627776 := by omega
  have HF : Hid (∀ (X : ByteArray) (q : Bool), bodyN (un R) = un X → qtB (un R) = q → OpnP (un R) true w (.returned (.tuple #[.string X, .bool q, .bool true, .bool (nameL (un X))])) w) := fun X q h1 h2 => by
    unfold OpnP; rw [h1, h2, bs_un]; exact ⟨rfl, Below.refl _ _⟩
  have HFD : Hid (∀ (X : ByteArray) (q : Bool) k, bodyN (un R) = un X → qtB (un R) = q → OpnP (un R) true w (.returned (.tuple #[.string X, .bool q, .bool true, .bool (nameL (un X))])) (w.drewN k)) := fun X q k h1 h2 => by
    unfold OpnP; rw [h1, h2, bs_un]; exact ⟨rfl, below_drawn (Below.refl _ _) _⟩
  have hI1 := fun W => isname_r R W (by omega)
  by_cases h2 : 2 ≤ n
  · have j0 : 0 < R.size := by omega
    have j1 : n - 1 < R.size := by omega
    obtain ⟨x, hx⟩ : ∃ x, R[0]'j0 = x := ⟨_, rfl⟩
    obtain ⟨y, hy⟩ : ∃ y, R[n - 1]'j1 = y := ⟨_, rfl⟩
    have hQ := qt_long (un R) x y (by omega) (by rw [un_getElem? R 0 j0, hx]) (by rw [hul, un_getElem? R (n - 1) j1, hy])
    have q1 : ((x.toNat : Int) == 34) = decide (x = 34) := beq_b8 x 34 (by decide)
    have q2 : ((x.toNat : Int) == 39) = decide (x = 39) := beq_b8 x 39 (by decide)
    have q3 : ((y.toNat : Int) == (x.toNat : Int)) = decide (y = x) := by
      by_cases h : y = x
      · subst h; simp
      · have : y.toNat ≠ x.toNat := fun e => h (UInt8.toNat_inj.1 e)
        rw [decide_eq_false h, beq_eq_false_iff_ne]; omega
    have hy2 : ∀ h, R[((n : Int) - 1).toNat]'h = y := fun h => by simp only [show ((n : Int) - 1).toNat = n - 1 by omega]; exact hy
    have d1 : (2 : Int) ≤ (n : Int) := by omega
    have d1b : decide ((2 : Int) ≤ (n : Int)) = true := decide_eq_true d1
    have d1c : decide (2 ≤ n) = true := decide_eq_true h2
    have d2 : (0 : Int) < (n : Int) := by omega
    have d3 : (n : Int) - 1 < (n : Int) := by omega
    have d4 : (0 : Int) ≤ (n : Int) - 1 := by omega
    have d5 : IntKind.i64.wrap ((n : Int) - 1) = (n : Int) - 1 := wrap_small _ (by omega) (by omega)
    have d6 : (1 : Int) ≤ (n : Int) - 1 := by omega
    have d7 : (n : Int) - 1 ≤ (n : Int) := by omega
    have hI2 := fun W => isname_r (R.extract 1 (n - 1)) W (by rw [size_extract' _ _ _ (by omega)]; omega)
    generalize hm1 : decide (x = 34) = m1 at *
    generalize hm2 : decide (x = 39) = m2 at *
    generalize hm3 : decide (y = x) = m3 at *
    by_cases hqq : ((m1 || m2) && m3) = true
    · rw [hqq] at hQ
      have HB : Hid (bodyN (un R) = un (R.extract 1 (n - 1))) := by
        unfold Hid bodyN
        rw [hQ, if_pos rfl, un_extract, hul]
      have HQ : Hid (qtB (un R) = true) := hQ
      clear hQ hul hm1 hm2 hm3 h2 hI1
      cases m1 <;> cases m2 <;> cases m3 <;> simp at hqq
      all_goals
        clear hqq
        go_enter Tryz.func7, Tryz.ntmps7
        go_wp2
        go_quiet (fail)
        go_wp2_with (go_at_call 12; with_reducible refine (hI2 _).mono ?_; rintro e w2 ⟨rfl, hw2⟩; subst hw2)
        ((try simp only [Exit.inBlock, Exit.then]); refine bodyPost_ret (results_tmp4 rfl _ _ _) rfl ?_)
        exact HFD.out _ _ _ HB.out HQ.out
    · have hqf : ((m1 || m2) && m3) = false := by simpa using hqq
      rw [hqf] at hQ
      have HB : Hid (bodyN (un R) = un R) := by
        unfold Hid bodyN
        rw [hQ, if_neg (by decide)]
      have HQ : Hid (qtB (un R) = false) := hQ
      clear hQ hul hm1 hm2 hm3 h2 hI2 hqq
      cases m1 <;> cases m2 <;> cases m3 <;> simp at hqf
      all_goals
        clear hqf
        go_enter Tryz.func7, Tryz.ntmps7
        go_wp2
        go_quiet (fail)
        go_wp2_with (go_at_call 12; with_reducible refine (hI1 _).mono ?_; rintro e w2 ⟨rfl, hw2⟩; subst hw2)
        ((try simp only [Exit.inBlock, Exit.then]); refine bodyPost_ret (results_tmp4 rfl _ _ _) rfl ?_)
        exact HFD.out _ _ _ HB.out HQ.out
  · have HQ : Hid (qtB (un R) = false) := qt_short _ (by omega)
    have HB : Hid (bodyN (un R) = un R) := by
      unfold Hid bodyN
      rw [HQ.out, if_neg (by decide)]
    have d1 : ¬ (2 : Int) ≤ (n : Int) := by omega
    have d1b : decide ((2 : Int) ≤ (n : Int)) = false := decide_eq_false d1
    have d1c : decide (2 ≤ n) = false := decide_eq_false h2
    clear hul h2
    go_enter Tryz.func7, Tryz.ntmps7
    go_wp2
    go_quiet (fail)
    go_wp2_with (go_at_call 12; with_reducible refine (hI1 _).mono ?_; rintro e w2 ⟨rfl, hw2⟩; subst hw2)
    ((try simp only [Exit.inBlock, Exit.then]); refine bodyPost_ret (results_tmp4 rfl _ _ _) rfl ?_)
    exact HFD.out _ _ _ HB.out HQ.out

/-- The document's Opening. -/
theorem opening_r (raw : ByteArray) (w : World) (hs : raw.size ≤ 1099511627776) (hr : 2 ≤ raw.size) : Calls Tryz.prog 7 #[.string raw] w fun e w' => e = .returned (.tuple #[.string (bs (openL (un raw)).1), .bool (openL (un raw)).2.1, .bool (openL (un raw)).2.2, .bool (nameL (openL (un raw)).1)]) ∧ Below w.heap.size w w' := by
  obtain ⟨S, hS⟩ : ∃ S, raw.extract 2 raw.size = S := ⟨_, rfl⟩
  have hu : (un raw).drop 2 = un S := by rw [← hS, un_extract, List.take_of_length_le (by rw [un_length]; exact Nat.le_refl _)]
  rw [openL_eq, hu]
  by_cases hz0 : 0 < S.size
  · have h0 := un_getElem? S 0 hz0
    by_cases hz : S[0]'hz0 = 45
    · obtain ⟨R, hR⟩ : ∃ R, S.extract 1 S.size = R := ⟨_, rfl⟩
      have hu2 : (un S).drop 1 = un R := by rw [← hR, un_extract, List.take_of_length_le (by rw [un_length]; exact Nat.le_refl _)]
      have ht : tabB (un S) = true := by unfold tabB; rw [h0, hz]; rfl
      rw [ht, if_pos rfl, hu2]
      exact opening_b raw S R w hs hr hS hz0 hz hR
    · have ht : tabB (un S) = false := by unfold tabB; rw [h0]; simp [hz]
      rw [ht, if_neg (by decide)]
      exact opening_a raw S w hs hr hS _ hz0 rfl hz
  · have h0 : un S = [] := List.eq_nil_of_length_eq_zero (by rw [un_length]; omega)
    have ht : tabB (un S) = false := by rw [h0]; rfl
    rw [ht, if_neg (by decide)]
    exact opening_n raw S w hs hr hS (by omega)
end Go.Proofs.YtjgijbeedgggdabGreatDoor

namespace Go.Proofs.YtjgijbeedgggdabGreatDoor
open Go Go.RowKit

/-- The list at v holds these texts. -/
def TextsAt (w : World) (v : Value) (l : List ByteArray) : Prop :=
  ∃ a c, v = .slice a l.length c ∧ (a = none → c = 0) ∧ ∀ i x, l[i]? = some x → ∃ b o, a = some ⟨b, o, none⟩ ∧ w.cell? ⟨b, o + i, none⟩ = some (.string x)
theorem TextsAt.below {w w' : World} {v : Value} {l : List ByteArray} (h : TextsAt w v l) (hb : Below w.heap.size w w') : TextsAt w' v l := by
  obtain ⟨a, c, rfl, ha, hc⟩ := h
  refine ⟨a, c, rfl, ha, fun i x hx => ?_⟩
  obtain ⟨b, o, rfl, h1⟩ := hc i x hx
  exact ⟨b, o, rfl, (hb.cell (p := ⟨b, o + i, none⟩) (World.block_lt_of_cell? w _ h1)).trans h1⟩
theorem TextsAt.nil (w : World) : TextsAt w (.slice none 0 0) [] := ⟨none, 0, rfl, fun _ => rfl, fun i x h => by simp at h⟩
def strs (xs : List ByteArray) : List Value := xs.map Value.string
theorem strs_length (xs : List ByteArray) : (strs xs).length = xs.length := by simp [strs]
theorem strs_append (a b : List ByteArray) : strs (a ++ b) = strs a ++ strs b := by simp [strs]
theorem row_cell {W : World} {base e size n : Nat} {g cap : Nat} {xs : List Value} (h : W.ownsRow base e size (.slice (some ⟨g, 0, none⟩) n cap) n xs) (j : Nat) (u : Value) (hu : xs[j]? = some u) : W.cell? ⟨g, j, none⟩ = some u := by
  rcases h.2 with ⟨hv, _⟩ | ⟨g', cap', cur, hv, _, hg, _, _, _, hx⟩
  · cases hv
  · cases hv
    have hj : j < xs.length := (List.getElem?_eq_some_iff.1 hu).1
    have h2 : cur[j]? = some u := by
      rw [← Array.getElem?_toList]
      have h3 : (cur.toList.take xs.length)[j]? = some u := by rw [h.1, hx]; exact hu
      rwa [List.getElem?_take, if_pos hj] at h3
    simp [World.cell?, hg, h2]
theorem TextsAt.own {w : World} {B : Nat} {v : Value} {l : List ByteArray} (h : w.ownsRow B 9 1 v l.length (strs l)) : TextsAt w v l := by
  have h2 := h
  rcases h.2 with ⟨hv, h0⟩ | ⟨g, cap, cur, hv, _⟩
  · subst hv
    obtain rfl : l = [] := List.length_eq_zero_iff.1 h0
    exact TextsAt.nil w
  · subst hv
    exact ⟨_, _, rfl, (fun e => nomatch e), fun i x hx => ⟨g, 0, rfl, by rw [Nat.zero_add]; exact row_cell h2 i _ (by simp [strs, hx])⟩⟩
/-- How much a list of texts weighs. -/
def wt (l : List ByteArray) : Nat := (l.map fun x => x.size + 1).sum
theorem wt_append (a b : List ByteArray) : wt (a ++ b) = wt a + wt b := by simp [wt]
theorem wt_take_succ (l : List ByteArray) (k : Nat) (x : ByteArray) (h : l[k]? = some x) : wt (l.take (k + 1)) = wt (l.take k) + x.size + 1 := by
  rw [List.take_add_one, h, wt_append]; simp [wt]; omega
theorem wt_take_le (l : List ByteArray) (k : Nat) : wt (l.take k) ≤ wt l := by
  conv => rhs; rw [← List.take_append_drop k l, wt_append]
  omega
theorem length_wt (l : List ByteArray) : l.length ≤ wt l := by
  induction l with
  | nil => simp [wt]
  | cons x l ih => simp [wt] at ih ⊢; omega
theorem size_wt {l : List ByteArray} {x : ByteArray} (h : x ∈ l) : x.size + 1 ≤ wt l := by
  obtain ⟨a, b, rfl⟩ := List.append_of_mem h
  rw [wt_append]; simp [wt]; omega

theorem str_info : (Tryz.prog.info? 9).map (fun i => (i.zero, i.size, i.bytes)) = some (some (.string ⟨#[]⟩), 1, 16) := by kernel_rfl
end Go.Proofs.YtjgijbeedgggdabGreatDoor

namespace Go.Proofs.YtjgijbeedgggdabGreatDoor
open Go Go.RowKit

theorem trimR_13 (x : Ln) : trimR (x ++ [13]) = trimR x := by
  unfold trimR
  rw [List.reverse_append]
  show (([13] ++ x.reverse).dropWhile (· == 13)).reverse = _
  rw [List.singleton_append, List.dropWhile_cons_of_pos (p := fun b : UInt8 => b == 13) (by decide)]
theorem trimR_end (x : Ln) (b : UInt8) (h : b ≠ 13) : trimR (x ++ [b]) = x ++ [b] := by
  unfold trimR
  rw [List.reverse_append]
  show (([b] ++ x.reverse).dropWhile (· == 13)).reverse = _
  rw [List.singleton_append, List.dropWhile_cons_of_neg (p := fun b : UInt8 => b == 13) (by simp [h])]
  simp
theorem seg_snoc (x : Ln) (fr e : Nat) (b : UInt8) (h : x[e]? = some b) (hf : fr ≤ e) : (x.take (e + 1)).drop fr = (x.take e).drop fr ++ [b] := by
  have he := (List.getElem?_eq_some_iff.1 h).1
  rw [List.take_add_one, h, List.drop_append_of_le_length (by rw [List.length_take]; omega)]; rfl
theorem own_ge' {W : World} {base e size k : Nat} {v : Value} {xs : List Value} (h : W.ownsRow base e size v k xs) : ∀ j, some j = v.ownBlock → base ≤ j := by
  intro j hj
  rcases h.2 with ⟨rfl, _⟩ | ⟨g, cap, cur, rfl, hg, hgb, _⟩
  · simp [Value.ownBlock] at hj
  · simp [Value.ownBlock] at hj; subst hj; exact hg
theorem cell_one'' (w : World) (x : Value) (t : TypeId) : ∀ (j : Nat) u, [x][j]? = some u → (w.alloc (.cells #[x] t)).cell? ((⟨w.heap.size, 0, none⟩ : Addr).add j) = some u := by
  intro j u hj
  rcases j with _ | j
  · simp at hj; subst hj; simp [Addr.add]
  · simp at hj
def CutI (s : Ln) (i fr : Nat) (out : List Ln) : Prop :=
  (i ≤ s.length ∧ fr ≤ i ∧ cutL s = out ++ (segsG ((s.take i).drop fr) (s.drop i)).map trimR) ∨ (i = s.length + 1 ∧ cutL s = out)
theorem CutI.start (s : Ln) : CutI s 0 0 [] := .inl ⟨Nat.zero_le _, Nat.le_refl _, by simp [cutL]⟩
theorem CutI.on {s : Ln} {i fr : Nat} {out : List Ln} {b : UInt8} (h : CutI s i fr out) (hb : s[i]? = some b) (h10 : b ≠ 10) : CutI s (i + 1) fr out := by
  have hi := (List.getElem?_eq_some_iff.1 hb).1
  rcases h with ⟨h1, h2, h3⟩ | ⟨h1, _⟩
  · refine .inl ⟨by omega, by omega, ?_⟩
    rw [h3, seg_snoc s fr i b hb h2]
    have : s.drop i = b :: s.drop (i + 1) := by
      rw [List.drop_eq_getElem_cons hi]; congr 1
      rw [List.getElem?_eq_getElem hi] at hb; exact Option.some.inj hb
    rw [this, segsG, if_neg h10]
  · omega
theorem CutI.cut {s : Ln} {i fr : Nat} {out : List Ln} (h : CutI s i fr out) (hb : s[i]? = some 10) : CutI s (i + 1) (i + 1) (out ++ [trimR ((s.take i).drop fr)]) := by
  have hi := (List.getElem?_eq_some_iff.1 hb).1
  rcases h with ⟨h1, h2, h3⟩ | ⟨h1, _⟩
  · refine .inl ⟨by omega, Nat.le_refl _, ?_⟩
    have : s.drop i = 10 :: s.drop (i + 1) := by
      rw [List.drop_eq_getElem_cons hi]; congr 1
      rw [List.getElem?_eq_getElem hi] at hb; exact Option.some.inj hb
    have hz : (s.take (i + 1)).drop (i + 1) = [] := List.drop_of_length_le (by rw [List.length_take]; omega)
    rw [h3, this, segsG, if_pos rfl, hz]
    simp
  · omega
theorem CutI.last {s : Ln} {fr : Nat} {out : List Ln} (h : CutI s s.length fr out) (hf : fr < s.length) : CutI s (s.length + 1) (s.length + 1) (out ++ [trimR ((s.take s.length).drop fr)]) := by
  rcases h with ⟨h1, h2, h3⟩ | ⟨h1, _⟩
  · refine .inr ⟨rfl, ?_⟩
    rw [h3, List.drop_length, segsG, if_neg (fun e => by have := congrArg List.length e; rw [List.length_drop, List.length_take, List.length_nil] at this; omega)]
    rfl
  · omega
theorem CutI.none {s : Ln} {out : List Ln} (h : CutI s s.length s.length out) : CutI s (s.length + 1) s.length out := by
  rcases h with ⟨h1, h2, h3⟩ | ⟨h1, _⟩
  · refine .inr ⟨rfl, ?_⟩
    rw [h3, List.drop_length, List.drop_of_length_le (by rw [List.length_take]; omega)]
    simp [segsG]
  · omega
theorem CutI.bound {s : Ln} {i fr : Nat} {out : List Ln} (h : CutI s i fr out) (hi : i ≤ s.length) : fr ≤ i := by
  rcases h with ⟨_, h2, _⟩ | ⟨h1, _⟩
  · exact h2
  · omega
set_option maxRecDepth 100000 in
set_option maxHeartbeats 4000000 in
theorem cut_r (s : ByteArray) (w : World) (hs : s.size ≤ 1073741824) : Calls Tryz.prog 5 #[.string s] w fun e w' => ∃ v, e = .returned v ∧ w'.ownsRow w.heap.size 9 1 v (cutL (un s)).length (strs ((cutL (un s)).map bs)) ∧ Below w.heap.size w w' := by
  obtain ⟨i0, hi, z0, z1, z2⟩ := info_parts str_info
  have hsl := un_length s
  go_enter Tryz.func5, Tryz.ntmps5
  go_wp2
  go_loopw [3, 4, 5, 6] (fun v fv iv _ wr => ∃ (i fr : Nat) (out : List Ln), iv = .int .i64 i ∧ fv = .int .i64 fr ∧ i ≤ s.size + 1 ∧ fr ≤ s.size + 1 ∧ out.length ≤ i ∧ Hid (CutI (un s) i fr out) ∧ wr.ownsRow w.heap.size 9 1 v out.length (strs (out.map bs)) ∧ Below w.heap.size w wr) (fun _ _ iv _ _ => s.size + 1 - (intOf iv).toNat)
  case atStart => exact ⟨0, 0, [], rfl, rfl, by omega, by omega, Nat.le_refl _, CutI.start _, World.ownsRow_nil _ _ _ _, Below.refl _ _⟩
  case round =>
    obtain ⟨i, fr, out, rfl, rfl, hi1, hf1, hol, HI, hown, hB⟩ := hrel
    have hsz := hB.size
    have k0 : (0 : Int) ≤ (i : Int) := by omega
    by_cases hle : i ≤ s.size
    rotate_left
    · have k1 : ¬ (i : Int) ≤ (s.size : Int) := by omega
      have HE : Hid (cutL (un s) = out) := by
        rcases HI.out with ⟨h, _⟩ | ⟨_, h⟩
        · omega
        · exact h
      go_wp2
      go_ret
      exact ⟨_, rfl, by rw [HE.out]; exact hown, hB⟩
    have k1 : (i : Int) ≤ (s.size : Int) := by omega
    have hfr := HI.out.bound (by omega)
    by_cases hstep : (∃ h : i < s.size, s[i] ≠ 10) ∨ (i = s.size ∧ fr = i)
    · rcases hstep with ⟨hlt, h10⟩ | ⟨hi2, hf2⟩
      · have hget := un_getElem? s i hlt
        have q1 : ((s[i].toNat : Int) != 10) = true := by
          unfold bne; rw [show ((s[i].toNat : Int) == 10) = decide (s[i] = 10) from beq_b8 _ 10 (by decide), decide_eq_false h10]; rfl
        have k2 : (i : Int) < (s.size : Int) := by omega
        have HI2 : Hid (CutI (un s) (i + 1) fr out) := HI.out.on hget h10
        clear hget h10 HI
        go_wp2
        first
          | exact ⟨⟨i + 1, fr, out, by go_num, rfl, by omega, hf1, by omega, HI2, hown, hB⟩, by simp [intOf]; omega⟩
          | (go_roundw
             case rel => exact ⟨i + 1, fr, out, by go_num, rfl, by omega, hf1, by omega, HI2, hown, hB⟩
             case measure => simp [intOf]; omega)
      · subst hf2
        subst hi2
        have k2 : ¬ (s.size : Int) < (s.size : Int) := by omega
        have q1 : ((s.size : Int) == (s.size : Int)) = true := by simp
        have HI2 : Hid (CutI (un s) (s.size + 1) s.size out) := by have := HI.out; unfold Hid; rw [← hsl] at this ⊢; exact this.none
        clear HI
        go_wp2
        first
          | exact ⟨⟨s.size + 1, s.size, out, by go_num, rfl, by omega, hf1, by omega, HI2, hown, hB⟩, by simp [intOf]⟩
          | (go_roundw
             case rel => exact ⟨s.size + 1, s.size, out, by go_num, rfl, by omega, hf1, by omega, HI2, hown, hB⟩
             case measure => simp [intOf])
    · have HI2 : Hid (CutI (un s) (i + 1) (i + 1) (out ++ [trimR (((un s).take i).drop fr)])) := by
        by_cases hlt : i < s.size
        · have h10 : s[i] = 10 := Classical.byContradiction (fun h => hstep (.inl ⟨hlt, h⟩))
          exact HI.out.cut (by rw [un_getElem? s i hlt, h10])
        · have : i = (un s).length := by omega
          subst this
          exact HI.out.last (by
            rcases Nat.lt_or_ge fr (un s).length with h | h
            · exact h
            · exact absurd (.inr ⟨by omega, by omega⟩) hstep)
      have tl : ∀ e, fr ≤ e → e ≤ i → Hid (trimR (((un s).take e).drop fr) = trimR (((un s).take i).drop fr)) → (e = fr ∨ ∃ (m : Nat) (b : UInt8), e = m + 1 ∧ (un s)[m]? = some b ∧ b ≠ 13 ∧ fr ≤ m) → Hid (s.extract fr e = bs (trimR (((un s).take i).drop fr))) := by
        intro e he1 he2 he3 he4
        unfold Hid
        rw [← he3.out]
        apply un_inj
        rw [un_extract, un_bs]
        rcases he4 with rfl | ⟨m, b, rfl, hb, h13, hm⟩
        · rw [List.drop_of_length_le (by rw [List.length_take]; omega)]; rfl
        · rw [seg_snoc (un s) fr m b hb hm, trimR_end _ _ h13]
      have TL : Hid _ := tl
      clear tl
      have main : ∀ (q : Bool), True := fun _ => trivial
      by_cases hlt : i < s.size
      · have h10 : s[i] = 10 := Classical.byContradiction (fun h => hstep (.inl ⟨hlt, h⟩))
        have q1 : ((s[i].toNat : Int) != 10) = false := by
          unfold bne; rw [show ((s[i].toNat : Int) == 10) = decide (s[i] = 10) from beq_b8 _ 10 (by decide), decide_eq_true h10]; rfl
        have k2 : (i : Int) < (s.size : Int) := by omega
        have q2 : ((i : Int) == (s.size : Int)) = false := by simp; omega
        clear h10 hstep HI main
        go_wp2
        go_loopw [6] (fun ev wr2 => ∃ e : Nat, ev = .int .i64 e ∧ fr ≤ e ∧ e ≤ i ∧ Hid (trimR (((un s).take e).drop fr) = trimR (((un s).take i).drop fr)) ∧ wr2 = wr) (fun ev _ => (intOf ev).toNat)
        case atStart => exact ⟨i, rfl, hfr, Nat.le_refl _, rfl, rfl⟩
        case round =>
          rename_i wz
          obtain ⟨e, rfl, he1, he2, HT, hwr⟩ := hrel
          subst hwr
          have j1 : (0 : Int) ≤ (fr : Int) := by omega
          have j2 : (fr : Int) ≤ (e : Int) := by omega
          have j3 : (e : Int) ≤ (s.size : Int) := by omega
          by_cases hef : fr < e
          · obtain ⟨m, rfl⟩ : ∃ m, e = m + 1 := ⟨e - 1, by omega⟩
            have hm : m < s.size := by omega
            have hgm := un_getElem? s m hm
            have e1 : (((m + 1 : Nat) : Int) - 1) = (m : Int) := by omega
            have j4 : (fr : Int) < ((m + 1 : Nat) : Int) := by omega
            have j5 : (0 : Int) ≤ (m : Int) := by omega
            have j6 : (m : Int) < (s.size : Int) := by omega
            have q3 : ((s[m].toNat : Int) == 13) = decide (s[m] = 13) := beq_b8 _ 13 (by decide)
            by_cases h13 : s[m] = 13
            · rw [decide_eq_true h13] at q3
              have HT2 : Hid (trimR (((un s).take m).drop fr) = trimR (((un s).take i).drop fr)) := by
                unfold Hid
                rw [← HT.out, seg_snoc (un s) fr m 13 (by rw [hgm, h13]) (by omega), trimR_13]
              clear hgm h13 HT TL
              go_wp2
              first
                | exact ⟨⟨m, by go_num, by omega, by omega, HT2, by first | rfl | trivial⟩, by simp [intOf]⟩
                | (go_roundw
                   case rel => exact ⟨m, by go_num, by omega, by omega, HT2, by first | rfl | trivial⟩
                   case measure => simp [intOf])
            · rw [decide_eq_false h13] at q3
              have HE := TL.out (m + 1) he1 he2 HT (.inr ⟨m, s[m], rfl, hgm, h13, by omega⟩)
              clear hgm h13 HT TL
              go_wp2_with (at_builtin; refine wpList_append_own _ rfl _ _ 23 rfl w.heap.size 9 i0 (.string ⟨#[]⟩) 1 16 Tryz.underlying23 hi z0 z1 z2 rfl (by decide) _ _ _ rfl (hown.alloc _) ⟨wr.heap.size, 0, none⟩ 1 1 [.string (s.extract fr (m + 1))] rfl rfl (cell_one'' _ _ _) (by simp [Value.oneCell']) (by unfold maxLen; omega) (by omega) (by simp; omega) ?_; intro v1 w1 hown1 hgrow1 _)
              have hb1 : Below w.heap.size w w1 := (hB.alloc hsz _).grown hgrow1 (by simp; omega) (fun j hj => own_ge' hown j hj.symm)
              have hfin : w1.ownsRow w.heap.size 9 1 v1 (out ++ [trimR (((un s).take i).drop fr)]).length (strs ((out ++ [trimR (((un s).take i).drop fr)]).map bs)) := by
                rw [List.map_append, strs_append, List.length_append, List.map_cons, ← HE.out]; exact hown1
              first
                | exact ⟨⟨i + 1, i + 1, _, by go_num, by go_num, by omega, by omega, by rw [List.length_append]; simp; omega, HI2, hfin, hb1⟩, by simp [intOf]; omega⟩
                | (go_roundw
                   case rel => exact ⟨i + 1, i + 1, _, by go_num, by go_num, by omega, by omega, by rw [List.length_append]; simp; omega, HI2, hfin, hb1⟩
                   case measure => simp [intOf]; omega)
          · obtain rfl : e = fr := by omega
            have HE := TL.out e he1 he2 HT (.inl rfl)
            have HEE : Hid (s.extract e e = ByteArray.empty) := by
              unfold Hid
              apply un_inj
              rw [un_extract, List.drop_of_length_le (by rw [List.length_take]; omega)]; rfl
            have j4 : ¬ (e : Int) < (e : Int) := by omega
            clear HT TL
            go_wp2_with (at_builtin; refine wpList_append_own _ rfl _ _ 23 rfl w.heap.size 9 i0 (.string ⟨#[]⟩) 1 16 Tryz.underlying23 hi z0 z1 z2 rfl (by decide) _ _ _ rfl (hown.alloc _) ⟨wr.heap.size, 0, none⟩ 1 1 [.string ByteArray.empty] rfl rfl (cell_one'' _ _ _) (by simp [Value.oneCell']) (by unfold maxLen; omega) (by omega) (by simp; omega) ?_; intro v1 w1 hown1 hgrow1 _)
            have hb1 : Below w.heap.size w w1 := (hB.alloc hsz _).grown hgrow1 (by simp; omega) (fun j hj => own_ge' hown j hj.symm)
            have hfin : w1.ownsRow w.heap.size 9 1 v1 (out ++ [trimR (((un s).take i).drop e)]).length (strs ((out ++ [trimR (((un s).take i).drop e)]).map bs)) := by
              rw [List.map_append, strs_append, List.length_append, List.map_cons, ← HE.out, HEE.out]; exact hown1
            first
              | exact ⟨⟨i + 1, i + 1, _, by go_num, by go_num, by omega, by omega, by rw [List.length_append]; simp; omega, HI2, hfin, hb1⟩, by simp [intOf]; omega⟩
              | (go_roundw
                 case rel => exact ⟨i + 1, i + 1, _, by go_num, by go_num, by omega, by omega, by rw [List.length_append]; simp; omega, HI2, hfin, hb1⟩
                 case measure => simp [intOf]; omega)
      · obtain rfl : i = s.size := by omega
        have hff : fr < s.size := by
          rcases Nat.lt_or_ge fr s.size with h | h
          · exact h
          · exact absurd (.inr ⟨rfl, by omega⟩) hstep
        have k2 : ¬ (s.size : Int) < (s.size : Int) := by omega
        have q2 : ((s.size : Int) == (s.size : Int)) = true := by simp
        have q3 : ((fr : Int) == (s.size : Int)) = false := by simp; omega
        clear hstep HI main
        go_wp2
        go_loopw [6] (fun ev wr2 => ∃ e : Nat, ev = .int .i64 e ∧ fr ≤ e ∧ e ≤ s.size ∧ Hid (trimR (((un s).take e).drop fr) = trimR (((un s).take s.size).drop fr)) ∧ wr2 = wr) (fun ev _ => (intOf ev).toNat)
        case atStart => exact ⟨s.size, rfl, hfr, Nat.le_refl _, rfl, rfl⟩
        case round =>
          rename_i wz
          obtain ⟨e, rfl, he1, he2, HT, hwr⟩ := hrel
          subst hwr
          have j1 : (0 : Int) ≤ (fr : Int) := by omega
          have j2 : (fr : Int) ≤ (e : Int) := by omega
          have j3 : (e : Int) ≤ (s.size : Int) := by omega
          by_cases hef : fr < e
          · obtain ⟨m, rfl⟩ : ∃ m, e = m + 1 := ⟨e - 1, by omega⟩
            have hm : m < s.size := by omega
            have hgm := un_getElem? s m hm
            have e1 : (((m + 1 : Nat) : Int) - 1) = (m : Int) := by omega
            have j4 : (fr : Int) < ((m + 1 : Nat) : Int) := by omega
            have j5 : (0 : Int) ≤ (m : Int) := by omega
            have j6 : (m : Int) < (s.size : Int) := by omega
            have q4 : ((s[m].toNat : Int) == 13) = decide (s[m] = 13) := beq_b8 _ 13 (by decide)
            by_cases h13 : s[m] = 13
            · rw [decide_eq_true h13] at q4
              have HT2 : Hid (trimR (((un s).take m).drop fr) = trimR (((un s).take s.size).drop fr)) := by
                unfold Hid
                rw [← HT.out, seg_snoc (un s) fr m 13 (by rw [hgm, h13]) (by omega), trimR_13]
              clear hgm h13 HT TL
              go_wp2
              first
                | exact ⟨⟨m, by go_num, by omega, by omega, HT2, by first | rfl | trivial⟩, by simp [intOf]⟩
                | (go_roundw
                   case rel => exact ⟨m, by go_num, by omega, by omega, HT2, by first | rfl | trivial⟩
                   case measure => simp [intOf])
            · rw [decide_eq_false h13] at q4
              have HE := TL.out (m + 1) he1 he2 HT (.inr ⟨m, s[m], rfl, hgm, h13, by omega⟩)
              clear hgm h13 HT TL
              go_wp2_with (at_builtin; refine wpList_append_own _ rfl _ _ 23 rfl w.heap.size 9 i0 (.string ⟨#[]⟩) 1 16 Tryz.underlying23 hi z0 z1 z2 rfl (by decide) _ _ _ rfl (hown.alloc _) ⟨wr.heap.size, 0, none⟩ 1 1 [.string (s.extract fr (m + 1))] rfl rfl (cell_one'' _ _ _) (by simp [Value.oneCell']) (by unfold maxLen; omega) (by omega) (by simp; omega) ?_; intro v1 w1 hown1 hgrow1 _)
              have hb1 : Below w.heap.size w w1 := (hB.alloc hsz _).grown hgrow1 (by simp; omega) (fun j hj => own_ge' hown j hj.symm)
              have hfin : w1.ownsRow w.heap.size 9 1 v1 (out ++ [trimR (((un s).take s.size).drop fr)]).length (strs ((out ++ [trimR (((un s).take s.size).drop fr)]).map bs)) := by
                rw [List.map_append, strs_append, List.length_append, List.map_cons, ← HE.out]; exact hown1
              first
                | exact ⟨⟨s.size + 1, s.size + 1, _, by go_num, by go_num, by omega, by omega, by rw [List.length_append]; simp; omega, HI2, hfin, hb1⟩, by simp [intOf]⟩
                | (go_roundw
                   case rel => exact ⟨s.size + 1, s.size + 1, _, by go_num, by go_num, by omega, by omega, by rw [List.length_append]; simp; omega, HI2, hfin, hb1⟩
                   case measure => simp [intOf])
          · obtain rfl : e = fr := by omega
            have HE := TL.out e he1 he2 HT (.inl rfl)
            have HEE : Hid (s.extract e e = ByteArray.empty) := by
              unfold Hid
              apply un_inj
              rw [un_extract, List.drop_of_length_le (by rw [List.length_take]; omega)]; rfl
            have j4 : ¬ (e : Int) < (e : Int) := by omega
            clear HT TL
            go_wp2_with (at_builtin; refine wpList_append_own _ rfl _ _ 23 rfl w.heap.size 9 i0 (.string ⟨#[]⟩) 1 16 Tryz.underlying23 hi z0 z1 z2 rfl (by decide) _ _ _ rfl (hown.alloc _) ⟨wr.heap.size, 0, none⟩ 1 1 [.string ByteArray.empty] rfl rfl (cell_one'' _ _ _) (by simp [Value.oneCell']) (by unfold maxLen; omega) (by omega) (by simp; omega) ?_; intro v1 w1 hown1 hgrow1 _)
            have hb1 : Below w.heap.size w w1 := (hB.alloc hsz _).grown hgrow1 (by simp; omega) (fun j hj => own_ge' hown j hj.symm)
            have hfin : w1.ownsRow w.heap.size 9 1 v1 (out ++ [trimR (((un s).take s.size).drop e)]).length (strs ((out ++ [trimR (((un s).take s.size).drop e)]).map bs)) := by
              rw [List.map_append, strs_append, List.length_append, List.map_cons, ← HE.out, HEE.out]; exact hown1
            first
              | exact ⟨⟨s.size + 1, s.size + 1, _, by go_num, by go_num, by omega, by omega, by rw [List.length_append]; simp; omega, HI2, hfin, hb1⟩, by simp [intOf]⟩
              | (go_roundw
                 case rel => exact ⟨s.size + 1, s.size + 1, _, by go_num, by go_num, by omega, by omega, by rw [List.length_append]; simp; omega, HI2, hfin, hb1⟩
                 case measure => simp [intOf])
end Go.Proofs.YtjgijbeedgggdabGreatDoor

namespace Go.Proofs.YtjgijbeedgggdabGreatDoor
open Go

def gd (b : UInt8) : Bool := !isBl b && outN b 92 == 1
theorem run_good1 (w : Ln) (h : w.all gd = true) (i : Nat) (T : St) (hT : T.now = 1) : runS 92 w i T = T := by
  induction w generalizing i with
  | nil => rfl
  | cons b w ih =>
    simp only [List.all_cons, Bool.and_eq_true] at h
    have hb := h.1
    unfold gd at hb
    simp at hb
    have E : stepS 92 b i T = T := by
      rw [step_01 92 b i T (.inr hT) hb.1, hb.2, hT]
      obtain ⟨o, n, bg, q⟩ := T
      simp only at hT; subst hT; rfl
    show runS 92 w (i + 1) (stepS 92 b i T) = T
    rw [E]; exact ih h.2 (i + 1)
theorem run_good (w : Ln) (hne : w ≠ []) (h : w.all gd = true) (i : Nat) (T : St) (hT : T.now = 0) : runS 92 w i T = ⟨T.out, 1, i, T.quo⟩ := by
  cases w with
  | nil => exact absurd rfl hne
  | cons b w =>
    simp only [List.all_cons, Bool.and_eq_true] at h
    have hb := h.1
    unfold gd at hb
    simp at hb
    show runS 92 w (i + 1) (stepS 92 b i T) = _
    rw [step_01 92 b i T (.inl hT) hb.1, hb.2, if_pos hT, if_neg (by omega)]
    exact run_good1 w h.2 (i + 1) _ rfl
theorem name_byte (n : Ln) (h : nameL n = true) : n ≠ [] ∧ ∀ b ∈ n, gd b = true ∧ b ≠ 10 ∧ b ≠ 13 ∧ b ≠ 45 ∧ b ≠ 34 ∧ b ≠ 39 ∧ b ≠ 9 := by
  unfold nameL at h
  simp only [Bool.and_eq_true, decide_eq_true_eq] at h
  refine ⟨fun e => by rw [e] at h; simp at h, fun b hb => ?_⟩
  have key : ∀ k : Fin 256, ((decide (97 ≤ lowB (UInt8.ofNat k.val)) && decide (lowB (UInt8.ofNat k.val) ≤ 122)) || (decide (48 ≤ lowB (UInt8.ofNat k.val)) && decide (lowB (UInt8.ofNat k.val) ≤ 57)) || lowB (UInt8.ofNat k.val) == 95) = true →
      (gd (UInt8.ofNat k.val) = true ∧ UInt8.ofNat k.val ≠ 10 ∧ UInt8.ofNat k.val ≠ 13 ∧ UInt8.ofNat k.val ≠ 45 ∧ UInt8.ofNat k.val ≠ 34 ∧ UInt8.ofNat k.val ≠ 39 ∧ UInt8.ofNat k.val ≠ 9) := by decide +kernel
  have hk := key ⟨b.toNat, b.toNat_lt⟩
  simp only [UInt8.ofNat_toNat] at hk
  exact hk (List.all_eq_true.1 h.2 b hb)
def copyC (n : Ln) : Ln := [67, 79, 80, 89, 32, 60, 60] ++ n ++ [32, 100]
def cmdC : Ln := [67, 77, 68, 32, 120]
theorem copyC_length (n : Ln) : (copyC n).length = n.length + 9 := by simp [copyC]
theorem copyC_split (n : Ln) (h : nameL n = true) : splitR 92 (copyC n) = .ok [(0, 4), (5, n.length + 7), (n.length + 8, n.length + 9)] := by
  obtain ⟨_, hb⟩ := name_byte n h
  have hw : ([60, 60] ++ n).all gd = true := by
    rw [List.all_append]
    simp only [Bool.and_eq_true]
    exact ⟨by decide, List.all_eq_true.2 (fun b hbn => (hb b hbn).1)⟩
  have hrun : runS 92 (copyC n) 0 st0 = ⟨[(0, 4), (5, n.length + 7)], 1, n.length + 8, 0⟩ := by
    have e1 : copyC n = [67, 79, 80, 89] ++ (32 :: (([60, 60] ++ n) ++ (32 :: [100]))) := by simp [copyC]
    rw [e1, runS_append, run_good [67, 79, 80, 89] (by simp) (by decide) 0 st0 rfl]
    show runS 92 (([60, 60] ++ n) ++ (32 :: [100])) 5 (stepS 92 32 4 ⟨[], 1, 0, 0⟩) = _
    rw [step_1b 92 32 4 _ rfl (by decide), runS_append, run_good ([60, 60] ++ n) (by simp) hw 5 _ rfl]
    show runS 92 [100] (5 + ([60, 60] ++ n).length + 1) (stepS 92 32 (5 + ([60, 60] ++ n).length) ⟨[(0, 4)], 1, 5, 0⟩) = _
    rw [step_1b 92 32 _ _ rfl (by decide), run_good [100] (by simp) (by decide) _ _ rfl]
    have : 5 + ([60, 60] ++ n).length = n.length + 7 := by simp; omega
    rw [this]; rfl
  have hs : stA 92 (copyC n) (copyC n).length = ⟨[(0, 4), (5, n.length + 7)], 1, n.length + 8, 0⟩ := by
    unfold stA; rw [List.take_length, hrun]
  unfold splitR
  rw [hs, copyC_length]
  rfl
theorem copyC_raw (n : Ln) : ((copyC n).take (n.length + 7)).drop 5 = [60, 60] ++ n := by
  have : copyC n = ([67, 79, 80, 89, 32, 60, 60] ++ n) ++ [32, 100] := rfl
  rw [this, List.take_append_of_le_length (by simp), List.take_of_length_le (by simp)]
  rfl
theorem copyC_raw2 (n : Ln) : ((copyC n).take (n.length + 9)).drop (n.length + 8) = [100] := by
  rw [List.take_of_length_le (by rw [copyC_length]; omega)]
  have : copyC n = ([67, 79, 80, 89, 32, 60, 60] ++ n ++ [32]) ++ [100] := by simp [copyC]
  rw [this, List.drop_append_of_le_length (by simp), List.drop_of_length_le (by simp)]
  rfl
theorem open_name (n : Ln) (h : nameL n = true) : openL ([60, 60] ++ n) = (n, false, false) := by
  obtain ⟨hne, hb⟩ := name_byte n h
  cases n with
  | nil => exact absurd rfl hne
  | cons b n =>
    obtain ⟨_, _, _, h45, h34, h39, _⟩ := hb b List.mem_cons_self
    unfold openL
    simp [h45, h34, h39]
theorem body_until (n : Ln) (r : List Ln) : ∀ (L : List Ln) (i : Nat), (∀ x ∈ L, x ≠ n) → bodyG n false (L ++ n :: r) i = some (fileL L, i + L.length + 1)
  | [], i, _ => by simp [bodyG, bareL, fileL]
  | x :: L, i, h => by
    rw [List.cons_append]
    unfold bodyG
    have hx : bareL false x ≠ n := h x List.mem_cons_self
    rw [if_neg hx, body_until n r L (i + 1) (fun y hy => h y (List.mem_cons_of_mem _ hy))]
    simp [fileL, bareL]
    omega
/-- P14.6: the document of a file that is made so. -/
theorem lex_docs (n t : Ln) (hn : nameL n = true) (h13 : 13 ∉ t) (hl : t = [] ∨ t.getLast? = some 10) (hno : n ∉ cutL t) (e : UInt8) (ls : List LL) (h : lexL (copyC n ++ 10 :: (t ++ (n ++ 10 :: (cmdC ++ [10])))) = .ok (e, ls)) :
    ∃ m1 m2 i, ls = [⟨1, copyC n, m1, [⟨n, false, 2, t⟩]⟩, ⟨i, cmdC, m2, []⟩] := by
  obtain ⟨hne, hb⟩ := name_byte n hn
  obtain ⟨_, _, _, i0, h4, h5⟩ := lexL_ok _ e ls h
  have hfile : copyC n ++ 10 :: (t ++ (n ++ 10 :: (cmdC ++ [10]))) = fileL ([copyC n] ++ cutL t ++ [n, cmdC]) ++ [] := by
    have hf : ∀ a b : List Ln, fileL (a ++ b) = fileL a ++ fileL b := fun a b => by simp [fileL]
    rw [hf, hf, file_cut t h13 hl]
    simp [fileL]
  have hcl : ∀ x ∈ [copyC n] ++ cutL t ++ [n, cmdC], 10 ∉ x ∧ trimR x = x := by
    intro x hx
    simp only [List.mem_append, List.mem_cons, List.not_mem_nil, or_false] at hx
    rcases hx with (rfl | hx) | rfl | rfl
    · refine ⟨?_, trimR_no _ ?_⟩
      · simp [copyC]; exact fun hm => (hb 10 hm).2.1 rfl
      · simp [copyC]; exact fun hm => (hb 13 hm).2.2.1 rfl
    · exact cut_lines t x hx
    · exact ⟨fun hm => (hb 10 hm).2.1 rfl, trimR_no _ (fun hm => (hb 13 hm).2.2.1 rfl)⟩
    · exact ⟨by decide, by decide⟩
  have hcut : cutL (copyC n ++ 10 :: (t ++ (n ++ 10 :: (cmdC ++ [10])))) = [copyC n] ++ cutL t ++ [n, cmdC] := by
    rw [hfile, cut_file _ [] hcl]
    simp [cutL, segsG]
  rw [hcut] at h4 h5
  have hf : ([copyC n] ++ cutL t ++ [n, cmdC] : List Ln) = copyC n :: (cutL t ++ n :: [cmdC]) := by simp
  rw [hf] at h4 h5
  have h0 : (copyC n)[0]? = some 67 := rfl
  rw [dirs_none _ _ 67 h0 (by decide) (by decide)] at h4
  cases h4
  generalize hL : cutL t = L at *
  have hnL : ∀ x ∈ L, x ≠ n := fun x hx e => hno (by rw [← e]; exact hx)
  have hJ : joinG 92 ((copyC n :: (L ++ n :: [cmdC])).drop 0) 0 (hd (copyC n)) 0 false = ([⟨0, 1, 1⟩], copyC n, 1) := by
    rw [hd_zero _ 67 h0 (by decide), List.drop_zero]
    have hen : en (copyC n) = n.length + 9 := by
      have : copyC n = ([67, 79, 80, 89, 32, 60, 60] ++ n ++ [32]) ++ [100] := by simp [copyC]
      rw [this, en_snoc _ _ (by decide)]; simp
    have hlast : (copyC n)[n.length + 9 - 1]? = some 100 := by
      have : copyC n = ([67, 79, 80, 89, 32, 60, 60] ++ n ++ [32]) ++ [100] := by simp [copyC]
      rw [this, List.getElem?_append_right (by simp)]
      simp
    have hg : goesOn 92 0 (copyC n) = false := by
      unfold goesOn
      rw [hen, hlast]
      simp
    have hed : edN 92 0 (copyC n) = (copyC n).length := by unfold edN; rw [hg]; rfl
    unfold joinG
    rw [if_neg (by simp), if_neg (by rw [hg]; decide)]
    unfold mksN segN
    rw [hed, if_pos (by rw [copyC_length]; omega), List.take_length]; rfl
  have hcop : copiesL (copyC n) = true := by
    unfold copiesL
    rw [hd_zero _ 67 h0 (by decide)]
    have h4' : (copyC n)[0 + 4]? = some 32 := rfl
    rw [h4']
    simp only [Bool.and_eq_true]
    refine ⟨?_, by decide⟩
    unfold saysL
    simp only [Bool.and_eq_true, decide_eq_true_eq]
    refine ⟨by rw [copyC_length]; simp [copyW], ?_⟩
    show (([67, 79, 80, 89] : Ln).map lowB == copyW) = true
    decide
  have hdocs : docsL 92 (copyC n :: (L ++ n :: [cmdC])) 1 (copyC n) [⟨0, 1, 1⟩] 1 = .ok ([⟨n, false, 2, t⟩], 1 + L.length + 1) := by
    unfold docsL
    rw [if_pos hcop, copyC_split n hn]
    show docsG _ 1 (copyC n) _ [(5, n.length + 7), (n.length + 8, n.length + 9)] 1 = _
    unfold docsG
    simp only
    rw [copyC_raw, if_pos (show List.take 2 ([60, 60] ++ n) = [60, 60] from rfl), open_name n hn]
    simp only
    rw [if_pos hn]
    have hbd : bodyG n false ((copyC n :: (L ++ n :: [cmdC])).drop 1) 1 = some (fileL L, 1 + L.length + 1) := body_until n [cmdC] L 1 hnL
    rw [hbd]
    simp only
    unfold docsG
    simp only
    rw [copyC_raw2, if_neg (by decide)]
    unfold docsG
    simp only
    rw [← hL, file_cut t h13 hl]
  have hlen : (copyC n :: (L ++ n :: [cmdC])).length + 1 = (L.length + 2) + 2 := by simp
  have hrest : linesG 92 (copyC n :: (L ++ n :: [cmdC])) (L.length + 1 + 2) (1 + L.length + 1) = .ok [⟨1 + L.length + 1 + 1, cmdC, [⟨0, 1 + L.length + 1 + 1, 1⟩], []⟩] := by
    have hget : (copyC n :: (L ++ n :: [cmdC]))[1 + L.length + 1]? = some cmdC := by
      rw [show 1 + L.length + 1 = (L.length + 1) + 1 by omega, List.getElem?_cons_succ, List.getElem?_append_right (by omega)]
      simp
    have hdr : (copyC n :: (L ++ n :: [cmdC])).drop (1 + L.length + 1) = [cmdC] := by
      rw [show 1 + L.length + 1 = (L.length + 1) + 1 by omega, List.drop_succ_cons, List.drop_append, List.drop_of_length_le (by omega)]
      simp
    refine lines_last _ cmdC _ (1 + L.length + 1 + 1) _ cmdC _ hget (by decide) ?_ (by decide) ?_ ?_ ?_
    · rw [hdr]
      have hg : goesOn 92 (hd cmdC) cmdC = false := by decide
      unfold joinG
      rw [if_neg (by simp), if_neg (by rw [hg]; decide)]
      rfl
    · rw [List.getElem?_eq_none]
      simp; omega
    · intro k hk
      have hkm := List.mem_of_getElem? hk
      exact absurd hkm (by decide)
    · intro q hc
      exact absurd hc (by decide)
  rw [hlen] at h5
  unfold linesG at h5
  rw [show (copyC n :: (L ++ n :: [cmdC]))[0]? = some (copyC n) from rfl] at h5
  simp only at h5
  rw [if_neg (by rw [noth_not _ 67 h0 (by decide) (by decide)]; decide), hJ] at h5
  simp only at h5
  rw [if_neg (by rw [hd_zero _ 67 h0 (by decide), copyC_length]; omega), hdocs] at h5
  simp only at h5
  rw [show L.length + 2 + 1 = L.length + 1 + 2 by omega, hrest] at h5
  cases h5
  exact ⟨_, _, _, rfl⟩
end Go.Proofs.YtjgijbeedgggdabGreatDoor

namespace Go.Proofs.YtjgijbeedgggdabGreatDoor
open Go

def erD (d : Dc) : Ln × Bool × Ln := (d.name, d.raw, d.text)
def erL (x : LL) : Ln × List (Ln × Bool × Ln) := (x.text, x.docs.map erD)
theorem join_shift (e : UInt8) : ∀ (l : List Ln) (i fr n : Nat) (sk : Bool), (joinG e l (i + 1) fr n sk).2.1 = (joinG e l i fr n sk).2.1 ∧ (joinG e l (i + 1) fr n sk).2.2 = (joinG e l i fr n sk).2.2 + 1
  | [], _, _, _, _ => ⟨rfl, rfl⟩
  | x :: r, i, fr, n, sk => by
    unfold joinG
    by_cases h1 : (sk && noth x) = true
    · rw [if_pos h1, if_pos h1]; exact join_shift e r (i + 1) fr n sk
    · rw [if_neg h1, if_neg h1]
      by_cases h2 : goesOn e fr x = true
      · rw [if_pos h2, if_pos h2]
        obtain ⟨a, b⟩ := join_shift e r (i + 1) 0 (n + (segN e fr x).length) true
        exact ⟨by simp only; rw [a], b⟩
      · rw [if_neg h2, if_neg h2]; exact ⟨rfl, rfl⟩
theorem body_shift (n : Ln) (t : Bool) : ∀ (l : List Ln) (i : Nat), bodyG n t l (i + 1) = (bodyG n t l i).map fun p => (p.1, p.2 + 1)
  | [], _ => rfl
  | x :: r, i => by
    unfold bodyG
    by_cases h : bareL t x = n
    · rw [if_pos h, if_pos h]; rfl
    · rw [if_neg h, if_neg h, body_shift n t r (i + 1)]
      cases bodyG n t r (i + 1) <;> rfl
theorem docs_shift (f g : List Ln) (a : Nat) (hs : ∀ m, a ≤ m → g.drop (m + 1) = f.drop m) (line line' : Nat) (text : Ln) (ms ms' : List Mk) : ∀ (ws : List (Nat × Nat)) (i : Nat) (ds : List Dc) (k : Nat), a ≤ i → docsG f line text ms ws i = .ok (ds, k) → ∃ ds', docsG g line' text ms' ws (i + 1) = .ok (ds', k + 1) ∧ ds'.map erD = ds.map erD
  | [], i, ds, k, _, h => by cases h; exact ⟨[], rfl, rfl⟩
  | w :: r, i, ds, k, hi, h => by
    unfold docsG at h ⊢
    simp only at h ⊢
    split at h
    · rename_i h1
      rw [if_pos h1]
      split at h
      · rename_i h2
        rw [if_pos h2]
        split at h
        · cases h
        · rename_i t j hb
          have hb' : bodyG (openL ((text.take w.2).drop w.1)).1 (openL ((text.take w.2).drop w.1)).2.2 (g.drop (i + 1)) (i + 1) = some (t, j + 1) := by
            rw [hs i hi, body_shift, hb]; rfl
          rw [hb']
          simp only
          split at h
          · cases h
          · rename_i ds0 k0 hd0
            cases h
            have hij := (bodyG_le _ _ _ _ _ _ hb).1
            obtain ⟨ds', e1, e2⟩ := docs_shift f g a hs line line' text ms ms' r j ds0 k (by omega) hd0
            rw [e1]
            exact ⟨_, rfl, by simp only [List.map_cons, e2]; rfl⟩
      · cases h
    · rename_i h1
      rw [if_neg h1]
      exact docs_shift f g a hs line line' text ms ms' r i ds k hi h
theorem docsL_shift (e : UInt8) (f g : List Ln) (a : Nat) (hs : ∀ m, a ≤ m → g.drop (m + 1) = f.drop m) (line line' : Nat) (text : Ln) (ms ms' : List Mk) (i : Nat) (ds : List Dc) (k : Nat) (hi : a ≤ i) (h : docsL e f line text ms i = .ok (ds, k)) : ∃ ds', docsL e g line' text ms' (i + 1) = .ok (ds', k + 1) ∧ ds'.map erD = ds.map erD := by
  unfold docsL at h ⊢
  split at h
  · rename_i h1
    rw [if_pos h1]
    split at h
    · cases h
    · exact docs_shift f g a hs line line' text ms ms' _ i ds k hi h
  · rename_i h1
    rw [if_neg h1]
    cases h
    exact ⟨[], rfl, rfl⟩
theorem get_shift {f g : List Ln} {a m : Nat} (hs : ∀ m, a ≤ m → g.drop (m + 1) = f.drop m) (h : a ≤ m) : g[m + 1]? = f[m]? := by
  have h1 := List.getElem?_drop (xs := g) (i := m + 1) (j := 0)
  have h2 := List.getElem?_drop (xs := f) (i := m) (j := 0)
  rw [hs m h] at h1
  rw [Nat.add_zero] at h1 h2
  rw [← h1, ← h2]
theorem join_next (e : UInt8) (f : List Ln) (x : Ln) (i fr n : Nat) (hx : f[i]? = some x) : i < (joinG e (f.drop i) i fr n false).2.2 := by
  obtain ⟨hi, hxi⟩ := List.getElem?_eq_some_iff.1 hx
  rw [List.drop_eq_getElem_cons hi, hxi]
  exact join_more e x _ i fr n
theorem linesG_succ (e : UInt8) (f : List Ln) (fu i : Nat) : linesG e f (fu + 1) i = match f[i]? with
    | none => .ok []
    | some x =>
      if noth x = true then linesG e f fu (i + 1)
      else if hd (joinG e (f.drop i) i (hd x) 0 false).2.1 = (joinG e (f.drop i) i (hd x) 0 false).2.1.length then linesG e f fu (joinG e (f.drop i) i (hd x) 0 false).2.2
      else match docsL e f (i + 1) (joinG e (f.drop i) i (hd x) 0 false).2.1 (joinG e (f.drop i) i (hd x) 0 false).1 (joinG e (f.drop i) i (hd x) 0 false).2.2 with
        | .error x => .error x
        | .ok (ds, j) => match linesG e f fu j with
          | .error x => .error x
          | .ok ls => .ok (⟨i + 1, (joinG e (f.drop i) i (hd x) 0 false).2.1, (joinG e (f.drop i) i (hd x) 0 false).1, ds⟩ :: ls) := rfl
/-- More fuel than lines changes nothing. -/
theorem lines_fuel (e : UInt8) (f : List Ln) : ∀ (fu i : Nat), f.length < fu + i → linesG e f (fu + 1) i = linesG e f fu i
  | 0, i, h => by
    rw [linesG_succ, List.getElem?_eq_none (by omega)]; rfl
  | fu + 1, i, h => by
    rw [linesG_succ e f (fu + 1) i, linesG_succ e f fu i]
    cases hx : f[i]? with
    | none => rfl
    | some x =>
      simp only
      have hnx := join_next e f x i (hd x) 0 hx
      rw [lines_fuel e f fu (i + 1) (by omega), lines_fuel e f fu (joinG e (f.drop i) i (hd x) 0 false).2.2 (by omega)]
      cases hd0 : docsL e f (i + 1) (joinG e (f.drop i) i (hd x) 0 false).2.1 (joinG e (f.drop i) i (hd x) 0 false).1 (joinG e (f.drop i) i (hd x) 0 false).2.2 with
      | error _ => rfl
      | ok p =>
        obtain ⟨ds, j⟩ := p
        have hj := docsL_le _ _ _ _ _ _ _ _ hd0
        simp only
        rw [lines_fuel e f fu j (by omega)]
/-- Behind the new line. -/
theorem lines_shift (e : UInt8) (f g : List Ln) (a : Nat) (hs : ∀ m, a ≤ m → g.drop (m + 1) = f.drop m) : ∀ (fu i : Nat) (ls : List LL), a ≤ i → f.length < fu + i → linesG e f fu i = .ok ls → ∃ ms, linesG e g (fu + 1) (i + 1) = .ok ms ∧ ms.map erL = ls.map erL
  | 0, i, ls, hi, hf, h => by
    cases h
    refine ⟨[], ?_, rfl⟩
    unfold linesG
    rw [get_shift hs hi, List.getElem?_eq_none (by omega)]
  | fu + 1, i, ls, hi, hf, h => by
    unfold linesG at h ⊢
    rw [get_shift hs hi]
    cases hx : f[i]? with
    | none => rw [hx] at h; cases h; exact ⟨[], rfl, rfl⟩
    | some x =>
      rw [hx] at h
      simp only at h ⊢
      split at h
      · rename_i h1
        rw [if_pos h1]
        exact lines_shift e f g a hs fu (i + 1) ls (by omega) (by omega) h
      · rename_i h1
        rw [if_neg h1, hs i hi]
        obtain ⟨t1, t2⟩ := join_shift e (f.drop i) i (hd x) 0 false
        have hnx := join_next e f x i (hd x) 0 hx
        rw [t1, t2]
        split at h
        · rename_i h2
          rw [if_pos h2]
          exact lines_shift e f g a hs fu _ ls (by omega) (by omega) h
        · rename_i h2
          rw [if_neg h2]
          split at h
          · cases h
          · rename_i ds j hd0
            obtain ⟨ds', e1, e2⟩ := docsL_shift e f g a hs (i + 1) (i + 1 + 1) _ _ (joinG e (f.drop i) (i + 1) (hd x) 0 false).1 _ ds j (by omega) hd0
            rw [e1]
            simp only
            split at h
            · cases h
            · rename_i ls0 hl0
              cases h
              have hj := docsL_le _ _ _ _ _ _ _ _ hd0
              obtain ⟨ms, e3, e4⟩ := lines_shift e f g a hs fu j ls0 (by omega) (by omega) hl0
              rw [e3]
              exact ⟨_, rfl, by simp only [List.map_cons, e4]; unfold erL; simp only [e2]⟩
/-- Ahead of the new line: an l-line that may go on over it. -/
theorem join_ins (e : UInt8) (more : Ln) (hm : noth more = true) (v : List Ln) : ∀ (u : List Ln) (i fr n : Nat) (sk : Bool), (u ≠ [] ∨ sk = true) → (joinG e (u ++ more :: v) i fr n sk).2.1 = (joinG e (u ++ v) i fr n sk).2.1 ∧ (((joinG e (u ++ more :: v) i fr n sk).2.2 = (joinG e (u ++ v) i fr n sk).2.2 ∧ (joinG e (u ++ v) i fr n sk).2.2 ≤ i + u.length) ∨ ((joinG e (u ++ more :: v) i fr n sk).2.2 = (joinG e (u ++ v) i fr n sk).2.2 + 1 ∧ i + u.length ≤ (joinG e (u ++ v) i fr n sk).2.2))
  | [], i, fr, n, sk, h => by
    have hsk : sk = true := h.resolve_left (fun h => h rfl)
    subst hsk
    rw [List.nil_append, List.nil_append]
    have e1 : joinG e (more :: v) i fr n true = joinG e v (i + 1) fr n true := by
      rw [joinG]; rw [if_pos (by rw [hm]; rfl)]
    rw [e1]
    obtain ⟨t1, t2⟩ := join_shift e v i fr n true
    have := (join_marks e v i fr n true).2.2.1
    exact ⟨t1, .inr ⟨t2, by simpa using this⟩⟩
  | x :: u, i, fr, n, sk, _ => by
    rw [List.cons_append, List.cons_append]
    rw [joinG, joinG]
    by_cases h1 : (sk && noth x) = true
    · rw [if_pos h1, if_pos h1]
      have hsk : sk = true := by revert h1; cases sk <;> simp
      have := join_ins e more hm v u (i + 1) fr n sk (.inr hsk)
      rw [List.length_cons, show i + (u.length + 1) = i + 1 + u.length by omega]
      exact this
    · rw [if_neg h1, if_neg h1]
      by_cases h2 : goesOn e fr x = true
      · rw [if_pos h2, if_pos h2]
        obtain ⟨t1, t2⟩ := join_ins e more hm v u (i + 1) 0 (n + (segN e fr x).length) true (.inr rfl)
        rw [List.length_cons, show i + (u.length + 1) = i + 1 + u.length by omega]
        exact ⟨by simp only; rw [t1], t2⟩
      · rw [if_neg h2, if_neg h2]
        exact ⟨rfl, .inl ⟨rfl, by simp⟩⟩
theorem body_ins (n : Ln) (t : Bool) (v v' : List Ln) : ∀ (u : List Ln) (i : Nat) (x : Ln) (m : Nat), bodyG n t (u ++ v) i = some (x, m) → m ≤ i + u.length → bodyG n t (u ++ v') i = some (x, m)
  | [], i, x, m, h, hm => by
    have := (bodyG_le _ _ _ _ _ _ h).1
    simp at hm; omega
  | y :: u, i, x, m, h, hm => by
    rw [List.cons_append] at h ⊢
    rw [bodyG] at h ⊢
    by_cases hy : bareL t y = n
    · rw [if_pos hy] at h ⊢; exact h
    · rw [if_neg hy] at h ⊢
      cases hb : bodyG n t (u ++ v) (i + 1) with
      | none => rw [hb] at h; cases h
      | some p =>
        rw [hb] at h
        obtain ⟨p1, p2⟩ := p
        cases h
        rw [body_ins n t v v' u (i + 1) p1 p2 hb (by rw [List.length_cons] at hm; omega)]
        rfl
theorem bare_no (t : Bool) (x : Ln) (h : 10 ∉ x) : 10 ∉ bareL t x := by
  unfold bareL
  split
  · exact fun hm => h ((List.dropWhile_sublist (fun c : UInt8 => c == 9) (l := x)).subset hm)
  · exact h
theorem body_count (n : Ln) (t : Bool) : ∀ (l : List Ln) (i : Nat) (x : Ln) (m : Nat), (∀ y ∈ l, 10 ∉ y) → bodyG n t l i = some (x, m) → x.count 10 + i + 1 = m
  | [], _, _, _, _, h => by cases h
  | y :: r, i, x, m, hn, h => by
    rw [bodyG] at h
    split at h
    · cases h; simp
    · cases hb : bodyG n t r (i + 1) with
      | none => rw [hb] at h; cases h
      | some p =>
        rw [hb] at h
        obtain ⟨p1, p2⟩ := p
        cases h
        have := body_count n t r (i + 1) p1 p2 (fun z hz => hn z (List.mem_cons_of_mem _ hz)) hb
        have h0 : (bareL t y).count 10 = 0 := List.count_eq_zero.2 (bare_no t y (hn y List.mem_cons_self))
        simp only [List.count_append, List.count_cons_self, h0]
        omega
/-- Is the new line one of a document's, or right ahead of its first? -/
def Out (a : Nat) (ds : List Dc) : Prop := ∀ d ∈ ds, ¬ (d.line - 1 ≤ a ∧ a ≤ d.line - 1 + d.text.count 10)
theorem docs_ins (f : List Ln) (more : Ln) (a : Nat) (ha : a ≤ f.length) (hno : ∀ y ∈ f, 10 ∉ y) (line line' : Nat) (text : Ln) (ms ms' : List Mk) : ∀ (ws : List (Nat × Nat)) (i : Nat) (ds : List Dc) (k : Nat), i ≤ a → Out a ds → docsG f line text ms ws i = .ok (ds, k) → k ≤ a ∧ ∃ ds', docsG (f.take a ++ more :: f.drop a) line' text ms' ws i = .ok (ds', k) ∧ ds'.map erD = ds.map erD
  | [], i, ds, k, hi, _, h => by cases h; exact ⟨hi, [], rfl, rfl⟩
  | w :: r, i, ds, k, hi, ho, h => by
    unfold docsG at h ⊢
    simp only at h ⊢
    split at h
    · rename_i h1
      rw [if_pos h1]
      split at h
      · rename_i h2
        rw [if_pos h2]
        split at h
        · cases h
        · rename_i t j hb
          split at h
          · cases h
          · rename_i ds0 k0 hd0
            cases h
            have hcnt := body_count _ _ _ _ _ _ (fun y hy => hno y (List.mem_of_mem_drop hy)) hb
            have hout := ho _ List.mem_cons_self
            simp only [Nat.add_sub_cancel] at hout
            have hja : j ≤ a := by omega
            have hfd : f.drop i = (f.take a).drop i ++ f.drop a := by
              rw [← List.drop_append_of_le_length (by rw [List.length_take]; omega), List.take_append_drop]
            have hgd : (f.take a ++ more :: f.drop a).drop i = (f.take a).drop i ++ more :: f.drop a := List.drop_append_of_le_length (by rw [List.length_take]; omega)
            rw [hfd] at hb
            have hb' := body_ins _ _ (f.drop a) (more :: f.drop a) _ _ _ _ hb (by rw [List.length_drop, List.length_take]; omega)
            rw [hgd, hb']
            simp only
            obtain ⟨g1, ds', e1, e2⟩ := docs_ins f more a ha hno line line' text ms ms' r j ds0 k hja (fun d hd => ho d (List.mem_cons_of_mem _ hd)) hd0
            rw [e1]
            exact ⟨g1, _, rfl, by simp only [List.map_cons, e2]⟩
      · cases h
    · rename_i h1
      rw [if_neg h1]
      exact docs_ins f more a ha hno line line' text ms ms' r i ds k hi ho h
theorem docsL_ins (e : UInt8) (f : List Ln) (more : Ln) (a : Nat) (ha : a ≤ f.length) (hno : ∀ y ∈ f, 10 ∉ y) (line line' : Nat) (text : Ln) (ms ms' : List Mk) (i : Nat) (ds : List Dc) (k : Nat) (hi : i ≤ a) (ho : Out a ds) (h : docsL e f line text ms i = .ok (ds, k)) : k ≤ a ∧ ∃ ds', docsL e (f.take a ++ more :: f.drop a) line' text ms' i = .ok (ds', k) ∧ ds'.map erD = ds.map erD := by
  unfold docsL at h ⊢
  split at h
  · rename_i h1
    rw [if_pos h1]
    split at h
    · cases h
    · exact docs_ins f more a ha hno line line' text ms ms' _ i ds k hi ho h
  · rename_i h1
    rw [if_neg h1]
    cases h
    exact ⟨hi, [], rfl, rfl⟩
theorem ins_shift (f : List Ln) (more : Ln) (a : Nat) (ha : a ≤ f.length) : ∀ m, a ≤ m → (f.take a ++ more :: f.drop a).drop (m + 1) = f.drop m := by
  intro m hm
  rw [List.drop_append, List.drop_of_length_le (by rw [List.length_take]; omega), List.nil_append, List.length_take, Nat.min_eq_left ha, show m + 1 - a = (m - a) + 1 by omega, List.drop_succ_cons, List.drop_drop, show a + (m - a) = m by omega]
/-- A line more. -/
theorem lines_ins (e : UInt8) (f : List Ln) (more : Ln) (hm : noth more = true) (a : Nat) (ha : a ≤ f.length) (hno : ∀ y ∈ f, 10 ∉ y) : ∀ (fu i : Nat) (ls : List LL), i ≤ a → f.length < fu + i → (∀ x ∈ ls, Out a x.docs) → linesG e f fu i = .ok ls → ∃ ms, linesG e (f.take a ++ more :: f.drop a) (fu + 2) i = .ok ms ∧ ms.map erL = ls.map erL
  | 0, i, ls, hi, hf, _, h => by omega
  | fu + 1, i, ls, hi, hf, ho, h => by
    have hs := ins_shift f more a ha
    by_cases hia : i = a
    · subst hia
      obtain ⟨ms, e1, e2⟩ := lines_shift e f _ i hs (fu + 1) i ls (Nat.le_refl _) hf h
      refine ⟨ms, ?_, e2⟩
      rw [linesG]
      have hg : (f.take i ++ more :: f.drop i)[i]? = some more := by
        rw [List.getElem?_append_right (by rw [List.length_take]; omega), List.length_take, Nat.min_eq_left ha, Nat.sub_self]; rfl
      rw [hg]
      simp only
      rw [if_pos hm]
      exact e1
    have hlt : i < a := by omega
    have hgi : (f.take a ++ more :: f.drop a)[i]? = f[i]? := by
      rw [List.getElem?_append_left (by rw [List.length_take]; omega), List.getElem?_take, if_pos hlt]
    have hfd : f.drop i = (f.take a).drop i ++ f.drop a := by
      rw [← List.drop_append_of_le_length (by rw [List.length_take]; omega), List.take_append_drop]
    have hgd : (f.take a ++ more :: f.drop a).drop i = (f.take a).drop i ++ more :: f.drop a := List.drop_append_of_le_length (by rw [List.length_take]; omega)
    rw [linesG] at h ⊢
    rw [hgi]
    cases hx : f[i]? with
    | none => have := (List.getElem?_eq_none_iff.1 hx); omega
    | some x =>
      rw [hx] at h
      simp only at h ⊢
      split at h
      · rename_i h1
        rw [if_pos h1]
        exact lines_ins e f more hm a ha hno fu (i + 1) ls (by omega) (by omega) ho h
      · rename_i h1
        rw [if_neg h1, hgd]
        have hnx := join_next e f x i (hd x) 0 hx
        obtain ⟨t1, t2⟩ := join_ins e more hm (f.drop a) ((f.take a).drop i) i (hd x) 0 false (.inl (fun e => by have := congrArg List.length e; rw [List.length_drop, List.length_take, List.length_nil] at this; omega))
        rw [← hfd] at t1 t2
        rw [List.length_drop, List.length_take, Nat.min_eq_left ha, show i + (a - i) = a by omega] at t2
        rw [t1]
        split at h
        · rename_i h2
          rw [if_pos h2]
          rcases t2 with ⟨t2, t3⟩ | ⟨t2, t3⟩
          · rw [t2]
            exact lines_ins e f more hm a ha hno fu _ ls t3 (by omega) ho h
          · rw [t2]
            obtain ⟨ms, e1, e2⟩ := lines_shift e f _ a hs fu _ ls t3 (by omega) h
            exact ⟨ms, by rw [lines_fuel _ _ _ _ (by rw [List.length_append, List.length_cons, List.length_take, List.length_drop]; omega)]; exact e1, e2⟩
        · rename_i h2
          rw [if_neg h2]
          split at h
          · cases h
          · rename_i ds j hd0
            split at h
            · cases h
            · rename_i ls0 hl0
              cases h
              have hj := docsL_le _ _ _ _ _ _ _ _ hd0
              have ho1 := ho _ List.mem_cons_self
              simp only at ho1
              rcases t2 with ⟨t2, t3⟩ | ⟨t2, t3⟩
              · obtain ⟨hka, ds', e1, e2⟩ := docsL_ins e f more a ha hno (i + 1) (i + 1) _ _ (joinG e ((f.take a).drop i ++ more :: f.drop a) i (hd x) 0 false).1 _ ds j t3 ho1 hd0
                rw [t2, e1]
                simp only
                obtain ⟨ms, e3, e4⟩ := lines_ins e f more hm a ha hno fu j ls0 hka (by omega) (fun y hy => ho y (List.mem_cons_of_mem _ hy)) hl0
                rw [e3]
                exact ⟨_, rfl, by simp only [List.map_cons, e4]; unfold erL; simp only [e2]⟩
              · obtain ⟨ds', e1, e2⟩ := docsL_shift e f _ a hs (i + 1) (i + 1) _ _ (joinG e ((f.take a).drop i ++ more :: f.drop a) i (hd x) 0 false).1 _ ds j t3 hd0
                rw [t2, e1]
                simp only
                obtain ⟨ms, e3, e4⟩ := lines_shift e f _ a hs fu j ls0 (by omega) (by omega) hl0
                rw [lines_fuel _ _ _ _ (by rw [List.length_append, List.length_cons, List.length_take, List.length_drop]; omega), e3]
                exact ⟨_, rfl, by simp only [List.map_cons, e4]; unfold erL; simp only [e2]⟩
end Go.Proofs.YtjgijbeedgggdabGreatDoor

namespace Go.Proofs.YtjgijbeedgggdabGreatDoor
open Go

theorem Val.tail {b : UInt8} {s : Ln} (h : Val (b :: s)) (hb : b < 128) : Val s := by
  cases h with
  | step _ _ h2 =>
    have : chrN (b :: s) = 1 := by
      have h1 : leadN b = 1 := by unfold leadN; rw [if_pos hb]
      rw [chrN_cons, if_pos h1]
    rw [this] at h2
    exact h2
theorem segs_val : ∀ (s acc : Ln), Val (acc ++ s) → ∀ x ∈ segsG acc s, Val x
  | [], acc, h, x, hx => by
    rw [segsG] at hx
    split at hx
    · cases hx
    · simp at hx; subst hx; simpa using h
  | b :: s, acc, h, x, hx => by
    rw [segsG] at hx
    split at hx
    · rename_i hb
      subst hb
      have hp := h.part acc.length (by simp) (fun b' hb' => by
        rw [List.getElem?_append_right (Nat.le_refl _), Nat.sub_self] at hb'
        simp at hb'; subst hb'; decide)
      rw [List.take_left, List.drop_left] at hp
      rcases List.mem_cons.1 hx with rfl | hx
      · exact hp.1
      · exact segs_val s [] (by simpa using hp.2.tail (by decide)) x hx
    · exact segs_val s (acc ++ [b]) (by simpa using h) x hx
theorem trimR_parts (x : Ln) : x = trimR x ++ (x.reverse.takeWhile (· == 13)).reverse := by
  unfold trimR
  rw [← List.reverse_append, List.takeWhile_append_dropWhile, List.reverse_reverse]
theorem trimR_val (x : Ln) (h : Val x) : Val (trimR x) := by
  have e := trimR_parts x
  have hz : ∀ b ∈ (x.reverse.takeWhile (· == 13)).reverse, b = 13 := fun b hb => by
    rw [List.mem_reverse] at hb
    have : (b == 13) = true := by
      generalize x.reverse = y at hb
      induction y with
      | nil => simp at hb
      | cons c y ih =>
        by_cases hc : (c == 13) = true
        · rw [List.takeWhile_cons_of_pos (p := fun b : UInt8 => b == 13) hc] at hb
          rcases List.mem_cons.1 hb with rfl | hb
          · exact hc
          · exact ih hb
        · rw [List.takeWhile_cons_of_neg (p := fun b : UInt8 => b == 13) hc] at hb
          cases hb
    simpa using this
  generalize (x.reverse.takeWhile (· == 13)).reverse = z at e hz
  generalize trimR x = y at e ⊢
  subst e
  have hp := h.part y.length (by simp) (fun b hb => by
    rw [List.getElem?_append_right (Nat.le_refl _), Nat.sub_self] at hb
    have := hz b (List.mem_of_getElem? hb)
    subst this; decide)
  rw [List.take_left] at hp
  exact hp.1
theorem cut_val (s : Ln) (h : Val s) : ∀ x ∈ cutL s, Val x := by
  intro x hx
  unfold cutL at hx
  obtain ⟨y, hy, rfl⟩ := List.mem_map.1 hx
  exact trimR_val y (segs_val s [] (by simpa using h) y hy)
theorem file_val (g : List Ln) (h : ∀ x ∈ g, Val x) : Val (fileL g) := by
  induction g with
  | nil => exact Val.nil
  | cons x g ih =>
    have e : fileL (x :: g) = (x ++ [10]) ++ fileL g := by simp [fileL]
    rw [e]
    exact ((h x List.mem_cons_self).append (Val.ascii [10] (by decide))).append (ih (fun y hy => h y (List.mem_cons_of_mem _ hy)))
theorem trimR_length (x : Ln) : (trimR x).length ≤ x.length := by
  have := congrArg List.length (trimR_parts x)
  rw [List.length_append] at this
  omega
theorem file_length : ∀ (s acc : Ln), (fileL ((segsG acc s).map trimR)).length ≤ acc.length + s.length + 1
  | [], acc => by
    rw [segsG]
    split
    · simp [fileL]
    · have := trimR_length acc
      simp [fileL]; omega
  | b :: s, acc => by
    rw [segsG]
    split
    · have h1 := file_length s []
      have h2 := trimR_length acc
      have e : fileL ((acc :: segsG [] s).map trimR) = trimR acc ++ (10 :: fileL ((segsG [] s).map trimR)) := by simp [fileL]
      rw [e, List.length_append, List.length_cons, List.length_cons]
      simp at h1
      omega
    · have h1 := file_length s (acc ++ [b])
      simp at h1 ⊢
      omega
theorem file_append (a b : List Ln) : fileL (a ++ b) = fileL a ++ fileL b := by simp [fileL]
theorem dirs_ins (f : List Ln) (more : Ln) (hm : dirAt more = none) (a i : Nat) (e : UInt8) (ha : a ≤ f.length) (h1 : ∀ x, f[0]? = some x → (dirAt x).isSome = true → 1 ≤ a) (h : dirsL f = .ok (i, e)) : i ≤ a ∧ dirsL (f.take a ++ more :: f.drop a) = .ok (i, e) := by
  cases f with
  | nil =>
    cases h
    have : a = 0 := by simpa using ha
    subst this
    refine ⟨Nat.le_refl _, ?_⟩
    show dirsL [more] = _
    rw [dirsL, hm]
  | cons x r =>
    rw [dirsL] at h
    cases hx : dirAt x with
    | none =>
      rw [hx] at h
      cases h
      refine ⟨Nat.zero_le _, ?_⟩
      cases a with
      | zero =>
        show dirsL (more :: x :: r) = _
        rw [dirsL, hm]
      | succ a =>
        show dirsL (x :: (r.take a ++ more :: r.drop a)) = _
        rw [dirsL, hx]
    | some k =>
      have ha1 := h1 x rfl (by rw [hx]; rfl)
      obtain ⟨a, rfl⟩ : ∃ b, a = b + 1 := ⟨a - 1, by omega⟩
      rw [hx] at h
      simp only at h
      show _ ∧ dirsL (x :: (r.take a ++ more :: r.drop a)) = _
      rw [dirsL, hx]
      simp only
      split at h
      · rename_i hv
        rw [if_pos hv]
        cases r with
        | nil =>
          simp only at h
          cases h
          have : a = 0 := by simpa using ha
          subst this
          refine ⟨by omega, ?_⟩
          simp [hm]
        | cons y r =>
          simp only at h
          split at h
          · cases h
          · rename_i hy
            cases h
            refine ⟨by omega, ?_⟩
            cases a with
            | zero => simp [hm]
            | succ a =>
              rw [List.take_succ_cons, List.cons_append]
              simp only
              rw [if_neg hy]
      · cases h
/-- P14.4: a line more that says nothing. -/
theorem lex_remarks (s : Ln) (e : UInt8) (ls : List LL) (h : lexL s = .ok (e, ls)) (hs : s.length ≤ 60000) (hf : (cutL s).length ≤ 4000) (more : Ln) (hmore : more = [32, 32, 35, 32, 110, 111, 116, 101, 92] ∨ more = [32, 9]) (a : Nat) (ha : a ≤ (cutL s).length)
    (h1 : ∀ x, (cutL s)[0]? = some x → (dirAt x).isSome = true → 1 ≤ a) (ho : ∀ x ∈ ls, Out a x.docs) : ∃ ms, lexL (fileL ((cutL s).take a ++ more :: (cutL s).drop a)) = .ok (e, ms) ∧ ms.map erL = ls.map erL := by
  obtain ⟨_, hv, _, i, h4, h5⟩ := lexL_ok s e ls h
  have hcl := cut_lines s
  have hcv := cut_val s hv
  have hfl : (fileL (cutL s)).length ≤ s.length + 1 := by have := file_length s []; unfold cutL; simpa using this
  have hm : noth more = true ∧ dirAt more = none ∧ 10 ∉ more ∧ trimR more = more ∧ more.length ≤ 9 ∧ (∀ b ∈ more, b < 128) := by
    rcases hmore with rfl | rfl <;> decide
  obtain ⟨m1, m2, m3, m4, m5, m6⟩ := hm
  generalize hff : cutL s = f at *
  obtain ⟨hia, hd0⟩ := dirs_ins f more m2 a i e ha h1 h4
  have hg : ∀ x ∈ f.take a ++ more :: f.drop a, 10 ∉ x ∧ trimR x = x := fun x hx => by
    rcases List.mem_append.1 hx with hx | hx
    · exact hcl x (List.mem_of_mem_take hx)
    · rcases List.mem_cons.1 hx with rfl | hx
      · exact ⟨m3, m4⟩
      · exact hcl x (List.mem_of_mem_drop hx)
  have hcut : cutL (fileL (f.take a ++ more :: f.drop a)) = f.take a ++ more :: f.drop a := by
    have := cut_file _ [] hg
    rw [List.append_nil] at this
    rw [this]; simp [cutL, segsG]
  have hglen : (f.take a ++ more :: f.drop a).length = f.length + 1 := by rw [List.length_append, List.length_cons, List.length_take, List.length_drop]; omega
  obtain ⟨ms, e1, e2⟩ := lines_ins e f more m1 a ha (fun y hy => (hcl y hy).1) (f.length + 1) i ls hia (by omega) ho h5
  refine ⟨ms, lexL_mk _ e ms i ?_ ?_ ?_ ?_ ?_, e2⟩
  · have e3 : fileL (f.take a ++ more :: f.drop a) = fileL (f.take a) ++ ((more ++ [10]) ++ fileL (f.drop a)) := by rw [file_append]; simp [fileL]
    have e4 : (fileL f).length = (fileL (f.take a)).length + (fileL (f.drop a)).length := by rw [← List.length_append, ← file_append, List.take_append_drop]
    rw [e3]
    simp only [List.length_append, List.length_cons, List.length_nil]
    omega
  · exact file_val _ (fun x hx => by
      rcases List.mem_append.1 hx with hx | hx
      · exact hcv x (List.mem_of_mem_take hx)
      · rcases List.mem_cons.1 hx with rfl | hx
        · exact Val.ascii _ m6
        · exact hcv x (List.mem_of_mem_drop hx))
  · rw [hcut, hglen]; omega
  · rw [hcut]; exact hd0
  · rw [hcut, hglen]
    have hfu := lines_fuel e (f.take a ++ more :: f.drop a) (f.length + 1 + 1) i (by rw [hglen]; omega)
    rw [← hfu]
    exact e1
end Go.Proofs.YtjgijbeedgggdabGreatDoor

namespace Go.Proofs.YtjgijbeedgggdabGreatDoor
open Go Go.RowKit

def addE (ec : UInt8) : Except Flt (List LL) → Except Flt (UInt8 × List LL)
  | .error x => .error x
  | .ok ls => .ok (ec, ls)
theorem lexL_ck (s : Ln) : lexL s = (match ckL s with
    | some x => .error x
    | none => match dirsL (cutL s) with
        | .error x => .error x
        | .ok (i, e) => match linesG e (cutL s) ((cutL s).length + 1) i with
          | .error x => .error x
          | .ok ls => .ok (e, ls)) := by
  unfold lexL ckL
  by_cases h1 : 65536 < s.length
  · rw [if_pos h1, if_pos h1]
  · rw [if_neg h1, if_neg h1]
    cases wrongU s.length s 1 1 with
    | some p => rfl
    | none =>
      simp only
      by_cases h2 : 4096 < (cutL s).length
      · rw [if_pos h2, if_pos h2]
      · rw [if_neg h2, if_neg h2]
        rfl
theorem ck_none {s : Ln} (h : ckL s = none) : s.length ≤ 65536 ∧ (cutL s).length ≤ 4096 := by
  unfold ckL at h
  by_cases h1 : 65536 < s.length
  · rw [if_pos h1] at h; cases h
  · rw [if_neg h1] at h
    cases hw : wrongU s.length s 1 1 with
    | some p => rw [hw] at h; cases h
    | none =>
      rw [hw] at h
      simp only at h
      by_cases h2 : 4096 < (cutL s).length
      · rw [if_pos h2] at h; cases h
      · omega
theorem dirs_facts (f : List Ln) (k : Nat) (ec : UInt8) (h : dirsL f = .ok (k, ec)) : (ec = 92 ∨ ec = 96) ∧ k ≤ f.length := by
  unfold dirsL at h
  cases f with
  | nil => cases h; exact ⟨.inl rfl, by simp⟩
  | cons x r =>
    simp only at h
    cases hd : dirAt x with
    | none => rw [hd] at h; cases h; exact ⟨.inl rfl, by simp⟩
    | some a =>
      rw [hd] at h
      simp only at h
      split at h
      · rename_i hv
        have he : ((trimL (x.drop (a + 1))).headD 92 = 92 ∨ (trimL (x.drop (a + 1))).headD 92 = 96) := by
          rcases hv with e | e <;> rw [e]
          · exact .inl rfl
          · exact .inr rfl
        cases r with
        | nil => cases h; exact ⟨he, by simp⟩
        | cons y r =>
          simp only at h
          split at h
          · cases h
          · cases h; exact ⟨he, by simp⟩
      · cases h
theorem ErrType.belowE {w w' : World} (h : ErrType w) (hb : Below w.heap.size w w') : ErrType w' := cell_belowE hb h
/-- What Lines answers. -/
def LinesP (s : Ln) (w : World) (e : Ending) (w' : World) : Prop := Below w.heap.size w w' ∧ (match lexL s with
  | .error (no, l, a) => e = .returned (.tuple #[.int .u8 0, nilS, fltV no l a])
  | .ok (ec, ls) => ∃ v us, e = .returned (.tuple #[.int .u8 ec.toNat, v, .nilIface]) ∧ LnsAt w' w.heap.size v us ls)
set_option maxRecDepth 100000 in
set_option maxHeartbeats 1000000 in
theorem lines_p (s : ByteArray) (w : World) (hT : Tabs w) (hE : ErrType w) : Calls Tryz.prog 6 #[.string s] w (LinesP (un s) w) := by
  have hck := checkSource_p s w (fun W hW => hT.below hW)
  have HL : Hid (lexL (un s) = _) := lexL_ck (un s)
  cases hc : ckL (un s) with
  | some x =>
    obtain ⟨no, l, a⟩ := x
    rw [hc] at hck
    simp only [ckV] at hck
    have HR : Hid (lexL (un s) = .error (no, l, a)) := by unfold Hid; rw [HL.out, hc]
    clear hc HL
    go_enter Tryz.func6, Tryz.ntmps6
    go_wp2_with (go_at_call 9; refine hck.mono ?_; rintro e w1 ⟨rfl, b1⟩)
    go_ret3
    unfold LinesP
    rw [HR.out]
    exact ⟨b1, rfl⟩
  | none =>
    obtain ⟨h1, h2⟩ := ck_none hc
    rw [un_length] at h1
    rw [hc] at hck
    simp only [ckV] at hck
    have HL2 := HL.out
    rw [hc] at HL2
    replace HL2 : Hid _ := HL2
    clear hc HL
    go_enter Tryz.func6, Tryz.ntmps6
    go_wp2_with fail
    refine hck.mono ?_
    rintro e w1 ⟨rfl, b1⟩
    clear hck
    have LA := Lies.new w1 44 #[.string ⟨#[]⟩, .int .i64 0, .int .i64 0]
    have LA1 : Rd ((w1.alloc (.cells #[.string ⟨#[]⟩, .int .i64 0, .int .i64 0] 44)).setRow w1.heap.size #[.string s, .int .i64 0, .int .i64 0]) w1.heap.size s 0 0 := lies_setRow LA _
    have b2 : Below w1.heap.size w1 ((w1.alloc (.cells #[.string ⟨#[]⟩, .int .i64 0, .int .i64 0] 44)).setRow w1.heap.size #[.string s, .int .i64 0, .int .i64 0]) := below_setRow' ((Below.refl _ w1).alloc (Nat.le_refl _) _) (Nat.le_refl _) _
    have B2 := below_join b1 b2
    have hne : w.heap.size ≤ w1.heap.size := b1.size
    generalize hw2 : (w1.alloc (.cells #[.string ⟨#[]⟩, .int .i64 0, .int .i64 0] 44)).setRow w1.heap.size #[.string s, .int .i64 0, .int .i64 0] = w2 at *
    have hlt2 : w1.heap.size < w2.heap.size := Lies.lt LA1
    have hof : ∀ W, Oth w1.heap.size w2 W → Below w.heap.size w W := fun W hW => B2.trans (hW.below hne (by omega))
    have hDr := directives_p eqf w1.heap.size s w2 LA1 (fun W hW => hT.below (hof W hW)) (by omega)
    go_wp2_with (refine wpList_store_row rfl 44 (.tmp 6) (.tmp 17) rfl w1.heap.size #[.string s, .int .i64 0, .int .i64 0] rfl rfl 44 _ LA rd_size rfl (rd_one _ _ _) ?_; rw [hw2])
    refine hDr.mono ?_
    rintro e w3 ⟨o3, hway⟩
    clear hDr
    cases hd : dirsL (cutL (un s)) with
    | error x =>
      obtain ⟨no, l, a⟩ := x
      rw [hd] at hway
      simp only at hway
      subst hway
      have B3 := hof w3 o3
      have HR : Hid (lexL (un s) = .error (no, l, a)) := by unfold Hid; rw [HL2.out]; simp only [hd]
      clear HL2 hd
      go_wp2
      go_ret3
      unfold LinesP
      rw [HR.out]
      exact ⟨B3, rfl⟩
    | ok x =>
      obtain ⟨k, ec⟩ := x
      obtain ⟨d1, d2⟩ := dirs_facts _ k ec hd
      rw [hd] at hway
      simp only at hway
      obtain ⟨rfl, q, rd3, st3⟩ := hway
      obtain ⟨r, hr⟩ : ∃ r, linesG ec (cutL (un s)) ((cutL (un s)).length + 1) k = r := ⟨_, rfl⟩
      have hAl := all_p eqf w1.heap.size s q k ec w3 (fun W hW => hT.below (hof W (o3.trans hW))) (fun W hW => hE.belowE (hof W (o3.trans hW))) rd3 st3 (by rcases d1 with rfl | rfl <;> rfl) (by omega) (by omega) d2 r hr
      have HL3 : Hid (lexL (un s) = addE ec r) := by unfold Hid; rw [HL2.out]; simp only [hd, hr]; cases r <;> rfl
      clear d1 hd HL2
      go_wp2_with fail
      refine hAl.mono ?_
      rintro e w4 ⟨o4, hway⟩
      clear hAl hr
      have B4 := hof w4 (o3.trans o4)
      cases r with
      | error x =>
        obtain ⟨no, l, a⟩ := x
        simp only at hway
        subst hway
        have HR : Hid (lexL (un s) = .error (no, l, a)) := HL3
        clear HL3
        go_wp2
        go_ret3
        unfold LinesP
        rw [HR.out]
        exact ⟨B4, rfl⟩
      | ok ls =>
        simp only at hway
        obtain ⟨v, us, rfl, hv⟩ := hway
        have hb : w.heap.size ≤ w3.heap.size := by have := o3.size; omega
        have hv2 : LnsAt w4 w.heap.size v us ls := ⟨hv.len, row_lower2 hv.own hb, fun i x p a b => row_lower2 (hv.marks i x p a b) hb, fun i x p a b => row_lower2 (hv.docs i x p a b) hb⟩
        have HR : Hid (lexL (un s) = .ok (ec, ls)) := HL3
        clear HL3 hv
        go_wp2
        go_ret3
        unfold LinesP
        rw [HR.out]
        exact ⟨B4, v, us, rfl, hv2⟩
end Go.Proofs.YtjgijbeedgggdabGreatDoor

namespace Go.Proofs.YtjgijbeedgggdabGreatDoor
open Go Go.RowKit

theorem at_nil (l a : Int) (w : World) : Calls Tryz.prog 8 #[.nilIface, .int .i64 0, .int .i64 l, .int .i64 a] w fun e w' => e = .returned (.bool true) ∧ w' = w := by
  go_enter Tryz.func8, Tryz.ntmps8
  go_wp2
  go_ret
  exact ⟨rfl, rfl⟩
theorem num_nil' (w : World) : Calls Tryz.prog 14 #[.nilIface] w fun e w' => e = .returned (.int .i64 0) ∧ w' = w := by
  go_enter Tryz.func14, Tryz.ntmps14
  go_wp2
  go_ret
  exact ⟨rfl, rfl⟩
end Go.Proofs.YtjgijbeedgggdabGreatDoor

namespace Go.Proofs.YtjgijbeedgggdabGreatDoor
open Go Go.RowKit

structure LnC (W : World) (b q : Nat) (x : LL) (p : Value × Value) : Prop where
  c0 : W.cell? ⟨b, q, none⟩ = some (.int .i64 x.line)
  c1 : W.cell? ⟨b, q + 1, none⟩ = some (.string (bs x.text))
  c2 : W.cell? ⟨b, q + 2, none⟩ = some p.1
  c3 : W.cell? ⟨b, q + 3, none⟩ = some p.2
theorem LnC.below {W W2 : World} {b q : Nat} {x : LL} {p : Value × Value} (h : LnC W b q x p) (hb : Below W.heap.size W W2) : LnC W2 b q x p :=
  ⟨cell_belowE hb h.c0, cell_belowE hb h.c1, cell_belowE hb h.c2, cell_belowE hb h.c3⟩
/-- A list of lines that is read. -/
def LnsR (W : World) (v : Value) (us : List (Value × Value)) (ls : List LL) : Prop :=
  ∃ (a : Option Addr) (cap b : Nat), v = .slice a ls.length cap ∧ (ls ≠ [] → a = some ⟨b, 0, none⟩) ∧ ls.length ≤ cap ∧ us.length = ls.length ∧ ∀ (i : Nat) x p, ls[i]? = some x → us[i]? = some p → LnC W b (i * 4) x p ∧ MksAt W p.1 (x.marks.map Mk.z) ∧ ∃ a' c', p.2 = .slice a' x.docs.length c'
theorem LnsR.below {W W2 : World} {v : Value} {us : List (Value × Value)} {ls : List LL} (h : LnsR W v us ls) (hb : Below W.heap.size W W2) : LnsR W2 v us ls := by
  obtain ⟨a, cap, b, h1, h2, h3, h4, h5⟩ := h
  exact ⟨a, cap, b, h1, h2, h3, h4, fun i x p hx hp => ⟨(h5 i x p hx hp).1.below hb, (h5 i x p hx hp).2.1.below hb, (h5 i x p hx hp).2.2⟩⟩
theorem lcells_get : ∀ (ls : List LL) (us : List (Value × Value)) (k : Nat) (x : LL) (p : Value × Value), ls[k]? = some x → us[k]? = some p → ∀ j v, (lcell x p)[j]? = some v → (lcells ls us)[k * 4 + j]? = some v
  | [], us, k, x, p, h, _, j, v, hj => by simp at h
  | y :: ls, [], k, x, p, _, h, j, v, hj => by simp at h
  | y :: ls, u :: us, 0, x, p, h, hp, j, v, hj => by
    simp at h hp; subst h; subst hp
    have hl := (List.getElem?_eq_some_iff.1 hj).1
    show (lcell y u ++ lcells ls us)[0 * 4 + j]? = some v
    rw [Nat.zero_mul, Nat.zero_add, List.getElem?_append_left hl]; exact hj
  | y :: ls, u :: us, k + 1, x, p, h, hp, j, v, hj => by
    show (lcell y u ++ lcells ls us)[(k + 1) * 4 + j]? = some v
    rw [List.getElem?_append_right (by show 4 ≤ _; omega), show (k + 1) * 4 + j - (lcell y u).length = k * 4 + j by show _ - 4 = _; omega]
    exact lcells_get ls us k x p (by simpa using h) (by simpa using hp) j v hj
theorem lns_read {W : World} {base : Nat} {v : Value} {us : List (Value × Value)} {ls : List LL} (h : LnsAt W base v us ls) : LnsR W v us ls := by
  have hmd : ∀ (i : Nat) x p, ls[i]? = some x → us[i]? = some p → MksAt W p.1 (x.marks.map Mk.z) ∧ ∃ a' c', p.2 = .slice a' x.docs.length c' := fun i x p hx hp => by
    refine ⟨mks_of_owns (h.marks i x p hx hp), ?_⟩
    rcases (h.docs i x p hx hp).2 with ⟨e, h0⟩ | ⟨g, cap, cur, e, _⟩
    · exact ⟨none, 0, by rw [e, h0]⟩
    · exact ⟨_, _, e⟩
  rcases h.own.2 with ⟨rfl, h0⟩ | ⟨g, cap, cur, rfl, hg, hgb, hcap, _⟩
  · have : ls = [] := List.eq_nil_of_length_eq_zero h0
    subst this
    exact ⟨none, 0, 0, rfl, fun h => absurd rfl h, Nat.le_refl _, h.len, fun i x p hx => by simp at hx⟩
  · refine ⟨some ⟨g, 0, none⟩, cap, g, rfl, fun _ => rfl, hcap, h.len, fun i x p hx hp => ⟨?_, hmd i x p hx hp⟩⟩
    have hi := (List.getElem?_eq_some_iff.1 hx).1
    have hc : ∀ j u, (lcell x p)[j]? = some u → W.cell? ⟨g, i * 4 + j, none⟩ = some u := fun j u hj => by
      have hj2 : j < 4 := (List.getElem?_eq_some_iff.1 hj).1
      rw [h.own.cellAt (i * 4 + j) (by omega)]
      exact lcells_get ls us i x p hx hp j u hj
    exact ⟨hc 0 _ rfl, hc 1 _ rfl, hc 2 _ rfl, hc 3 _ rfl⟩
theorem lines_ok (s : ByteArray) (ec : UInt8) (ls : List LL) (h : lexL (un s) = .ok (ec, ls)) (w : World) (hT : Tabs w) (hE : ErrType w) : Calls Tryz.prog 6 #[.string s] w fun e w' => ∃ v us, e = .returned (.tuple #[.int .u8 ec.toNat, v, .nilIface]) ∧ LnsAt w' w.heap.size v us ls ∧ Below w.heap.size w w' := by
  refine (lines_p s w hT hE).mono ?_
  rintro e w' ⟨hb, hw⟩
  rw [h] at hw
  obtain ⟨v, us, rfl, hv⟩ := hw
  exact ⟨v, us, rfl, hv, hb⟩
theorem lines_err (s : ByteArray) (no l a : Nat) (h : lexL (un s) = .error (no, l, a)) (w : World) (hT : Tabs w) (hE : ErrType w) : Calls Tryz.prog 6 #[.string s] w fun e w' => e = .returned (.tuple #[.int .u8 0, nilS, fltV no l a]) ∧ Below w.heap.size w w' := by
  refine (lines_p s w hT hE).mono ?_
  rintro e w' ⟨hb, hw⟩
  rw [h] at hw
  exact ⟨hw, hb⟩
abbrev kL : ByteArray := ⟨#[65, 32, 92, 10, 98, 10]⟩
abbrev kD : ByteArray := ⟨#[67, 79, 80, 89, 32, 60, 60, 69, 32, 100, 10]⟩
theorem known_l : lexL (un kL) = .ok (92, [⟨1, [65, 32, 98], [⟨0, 1, 1⟩, ⟨2, 2, 1⟩], []⟩]) := by kernel_rfl
theorem known_d : lexL (un kD) = .error (26, 1, 6) := by kernel_rfl
set_option maxRecDepth 100000 in
set_option maxHeartbeats 1000000 in
theorem works_l (w : World) (hT : Tabs w) (hE : ErrType w) : Calls Tryz.prog 4 #[] w fun e w' => e = .returned (.bool true) ∧ Below w.heap.size w w' := by
  have hA := lines_ok kL _ _ known_l w hT hE
  go_enter Tryz.func4, Tryz.ntmps4
  go_wp2_with fail
  refine hA.mono ?_
  rintro e w1 ⟨v, us, rfl, hv, b1⟩
  have hB := lines_err kD _ _ _ known_d w1 (hT.below b1) (hE.belowE b1)
  go_wp2_with fail
  refine hB.mono ?_
  rintro e w2 ⟨rfl, b2⟩
  have B2 := below_join b1 b2
  obtain ⟨a, cap, b, rfl, ha, hcap, hul, hx⟩ := (lns_read hv).below b2
  obtain rfl := ha (by simp)
  obtain ⟨p, hp⟩ : ∃ p, us[0]? = some p := by
    cases us with
    | nil => simp at hul
    | cons p us => exact ⟨p, rfl⟩
  have k1 : w2.cell? ⟨b, 1, none⟩ = some (.string ⟨#[65, 32, 98]⟩) := (hx 0 _ p rfl hp).1.c1
  have hAt := at_p 26 1 6 (by decide) (by decide) w2 (hE.belowE B2)
  clear hA hB hv hx hp
  go_wp2_with (go_at_call 8; refine hAt.mono ?_; rintro e w3 ⟨rfl, b3⟩)
  go_ret
  exact ⟨rfl, below_join B2 b3⟩
end Go.Proofs.YtjgijbeedgggdabGreatDoor

namespace Go.Proofs.YtjgijbeedgggdabGreatDoor
open Go Go.RowKit

structure DcC (W : World) (b q : Nat) (d : Dc) : Prop where
  c0 : W.cell? ⟨b, q, none⟩ = some (.string (bs d.name))
  c1 : W.cell? ⟨b, q + 1, none⟩ = some (.bool d.raw)
  c2 : W.cell? ⟨b, q + 2, none⟩ = some (.int .i64 d.line)
  c3 : W.cell? ⟨b, q + 3, none⟩ = some (.string (bs d.text))
theorem DcC.below {W W2 : World} {b q : Nat} {d : Dc} (h : DcC W b q d) (hb : Below W.heap.size W W2) : DcC W2 b q d :=
  ⟨cell_belowE hb h.c0, cell_belowE hb h.c1, cell_belowE hb h.c2, cell_belowE hb h.c3⟩
/-- A list of documents. -/
def DcsAt (W : World) (v : Value) (ds : List Dc) : Prop :=
  ∃ (a : Option Addr) (cap b o : Nat), v = .slice a ds.length cap ∧ (ds ≠ [] → a = some ⟨b, o, none⟩) ∧ ds.length ≤ cap ∧ ∀ i d, ds[i]? = some d → DcC W b (o + i * 4) d
theorem DcsAt.below {W W2 : World} {v : Value} {ds : List Dc} (h : DcsAt W v ds) (hb : Below W.heap.size W W2) : DcsAt W2 v ds := by
  obtain ⟨a, cap, b, o, h1, h2, h3, h4⟩ := h
  exact ⟨a, cap, b, o, h1, h2, h3, fun i e he => (h4 i e he).below hb⟩
theorem dcells_get : ∀ (es : List Dc) (k : Nat) (e : Dc), es[k]? = some e → ∀ j v, (dcs e)[j]? = some v → (dcells es)[k * 4 + j]? = some v
  | [], k, e, h, j, v, hj => by simp at h
  | x :: es, 0, e, h, j, v, hj => by
    simp at h; subst h
    have hl := (List.getElem?_eq_some_iff.1 hj).1
    show (dcs x ++ dcells es)[0 * 4 + j]? = some v
    rw [Nat.zero_mul, Nat.zero_add, List.getElem?_append_left hl]; exact hj
  | x :: es, k + 1, e, h, j, v, hj => by
    show (dcs x ++ dcells es)[(k + 1) * 4 + j]? = some v
    rw [List.getElem?_append_right (by show 4 ≤ _; omega), show (k + 1) * 4 + j - (dcs x).length = k * 4 + j by show _ - 4 = _; omega]
    exact dcells_get es k e (by simpa using h) j v hj
theorem dcs_of_owns {W : World} {base : Nat} {v : Value} {ds : List Dc} (h : W.ownsRow base 37 4 v ds.length (dcells ds)) : DcsAt W v ds := by
  rcases h.2 with ⟨rfl, h0⟩ | ⟨g, cap, cur, rfl, hg, hgb, hcap, _⟩
  · have : ds = [] := List.eq_nil_of_length_eq_zero h0
    subst this
    exact ⟨none, 0, 0, 0, rfl, fun h => absurd rfl h, Nat.le_refl _, fun i e he => by simp at he⟩
  · refine ⟨some ⟨g, 0, none⟩, cap, g, 0, rfl, fun _ => rfl, hcap, fun i e he => ?_⟩
    have hi := (List.getElem?_eq_some_iff.1 he).1
    have hc : ∀ j v, (dcs e)[j]? = some v → W.cell? ⟨g, 0 + i * 4 + j, none⟩ = some v := fun j v hj => by
      have hj2 : j < 4 := (List.getElem?_eq_some_iff.1 hj).1
      rw [Nat.zero_add, h.cellAt (i * 4 + j) (by omega)]
      exact dcells_get ds i e he j v hj
    exact ⟨hc 0 _ rfl, hc 1 _ rfl, hc 2 _ rfl, hc 3 _ rfl⟩
/-- A list of lines that is read, with its documents. -/
def LnsQ (W : World) (v : Value) (ls : List LL) : Prop :=
  ∃ (a : Option Addr) (cap b : Nat), v = .slice a ls.length cap ∧ (ls ≠ [] → a = some ⟨b, 0, none⟩) ∧ ls.length ≤ cap ∧ ∀ (i : Nat) x, ls[i]? = some x → ∃ p, LnC W b (i * 4) x p ∧ MksAt W p.1 (x.marks.map Mk.z) ∧ DcsAt W p.2 x.docs
theorem LnsQ.below {W W2 : World} {v : Value} {ls : List LL} (h : LnsQ W v ls) (hb : Below W.heap.size W W2) : LnsQ W2 v ls := by
  obtain ⟨a, cap, b, h1, h2, h3, h5⟩ := h
  exact ⟨a, cap, b, h1, h2, h3, fun i x hx => by obtain ⟨p, q1, q2, q3⟩ := h5 i x hx; exact ⟨p, q1.below hb, q2.below hb, q3.below hb⟩⟩
theorem lns_q {W : World} {base : Nat} {v : Value} {us : List (Value × Value)} {ls : List LL} (h : LnsAt W base v us ls) : LnsQ W v ls := by
  obtain ⟨a, cap, b, h1, h2, h3, h4, h5⟩ := lns_read h
  refine ⟨a, cap, b, h1, h2, h3, fun i x hx => ?_⟩
  have hlt := (List.getElem?_eq_some_iff.1 hx).1
  obtain ⟨p, hp⟩ : ∃ p, us[i]? = some p := ⟨_, List.getElem?_eq_getElem (by omega)⟩
  exact ⟨p, (h5 i x p hx hp).1, (h5 i x p hx hp).2.1, dcs_of_owns (h.docs i x p hx hp)⟩
end Go.Proofs.YtjgijbeedgggdabGreatDoor

namespace Go.Proofs.YtjgijbeedgggdabGreatDoor
open Go Go.RowKit

theorem str_beq (a b : ByteArray) : (a.toList == b.toList) = decide (a = b) := by
  by_cases h : a = b
  · subst h; simp
  · rw [decide_eq_false h, beq_eq_false_iff_ne]
    intro e
    exact h (un_inj (by rw [← toList_un, ← toList_un]; exact e))
theorem open_plain (n : Ln) (b : UInt8) (h : n[0]? = some b) (h1 : b ≠ 45) (h2 : b ≠ 34) (h3 : b ≠ 39) : (openL ([60, 60] ++ n)).1 = n := by
  rw [openL_eq]
  have e : ([60, 60] ++ n : Ln).drop 2 = n := rfl
  rw [e]
  have ht : tabB n = false := by unfold tabB; rw [h]; simp [h1]
  have hq : qtB n = false := by unfold qtB; rw [h]; simp [h2, h3]
  rw [ht, if_neg (by decide)]
  unfold bodyN
  rw [hq, if_neg (by decide)]
theorem open_nil : nameL (openL ([60, 60] ++ [])).1 = false := by decide
theorem docs_text (n t : Ln) : [67, 79, 80, 89, 32, 60, 60] ++ n ++ [32, 100, 10] ++ t ++ n ++ [10, 67, 77, 68, 32, 120, 10] = copyC n ++ 10 :: (t ++ (n ++ 10 :: (cmdC ++ [10]))) := by
  simp [copyC, cmdC]

theorem len_le_fileB (g : List Ln) : g.length ≤ (fileL g).length := by
  induction g with
  | nil => simp
  | cons x g ih => simp [fileL] at ih ⊢; omega
theorem file_cut_lenB (s : Ln) : (fileL (cutL s)).length ≤ s.length + 1 := by
  have := file_length s []
  simpa [cutL] using this
set_option maxRecDepth 100000 in
set_option maxHeartbeats 8000000 in
theorem lexdocs_law (nm tx : ByteArray) (w : World) (hT : Tabs w) (hE : ErrType w) : Calls Tryz.prog 3 #[.string nm, .string tx] w fun e w' => e = .returned (.bool true) ∧ Below w.heap.size w w' := by
  have hWk : ∀ W, Below w.heap.size w W → Calls Tryz.prog 4 #[] W fun e w' => e = .returned (.bool true) ∧ Below W.heap.size W w' := fun W hW => works_l W (hT.below hW) (hE.belowE hW)
  have h1 := hWk w (Below.refl _ _)
  by_cases hn : 200 < nm.size
  · have d1 : (200 : Int) < (nm.size : Int) := by omega
    go_enter Tryz.func3, Tryz.ntmps3
    go_wp2_with (go_at_call 4; refine h1.mono ?_; rintro e w4 ⟨rfl, b4⟩)
    go_ret
    exact ⟨rfl, b4⟩
  · have d1 : ¬ (200 : Int) < (nm.size : Int) := by omega
    by_cases ht : 50000 < tx.size
    · have d2 : (50000 : Int) < (tx.size : Int) := by omega
      go_enter Tryz.func3, Tryz.ntmps3
      go_wp2_with (go_at_call 4; refine h1.mono ?_; rintro e w4 ⟨rfl, b4⟩)
      go_ret
      exact ⟨rfl, b4⟩
    · have d2 : ¬ (50000 : Int) < (tx.size : Int) := by omega
      by_cases h0 : tx.size = 0
      · have hu0 : un tx = [] := List.eq_nil_of_length_eq_zero (by rw [un_length]; exact h0)
        have n0 : (tx.toList == []) = true := by rw [toList_un, hu0]; rfl
        have n1 : (tx.toList != (⟨#[]⟩ : ByteArray).toList) = false := by rw [bne, toList_un, toList_un, hu0]; rfl
        have n2 : tx.toList.isEmpty = true := by rw [toList_un, hu0]; rfl
        obtain ⟨Tt, hTt⟩ : ∃ Tt, Tt = tx := ⟨_, rfl⟩
        subst hTt
        have HT : Hid (un Tt = [] ∨ (un Tt).getLast? = some 10) := .inl hu0
        have hTs : Tt.size ≤ 50001 := by omega
        clear hu0 h0
        go_enter Tryz.func3, Tryz.ntmps3
        have hC := cut_r Tt w (by omega)
        go_wp2_with fail
        refine hC.mono ?_
        rintro e w1 ⟨vf, rfl, hown, b1⟩
        have HF : Hid (TextsAt w1 vf ((cutL (un Tt)).map bs)) := TextsAt.own (by rw [List.length_map]; exact hown)
        have hfl0 : (cutL (un Tt)).length ≤ 1000000 := by
          have h1 : (cutL (un Tt)).length ≤ (fileL (cutL (un Tt))).length := len_le_fileB _
          have h2 := file_cut_lenB (un Tt)
          rw [un_length] at h2; omega
        clear hC hown
        obtain ⟨fa, fc, hvf, _, hfx⟩ := HF.out
        rw [List.length_map] at hvf
        subst hvf
        have HFX : Hid (∀ (L : Nat) (y : Ln), (cutL (un Tt))[L]? = some y → ∃ fb fo, fa = some ⟨fb, fo, none⟩ ∧ w1.cell? ⟨fb, fo + L, none⟩ = some (.string (bs y))) := fun L y hy => hfx L (bs y) (by rw [List.getElem?_map, hy]; rfl)
        clear HF hfx
        generalize hfl : (cutL (un Tt)).length = fl at *
        go_wp2_with fail
        go_loopw [7] (fun v7 wr => ∃ i : Nat, v7 = .int .i64 i ∧ i ≤ fl ∧ Hid (∀ j y, j < i → (cutL (un Tt))[j]? = some y → bs y ≠ nm) ∧ wr = w1) (fun v7 _ => fl - (intOf v7).toNat)
        case atStart => exact ⟨0, rfl, Nat.zero_le _, (fun j y hj => absurd hj (Nat.not_lt_zero _)), rfl⟩
        case round =>
          obtain ⟨i, rfl, hi, HO, hwr⟩ := hrel
          subst hwr
          by_cases hlt : i < fl
          · obtain ⟨y, hy⟩ : ∃ y, (cutL (un Tt))[i]? = some y := ⟨_, List.getElem?_eq_getElem (by rw [hfl]; exact hlt)⟩
            obtain ⟨fb, fo, rfl, hfc⟩ := HFX.out i y hy
            have d0 : (0 : Int) ≤ (i : Int) := by omega
            have d1 : (i : Int) < (fl : Int) := by omega
            have q := str_beq (bs y) nm
            by_cases hq : bs y = nm
            · rw [decide_eq_true hq] at q
              have h2 := hWk wr b1
              clear hq hy
              go_wp2_with (go_at_call 4; refine h2.mono ?_; rintro e w4 ⟨rfl, b4⟩)
              go_ret
              exact ⟨rfl, below_join b1 b4⟩
            · rw [decide_eq_false hq] at q
              have HO2 : Hid (∀ j y, j < i + 1 → (cutL (un Tt))[j]? = some y → bs y ≠ nm) := by
                intro j y' hj hy'
                rcases Nat.lt_or_ge j i with h | h
                · exact HO.out j y' h hy'
                · obtain rfl : j = i := by omega
                  rw [hy] at hy'
                  cases hy'
                  exact hq
              clear hq hy
              go_wp2_with fail
              go_roundw
              case rel => exact ⟨i + 1, by go_num, by omega, HO2, by first | rfl | trivial⟩
              case measure => simp [intOf]; omega
          · have d1 : ¬ (i : Int) < (fl : Int) := by omega
            have HNO : Hid (un nm ∉ cutL (un Tt)) := by
              intro hm
              obtain ⟨q, hq, hqe⟩ := List.getElem_of_mem hm
              have hq2 := hq
              rw [hfl] at hq2
              exact HO.out q _ (by omega) (List.getElem?_eq_getElem hq) (by rw [hqe, bs_un])
            clear HO
            go_wp2_with fail
            go_loopw [8] (fun v8 wr2 => ∃ i : Nat, v8 = .int .i64 i ∧ i ≤ Tt.size ∧ Hid (∀ j y, j < i → (un Tt)[j]? = some y → y ≠ 13) ∧ wr2 = wr) (fun v8 _ => Tt.size - (intOf v8).toNat)
            case atStart => exact ⟨0, rfl, Nat.zero_le _, (fun j y hj => absurd hj (Nat.not_lt_zero _)), rfl⟩
            case round =>
              rename_i wz
              obtain ⟨j, rfl, hj, HR, hwr⟩ := hrel
              subst hwr
              by_cases hlt : j < Tt.size
              · have g1 : (j : Int) < (Tt.size : Int) := by omega
                have g0 : (0 : Int) ≤ (j : Int) := by omega
                obtain ⟨y, hy⟩ : ∃ y, Tt[j]'hlt = y := ⟨_, rfl⟩
                have hfy : (un Tt)[j]? = some y := by rw [un_getElem? Tt j hlt, hy]
                have q13 : ((y.toNat : Int) == 13) = decide (y = 13) := beq_b8 y 13 (by decide)
                by_cases h13 : y = 13
                · rw [decide_eq_true h13] at q13
                  have h2 := hWk wr b1
                  clear h13 hfy
                  go_wp2_with (go_at_call 4; refine h2.mono ?_; rintro e w4 ⟨rfl, b4⟩)
                  go_ret
                  exact ⟨rfl, below_join b1 b4⟩
                · rw [decide_eq_false h13] at q13
                  have HR2 : Hid (∀ k y, k < j + 1 → (un Tt)[k]? = some y → y ≠ 13) := by
                    intro k y' hk hy'
                    rcases Nat.lt_or_ge k j with h | h
                    · exact HR.out k y' h hy'
                    · obtain rfl : k = j := by omega
                      rw [hfy] at hy'
                      cases hy'
                      exact h13
                  clear h13 hfy
                  go_wp2_with fail
                  go_roundw
                  case rel => exact ⟨j + 1, by go_num, by omega, HR2, by first | rfl | trivial⟩
                  case measure => simp [intOf]; omega
              · have g1 : ¬ (j : Int) < (Tt.size : Int) := by omega
                have H13 : Hid (13 ∉ un Tt) := by
                  intro hm
                  obtain ⟨q, hq, hqe⟩ := List.getElem_of_mem hm
                  have hq2 := hq
                  rw [un_length] at hq2
                  exact HR.out q _ (by omega) (List.getElem?_eq_getElem hq) hqe
                clear HR
                obtain ⟨N1, hN1⟩ : ∃ N, (⟨#[67, 79, 80, 89, 32, 60, 60]⟩ : ByteArray) ++ nm = N := ⟨_, rfl⟩
                obtain ⟨N2, hN2⟩ : ∃ N, N1 ++ (⟨#[32, 100, 10]⟩ : ByteArray) = N := ⟨_, rfl⟩
                obtain ⟨N3, hN3⟩ : ∃ N, N2 ++ Tt = N := ⟨_, rfl⟩
                obtain ⟨N4, hN4⟩ : ∃ N, N3 ++ nm = N := ⟨_, rfl⟩
                obtain ⟨N5, hN5⟩ : ∃ N, N4 ++ (⟨#[10, 67, 77, 68, 32, 120, 10]⟩ : ByteArray) = N := ⟨_, rfl⟩
                obtain ⟨R0, hR0⟩ : ∃ N, (⟨#[60, 60]⟩ : ByteArray) ++ nm = N := ⟨_, rfl⟩
                have s1 : N1.size = 7 + nm.size := by rw [← hN1, ByteArray.size_append]; rfl
                have s2 : N2.size = N1.size + 3 := by rw [← hN2, ByteArray.size_append]; rfl
                have s3 : N3.size = N2.size + Tt.size := by rw [← hN3, ByteArray.size_append]
                have s4 : N4.size = N3.size + nm.size := by rw [← hN4, ByteArray.size_append]
                have s5 : R0.size = 2 + nm.size := by rw [← hR0, ByteArray.size_append]; rfl
                have a1 : ∀ W, (Op.stringOp .add ⟨#[67, 79, 80, 89, 32, 60, 60]⟩ nm).run Tryz.prog W = .ok (.string N1) W := fun W => by rw [← hN1]; exact run_string_add_sum W _ _ (by show 7 + _ ≤ _; omega)
                have a2 : ∀ W, (Op.stringOp .add N1 ⟨#[32, 100, 10]⟩).run Tryz.prog W = .ok (.string N2) W := fun W => by rw [← hN2]; exact run_string_add_sum W _ _ (by show _ + 3 ≤ _; omega)
                have a3 : ∀ W, (Op.stringOp .add N2 Tt).run Tryz.prog W = .ok (.string N3) W := fun W => by rw [← hN3]; exact run_string_add_sum W _ _ (by omega)
                have a4 : ∀ W, (Op.stringOp .add N3 nm).run Tryz.prog W = .ok (.string N4) W := fun W => by rw [← hN4]; exact run_string_add_sum W _ _ (by omega)
                have a5 : ∀ W, (Op.stringOp .add N4 ⟨#[10, 67, 77, 68, 32, 120, 10]⟩).run Tryz.prog W = .ok (.string N5) W := fun W => by rw [← hN5]; exact run_string_add_sum W _ _ (by show _ + 7 ≤ _; omega)
                have a6 : ∀ W, (Op.stringOp .add ⟨#[60, 60]⟩ nm).run Tryz.prog W = .ok (.string R0) W := fun W => by rw [← hR0]; exact run_string_add_sum W _ _ (by show 2 + _ ≤ _; omega)
                have HN : Hid (un N5 = copyC (un nm) ++ 10 :: (un Tt ++ (un nm ++ 10 :: (cmdC ++ [10])))) := by
                  unfold Hid
                  rw [← docs_text, ← hN5, ← hN4, ← hN3, ← hN2, ← hN1]
                  simp only [un_append]
                  rfl
                have hRu : un R0 = [60, 60] ++ un nm := by rw [← hR0, un_append]; rfl
                have hOp := fun W => opening_r R0 W (by omega) (by omega)
                rw [hRu] at hOp
                have hR0s : R0.size ≤ 1000 := by omega
                clear hN1 hN2 hN3 hN4 hN5 hR0 s1 s2 s3 s4 s5 hRu
                cases hl : lexL (un N5) with
                | error fl2 =>
                  obtain ⟨no, l, a2'⟩ := fl2
                  have h1 := lines_err N5 no l a2' hl wr (hT.below b1) (hE.belowE b1)
                  clear hl
                  generalize bs (openL ([60, 60] ++ un nm)).1 = o1 at *
                  generalize (openL ([60, 60] ++ un nm)).2.1 = o2 at *
                  generalize (openL ([60, 60] ++ un nm)).2.2 = o3 at *
                  generalize nameL (openL ([60, 60] ++ un nm)).1 = o4 at *
                  go_wp2_with fail
                  refine h1.mono ?_
                  rintro e w3 ⟨rfl, b3⟩
                  have B3 := below_join b1 b3
                  have h4 := hOp w3
                  go_wp2_with fail
                  refine h4.mono ?_
                  rintro e w4 ⟨rfl, b4⟩
                  have B4 := below_join B3 b4
                  have h5 := hWk w4 B4
                  go_wp2_with (go_at_call 4; refine h5.mono ?_; rintro e w5 ⟨rfl, b5⟩)
                  go_ret
                  exact ⟨rfl, below_join B4 b5⟩
                | ok pr =>
                  obtain ⟨ec, ls⟩ := pr
                  have h1 := lines_ok N5 ec ls hl wr (hT.below b1) (hE.belowE b1)
                  have HLX : Hid (lexL (un N5) = .ok (ec, ls)) := hl
                  clear hl
                  go_wp2_with fail
                  refine h1.mono ?_
                  rintro e w3 ⟨v, us, rfl, hv, b3⟩
                  have B3 := below_join b1 b3
                  obtain ⟨av, cv, bv, hsl, hav, hcv, hvx⟩ := lns_q hv
                  subst hsl
                  have HAV : Hid (ls ≠ [] → av = some ⟨bv, 0, none⟩) := hav
                  have HQ : Hid (∀ W, Below w3.heap.size w3 W → ∀ (i : Nat) x, ls[i]? = some x → ∃ p, LnC W bv (i * 4) x p ∧ DcsAt W p.2 x.docs) := fun W hW i x hi => by
                    obtain ⟨p, q1, _, q3⟩ := hvx i x hi
                    exact ⟨p, q1.below hW, q3.below hW⟩
                  clear h1 hv hav hvx
                  have h4 := hOp w3
                  have HNM : Hid (nameL (openL ([60, 60] ++ un nm)).1 = true → 0 < nm.size) := fun h => by
                    rcases Nat.eq_zero_or_pos nm.size with h0 | h0
                    · have : un nm = [] := List.eq_nil_of_length_eq_zero (by rw [un_length]; exact h0)
                      rw [this, open_nil] at h; cases h
                    · exact h0
                  have HPL : Hid (∀ b, (un nm)[0]? = some b → b ≠ 45 → b ≠ 34 → b ≠ 39 → nameL (openL ([60, 60] ++ un nm)).1 = true → nameL (un nm) = true) := fun b h1 h2 h3 h4 h5 => by
                    rw [open_plain (un nm) b h1 h2 h3 h4] at h5; exact h5
                  clear hOp
                  generalize bs (openL ([60, 60] ++ un nm)).1 = o1 at *
                  generalize (openL ([60, 60] ++ un nm)).2.1 = o2 at *
                  generalize (openL ([60, 60] ++ un nm)).2.2 = o3 at *
                  generalize nameL (openL ([60, 60] ++ un nm)).1 = o4 at *
                  go_wp2_with fail
                  refine h4.mono ?_
                  rintro e w4 ⟨rfl, b4⟩
                  have B4 := below_join B3 b4
                  have h5 := hWk w4 B4
                  clear h4
                  cases o4 with
                  | false =>
                    go_wp2_with (go_at_call 4; refine h5.mono ?_; rintro e w5 ⟨rfl, b5⟩)
                    go_ret
                    exact ⟨rfl, below_join B4 b5⟩
                  | true =>
                    have hz := HNM.out rfl
                    obtain ⟨x, hx⟩ : ∃ x, nm[0]'hz = x := ⟨_, rfl⟩
                    have hfx : (un nm)[0]? = some x := by rw [un_getElem? nm 0 hz, hx]
                    have g2 : (0 : Int) < (nm.size : Int) := by omega
                    have q1 : ((x.toNat : Int) == 45) = decide (x = 45) := beq_b8 x 45 (by decide)
                    have q2 : ((x.toNat : Int) == 34) = decide (x = 34) := beq_b8 x 34 (by decide)
                    have q3 : ((x.toNat : Int) == 39) = decide (x = 39) := beq_b8 x 39 (by decide)
                    by_cases hbad : x = 45 ∨ x = 34 ∨ x = 39
                    · have hb : (decide (x = 45) || decide (x = 34) || decide (x = 39)) = true := by simpa [or_assoc] using hbad
                      clear hbad hfx
                      generalize decide (x = 45) = m1 at *
                      generalize decide (x = 34) = m2 at *
                      generalize decide (x = 39) = m3 at *
                      cases m1 <;> cases m2 <;> cases m3 <;> simp at hb
                      all_goals
                        go_wp2_with (go_at_call 4; refine h5.mono ?_; rintro e w5 ⟨rfl, b5⟩)
                        go_ret
                        exact ⟨rfl, below_join B4 b5⟩
                    · have e1 : x ≠ 45 := fun h => hbad (.inl h)
                      have e2 : x ≠ 34 := fun h => hbad (.inr (.inl h))
                      have e3 : x ≠ 39 := fun h => hbad (.inr (.inr h))
                      rw [decide_eq_false e1] at q1
                      rw [decide_eq_false e2] at q2
                      rw [decide_eq_false e3] at q3
                      have hnm := HPL.out x hfx e1 e2 e3 rfl
                      have hlx := HLX.out
                      rw [HN.out] at hlx
                      obtain ⟨m1, m2, i2, hls⟩ := lex_docs (un nm) (un Tt) hnm H13.out HT.out HNO.out ec ls hlx
                      subst hls
                      obtain rfl := HAV.out (by simp)
                      obtain ⟨p0, p1, p3⟩ := HQ.out w4 b4 0 _ rfl
                      obtain ⟨r0, r1, _⟩ := HQ.out w4 b4 1 _ rfl
                      have c3 := p1.c3
                      have c1 := r1.c1
                      obtain ⟨da, dcap, db, dof, hd1, hd2, hd3, hd4⟩ := p3
                      obtain rfl := hd2 (by simp)
                      have k0 := (hd4 0 _ rfl).c0
                      have k1 := (hd4 0 _ rfl).c1
                      have k3 := (hd4 0 _ rfl).c3
                      simp only [bs_un] at k0 k3
                      rw [hd1] at c3
                      simp only [List.length_cons, List.length_nil, Nat.zero_mul, Nat.zero_add, Nat.one_mul, Nat.add_zero, Nat.reduceAdd] at c3 c1 k0 k1 k3 hcv hd3
                      replace c1 : w4.cell? ⟨bv, 5, none⟩ = some (.string ⟨#[67, 77, 68, 32, 120]⟩) := c1
                      clear hd4 hlx hnm hfx e1 e2 e3 hbad hd1 hd2 p1 r1
                      go_wp2_with (go_at_call 4; refine h5.mono ?_; rintro e w5 ⟨rfl, b5⟩)
                      go_ret
                      exact ⟨rfl, below_join B4 b5⟩
      · have hz0 : 0 < tx.size := by omega
        have n1 : tx.toList.isEmpty = false := (isEmpty_false tx).2 hz0
        have n2 : (tx.toList == (⟨#[]⟩ : ByteArray).toList) = false := by
          cases hq : tx.toList with
          | nil => rw [hq] at n1; cases n1
          | cons _ _ => rw [toList_un (⟨#[]⟩ : ByteArray)]; rfl
        have n3 : (tx.toList == []) = false := by
          cases hq : tx.toList with
          | nil => rw [hq] at n1; cases n1
          | cons _ _ => rfl
        have n4 : (tx.toList != (⟨#[]⟩ : ByteArray).toList) = true := by rw [bne, n2]; rfl
        have j1 : tx.size - 1 < tx.size := by omega
        obtain ⟨z, hz⟩ : ∃ z, tx[tx.size - 1]'j1 = z := ⟨_, rfl⟩
        have hz2 : ∀ h, tx[((tx.size : Int) - 1).toNat]'h = z := fun h => by simp only [show ((tx.size : Int) - 1).toNat = tx.size - 1 by omega]; exact hz
        have hfz : (un tx).getLast? = some z := by
          rw [List.getLast?_eq_getElem?, un_length, un_getElem? tx (tx.size - 1) j1, hz]
        have k1 : (0 : Int) ≤ (tx.size : Int) - 1 := by omega
        have k2 : (tx.size : Int) - 1 < (tx.size : Int) := by omega
        have k3 : IntKind.i64.wrap ((tx.size : Int) - 1) = (tx.size : Int) - 1 := wrap_small _ (by omega) (by omega)
        have q0 : ((z.toNat : Int) == 10) = decide (z = 10) := beq_b8 z 10 (by decide)
        by_cases hz10 : z = 10
        · rw [decide_eq_true hz10] at q0
          have q0b : ((z.toNat : Int) != 10) = false := by rw [bne, q0]; rfl
          obtain ⟨Tt, hTt⟩ : ∃ Tt, Tt = tx := ⟨_, rfl⟩
          subst hTt
          have HT : Hid (un Tt = [] ∨ (un Tt).getLast? = some 10) := .inr (by rw [hfz, hz10])
          have hTs : Tt.size ≤ 50001 := by omega
          clear hfz hz10 h0
          go_enter Tryz.func3, Tryz.ntmps3
          have hC := cut_r Tt w (by omega)
          go_wp2_with fail
          refine hC.mono ?_
          rintro e w1 ⟨vf, rfl, hown, b1⟩
          have HF : Hid (TextsAt w1 vf ((cutL (un Tt)).map bs)) := TextsAt.own (by rw [List.length_map]; exact hown)
          have hfl0 : (cutL (un Tt)).length ≤ 1000000 := by
            have h1 : (cutL (un Tt)).length ≤ (fileL (cutL (un Tt))).length := len_le_fileB _
            have h2 := file_cut_lenB (un Tt)
            rw [un_length] at h2; omega
          clear hC hown
          obtain ⟨fa, fc, hvf, _, hfx⟩ := HF.out
          rw [List.length_map] at hvf
          subst hvf
          have HFX : Hid (∀ (L : Nat) (y : Ln), (cutL (un Tt))[L]? = some y → ∃ fb fo, fa = some ⟨fb, fo, none⟩ ∧ w1.cell? ⟨fb, fo + L, none⟩ = some (.string (bs y))) := fun L y hy => hfx L (bs y) (by rw [List.getElem?_map, hy]; rfl)
          clear HF hfx
          generalize hfl : (cutL (un Tt)).length = fl at *
          go_wp2_with fail
          go_loopw [7] (fun v7 wr => ∃ i : Nat, v7 = .int .i64 i ∧ i ≤ fl ∧ Hid (∀ j y, j < i → (cutL (un Tt))[j]? = some y → bs y ≠ nm) ∧ wr = w1) (fun v7 _ => fl - (intOf v7).toNat)
          case atStart => exact ⟨0, rfl, Nat.zero_le _, (fun j y hj => absurd hj (Nat.not_lt_zero _)), rfl⟩
          case round =>
            obtain ⟨i, rfl, hi, HO, hwr⟩ := hrel
            subst hwr
            by_cases hlt : i < fl
            · obtain ⟨y, hy⟩ : ∃ y, (cutL (un Tt))[i]? = some y := ⟨_, List.getElem?_eq_getElem (by rw [hfl]; exact hlt)⟩
              obtain ⟨fb, fo, rfl, hfc⟩ := HFX.out i y hy
              have d0 : (0 : Int) ≤ (i : Int) := by omega
              have d1 : (i : Int) < (fl : Int) := by omega
              have q := str_beq (bs y) nm
              by_cases hq : bs y = nm
              · rw [decide_eq_true hq] at q
                have h2 := hWk wr b1
                clear hq hy
                go_wp2_with (go_at_call 4; refine h2.mono ?_; rintro e w4 ⟨rfl, b4⟩)
                go_ret
                exact ⟨rfl, below_join b1 b4⟩
              · rw [decide_eq_false hq] at q
                have HO2 : Hid (∀ j y, j < i + 1 → (cutL (un Tt))[j]? = some y → bs y ≠ nm) := by
                  intro j y' hj hy'
                  rcases Nat.lt_or_ge j i with h | h
                  · exact HO.out j y' h hy'
                  · obtain rfl : j = i := by omega
                    rw [hy] at hy'
                    cases hy'
                    exact hq
                clear hq hy
                go_wp2_with fail
                go_roundw
                case rel => exact ⟨i + 1, by go_num, by omega, HO2, by first | rfl | trivial⟩
                case measure => simp [intOf]; omega
            · have d1 : ¬ (i : Int) < (fl : Int) := by omega
              have HNO : Hid (un nm ∉ cutL (un Tt)) := by
                intro hm
                obtain ⟨q, hq, hqe⟩ := List.getElem_of_mem hm
                have hq2 := hq
                rw [hfl] at hq2
                exact HO.out q _ (by omega) (List.getElem?_eq_getElem hq) (by rw [hqe, bs_un])
              clear HO
              go_wp2_with fail
              go_loopw [8] (fun v8 wr2 => ∃ i : Nat, v8 = .int .i64 i ∧ i ≤ Tt.size ∧ Hid (∀ j y, j < i → (un Tt)[j]? = some y → y ≠ 13) ∧ wr2 = wr) (fun v8 _ => Tt.size - (intOf v8).toNat)
              case atStart => exact ⟨0, rfl, Nat.zero_le _, (fun j y hj => absurd hj (Nat.not_lt_zero _)), rfl⟩
              case round =>
                rename_i wz
                obtain ⟨j, rfl, hj, HR, hwr⟩ := hrel
                subst hwr
                by_cases hlt : j < Tt.size
                · have g1 : (j : Int) < (Tt.size : Int) := by omega
                  have g0 : (0 : Int) ≤ (j : Int) := by omega
                  obtain ⟨y, hy⟩ : ∃ y, Tt[j]'hlt = y := ⟨_, rfl⟩
                  have hfy : (un Tt)[j]? = some y := by rw [un_getElem? Tt j hlt, hy]
                  have q13 : ((y.toNat : Int) == 13) = decide (y = 13) := beq_b8 y 13 (by decide)
                  by_cases h13 : y = 13
                  · rw [decide_eq_true h13] at q13
                    have h2 := hWk wr b1
                    clear h13 hfy
                    go_wp2_with (go_at_call 4; refine h2.mono ?_; rintro e w4 ⟨rfl, b4⟩)
                    go_ret
                    exact ⟨rfl, below_join b1 b4⟩
                  · rw [decide_eq_false h13] at q13
                    have HR2 : Hid (∀ k y, k < j + 1 → (un Tt)[k]? = some y → y ≠ 13) := by
                      intro k y' hk hy'
                      rcases Nat.lt_or_ge k j with h | h
                      · exact HR.out k y' h hy'
                      · obtain rfl : k = j := by omega
                        rw [hfy] at hy'
                        cases hy'
                        exact h13
                    clear h13 hfy
                    go_wp2_with fail
                    go_roundw
                    case rel => exact ⟨j + 1, by go_num, by omega, HR2, by first | rfl | trivial⟩
                    case measure => simp [intOf]; omega
                · have g1 : ¬ (j : Int) < (Tt.size : Int) := by omega
                  have H13 : Hid (13 ∉ un Tt) := by
                    intro hm
                    obtain ⟨q, hq, hqe⟩ := List.getElem_of_mem hm
                    have hq2 := hq
                    rw [un_length] at hq2
                    exact HR.out q _ (by omega) (List.getElem?_eq_getElem hq) hqe
                  clear HR
                  obtain ⟨N1, hN1⟩ : ∃ N, (⟨#[67, 79, 80, 89, 32, 60, 60]⟩ : ByteArray) ++ nm = N := ⟨_, rfl⟩
                  obtain ⟨N2, hN2⟩ : ∃ N, N1 ++ (⟨#[32, 100, 10]⟩ : ByteArray) = N := ⟨_, rfl⟩
                  obtain ⟨N3, hN3⟩ : ∃ N, N2 ++ Tt = N := ⟨_, rfl⟩
                  obtain ⟨N4, hN4⟩ : ∃ N, N3 ++ nm = N := ⟨_, rfl⟩
                  obtain ⟨N5, hN5⟩ : ∃ N, N4 ++ (⟨#[10, 67, 77, 68, 32, 120, 10]⟩ : ByteArray) = N := ⟨_, rfl⟩
                  obtain ⟨R0, hR0⟩ : ∃ N, (⟨#[60, 60]⟩ : ByteArray) ++ nm = N := ⟨_, rfl⟩
                  have s1 : N1.size = 7 + nm.size := by rw [← hN1, ByteArray.size_append]; rfl
                  have s2 : N2.size = N1.size + 3 := by rw [← hN2, ByteArray.size_append]; rfl
                  have s3 : N3.size = N2.size + Tt.size := by rw [← hN3, ByteArray.size_append]
                  have s4 : N4.size = N3.size + nm.size := by rw [← hN4, ByteArray.size_append]
                  have s5 : R0.size = 2 + nm.size := by rw [← hR0, ByteArray.size_append]; rfl
                  have a1 : ∀ W, (Op.stringOp .add ⟨#[67, 79, 80, 89, 32, 60, 60]⟩ nm).run Tryz.prog W = .ok (.string N1) W := fun W => by rw [← hN1]; exact run_string_add_sum W _ _ (by show 7 + _ ≤ _; omega)
                  have a2 : ∀ W, (Op.stringOp .add N1 ⟨#[32, 100, 10]⟩).run Tryz.prog W = .ok (.string N2) W := fun W => by rw [← hN2]; exact run_string_add_sum W _ _ (by show _ + 3 ≤ _; omega)
                  have a3 : ∀ W, (Op.stringOp .add N2 Tt).run Tryz.prog W = .ok (.string N3) W := fun W => by rw [← hN3]; exact run_string_add_sum W _ _ (by omega)
                  have a4 : ∀ W, (Op.stringOp .add N3 nm).run Tryz.prog W = .ok (.string N4) W := fun W => by rw [← hN4]; exact run_string_add_sum W _ _ (by omega)
                  have a5 : ∀ W, (Op.stringOp .add N4 ⟨#[10, 67, 77, 68, 32, 120, 10]⟩).run Tryz.prog W = .ok (.string N5) W := fun W => by rw [← hN5]; exact run_string_add_sum W _ _ (by show _ + 7 ≤ _; omega)
                  have a6 : ∀ W, (Op.stringOp .add ⟨#[60, 60]⟩ nm).run Tryz.prog W = .ok (.string R0) W := fun W => by rw [← hR0]; exact run_string_add_sum W _ _ (by show 2 + _ ≤ _; omega)
                  have HN : Hid (un N5 = copyC (un nm) ++ 10 :: (un Tt ++ (un nm ++ 10 :: (cmdC ++ [10])))) := by
                    unfold Hid
                    rw [← docs_text, ← hN5, ← hN4, ← hN3, ← hN2, ← hN1]
                    simp only [un_append]
                    rfl
                  have hRu : un R0 = [60, 60] ++ un nm := by rw [← hR0, un_append]; rfl
                  have hOp := fun W => opening_r R0 W (by omega) (by omega)
                  rw [hRu] at hOp
                  have hR0s : R0.size ≤ 1000 := by omega
                  clear hN1 hN2 hN3 hN4 hN5 hR0 s1 s2 s3 s4 s5 hRu
                  cases hl : lexL (un N5) with
                  | error fl2 =>
                    obtain ⟨no, l, a2'⟩ := fl2
                    have h1 := lines_err N5 no l a2' hl wr (hT.below b1) (hE.belowE b1)
                    clear hl
                    generalize bs (openL ([60, 60] ++ un nm)).1 = o1 at *
                    generalize (openL ([60, 60] ++ un nm)).2.1 = o2 at *
                    generalize (openL ([60, 60] ++ un nm)).2.2 = o3 at *
                    generalize nameL (openL ([60, 60] ++ un nm)).1 = o4 at *
                    go_wp2_with fail
                    refine h1.mono ?_
                    rintro e w3 ⟨rfl, b3⟩
                    have B3 := below_join b1 b3
                    have h4 := hOp w3
                    go_wp2_with fail
                    refine h4.mono ?_
                    rintro e w4 ⟨rfl, b4⟩
                    have B4 := below_join B3 b4
                    have h5 := hWk w4 B4
                    go_wp2_with (go_at_call 4; refine h5.mono ?_; rintro e w5 ⟨rfl, b5⟩)
                    go_ret
                    exact ⟨rfl, below_join B4 b5⟩
                  | ok pr =>
                    obtain ⟨ec, ls⟩ := pr
                    have h1 := lines_ok N5 ec ls hl wr (hT.below b1) (hE.belowE b1)
                    have HLX : Hid (lexL (un N5) = .ok (ec, ls)) := hl
                    clear hl
                    go_wp2_with fail
                    refine h1.mono ?_
                    rintro e w3 ⟨v, us, rfl, hv, b3⟩
                    have B3 := below_join b1 b3
                    obtain ⟨av, cv, bv, hsl, hav, hcv, hvx⟩ := lns_q hv
                    subst hsl
                    have HAV : Hid (ls ≠ [] → av = some ⟨bv, 0, none⟩) := hav
                    have HQ : Hid (∀ W, Below w3.heap.size w3 W → ∀ (i : Nat) x, ls[i]? = some x → ∃ p, LnC W bv (i * 4) x p ∧ DcsAt W p.2 x.docs) := fun W hW i x hi => by
                      obtain ⟨p, q1, _, q3⟩ := hvx i x hi
                      exact ⟨p, q1.below hW, q3.below hW⟩
                    clear h1 hv hav hvx
                    have h4 := hOp w3
                    have HNM : Hid (nameL (openL ([60, 60] ++ un nm)).1 = true → 0 < nm.size) := fun h => by
                      rcases Nat.eq_zero_or_pos nm.size with h0 | h0
                      · have : un nm = [] := List.eq_nil_of_length_eq_zero (by rw [un_length]; exact h0)
                        rw [this, open_nil] at h; cases h
                      · exact h0
                    have HPL : Hid (∀ b, (un nm)[0]? = some b → b ≠ 45 → b ≠ 34 → b ≠ 39 → nameL (openL ([60, 60] ++ un nm)).1 = true → nameL (un nm) = true) := fun b h1 h2 h3 h4 h5 => by
                      rw [open_plain (un nm) b h1 h2 h3 h4] at h5; exact h5
                    clear hOp
                    generalize bs (openL ([60, 60] ++ un nm)).1 = o1 at *
                    generalize (openL ([60, 60] ++ un nm)).2.1 = o2 at *
                    generalize (openL ([60, 60] ++ un nm)).2.2 = o3 at *
                    generalize nameL (openL ([60, 60] ++ un nm)).1 = o4 at *
                    go_wp2_with fail
                    refine h4.mono ?_
                    rintro e w4 ⟨rfl, b4⟩
                    have B4 := below_join B3 b4
                    have h5 := hWk w4 B4
                    clear h4
                    cases o4 with
                    | false =>
                      go_wp2_with (go_at_call 4; refine h5.mono ?_; rintro e w5 ⟨rfl, b5⟩)
                      go_ret
                      exact ⟨rfl, below_join B4 b5⟩
                    | true =>
                      have hz := HNM.out rfl
                      obtain ⟨x, hx⟩ : ∃ x, nm[0]'hz = x := ⟨_, rfl⟩
                      have hfx : (un nm)[0]? = some x := by rw [un_getElem? nm 0 hz, hx]
                      have g2 : (0 : Int) < (nm.size : Int) := by omega
                      have q1 : ((x.toNat : Int) == 45) = decide (x = 45) := beq_b8 x 45 (by decide)
                      have q2 : ((x.toNat : Int) == 34) = decide (x = 34) := beq_b8 x 34 (by decide)
                      have q3 : ((x.toNat : Int) == 39) = decide (x = 39) := beq_b8 x 39 (by decide)
                      by_cases hbad : x = 45 ∨ x = 34 ∨ x = 39
                      · have hb : (decide (x = 45) || decide (x = 34) || decide (x = 39)) = true := by simpa [or_assoc] using hbad
                        clear hbad hfx
                        generalize decide (x = 45) = m1 at *
                        generalize decide (x = 34) = m2 at *
                        generalize decide (x = 39) = m3 at *
                        cases m1 <;> cases m2 <;> cases m3 <;> simp at hb
                        all_goals
                          go_wp2_with (go_at_call 4; refine h5.mono ?_; rintro e w5 ⟨rfl, b5⟩)
                          go_ret
                          exact ⟨rfl, below_join B4 b5⟩
                      · have e1 : x ≠ 45 := fun h => hbad (.inl h)
                        have e2 : x ≠ 34 := fun h => hbad (.inr (.inl h))
                        have e3 : x ≠ 39 := fun h => hbad (.inr (.inr h))
                        rw [decide_eq_false e1] at q1
                        rw [decide_eq_false e2] at q2
                        rw [decide_eq_false e3] at q3
                        have hnm := HPL.out x hfx e1 e2 e3 rfl
                        have hlx := HLX.out
                        rw [HN.out] at hlx
                        obtain ⟨m1, m2, i2, hls⟩ := lex_docs (un nm) (un Tt) hnm H13.out HT.out HNO.out ec ls hlx
                        subst hls
                        obtain rfl := HAV.out (by simp)
                        obtain ⟨p0, p1, p3⟩ := HQ.out w4 b4 0 _ rfl
                        obtain ⟨r0, r1, _⟩ := HQ.out w4 b4 1 _ rfl
                        have c3 := p1.c3
                        have c1 := r1.c1
                        obtain ⟨da, dcap, db, dof, hd1, hd2, hd3, hd4⟩ := p3
                        obtain rfl := hd2 (by simp)
                        have k0 := (hd4 0 _ rfl).c0
                        have k1 := (hd4 0 _ rfl).c1
                        have k3 := (hd4 0 _ rfl).c3
                        simp only [bs_un] at k0 k3
                        rw [hd1] at c3
                        simp only [List.length_cons, List.length_nil, Nat.zero_mul, Nat.zero_add, Nat.one_mul, Nat.add_zero, Nat.reduceAdd] at c3 c1 k0 k1 k3 hcv hd3
                        replace c1 : w4.cell? ⟨bv, 5, none⟩ = some (.string ⟨#[67, 77, 68, 32, 120]⟩) := c1
                        clear hd4 hlx hnm hfx e1 e2 e3 hbad hd1 hd2 p1 r1
                        go_wp2_with (go_at_call 4; refine h5.mono ?_; rintro e w5 ⟨rfl, b5⟩)
                        go_ret
                        exact ⟨rfl, below_join B4 b5⟩
        · rw [decide_eq_false hz10] at q0
          have q0b : ((z.toNat : Int) != 10) = true := by rw [bne, q0]; rfl
          obtain ⟨Tt, hTt⟩ : ∃ Tt, tx ++ (⟨#[10]⟩ : ByteArray) = Tt := ⟨_, rfl⟩
          have a0 : ∀ W, (Op.stringOp .add tx ⟨#[10]⟩).run Tryz.prog W = .ok (.string Tt) W := fun W => by rw [← hTt]; exact run_string_add_sum W _ _ (by show _ + 1 ≤ _; omega)
          have HT : Hid (un Tt = [] ∨ (un Tt).getLast? = some 10) := .inr (by rw [← hTt, un_append]; simp [show un (⟨#[10]⟩ : ByteArray) = [10] from rfl])
          have hTs : Tt.size ≤ 50001 := by rw [← hTt, ByteArray.size_append]; show _ + 1 ≤ _; omega
          clear hfz hz10 h0 hTt
          go_enter Tryz.func3, Tryz.ntmps3
          have hC := cut_r Tt w (by omega)
          go_wp2_with fail
          refine hC.mono ?_
          rintro e w1 ⟨vf, rfl, hown, b1⟩
          have HF : Hid (TextsAt w1 vf ((cutL (un Tt)).map bs)) := TextsAt.own (by rw [List.length_map]; exact hown)
          have hfl0 : (cutL (un Tt)).length ≤ 1000000 := by
            have h1 : (cutL (un Tt)).length ≤ (fileL (cutL (un Tt))).length := len_le_fileB _
            have h2 := file_cut_lenB (un Tt)
            rw [un_length] at h2; omega
          clear hC hown
          obtain ⟨fa, fc, hvf, _, hfx⟩ := HF.out
          rw [List.length_map] at hvf
          subst hvf
          have HFX : Hid (∀ (L : Nat) (y : Ln), (cutL (un Tt))[L]? = some y → ∃ fb fo, fa = some ⟨fb, fo, none⟩ ∧ w1.cell? ⟨fb, fo + L, none⟩ = some (.string (bs y))) := fun L y hy => hfx L (bs y) (by rw [List.getElem?_map, hy]; rfl)
          clear HF hfx
          generalize hfl : (cutL (un Tt)).length = fl at *
          go_wp2_with fail
          go_loopw [7] (fun v7 wr => ∃ i : Nat, v7 = .int .i64 i ∧ i ≤ fl ∧ Hid (∀ j y, j < i → (cutL (un Tt))[j]? = some y → bs y ≠ nm) ∧ wr = w1) (fun v7 _ => fl - (intOf v7).toNat)
          case atStart => exact ⟨0, rfl, Nat.zero_le _, (fun j y hj => absurd hj (Nat.not_lt_zero _)), rfl⟩
          case round =>
            obtain ⟨i, rfl, hi, HO, hwr⟩ := hrel
            subst hwr
            by_cases hlt : i < fl
            · obtain ⟨y, hy⟩ : ∃ y, (cutL (un Tt))[i]? = some y := ⟨_, List.getElem?_eq_getElem (by rw [hfl]; exact hlt)⟩
              obtain ⟨fb, fo, rfl, hfc⟩ := HFX.out i y hy
              have d0 : (0 : Int) ≤ (i : Int) := by omega
              have d1 : (i : Int) < (fl : Int) := by omega
              have q := str_beq (bs y) nm
              by_cases hq : bs y = nm
              · rw [decide_eq_true hq] at q
                have h2 := hWk wr b1
                clear hq hy
                go_wp2_with (go_at_call 4; refine h2.mono ?_; rintro e w4 ⟨rfl, b4⟩)
                go_ret
                exact ⟨rfl, below_join b1 b4⟩
              · rw [decide_eq_false hq] at q
                have HO2 : Hid (∀ j y, j < i + 1 → (cutL (un Tt))[j]? = some y → bs y ≠ nm) := by
                  intro j y' hj hy'
                  rcases Nat.lt_or_ge j i with h | h
                  · exact HO.out j y' h hy'
                  · obtain rfl : j = i := by omega
                    rw [hy] at hy'
                    cases hy'
                    exact hq
                clear hq hy
                go_wp2_with fail
                go_roundw
                case rel => exact ⟨i + 1, by go_num, by omega, HO2, by first | rfl | trivial⟩
                case measure => simp [intOf]; omega
            · have d1 : ¬ (i : Int) < (fl : Int) := by omega
              have HNO : Hid (un nm ∉ cutL (un Tt)) := by
                intro hm
                obtain ⟨q, hq, hqe⟩ := List.getElem_of_mem hm
                have hq2 := hq
                rw [hfl] at hq2
                exact HO.out q _ (by omega) (List.getElem?_eq_getElem hq) (by rw [hqe, bs_un])
              clear HO
              go_wp2_with fail
              go_loopw [8] (fun v8 wr2 => ∃ i : Nat, v8 = .int .i64 i ∧ i ≤ Tt.size ∧ Hid (∀ j y, j < i → (un Tt)[j]? = some y → y ≠ 13) ∧ wr2 = wr) (fun v8 _ => Tt.size - (intOf v8).toNat)
              case atStart => exact ⟨0, rfl, Nat.zero_le _, (fun j y hj => absurd hj (Nat.not_lt_zero _)), rfl⟩
              case round =>
                rename_i wz
                obtain ⟨j, rfl, hj, HR, hwr⟩ := hrel
                subst hwr
                by_cases hlt : j < Tt.size
                · have g1 : (j : Int) < (Tt.size : Int) := by omega
                  have g0 : (0 : Int) ≤ (j : Int) := by omega
                  obtain ⟨y, hy⟩ : ∃ y, Tt[j]'hlt = y := ⟨_, rfl⟩
                  have hfy : (un Tt)[j]? = some y := by rw [un_getElem? Tt j hlt, hy]
                  have q13 : ((y.toNat : Int) == 13) = decide (y = 13) := beq_b8 y 13 (by decide)
                  by_cases h13 : y = 13
                  · rw [decide_eq_true h13] at q13
                    have h2 := hWk wr b1
                    clear h13 hfy
                    go_wp2_with (go_at_call 4; refine h2.mono ?_; rintro e w4 ⟨rfl, b4⟩)
                    go_ret
                    exact ⟨rfl, below_join b1 b4⟩
                  · rw [decide_eq_false h13] at q13
                    have HR2 : Hid (∀ k y, k < j + 1 → (un Tt)[k]? = some y → y ≠ 13) := by
                      intro k y' hk hy'
                      rcases Nat.lt_or_ge k j with h | h
                      · exact HR.out k y' h hy'
                      · obtain rfl : k = j := by omega
                        rw [hfy] at hy'
                        cases hy'
                        exact h13
                    clear h13 hfy
                    go_wp2_with fail
                    go_roundw
                    case rel => exact ⟨j + 1, by go_num, by omega, HR2, by first | rfl | trivial⟩
                    case measure => simp [intOf]; omega
                · have g1 : ¬ (j : Int) < (Tt.size : Int) := by omega
                  have H13 : Hid (13 ∉ un Tt) := by
                    intro hm
                    obtain ⟨q, hq, hqe⟩ := List.getElem_of_mem hm
                    have hq2 := hq
                    rw [un_length] at hq2
                    exact HR.out q _ (by omega) (List.getElem?_eq_getElem hq) hqe
                  clear HR
                  obtain ⟨N1, hN1⟩ : ∃ N, (⟨#[67, 79, 80, 89, 32, 60, 60]⟩ : ByteArray) ++ nm = N := ⟨_, rfl⟩
                  obtain ⟨N2, hN2⟩ : ∃ N, N1 ++ (⟨#[32, 100, 10]⟩ : ByteArray) = N := ⟨_, rfl⟩
                  obtain ⟨N3, hN3⟩ : ∃ N, N2 ++ Tt = N := ⟨_, rfl⟩
                  obtain ⟨N4, hN4⟩ : ∃ N, N3 ++ nm = N := ⟨_, rfl⟩
                  obtain ⟨N5, hN5⟩ : ∃ N, N4 ++ (⟨#[10, 67, 77, 68, 32, 120, 10]⟩ : ByteArray) = N := ⟨_, rfl⟩
                  obtain ⟨R0, hR0⟩ : ∃ N, (⟨#[60, 60]⟩ : ByteArray) ++ nm = N := ⟨_, rfl⟩
                  have s1 : N1.size = 7 + nm.size := by rw [← hN1, ByteArray.size_append]; rfl
                  have s2 : N2.size = N1.size + 3 := by rw [← hN2, ByteArray.size_append]; rfl
                  have s3 : N3.size = N2.size + Tt.size := by rw [← hN3, ByteArray.size_append]
                  have s4 : N4.size = N3.size + nm.size := by rw [← hN4, ByteArray.size_append]
                  have s5 : R0.size = 2 + nm.size := by rw [← hR0, ByteArray.size_append]; rfl
                  have a1 : ∀ W, (Op.stringOp .add ⟨#[67, 79, 80, 89, 32, 60, 60]⟩ nm).run Tryz.prog W = .ok (.string N1) W := fun W => by rw [← hN1]; exact run_string_add_sum W _ _ (by show 7 + _ ≤ _; omega)
                  have a2 : ∀ W, (Op.stringOp .add N1 ⟨#[32, 100, 10]⟩).run Tryz.prog W = .ok (.string N2) W := fun W => by rw [← hN2]; exact run_string_add_sum W _ _ (by show _ + 3 ≤ _; omega)
                  have a3 : ∀ W, (Op.stringOp .add N2 Tt).run Tryz.prog W = .ok (.string N3) W := fun W => by rw [← hN3]; exact run_string_add_sum W _ _ (by omega)
                  have a4 : ∀ W, (Op.stringOp .add N3 nm).run Tryz.prog W = .ok (.string N4) W := fun W => by rw [← hN4]; exact run_string_add_sum W _ _ (by omega)
                  have a5 : ∀ W, (Op.stringOp .add N4 ⟨#[10, 67, 77, 68, 32, 120, 10]⟩).run Tryz.prog W = .ok (.string N5) W := fun W => by rw [← hN5]; exact run_string_add_sum W _ _ (by show _ + 7 ≤ _; omega)
                  have a6 : ∀ W, (Op.stringOp .add ⟨#[60, 60]⟩ nm).run Tryz.prog W = .ok (.string R0) W := fun W => by rw [← hR0]; exact run_string_add_sum W _ _ (by show 2 + _ ≤ _; omega)
                  have HN : Hid (un N5 = copyC (un nm) ++ 10 :: (un Tt ++ (un nm ++ 10 :: (cmdC ++ [10])))) := by
                    unfold Hid
                    rw [← docs_text, ← hN5, ← hN4, ← hN3, ← hN2, ← hN1]
                    simp only [un_append]
                    rfl
                  have hRu : un R0 = [60, 60] ++ un nm := by rw [← hR0, un_append]; rfl
                  have hOp := fun W => opening_r R0 W (by omega) (by omega)
                  rw [hRu] at hOp
                  have hR0s : R0.size ≤ 1000 := by omega
                  clear hN1 hN2 hN3 hN4 hN5 hR0 s1 s2 s3 s4 s5 hRu
                  cases hl : lexL (un N5) with
                  | error fl2 =>
                    obtain ⟨no, l, a2'⟩ := fl2
                    have h1 := lines_err N5 no l a2' hl wr (hT.below b1) (hE.belowE b1)
                    clear hl
                    generalize bs (openL ([60, 60] ++ un nm)).1 = o1 at *
                    generalize (openL ([60, 60] ++ un nm)).2.1 = o2 at *
                    generalize (openL ([60, 60] ++ un nm)).2.2 = o3 at *
                    generalize nameL (openL ([60, 60] ++ un nm)).1 = o4 at *
                    go_wp2_with fail
                    refine h1.mono ?_
                    rintro e w3 ⟨rfl, b3⟩
                    have B3 := below_join b1 b3
                    have h4 := hOp w3
                    go_wp2_with fail
                    refine h4.mono ?_
                    rintro e w4 ⟨rfl, b4⟩
                    have B4 := below_join B3 b4
                    have h5 := hWk w4 B4
                    go_wp2_with (go_at_call 4; refine h5.mono ?_; rintro e w5 ⟨rfl, b5⟩)
                    go_ret
                    exact ⟨rfl, below_join B4 b5⟩
                  | ok pr =>
                    obtain ⟨ec, ls⟩ := pr
                    have h1 := lines_ok N5 ec ls hl wr (hT.below b1) (hE.belowE b1)
                    have HLX : Hid (lexL (un N5) = .ok (ec, ls)) := hl
                    clear hl
                    go_wp2_with fail
                    refine h1.mono ?_
                    rintro e w3 ⟨v, us, rfl, hv, b3⟩
                    have B3 := below_join b1 b3
                    obtain ⟨av, cv, bv, hsl, hav, hcv, hvx⟩ := lns_q hv
                    subst hsl
                    have HAV : Hid (ls ≠ [] → av = some ⟨bv, 0, none⟩) := hav
                    have HQ : Hid (∀ W, Below w3.heap.size w3 W → ∀ (i : Nat) x, ls[i]? = some x → ∃ p, LnC W bv (i * 4) x p ∧ DcsAt W p.2 x.docs) := fun W hW i x hi => by
                      obtain ⟨p, q1, _, q3⟩ := hvx i x hi
                      exact ⟨p, q1.below hW, q3.below hW⟩
                    clear h1 hv hav hvx
                    have h4 := hOp w3
                    have HNM : Hid (nameL (openL ([60, 60] ++ un nm)).1 = true → 0 < nm.size) := fun h => by
                      rcases Nat.eq_zero_or_pos nm.size with h0 | h0
                      · have : un nm = [] := List.eq_nil_of_length_eq_zero (by rw [un_length]; exact h0)
                        rw [this, open_nil] at h; cases h
                      · exact h0
                    have HPL : Hid (∀ b, (un nm)[0]? = some b → b ≠ 45 → b ≠ 34 → b ≠ 39 → nameL (openL ([60, 60] ++ un nm)).1 = true → nameL (un nm) = true) := fun b h1 h2 h3 h4 h5 => by
                      rw [open_plain (un nm) b h1 h2 h3 h4] at h5; exact h5
                    clear hOp
                    generalize bs (openL ([60, 60] ++ un nm)).1 = o1 at *
                    generalize (openL ([60, 60] ++ un nm)).2.1 = o2 at *
                    generalize (openL ([60, 60] ++ un nm)).2.2 = o3 at *
                    generalize nameL (openL ([60, 60] ++ un nm)).1 = o4 at *
                    go_wp2_with fail
                    refine h4.mono ?_
                    rintro e w4 ⟨rfl, b4⟩
                    have B4 := below_join B3 b4
                    have h5 := hWk w4 B4
                    clear h4
                    cases o4 with
                    | false =>
                      go_wp2_with (go_at_call 4; refine h5.mono ?_; rintro e w5 ⟨rfl, b5⟩)
                      go_ret
                      exact ⟨rfl, below_join B4 b5⟩
                    | true =>
                      have hz := HNM.out rfl
                      obtain ⟨x, hx⟩ : ∃ x, nm[0]'hz = x := ⟨_, rfl⟩
                      have hfx : (un nm)[0]? = some x := by rw [un_getElem? nm 0 hz, hx]
                      have g2 : (0 : Int) < (nm.size : Int) := by omega
                      have q1 : ((x.toNat : Int) == 45) = decide (x = 45) := beq_b8 x 45 (by decide)
                      have q2 : ((x.toNat : Int) == 34) = decide (x = 34) := beq_b8 x 34 (by decide)
                      have q3 : ((x.toNat : Int) == 39) = decide (x = 39) := beq_b8 x 39 (by decide)
                      by_cases hbad : x = 45 ∨ x = 34 ∨ x = 39
                      · have hb : (decide (x = 45) || decide (x = 34) || decide (x = 39)) = true := by simpa [or_assoc] using hbad
                        clear hbad hfx
                        generalize decide (x = 45) = m1 at *
                        generalize decide (x = 34) = m2 at *
                        generalize decide (x = 39) = m3 at *
                        cases m1 <;> cases m2 <;> cases m3 <;> simp at hb
                        all_goals
                          go_wp2_with (go_at_call 4; refine h5.mono ?_; rintro e w5 ⟨rfl, b5⟩)
                          go_ret
                          exact ⟨rfl, below_join B4 b5⟩
                      · have e1 : x ≠ 45 := fun h => hbad (.inl h)
                        have e2 : x ≠ 34 := fun h => hbad (.inr (.inl h))
                        have e3 : x ≠ 39 := fun h => hbad (.inr (.inr h))
                        rw [decide_eq_false e1] at q1
                        rw [decide_eq_false e2] at q2
                        rw [decide_eq_false e3] at q3
                        have hnm := HPL.out x hfx e1 e2 e3 rfl
                        have hlx := HLX.out
                        rw [HN.out] at hlx
                        obtain ⟨m1, m2, i2, hls⟩ := lex_docs (un nm) (un Tt) hnm H13.out HT.out HNO.out ec ls hlx
                        subst hls
                        obtain rfl := HAV.out (by simp)
                        obtain ⟨p0, p1, p3⟩ := HQ.out w4 b4 0 _ rfl
                        obtain ⟨r0, r1, _⟩ := HQ.out w4 b4 1 _ rfl
                        have c3 := p1.c3
                        have c1 := r1.c1
                        obtain ⟨da, dcap, db, dof, hd1, hd2, hd3, hd4⟩ := p3
                        obtain rfl := hd2 (by simp)
                        have k0 := (hd4 0 _ rfl).c0
                        have k1 := (hd4 0 _ rfl).c1
                        have k3 := (hd4 0 _ rfl).c3
                        simp only [bs_un] at k0 k3
                        rw [hd1] at c3
                        simp only [List.length_cons, List.length_nil, Nat.zero_mul, Nat.zero_add, Nat.one_mul, Nat.add_zero, Nat.reduceAdd] at c3 c1 k0 k1 k3 hcv hd3
                        replace c1 : w4.cell? ⟨bv, 5, none⟩ = some (.string ⟨#[67, 77, 68, 32, 120]⟩) := c1
                        clear hd4 hlx hnm hfx e1 e2 e3 hbad hd1 hd2 p1 r1
                        go_wp2_with (go_at_call 4; refine h5.mono ?_; rintro e w5 ⟨rfl, b5⟩)
                        go_ret
                        exact ⟨rfl, below_join B4 b5⟩
end Go.Proofs.YtjgijbeedgggdabGreatDoor

namespace Go.Proofs.YtjgijbeedgggdabGreatDoor.fnLexDocs
open Go.ChangeShapes Go.WideShapes Go.ChangeAt Go.RowKit
open Go.WideMaps Go.WideElems
open Go.ChangeMaps (open_string shut_string)

abbrev listed : List (String × DataW Unit) := listedL
set_option maxRecDepth 100000 in
theorem contract (H : Type) (enc : TypeId × Value → H) (W : World) (base : Nat) (args : Array Value) (ds gs : List (DataW H)) (before : List MemPlace)
    (hval : ∀ (j : Nat) t v, Tryz.f3.params[j]? = some t → args[j]? = some v → Value.okWide Tryz.prog W .any base t v)
    (hW : DataW.Whole enc Tryz.prog Tryz.f3.params.toList Rows.lexDocsSpec.vars false W args.toList ds gs before)
    (hz : (DataW.weightsEach Tryz.prog (Tryz.f3.params.toList ++ (OpenSpec.ofChange Rows.lexDocsSpec).bare.plain.varTypes Tryz.prog) (ds ++ gs)).all (· ≤ reachBytes) = true)
    (hL : laidMetH Tryz.prog listed W) :
    Calls Tryz.prog 3 args W fun e W' => ∃ v, e = .returned v ∧ Rows.lexDocsSpec.post enc Tryz.prog Tryz.f3 false true false false W args v W' := by
  have hW' := hW
  obtain ⟨p, q, hA0, hV, rfl, hfz, hnd⟩ := hW
  have hA : DataW.TrodAll enc Tryz.prog W 0 (fun _ => true) true Tryz.f3.params.toList args.toList ds p := hA0
  rw [Tryz.params3] at hA hval
  obtain ⟨v0, vs0, d0, ds0, p0, q0, hargs, rfl, rfl, h0, r0⟩ := trodAll_cons hA
  obtain ⟨v1, vs1, d1, ds1, p1, q1, rfl, rfl, rfl, h1, r1⟩ := trodAll_cons r0
  obtain ⟨rfl, rfl, rfl⟩ := trodAll_nil r1
  obtain rfl : args = #[v0, v1] := by cases args; simp_all
  obtain ⟨rfl, rfl⟩ := trodVars_none hV
  clear hA0
  simp only [List.append_nil] at hW'
  have k0 := fun (W' : World) (hg : Below W.heap.size W W') => Below.trod (by kernel_rfl) (by kernel_rfl) (of_decide_eq_true (by kernel_rfl)) h0 hg (by obtain ⟨fu, hf⟩ := h0; exact DataW.trod_lt _ _ _ _ hf)
  obtain ⟨s0, rfl, rfl, rfl, hs0⟩ := open_string Tryz.underlying9 (hval 0 9 v0 rfl rfl) h0
  have k1 := fun (W' : World) (hg : Below W.heap.size W W') => Below.trod (by kernel_rfl) (by kernel_rfl) (of_decide_eq_true (by kernel_rfl)) h1 hg (by obtain ⟨fu, hf⟩ := h1; exact DataW.trod_lt _ _ _ _ hf)
  obtain ⟨s1, rfl, rfl, rfl, hs1⟩ := open_string Tryz.underlying9 (hval 1 9 v1 rfl rfl) h1
  have z0 : s0.size ≤ 140737488351232 := by have e := Lib.size_eq s0; have h := sized_string (j := 0) (t := 9) (bytes := s0.data.toList) hz rfl rfl; have e2 : reachBytes = 140737488351232 := rfl; omega
  have z1 : s1.size ≤ 140737488351232 := by have e := Lib.size_eq s1; have h := sized_string (j := 1) (t := 9) (bytes := s1.data.toList) hz rfl rfl; have e2 : reachBytes = 140737488351232 := rfl; omega
  refine (lexdocs_law s0 s1 W (tabs_of_laidL hL) (handle_of_laidL hL)).mono fun e W' ⟨he, hg⟩ => ?_
  subst he
  have e1 : Rows.lexDocsSpec.fn H ([.lit (.string s0.data.toList), .lit (.string s1.data.toList)] ++ []) = { results := [.lit (.bool true)], args := [.lit (.string s0.data.toList), .lit (.string s1.data.toList)] } := by simp [Rows.lexDocsSpec]
  refine ⟨_, rfl, _, _, _, [], [] ++ ([] ++ []), [], hW', ?_, ?_, ?_, hg.frame _, fun h => by cases h⟩
  · rw [e1]; exact trodAll_mk1 (shut_bool Tryz.underlying4 true)
  · rw [e1]; exact trodAll_cons_mk (k0 W' hg) (trodAll_cons_mk (k1 W' hg) trodAll_mk0)
  · rw [e1]; rfl

set_option maxRecDepth 100000 in
theorem met (os : Os) (args : Array Value) : laidMetH Tryz.prog listed ((laidWorldL os).forCall (fun _ _ => 0) ⟨#[], args, []⟩).memory :=
  metL os args
theorem reads (os : Os) {H : Type} (enc : TypeId × Value → H) : ∃ places, DataW.whole enc Tryz.prog ((laidWorldL os).forCall (fun _ _ => 0) ⟨#[], #[.string ⟨#[]⟩, .string ⟨#[]⟩], []⟩).memory Tryz.f3.params.toList Rows.lexDocsSpec.vars false #[Value.string ⟨#[]⟩, Value.string ⟨#[]⟩].toList 8 = some ([.lit (.string []), .lit (.string [])], [], places) :=
  ⟨[], by kernel_rfl⟩

set_option maxRecDepth 100000 in
theorem lifted (os : Os) (started : os.Started) (H : Type) (enc : TypeId × Value → H) (F : Stop.Interp) :
    ReturnsInHanded {} Tryz.checked os 3 .any ((OpenSpec.ofChange Rows.lexDocsSpec).preRow enc Tryz.prog Tryz.f3 Rows.lexDocsRow.domain false Rows.lexDocsRow.laid) (((OpenSpec.ofChange Rows.lexDocsSpec).at F).post enc Tryz.prog Tryz.f3 false true false false) := by
  obtain ⟨places, hx⟩ := reads os enc
  refine returnsInHanded_of_row (C := Tryz.checked) (s := OpenSpec.ofChange Rows.lexDocsSpec) own started (by kernel_rfl) Tryz.func3
    (witness_row_atRef (enc := enc) (C := Tryz.checked) false (laidWorldL os) #[.string ⟨#[]⟩, .string ⟨#[]⟩] rfl (by kernel_rfl) (by kernel_rfl) (by kernel_rfl)
      (OpenSpec.preRow_of_cond 8 hx (by kernel_rfl) (fun k hk => by cases hk) (by kernel_rfl) (met os _))) ?_
  intro W base args ds gs before hval hW _ _ hz hL _ _
  exact contract H enc W base args ds gs before hval hW hz hL

theorem said : Rows.LexDocsSaid :=
  OpenClaim.holds_of_cond 3 Tryz.f3 rfl rfl rfl rfl rfl rfl rfl ⟨rfl, rfl, rfl, rfl, rfl⟩ rfl rfl rfl rfl rfl (by kernel_rfl) Tryz.func3 (by kernel_rfl)
    (of_decide_eq_true (by kernel_rfl)) (by unfold Func.isWrapper; rw [if_neg (of_decide_eq_false (by kernel_rfl))]; exact ⟨rfl, rfl⟩)
    (fun os started H enc _ F => by rw [OpenClaim.pre_eq_preRow]; exact lifted os started H enc F)

theorem plainly (f : FuncId) (fn : Func) (hf : Tryz.pinned.checked.prog.funcNamed "strata/stratalaw14.LexDocs" = some f) (hfn : Tryz.pinned.checked.prog.funcs[f]? = some fn) :
    true = Tryz.pinned.checked.prog.looks [] ∧ ∀ (j : Nat) t, fn.params[j]? = some t → Tryz.pinned.checked.prog.wantsStandIn t = false := by
  obtain rfl : f = 3 := Option.some.inj ((show Tryz.prog.funcNamed "strata/stratalaw14.LexDocs" = some 3 by kernel_rfl).symm.trans hf) |>.symm
  obtain rfl : fn = Tryz.f3 := (Option.some.inj (Tryz.func3.symm.trans hfn)).symm
  refine ⟨by kernel_rfl, fun j t ht => ?_⟩
  rw [Tryz.params3] at ht
  have hm : t ∈ [9, 9] := by simpa using Array.mem_of_getElem? ht
  have hall : ([9, 9].all fun u => !Tryz.prog.wantsStandIn u) = true := by kernel_rfl
  exact (show Tryz.prog.wantsStandIn t = false by simpa using List.all_eq_true.1 hall t hm)

theorem card : Rows.LexDocsCardSaid :=
  Claim7.holds_tied_plain_at .later [] _ _ _ _ said (fun _ h => by cases h) (by kernel_rfl) (fun _ h => by cases h) lexDocs_row_tie rfl ⟨rfl, rfl⟩ (by kernel_rfl) rfl plainly (by kernel_rfl)
end Go.Proofs.YtjgijbeedgggdabGreatDoor.fnLexDocs
namespace Go.Proofs.YtjgijbeedgggdabGreatDoor
theorem lexDocs_card : Rows.LexDocsCardSaid := fnLexDocs.card
end Go.Proofs.YtjgijbeedgggdabGreatDoor
