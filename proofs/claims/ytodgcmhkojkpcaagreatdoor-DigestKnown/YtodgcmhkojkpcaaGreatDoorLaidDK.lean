/- What DigestKnown's row lists, as a walk reads it; a world in which it stands. -/
import Derived.Test.YtodgcmhkojkpcaaGreatDoorRows
import Derived.Test.YtodgcmhkojkpcaaGreatDoorLists
import Derived.LaidHandle
import Derived.LaidLaws
import Derived.Stop.Joined
import Derived.Lib.LaidTab
import Derived.SliceStrings
import Derived.Test.YtodgcmhkojkpcaaGreatDoorShelf
import Derived.Laws.Tables
import Derived.Test.YtodgcmhkojkpcaaGreatDoorTake3
import Derived.Test.YtodgcmhkojkpcaaGreatDoorRefSum3
import Derived.Test.YtodgcmhkojkpcaaGreatDoorLay3
import Derived.Test.YtodgcmhkojkpcaaGreatDoorPlain
import Derived.Test.YtodgcmhkojkpcaaGreatDoorLawKnownD

namespace Go.Proofs.YtodgcmhkojkpcaaGreatDoor
open Go.ChangeShapes Go.WideShapes Go.RowKit

theorem own : ownKnob Tryz.prog.godebug = none := by kernel_rfl
def intsOf : DataW Unit → List Int
  | .agg ds => ds.map fun
    | .lit (.int _ n) => n
    | _ => 0
  | _ => []
/-- A listed table stands as it is listed. -/
theorem tab_of_vars {P : Program} {W : World} {name : String} {k : IntKind} {zs : List Int} {g : Nat} {t e : TypeId} {n : Nat}
    (hg : P.globalNamed name = some g) (hty : (P.globals[g]?).map (·.type) = some t) (ht : P.underlying t = some (.array n e)) (he : P.underlying e = some (.int k)) (hce : P.cellsOf e = 1) (hct : P.cellsOf t = n) :
    ∀ {l : List (String × DataW Unit)} {ps : List MemPlace}, DataW.LaidVars P W l ps → (name, Lib.tabData k zs) ∈ l → Lib.TabIs P W name k zs
  | [], _, _, hm => by cases hm
  | (m, d) :: r, ps, h, hm => by
    obtain ⟨g', t', cs, fuel, p, q, hg', ht', hvar, hd, hr, _⟩ := h
    rcases List.mem_cons.1 hm with e1 | h2
    · cases e1
      obtain rfl := Option.some.inj (hg.symm.trans hg')
      obtain rfl := Option.some.inj (hty.symm.trans ht')
      unfold Lib.TabIs
      rw [hvar, ← Lib.cells_of_tab ht he hce hct hd]
    · exact tab_of_vars hg hty ht he hce hct hr h2
theorem pow_of_vars {W : World} {l : List (String × DataW Unit)} (h : laidMet Tryz.prog l W) (hm : ("internal/strconv.uint64pow10", Rows.laid_internal_strconv_uint64pow10) ∈ l) : Lib.TabIs Tryz.prog W "internal/strconv.uint64pow10" .u64 Lib.pow10Tab := by
  obtain ⟨ps, hv, _⟩ := h
  have e : (Rows.laid_internal_strconv_uint64pow10 : DataW Unit) = Lib.tabData .u64 Lib.pow10Tab := rfl
  rw [e] at hm
  exact tab_of_vars (g := 5) (by kernel_rfl) (by kernel_rfl) Tryz.underlying156 Tryz.underlying81 (by kernel_rfl) (by kernel_rfl) hv hm

def cellsOfData : DataW Unit → Array Value
  | .agg ds => (ds.map fun
    | .lit (.int k n) => Value.int k n
    | _ => .int .i64 0).toArray
  | _ => #[]
noncomputable def laidWorld (os : Os) : World :=
  (((World.holding Tryz.prog os ⟨#[], #[], []⟩).setRow 5 (cellsOfData Rows.laid_internal_strconv_uint64pow10)).setRow 6 (cellsOfData Rows.laid_math_bits_deBruijn32tab)).setRow 7 (cellsOfData Rows.laid_math_bits_deBruijn64tab)

set_option maxRecDepth 100000 in
/-- A list of texts among the arguments: its texts, and that it is no greater than its bulk says. -/
theorem open_texts {H : Type} {enc : TypeId × Value → H} {W : World} {b0 : Nat} {v : Value} {d : DataW H} {p : List MemPlace}
    (hv : Value.okWide Tryz.prog W .any b0 29 v) (h : DataW.Trod enc Tryz.prog W 0 (fun _ => true) true 29 v d p) : ∃ l : List ByteArray, TextsAt W v l ∧ wt l + 1 ≤ Rows.uptoBulk d := by
  obtain ⟨a0, len0, cap0, rfl⟩ := okWide_slice Tryz.underlying29 hv
  obtain ⟨fuel, hf⟩ := h
  rcases open_strings Tryz.underlying29 Tryz.underlying9 (by kernel_rfl) hf with ⟨hcs, hx⟩ | ⟨a, len, cap, ss, hcs, _, hl, hm, hz, hx, hcell, _⟩
  · have e : Value.slice a0 len0 cap0 = .slice none 0 0 := by simpa [Value.cells] using hcs
    rw [e]
    have e2 : d = .nil := congrArg Prod.fst hx
    rw [e2]
    exact ⟨[], TextsAt.nil W, by simp [wt, Rows.uptoBulk]⟩
  · have e : Value.slice a0 len0 cap0 = .slice (some a) len cap := by simpa [Value.cells] using hcs
    rw [e]
    have e2 : d = .slice (ChangeShapes.strs (ss.take len)) (ChangeShapes.strs (ss.drop len)) := congrArg Prod.fst hx
    rw [if_pos rfl] at hz
    have hlen : (ss.take len).length = len := by rw [List.length_take]; omega
    refine ⟨ss.take len, ⟨some a, cap, by rw [hlen], (fun e => nomatch e), ?_⟩, ?_⟩
    · intro i x hi
      have h0 : i < len := by have := (List.getElem?_eq_some_iff.1 hi).1; omega
      have hc := hcell i (by omega)
      have hx2 : ss[i]? = some x := by rwa [List.getElem?_take, if_pos h0] at hi
      rw [List.getD_eq_getElem?_getD, hx2] at hc
      obtain ⟨b, off, spot⟩ := a
      have hc0 := hcell 0 (by omega)
      have hspot : spot = none := by simpa [Addr.add] using World.cell?_spot hc0
      subst hspot
      exact ⟨b, off, rfl, by rw [← Addr.add_mid]; exact hc⟩
    · rw [e2]
      have hb : ∀ l : List ByteArray, Rows.uptoBulkAll (ChangeShapes.strs l : List (DataW H)) = wt l := by
        intro l
        induction l with
        | nil => rfl
        | cons x l ih =>
          have e3 : (ChangeShapes.strs (x :: l) : List (DataW H)) = .lit (.string x.data.toList) :: ChangeShapes.strs l := rfl
          rw [e3, Rows.uptoBulkAll, ih, Rows.uptoBulk]
          have hw : wt (x :: l) = x.size + 1 + wt l := by simp [wt]
          have hs : x.data.toList.length = x.size := un_length x
          rw [hw, hs]
      simp only [Rows.uptoBulk, hb]; omega
end Go.Proofs.YtodgcmhkojkpcaaGreatDoor

namespace Go.Proofs.YtodgcmhkojkpcaaGreatDoor
open Go.ChangeShapes Go.WideShapes Go.RowKit

set_option maxRecDepth 100000 in
theorem k_of_vars {W : World} {l : List (String × DataW Unit)} (h : laidMet Tryz.prog l W) (hm : ("strata/digest.roundNumbers", Rows.laid_strata_digest_roundNumbers) ∈ l) : KTab W := by
  obtain ⟨ps, hv, _⟩ := h
  have e : (Rows.laid_strata_digest_roundNumbers : DataW Unit) = Lib.tabData .u32 kTab := rfl
  rw [e] at hm
  exact tab_of_vars (g := 1) (by kernel_rfl) (by kernel_rfl) Tryz.underlying110 Tryz.underlying79 (by kernel_rfl) (by kernel_rfl) hv hm
noncomputable def laidWorld4 (os : Os) : World := (laidWorld os).setRow 1 (cellsOfData Rows.laid_strata_digest_roundNumbers)
end Go.Proofs.YtodgcmhkojkpcaaGreatDoor

namespace Go.Proofs.YtodgcmhkojkpcaaGreatDoor
open Go.ChangeShapes Go.WideShapes Go.RowKit

set_option maxRecDepth 100000 in
theorem r_of_vars {W : World} {l : List (String × DataW Unit)} (h : laidMet Tryz.prog l W) (hm : ("strata/strataref03.rounds", Rows.laid_strata_strataref03_rounds) ∈ l) : RTab W := by
  obtain ⟨ps, hv, _⟩ := h
  have e : (Rows.laid_strata_strataref03_rounds : DataW Unit) = Lib.tabData .u32 kTab := rfl
  rw [e] at hm
  exact tab_of_vars (g := 2) (by kernel_rfl) (by kernel_rfl) Tryz.underlying110 Tryz.underlying79 (by kernel_rfl) (by kernel_rfl) hv hm
set_option maxRecDepth 100000 in
theorem b_of_vars {W : World} {l : List (String × DataW Unit)} (h : laidMet Tryz.prog l W) (hm : ("strata/strataref03.begin", Rows.laid_strata_strataref03_begin) ∈ l) : BTab W := by
  obtain ⟨ps, hv, _⟩ := h
  have e : (Rows.laid_strata_strataref03_begin : DataW Unit) = Lib.tabData .u32 init8 := rfl
  rw [e] at hm
  exact tab_of_vars (g := 0) (by kernel_rfl) (by kernel_rfl) Tryz.underlying80 Tryz.underlying79 (by kernel_rfl) (by kernel_rfl) hv hm
abbrev listed6 : List (String × DataW Unit) := [("math/bits.deBruijn32tab", Rows.laid_math_bits_deBruijn32tab), ("math/bits.deBruijn64tab", Rows.laid_math_bits_deBruijn64tab), ("internal/strconv.uint64pow10", Rows.laid_internal_strconv_uint64pow10), ("strata/strataref03.begin", Rows.laid_strata_strataref03_begin), ("strata/strataref03.rounds", Rows.laid_strata_strataref03_rounds), ("strata/digest.roundNumbers", Rows.laid_strata_digest_roundNumbers)]
theorem all_of_laid6 {W : World} (h : laidMet Tryz.prog listed6 W) : KTab W ∧ RTab W ∧ BTab W ∧ Pow10 W :=
  ⟨k_of_vars h (by simp), r_of_vars h (by simp), b_of_vars h (by simp), pow_of_vars h (by simp)⟩
noncomputable def laidWorld6 (os : Os) : World := ((laidWorld4 os).setRow 0 (cellsOfData Rows.laid_strata_strataref03_begin)).setRow 2 (cellsOfData Rows.laid_strata_strataref03_rounds)
end Go.Proofs.YtodgcmhkojkpcaaGreatDoor

namespace Go.Proofs.YtodgcmhkojkpcaaGreatDoor
open Go.ChangeShapes Go.WideShapes Go.RowKit

theorem l_et : Tryz.prog.globalNamed "errors.errorType" = some 3 := by kernel_rfl
theorem l_rt : (Tryz.prog.cutTypes.find? (·.1 == "internal/reflectlite.rtype")).map (·.2) = some 134 := by kernel_rfl
theorem l_oneRow : ((List.range 187).filter fun t => Tryz.prog.rowNamed t [101, 114, 114, 111, 114]) = [46] := by kernel_rfl
theorem l_size : Tryz.prog.types.size = 187 := by kernel_rfl
abbrev listedD : List (String × DataW Unit) := [("math/bits.deBruijn32tab", Rows.laid_math_bits_deBruijn32tab), ("math/bits.deBruijn64tab", Rows.laid_math_bits_deBruijn64tab), ("internal/strconv.uint64pow10", Rows.laid_internal_strconv_uint64pow10), ("strata/strataref03.begin", Rows.laid_strata_strataref03_begin), ("strata/strataref03.rounds", Rows.laid_strata_strataref03_rounds), ("errors.errorType", Rows.laid_errors_errorType), ("strata/digest.roundNumbers", Rows.laid_strata_digest_roundNumbers)]
set_option maxRecDepth 100000 in
theorem env_of_laid {W : World} (h : laidMetH Tryz.prog listedD W) : Env3 W := by
  have h2 : laidMet Tryz.prog [("math/bits.deBruijn32tab", Rows.laid_math_bits_deBruijn32tab), ("math/bits.deBruijn64tab", Rows.laid_math_bits_deBruijn64tab), ("internal/strconv.uint64pow10", Rows.laid_internal_strconv_uint64pow10), ("strata/strataref03.begin", Rows.laid_strata_strataref03_begin), ("strata/strataref03.rounds", Rows.laid_strata_strataref03_rounds), ("strata/digest.roundNumbers", Rows.laid_strata_digest_roundNumbers)] W ∧ handlesMet Tryz.prog [("errors.errorType", Rows.laid_errors_errorType)] W := h
  refine ⟨k_of_vars h2.1 (by simp), r_of_vars h2.1 (by simp), b_of_vars h2.1 (by simp), pow_of_vars h2.1 (by simp), ?_⟩
  obtain ⟨name, u, ty, e1, e2, e3, e4, e5⟩ := h2.2 _ (List.mem_singleton.2 rfl)
  have en : name = [101, 114, 114, 111, 114] := (Option.some.inj e1).symm
  subst en
  obtain rfl := Option.some.inj (l_rt.symm.trans e2)
  have hm : ty ∈ (List.range 187).filter fun t => Tryz.prog.rowNamed t [101, 114, 114, 111, 114] := List.mem_filter.2 ⟨List.mem_range.2 (by rw [← l_size]; exact e3), e4⟩
  rw [l_oneRow] at hm
  obtain rfl := List.mem_singleton.1 hm
  have hh : typeHandle Tryz.prog 46 = .pointer (some ⟨8, 46, none⟩) := by kernel_rfl
  rw [hh] at e5
  have h3 := World.var?_cell l_et e5 0
  unfold ErrType
  simpa using h3
noncomputable def laidWorldD (os : Os) : World := (laidWorld6 os).setRow 3 #[.iface 134 (.agg #[.pointer (some ⟨8, 46, none⟩)])]
end Go.Proofs.YtodgcmhkojkpcaaGreatDoor
