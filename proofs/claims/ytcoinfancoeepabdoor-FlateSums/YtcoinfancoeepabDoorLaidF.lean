/- What the rows of layer 6 list, as a walk reads it; a world in which it stands. -/
import Derived.Test.YtcoinfancoeepabDoorRows
import Derived.Test.YtcoinfancoeepabDoorCrcU
import Derived.LaidHandle
import Derived.LaidLaws
import Derived.Stop.Joined
import Derived.Lib.LaidTab
import Derived.SliceStrings
import Derived.Laws.Tables
import Derived.ChangeArms
import Derived.SizedLaws
namespace Go.Proofs.YtcoinfancoeepabDoor
open Go.ChangeShapes Go.WideShapes Go.RowKit

theorem own : ownKnob Tryd.prog.godebug = none := by kernel_rfl
/-- A listed table stands as it is listed. -/
theorem tab_of_vars {P : Program} {W : World} {name : String} {k : IntKind} {zs : List Int} {g : Nat} {t e : TypeId} {n : Nat}
    (hg : P.globalNamed name = some g) (hty : (P.globals[g]?).map (·.type) = some t) (ht : P.underlying t = some (.array n e)) (he : P.underlying e = some (.int k)) (hce : P.cellsOf e = 1) (hct : P.cellsOf t = n) :
    ∀ {l : List (String × DataW Unit)} {ps : List MemPlace}, DataW.LaidVars P W l ps → (name, Lib.tabData k zs) ∈ l → Lib.TabIs P W name k zs
  | [], _, _, hm => by cases hm
  | (m, d) :: r, ps, h, hm => by
    obtain ⟨g', t', cs, fuel, p, q, hg', ht', hvar, hd, hr, _⟩ := h
    rcases List.mem_cons.1 hm with e1 | h2
    · cases e1
      obtain rfl := Option.some.inj (hg.symm.trans hg')
      obtain rfl := Option.some.inj (hty.symm.trans ht')
      unfold Lib.TabIs
      rw [hvar, ← Lib.cells_of_tab ht he hce hct hd]
    · exact tab_of_vars hg hty ht he hce hct hr h2
abbrev listedF : List (String × DataW Unit) := [("strata/flate.lengthSpans", Rows.laid_strata_flate_lengthSpans), ("strata/flate.distanceSpans", Rows.laid_strata_flate_distanceSpans), ("strata/flate.crcSteps", Rows.laid_strata_flate_crcSteps), ("strata/flate.sizeOrder", Rows.laid_strata_flate_sizeOrder), ("strata/flate.repeatSpans", Rows.laid_strata_flate_repeatSpans)]
theorem l_crc : Tryd.prog.globalNamed "strata/flate.crcSteps" = some 0 := by kernel_rfl
def crcInts : List Int := crcTab.map Int.ofNat
set_option maxRecDepth 100000 in
theorem crc_of_laid {W : World} (h : laidMetH Tryd.prog listedF W) : CrcAt W := by
  have h2 : laidMet Tryd.prog listedF W := h
  obtain ⟨ps, hv, _⟩ := h2
  have t1 : Lib.TabIs Tryd.prog W "strata/flate.crcSteps" .u32 crcInts := tab_of_vars (g := 0) (by kernel_rfl) (by kernel_rfl) Tryd.underlying62 Tryd.underlying35 (by kernel_rfl) (by kernel_rfl) hv (show ("strata/flate.crcSteps", Lib.tabData .u32 crcInts) ∈ listedF from List.mem_cons_of_mem _ (List.mem_cons_of_mem _ List.mem_cons_self))
  intro k hk
  have hl : crcInts.length = 16 := rfl
  have c := Lib.TabIs.cell t1 l_crc k (by rw [hl]; exact hk)
  have e : ∀ k, k < 16 → crcInts.getD k 0 = ((crcTab.getD k 0 : Nat) : Int) := by decide
  rw [← e k hk]
  exact c
def numsOf : DataW Unit → List Value
  | .lit (.int k n) => [.int k n]
  | .agg ds => ds.flatMap fun
    | .lit (.int k n) => [Value.int k n]
    | .agg es => es.map fun
      | .lit (.int k n) => Value.int k n
      | _ => .int .i64 0
    | _ => []
  | _ => []
noncomputable def laidWorldF (os : Os) : World :=
  (((((World.holding Tryd.prog os ⟨#[], #[], []⟩).setRow 2 (numsOf Rows.laid_strata_flate_lengthSpans).toArray).setRow 3 (numsOf Rows.laid_strata_flate_distanceSpans).toArray).setRow 0 (numsOf Rows.laid_strata_flate_crcSteps).toArray).setRow 4 (numsOf Rows.laid_strata_flate_sizeOrder).toArray).setRow 5 (numsOf Rows.laid_strata_flate_repeatSpans).toArray
end Go.Proofs.YtcoinfancoeepabDoor
