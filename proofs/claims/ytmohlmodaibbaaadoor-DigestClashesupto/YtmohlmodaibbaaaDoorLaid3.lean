/- What the rows of layer 3 list, as a walk reads it; a world in which it stands; lists of texts among the arguments. -/
import Derived.Test.YtmohlmodaibbaaaDoorRows
import Derived.Test.YtmohlmodaibbaaaDoorLists
import Derived.LaidHandle
import Derived.LaidLaws
import Derived.Stop.Joined
import Derived.Lib.LaidTab
import Derived.SliceStrings
import Derived.Test.YtmohlmodaibbaaaDoorShelf
import Derived.Laws.Tables
namespace Go.Proofs.YtmohlmodaibbaaaDoor
open Go.ChangeShapes Go.WideShapes Go.RowKit

theorem own : ownKnob Tryd.prog.godebug = none := by kernel_rfl
def intsOf : DataW Unit → List Int
  | .agg ds => ds.map fun
    | .lit (.int _ n) => n
    | _ => 0
  | _ => []
/-- A listed table stands as it is listed. -/
theorem tab_of_vars {P : Program} {W : World} {name : String} {k : IntKind} {zs : List Int} {g : Nat} {t e : TypeId} {n : Nat}
    (hg : P.globalNamed name = some g) (hty : (P.globals[g]?).map (·.type) = some t) (ht : P.underlying t = some (.array n e)) (he : P.underlying e = some (.int k)) (hce : P.cellsOf e = 1) (hct : P.cellsOf t = n) :
    ∀ {l : List (String × DataW Unit)} {ps : List MemPlace}, DataW.LaidVars P W l ps → (name, Lib.tabData k zs) ∈ l → Lib.TabIs P W name k zs
  | [], _, _, hm => by cases hm
  | (m, d) :: r, ps, h, hm => by
    obtain ⟨g', t', cs, fuel, p, q, hg', ht', hvar, hd, hr, _⟩ := h
    rcases List.mem_cons.1 hm with e1 | h2
    · cases e1
      obtain rfl := Option.some.inj (hg.symm.trans hg')
      obtain rfl := Option.some.inj (hty.symm.trans ht')
      unfold Lib.TabIs
      rw [hvar, ← Lib.cells_of_tab ht he hce hct hd]
    · exact tab_of_vars hg hty ht he hce hct hr h2
theorem pow_of_vars {W : World} {l : List (String × DataW Unit)} (h : laidMet Tryd.prog l W) (hm : ("internal/strconv.uint64pow10", Rows.laid_internal_strconv_uint64pow10) ∈ l) : Lib.TabIs Tryd.prog W "internal/strconv.uint64pow10" .u64 Lib.pow10Tab := by
  obtain ⟨ps, hv, _⟩ := h
  have e : (Rows.laid_internal_strconv_uint64pow10 : DataW Unit) = Lib.tabData .u64 Lib.pow10Tab := rfl
  rw [e] at hm
  exact tab_of_vars (g := 3) (by kernel_rfl) (by kernel_rfl) Tryd.underlying91 Tryd.underlying53 (by kernel_rfl) (by kernel_rfl) hv hm

def cellsOfData : DataW Unit → Array Value
  | .agg ds => (ds.map fun
    | .lit (.int k n) => Value.int k n
    | _ => .int .i64 0).toArray
  | _ => #[]
noncomputable def laidWorld (os : Os) : World :=
  (((World.holding Tryd.prog os ⟨#[], #[], []⟩).setRow 3 (cellsOfData Rows.laid_internal_strconv_uint64pow10)).setRow 4 (cellsOfData Rows.laid_math_bits_deBruijn32tab)).setRow 5 (cellsOfData Rows.laid_math_bits_deBruijn64tab)

set_option maxRecDepth 100000 in
/-- A list of texts among the arguments: its texts, and that it is no greater than its bulk says. -/
theorem open_texts {H : Type} {enc : TypeId × Value → H} {W : World} {b0 : Nat} {v : Value} {d : DataW H} {p : List MemPlace}
    (hv : Value.okWide Tryd.prog W .any b0 22 v) (h : DataW.Trod enc Tryd.prog W 0 (fun _ => true) true 22 v d p) : ∃ l : List ByteArray, TextsAt W v l ∧ wt l + 1 ≤ Rows.uptoBulk d := by
  obtain ⟨a0, len0, cap0, rfl⟩ := okWide_slice Tryd.underlying22 hv
  obtain ⟨fuel, hf⟩ := h
  rcases open_strings Tryd.underlying22 Tryd.underlying9 (by kernel_rfl) hf with ⟨hcs, hx⟩ | ⟨a, len, cap, ss, hcs, _, hl, hm, hz, hx, hcell, _⟩
  · have e : Value.slice a0 len0 cap0 = .slice none 0 0 := by simpa [Value.cells] using hcs
    rw [e]
    have e2 : d = .nil := congrArg Prod.fst hx
    rw [e2]
    exact ⟨[], TextsAt.nil W, by simp [wt, Rows.uptoBulk]⟩
  · have e : Value.slice a0 len0 cap0 = .slice (some a) len cap := by simpa [Value.cells] using hcs
    rw [e]
    have e2 : d = .slice (ChangeShapes.strs (ss.take len)) (ChangeShapes.strs (ss.drop len)) := congrArg Prod.fst hx
    rw [if_pos rfl] at hz
    have hlen : (ss.take len).length = len := by rw [List.length_take]; omega
    refine ⟨ss.take len, ⟨some a, cap, by rw [hlen], (fun e => nomatch e), ?_⟩, ?_⟩
    · intro i x hi
      have h0 : i < len := by have := (List.getElem?_eq_some_iff.1 hi).1; omega
      have hc := hcell i (by omega)
      have hx2 : ss[i]? = some x := by rwa [List.getElem?_take, if_pos h0] at hi
      rw [List.getD_eq_getElem?_getD, hx2] at hc
      obtain ⟨b, off, spot⟩ := a
      have hc0 := hcell 0 (by omega)
      have hspot : spot = none := by simpa [Addr.add] using World.cell?_spot hc0
      subst hspot
      exact ⟨b, off, rfl, by rw [← Addr.add_mid]; exact hc⟩
    · rw [e2]
      have hb : ∀ l : List ByteArray, Rows.uptoBulkAll (ChangeShapes.strs l : List (DataW H)) = wt l := by
        intro l
        induction l with
        | nil => rfl
        | cons x l ih =>
          have e3 : (ChangeShapes.strs (x :: l) : List (DataW H)) = .lit (.string x.data.toList) :: ChangeShapes.strs l := rfl
          rw [e3, Rows.uptoBulkAll, ih, Rows.uptoBulk]
          have hw : wt (x :: l) = x.size + 1 + wt l := by simp [wt]
          have hs : x.data.toList.length = x.size := un_length x
          rw [hw, hs]
      simp only [Rows.uptoBulk, hb]; omega
end Go.Proofs.YtmohlmodaibbaaaDoor
