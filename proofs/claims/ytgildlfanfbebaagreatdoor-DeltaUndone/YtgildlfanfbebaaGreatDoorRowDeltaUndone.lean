/- DeltaUndone, for every list of entries and every changes: from its walk to its row and its card. -/
import Derived.Test.YtgildlfanfbebaaGreatDoorRows
import Derived.Test.YtgildlfanfbebaaGreatDoorPlain
import Derived.LaidHandle
import Derived.LaidLaws
import Derived.Stop.Joined
import Derived.Lib.LaidTab
import Derived.SliceStrings
import Derived.Laws.Tables
import Derived.Test.YtgildlfanfbebaaGreatDoorEntW
import Derived.Deep.Slices
import Derived.Deep.Strs
import Derived.ChangeArms
import Derived.SizedLaws
import Derived.Test.YtgildlfanfbebaaGreatDoorChgW
import Derived.Test.YtgildlfanfbebaaGreatDoorWkD
import Derived.Test.YtgildlfanfbebaaGreatDoorCards
import Derived.Test.YtgildlfanfbebaaGreatDoorTie
import Derived.ProofKit
import Derived.OpenShut
import Derived.Deep.DeepHandedRow
import Derived.SevenTiedAt

namespace Go.Proofs.YtgildlfanfbebaaGreatDoor
open Go.ChangeShapes Go.WideShapes Go.RowKit

theorem own : ownKnob Tryz.prog.godebug = none := by kernel_rfl
theorem l_et : Tryz.prog.globalNamed "errors.errorType" = some 0 := by kernel_rfl
theorem l_rt : (Tryz.prog.cutTypes.find? (·.1 == "internal/reflectlite.rtype")).map (·.2) = some 157 := by kernel_rfl
theorem l_oneRow : ((List.range 252).filter fun t => Tryz.prog.rowNamed t [101, 114, 114, 111, 114]) = [30] := by kernel_rfl
theorem l_size : Tryz.prog.types.size = 252 := by kernel_rfl

abbrev listedU : List (String × DataW Unit) := [("unicode/utf8.acceptRanges", Rows.laid_unicode_utf8_acceptRanges), ("errors.errorType", Rows.laid_errors_errorType), ("unicode/utf8.first", Rows.laid_unicode_utf8_first)]
set_option maxRecDepth 100000 in
theorem handle_of_laidU {W : World} (h : laidMetH Tryz.prog listedU W) : ErrType W := by
  have h2 : laidMet Tryz.prog [("unicode/utf8.acceptRanges", Rows.laid_unicode_utf8_acceptRanges), ("unicode/utf8.first", Rows.laid_unicode_utf8_first)] W ∧ handlesMet Tryz.prog [("errors.errorType", Rows.laid_errors_errorType)] W := h
  obtain ⟨name, u, ty, e1, e2, e3, e4, e5⟩ := h2.2 _ (List.mem_singleton.2 rfl)
  have en : name = [101, 114, 114, 111, 114] := (Option.some.inj e1).symm
  subst en
  obtain rfl := Option.some.inj (l_rt.symm.trans e2)
  have hm : ty ∈ (List.range 252).filter fun t => Tryz.prog.rowNamed t [101, 114, 114, 111, 114] := List.mem_filter.2 ⟨List.mem_range.2 (by rw [← l_size]; exact e3), e4⟩
  rw [l_oneRow] at hm
  obtain rfl := List.mem_singleton.1 hm
  have hh : typeHandle Tryz.prog 30 = .pointer (some ⟨4, 30, none⟩) := by kernel_rfl
  rw [hh] at e5
  have h3 := World.var?_cell l_et e5 0
  unfold ErrType
  simpa using h3
def numsOf : DataW Unit → List Value
  | .lit (.int k n) => [.int k n]
  | .agg ds => ds.flatMap fun
    | .lit (.int k n) => [Value.int k n]
    | .agg es => es.map fun
      | .lit (.int k n) => Value.int k n
      | _ => .int .i64 0
    | _ => []
  | _ => []
noncomputable def laidWorldU (os : Os) : World :=
  (((World.holding Tryz.prog os ⟨#[], #[], []⟩).setRow 3 (numsOf Rows.laid_unicode_utf8_acceptRanges).toArray).setRow 2 (numsOf Rows.laid_unicode_utf8_first).toArray).setRow 0 #[.iface 157 (.agg #[.pointer (some ⟨4, 30, none⟩)])]
end Go.Proofs.YtgildlfanfbebaaGreatDoor

namespace Go.Proofs.YtgildlfanfbebaaGreatDoor
open Go.ChangeShapes Go.WideShapes Go.RowKit

theorem ent_size : Tryz.prog.cellsOf 52 = 5 := by kernel_rfl
theorem bulk_mem {H : Type} : ∀ {ds : List (DataW H)} {d : DataW H}, d ∈ ds → Rows.uptoBulk d ≤ Rows.uptoBulkAll ds
  | [], _, h => by cases h
  | y :: ds, d, h => by
    rw [Rows.uptoBulkAll]
    rcases List.mem_cons.1 h with rfl | h
    · omega
    · have := bulk_mem h; omega
theorem bulk_len {H : Type} : ∀ {ds : List (DataW H)}, (∀ d ∈ ds, 1 ≤ Rows.uptoBulk d) → ds.length ≤ Rows.uptoBulkAll ds
  | [], _ => by simp
  | y :: ds, h => by
    rw [Rows.uptoBulkAll, List.length_cons]
    have h1 := h y (by simp)
    have h2 := bulk_len (ds := ds) (fun d hd => h d (by simp [hd]))
    omega
set_option maxRecDepth 100000 in
/-- One entry's cells and datum. -/
theorem open_one {H : Type} {enc : TypeId × Value → H} {W : World} {n : Nat} {cs : List Value} {x : DataW H × List MemPlace} (hlen : cs.length = 5) (hf : DataW.trod enc Tryz.prog W 0 (fun _ => true) true n 52 cs = some x) :
    ∃ e : Ent, cs = ecs e ∧ x.1 = .agg [.lit (.string e.path.data.toList), .lit (.int .i64 e.kind), .lit (.int .i64 e.mode), .lit (.string e.data.data.toList), .lit (.string e.link.data.toList)] := by
  obtain ⟨xs, n, _, hx, hl, hlen2, hff⟩ := DataW.trod_struct Tryz.underlying52 hf
  obtain ⟨v0, v1, v2, v3, v4, hvs⟩ : ∃ v0 v1 v2 v3 v4, cs = [v0, v1, v2, v3, v4] := by
    match cs, hlen with
    | [v0, v1, v2, v3, v4], _ => exact ⟨v0, v1, v2, v3, v4, rfl⟩
  obtain ⟨y0, y1, y2, y3, y4, hys⟩ : ∃ y0 y1 y2 y3 y4, xs = [y0, y1, y2, y3, y4] := by
    match xs, hlen2 with
    | [y0, y1, y2, y3, y4], _ => exact ⟨y0, y1, y2, y3, y4, rfl⟩
  subst hys
  subst hvs
  have m0 : Tryz.prog.cellsOf 50 = 1 := by kernel_rfl
  have m1 : Tryz.prog.cellsOf 3 = 1 := by kernel_rfl
  have m2 : Tryz.prog.cellsOf 9 = 1 := by kernel_rfl
  have g0 : DataW.trod enc Tryz.prog W 0 (fun _ => true) true n 9 [v0] = some y0 := by
    have e : DataW.trod enc Tryz.prog W 0 (fun _ => true) true n 9 ((([v0, v1, v2, v3, v4] : List Value).drop 0).take (Tryz.prog.cellsOf 9)) = some y0 := hff 0 _ rfl
    rw [m2] at e
    exact e
  have g1 : DataW.trod enc Tryz.prog W 0 (fun _ => true) true n 50 [v1] = some y1 := by
    have e : DataW.trod enc Tryz.prog W 0 (fun _ => true) true n 50 ((([v0, v1, v2, v3, v4] : List Value).drop 1).take (Tryz.prog.cellsOf 50)) = some y1 := hff 1 _ rfl
    rw [m0] at e
    exact e
  have g2 : DataW.trod enc Tryz.prog W 0 (fun _ => true) true n 3 [v2] = some y2 := by
    have e : DataW.trod enc Tryz.prog W 0 (fun _ => true) true n 3 ((([v0, v1, v2, v3, v4] : List Value).drop 2).take (Tryz.prog.cellsOf 3)) = some y2 := hff 2 _ rfl
    rw [m1] at e
    exact e
  have g3 : DataW.trod enc Tryz.prog W 0 (fun _ => true) true n 9 [v3] = some y3 := by
    have e : DataW.trod enc Tryz.prog W 0 (fun _ => true) true n 9 ((([v0, v1, v2, v3, v4] : List Value).drop 3).take (Tryz.prog.cellsOf 9)) = some y3 := hff 3 _ rfl
    rw [m2] at e
    exact e
  have g4 : DataW.trod enc Tryz.prog W 0 (fun _ => true) true n 9 [v4] = some y4 := by
    have e : DataW.trod enc Tryz.prog W 0 (fun _ => true) true n 9 ((([v0, v1, v2, v3, v4] : List Value).drop 4).take (Tryz.prog.cellsOf 9)) = some y4 := hff 4 _ rfl
    rw [m2] at e
    exact e
  clear hff
  obtain ⟨s0, a0, b0, _⟩ := DataW.trod_string Tryz.underlying9 g0
  obtain rfl := (List.cons.inj a0).1
  subst b0
  obtain ⟨i1, a1, b1, w1⟩ := DataW.trod_int Tryz.underlying50 g1
  obtain rfl := (List.cons.inj a1).1
  subst b1
  obtain ⟨i2, a2, b2, w2⟩ := DataW.trod_int Tryz.underlying3 g2
  obtain rfl := (List.cons.inj a2).1
  subst b2
  obtain ⟨s3, a3, b3, _⟩ := DataW.trod_string Tryz.underlying9 g3
  obtain rfl := (List.cons.inj a3).1
  subst b3
  obtain ⟨s4, a4, b4, _⟩ := DataW.trod_string Tryz.underlying9 g4
  obtain rfl := (List.cons.inj a4).1
  subst b4
  exact ⟨⟨s0, i1, i2, s3, s4⟩, rfl, congrArg Prod.fst hx⟩
set_option maxRecDepth 100000 in
theorem open_ents {H : Type} {enc : TypeId × Value → H} {W : World} {b0 : Nat} {v : Value} {d : DataW H} {p : List MemPlace}
    (hv : Value.okWide Tryz.prog W .any b0 22 v) (h : DataW.Trod enc Tryz.prog W 0 (fun _ => true) true 22 v d p) : ∃ l : List Ent, EntsAt W v l ∧ l.length ≤ Rows.uptoBulk d ∧ ∀ x ∈ l, x.path.size ≤ Rows.uptoBulk d ∧ x.link.size ≤ Rows.uptoBulk d ∧ x.data.size ≤ Rows.uptoBulk d := by
  obtain ⟨a0, len0, cap0, rfl⟩ := okWide_slice Tryz.underlying22 hv
  obtain ⟨fuel, hf⟩ := h
  rcases Go.Deep.open_slice Tryz.underlying22 hf with ⟨hcs, hx⟩ | ⟨a, len, cap, m, n, D, Pl, hcs, _, hl, hm, hmm, hx, hall⟩
  · have e : Value.slice a0 len0 cap0 = .slice none 0 0 := by simpa [Value.cells] using hcs
    rw [e]
    exact ⟨[], ⟨none, 0, 0, 0, rfl, fun h => absurd rfl h, Nat.le_refl _, fun i x h => by simp at h⟩, by simp, fun x h => by cases h⟩
  · have e : Value.slice a0 len0 cap0 = .slice (some a) len cap := by simpa [Value.cells] using hcs
    rw [e]
    rw [if_pos rfl] at hmm
    have e2 : d = .slice ((List.range len).map D) ((List.range (m - len)).map fun j => D (len + j)) := congrArg Prod.fst hx
    have each : ∀ i, i < len → ∃ x : Ent, (∀ j v, (ecs x)[j]? = some v → W.cell? (a.add (i * 5 + j)) = some v) ∧ D i = .agg [.lit (.string x.path.data.toList), .lit (.int .i64 x.kind), .lit (.int .i64 x.mode), .lit (.string x.data.data.toList), .lit (.string x.link.data.toList)] := by
      intro i hi
      obtain ⟨cs', h1, h2⟩ := hall i (by omega)
      rw [ent_size] at h1
      obtain ⟨_, hlen, hcell⟩ := World.cells?_some h1
      obtain ⟨x, hxe, hxd⟩ := open_one hlen h2
      refine ⟨x, fun j v hj => ?_, hxd⟩
      have hj5 : j < 5 := (List.getElem?_eq_some_iff.1 hj).1
      have c := hcell j (by omega)
      rw [Go.Deep.add_add] at c
      rw [c]
      subst hxe
      first | exact hj | (rw [← hj]; simp) | simpa using hj
    obtain ⟨f, hfx⟩ : ∃ f : Nat → Ent, ∀ i, i < len → (∀ j v, (ecs (f i))[j]? = some v → W.cell? (a.add (i * 5 + j)) = some v) ∧ D i = .agg [.lit (.string (f i).path.data.toList), .lit (.int .i64 (f i).kind), .lit (.int .i64 (f i).mode), .lit (.string (f i).data.data.toList), .lit (.string (f i).link.data.toList)] :=
      ⟨fun i => if h : i < len then Classical.choose (each i h) else ⟨⟨#[]⟩, 0, 0, ⟨#[]⟩, ⟨#[]⟩⟩, fun i hi => by simp only [dif_pos hi]; exact Classical.choose_spec (each i hi)⟩
    have hD : ∀ i, i < len → (f i).path.size + (f i).data.size + (f i).link.size + 2 ≤ Rows.uptoBulk (D i) := fun i hi => by
      rw [(hfx i hi).2]
      have hs : (f i).path.data.toList.length = (f i).path.size := un_length _
      have hs2 : (f i).data.data.toList.length = (f i).data.size := un_length _
      have hs3 : (f i).link.data.toList.length = (f i).link.size := un_length _
      simp only [Rows.uptoBulk, Rows.uptoBulkAll, hs, hs2, hs3]
      omega
    have hmem : ∀ i, i < len → D i ∈ (List.range len).map D := fun i hi => List.mem_map_of_mem (List.mem_range.2 hi)
    have hbk : Rows.uptoBulkAll ((List.range len).map D) ≤ Rows.uptoBulk d := by rw [e2]; simp only [Rows.uptoBulk]; omega
    refine ⟨(List.range len).map f, ?_, ?_, ?_⟩
    · by_cases h0 : len = 0
      · subst h0
        exact ⟨some a, cap, 0, 0, by simp, fun h => absurd rfl h, by simp, fun i x h => by simp at h⟩
      · obtain ⟨b, off, spot⟩ := a
        have hc0 := (hfx 0 (by omega)).1 0 _ rfl
        have hspot : spot = none := by simpa [Addr.add] using World.cell?_spot hc0
        subst hspot
        refine ⟨some ⟨b, off, none⟩, cap, b, off, by simp, fun _ => rfl, by simpa using hl, fun i x hi => ?_⟩
        have h1 : i < len := by have := (List.getElem?_eq_some_iff.1 hi).1; simpa using this
        have hx2 : x = f i := by simpa [h1] using hi.symm
        subst hx2
        have hc : ∀ j v, (ecs (f i))[j]? = some v → W.cell? ⟨b, off + i * 5 + j, none⟩ = some v := fun j v hj => by
          have := (hfx i h1).1 j v hj
          rw [Addr.add_mid] at this
          rw [Nat.add_assoc]; exact this
        exact ⟨hc 0 _ rfl, hc 1 _ rfl, hc 2 _ rfl, hc 3 _ rfl, hc 4 _ rfl⟩
    · have := bulk_len (ds := (List.range len).map D) (fun y hy => by
        obtain ⟨i, hi, rfl⟩ := List.mem_map.1 hy
        have := hD i (List.mem_range.1 hi); omega)
      rw [List.length_map] at this ⊢
      omega
    · intro x hx3
      obtain ⟨i, hi, rfl⟩ := List.mem_map.1 hx3
      have h1 := hD i (List.mem_range.1 hi)
      have h2 := bulk_mem (hmem i (List.mem_range.1 hi))
      exact ⟨by omega, by omega, by omega⟩
end Go.Proofs.YtgildlfanfbebaaGreatDoor

namespace Go.Proofs.YtgildlfanfbebaaGreatDoor
open Go.ChangeShapes Go.WideShapes Go.RowKit

theorem all_weightsE {H : Type} {P : Program} {e : TypeId} (k : Nat) : ∀ (ds : List (DataW H)) (d : DataW H), d ∈ ds → k ∈ DataW.weights P e d → k ∈ DataW.weightsAll P e ds
  | [], _, h, _ => by cases h
  | y :: ds, d, h, hk => by
    rw [DataW.weightsAll, List.mem_append]
    rcases List.mem_cons.1 h with rfl | h
    · exact Or.inl hk
    · exact Or.inr (all_weightsE k ds d h hk)
theorem ent_bytes : Tryz.prog.bytesOf 52 = 64 := by kernel_rfl
def entD {H : Type} (e : Ent) : DataW H := .agg [.lit (.string e.path.data.toList), .lit (.int .i64 e.kind), .lit (.int .i64 e.mode), .lit (.string e.data.data.toList), .lit (.string e.link.data.toList)]
set_option maxRecDepth 100000 in
theorem open_ents_sized {H : Type} {enc : TypeId × Value → H} {W : World} {b0 j : Nat} {v : Value} {d : DataW H} {p : List MemPlace} {ts : List TypeId} {ds : List (DataW H)}
    (hz : (DataW.weightsEach Tryz.prog ts ds).all (· ≤ reachBytes) = true) (ht : ts[j]? = some 22) (hd : ds[j]? = some d)
    (hv : Value.okWide Tryz.prog W .any b0 22 v) (h : DataW.Trod enc Tryz.prog W 0 (fun _ => true) true 22 v d p) : ∃ l : List Ent, EntsAt W v l ∧ l.length ≤ 4611686018427387904 ∧ ∀ x ∈ l, x.path.size < 1152921504606846976 := by
  obtain ⟨a0, len0, cap0, rfl⟩ := okWide_slice Tryz.underlying22 hv
  have er : reachBytes = 140737488351232 := rfl
  obtain ⟨fuel, hf⟩ := h
  rcases Go.Deep.open_slice Tryz.underlying22 hf with ⟨hcs, hx⟩ | ⟨a, len, cap, m, n, D, Pl, hcs, _, hl, hm, hmm, hx, hall⟩
  · have e : Value.slice a0 len0 cap0 = .slice none 0 0 := by simpa [Value.cells] using hcs
    rw [e]
    exact ⟨[], ⟨none, 0, 0, 0, rfl, fun h => absurd rfl h, Nat.le_refl _, fun i x h => by simp at h⟩, by simp, fun x h => by cases h⟩
  · have e : Value.slice a0 len0 cap0 = .slice (some a) len cap := by simpa [Value.cells] using hcs
    rw [e]
    rw [if_pos rfl] at hmm
    have e2 : d = .slice ((List.range len).map D) ((List.range (m - len)).map fun j => D (len + j)) := congrArg Prod.fst hx
    rw [e2] at hd
    have each : ∀ i, i < len → ∃ s : Ent, (∀ j v, (ecs s)[j]? = some v → W.cell? (a.add (i * 5 + j)) = some v) ∧ D i = entD s := by
      intro i hi
      obtain ⟨cs', h1, h2⟩ := hall i (by omega)
      rw [ent_size] at h1
      obtain ⟨_, hlen, hcell⟩ := World.cells?_some h1
      obtain ⟨s, hxe, hxd⟩ := open_one hlen h2
      refine ⟨s, fun j v hj => ?_, hxd⟩
      have hj5 : j < 5 := (List.getElem?_eq_some_iff.1 hj).1
      have c := hcell j (by omega)
      rw [Go.Deep.add_add] at c
      rw [c]
      subst hxe
      first | exact hj | (rw [← hj]; simp) | simpa using hj
    obtain ⟨f, hfx⟩ : ∃ f : Nat → Ent, ∀ i, i < len → (∀ j v, (ecs (f i))[j]? = some v → W.cell? (a.add (i * 5 + j)) = some v) ∧ D i = entD (f i) :=
      ⟨fun i => if h : i < len then Classical.choose (each i h) else ⟨⟨#[]⟩, 0, 0, ⟨#[]⟩, ⟨#[]⟩⟩, fun i hi => by simp only [dif_pos hi]; exact Classical.choose_spec (each i hi)⟩
    have hs1 := sized_slice hz ht hd Tryz.underlying22
    rw [ent_bytes, List.length_map, List.length_map, List.length_range, List.length_range] at hs1
    refine ⟨(List.range len).map f, ?_, by rw [List.length_map, List.length_range]; omega, ?_⟩
    · by_cases h0 : len = 0
      · subst h0
        exact ⟨some a, cap, 0, 0, by simp, fun h => absurd rfl h, by simp, fun i x h => by simp at h⟩
      · obtain ⟨b, off, spot⟩ := a
        have hc0 := (hfx 0 (by omega)).1 0 _ rfl
        have hspot : spot = none := by simpa [Addr.add] using World.cell?_spot hc0
        subst hspot
        refine ⟨some ⟨b, off, none⟩, cap, b, off, by simp, fun _ => rfl, by simpa using hl, fun i x hi => ?_⟩
        have h1 : i < len := by have := (List.getElem?_eq_some_iff.1 hi).1; simpa using this
        have hx2 : x = f i := by simpa [h1] using hi.symm
        subst hx2
        have hc : ∀ j v, (ecs (f i))[j]? = some v → W.cell? ⟨b, off + i * 5 + j, none⟩ = some v := fun j v hj => by
          have := (hfx i h1).1 j v hj
          rw [Addr.add_mid] at this
          rw [Nat.add_assoc]; exact this
        exact ⟨hc 0 _ rfl, hc 1 _ rfl, hc 2 _ rfl, hc 3 _ rfl, hc 4 _ rfl⟩
    · intro x hx3
      obtain ⟨i, hi, rfl⟩ := List.mem_map.1 hx3
      have hi2 := List.mem_range.1 hi
      have wt : ∀ k, k ∈ DataW.weights Tryz.prog 52 (D i) → k ≤ reachBytes := fun k hk => by
        have hw := List.all_eq_true.1 hz _ (DataW.weights_mem_each ht hd k (by
          have h9 := all_weightsE (P := Tryz.prog) (e := 52) k ((List.range len).map D) (D i) (List.mem_map_of_mem hi) hk
          simp [DataW.weights, Tryz.underlying22, h9]))
        exact of_decide_eq_true hw
      have hs : (f i).path.data.toList.length = (f i).path.size := un_length _
      have w1 := wt (f i).path.size (by
        rw [(hfx i hi2).2]
        simp [entD, DataW.weights, DataW.weightsEach, Tryz.underlying52, hs])
      omega
end Go.Proofs.YtgildlfanfbebaaGreatDoor

namespace Go.Proofs.YtgildlfanfbebaaGreatDoor
open Go.ChangeShapes Go.WideShapes Go.RowKit

theorem chg_size : Tryz.prog.cellsOf 54 = 7 := by kernel_rfl
theorem chg_bytes : Tryz.prog.bytesOf 54 = 88 := by kernel_rfl
def chgD {H : Type} (c : Chg) : DataW H := .agg [.lit (.string c.path.data.toList), .lit (.bool c.gone), entD c.e]
set_option maxRecDepth 100000 in
/-- One change's cells and datum. -/
theorem open_oneC {H : Type} {enc : TypeId × Value → H} {W : World} {n : Nat} {cs : List Value} {x : DataW H × List MemPlace} (hlen : cs.length = 7) (hf : DataW.trod enc Tryz.prog W 0 (fun _ => true) true n 54 cs = some x) :
    ∃ c : Chg, cs = ccs c ∧ x.1 = chgD c := by
  obtain ⟨xs, n, _, hx, hl, hlen2, hff⟩ := DataW.trod_struct Tryz.underlying54 hf
  obtain ⟨v0, v1, v2, v3, v4, v5, v6, hvs⟩ : ∃ v0 v1 v2 v3 v4 v5 v6, cs = [v0, v1, v2, v3, v4, v5, v6] := by
    match cs, hlen with
    | [v0, v1, v2, v3, v4, v5, v6], _ => exact ⟨v0, v1, v2, v3, v4, v5, v6, rfl⟩
  obtain ⟨y0, y1, y2, hys⟩ : ∃ y0 y1 y2, xs = [y0, y1, y2] := by
    match xs, hlen2 with
    | [y0, y1, y2], _ => exact ⟨y0, y1, y2, rfl⟩
  subst hys
  subst hvs
  have m1 : Tryz.prog.cellsOf 4 = 1 := by kernel_rfl
  have m2 : Tryz.prog.cellsOf 9 = 1 := by kernel_rfl
  have m5 : Tryz.prog.cellsOf 52 = 5 := by kernel_rfl
  have g0 : DataW.trod enc Tryz.prog W 0 (fun _ => true) true n 9 [v0] = some y0 := by
    have e : DataW.trod enc Tryz.prog W 0 (fun _ => true) true n 9 ((([v0, v1, v2, v3, v4, v5, v6] : List Value).drop 0).take (Tryz.prog.cellsOf 9)) = some y0 := hff 0 _ rfl
    rw [m2] at e
    exact e
  have g1 : DataW.trod enc Tryz.prog W 0 (fun _ => true) true n 4 [v1] = some y1 := by
    have e : DataW.trod enc Tryz.prog W 0 (fun _ => true) true n 4 ((([v0, v1, v2, v3, v4, v5, v6] : List Value).drop 1).take (Tryz.prog.cellsOf 4)) = some y1 := hff 1 _ rfl
    rw [m1] at e
    exact e
  have g2 : DataW.trod enc Tryz.prog W 0 (fun _ => true) true n 52 [v2, v3, v4, v5, v6] = some y2 := by
    have e : DataW.trod enc Tryz.prog W 0 (fun _ => true) true n 52 ((([v0, v1, v2, v3, v4, v5, v6] : List Value).drop 2).take (Tryz.prog.cellsOf 52)) = some y2 := hff 2 _ rfl
    rw [m5] at e
    exact e
  clear hff
  obtain ⟨s0, a0, b0, _⟩ := DataW.trod_string Tryz.underlying9 g0
  obtain rfl := (List.cons.inj a0).1
  subst b0
  obtain ⟨q1, a1, b1⟩ := DataW.trod_bool Tryz.underlying4 g1
  obtain rfl := (List.cons.inj a1).1
  subst b1
  obtain ⟨e2, he2, hd2⟩ := open_one rfl g2
  refine ⟨⟨s0, q1, e2⟩, ?_, ?_⟩
  · show Value.string s0 :: Value.bool q1 :: [v2, v3, v4, v5, v6] = _
    rw [he2]; rfl
  · rw [congrArg Prod.fst hx]
    simp only [chgD, entD]
    show DataW.agg [_, _, y2.1] = _
    rw [hd2]
set_option maxRecDepth 100000 in
theorem open_chgs_sized {H : Type} {enc : TypeId × Value → H} {W : World} {b0 j : Nat} {v : Value} {d : DataW H} {p : List MemPlace} {ts : List TypeId} {ds : List (DataW H)}
    (hz : (DataW.weightsEach Tryz.prog ts ds).all (· ≤ reachBytes) = true) (ht : ts[j]? = some 23) (hd : ds[j]? = some d)
    (hv : Value.okWide Tryz.prog W .any b0 23 v) (h : DataW.Trod enc Tryz.prog W 0 (fun _ => true) true 23 v d p) : ∃ l : List Chg, ChgsAt W v l ∧ l.length ≤ 1700000000000 ∧ ∀ x ∈ l, x.path.size < 1152921504606846976 ∧ x.e.path.size < 1152921504606846976 := by
  obtain ⟨a0, len0, cap0, rfl⟩ := okWide_slice Tryz.underlying23 hv
  have er : reachBytes = 140737488351232 := rfl
  obtain ⟨fuel, hf⟩ := h
  rcases Go.Deep.open_slice Tryz.underlying23 hf with ⟨hcs, hx⟩ | ⟨a, len, cap, m, n, D, Pl, hcs, _, hl, hm, hmm, hx, hall⟩
  · have e : Value.slice a0 len0 cap0 = .slice none 0 0 := by simpa [Value.cells] using hcs
    rw [e]
    exact ⟨[], ⟨none, 0, 0, 0, rfl, fun h => absurd rfl h, Nat.le_refl _, fun i x h => by simp at h⟩, by simp, fun x h => by cases h⟩
  · have e : Value.slice a0 len0 cap0 = .slice (some a) len cap := by simpa [Value.cells] using hcs
    rw [e]
    rw [if_pos rfl] at hmm
    have e2 : d = .slice ((List.range len).map D) ((List.range (m - len)).map fun j => D (len + j)) := congrArg Prod.fst hx
    rw [e2] at hd
    have each : ∀ i, i < len → ∃ s : Chg, (∀ j v, (ccs s)[j]? = some v → W.cell? (a.add (i * 7 + j)) = some v) ∧ D i = chgD s := by
      intro i hi
      obtain ⟨cs', h1, h2⟩ := hall i (by omega)
      rw [chg_size] at h1
      obtain ⟨_, hlen, hcell⟩ := World.cells?_some h1
      obtain ⟨s, hxe, hxd⟩ := open_oneC hlen h2
      refine ⟨s, fun j v hj => ?_, hxd⟩
      have hj5 : j < 7 := (List.getElem?_eq_some_iff.1 hj).1
      have c := hcell j (by omega)
      rw [Go.Deep.add_add] at c
      rw [c]
      subst hxe
      first | exact hj | (rw [← hj]; simp) | simpa using hj
    obtain ⟨f, hfx⟩ : ∃ f : Nat → Chg, ∀ i, i < len → (∀ j v, (ccs (f i))[j]? = some v → W.cell? (a.add (i * 7 + j)) = some v) ∧ D i = chgD (f i) :=
      ⟨fun i => if h : i < len then Classical.choose (each i h) else goneC ⟨#[]⟩, fun i hi => by simp only [dif_pos hi]; exact Classical.choose_spec (each i hi)⟩
    have hs1 := sized_slice hz ht hd Tryz.underlying23
    rw [chg_bytes, List.length_map, List.length_map, List.length_range, List.length_range] at hs1
    refine ⟨(List.range len).map f, ?_, by rw [List.length_map, List.length_range]; omega, ?_⟩
    · by_cases h0 : len = 0
      · subst h0
        exact ⟨some a, cap, 0, 0, by simp, fun h => absurd rfl h, by simp, fun i x h => by simp at h⟩
      · obtain ⟨b, off, spot⟩ := a
        have hc0 := (hfx 0 (by omega)).1 0 _ rfl
        have hspot : spot = none := by simpa [Addr.add] using World.cell?_spot hc0
        subst hspot
        refine ⟨some ⟨b, off, none⟩, cap, b, off, by simp, fun _ => rfl, by simpa using hl, fun i x hi => ?_⟩
        have h1 : i < len := by have := (List.getElem?_eq_some_iff.1 hi).1; simpa using this
        have hx2 : x = f i := by simpa [h1] using hi.symm
        subst hx2
        have hc : ∀ j v, (ccs (f i))[j]? = some v → W.cell? ⟨b, off + i * 7 + j, none⟩ = some v := fun j v hj => by
          have := (hfx i h1).1 j v hj
          rw [Addr.add_mid] at this
          rw [Nat.add_assoc]; exact this
        exact ⟨hc 0 _ rfl, hc 1 _ rfl, hc 2 _ rfl, hc 3 _ rfl, hc 4 _ rfl, hc 5 _ rfl, hc 6 _ rfl⟩
    · intro x hx3
      obtain ⟨i, hi, rfl⟩ := List.mem_map.1 hx3
      have hi2 := List.mem_range.1 hi
      have wt : ∀ k, k ∈ DataW.weights Tryz.prog 54 (D i) → k ≤ reachBytes := fun k hk => by
        have hw := List.all_eq_true.1 hz _ (DataW.weights_mem_each ht hd k (by
          have h9 := all_weightsE (P := Tryz.prog) (e := 54) k ((List.range len).map D) (D i) (List.mem_map_of_mem hi) hk
          simp [DataW.weights, Tryz.underlying23, h9]))
        exact of_decide_eq_true hw
      have hs : (f i).path.data.toList.length = (f i).path.size := un_length _
      have hs2 : (f i).e.path.data.toList.length = (f i).e.path.size := un_length _
      have w1 := wt (f i).path.size (by
        rw [(hfx i hi2).2]
        simp [chgD, entD, DataW.weights, DataW.weightsEach, Tryz.underlying54, Tryz.underlying52, hs])
      have w2 := wt (f i).e.path.size (by
        rw [(hfx i hi2).2]
        simp [chgD, entD, DataW.weights, DataW.weightsEach, Tryz.underlying54, Tryz.underlying52, hs2])
      exact ⟨by omega, by omega⟩
end Go.Proofs.YtgildlfanfbebaaGreatDoor

namespace Go.Proofs.YtgildlfanfbebaaGreatDoor
open Go Go.RowKit Go.Shelf

theorem row_form {W : World} {base : Nat} {e : TypeId} {size n : Nat} {v : Value} {xs : List Value} (h : W.ownsRow base e size v n xs) : ∃ a cap, v = .slice a n cap := by
  rcases h.2 with ⟨rfl, rfl⟩ | ⟨g, cap, cur, rfl, _⟩
  · exact ⟨none, 0, rfl⟩
  · exact ⟨_, _, rfl⟩
theorem runs_apply : ∀ (l : List Chg) (L L' : List Ent) (k : Nat), runs L l = some L' → applyGo L l k = if overB L' then ((5, 1, ((k + l.length : Nat) : Int)), []) else ((0, 0, 0), L')
  | [], L, L', k, h => by
    rw [runs] at h
    rw [applyGo, Option.some.inj h]; rfl
  | c :: l, L, L', k, h => by
    rw [runs] at h
    split at h
    · rename_i hd
      rw [applyGo, if_neg (by simpa using hd), runs_apply l _ L' (k + 1) h]
      simp only [List.length_cons]
      rw [show k + 1 + l.length = k + (l.length + 1) by omega]
    · cases h
theorem tree_over {b : List Ent} (h : (checkGo [] b).1 = 0) : overB b = false := by
  have := tree_few h
  unfold overB
  simp; omega
theorem makes_apply {a b : List Ent} (ha : (checkGo [] a).1 = 0) (hb : (checkGo [] b).1 = 0) : applyR a (unlikeL a b) = ((0, 0, 0), b) := by
  unfold applyR
  rw [if_neg (by simpa using ha), runs_apply _ a b 0 (makes_pure (tree_tr ha) (tree_tr hb)), tree_over hb]; rfl
theorem togL_mem : ∀ (n : Nat) (A B : List Ent), A.length + B.length ≤ n → ∀ p ∈ togL A B, (p.1 ∈ A ∨ p.1 = noEnt) ∧ (p.2 ∈ B ∨ p.2 = noEnt) := by
  intro n
  induction n with
  | zero =>
    intro A B h p hp
    obtain rfl : A = [] := List.eq_nil_of_length_eq_zero (by omega)
    obtain rfl : B = [] := List.eq_nil_of_length_eq_zero (by omega)
    rw [togL] at hp; simp at hp
  | succ n ih =>
    intro A B h p hp
    by_cases hb : A = [] ∧ B = []
    · obtain ⟨rfl, rfl⟩ := hb; rw [togL] at hp; simp at hp
    · rcases Int.lt_trichotomy (nearN A B) 0 with hlt | heq | hgt
      · have hA : A ≠ [] := by
          rintro rfl
          cases B with
          | nil => exact hb ⟨rfl, rfl⟩
          | cons y B => simp [nearN] at hlt
        obtain ⟨x, A', rfl, ht⟩ := togL_lt hlt hA
        rw [ht] at hp
        rcases List.mem_cons.1 hp with rfl | hp
        · exact ⟨.inl (by simp), .inr rfl⟩
        · obtain ⟨h1, h2⟩ := ih A' B (by simp at h; omega) p hp
          exact ⟨h1.imp (fun h => by simp [h]) id, h2⟩
      · obtain ⟨x, A', y, B', rfl, rfl, ht⟩ := togL_eq heq
        rw [ht] at hp
        rcases List.mem_cons.1 hp with rfl | hp
        · exact ⟨.inl (by simp), .inl (by simp)⟩
        · obtain ⟨h1, h2⟩ := ih A' B' (by simp at h; omega) p hp
          exact ⟨h1.imp (fun h => by simp [h]) id, h2.imp (fun h => by simp [h]) id⟩
      · obtain ⟨y, B', rfl, ht⟩ := togL_gt hgt
        rw [ht] at hp
        rcases List.mem_cons.1 hp with rfl | hp
        · exact ⟨.inr rfl, .inl (by simp)⟩
        · obtain ⟨h1, h2⟩ := ih A B' (by simp at h; omega) p hp
          exact ⟨h1, h2.imp (fun h => by simp [h]) id⟩
theorem emL_mem : ∀ (ps : List (Ent × Ent)) (top : ByteArray) (c : Chg), c ∈ emL top ps → ∃ x ∈ ps, (c = goneC x.1.path ∧ x.1.kind ≠ 0) ∨ (c = laidC x.2 ∧ x.2.kind ≠ 0)
  | [], top, c, h => by simp [emL] at h
  | x :: ps, top, c, h => by
    rw [emL] at h
    rcases List.mem_append.1 h with h | h
    · refine ⟨x, by simp, ?_⟩
      unfold emO at h
      rcases List.mem_append.1 h with h | h
      · split at h
        · rename_i hl
          simp at h
          unfold lostB at hl
          simp only [Bool.and_eq_true, bne_iff_ne] at hl
          exact .inl ⟨h, hl.1⟩
        · simp at h
      · split at h
        · rename_i hl
          simp at h
          unfold newB at hl
          simp only [Bool.and_eq_true, bne_iff_ne] at hl
          exact .inr ⟨h, hl.1⟩
        · simp at h
    · obtain ⟨y, hy, h2⟩ := emL_mem ps _ c h
      exact ⟨y, by simp [hy], h2⟩
theorem unlike_mem {a b : List Ent} {c : Chg} (h : c ∈ unlikeL a b) : (∃ x ∈ a, c = goneC x.path) ∨ (∃ y ∈ b, c = laidC y) := by
  obtain ⟨p, hp, h2⟩ := emL_mem _ _ c h
  obtain ⟨h3, h4⟩ := togL_mem _ a b (Nat.le_refl _) p hp
  rcases h2 with ⟨rfl, hk⟩ | ⟨rfl, hk⟩
  · rcases h3 with h3 | h3
    · exact .inl ⟨_, h3, rfl⟩
    · rw [h3] at hk; exact absurd rfl hk
  · rcases h4 with h4 | h4
    · exact .inr ⟨_, h4, rfl⟩
    · rw [h4] at hk; exact absurd rfl hk
theorem unlike_len (a b : List Ent) : (unlikeL a b).length ≤ 2 * (a.length + b.length) := by
  have h1 := emL_len (togL a b) ⟨#[]⟩
  have h2 := togL_len _ a b (Nat.le_refl _)
  unfold unlikeL
  omega
theorem unlike_paths {a b : List Ent} (ha : ∀ e ∈ a, e.path.size ≤ 255) (hb : ∀ e ∈ b, e.path.size ≤ 255) : ∀ c ∈ unlikeL a b, c.path.size < 1152921504606846976 ∧ c.e.path.size < 1152921504606846976 := fun c hc => by
  rcases unlike_mem hc with ⟨x, hx, rfl⟩ | ⟨y, hy, rfl⟩
  · have := ha x hx
    exact ⟨by show x.path.size < _; omega, by show (0 : Nat) < _; omega⟩
  · have := hb y hy
    exact ⟨by show y.path.size < _; omega, by show y.path.size < _; omega⟩
theorem chkV_no {a : List Ent} (h : (checkGo [] a).1 ≠ 0) : chkV a = .iface 94 (.agg #[.int .i64 (checkGo [] a).1, .int .i64 0, .int .i64 (checkGo [] a).2]) := if_neg h
set_option maxRecDepth 100000 in
set_option maxHeartbeats 4000000 in
theorem deltamakes_law (u v : Value) (a b : List Ent) (w : World) (hg : ErrType w) (hu : EntsAt w u a) (hv : EntsAt w v b) (hla : a.length ≤ 4611686018427387904) (hlb : b.length ≤ 4611686018427387904) (hpa : ∀ e ∈ a, e.path.size < 1152921504606846976) (hpb : ∀ e ∈ b, e.path.size < 1152921504606846976) :
    Calls Tryz.prog 6 #[u, v] w fun e w' => e = .returned (.bool true) ∧ Below w.heap.size w w' := by
  have hDf := diff_d u v a b w hg hu hv hla hlb hpa hpb
  have HCa : Hid (∀ W, Below w.heap.size w W → Calls Tryz.prog 25 #[u] W fun e w' => e = .returned (chkV a) ∧ Below W.heap.size W w') := fun W hb => check_t u a W (hg.below hb) (hu.below hb) hla hpa
  have HCb : Hid (∀ W, Below w.heap.size w W → Calls Tryz.prog 25 #[v] W fun e w' => e = .returned (chkV b) ∧ Below W.heap.size W w') := fun W hb => check_t v b W (hg.below hb) (hv.below hb) hlb hpb
  have HW : Hid (∀ W, Below w.heap.size w W → Calls Tryz.prog 16 #[] W fun e w' => e = .returned (.bool true) ∧ Below W.heap.size W w') := fun W hb => works_d W (hg.below hb)
  have HU : Hid (EntsAt w u a ∧ EntsAt w v b ∧ ErrType w) := ⟨hu, hv, hg⟩
  by_cases ha : (checkGo [] a).1 = 0
  · have HA : Hid (chkV a = .nilIface) := if_pos ha
    by_cases hb : (checkGo [] b).1 = 0
    · have HB : Hid (chkV b = .nilIface) := if_pos hb
      have HR : Hid (diffR a b = ((0, 0, 0), unlikeL a b)) := by unfold Hid diffR; rw [if_neg (by simpa using ha), if_neg (by simpa using hb)]
      rw [HR.out] at hDf
      have HAP : Hid (∀ (l : Value) W, Below w.heap.size w W → ChgsAt W l (unlikeL a b) → Calls Tryz.prog 19 #[u, l] W fun e w' => ∃ c, e = .returned (.tuple #[c, .nilIface]) ∧ EntsAt w' c b ∧ Below W.heap.size W w') := fun l W hbw hl => (apply_d u l a (unlikeL a b) W (hg.below hbw) (hu.below hbw) hl hla (by have h1 := unlike_len a b; have h2 := (tree_few ha).1; have h3 := (tree_few hb).1; omega) hpa (unlike_paths (tree_paths ha) (tree_paths hb))).mono (by
        rintro e w' ⟨c, rfl, h1, h2⟩
        rw [makes_apply ha hb] at h1 ⊢
        exact ⟨c, rfl, ents_of_owns h1, h2⟩)
      have HEM : Hid (unlikeL a b = [] ↔ a = b) := makes_empty (tree_tr ha) (tree_tr hb)
      have HLN : Hid (a.length ≤ 4096 ∧ b.length ≤ 4096) := ⟨(tree_few ha).1, (tree_few hb).1⟩
      clear ha hb hu hv hpa hpb hg
      go_enter Tryz.func6, Tryz.ntmps6
      go_wp2_with fail
      refine hDf.mono ?_
      rintro e w1 ⟨l, rfl, hl, h1⟩
      rw [show errF (0, 0, 0) = .nilIface from rfl]
      obtain ⟨la, lc, rfl⟩ := row_form hl
      have HL : Hid (ChgsAt w1 (.slice la (unlikeL a b).length lc) (unlikeL a b)) := chgs_of_owns hl
      clear hDf hl
      go_wp2_with fail
      refine (HCa.out _ h1).mono ?_
      rintro e w2 ⟨rfl, h2⟩
      rw [HA.out]
      go_wp2_with fail
      refine (HCb.out _ (below_join h1 h2)).mono ?_
      rintro e w3 ⟨rfl, h3⟩
      rw [HB.out]
      have hB3 := below_join (below_join h1 h2) h3
      have hC := HAP.out _ w3 hB3 (HL.out.below (below_join h2 h3))
      go_wp2_with fail
      refine hC.mono ?_
      rintro e w4 ⟨c, rfl, hc, h4⟩
      have hB4 := below_join hB3 h4
      have hcf : ∃ x n y, c = .slice x n y := by
        obtain ⟨x, y, _, _, rfl, _⟩ := hc
        exact ⟨x, _, y, rfl⟩
      obtain ⟨cx, cn, cy, rfl⟩ := hcf
      have hS1 := same_p _ v b w4 hc (HU.out.2.1.below hB4) (by have := HLN.out.2; omega)
      go_wp2_with fail
      refine hS1.mono ?_
      rintro e w5 ⟨rfl, h5⟩
      have hB5 := below_join hB4 h5
      have hS2 := sameE_p u v a b w5 (HU.out.1.below hB5) (HU.out.2.1.below hB5) (by have := HLN.out.1; omega)
      clear hS1 hC
      go_wp2_with fail
      refine hS2.mono ?_
      rintro e w6 ⟨r, rfl, hr, h6⟩
      have hB6 := below_join hB5 h6
      have hwk := HW.out _ hB6
      have HRR : Hid (((((unlikeL a b).length : Int) == 0) == r) = true) := by
        unfold Hid
        cases r with
        | true =>
          have := HEM.out.2 (hr.1 rfl)
          simp [this]
        | false =>
          have : unlikeL a b ≠ [] := fun e => by have := hr.2 (HEM.out.1 e); cases this
          have h9 : (unlikeL a b).length ≠ 0 := fun e => this (List.eq_nil_of_length_eq_zero e)
          simp; exact this
      have hRR := HRR.out
      clear hS2 hr
      generalize ((unlikeL a b).length : Int) = ln at *
      go_wp2_with (go_at_call 16; refine hwk.mono ?_; rintro e w7 ⟨rfl, h7⟩)
      go_ret
      exact ⟨rfl, below_join hB6 h7⟩
    · have HB : Hid (chkV b = .iface 94 (.agg #[.int .i64 (checkGo [] b).1, .int .i64 0, .int .i64 (checkGo [] b).2])) := chkV_no hb
      have HR : Hid (diffR a b = (((checkGo [] b).1, (1 : Int), ((checkGo [] b).2 : Int)), ([] : List Chg)) ∧ errF ((checkGo [] b).1, (1 : Int), ((checkGo [] b).2 : Int)) = .iface 94 (.agg #[.int .i64 (checkGo [] b).1, .int .i64 1, .int .i64 (checkGo [] b).2])) := ⟨by unfold diffR; rw [if_neg (by simpa using ha), if_pos hb], if_neg hb⟩
      rw [HR.out.1] at hDf
      clear ha hb hu hv hpa hpb hg
      go_enter Tryz.func6, Tryz.ntmps6
      go_wp2_with fail
      refine hDf.mono ?_
      rintro e w1 ⟨l, rfl, hl, h1⟩
      rw [HR.out.2]
      obtain ⟨la, lc, rfl⟩ := row_form hl
      clear hDf hl
      go_wp2_with fail
      refine (HCa.out _ h1).mono ?_
      rintro e w2 ⟨rfl, h2⟩
      rw [HA.out]
      go_wp2_with fail
      refine (HCb.out _ (below_join h1 h2)).mono ?_
      rintro e w3 ⟨rfl, h3⟩
      rw [HB.out]
      have hB3 := below_join (below_join h1 h2) h3
      have hwk := HW.out _ hB3
      go_wp2_with (go_at_call 16; refine hwk.mono ?_; rintro e w7 ⟨rfl, h7⟩)
      go_ret
      exact ⟨rfl, below_join hB3 h7⟩
  · have HA : Hid (chkV a = .iface 94 (.agg #[.int .i64 (checkGo [] a).1, .int .i64 0, .int .i64 (checkGo [] a).2])) := chkV_no ha
    have HR : Hid (diffR a b = (((checkGo [] a).1, (0 : Int), ((checkGo [] a).2 : Int)), ([] : List Chg)) ∧ errF ((checkGo [] a).1, (0 : Int), ((checkGo [] a).2 : Int)) = .iface 94 (.agg #[.int .i64 (checkGo [] a).1, .int .i64 0, .int .i64 (checkGo [] a).2])) := ⟨by unfold diffR; rw [if_pos ha], if_neg ha⟩
    rw [HR.out.1] at hDf
    clear ha hu hv hpa hpb hg
    go_enter Tryz.func6, Tryz.ntmps6
    go_wp2_with fail
    refine hDf.mono ?_
    rintro e w1 ⟨l, rfl, hl, h1⟩
    rw [HR.out.2]
    obtain ⟨la, lc, rfl⟩ := row_form hl
    clear hDf hl
    go_wp2_with fail
    refine (HCa.out _ h1).mono ?_
    rintro e w2 ⟨rfl, h2⟩
    rw [HA.out]
    have hB3 := below_join h1 h2
    have hwk := HW.out _ hB3
    go_wp2_with (go_at_call 16; refine hwk.mono ?_; rintro e w7 ⟨rfl, h7⟩)
    go_ret
    exact ⟨rfl, below_join hB3 h7⟩
end Go.Proofs.YtgildlfanfbebaaGreatDoor

namespace Go.Proofs.YtgildlfanfbebaaGreatDoor
open Go Go.RowKit Go.Shelf

/-- What is done keeps a tree one. -/
theorem TrL.done {L : List Ent} (h : TrL L) {c : Chg} (hd : doN L c = 0) : TrL (doL L c) := by
  unfold doL
  cases hg : c.gone with
  | true =>
    rw [if_pos rfl]
    have ho : (goneL L (namesP c.path)).Pairwise ltE := h.order.filter _
    refine ⟨ho, fun e he => h.right e (List.mem_filter.1 he).1, fun e he => ?_⟩
    obtain ⟨he1, he2⟩ := List.mem_filter.1 he
    rcases (up_iff h.order e.path).1 (h.up e he1) with h1 | ⟨f, hf, hp, hk⟩
    · exact (up_iff ho _).2 (.inl h1)
    · refine (up_iff ho _).2 (.inr ⟨f, List.mem_filter.2 ⟨hf, ?_⟩, hp, hk⟩)
      simp only [Bool.not_eq_true'] at he2 ⊢
      cases hq : (namesP c.path).isPrefixOf (namesP f.path) with
      | false => rfl
      | true =>
        have h1 := List.isPrefixOf_iff_prefix.1 hq
        have h2 : namesP f.path <+: namesP e.path := by
          rw [hp]
          exact ⟨[un (lastB e.path)], names_split (wrong_check (h.right e he1))⟩
        rw [List.isPrefixOf_iff_prefix.2 (h1.trans h2)] at he2
        cases he2
  | false =>
    rw [if_neg (by simp)]
    unfold doN at hd
    rw [hg] at hd
    simp only [Bool.false_eq_true, if_false] at hd
    split at hd
    · omega
    · split at hd
      · rename_i h1; exact absurd hd h1
      · rename_i hw
        split at hd
        · rename_i h1; exact absurd hd h1
        · rename_i hu
          have hw' : wrongN c.e = 0 := by simpa using hw
          have hu' : upN L c.e.path = 0 := by simpa using hu
          have ho : (laidL L c.e).Pairwise ltE := laid_order h.order c.e
          have hkind : ∀ o ∈ L, o.path = c.e.path → o.kind = 1 → c.e.kind = 1 := fun o ho9 hp hk => by
            rw [find_mem h.order ho9 hp] at hd
            simp only at hd
            split at hd
            · rename_i hs
              unfold sortB at hs
              rw [hk] at hs
              have h9 : ¬ c.e.kind = 0 ∧ c.e.kind = 1 := by simpa using hs
              exact h9.2
            · omega
          have dir : ∀ p, (∃ f ∈ L, f.path = parentB p ∧ f.kind = 1) → ∃ f ∈ laidL L c.e, f.path = parentB p ∧ f.kind = 1 := by
            rintro p ⟨f, hf, hp, hk⟩
            by_cases he : f.path = c.e.path
            · exact ⟨c.e, laid_mem.2 (.inl rfl), he.symm.trans hp, hkind f hf he hk⟩
            · exact ⟨f, laid_mem.2 (.inr ⟨hf, he⟩), hp, hk⟩
          refine ⟨ho, fun e he => ?_, fun e he => ?_⟩
          · rcases laid_mem.1 he with rfl | ⟨h1, _⟩
            · exact hw'
            · exact h.right e h1
          · refine (up_iff ho _).2 ?_
            rcases laid_mem.1 he with rfl | ⟨h1, _⟩
            · rcases (up_iff h.order _).1 hu' with h2 | h2
              · exact .inl h2
              · exact .inr (dir _ h2)
            · rcases (up_iff h.order _).1 (h.up e h1) with h2 | h2
              · exact .inl h2
              · exact .inr (dir _ h2)
theorem apply_tr : ∀ (l : List Chg) (L : List Ent) (k : Nat), TrL L → (applyGo L l k).1.1 = 0 → TrL (applyGo L l k).2
  | [], L, k, h, h0 => by
    rw [applyGo] at h0 ⊢
    split at h0
    · simp at h0
    · rename_i ho; rw [if_neg ho]; exact h
  | c :: l, L, k, h, h0 => by
    rw [applyGo] at h0 ⊢
    split at h0
    · rename_i hd; exact absurd h0 hd
    · rename_i hd
      rw [if_neg hd]
      exact apply_tr l _ _ (h.done (by simpa using hd)) h0
theorem TrL.one {L : List Ent} (h : TrL L) (hf : L.length ≤ 4096) (hl : bytesL L ≤ 16777216) {pre r : List Ent} {e : Ent} (hL : L = pre ++ e :: r) : oneN pre e = 0 := by
  have heL : e ∈ L := by rw [hL]; simp
  have ho := h.order
  rw [hL] at ho
  obtain ⟨ho1, ho2, ho3⟩ := List.pairwise_append.1 ho
  have hlt : ∀ x ∈ pre, ltE x e := fun x hx => ho3 x hx e (by simp)
  have hw := h.right e heL
  have hck := wrong_check hw
  have hoo : ooN (lastP pre) e.path = 0 := by
    rcases List.eq_nil_or_concat pre with rfl | ⟨l, d, rfl⟩
    · exact oo_start hck
    · have hd : lastP (l.concat d) = d.path := by simp [lastP]
      have hde := hlt d (by simp)
      unfold ltE at hde
      rw [hd]
      unfold ooN
      rw [if_neg (by omega), if_neg (by omega)]
  have hup : upN pre e.path = 0 := by
    refine (up_iff ho1 _).2 ?_
    rcases (up_iff h.order e.path).1 (h.up e heL) with h1 | ⟨f, hf9, hp, hk⟩
    · exact .inl h1
    · by_cases hz : (parentB e.path).size = 0
      · exact .inl hz
      · refine .inr ⟨f, ?_, hp, hk⟩
        have hlt9 : ltE f e := lt_below (y := un (lastB e.path)) (t := []) (path_full (h.right f hf9)) (path_full hw) (by rw [hp]; exact (names_split hck).symm)
        rw [hL] at hf9
        rcases List.mem_append.1 hf9 with h1 | h1
        · exact h1
        · rcases List.mem_cons.1 h1 with h1 | h1
          · rw [h1] at hlt9; exact absurd hlt9 (ltE_self _)
          · exact absurd ((List.pairwise_cons.1 ho2).1 _ h1) (ltE_asymm hlt9)
  have hmany : manyN pre e = 0 := by
    unfold manyN
    rw [put_end hlt]
    simp only
    rw [hL] at hf hl
    have e1 : bytesL (pre ++ e :: r) = bytesL pre + (e.data.size + bytesL r) := by simp [bytesL]
    rw [e1] at hl
    simp at hf
    rw [if_neg (by omega)]
  unfold oneN putN
  rw [if_neg (by simpa using hw), if_neg (by simpa using hoo), if_neg (by simpa using hup), hmany]
theorem TrL.check {L : List Ent} (h : TrL L) (hf : L.length ≤ 4096) (hl : bytesL L ≤ 16777216) : (checkGo [] L).1 = 0 := by
  have main : ∀ (r pre : List Ent), L = pre ++ r → (checkGo pre r).1 = 0 := by
    intro r
    induction r with
    | nil => intro pre _; rfl
    | cons e r ih =>
      intro pre hL
      rw [checkGo, if_neg (by simpa using h.one hf hl hL)]
      exact ih (pre ++ [e]) (by rw [hL]; simp)
  exact main L [] rfl
theorem apply_tree {t : List Ent} {l : List Chg} (h : (applyR t l).1.1 = 0) : (checkGo [] (applyR t l).2).1 = 0 := by
  obtain ⟨hc, he, _, hf, hb⟩ := applyR_facts h
  have htr := apply_tr l t 0 (tree_tr hc) (by rw [← he]; exact h)
  rw [← he] at htr
  exact htr.check hf hb
theorem checkN_range (p : ByteArray) : 0 ≤ checkN p ∧ checkN p ≤ 32 := by
  unfold checkN
  repeat' split
  all_goals first | omega | (rcases splitP_cases (whiteoutB p) with h | h <;> rw [h] <;> omega)
theorem wrong_range (e : Ent) : 0 ≤ wrongN e ∧ wrongN e ≤ 32 := by
  have := checkN_range e.path
  unfold wrongN
  repeat' split
  all_goals omega
theorem up_range (L : List Ent) (p : ByteArray) : 0 ≤ upN L p ∧ upN L p ≤ 32 := by
  unfold upN
  repeat' split
  all_goals omega
theorem one_range (L : List Ent) (e : Ent) : 0 ≤ oneN L e ∧ oneN L e ≤ 32 := by
  have h1 := wrong_range e
  have h2 : 0 ≤ ooN (lastP L) e.path ∧ ooN (lastP L) e.path ≤ 32 := by
    unfold ooN
    repeat' split
    all_goals omega
  have h3 := up_range L e.path
  have h4 : 0 ≤ manyN L e ∧ manyN L e ≤ 32 := by
    unfold manyN
    repeat' split
    all_goals omega
  unfold oneN putN
  repeat' split
  all_goals omega
theorem go_range : ∀ (r L : List Ent), 0 ≤ (checkGo L r).1 ∧ (checkGo L r).1 ≤ 32 ∧ ((checkGo L r).1 = 0 → (checkGo L r).2 = 0)
  | [], L => by simp [checkGo]
  | e :: r, L => by
    unfold checkGo
    split
    · rename_i h
      have := one_range L e
      exact ⟨this.1, this.2, fun h0 => absurd h0 h⟩
    · exact go_range r _
theorem do_range (L : List Ent) (c : Chg) : 0 ≤ doN L c ∧ doN L c ≤ 32 := by
  have h1 := wrong_range c.e
  have h2 := up_range L c.e.path
  unfold doN
  repeat' split
  all_goals omega
theorem apGo_range : ∀ (l : List Chg) (L : List Ent) (k : Nat), 0 ≤ (applyGo L l k).1.1 ∧ (applyGo L l k).1.1 ≤ 32 ∧ ((applyGo L l k).1.1 = 0 → (applyGo L l k).1 = (0, 0, 0)) ∧ ((applyGo L l k).1.1 ≠ 0 → (applyGo L l k).2 = [])
  | [], L, k => by
    rw [applyGo]
    split <;> simp
  | c :: l, L, k => by
    rw [applyGo]
    split
    · rename_i h
      have := do_range L c
      exact ⟨this.1, this.2, fun h0 => absurd h0 h, fun _ => rfl⟩
    · exact apGo_range l _ _
theorem ap_range (t : List Ent) (l : List Chg) : 0 ≤ (applyR t l).1.1 ∧ (applyR t l).1.1 ≤ 32 ∧ ((applyR t l).1.1 = 0 → (applyR t l).1 = (0, 0, 0)) ∧ ((applyR t l).1.1 ≠ 0 → (applyR t l).2 = []) := by
  unfold applyR
  split
  · rename_i h
    have := go_range t []
    exact ⟨this.1, this.2.1, fun h0 => absurd h0 h, fun _ => rfl⟩
  · exact apGo_range l t 0
end Go.Proofs.YtgildlfanfbebaaGreatDoor

namespace Go.Proofs.YtgildlfanfbebaaGreatDoor
open Go Go.RowKit Go.Shelf

theorem slice_of {W : World} {v : Value} {es : List Ent} (h : EntsAt W v es) : ∃ a n cap, v = .slice a n cap := by
  obtain ⟨a, cap, _, _, rfl, _⟩ := h
  exact ⟨a, _, cap, rfl⟩
set_option maxRecDepth 100000 in
set_option maxHeartbeats 4000000 in
theorem deltaundone_law (v cv : Value) (t : List Ent) (l : List Chg) (w : World) (hg : ErrType w) (hv : EntsAt w v t) (hcv : ChgsAt w cv l) (hlt : t.length ≤ 4611686018427387904) (hl : l.length ≤ 1700000000000) (hp : ∀ e ∈ t, e.path.size < 1152921504606846976) (hcp : ∀ c ∈ l, c.path.size < 1152921504606846976 ∧ c.e.path.size < 1152921504606846976) :
    Calls Tryz.prog 8 #[v, cv] w fun e w' => e = .returned (.bool true) ∧ Below w.heap.size w w' := by
  have hA := apply_d v cv t l w hg hv hcv hlt hl hp hcp
  have HBk : Hid (∀ W, Below w.heap.size w W → Calls Tryz.prog 24 #[v, cv] W (DiffPost (backR t l) W)) := fun W hb => back_d v cv t l W (hg.below hb) (hv.below hb) (hcv.below hb) hlt hl hp hcp
  have HW : Hid (∀ W, Below w.heap.size w W → Calls Tryz.prog 16 #[] W fun e w' => e = .returned (.bool true) ∧ Below W.heap.size W w') := fun W hb => works_d W (hg.below hb)
  have HV : Hid (EntsAt w v t ∧ ErrType w) := ⟨hv, hg⟩
  obtain ⟨hr1, hr2, hr3, hr4⟩ := ap_range t l
  by_cases hz : (applyR t l).1.1 = 0
  · have hU := apply_tree hz
    obtain ⟨hc, _, _, hfU, _⟩ := applyR_facts hz
    have HR : Hid (backR t l = ((0, 0, 0), unlikeL (applyR t l).2 t) ∧ errF (applyR t l).1 = .nilIface) := ⟨if_neg (by simpa using hz), if_pos hz⟩
    obtain ⟨U, hUe⟩ : ∃ U, (applyR t l).2 = U := ⟨_, rfl⟩
    unfold ApplyPost at hA
    rw [hUe] at hA hU hfU HR
    have hft := (tree_few hc).1
    have HCk : Hid (∀ u W, Below w.heap.size w W → EntsAt W u U → Calls Tryz.prog 25 #[u] W fun e w' => e = .returned .nilIface ∧ Below W.heap.size W w') := fun u W hb hu => by
      have h9 := check_t u U W (hg.below hb) hu (by omega) (fun e he => by have := tree_paths hU e he; omega)
      rw [show chkV U = .nilIface from if_pos hU] at h9
      exact h9
    have HA1 : Hid (∀ u m W, Below w.heap.size w W → EntsAt W u U → ChgsAt W m (unlikeL U t) → Calls Tryz.prog 19 #[u, m] W fun e w' => ∃ c, e = .returned (.tuple #[c, .nilIface]) ∧ EntsAt w' c t ∧ Below W.heap.size W w') := fun u m W hb hu hm => (apply_d u m U (unlikeL U t) W (hg.below hb) hu hm (by omega) (by have h1 := unlike_len U t; omega) (fun e he => by have := tree_paths hU e he; omega) (unlike_paths (tree_paths hU) (tree_paths hc))).mono (by
      rintro e w' ⟨c, rfl, h1, h2⟩
      rw [makes_apply hU hc] at h1 ⊢
      exact ⟨c, rfl, ents_of_owns h1, h2⟩)
    have HA2 : Hid (∀ u m W, Below w.heap.size w W → EntsAt W u t → ChgsAt W m (unlikeL t U) → Calls Tryz.prog 19 #[u, m] W fun e w' => ∃ c, e = .returned (.tuple #[c, .nilIface]) ∧ EntsAt w' c U ∧ Below W.heap.size W w') := fun u m W hb hu hm => (apply_d u m t (unlikeL t U) W (hg.below hb) hu hm (by omega) (by have h1 := unlike_len t U; omega) hp (unlike_paths (tree_paths hc) (tree_paths hU))).mono (by
      rintro e w' ⟨c, rfl, h1, h2⟩
      rw [makes_apply hc hU] at h1 ⊢
      exact ⟨c, rfl, ents_of_owns h1, h2⟩)
    have HB1 : Hid (∀ u m W, Below w.heap.size w W → EntsAt W u U → ChgsAt W m (unlikeL U t) → Calls Tryz.prog 24 #[u, m] W fun e w' => ∃ c, e = .returned (.tuple #[c, .nilIface]) ∧ ChgsAt w' c (unlikeL t U) ∧ Below W.heap.size W w') := fun u m W hb hu hm => (back_d u m U (unlikeL U t) W (hg.below hb) hu hm (by omega) (by have h1 := unlike_len U t; omega) (fun e he => by have := tree_paths hU e he; omega) (unlike_paths (tree_paths hU) (tree_paths hc))).mono (by
      rintro e w' ⟨c, rfl, h1, h2⟩
      have hb9 : backR U (unlikeL U t) = ((0, 0, 0), unlikeL t U) := by
        unfold backR
        rw [makes_apply hU hc]; rfl
      rw [hb9] at h1 ⊢
      exact ⟨c, rfl, chgs_of_owns h1, h2⟩)
    have HLN : Hid (t.length ≤ 1073741824 ∧ U.length ≤ 1073741824) := ⟨by omega, by omega⟩
    clear hz hU hc hfU hUe hft hv hcv hp hcp hg hr1 hr2 hr3 hr4
    go_enter Tryz.func8, Tryz.ntmps8
    go_wp2_with fail
    refine hA.mono ?_
    rintro e w1 ⟨u, rfl, hu, h1⟩
    rw [HR.out.2]
    have HU1 : Hid (EntsAt w1 u U) := ents_of_owns hu
    obtain ⟨ua, un9, uc, rfl⟩ := slice_of HU1.out
    clear hA hu
    go_wp2_with fail
    refine (HBk.out _ h1).mono ?_
    rintro e w2 ⟨m, rfl, hm, h2⟩
    rw [HR.out.1] at hm ⊢
    simp only at hm ⊢
    rw [show errF (0, 0, 0) = .nilIface from rfl]
    have HM2 : Hid (ChgsAt w2 m (unlikeL U t)) := chgs_of_owns hm
    obtain ⟨ma, mc, rfl⟩ := row_form hm
    have hB2 := below_join h1 h2
    have hU2 := HU1.out.below h2
    clear hm
    go_wp2_with fail
    refine (HCk.out _ _ hB2 hU2).mono ?_
    rintro e w3 ⟨rfl, h3⟩
    have hB3 := below_join hB2 h3
    have hU3 := hU2.below h3
    have hM3 := HM2.out.below h3
    go_wp2_with fail
    refine (HA1.out _ _ _ hB3 hU3 hM3).mono ?_
    rintro e w4 ⟨c, rfl, hc, h4⟩
    obtain ⟨ca, cn, cc, rfl⟩ := slice_of hc
    have HC4 : Hid (EntsAt w4 (.slice ca cn cc) t) := hc
    have hB4 := below_join hB3 h4
    go_wp2_with fail
    refine (HB1.out _ _ _ hB4 (hU3.below h4) (hM3.below h4)).mono ?_
    rintro e w5 ⟨n, rfl, hn, h5⟩
    obtain ⟨na, nc, nb, no, rfl, _, _, _⟩ := id hn
    have HN5 : Hid (ChgsAt w5 (.slice na (unlikeL t U).length nc) (unlikeL t U)) := hn
    have hB5 := below_join hB4 h5
    have hS1 := same_p _ v t w5 (HC4.out.below h5) (HV.out.1.below hB5) HLN.out.1
    clear hn hc
    go_wp2_with fail
    refine hS1.mono ?_
    rintro e w6 ⟨rfl, h6⟩
    have hB6 := below_join hB5 h6
    clear hS1
    go_wp2_with fail
    refine (HA2.out _ _ _ hB6 (HC4.out.below (below_join h5 h6)) (HN5.out.below h6)).mono ?_
    rintro e w7 ⟨q, rfl, hq, h7⟩
    obtain ⟨qa, qn, qc, rfl⟩ := slice_of hq
    have hB7 := below_join hB6 h7
    have hU7 := hU3.below (below_join (below_join (below_join h4 h5) h6) h7)
    have hS2 := same_p _ _ U w7 hq hU7 HLN.out.2
    go_wp2_with fail
    refine hS2.mono ?_
    rintro e w8 ⟨rfl, h8⟩
    have hB8 := below_join hB7 h8
    have hwk := HW.out _ hB8
    go_wp2_with (go_at_call 16; refine hwk.mono ?_; rintro e w9 ⟨rfl, h9⟩)
    go_ret
    exact ⟨rfl, below_join hB8 h9⟩
  · have HR : Hid (backR t l = ((applyR t l).1, []) ∧ (applyR t l).2 = [] ∧ errF (applyR t l).1 = .iface 94 (.agg #[.int .i64 (applyR t l).1.1, .int .i64 (applyR t l).1.2.1, .int .i64 (applyR t l).1.2.2])) := ⟨if_pos hz, hr4 hz, if_neg hz⟩
    have hN := fun W => num_fault (applyR t l).1.1 (applyR t l).1.2.1 (applyR t l).1.2.2 (by omega) hr2 W
    unfold fltV at hN
    unfold ApplyPost at hA
    rw [HR.out.2.1] at hA
    clear hz hv hcv hp hcp hg hr1 hr2 hr3 hr4
    go_enter Tryz.func8, Tryz.ntmps8
    go_wp2_with fail
    refine hA.mono ?_
    rintro e w1 ⟨u, rfl, hu, h1⟩
    rw [HR.out.2.2]
    obtain ⟨ua, uc, rfl⟩ := row_form hu
    clear hA hu
    go_wp2_with fail
    refine (HBk.out _ h1).mono ?_
    rintro e w2 ⟨m, rfl, hm, h2⟩
    rw [HR.out.1] at hm ⊢
    simp only at hm ⊢
    rw [HR.out.2.2]
    obtain ⟨ma, mc, rfl⟩ := row_form hm
    have hB2 := below_join h1 h2
    clear hm
    generalize (applyR t l).1.1 = n1 at *
    generalize (applyR t l).1.2.1 = n2 at *
    generalize (applyR t l).1.2.2 = n3 at *
    go_wp2_with fail
    refine (hN _).mono ?_
    rintro e w3 ⟨rfl, h3⟩
    go_wp2_with fail
    refine (hN _).mono ?_
    rintro e w4 ⟨rfl, h4⟩
    have hB4 := below_join (below_join hB2 h3) h4
    have hwk := HW.out _ hB4
    go_wp2_with (go_at_call 16; refine hwk.mono ?_; rintro e w9 ⟨rfl, h9⟩)
    go_ret
    exact ⟨rfl, below_join hB4 h9⟩
end Go.Proofs.YtgildlfanfbebaaGreatDoor

namespace Go.Proofs.YtgildlfanfbebaaGreatDoor.fnDeltaUndone
open Go.ChangeShapes Go.WideShapes Go.ChangeAt Go.RowKit
open Go.WideMaps Go.WideElems
open Go.ChangeMaps (open_string shut_string)

abbrev listed : List (String × DataW Unit) := listedU
set_option maxRecDepth 100000 in
theorem contract (H : Type) (enc : TypeId × Value → H) (W : World) (base : Nat) (args : Array Value) (ds gs : List (DataW H)) (before : List MemPlace)
    (hval : ∀ (j : Nat) t v, Tryz.f8.params[j]? = some t → args[j]? = some v → Value.okWide Tryz.prog W .any base t v)
    (hW : DataW.Whole enc Tryz.prog Tryz.f8.params.toList Rows.deltaUndoneSpec.vars false W args.toList ds gs before)
    (hz : (DataW.weightsEach Tryz.prog (Tryz.f8.params.toList ++ (OpenSpec.ofChange Rows.deltaUndoneSpec).bare.plain.varTypes Tryz.prog) (ds ++ gs)).all (· ≤ reachBytes) = true)
    (hL : laidMetH Tryz.prog listed W) :
    Calls Tryz.prog 8 args W fun e W' => ∃ v, e = .returned v ∧ Rows.deltaUndoneSpec.post enc Tryz.prog Tryz.f8 false true false false W args v W' := by
  have hW' := hW
  obtain ⟨p, q, hA0, hV, rfl, hfz, hnd⟩ := hW
  have hA : DataW.TrodAll enc Tryz.prog W 0 (fun _ => true) true Tryz.f8.params.toList args.toList ds p := hA0
  rw [Tryz.params8] at hA hval
  obtain ⟨v0, vs0, d0, ds0, p0, q0, hargs, rfl, rfl, h0, r0⟩ := trodAll_cons hA
  obtain ⟨v1, vs1, d1, ds1, p1, q1, rfl, rfl, rfl, h1, r1⟩ := trodAll_cons r0
  obtain ⟨rfl, rfl, rfl⟩ := trodAll_nil r1
  obtain rfl : args = #[v0, v1] := by cases args; simp_all
  obtain ⟨rfl, rfl⟩ := trodVars_none hV
  clear hA0
  simp only [List.append_nil] at hW'
  have k0 := fun (W' : World) (hg : Below W.heap.size W W') => Below.trod (by kernel_rfl) (by kernel_rfl) (of_decide_eq_true (by kernel_rfl)) h0 hg (by obtain ⟨fu, hf⟩ := h0; exact DataW.trod_lt _ _ _ _ hf)
  obtain ⟨l0, t0, y0, x0⟩ := open_ents_sized (j := 0) hz rfl rfl (hval 0 22 v0 rfl rfl) h0
  have k1 := fun (W' : World) (hg : Below W.heap.size W W') => Below.trod (by kernel_rfl) (by kernel_rfl) (of_decide_eq_true (by kernel_rfl)) h1 hg (by obtain ⟨fu, hf⟩ := h1; exact DataW.trod_lt _ _ _ _ hf)
  obtain ⟨l1, t1, y1, x1⟩ := open_chgs_sized (j := 1) hz rfl rfl (hval 1 23 v1 rfl rfl) h1
  refine (deltaundone_law v0 v1 l0 l1 W (handle_of_laidU hL) t0 t1 y0 y1 x0 x1).mono fun e W' ⟨he, hg⟩ => ?_
  subst he
  have e1 : Rows.deltaUndoneSpec.fn H ([d0, d1] ++ []) = { results := [.lit (.bool true)], args := [d0, d1] } := by simp [Rows.deltaUndoneSpec]
  refine ⟨_, rfl, _, _, _, [], p0 ++ (p1 ++ []), [], hW', ?_, ?_, ?_, hg.frame _, fun h => by cases h⟩
  · rw [e1]; exact trodAll_mk1 (shut_bool Tryz.underlying4 true)
  · rw [e1]; exact trodAll_cons_mk (k0 W' hg) (trodAll_cons_mk (k1 W' hg) trodAll_mk0)
  · rw [e1]; rfl

set_option maxRecDepth 100000 in
theorem met (os : Os) (args : Array Value) : laidMetH Tryz.prog listed ((laidWorldU os).forCall (fun _ _ => 0) ⟨#[], args, []⟩).memory :=
  laidMetH_of_parts (laidMet_of_run' 8 (by kernel_rfl) (by kernel_rfl)) (by kernel_rfl)
theorem reads (os : Os) {H : Type} (enc : TypeId × Value → H) : ∃ places, DataW.whole enc Tryz.prog ((laidWorldU os).forCall (fun _ _ => 0) ⟨#[], #[.slice none 0 0, .slice none 0 0], []⟩).memory Tryz.f8.params.toList Rows.deltaUndoneSpec.vars false #[Value.slice none 0 0, Value.slice none 0 0].toList 8 = some ([.nil, .nil], [], places) :=
  ⟨[], by kernel_rfl⟩

set_option maxRecDepth 100000 in
theorem lifted (os : Os) (started : os.Started) (H : Type) (enc : TypeId × Value → H) (F : Stop.Interp) :
    ReturnsInHanded {} Tryz.checked os 8 .any ((OpenSpec.ofChange Rows.deltaUndoneSpec).preRow enc Tryz.prog Tryz.f8 Rows.deltaUndoneRow.domain false Rows.deltaUndoneRow.laid) (((OpenSpec.ofChange Rows.deltaUndoneSpec).at F).post enc Tryz.prog Tryz.f8 false true false false) := by
  obtain ⟨places, hx⟩ := reads os enc
  refine returnsInHanded_of_row (C := Tryz.checked) (s := OpenSpec.ofChange Rows.deltaUndoneSpec) own started (by kernel_rfl) Tryz.func8
    (witness_row_at (enc := enc) (C := Tryz.checked) false (laidWorldU os) #[.slice none 0 0, .slice none 0 0] rfl (by kernel_rfl) (by kernel_rfl) (by kernel_rfl)
      (OpenSpec.preRow_of_cond 8 hx (by kernel_rfl) (fun k hk => by cases hk) (by kernel_rfl) (met os _))) ?_
  intro W base args ds gs before hval hW _ _ hz hL _ _
  exact contract H enc W base args ds gs before hval hW hz hL

theorem said : Rows.DeltaUndoneSaid :=
  OpenClaim.holds_of_cond 8 Tryz.f8 rfl rfl rfl rfl rfl rfl rfl ⟨rfl, rfl, rfl, rfl, rfl⟩ rfl rfl rfl rfl rfl (by kernel_rfl) Tryz.func8 (by kernel_rfl)
    (of_decide_eq_true (by kernel_rfl)) (by unfold Func.isWrapper; rw [if_neg (of_decide_eq_false (by kernel_rfl))]; exact ⟨rfl, rfl⟩)
    (fun os started H enc _ F => by rw [OpenClaim.pre_eq_preRow]; exact lifted os started H enc F)

theorem plainly (f : FuncId) (fn : Func) (hf : Tryz.pinned.checked.prog.funcNamed "strata/stratalaw10.DeltaUndone" = some f) (hfn : Tryz.pinned.checked.prog.funcs[f]? = some fn) :
    true = Tryz.pinned.checked.prog.looks [] ∧ ∀ (j : Nat) t, fn.params[j]? = some t → Tryz.pinned.checked.prog.wantsStandIn t = false := by
  obtain rfl : f = 8 := Option.some.inj ((show Tryz.prog.funcNamed "strata/stratalaw10.DeltaUndone" = some 8 by kernel_rfl).symm.trans hf) |>.symm
  obtain rfl : fn = Tryz.f8 := (Option.some.inj (Tryz.func8.symm.trans hfn)).symm
  refine ⟨by kernel_rfl, fun j t ht => ?_⟩
  rw [Tryz.params8] at ht
  have hm : t ∈ [22, 23] := by simpa using Array.mem_of_getElem? ht
  have hall : ([22, 23].all fun u => !Tryz.prog.wantsStandIn u) = true := by kernel_rfl
  exact (show Tryz.prog.wantsStandIn t = false by simpa using List.all_eq_true.1 hall t hm)

theorem card : Rows.DeltaUndoneCardSaid :=
  Claim7.holds_tied_plain_at .later [] _ _ _ _ said (fun _ h => by cases h) (by kernel_rfl) (fun _ h => by cases h) deltaUndone_row_tie rfl ⟨rfl, rfl⟩ (by kernel_rfl) rfl plainly (by kernel_rfl)
end Go.Proofs.YtgildlfanfbebaaGreatDoor.fnDeltaUndone
namespace Go.Proofs.YtgildlfanfbebaaGreatDoor
theorem deltaUndone_card : Rows.DeltaUndoneCardSaid := fnDeltaUndone.card
end Go.Proofs.YtgildlfanfbebaaGreatDoor
