/- DeltaForm, for every two lists of entries: from its walk to its row and its card. -/
import Derived.Test.YtgildlfanfbebaaGreatDoorRows
import Derived.Test.YtgildlfanfbebaaGreatDoorPlain
import Derived.LaidHandle
import Derived.LaidLaws
import Derived.Stop.Joined
import Derived.Lib.LaidTab
import Derived.SliceStrings
import Derived.Laws.Tables
import Derived.Test.YtgildlfanfbebaaGreatDoorEntW
import Derived.Deep.Slices
import Derived.Deep.Strs
import Derived.ChangeArms
import Derived.SizedLaws
import Derived.Test.YtgildlfanfbebaaGreatDoorWkD
import Derived.Test.YtgildlfanfbebaaGreatDoorCards
import Derived.Test.YtgildlfanfbebaaGreatDoorTie
import Derived.ProofKit
import Derived.OpenShut
import Derived.Deep.DeepHandedRow
import Derived.SevenTiedAt

namespace Go.Proofs.YtgildlfanfbebaaGreatDoor
open Go.ChangeShapes Go.WideShapes Go.RowKit

theorem own : ownKnob Tryz.prog.godebug = none := by kernel_rfl
theorem l_et : Tryz.prog.globalNamed "errors.errorType" = some 0 := by kernel_rfl
theorem l_rt : (Tryz.prog.cutTypes.find? (·.1 == "internal/reflectlite.rtype")).map (·.2) = some 157 := by kernel_rfl
theorem l_oneRow : ((List.range 252).filter fun t => Tryz.prog.rowNamed t [101, 114, 114, 111, 114]) = [30] := by kernel_rfl
theorem l_size : Tryz.prog.types.size = 252 := by kernel_rfl

abbrev listedU : List (String × DataW Unit) := [("unicode/utf8.acceptRanges", Rows.laid_unicode_utf8_acceptRanges), ("errors.errorType", Rows.laid_errors_errorType), ("unicode/utf8.first", Rows.laid_unicode_utf8_first)]
set_option maxRecDepth 100000 in
theorem handle_of_laidU {W : World} (h : laidMetH Tryz.prog listedU W) : ErrType W := by
  have h2 : laidMet Tryz.prog [("unicode/utf8.acceptRanges", Rows.laid_unicode_utf8_acceptRanges), ("unicode/utf8.first", Rows.laid_unicode_utf8_first)] W ∧ handlesMet Tryz.prog [("errors.errorType", Rows.laid_errors_errorType)] W := h
  obtain ⟨name, u, ty, e1, e2, e3, e4, e5⟩ := h2.2 _ (List.mem_singleton.2 rfl)
  have en : name = [101, 114, 114, 111, 114] := (Option.some.inj e1).symm
  subst en
  obtain rfl := Option.some.inj (l_rt.symm.trans e2)
  have hm : ty ∈ (List.range 252).filter fun t => Tryz.prog.rowNamed t [101, 114, 114, 111, 114] := List.mem_filter.2 ⟨List.mem_range.2 (by rw [← l_size]; exact e3), e4⟩
  rw [l_oneRow] at hm
  obtain rfl := List.mem_singleton.1 hm
  have hh : typeHandle Tryz.prog 30 = .pointer (some ⟨4, 30, none⟩) := by kernel_rfl
  rw [hh] at e5
  have h3 := World.var?_cell l_et e5 0
  unfold ErrType
  simpa using h3
def numsOf : DataW Unit → List Value
  | .lit (.int k n) => [.int k n]
  | .agg ds => ds.flatMap fun
    | .lit (.int k n) => [Value.int k n]
    | .agg es => es.map fun
      | .lit (.int k n) => Value.int k n
      | _ => .int .i64 0
    | _ => []
  | _ => []
noncomputable def laidWorldU (os : Os) : World :=
  (((World.holding Tryz.prog os ⟨#[], #[], []⟩).setRow 3 (numsOf Rows.laid_unicode_utf8_acceptRanges).toArray).setRow 2 (numsOf Rows.laid_unicode_utf8_first).toArray).setRow 0 #[.iface 157 (.agg #[.pointer (some ⟨4, 30, none⟩)])]
end Go.Proofs.YtgildlfanfbebaaGreatDoor

namespace Go.Proofs.YtgildlfanfbebaaGreatDoor
open Go.ChangeShapes Go.WideShapes Go.RowKit

theorem ent_size : Tryz.prog.cellsOf 52 = 5 := by kernel_rfl
theorem bulk_mem {H : Type} : ∀ {ds : List (DataW H)} {d : DataW H}, d ∈ ds → Rows.uptoBulk d ≤ Rows.uptoBulkAll ds
  | [], _, h => by cases h
  | y :: ds, d, h => by
    rw [Rows.uptoBulkAll]
    rcases List.mem_cons.1 h with rfl | h
    · omega
    · have := bulk_mem h; omega
theorem bulk_len {H : Type} : ∀ {ds : List (DataW H)}, (∀ d ∈ ds, 1 ≤ Rows.uptoBulk d) → ds.length ≤ Rows.uptoBulkAll ds
  | [], _ => by simp
  | y :: ds, h => by
    rw [Rows.uptoBulkAll, List.length_cons]
    have h1 := h y (by simp)
    have h2 := bulk_len (ds := ds) (fun d hd => h d (by simp [hd]))
    omega
set_option maxRecDepth 100000 in
/-- One entry's cells and datum. -/
theorem open_one {H : Type} {enc : TypeId × Value → H} {W : World} {n : Nat} {cs : List Value} {x : DataW H × List MemPlace} (hlen : cs.length = 5) (hf : DataW.trod enc Tryz.prog W 0 (fun _ => true) true n 52 cs = some x) :
    ∃ e : Ent, cs = ecs e ∧ x.1 = .agg [.lit (.string e.path.data.toList), .lit (.int .i64 e.kind), .lit (.int .i64 e.mode), .lit (.string e.data.data.toList), .lit (.string e.link.data.toList)] := by
  obtain ⟨xs, n, _, hx, hl, hlen2, hff⟩ := DataW.trod_struct Tryz.underlying52 hf
  obtain ⟨v0, v1, v2, v3, v4, hvs⟩ : ∃ v0 v1 v2 v3 v4, cs = [v0, v1, v2, v3, v4] := by
    match cs, hlen with
    | [v0, v1, v2, v3, v4], _ => exact ⟨v0, v1, v2, v3, v4, rfl⟩
  obtain ⟨y0, y1, y2, y3, y4, hys⟩ : ∃ y0 y1 y2 y3 y4, xs = [y0, y1, y2, y3, y4] := by
    match xs, hlen2 with
    | [y0, y1, y2, y3, y4], _ => exact ⟨y0, y1, y2, y3, y4, rfl⟩
  subst hys
  subst hvs
  have m0 : Tryz.prog.cellsOf 50 = 1 := by kernel_rfl
  have m1 : Tryz.prog.cellsOf 3 = 1 := by kernel_rfl
  have m2 : Tryz.prog.cellsOf 9 = 1 := by kernel_rfl
  have g0 : DataW.trod enc Tryz.prog W 0 (fun _ => true) true n 9 [v0] = some y0 := by
    have e : DataW.trod enc Tryz.prog W 0 (fun _ => true) true n 9 ((([v0, v1, v2, v3, v4] : List Value).drop 0).take (Tryz.prog.cellsOf 9)) = some y0 := hff 0 _ rfl
    rw [m2] at e
    exact e
  have g1 : DataW.trod enc Tryz.prog W 0 (fun _ => true) true n 50 [v1] = some y1 := by
    have e : DataW.trod enc Tryz.prog W 0 (fun _ => true) true n 50 ((([v0, v1, v2, v3, v4] : List Value).drop 1).take (Tryz.prog.cellsOf 50)) = some y1 := hff 1 _ rfl
    rw [m0] at e
    exact e
  have g2 : DataW.trod enc Tryz.prog W 0 (fun _ => true) true n 3 [v2] = some y2 := by
    have e : DataW.trod enc Tryz.prog W 0 (fun _ => true) true n 3 ((([v0, v1, v2, v3, v4] : List Value).drop 2).take (Tryz.prog.cellsOf 3)) = some y2 := hff 2 _ rfl
    rw [m1] at e
    exact e
  have g3 : DataW.trod enc Tryz.prog W 0 (fun _ => true) true n 9 [v3] = some y3 := by
    have e : DataW.trod enc Tryz.prog W 0 (fun _ => true) true n 9 ((([v0, v1, v2, v3, v4] : List Value).drop 3).take (Tryz.prog.cellsOf 9)) = some y3 := hff 3 _ rfl
    rw [m2] at e
    exact e
  have g4 : DataW.trod enc Tryz.prog W 0 (fun _ => true) true n 9 [v4] = some y4 := by
    have e : DataW.trod enc Tryz.prog W 0 (fun _ => true) true n 9 ((([v0, v1, v2, v3, v4] : List Value).drop 4).take (Tryz.prog.cellsOf 9)) = some y4 := hff 4 _ rfl
    rw [m2] at e
    exact e
  clear hff
  obtain ⟨s0, a0, b0, _⟩ := DataW.trod_string Tryz.underlying9 g0
  obtain rfl := (List.cons.inj a0).1
  subst b0
  obtain ⟨i1, a1, b1, w1⟩ := DataW.trod_int Tryz.underlying50 g1
  obtain rfl := (List.cons.inj a1).1
  subst b1
  obtain ⟨i2, a2, b2, w2⟩ := DataW.trod_int Tryz.underlying3 g2
  obtain rfl := (List.cons.inj a2).1
  subst b2
  obtain ⟨s3, a3, b3, _⟩ := DataW.trod_string Tryz.underlying9 g3
  obtain rfl := (List.cons.inj a3).1
  subst b3
  obtain ⟨s4, a4, b4, _⟩ := DataW.trod_string Tryz.underlying9 g4
  obtain rfl := (List.cons.inj a4).1
  subst b4
  exact ⟨⟨s0, i1, i2, s3, s4⟩, rfl, congrArg Prod.fst hx⟩
set_option maxRecDepth 100000 in
theorem open_ents {H : Type} {enc : TypeId × Value → H} {W : World} {b0 : Nat} {v : Value} {d : DataW H} {p : List MemPlace}
    (hv : Value.okWide Tryz.prog W .any b0 22 v) (h : DataW.Trod enc Tryz.prog W 0 (fun _ => true) true 22 v d p) : ∃ l : List Ent, EntsAt W v l ∧ l.length ≤ Rows.uptoBulk d ∧ ∀ x ∈ l, x.path.size ≤ Rows.uptoBulk d ∧ x.link.size ≤ Rows.uptoBulk d ∧ x.data.size ≤ Rows.uptoBulk d := by
  obtain ⟨a0, len0, cap0, rfl⟩ := okWide_slice Tryz.underlying22 hv
  obtain ⟨fuel, hf⟩ := h
  rcases Go.Deep.open_slice Tryz.underlying22 hf with ⟨hcs, hx⟩ | ⟨a, len, cap, m, n, D, Pl, hcs, _, hl, hm, hmm, hx, hall⟩
  · have e : Value.slice a0 len0 cap0 = .slice none 0 0 := by simpa [Value.cells] using hcs
    rw [e]
    exact ⟨[], ⟨none, 0, 0, 0, rfl, fun h => absurd rfl h, Nat.le_refl _, fun i x h => by simp at h⟩, by simp, fun x h => by cases h⟩
  · have e : Value.slice a0 len0 cap0 = .slice (some a) len cap := by simpa [Value.cells] using hcs
    rw [e]
    rw [if_pos rfl] at hmm
    have e2 : d = .slice ((List.range len).map D) ((List.range (m - len)).map fun j => D (len + j)) := congrArg Prod.fst hx
    have each : ∀ i, i < len → ∃ x : Ent, (∀ j v, (ecs x)[j]? = some v → W.cell? (a.add (i * 5 + j)) = some v) ∧ D i = .agg [.lit (.string x.path.data.toList), .lit (.int .i64 x.kind), .lit (.int .i64 x.mode), .lit (.string x.data.data.toList), .lit (.string x.link.data.toList)] := by
      intro i hi
      obtain ⟨cs', h1, h2⟩ := hall i (by omega)
      rw [ent_size] at h1
      obtain ⟨_, hlen, hcell⟩ := World.cells?_some h1
      obtain ⟨x, hxe, hxd⟩ := open_one hlen h2
      refine ⟨x, fun j v hj => ?_, hxd⟩
      have hj5 : j < 5 := (List.getElem?_eq_some_iff.1 hj).1
      have c := hcell j (by omega)
      rw [Go.Deep.add_add] at c
      rw [c]
      subst hxe
      first | exact hj | (rw [← hj]; simp) | simpa using hj
    obtain ⟨f, hfx⟩ : ∃ f : Nat → Ent, ∀ i, i < len → (∀ j v, (ecs (f i))[j]? = some v → W.cell? (a.add (i * 5 + j)) = some v) ∧ D i = .agg [.lit (.string (f i).path.data.toList), .lit (.int .i64 (f i).kind), .lit (.int .i64 (f i).mode), .lit (.string (f i).data.data.toList), .lit (.string (f i).link.data.toList)] :=
      ⟨fun i => if h : i < len then Classical.choose (each i h) else ⟨⟨#[]⟩, 0, 0, ⟨#[]⟩, ⟨#[]⟩⟩, fun i hi => by simp only [dif_pos hi]; exact Classical.choose_spec (each i hi)⟩
    have hD : ∀ i, i < len → (f i).path.size + (f i).data.size + (f i).link.size + 2 ≤ Rows.uptoBulk (D i) := fun i hi => by
      rw [(hfx i hi).2]
      have hs : (f i).path.data.toList.length = (f i).path.size := un_length _
      have hs2 : (f i).data.data.toList.length = (f i).data.size := un_length _
      have hs3 : (f i).link.data.toList.length = (f i).link.size := un_length _
      simp only [Rows.uptoBulk, Rows.uptoBulkAll, hs, hs2, hs3]
      omega
    have hmem : ∀ i, i < len → D i ∈ (List.range len).map D := fun i hi => List.mem_map_of_mem (List.mem_range.2 hi)
    have hbk : Rows.uptoBulkAll ((List.range len).map D) ≤ Rows.uptoBulk d := by rw [e2]; simp only [Rows.uptoBulk]; omega
    refine ⟨(List.range len).map f, ?_, ?_, ?_⟩
    · by_cases h0 : len = 0
      · subst h0
        exact ⟨some a, cap, 0, 0, by simp, fun h => absurd rfl h, by simp, fun i x h => by simp at h⟩
      · obtain ⟨b, off, spot⟩ := a
        have hc0 := (hfx 0 (by omega)).1 0 _ rfl
        have hspot : spot = none := by simpa [Addr.add] using World.cell?_spot hc0
        subst hspot
        refine ⟨some ⟨b, off, none⟩, cap, b, off, by simp, fun _ => rfl, by simpa using hl, fun i x hi => ?_⟩
        have h1 : i < len := by have := (List.getElem?_eq_some_iff.1 hi).1; simpa using this
        have hx2 : x = f i := by simpa [h1] using hi.symm
        subst hx2
        have hc : ∀ j v, (ecs (f i))[j]? = some v → W.cell? ⟨b, off + i * 5 + j, none⟩ = some v := fun j v hj => by
          have := (hfx i h1).1 j v hj
          rw [Addr.add_mid] at this
          rw [Nat.add_assoc]; exact this
        exact ⟨hc 0 _ rfl, hc 1 _ rfl, hc 2 _ rfl, hc 3 _ rfl, hc 4 _ rfl⟩
    · have := bulk_len (ds := (List.range len).map D) (fun y hy => by
        obtain ⟨i, hi, rfl⟩ := List.mem_map.1 hy
        have := hD i (List.mem_range.1 hi); omega)
      rw [List.length_map] at this ⊢
      omega
    · intro x hx3
      obtain ⟨i, hi, rfl⟩ := List.mem_map.1 hx3
      have h1 := hD i (List.mem_range.1 hi)
      have h2 := bulk_mem (hmem i (List.mem_range.1 hi))
      exact ⟨by omega, by omega, by omega⟩
end Go.Proofs.YtgildlfanfbebaaGreatDoor

namespace Go.Proofs.YtgildlfanfbebaaGreatDoor
open Go.ChangeShapes Go.WideShapes Go.RowKit

theorem all_weightsE {H : Type} {P : Program} {e : TypeId} (k : Nat) : ∀ (ds : List (DataW H)) (d : DataW H), d ∈ ds → k ∈ DataW.weights P e d → k ∈ DataW.weightsAll P e ds
  | [], _, h, _ => by cases h
  | y :: ds, d, h, hk => by
    rw [DataW.weightsAll, List.mem_append]
    rcases List.mem_cons.1 h with rfl | h
    · exact Or.inl hk
    · exact Or.inr (all_weightsE k ds d h hk)
theorem ent_bytes : Tryz.prog.bytesOf 52 = 64 := by kernel_rfl
def entD {H : Type} (e : Ent) : DataW H := .agg [.lit (.string e.path.data.toList), .lit (.int .i64 e.kind), .lit (.int .i64 e.mode), .lit (.string e.data.data.toList), .lit (.string e.link.data.toList)]
set_option maxRecDepth 100000 in
theorem open_ents_sized {H : Type} {enc : TypeId × Value → H} {W : World} {b0 j : Nat} {v : Value} {d : DataW H} {p : List MemPlace} {ts : List TypeId} {ds : List (DataW H)}
    (hz : (DataW.weightsEach Tryz.prog ts ds).all (· ≤ reachBytes) = true) (ht : ts[j]? = some 22) (hd : ds[j]? = some d)
    (hv : Value.okWide Tryz.prog W .any b0 22 v) (h : DataW.Trod enc Tryz.prog W 0 (fun _ => true) true 22 v d p) : ∃ l : List Ent, EntsAt W v l ∧ l.length ≤ 4611686018427387904 ∧ ∀ x ∈ l, x.path.size < 1152921504606846976 := by
  obtain ⟨a0, len0, cap0, rfl⟩ := okWide_slice Tryz.underlying22 hv
  have er : reachBytes = 140737488351232 := rfl
  obtain ⟨fuel, hf⟩ := h
  rcases Go.Deep.open_slice Tryz.underlying22 hf with ⟨hcs, hx⟩ | ⟨a, len, cap, m, n, D, Pl, hcs, _, hl, hm, hmm, hx, hall⟩
  · have e : Value.slice a0 len0 cap0 = .slice none 0 0 := by simpa [Value.cells] using hcs
    rw [e]
    exact ⟨[], ⟨none, 0, 0, 0, rfl, fun h => absurd rfl h, Nat.le_refl _, fun i x h => by simp at h⟩, by simp, fun x h => by cases h⟩
  · have e : Value.slice a0 len0 cap0 = .slice (some a) len cap := by simpa [Value.cells] using hcs
    rw [e]
    rw [if_pos rfl] at hmm
    have e2 : d = .slice ((List.range len).map D) ((List.range (m - len)).map fun j => D (len + j)) := congrArg Prod.fst hx
    rw [e2] at hd
    have each : ∀ i, i < len → ∃ s : Ent, (∀ j v, (ecs s)[j]? = some v → W.cell? (a.add (i * 5 + j)) = some v) ∧ D i = entD s := by
      intro i hi
      obtain ⟨cs', h1, h2⟩ := hall i (by omega)
      rw [ent_size] at h1
      obtain ⟨_, hlen, hcell⟩ := World.cells?_some h1
      obtain ⟨s, hxe, hxd⟩ := open_one hlen h2
      refine ⟨s, fun j v hj => ?_, hxd⟩
      have hj5 : j < 5 := (List.getElem?_eq_some_iff.1 hj).1
      have c := hcell j (by omega)
      rw [Go.Deep.add_add] at c
      rw [c]
      subst hxe
      first | exact hj | (rw [← hj]; simp) | simpa using hj
    obtain ⟨f, hfx⟩ : ∃ f : Nat → Ent, ∀ i, i < len → (∀ j v, (ecs (f i))[j]? = some v → W.cell? (a.add (i * 5 + j)) = some v) ∧ D i = entD (f i) :=
      ⟨fun i => if h : i < len then Classical.choose (each i h) else ⟨⟨#[]⟩, 0, 0, ⟨#[]⟩, ⟨#[]⟩⟩, fun i hi => by simp only [dif_pos hi]; exact Classical.choose_spec (each i hi)⟩
    have hs1 := sized_slice hz ht hd Tryz.underlying22
    rw [ent_bytes, List.length_map, List.length_map, List.length_range, List.length_range] at hs1
    refine ⟨(List.range len).map f, ?_, by rw [List.length_map, List.length_range]; omega, ?_⟩
    · by_cases h0 : len = 0
      · subst h0
        exact ⟨some a, cap, 0, 0, by simp, fun h => absurd rfl h, by simp, fun i x h => by simp at h⟩
      · obtain ⟨b, off, spot⟩ := a
        have hc0 := (hfx 0 (by omega)).1 0 _ rfl
        have hspot : spot = none := by simpa [Addr.add] using World.cell?_spot hc0
        subst hspot
        refine ⟨some ⟨b, off, none⟩, cap, b, off, by simp, fun _ => rfl, by simpa using hl, fun i x hi => ?_⟩
        have h1 : i < len := by have := (List.getElem?_eq_some_iff.1 hi).1; simpa using this
        have hx2 : x = f i := by simpa [h1] using hi.symm
        subst hx2
        have hc : ∀ j v, (ecs (f i))[j]? = some v → W.cell? ⟨b, off + i * 5 + j, none⟩ = some v := fun j v hj => by
          have := (hfx i h1).1 j v hj
          rw [Addr.add_mid] at this
          rw [Nat.add_assoc]; exact this
        exact ⟨hc 0 _ rfl, hc 1 _ rfl, hc 2 _ rfl, hc 3 _ rfl, hc 4 _ rfl⟩
    · intro x hx3
      obtain ⟨i, hi, rfl⟩ := List.mem_map.1 hx3
      have hi2 := List.mem_range.1 hi
      have wt : ∀ k, k ∈ DataW.weights Tryz.prog 52 (D i) → k ≤ reachBytes := fun k hk => by
        have hw := List.all_eq_true.1 hz _ (DataW.weights_mem_each ht hd k (by
          have h9 := all_weightsE (P := Tryz.prog) (e := 52) k ((List.range len).map D) (D i) (List.mem_map_of_mem hi) hk
          simp [DataW.weights, Tryz.underlying22, h9]))
        exact of_decide_eq_true hw
      have hs : (f i).path.data.toList.length = (f i).path.size := un_length _
      have w1 := wt (f i).path.size (by
        rw [(hfx i hi2).2]
        simp [entD, DataW.weights, DataW.weightsEach, Tryz.underlying52, hs])
      omega
end Go.Proofs.YtgildlfanfbebaaGreatDoor

namespace Go.Proofs.YtgildlfanfbebaaGreatDoor
open Go Go.RowKit Go.Shelf

theorem row_form {W : World} {base : Nat} {e : TypeId} {size n : Nat} {v : Value} {xs : List Value} (h : W.ownsRow base e size v n xs) : ∃ a cap, v = .slice a n cap := by
  rcases h.2 with ⟨rfl, rfl⟩ | ⟨g, cap, cur, rfl, _⟩
  · exact ⟨none, 0, rfl⟩
  · exact ⟨_, _, rfl⟩
theorem runs_apply : ∀ (l : List Chg) (L L' : List Ent) (k : Nat), runs L l = some L' → applyGo L l k = if overB L' then ((5, 1, ((k + l.length : Nat) : Int)), []) else ((0, 0, 0), L')
  | [], L, L', k, h => by
    rw [runs] at h
    rw [applyGo, Option.some.inj h]; rfl
  | c :: l, L, L', k, h => by
    rw [runs] at h
    split at h
    · rename_i hd
      rw [applyGo, if_neg (by simpa using hd), runs_apply l _ L' (k + 1) h]
      simp only [List.length_cons]
      rw [show k + 1 + l.length = k + (l.length + 1) by omega]
    · cases h
theorem tree_over {b : List Ent} (h : (checkGo [] b).1 = 0) : overB b = false := by
  have := tree_few h
  unfold overB
  simp; omega
theorem makes_apply {a b : List Ent} (ha : (checkGo [] a).1 = 0) (hb : (checkGo [] b).1 = 0) : applyR a (unlikeL a b) = ((0, 0, 0), b) := by
  unfold applyR
  rw [if_neg (by simpa using ha), runs_apply _ a b 0 (makes_pure (tree_tr ha) (tree_tr hb)), tree_over hb]; rfl
theorem togL_mem : ∀ (n : Nat) (A B : List Ent), A.length + B.length ≤ n → ∀ p ∈ togL A B, (p.1 ∈ A ∨ p.1 = noEnt) ∧ (p.2 ∈ B ∨ p.2 = noEnt) := by
  intro n
  induction n with
  | zero =>
    intro A B h p hp
    obtain rfl : A = [] := List.eq_nil_of_length_eq_zero (by omega)
    obtain rfl : B = [] := List.eq_nil_of_length_eq_zero (by omega)
    rw [togL] at hp; simp at hp
  | succ n ih =>
    intro A B h p hp
    by_cases hb : A = [] ∧ B = []
    · obtain ⟨rfl, rfl⟩ := hb; rw [togL] at hp; simp at hp
    · rcases Int.lt_trichotomy (nearN A B) 0 with hlt | heq | hgt
      · have hA : A ≠ [] := by
          rintro rfl
          cases B with
          | nil => exact hb ⟨rfl, rfl⟩
          | cons y B => simp [nearN] at hlt
        obtain ⟨x, A', rfl, ht⟩ := togL_lt hlt hA
        rw [ht] at hp
        rcases List.mem_cons.1 hp with rfl | hp
        · exact ⟨.inl (by simp), .inr rfl⟩
        · obtain ⟨h1, h2⟩ := ih A' B (by simp at h; omega) p hp
          exact ⟨h1.imp (fun h => by simp [h]) id, h2⟩
      · obtain ⟨x, A', y, B', rfl, rfl, ht⟩ := togL_eq heq
        rw [ht] at hp
        rcases List.mem_cons.1 hp with rfl | hp
        · exact ⟨.inl (by simp), .inl (by simp)⟩
        · obtain ⟨h1, h2⟩ := ih A' B' (by simp at h; omega) p hp
          exact ⟨h1.imp (fun h => by simp [h]) id, h2.imp (fun h => by simp [h]) id⟩
      · obtain ⟨y, B', rfl, ht⟩ := togL_gt hgt
        rw [ht] at hp
        rcases List.mem_cons.1 hp with rfl | hp
        · exact ⟨.inr rfl, .inl (by simp)⟩
        · obtain ⟨h1, h2⟩ := ih A B' (by simp at h; omega) p hp
          exact ⟨h1, h2.imp (fun h => by simp [h]) id⟩
theorem emL_mem : ∀ (ps : List (Ent × Ent)) (top : ByteArray) (c : Chg), c ∈ emL top ps → ∃ x ∈ ps, (c = goneC x.1.path ∧ x.1.kind ≠ 0) ∨ (c = laidC x.2 ∧ x.2.kind ≠ 0)
  | [], top, c, h => by simp [emL] at h
  | x :: ps, top, c, h => by
    rw [emL] at h
    rcases List.mem_append.1 h with h | h
    · refine ⟨x, by simp, ?_⟩
      unfold emO at h
      rcases List.mem_append.1 h with h | h
      · split at h
        · rename_i hl
          simp at h
          unfold lostB at hl
          simp only [Bool.and_eq_true, bne_iff_ne] at hl
          exact .inl ⟨h, hl.1⟩
        · simp at h
      · split at h
        · rename_i hl
          simp at h
          unfold newB at hl
          simp only [Bool.and_eq_true, bne_iff_ne] at hl
          exact .inr ⟨h, hl.1⟩
        · simp at h
    · obtain ⟨y, hy, h2⟩ := emL_mem ps _ c h
      exact ⟨y, by simp [hy], h2⟩
theorem unlike_mem {a b : List Ent} {c : Chg} (h : c ∈ unlikeL a b) : (∃ x ∈ a, c = goneC x.path) ∨ (∃ y ∈ b, c = laidC y) := by
  obtain ⟨p, hp, h2⟩ := emL_mem _ _ c h
  obtain ⟨h3, h4⟩ := togL_mem _ a b (Nat.le_refl _) p hp
  rcases h2 with ⟨rfl, hk⟩ | ⟨rfl, hk⟩
  · rcases h3 with h3 | h3
    · exact .inl ⟨_, h3, rfl⟩
    · rw [h3] at hk; exact absurd rfl hk
  · rcases h4 with h4 | h4
    · exact .inr ⟨_, h4, rfl⟩
    · rw [h4] at hk; exact absurd rfl hk
theorem unlike_len (a b : List Ent) : (unlikeL a b).length ≤ 2 * (a.length + b.length) := by
  have h1 := emL_len (togL a b) ⟨#[]⟩
  have h2 := togL_len _ a b (Nat.le_refl _)
  unfold unlikeL
  omega
theorem unlike_paths {a b : List Ent} (ha : ∀ e ∈ a, e.path.size ≤ 255) (hb : ∀ e ∈ b, e.path.size ≤ 255) : ∀ c ∈ unlikeL a b, c.path.size < 1152921504606846976 ∧ c.e.path.size < 1152921504606846976 := fun c hc => by
  rcases unlike_mem hc with ⟨x, hx, rfl⟩ | ⟨y, hy, rfl⟩
  · have := ha x hx
    exact ⟨by show x.path.size < _; omega, by show (0 : Nat) < _; omega⟩
  · have := hb y hy
    exact ⟨by show y.path.size < _; omega, by show y.path.size < _; omega⟩
theorem chkV_no {a : List Ent} (h : (checkGo [] a).1 ≠ 0) : chkV a = .iface 94 (.agg #[.int .i64 (checkGo [] a).1, .int .i64 0, .int .i64 (checkGo [] a).2]) := if_neg h
set_option maxRecDepth 100000 in
set_option maxHeartbeats 4000000 in
theorem deltamakes_law (u v : Value) (a b : List Ent) (w : World) (hg : ErrType w) (hu : EntsAt w u a) (hv : EntsAt w v b) (hla : a.length ≤ 4611686018427387904) (hlb : b.length ≤ 4611686018427387904) (hpa : ∀ e ∈ a, e.path.size < 1152921504606846976) (hpb : ∀ e ∈ b, e.path.size < 1152921504606846976) :
    Calls Tryz.prog 6 #[u, v] w fun e w' => e = .returned (.bool true) ∧ Below w.heap.size w w' := by
  have hDf := diff_d u v a b w hg hu hv hla hlb hpa hpb
  have HCa : Hid (∀ W, Below w.heap.size w W → Calls Tryz.prog 25 #[u] W fun e w' => e = .returned (chkV a) ∧ Below W.heap.size W w') := fun W hb => check_t u a W (hg.below hb) (hu.below hb) hla hpa
  have HCb : Hid (∀ W, Below w.heap.size w W → Calls Tryz.prog 25 #[v] W fun e w' => e = .returned (chkV b) ∧ Below W.heap.size W w') := fun W hb => check_t v b W (hg.below hb) (hv.below hb) hlb hpb
  have HW : Hid (∀ W, Below w.heap.size w W → Calls Tryz.prog 16 #[] W fun e w' => e = .returned (.bool true) ∧ Below W.heap.size W w') := fun W hb => works_d W (hg.below hb)
  have HU : Hid (EntsAt w u a ∧ EntsAt w v b ∧ ErrType w) := ⟨hu, hv, hg⟩
  by_cases ha : (checkGo [] a).1 = 0
  · have HA : Hid (chkV a = .nilIface) := if_pos ha
    by_cases hb : (checkGo [] b).1 = 0
    · have HB : Hid (chkV b = .nilIface) := if_pos hb
      have HR : Hid (diffR a b = ((0, 0, 0), unlikeL a b)) := by unfold Hid diffR; rw [if_neg (by simpa using ha), if_neg (by simpa using hb)]
      rw [HR.out] at hDf
      have HAP : Hid (∀ (l : Value) W, Below w.heap.size w W → ChgsAt W l (unlikeL a b) → Calls Tryz.prog 19 #[u, l] W fun e w' => ∃ c, e = .returned (.tuple #[c, .nilIface]) ∧ EntsAt w' c b ∧ Below W.heap.size W w') := fun l W hbw hl => (apply_d u l a (unlikeL a b) W (hg.below hbw) (hu.below hbw) hl hla (by have h1 := unlike_len a b; have h2 := (tree_few ha).1; have h3 := (tree_few hb).1; omega) hpa (unlike_paths (tree_paths ha) (tree_paths hb))).mono (by
        rintro e w' ⟨c, rfl, h1, h2⟩
        rw [makes_apply ha hb] at h1 ⊢
        exact ⟨c, rfl, ents_of_owns h1, h2⟩)
      have HEM : Hid (unlikeL a b = [] ↔ a = b) := makes_empty (tree_tr ha) (tree_tr hb)
      have HLN : Hid (a.length ≤ 4096 ∧ b.length ≤ 4096) := ⟨(tree_few ha).1, (tree_few hb).1⟩
      clear ha hb hu hv hpa hpb hg
      go_enter Tryz.func6, Tryz.ntmps6
      go_wp2_with fail
      refine hDf.mono ?_
      rintro e w1 ⟨l, rfl, hl, h1⟩
      rw [show errF (0, 0, 0) = .nilIface from rfl]
      obtain ⟨la, lc, rfl⟩ := row_form hl
      have HL : Hid (ChgsAt w1 (.slice la (unlikeL a b).length lc) (unlikeL a b)) := chgs_of_owns hl
      clear hDf hl
      go_wp2_with fail
      refine (HCa.out _ h1).mono ?_
      rintro e w2 ⟨rfl, h2⟩
      rw [HA.out]
      go_wp2_with fail
      refine (HCb.out _ (below_join h1 h2)).mono ?_
      rintro e w3 ⟨rfl, h3⟩
      rw [HB.out]
      have hB3 := below_join (below_join h1 h2) h3
      have hC := HAP.out _ w3 hB3 (HL.out.below (below_join h2 h3))
      go_wp2_with fail
      refine hC.mono ?_
      rintro e w4 ⟨c, rfl, hc, h4⟩
      have hB4 := below_join hB3 h4
      have hcf : ∃ x n y, c = .slice x n y := by
        obtain ⟨x, y, _, _, rfl, _⟩ := hc
        exact ⟨x, _, y, rfl⟩
      obtain ⟨cx, cn, cy, rfl⟩ := hcf
      have hS1 := same_p _ v b w4 hc (HU.out.2.1.below hB4) (by have := HLN.out.2; omega)
      go_wp2_with fail
      refine hS1.mono ?_
      rintro e w5 ⟨rfl, h5⟩
      have hB5 := below_join hB4 h5
      have hS2 := sameE_p u v a b w5 (HU.out.1.below hB5) (HU.out.2.1.below hB5) (by have := HLN.out.1; omega)
      clear hS1 hC
      go_wp2_with fail
      refine hS2.mono ?_
      rintro e w6 ⟨r, rfl, hr, h6⟩
      have hB6 := below_join hB5 h6
      have hwk := HW.out _ hB6
      have HRR : Hid (((((unlikeL a b).length : Int) == 0) == r) = true) := by
        unfold Hid
        cases r with
        | true =>
          have := HEM.out.2 (hr.1 rfl)
          simp [this]
        | false =>
          have : unlikeL a b ≠ [] := fun e => by have := hr.2 (HEM.out.1 e); cases this
          have h9 : (unlikeL a b).length ≠ 0 := fun e => this (List.eq_nil_of_length_eq_zero e)
          simp; exact this
      have hRR := HRR.out
      clear hS2 hr
      generalize ((unlikeL a b).length : Int) = ln at *
      go_wp2_with (go_at_call 16; refine hwk.mono ?_; rintro e w7 ⟨rfl, h7⟩)
      go_ret
      exact ⟨rfl, below_join hB6 h7⟩
    · have HB : Hid (chkV b = .iface 94 (.agg #[.int .i64 (checkGo [] b).1, .int .i64 0, .int .i64 (checkGo [] b).2])) := chkV_no hb
      have HR : Hid (diffR a b = (((checkGo [] b).1, (1 : Int), ((checkGo [] b).2 : Int)), ([] : List Chg)) ∧ errF ((checkGo [] b).1, (1 : Int), ((checkGo [] b).2 : Int)) = .iface 94 (.agg #[.int .i64 (checkGo [] b).1, .int .i64 1, .int .i64 (checkGo [] b).2])) := ⟨by unfold diffR; rw [if_neg (by simpa using ha), if_pos hb], if_neg hb⟩
      rw [HR.out.1] at hDf
      clear ha hb hu hv hpa hpb hg
      go_enter Tryz.func6, Tryz.ntmps6
      go_wp2_with fail
      refine hDf.mono ?_
      rintro e w1 ⟨l, rfl, hl, h1⟩
      rw [HR.out.2]
      obtain ⟨la, lc, rfl⟩ := row_form hl
      clear hDf hl
      go_wp2_with fail
      refine (HCa.out _ h1).mono ?_
      rintro e w2 ⟨rfl, h2⟩
      rw [HA.out]
      go_wp2_with fail
      refine (HCb.out _ (below_join h1 h2)).mono ?_
      rintro e w3 ⟨rfl, h3⟩
      rw [HB.out]
      have hB3 := below_join (below_join h1 h2) h3
      have hwk := HW.out _ hB3
      go_wp2_with (go_at_call 16; refine hwk.mono ?_; rintro e w7 ⟨rfl, h7⟩)
      go_ret
      exact ⟨rfl, below_join hB3 h7⟩
  · have HA : Hid (chkV a = .iface 94 (.agg #[.int .i64 (checkGo [] a).1, .int .i64 0, .int .i64 (checkGo [] a).2])) := chkV_no ha
    have HR : Hid (diffR a b = (((checkGo [] a).1, (0 : Int), ((checkGo [] a).2 : Int)), ([] : List Chg)) ∧ errF ((checkGo [] a).1, (0 : Int), ((checkGo [] a).2 : Int)) = .iface 94 (.agg #[.int .i64 (checkGo [] a).1, .int .i64 0, .int .i64 (checkGo [] a).2])) := ⟨by unfold diffR; rw [if_pos ha], if_neg ha⟩
    rw [HR.out.1] at hDf
    clear ha hu hv hpa hpb hg
    go_enter Tryz.func6, Tryz.ntmps6
    go_wp2_with fail
    refine hDf.mono ?_
    rintro e w1 ⟨l, rfl, hl, h1⟩
    rw [HR.out.2]
    obtain ⟨la, lc, rfl⟩ := row_form hl
    clear hDf hl
    go_wp2_with fail
    refine (HCa.out _ h1).mono ?_
    rintro e w2 ⟨rfl, h2⟩
    rw [HA.out]
    have hB3 := below_join h1 h2
    have hwk := HW.out _ hB3
    go_wp2_with (go_at_call 16; refine hwk.mono ?_; rintro e w7 ⟨rfl, h7⟩)
    go_ret
    exact ⟨rfl, below_join hB3 h7⟩
end Go.Proofs.YtgildlfanfbebaaGreatDoor

namespace Go.Proofs.YtgildlfanfbebaaGreatDoor
open Go Go.RowKit Go.Shelf

theorem emO_len (top : ByteArray) (x : Ent × Ent) : (emO top x).length ≤ (if x.1.kind ≠ 0 then 1 else 0) + (if x.2.kind ≠ 0 then 1 else 0) := by
  unfold emO lostB newB
  by_cases h1 : x.1.kind = 0 <;> by_cases h2 : x.2.kind = 0 <;> simp [h1, h2] <;> (repeat' split) <;> simp
theorem form_len : ∀ (n : Nat) (A B : List Ent) (top : ByteArray), A.length + B.length ≤ n → (emL top (togL A B)).length ≤ A.length + B.length := by
  intro n
  induction n with
  | zero =>
    intro A B top h
    obtain rfl : A = [] := List.eq_nil_of_length_eq_zero (by omega)
    obtain rfl : B = [] := List.eq_nil_of_length_eq_zero (by omega)
    rw [togL, emL]; simp
  | succ n ih =>
    intro A B top h
    by_cases hb : A = [] ∧ B = []
    · obtain ⟨rfl, rfl⟩ := hb; rw [togL, emL]; simp
    · rcases Int.lt_trichotomy (nearN A B) 0 with hlt | heq | hgt
      · have hA : A ≠ [] := by
          rintro rfl
          cases B with
          | nil => exact hb ⟨rfl, rfl⟩
          | cons y B => simp [nearN] at hlt
        obtain ⟨x, A', rfl, ht⟩ := togL_lt hlt hA
        have h1 := ih A' B (topN top (x, noEnt)) (by simp at h; omega)
        have h2 := emO_len top (x, noEnt)
        rw [ht, emL, List.length_append, List.length_cons]
        simp only [show noEnt.kind = 0 from rfl, ne_eq, not_true_eq_false, if_false] at h2
        split at h2 <;> omega
      · obtain ⟨x, A', y, B', rfl, rfl, ht⟩ := togL_eq heq
        have h1 := ih A' B' (topN top (x, y)) (by simp at h; omega)
        have h2 := emO_len top (x, y)
        rw [ht, emL, List.length_append, List.length_cons, List.length_cons]
        split at h2 <;> split at h2 <;> omega
      · obtain ⟨y, B', rfl, ht⟩ := togL_gt hgt
        have h1 := ih A B' (topN top (noEnt, y)) (by simp at h; omega)
        have h2 := emO_len top (noEnt, y)
        rw [ht, emL, List.length_append, List.length_cons]
        simp only [show noEnt.kind = 0 from rfl, ne_eq, not_true_eq_false, if_false] at h2
        split at h2 <;> omega
theorem em_mem {A B : List Ent} {top : ByteArray} {c : Chg} (h : c ∈ emL top (togL A B)) : (∃ x ∈ A, c = goneC x.path) ∨ (∃ y ∈ B, c = laidC y) := by
  obtain ⟨p, hp, h2⟩ := emL_mem _ _ c h
  obtain ⟨h3, h4⟩ := togL_mem _ A B (Nat.le_refl _) p hp
  rcases h2 with ⟨rfl, hk⟩ | ⟨rfl, hk⟩
  · rcases h3 with h3 | h3
    · exact .inl ⟨_, h3, rfl⟩
    · rw [h3] at hk; exact absurd rfl hk
  · rcases h4 with h4 | h4
    · exact .inr ⟨_, h4, rfl⟩
    · rw [h4] at hk; exact absurd rfl hk
/-- c stands ahead of d. -/
def aheadC (c d : Chg) : Prop := (compareN c.path d.path < 0 ∨ (c.path = d.path ∧ c.gone = true ∧ d.gone = false)) ∧ (c.gone = true → d.gone = true → belowB c.path d.path = false)
theorem aheadC_lt {c d : Chg} (h : compareN c.path d.path < 0) (h2 : c.gone = true → d.gone = true → belowB c.path d.path = false) : aheadC c d := ⟨.inl h, h2⟩
theorem goneC_laid {p : ByteArray} {y : Ent} (h : goneC p = laidC y) : False := by
  have := congrArg Chg.gone h
  simp [goneC, laidC] at this
/-- What is below something that is gone is below the last thing that is gone. -/
theorem form_go {a b : List Ent} (ha : a.Pairwise ltE) (hb : b.Pairwise ltE) (hfa : ∀ e ∈ a, e.path.size ≠ 0) : ∀ (n : Nat) (A0 A B : List Ent) (top : ByteArray), A.length + B.length ≤ n → a = A0 ++ A → (∃ B0, b = B0 ++ B) → (top.size = 0 ∨ ∃ t ∈ A0, t.path = top) →
    (emL top (togL A B)).Pairwise aheadC ∧ ∀ c ∈ emL top (togL A B), c.gone = true → freeB top c.path = true := by
  intro n
  induction n with
  | zero =>
    intro A0 A B top h _ _ _
    obtain rfl : A = [] := List.eq_nil_of_length_eq_zero (by omega)
    obtain rfl : B = [] := List.eq_nil_of_length_eq_zero (by omega)
    rw [togL, emL]; simp
  | succ n ih =>
    intro A0 A B top h hA0 hB0 htop
    obtain ⟨B0, hB0⟩ := hB0
    by_cases hbb : A = [] ∧ B = []
    · obtain ⟨rfl, rfl⟩ := hbb; rw [togL, emL]; simp
    have hoa := ha
    have hob := hb
    rw [hA0] at hoa
    rw [hB0] at hob
    obtain ⟨_, oa2, oa3⟩ := List.pairwise_append.1 hoa
    obtain ⟨_, ob2, _⟩ := List.pairwise_append.1 hob
    -- behind a thing that is gone nothing that is free of what was gone before lies below that
    have after : ∀ (x : Ent) (p : ByteArray), x ∈ A → freeB top x.path = true → compareN x.path p < 0 → freeB top p = true := fun x p hx hf hl => free_on hf (by
      rcases htop with h0 | ⟨t, ht, htp⟩
      · exact .inl h0
      · have := oa3 t ht x hx
        unfold ltE at this
        rw [htp] at this
        exact .inr this) hl
    rcases Int.lt_trichotomy (nearN A B) 0 with hlt | heq | hgt
    · have hA : A ≠ [] := by
        rintro rfl
        cases B with
        | nil => exact hbb ⟨rfl, rfl⟩
        | cons y B => simp [nearN] at hlt
      obtain ⟨x, A', rfl, ht⟩ := togL_lt hlt hA
      have hxa : x ∈ a := by rw [hA0]; simp
      have hnew : newB (x, noEnt) = false := by simp [newB, noEnt]
      have later : ∀ c ∈ emL (topN top (x, noEnt)) (togL A' B), compareN x.path c.path < 0 := fun c hc => by
        rcases em_mem hc with ⟨z, hz, rfl⟩ | ⟨y, hy, rfl⟩
        · exact (List.pairwise_cons.1 oa2).1 z hz
        · cases B with
          | nil => simp at hy
          | cons y0 B =>
            have hxy : compareN x.path y0.path < 0 := hlt
            rcases List.mem_cons.1 hy with rfl | hy
            · exact hxy
            · exact order_trans hxy ((List.pairwise_cons.1 ob2).1 y hy)
      cases hl : lostB top (x, noEnt) with
      | true =>
        have hf : freeB top x.path = true := by
          unfold lostB at hl
          simp only [Bool.and_eq_true] at hl
          exact hl.2.2
        have htn : topN top (x, noEnt) = x.path := by simp [topN, hl]
        obtain ⟨i1, i2⟩ := ih (A0 ++ [x]) A' B x.path (by simp at h; omega) (by rw [hA0]; simp) ⟨B0, hB0⟩ (.inr ⟨x, by simp, rfl⟩)
        rw [ht, emL, show emO top (x, noEnt) = [goneC x.path] by simp [emO, hl, hnew]]
        rw [htn] at later ⊢
        refine ⟨List.pairwise_cons.2 ⟨fun c hc => aheadC_lt (later c hc) (fun _ hg => ?_), i1⟩, fun c hc hg => ?_⟩
        · have h9 := i2 c hc hg
          unfold freeB at h9
          rw [ne_empty (hfa x hxa)] at h9
          show belowB x.path c.path = false
          simpa using h9
        · rcases List.mem_cons.1 hc with rfl | hc
          · exact hf
          · exact after x c.path (by simp) hf (later c hc)
      | false =>
        have htn : topN top (x, noEnt) = top := by simp [topN, hl]
        obtain ⟨i1, i2⟩ := ih (A0 ++ [x]) A' B top (by simp at h; omega) (by rw [hA0]; simp) ⟨B0, hB0⟩ (by
          rcases htop with h0 | ⟨t, htA, htp⟩
          · exact .inl h0
          · exact .inr ⟨t, by simp [htA], htp⟩)
        rw [ht, emL, show emO top (x, noEnt) = [] by simp [emO, hl, hnew], htn]
        exact ⟨i1, i2⟩
    · obtain ⟨x, A', y, B', rfl, rfl, ht⟩ := togL_eq heq
      have hxy : x.path = y.path := order_zero heq
      have hxa : x ∈ a := by rw [hA0]; simp
      have later : ∀ t, ∀ c ∈ emL t (togL A' B'), compareN x.path c.path < 0 := fun t c hc => by
        rcases em_mem hc with ⟨z, hz, rfl⟩ | ⟨z, hz, rfl⟩
        · exact (List.pairwise_cons.1 oa2).1 z hz
        · have := (List.pairwise_cons.1 ob2).1 z hz
          unfold ltE at this
          rw [hxy]; exact this
      have laidOK : ∀ t, ∀ c ∈ emL t (togL A' B'), aheadC (laidC y) c := fun t c hc => aheadC_lt (by show compareN y.path c.path < 0; rw [← hxy]; exact later t c hc) (fun hg => by simp [laidC] at hg)
      cases hl : lostB top (x, y) with
      | true =>
        have hf : freeB top x.path = true := by
          unfold lostB at hl
          simp only [Bool.and_eq_true] at hl
          exact hl.2.2
        have htn : topN top (x, y) = x.path := by simp [topN, hl]
        obtain ⟨i1, i2⟩ := ih (A0 ++ [x]) A' B' x.path (by simp at h; omega) (by rw [hA0]; simp) ⟨B0 ++ [y], by rw [hB0]; simp⟩ (.inr ⟨x, by simp, rfl⟩)
        have goneOK : ∀ c ∈ emL x.path (togL A' B'), aheadC (goneC x.path) c := fun c hc => aheadC_lt (later _ c hc) (fun _ hg => by
          have h9 := i2 c hc hg
          unfold freeB at h9
          rw [ne_empty (hfa x hxa)] at h9
          show belowB x.path c.path = false
          simpa using h9)
        have frees : ∀ c ∈ emL x.path (togL A' B'), freeB top c.path = true := fun c hc => after x c.path (by simp) hf (later _ c hc)
        rw [ht, emL, htn]
        cases hn : newB (x, y) with
        | true =>
          rw [show emO top (x, y) = [goneC x.path, laidC y] by simp [emO, hl, hn]]
          refine ⟨List.pairwise_cons.2 ⟨fun c hc => ?_, List.pairwise_cons.2 ⟨fun c hc => laidOK _ c hc, i1⟩⟩, fun c hc hg => ?_⟩
          · rcases List.mem_cons.1 hc with rfl | hc
            · exact ⟨.inr ⟨hxy, rfl, rfl⟩, fun _ hg => by simp [laidC] at hg⟩
            · exact goneOK c hc
          · rcases List.mem_cons.1 hc with rfl | hc
            · exact hf
            · rcases List.mem_cons.1 hc with rfl | hc
              · simp [laidC] at hg
              · exact frees c hc
        | false =>
          rw [show emO top (x, y) = [goneC x.path] by simp [emO, hl, hn]]
          refine ⟨List.pairwise_cons.2 ⟨goneOK, i1⟩, fun c hc hg => ?_⟩
          rcases List.mem_cons.1 hc with rfl | hc
          · exact hf
          · exact frees c hc
      | false =>
        have htn : topN top (x, y) = top := by simp [topN, hl]
        obtain ⟨i1, i2⟩ := ih (A0 ++ [x]) A' B' top (by simp at h; omega) (by rw [hA0]; simp) ⟨B0 ++ [y], by rw [hB0]; simp⟩ (by
          rcases htop with h0 | ⟨t, htA, htp⟩
          · exact .inl h0
          · exact .inr ⟨t, by simp [htA], htp⟩)
        rw [ht, emL, htn]
        cases hn : newB (x, y) with
        | true =>
          rw [show emO top (x, y) = [laidC y] by simp [emO, hl, hn]]
          refine ⟨List.pairwise_cons.2 ⟨fun c hc => laidOK _ c hc, i1⟩, fun c hc hg => ?_⟩
          rcases List.mem_cons.1 hc with rfl | hc
          · simp [laidC] at hg
          · exact i2 c hc hg
        | false =>
          rw [show emO top (x, y) = [] by simp [emO, hl, hn]]
          exact ⟨i1, i2⟩
    · obtain ⟨y, B', rfl, ht⟩ := togL_gt hgt
      have hl : lostB top (noEnt, y) = false := by simp [lostB, noEnt]
      have htn : topN top (noEnt, y) = top := by simp [topN, hl]
      have later : ∀ c ∈ emL top (togL A B'), compareN y.path c.path < 0 := fun c hc => by
        rcases em_mem hc with ⟨z, hz, rfl⟩ | ⟨z, hz, rfl⟩
        · cases A with
          | nil => simp at hz
          | cons x A =>
            have hxy : 0 < compareN x.path y.path := hgt
            have h3 := order_neg x.path y.path
            have h4 : compareN y.path x.path < 0 := by omega
            rcases List.mem_cons.1 hz with rfl | hz
            · exact h4
            · exact order_trans h4 ((List.pairwise_cons.1 oa2).1 z hz)
        · exact (List.pairwise_cons.1 ob2).1 z hz
      obtain ⟨i1, i2⟩ := ih A0 A B' top (by simp at h; omega) hA0 ⟨B0 ++ [y], by rw [hB0]; simp⟩ htop
      rw [ht, emL, htn]
      cases hn : newB (noEnt, y) with
      | true =>
        rw [show emO top (noEnt, y) = [laidC y] by simp [emO, hl, hn]]
        refine ⟨List.pairwise_cons.2 ⟨fun c hc => aheadC_lt (later c hc) (fun hg => by simp [laidC] at hg), i1⟩, fun c hc hg => ?_⟩
        rcases List.mem_cons.1 hc with rfl | hc
        · simp [laidC] at hg
        · exact i2 c hc hg
      | false =>
        rw [show emO top (noEnt, y) = [] by simp [emO, hl, hn]]
        exact ⟨i1, i2⟩
theorem form_all {a b : List Ent} (ha : TrL a) (hb : TrL b) : (unlikeL a b).Pairwise aheadC :=
  (form_go ha.order hb.order (fun e he => path_full (ha.right e he)) _ [] a b ⟨#[]⟩ (Nat.le_refl _) rfl ⟨[], rfl⟩ (.inl rfl)).1
def thereB (L : List Ent) (p : ByteArray) : Bool := L.any (pathIs p)
theorem there_of {L : List Ent} {e : Ent} (h : e ∈ L) : thereB L e.path = true := List.any_eq_true.2 ⟨e, h, pathIs_iff.2 rfl⟩
end Go.Proofs.YtgildlfanfbebaaGreatDoor

namespace Go.Proofs.YtgildlfanfbebaaGreatDoor
open Go Go.RowKit Go.Shelf

set_option maxRecDepth 100000 in
theorem there_p (v : Value) (L : List Ent) (p : ByteArray) (w : World) (hv : EntsAt w v L) (hl : L.length ≤ 1073741824) : Calls Tryz.prog 27 #[v, .string p] w fun e w' => e = .returned (.bool (thereB L p)) ∧ w' = w := by
  obtain ⟨a, cap, b, o, rfl, ha, hcap, hc⟩ := hv
  go_enter Tryz.func27, Tryz.ntmps27
  go_wp2
  go_loopw [5] (fun i wr => ∃ k : Nat, i = .int .i64 k ∧ k ≤ L.length ∧ wr = w ∧ thereB L p = thereB (L.drop k) p) (fun i _ => L.length - (intOf i).toNat)
  case atStart => exact ⟨0, rfl, Nat.zero_le _, rfl, by simp⟩
  case round =>
    obtain ⟨k, rfl, hk, rfl, ht⟩ := hrel
    have HT : Hid (thereB L p = thereB (L.drop k) p) := ht
    clear ht
    by_cases hlt : k < L.length
    · have hlt' : (k : Int) < (L.length : Int) := by omega
      have hk0 : (0 : Int) ≤ (k : Int) := by omega
      obtain ⟨x, hx⟩ : ∃ x, L[k]? = some x := ⟨_, List.getElem?_eq_getElem hlt⟩
      obtain rfl := ha (fun e => by rw [e] at hlt; simp at hlt)
      obtain ⟨c0, c1, c2, c3, c4⟩ := hc k x hx
      have hdr : thereB (L.drop k) p = (pathIs p x || thereB (L.drop (k + 1)) p) := by
        rw [List.drop_eq_getElem_cons hlt]
        rw [List.getElem?_eq_getElem hlt] at hx
        rw [Option.some.inj hx]
        rfl
      cases hq : (x.path.toList == p.toList) with
      | true =>
        have HR : Hid (thereB L p = true) := by
          unfold Hid
          rw [HT.out, hdr]
          have : pathIs p x = true := by unfold pathIs; rw [← toList_un, ← toList_un]; exact hq
          rw [this]; rfl
        clear hx hc ha hdr
        go_wp2
        go_ret
        exact ⟨by rw [HR.out]; rfl, rfl⟩
      | false =>
        have HR : Hid (thereB L p = thereB (L.drop (k + 1)) p) := by
          unfold Hid
          rw [HT.out, hdr]
          have : pathIs p x = false := by unfold pathIs; rw [← toList_un, ← toList_un]; exact hq
          rw [this]; rfl
        clear hx hc ha hdr
        go_wp2
        go_roundw
        case rel => exact ⟨k + 1, by go_num, by omega, by first | rfl | trivial, HR.out⟩
        case measure => simp [intOf]; omega
    · have hge : ¬ (k : Int) < (L.length : Int) := by omega
      have HR : Hid (thereB L p = false) := by
        unfold Hid
        rw [HT.out, List.drop_eq_nil_of_le (by omega)]; rfl
      go_wp2
      go_ret
      exact ⟨by rw [HR.out]; rfl, rfl⟩
theorem pair_at {l : List Chg} (h : l.Pairwise aheadC) {i j : Nat} {c d : Chg} (hij : i < j) (hc : l[i]? = some c) (hd : l[j]? = some d) : aheadC c d := by
  rw [List.pairwise_iff_getElem] at h
  obtain ⟨h1, h2⟩ := List.getElem?_eq_some_iff.1 hc
  obtain ⟨h3, h4⟩ := List.getElem?_eq_some_iff.1 hd
  have := h i j h1 h3 hij
  rw [h2, h4] at this
  exact this
set_option maxRecDepth 100000 in
set_option maxHeartbeats 8000000 in
theorem deltaform_law (va vb : Value) (a b : List Ent) (w : World) (hg : ErrType w) (hu : EntsAt w va a) (hv : EntsAt w vb b) (hla : a.length ≤ 4611686018427387904) (hlb : b.length ≤ 4611686018427387904) (hpa : ∀ e ∈ a, e.path.size < 1152921504606846976) (hpb : ∀ e ∈ b, e.path.size < 1152921504606846976) :
    Calls Tryz.prog 7 #[va, vb] w fun e w' => e = .returned (.bool true) ∧ Below w.heap.size w w' := by
  have hDf := diff_d va vb a b w hg hu hv hla hlb hpa hpb
  have HW : Hid (∀ W, Below w.heap.size w W → Calls Tryz.prog 16 #[] W fun e w' => e = .returned (.bool true) ∧ Below W.heap.size W w') := fun W hb => works_d W (hg.below hb)
  have fail9 : ∀ r : Int × Int × Int, r.1 ≠ 0 → diffR a b = (r, []) → Calls Tryz.prog 7 #[va, vb] w fun e w' => e = .returned (.bool true) ∧ Below w.heap.size w w' := by
    intro r hr hR
    have HE : Hid (errF r = .iface 94 (.agg #[.int .i64 r.1, .int .i64 r.2.1, .int .i64 r.2.2])) := if_neg hr
    rw [hR] at hDf
    clear hr hR hu hv hpa hpb hg
    go_enter Tryz.func7, Tryz.ntmps7
    go_wp2_with fail
    refine hDf.mono ?_
    rintro e w1 ⟨l, rfl, hl, h1⟩
    simp only
    rw [HE.out]
    obtain ⟨la, lc, rfl⟩ := row_form hl
    have hwk := HW.out _ h1
    clear hDf hl
    go_wp2_with (go_at_call 16; refine hwk.mono ?_; rintro e w7 ⟨rfl, h7⟩)
    go_ret
    exact ⟨rfl, below_join h1 h7⟩
  by_cases ha : (checkGo [] a).1 = 0
  · by_cases hb : (checkGo [] b).1 = 0
    · have HR : Hid (diffR a b = ((0, 0, 0), unlikeL a b)) := by unfold Hid diffR; rw [if_neg (by simpa using ha), if_neg (by simpa using hb)]
      rw [HR.out] at hDf
      have HF' : Hid ((unlikeL a b).Pairwise aheadC) := form_all (tree_tr ha) (tree_tr hb)
      have HMEM : Hid (∀ c ∈ unlikeL a b, (∃ x ∈ a, c = goneC x.path) ∨ (∃ y ∈ b, c = laidC y)) := fun c hc => unlike_mem hc
      have HLN : Hid ((unlikeL a b).length ≤ a.length + b.length) := form_len _ a b ⟨#[]⟩ (Nat.le_refl _)
      have hfa := (tree_few ha).1
      have hfb := (tree_few hb).1
      have HPS : Hid ((∀ e ∈ a, e.path.size ≤ 255) ∧ (∀ e ∈ b, e.path.size ≤ 255)) := ⟨tree_paths ha, tree_paths hb⟩
      have HUV : Hid (EntsAt w va a ∧ EntsAt w vb b) := ⟨hu, hv⟩
      obtain ⟨a1, c1, _, _, rfl, _, _, _⟩ := hu
      obtain ⟨a2, c2, _, _, rfl, _, _, _⟩ := hv
      obtain ⟨l, hl⟩ : ∃ l, unlikeL a b = l := ⟨_, rfl⟩
      rw [hl] at hDf HF' HMEM HLN
      clear hl HR ha hb fail9 hpa hpb hg hla hlb
      go_enter Tryz.func7, Tryz.ntmps7
      go_wp2_with fail
      refine hDf.mono ?_
      rintro e w1 ⟨lv, rfl, hl, h1⟩
      simp only at hl ⊢
      rw [show errF (0, 0, 0) = .nilIface from rfl]
      have HCL : Hid (ChgsAt w1 lv l) := chgs_of_owns hl
      obtain ⟨la, lc, rfl⟩ := row_form hl
      have hlen := HLN.out
      have HB1 : Hid (Below w.heap.size w w1) := h1
      clear hDf hl h1
      have hgt : ¬ ((a.length : Int) + (b.length : Int) < (l.length : Int)) := by omega
      go_wp2
      clear hgt
      go_loopw [7] (fun q wr => ∃ i : Nat, q = .int .i64 i ∧ i ≤ l.length ∧ Below w1.heap.size w1 wr) (fun q _ => l.length - (intOf q).toNat)
      case atStart => exact ⟨0, rfl, Nat.zero_le _, Below.refl _ _⟩
      case round =>
        obtain ⟨i, rfl, hi, hB⟩ := hrel
        have HBr : Hid (Below w1.heap.size w1 wr) := hB
        by_cases hil : i < l.length
        · have hil' : (i : Int) < (l.length : Int) := by omega
          have hi0 : (0 : Int) ≤ (i : Int) := by omega
          obtain ⟨c, hc⟩ : ∃ c, l[i]? = some c := ⟨_, List.getElem?_eq_getElem hil⟩
          have hcl := HCL.out.below hB
          obtain ⟨xa, xc, xb, xo, exx, hxa, _, hxc⟩ := hcl
          cases exx
          obtain rfl := hxa (fun e => by rw [e] at hil; simp at hil)
          have HLC : Hid (∀ W, Below wr.heap.size wr W → ∀ k d, l[k]? = some d → ChgC W xb (xo + k * 7) d) := fun W hb k d hd => (hxc k d hd).below hb
          have HC0 : Hid (l[i]? = some c) := hc
          rcases HMEM.out c (List.mem_of_getElem? hc) with ⟨x, hx, rfl⟩ | ⟨x, hx, rfl⟩
          · obtain ⟨e0, e1, e2, e3, e4, e5, e6⟩ := HLC.out wr (Below.refl _ _) i _ hc
            simp only [goneC, noEnt] at e0 e1 e2 e3 e4 e5 e6
            have hxs : x.path.size ≤ 255 := HPS.out.1 x hx
            clear hc hxc hxa
            by_cases hiz : i = 0
            · have hz9 : decide (0 < i) = false := by simp; omega
              have hz8 : decide ((0 : Int) < (i : Int)) = false := by simp; omega
              clear hiz
              go_upto_region 10 with fail
              have hbx : (wr.alloc (.cells #[.string x.path, .bool true, .string ⟨#[]⟩, .int .i64 0, .int .i64 0, .string ⟨#[]⟩, .string ⟨#[]⟩] 54)).heap[wr.heap.size]? = some (.cells #[.string x.path, .bool true, .string ⟨#[]⟩, .int .i64 0, .int .i64 0, .string ⟨#[]⟩, .string ⟨#[]⟩] 54) := heap_alloc_new wr _
              have HBV : Hid (Below wr.heap.size wr (wr.alloc (.cells #[.string x.path, .bool true, .string ⟨#[]⟩, .int .i64 0, .int .i64 0, .string ⟨#[]⟩, .string ⟨#[]⟩] 54))) := (Below.refl _ _).alloc (Nat.le_refl _) _
              clear e0 e1 e2 e3 e4 e5 e6
              generalize (wr.alloc (.cells #[.string x.path, .bool true, .string ⟨#[]⟩, .int .i64 0, .int .i64 0, .string ⟨#[]⟩, .string ⟨#[]⟩] 54)) = V at *
              have q0 : V.cell? ⟨wr.heap.size, 0, none⟩ = some (.string x.path) := by unfold World.cell?; simp only [hbx]; rfl
              have q1 : V.cell? ⟨wr.heap.size, 1, none⟩ = some (.bool true) := by unfold World.cell?; simp only [hbx]; rfl
              have q2 : V.cell? ⟨wr.heap.size, 2, none⟩ = some (.string ⟨#[]⟩) := by unfold World.cell?; simp only [hbx]; rfl
              have q3 : V.cell? ⟨wr.heap.size, 3, none⟩ = some (.int .i64 0) := by unfold World.cell?; simp only [hbx]; rfl
              have q4 : V.cell? ⟨wr.heap.size, 4, none⟩ = some (.int .i64 0) := by unfold World.cell?; simp only [hbx]; rfl
              have q5 : V.cell? ⟨wr.heap.size, 5, none⟩ = some (.string ⟨#[]⟩) := by unfold World.cell?; simp only [hbx]; rfl
              have q6 : V.cell? ⟨wr.heap.size, 6, none⟩ = some (.string ⟨#[]⟩) := by unfold World.cell?; simp only [hbx]; rfl
              have HWL : Hid (wr.heap.size < V.heap.size) := (Array.getElem?_eq_some_iff.1 hbx).1
              have HBW : Hid (Below w.heap.size w V) := below_join (below_join HB1.out HBr.out) HBV.out
              have heq : ∀ W, (Op.equalIn 10000 52 (.agg #[.string ⟨#[]⟩, .int .i64 0, .int .i64 0, .string ⟨#[]⟩, .string ⟨#[]⟩]) (.agg #[.string ⟨#[]⟩, .int .i64 0, .int .i64 0, .string ⟨#[]⟩, .string ⟨#[]⟩])).run Tryz.prog W = .ok true W := fun W => eq_self noEnt W
              have hTH := there_p (.slice a1 a.length c1) a x.path V (HUV.out.1.below HBW.out) (by omega)
              rw [there_of hx] at hTH
              go_wp2_with (go_at_call 27; refine hTH.mono ?_; rintro e w' ⟨rfl, hw9⟩; obtain rfl := hw9.symm)
              have HZ9 : Hid (∀ W, Below V.heap.size V W → W.cell? ⟨wr.heap.size, 0, none⟩ = some (.string x.path)) := fun W hb => (hb.cell (p := ⟨wr.heap.size, 0, none⟩) HWL.out).trans q0
              go_loopw [10] (fun q wq => ∃ k : Nat, q = .int .i64 k ∧ k ≤ i ∧ Below V.heap.size V wq) (fun q _ => i - (intOf q).toNat)
              case atStart => exact ⟨0, rfl, Nat.zero_le _, Below.refl _ _⟩
              case round =>
                obtain ⟨k, rfl, hk, hBq⟩ := hrel
                by_cases hki : k < i
                · have hki' : (k : Int) < (i : Int) := by omega
                  have hk0 : (0 : Int) ≤ (k : Int) := by omega
                  have hkl : (k : Int) < (l.length : Int) := by omega
                  obtain ⟨d, hd⟩ : ∃ d, l[k]? = some d := ⟨_, List.getElem?_eq_getElem (by omega)⟩
                  obtain ⟨e0, e1, e2, e3, e4, e5, e6⟩ := HLC.out _ (below_join HBV.out hBq) k d hd
                  have z9 := HZ9.out _ hBq
                  have hah := pair_at HF'.out hki hd HC0.out
                  have HD : Hid (d.gone = true → belowB d.path x.path = true → thereB b x.path = true) := fun h1 h2 => by have h9 := hah.2 h1 rfl; rw [show (goneC x.path).path = x.path from rfl, h2] at h9; cases h9
                  have HBq : Hid (Below V.heap.size V _) := hBq
                  clear hd hah e2 e3 e4 e5 e6 hBq
                  cases hg : d.gone with
                  | false =>
                    rw [hg] at e1
                    go_wp2
                    go_quiet (fail)
                    go_wp2
                    go_roundw
                    case rel => exact ⟨k + 1, by go_num, by omega, below_drewN HBq.out _⟩
                    case measure => simp [intOf]; omega
                  | true =>
                    rw [hg] at e1
                    cases hbl : belowB d.path x.path with
                    | false =>
                      have hBB : ∀ W, Calls Tryz.prog 28 #[.string d.path, .string x.path] W fun e w' => e = .returned (.bool false) ∧ ∃ q, w' = W.drewN q := fun W => (below_p d.path x.path W).mono (by rintro e w' ⟨rfl, rfl⟩; exact ⟨by rw [hbl], 0, rfl⟩)
                      go_wp2
                      go_quiet ((go_at_call 28; exact Calls.quiet_of (hBB _)))
                      go_wp2
                      go_roundw
                      case rel => exact ⟨k + 1, by go_num, by omega, below_drewN HBq.out _⟩
                      case measure => simp [intOf]; omega
                    | true =>
                      have hBB : ∀ W, Calls Tryz.prog 28 #[.string d.path, .string x.path] W fun e w' => e = .returned (.bool true) ∧ ∃ q, w' = W.drewN q := fun W => (below_p d.path x.path W).mono (by rintro e w' ⟨rfl, rfl⟩; exact ⟨by rw [hbl], 0, rfl⟩)
                      have hTB : ∀ q, Calls Tryz.prog 27 #[.slice a2 b.length c2, .string x.path] (World.drewN _ q) fun e w' => e = .returned (.bool true) ∧ ∃ q9, w' = (World.drewN _ q).drewN q9 := fun q => (there_p (.slice a2 b.length c2) b x.path _ (HUV.out.2.below (below_drewN (below_join HBW.out HBq.out) q)) (by omega)).mono (by rintro e w' ⟨rfl, rfl⟩; exact ⟨by rw [HD.out hg hbl], 0, rfl⟩)
                      go_wp2
                      go_quiet (first | (go_at_call 28; exact Calls.quiet_of (hBB _)) | (go_at_call 27; exact Calls.quiet_of (hTB _)))
                      go_wp2
                      go_roundw
                      case rel => exact ⟨k + 1, by go_num, by omega, below_drewN HBq.out _⟩
                      case measure => simp [intOf]; omega
                · have hge : ¬ (k : Int) < (i : Int) := by omega
                  go_wp2
                  go_roundw
                  case rel => exact ⟨i + 1, by go_num, by omega, below_join (below_join HBr.out HBV.out) hBq⟩
                  case measure => simp [intOf]; omega
            · obtain ⟨j, hij⟩ : ∃ j, i = j + 1 := ⟨i - 1, by omega⟩
              have hj1 : (0 : Int) < (i : Int) := by omega
              have hjl : (j : Int) < (l.length : Int) := by omega
              have hj0 : (0 : Int) ≤ (j : Int) := by omega
              have hw1 : IntKind.i64.wrap ((i : Int) - 1) = (j : Int) := by unfold IntKind.wrap; simp [IntKind.bits, IntKind.signed]; omega
              have HIJ : Hid (i = j + 1) := hij
              obtain ⟨d, hd⟩ : ∃ d, l[j]? = some d := ⟨_, List.getElem?_eq_getElem (by omega)⟩
              have hah := pair_at HF'.out (show j < i by omega) hd HC0.out
              have hdp : d.path.size ≤ 255 := by
                rcases HMEM.out d (List.mem_of_getElem? hd) with ⟨y, hy, rfl⟩ | ⟨y, hy, rfl⟩
                · exact HPS.out.1 y hy
                · exact HPS.out.2 y hy
              clear hij
              go_upto_region 11 with fail
              have hbx : (wr.alloc (.cells #[.string x.path, .bool true, .string ⟨#[]⟩, .int .i64 0, .int .i64 0, .string ⟨#[]⟩, .string ⟨#[]⟩] 54)).heap[wr.heap.size]? = some (.cells #[.string x.path, .bool true, .string ⟨#[]⟩, .int .i64 0, .int .i64 0, .string ⟨#[]⟩, .string ⟨#[]⟩] 54) := heap_alloc_new wr _
              have HBV0 : Hid (Below wr.heap.size wr (wr.alloc (.cells #[.string x.path, .bool true, .string ⟨#[]⟩, .int .i64 0, .int .i64 0, .string ⟨#[]⟩, .string ⟨#[]⟩] 54))) := (Below.refl _ _).alloc (Nat.le_refl _) _
              clear e0 e1 e2 e3 e4 e5 e6
              generalize (wr.alloc (.cells #[.string x.path, .bool true, .string ⟨#[]⟩, .int .i64 0, .int .i64 0, .string ⟨#[]⟩, .string ⟨#[]⟩] 54)) = V at *
              have q0 : V.cell? ⟨wr.heap.size, 0, none⟩ = some (.string x.path) := by unfold World.cell?; simp only [hbx]; rfl
              have q1 : V.cell? ⟨wr.heap.size, 1, none⟩ = some (.bool true) := by unfold World.cell?; simp only [hbx]; rfl
              have q2 : V.cell? ⟨wr.heap.size, 2, none⟩ = some (.string ⟨#[]⟩) := by unfold World.cell?; simp only [hbx]; rfl
              have q3 : V.cell? ⟨wr.heap.size, 3, none⟩ = some (.int .i64 0) := by unfold World.cell?; simp only [hbx]; rfl
              have q4 : V.cell? ⟨wr.heap.size, 4, none⟩ = some (.int .i64 0) := by unfold World.cell?; simp only [hbx]; rfl
              have q5 : V.cell? ⟨wr.heap.size, 5, none⟩ = some (.string ⟨#[]⟩) := by unfold World.cell?; simp only [hbx]; rfl
              have q6 : V.cell? ⟨wr.heap.size, 6, none⟩ = some (.string ⟨#[]⟩) := by unfold World.cell?; simp only [hbx]; rfl
              obtain ⟨f0, f1, f2, f3, f4, f5, f6⟩ := HLC.out V HBV0.out j d hd
              have hwl : wr.heap.size < V.drew.heap.size := (Array.getElem?_eq_some_iff.1 hbx).1
              have hfl : xb < V.drew.heap.size := World.block_lt_of_cell? V _ f0
              have hCP := fun W => compare_p d.path x.path W (by omega) (by omega)
              obtain ⟨nn, hnn⟩ : ∃ nn, compareN d.path x.path = nn := ⟨_, rfl⟩
              rw [hnn] at hCP
              go_region_held3 (fun W => W.cell? ⟨xb, xo + j * 7, none⟩ = some (.string d.path) ∧ W.cell? ⟨wr.heap.size, 0, none⟩ = some (.string x.path))
                (first
                  | exact ⟨f0, q0⟩
                  | exact ⟨(h3.cell (p := ⟨xb, xo + j * 7, none⟩) hfl).trans f0, (h3.cell (p := ⟨wr.heap.size, 0, none⟩) hwl).trans q0⟩
                  | go_keep)
                ((go_at_call 26; refine (hCP _).mono ?_; rintro e w3 ⟨rfl, h3⟩))
              have HBV : Hid (Below wr.heap.size wr w3) := below_join (below_drewN HBV0.out 1) h3
              have HWL : Hid (wr.heap.size < w3.heap.size) := Nat.lt_of_lt_of_le hwl h3.size
              have HBW : Hid (Below w.heap.size w w3) := below_join (below_join HB1.out HBr.out) HBV.out
              have g1 : w3.cell? ⟨xb, xo + j * 7 + 1, none⟩ = some (.bool d.gone) := (h3.cell (p := ⟨xb, xo + j * 7 + 1, none⟩) hfl).trans f1
              have z0 : w3.cell? ⟨wr.heap.size, 0, none⟩ = some (.string x.path) := (h3.cell (p := ⟨wr.heap.size, 0, none⟩) hwl).trans q0
              have z1 : w3.cell? ⟨wr.heap.size, 1, none⟩ = some (.bool true) := (h3.cell (p := ⟨wr.heap.size, 1, none⟩) hwl).trans q1
              have z2 : w3.cell? ⟨wr.heap.size, 2, none⟩ = some (.string ⟨#[]⟩) := (h3.cell (p := ⟨wr.heap.size, 2, none⟩) hwl).trans q2
              have z3 : w3.cell? ⟨wr.heap.size, 3, none⟩ = some (.int .i64 0) := (h3.cell (p := ⟨wr.heap.size, 3, none⟩) hwl).trans q3
              have z4 : w3.cell? ⟨wr.heap.size, 4, none⟩ = some (.int .i64 0) := (h3.cell (p := ⟨wr.heap.size, 4, none⟩) hwl).trans q4
              have z5 : w3.cell? ⟨wr.heap.size, 5, none⟩ = some (.string ⟨#[]⟩) := (h3.cell (p := ⟨wr.heap.size, 5, none⟩) hwl).trans q5
              have z6 : w3.cell? ⟨wr.heap.size, 6, none⟩ = some (.string ⟨#[]⟩) := (h3.cell (p := ⟨wr.heap.size, 6, none⟩) hwl).trans q6
              clear q0 q1 q2 q3 q4 q5 q6 f0 f1 f2 f3 f4 f5 f6 h3 hwl hfl hbx HBV0 hCP
              have hcase : nn < 0 ∨ (nn = 0 ∧ d.gone = true ∧ (true : Bool) = false) := by
                rcases hah.1 with h9 | ⟨h9, h10, h11⟩
                · exact .inl (by rw [← hnn]; exact h9)
                · exact .inr ⟨by rw [← hnn]; have h12 : d.path = x.path := h9; rw [h12]; exact order_self _, h10, h11⟩
              clear hah hnn hd
              rcases hcase with hlt | ⟨rfl, hdg, hkg⟩
              · have n1 : decide (0 < nn) = false := by simp; omega
                have n2 : (nn == 0) = false := by simp; omega
                clear hlt g1
                go_upto_region 14 with fail
                have heq : ∀ W, (Op.equalIn 10000 52 (.agg #[.string ⟨#[]⟩, .int .i64 0, .int .i64 0, .string ⟨#[]⟩, .string ⟨#[]⟩]) (.agg #[.string ⟨#[]⟩, .int .i64 0, .int .i64 0, .string ⟨#[]⟩, .string ⟨#[]⟩])).run Tryz.prog W = .ok true W := fun W => eq_self noEnt W
                have hTH := there_p (.slice a1 a.length c1) a x.path w3 (HUV.out.1.below HBW.out) (by omega)
                rw [there_of hx] at hTH
                go_wp2_with (go_at_call 27; refine hTH.mono ?_; rintro e w' ⟨rfl, hw9⟩; obtain rfl := hw9.symm)
                have HZ9 : Hid (∀ W, Below w3.heap.size w3 W → W.cell? ⟨wr.heap.size, 0, none⟩ = some (.string x.path)) := fun W hb => (hb.cell (p := ⟨wr.heap.size, 0, none⟩) HWL.out).trans z0
                go_loopw [10] (fun q wq => ∃ k : Nat, q = .int .i64 k ∧ k ≤ i ∧ Below w3.heap.size w3 wq) (fun q _ => i - (intOf q).toNat)
                case atStart => exact ⟨0, rfl, Nat.zero_le _, Below.refl _ _⟩
                case round =>
                  obtain ⟨k, rfl, hk, hBq⟩ := hrel
                  by_cases hki : k < i
                  · have hki' : (k : Int) < (i : Int) := by omega
                    have hk0 : (0 : Int) ≤ (k : Int) := by omega
                    have hkl : (k : Int) < (l.length : Int) := by omega
                    obtain ⟨d, hd⟩ : ∃ d, l[k]? = some d := ⟨_, List.getElem?_eq_getElem (by omega)⟩
                    obtain ⟨e0, e1, e2, e3, e4, e5, e6⟩ := HLC.out _ (below_join HBV.out hBq) k d hd
                    have z9 := HZ9.out _ hBq
                    have hah := pair_at HF'.out hki hd HC0.out
                    have HD : Hid (d.gone = true → belowB d.path x.path = true → thereB b x.path = true) := fun h1 h2 => by have h9 := hah.2 h1 rfl; rw [show (goneC x.path).path = x.path from rfl, h2] at h9; cases h9
                    have HBq : Hid (Below w3.heap.size w3 _) := hBq
                    clear hd hah e2 e3 e4 e5 e6 hBq
                    cases hg : d.gone with
                    | false =>
                      rw [hg] at e1
                      go_wp2
                      go_quiet (fail)
                      go_wp2
                      go_roundw
                      case rel => exact ⟨k + 1, by go_num, by omega, below_drewN HBq.out _⟩
                      case measure => simp [intOf]; omega
                    | true =>
                      rw [hg] at e1
                      cases hbl : belowB d.path x.path with
                      | false =>
                        have hBB : ∀ W, Calls Tryz.prog 28 #[.string d.path, .string x.path] W fun e w' => e = .returned (.bool false) ∧ ∃ q, w' = W.drewN q := fun W => (below_p d.path x.path W).mono (by rintro e w' ⟨rfl, rfl⟩; exact ⟨by rw [hbl], 0, rfl⟩)
                        go_wp2
                        go_quiet ((go_at_call 28; exact Calls.quiet_of (hBB _)))
                        go_wp2
                        go_roundw
                        case rel => exact ⟨k + 1, by go_num, by omega, below_drewN HBq.out _⟩
                        case measure => simp [intOf]; omega
                      | true =>
                        have hBB : ∀ W, Calls Tryz.prog 28 #[.string d.path, .string x.path] W fun e w' => e = .returned (.bool true) ∧ ∃ q, w' = W.drewN q := fun W => (below_p d.path x.path W).mono (by rintro e w' ⟨rfl, rfl⟩; exact ⟨by rw [hbl], 0, rfl⟩)
                        have hTB : ∀ q, Calls Tryz.prog 27 #[.slice a2 b.length c2, .string x.path] (World.drewN _ q) fun e w' => e = .returned (.bool true) ∧ ∃ q9, w' = (World.drewN _ q).drewN q9 := fun q => (there_p (.slice a2 b.length c2) b x.path _ (HUV.out.2.below (below_drewN (below_join HBW.out HBq.out) q)) (by omega)).mono (by rintro e w' ⟨rfl, rfl⟩; exact ⟨by rw [HD.out hg hbl], 0, rfl⟩)
                        go_wp2
                        go_quiet (first | (go_at_call 28; exact Calls.quiet_of (hBB _)) | (go_at_call 27; exact Calls.quiet_of (hTB _)))
                        go_wp2
                        go_roundw
                        case rel => exact ⟨k + 1, by go_num, by omega, below_drewN HBq.out _⟩
                        case measure => simp [intOf]; omega
                  · have hge : ¬ (k : Int) < (i : Int) := by omega
                    go_wp2
                    go_roundw
                    case rel => exact ⟨i + 1, by go_num, by omega, below_join (below_join HBr.out HBV.out) hBq⟩
                    case measure => simp [intOf]; omega
              · exact absurd hkg (by decide)
          · obtain ⟨e0, e1, e2, e3, e4, e5, e6⟩ := HLC.out wr (Below.refl _ _) i _ hc
            simp only [laidC] at e0 e1 e2 e3 e4 e5 e6
            have hxs : x.path.size ≤ 255 := HPS.out.2 x hx
            clear hc hxc hxa
            by_cases hiz : i = 0
            · have hz9 : decide (0 < i) = false := by simp; omega
              have hz8 : decide ((0 : Int) < (i : Int)) = false := by simp; omega
              clear hiz
              go_upto_region 10 with fail
              have hbx : (wr.alloc (.cells #[.string x.path, .bool false, .string x.path, .int .i64 x.kind, .int .i64 x.mode, .string x.data, .string x.link] 54)).heap[wr.heap.size]? = some (.cells #[.string x.path, .bool false, .string x.path, .int .i64 x.kind, .int .i64 x.mode, .string x.data, .string x.link] 54) := heap_alloc_new wr _
              have HBV : Hid (Below wr.heap.size wr (wr.alloc (.cells #[.string x.path, .bool false, .string x.path, .int .i64 x.kind, .int .i64 x.mode, .string x.data, .string x.link] 54))) := (Below.refl _ _).alloc (Nat.le_refl _) _
              clear e0 e1 e2 e3 e4 e5 e6
              generalize (wr.alloc (.cells #[.string x.path, .bool false, .string x.path, .int .i64 x.kind, .int .i64 x.mode, .string x.data, .string x.link] 54)) = V at *
              have q0 : V.cell? ⟨wr.heap.size, 0, none⟩ = some (.string x.path) := by unfold World.cell?; simp only [hbx]; rfl
              have q1 : V.cell? ⟨wr.heap.size, 1, none⟩ = some (.bool false) := by unfold World.cell?; simp only [hbx]; rfl
              have q2 : V.cell? ⟨wr.heap.size, 2, none⟩ = some (.string x.path) := by unfold World.cell?; simp only [hbx]; rfl
              have q3 : V.cell? ⟨wr.heap.size, 3, none⟩ = some (.int .i64 x.kind) := by unfold World.cell?; simp only [hbx]; rfl
              have q4 : V.cell? ⟨wr.heap.size, 4, none⟩ = some (.int .i64 x.mode) := by unfold World.cell?; simp only [hbx]; rfl
              have q5 : V.cell? ⟨wr.heap.size, 5, none⟩ = some (.string x.data) := by unfold World.cell?; simp only [hbx]; rfl
              have q6 : V.cell? ⟨wr.heap.size, 6, none⟩ = some (.string x.link) := by unfold World.cell?; simp only [hbx]; rfl
              have HWL : Hid (wr.heap.size < V.heap.size) := (Array.getElem?_eq_some_iff.1 hbx).1
              have HBW : Hid (Below w.heap.size w V) := below_join (below_join HB1.out HBr.out) HBV.out
              have hTH := there_p (.slice a2 b.length c2) b x.path V (HUV.out.2.below HBW.out) (by omega)
              rw [there_of hx] at hTH
              go_wp2_with (go_at_call 27; refine hTH.mono ?_; rintro e w' ⟨rfl, hw9⟩; obtain rfl := hw9.symm)
              have HZ9 : Hid (∀ W, Below V.heap.size V W → W.cell? ⟨wr.heap.size, 0, none⟩ = some (.string x.path)) := fun W hb => (hb.cell (p := ⟨wr.heap.size, 0, none⟩) HWL.out).trans q0
              go_loopw [10] (fun q wq => ∃ k : Nat, q = .int .i64 k ∧ k ≤ i ∧ Below V.heap.size V wq) (fun q _ => i - (intOf q).toNat)
              case atStart => exact ⟨0, rfl, Nat.zero_le _, Below.refl _ _⟩
              case round =>
                obtain ⟨k, rfl, hk, hBq⟩ := hrel
                by_cases hki : k < i
                · have hki' : (k : Int) < (i : Int) := by omega
                  have hk0 : (0 : Int) ≤ (k : Int) := by omega
                  have hkl : (k : Int) < (l.length : Int) := by omega
                  obtain ⟨d, hd⟩ : ∃ d, l[k]? = some d := ⟨_, List.getElem?_eq_getElem (by omega)⟩
                  obtain ⟨e0, e1, e2, e3, e4, e5, e6⟩ := HLC.out _ (below_join HBV.out hBq) k d hd
                  have z9 := HZ9.out _ hBq
                  have hah := pair_at HF'.out hki hd HC0.out
                  have HD : Hid (d.gone = true → belowB d.path x.path = true → thereB b x.path = true) := fun _ _ => there_of hx
                  have HBq : Hid (Below V.heap.size V _) := hBq
                  clear hd hah e2 e3 e4 e5 e6 hBq
                  cases hg : d.gone with
                  | false =>
                    rw [hg] at e1
                    go_wp2
                    go_quiet (fail)
                    go_wp2
                    go_roundw
                    case rel => exact ⟨k + 1, by go_num, by omega, below_drewN HBq.out _⟩
                    case measure => simp [intOf]; omega
                  | true =>
                    rw [hg] at e1
                    cases hbl : belowB d.path x.path with
                    | false =>
                      have hBB : ∀ W, Calls Tryz.prog 28 #[.string d.path, .string x.path] W fun e w' => e = .returned (.bool false) ∧ ∃ q, w' = W.drewN q := fun W => (below_p d.path x.path W).mono (by rintro e w' ⟨rfl, rfl⟩; exact ⟨by rw [hbl], 0, rfl⟩)
                      go_wp2
                      go_quiet ((go_at_call 28; exact Calls.quiet_of (hBB _)))
                      go_wp2
                      go_roundw
                      case rel => exact ⟨k + 1, by go_num, by omega, below_drewN HBq.out _⟩
                      case measure => simp [intOf]; omega
                    | true =>
                      have hBB : ∀ W, Calls Tryz.prog 28 #[.string d.path, .string x.path] W fun e w' => e = .returned (.bool true) ∧ ∃ q, w' = W.drewN q := fun W => (below_p d.path x.path W).mono (by rintro e w' ⟨rfl, rfl⟩; exact ⟨by rw [hbl], 0, rfl⟩)
                      have hTB : ∀ q, Calls Tryz.prog 27 #[.slice a2 b.length c2, .string x.path] (World.drewN _ q) fun e w' => e = .returned (.bool true) ∧ ∃ q9, w' = (World.drewN _ q).drewN q9 := fun q => (there_p (.slice a2 b.length c2) b x.path _ (HUV.out.2.below (below_drewN (below_join HBW.out HBq.out) q)) (by omega)).mono (by rintro e w' ⟨rfl, rfl⟩; exact ⟨by rw [HD.out hg hbl], 0, rfl⟩)
                      go_wp2
                      go_quiet (first | (go_at_call 28; exact Calls.quiet_of (hBB _)) | (go_at_call 27; exact Calls.quiet_of (hTB _)))
                      go_wp2
                      go_roundw
                      case rel => exact ⟨k + 1, by go_num, by omega, below_drewN HBq.out _⟩
                      case measure => simp [intOf]; omega
                · have hge : ¬ (k : Int) < (i : Int) := by omega
                  go_wp2
                  go_roundw
                  case rel => exact ⟨i + 1, by go_num, by omega, below_join (below_join HBr.out HBV.out) hBq⟩
                  case measure => simp [intOf]; omega
            · obtain ⟨j, hij⟩ : ∃ j, i = j + 1 := ⟨i - 1, by omega⟩
              have hj1 : (0 : Int) < (i : Int) := by omega
              have hjl : (j : Int) < (l.length : Int) := by omega
              have hj0 : (0 : Int) ≤ (j : Int) := by omega
              have hw1 : IntKind.i64.wrap ((i : Int) - 1) = (j : Int) := by unfold IntKind.wrap; simp [IntKind.bits, IntKind.signed]; omega
              have HIJ : Hid (i = j + 1) := hij
              obtain ⟨d, hd⟩ : ∃ d, l[j]? = some d := ⟨_, List.getElem?_eq_getElem (by omega)⟩
              have hah := pair_at HF'.out (show j < i by omega) hd HC0.out
              have hdp : d.path.size ≤ 255 := by
                rcases HMEM.out d (List.mem_of_getElem? hd) with ⟨y, hy, rfl⟩ | ⟨y, hy, rfl⟩
                · exact HPS.out.1 y hy
                · exact HPS.out.2 y hy
              clear hij
              go_upto_region 11 with fail
              have hbx : (wr.alloc (.cells #[.string x.path, .bool false, .string x.path, .int .i64 x.kind, .int .i64 x.mode, .string x.data, .string x.link] 54)).heap[wr.heap.size]? = some (.cells #[.string x.path, .bool false, .string x.path, .int .i64 x.kind, .int .i64 x.mode, .string x.data, .string x.link] 54) := heap_alloc_new wr _
              have HBV0 : Hid (Below wr.heap.size wr (wr.alloc (.cells #[.string x.path, .bool false, .string x.path, .int .i64 x.kind, .int .i64 x.mode, .string x.data, .string x.link] 54))) := (Below.refl _ _).alloc (Nat.le_refl _) _
              clear e0 e1 e2 e3 e4 e5 e6
              generalize (wr.alloc (.cells #[.string x.path, .bool false, .string x.path, .int .i64 x.kind, .int .i64 x.mode, .string x.data, .string x.link] 54)) = V at *
              have q0 : V.cell? ⟨wr.heap.size, 0, none⟩ = some (.string x.path) := by unfold World.cell?; simp only [hbx]; rfl
              have q1 : V.cell? ⟨wr.heap.size, 1, none⟩ = some (.bool false) := by unfold World.cell?; simp only [hbx]; rfl
              have q2 : V.cell? ⟨wr.heap.size, 2, none⟩ = some (.string x.path) := by unfold World.cell?; simp only [hbx]; rfl
              have q3 : V.cell? ⟨wr.heap.size, 3, none⟩ = some (.int .i64 x.kind) := by unfold World.cell?; simp only [hbx]; rfl
              have q4 : V.cell? ⟨wr.heap.size, 4, none⟩ = some (.int .i64 x.mode) := by unfold World.cell?; simp only [hbx]; rfl
              have q5 : V.cell? ⟨wr.heap.size, 5, none⟩ = some (.string x.data) := by unfold World.cell?; simp only [hbx]; rfl
              have q6 : V.cell? ⟨wr.heap.size, 6, none⟩ = some (.string x.link) := by unfold World.cell?; simp only [hbx]; rfl
              obtain ⟨f0, f1, f2, f3, f4, f5, f6⟩ := HLC.out V HBV0.out j d hd
              have hwl : wr.heap.size < V.drew.heap.size := (Array.getElem?_eq_some_iff.1 hbx).1
              have hfl : xb < V.drew.heap.size := World.block_lt_of_cell? V _ f0
              have hCP := fun W => compare_p d.path x.path W (by omega) (by omega)
              obtain ⟨nn, hnn⟩ : ∃ nn, compareN d.path x.path = nn := ⟨_, rfl⟩
              rw [hnn] at hCP
              go_region_held3 (fun W => W.cell? ⟨xb, xo + j * 7, none⟩ = some (.string d.path) ∧ W.cell? ⟨wr.heap.size, 0, none⟩ = some (.string x.path))
                (first
                  | exact ⟨f0, q0⟩
                  | exact ⟨(h3.cell (p := ⟨xb, xo + j * 7, none⟩) hfl).trans f0, (h3.cell (p := ⟨wr.heap.size, 0, none⟩) hwl).trans q0⟩
                  | go_keep)
                ((go_at_call 26; refine (hCP _).mono ?_; rintro e w3 ⟨rfl, h3⟩))
              have HBV : Hid (Below wr.heap.size wr w3) := below_join (below_drewN HBV0.out 1) h3
              have HWL : Hid (wr.heap.size < w3.heap.size) := Nat.lt_of_lt_of_le hwl h3.size
              have HBW : Hid (Below w.heap.size w w3) := below_join (below_join HB1.out HBr.out) HBV.out
              have g1 : w3.cell? ⟨xb, xo + j * 7 + 1, none⟩ = some (.bool d.gone) := (h3.cell (p := ⟨xb, xo + j * 7 + 1, none⟩) hfl).trans f1
              have z0 : w3.cell? ⟨wr.heap.size, 0, none⟩ = some (.string x.path) := (h3.cell (p := ⟨wr.heap.size, 0, none⟩) hwl).trans q0
              have z1 : w3.cell? ⟨wr.heap.size, 1, none⟩ = some (.bool false) := (h3.cell (p := ⟨wr.heap.size, 1, none⟩) hwl).trans q1
              have z2 : w3.cell? ⟨wr.heap.size, 2, none⟩ = some (.string x.path) := (h3.cell (p := ⟨wr.heap.size, 2, none⟩) hwl).trans q2
              have z3 : w3.cell? ⟨wr.heap.size, 3, none⟩ = some (.int .i64 x.kind) := (h3.cell (p := ⟨wr.heap.size, 3, none⟩) hwl).trans q3
              have z4 : w3.cell? ⟨wr.heap.size, 4, none⟩ = some (.int .i64 x.mode) := (h3.cell (p := ⟨wr.heap.size, 4, none⟩) hwl).trans q4
              have z5 : w3.cell? ⟨wr.heap.size, 5, none⟩ = some (.string x.data) := (h3.cell (p := ⟨wr.heap.size, 5, none⟩) hwl).trans q5
              have z6 : w3.cell? ⟨wr.heap.size, 6, none⟩ = some (.string x.link) := (h3.cell (p := ⟨wr.heap.size, 6, none⟩) hwl).trans q6
              clear q0 q1 q2 q3 q4 q5 q6 f0 f1 f2 f3 f4 f5 f6 h3 hwl hfl hbx HBV0 hCP
              have hcase : nn < 0 ∨ (nn = 0 ∧ d.gone = true ∧ (false : Bool) = false) := by
                rcases hah.1 with h9 | ⟨h9, h10, h11⟩
                · exact .inl (by rw [← hnn]; exact h9)
                · exact .inr ⟨by rw [← hnn]; have h12 : d.path = x.path := h9; rw [h12]; exact order_self _, h10, h11⟩
              clear hah hnn hd
              rcases hcase with hlt | ⟨rfl, hdg, hkg⟩
              · have n1 : decide (0 < nn) = false := by simp; omega
                have n2 : (nn == 0) = false := by simp; omega
                clear hlt g1
                go_upto_region 14 with fail
                have hTH := there_p (.slice a2 b.length c2) b x.path w3 (HUV.out.2.below HBW.out) (by omega)
                rw [there_of hx] at hTH
                go_wp2_with (go_at_call 27; refine hTH.mono ?_; rintro e w' ⟨rfl, hw9⟩; obtain rfl := hw9.symm)
                have HZ9 : Hid (∀ W, Below w3.heap.size w3 W → W.cell? ⟨wr.heap.size, 0, none⟩ = some (.string x.path)) := fun W hb => (hb.cell (p := ⟨wr.heap.size, 0, none⟩) HWL.out).trans z0
                go_loopw [10] (fun q wq => ∃ k : Nat, q = .int .i64 k ∧ k ≤ i ∧ Below w3.heap.size w3 wq) (fun q _ => i - (intOf q).toNat)
                case atStart => exact ⟨0, rfl, Nat.zero_le _, Below.refl _ _⟩
                case round =>
                  obtain ⟨k, rfl, hk, hBq⟩ := hrel
                  by_cases hki : k < i
                  · have hki' : (k : Int) < (i : Int) := by omega
                    have hk0 : (0 : Int) ≤ (k : Int) := by omega
                    have hkl : (k : Int) < (l.length : Int) := by omega
                    obtain ⟨d, hd⟩ : ∃ d, l[k]? = some d := ⟨_, List.getElem?_eq_getElem (by omega)⟩
                    obtain ⟨e0, e1, e2, e3, e4, e5, e6⟩ := HLC.out _ (below_join HBV.out hBq) k d hd
                    have z9 := HZ9.out _ hBq
                    have hah := pair_at HF'.out hki hd HC0.out
                    have HD : Hid (d.gone = true → belowB d.path x.path = true → thereB b x.path = true) := fun _ _ => there_of hx
                    have HBq : Hid (Below w3.heap.size w3 _) := hBq
                    clear hd hah e2 e3 e4 e5 e6 hBq
                    cases hg : d.gone with
                    | false =>
                      rw [hg] at e1
                      go_wp2
                      go_quiet (fail)
                      go_wp2
                      go_roundw
                      case rel => exact ⟨k + 1, by go_num, by omega, below_drewN HBq.out _⟩
                      case measure => simp [intOf]; omega
                    | true =>
                      rw [hg] at e1
                      cases hbl : belowB d.path x.path with
                      | false =>
                        have hBB : ∀ W, Calls Tryz.prog 28 #[.string d.path, .string x.path] W fun e w' => e = .returned (.bool false) ∧ ∃ q, w' = W.drewN q := fun W => (below_p d.path x.path W).mono (by rintro e w' ⟨rfl, rfl⟩; exact ⟨by rw [hbl], 0, rfl⟩)
                        go_wp2
                        go_quiet ((go_at_call 28; exact Calls.quiet_of (hBB _)))
                        go_wp2
                        go_roundw
                        case rel => exact ⟨k + 1, by go_num, by omega, below_drewN HBq.out _⟩
                        case measure => simp [intOf]; omega
                      | true =>
                        have hBB : ∀ W, Calls Tryz.prog 28 #[.string d.path, .string x.path] W fun e w' => e = .returned (.bool true) ∧ ∃ q, w' = W.drewN q := fun W => (below_p d.path x.path W).mono (by rintro e w' ⟨rfl, rfl⟩; exact ⟨by rw [hbl], 0, rfl⟩)
                        have hTB : ∀ q, Calls Tryz.prog 27 #[.slice a2 b.length c2, .string x.path] (World.drewN _ q) fun e w' => e = .returned (.bool true) ∧ ∃ q9, w' = (World.drewN _ q).drewN q9 := fun q => (there_p (.slice a2 b.length c2) b x.path _ (HUV.out.2.below (below_drewN (below_join HBW.out HBq.out) q)) (by omega)).mono (by rintro e w' ⟨rfl, rfl⟩; exact ⟨by rw [HD.out hg hbl], 0, rfl⟩)
                        go_wp2
                        go_quiet (first | (go_at_call 28; exact Calls.quiet_of (hBB _)) | (go_at_call 27; exact Calls.quiet_of (hTB _)))
                        go_wp2
                        go_roundw
                        case rel => exact ⟨k + 1, by go_num, by omega, below_drewN HBq.out _⟩
                        case measure => simp [intOf]; omega
                  · have hge : ¬ (k : Int) < (i : Int) := by omega
                    go_wp2
                    go_roundw
                    case rel => exact ⟨i + 1, by go_num, by omega, below_join (below_join HBr.out HBV.out) hBq⟩
                    case measure => simp [intOf]; omega
              · rw [hdg] at g1
                go_upto_region 14 with fail
                have hTH := there_p (.slice a2 b.length c2) b x.path w3 (HUV.out.2.below HBW.out) (by omega)
                rw [there_of hx] at hTH
                go_wp2_with (go_at_call 27; refine hTH.mono ?_; rintro e w' ⟨rfl, hw9⟩; obtain rfl := hw9.symm)
                have HZ9 : Hid (∀ W, Below w3.heap.size w3 W → W.cell? ⟨wr.heap.size, 0, none⟩ = some (.string x.path)) := fun W hb => (hb.cell (p := ⟨wr.heap.size, 0, none⟩) HWL.out).trans z0
                go_loopw [10] (fun q wq => ∃ k : Nat, q = .int .i64 k ∧ k ≤ i ∧ Below w3.heap.size w3 wq) (fun q _ => i - (intOf q).toNat)
                case atStart => exact ⟨0, rfl, Nat.zero_le _, Below.refl _ _⟩
                case round =>
                  obtain ⟨k, rfl, hk, hBq⟩ := hrel
                  by_cases hki : k < i
                  · have hki' : (k : Int) < (i : Int) := by omega
                    have hk0 : (0 : Int) ≤ (k : Int) := by omega
                    have hkl : (k : Int) < (l.length : Int) := by omega
                    obtain ⟨d, hd⟩ : ∃ d, l[k]? = some d := ⟨_, List.getElem?_eq_getElem (by omega)⟩
                    obtain ⟨e0, e1, e2, e3, e4, e5, e6⟩ := HLC.out _ (below_join HBV.out hBq) k d hd
                    have z9 := HZ9.out _ hBq
                    have hah := pair_at HF'.out hki hd HC0.out
                    have HD : Hid (d.gone = true → belowB d.path x.path = true → thereB b x.path = true) := fun _ _ => there_of hx
                    have HBq : Hid (Below w3.heap.size w3 _) := hBq
                    clear hd hah e2 e3 e4 e5 e6 hBq
                    cases hg : d.gone with
                    | false =>
                      rw [hg] at e1
                      go_wp2
                      go_quiet (fail)
                      go_wp2
                      go_roundw
                      case rel => exact ⟨k + 1, by go_num, by omega, below_drewN HBq.out _⟩
                      case measure => simp [intOf]; omega
                    | true =>
                      rw [hg] at e1
                      cases hbl : belowB d.path x.path with
                      | false =>
                        have hBB : ∀ W, Calls Tryz.prog 28 #[.string d.path, .string x.path] W fun e w' => e = .returned (.bool false) ∧ ∃ q, w' = W.drewN q := fun W => (below_p d.path x.path W).mono (by rintro e w' ⟨rfl, rfl⟩; exact ⟨by rw [hbl], 0, rfl⟩)
                        go_wp2
                        go_quiet ((go_at_call 28; exact Calls.quiet_of (hBB _)))
                        go_wp2
                        go_roundw
                        case rel => exact ⟨k + 1, by go_num, by omega, below_drewN HBq.out _⟩
                        case measure => simp [intOf]; omega
                      | true =>
                        have hBB : ∀ W, Calls Tryz.prog 28 #[.string d.path, .string x.path] W fun e w' => e = .returned (.bool true) ∧ ∃ q, w' = W.drewN q := fun W => (below_p d.path x.path W).mono (by rintro e w' ⟨rfl, rfl⟩; exact ⟨by rw [hbl], 0, rfl⟩)
                        have hTB : ∀ q, Calls Tryz.prog 27 #[.slice a2 b.length c2, .string x.path] (World.drewN _ q) fun e w' => e = .returned (.bool true) ∧ ∃ q9, w' = (World.drewN _ q).drewN q9 := fun q => (there_p (.slice a2 b.length c2) b x.path _ (HUV.out.2.below (below_drewN (below_join HBW.out HBq.out) q)) (by omega)).mono (by rintro e w' ⟨rfl, rfl⟩; exact ⟨by rw [HD.out hg hbl], 0, rfl⟩)
                        go_wp2
                        go_quiet (first | (go_at_call 28; exact Calls.quiet_of (hBB _)) | (go_at_call 27; exact Calls.quiet_of (hTB _)))
                        go_wp2
                        go_roundw
                        case rel => exact ⟨k + 1, by go_num, by omega, below_drewN HBq.out _⟩
                        case measure => simp [intOf]; omega
                  · have hge : ¬ (k : Int) < (i : Int) := by omega
                    go_wp2
                    go_roundw
                    case rel => exact ⟨i + 1, by go_num, by omega, below_join (below_join HBr.out HBV.out) hBq⟩
                    case measure => simp [intOf]; omega
        · have hge : ¬ (i : Int) < (l.length : Int) := by omega
          have hwk := HW.out _ (below_join HB1.out hB)
          go_wp2_with (go_at_call 16; refine hwk.mono ?_; rintro e w7 ⟨rfl, h7⟩)
          go_ret
          exact ⟨rfl, below_join (below_join HB1.out hB) h7⟩
    · exact fail9 ((checkGo [] b).1, (1 : Int), ((checkGo [] b).2 : Int)) hb (by unfold diffR; rw [if_neg (by simpa using ha), if_pos hb])
  · exact fail9 ((checkGo [] a).1, (0 : Int), ((checkGo [] a).2 : Int)) ha (by unfold diffR; rw [if_pos ha])
end Go.Proofs.YtgildlfanfbebaaGreatDoor

namespace Go.Proofs.YtgildlfanfbebaaGreatDoor.fnDeltaForm
open Go.ChangeShapes Go.WideShapes Go.ChangeAt Go.RowKit
open Go.WideMaps Go.WideElems
open Go.ChangeMaps (open_string shut_string)

abbrev listed : List (String × DataW Unit) := listedU
set_option maxRecDepth 100000 in
theorem contract (H : Type) (enc : TypeId × Value → H) (W : World) (base : Nat) (args : Array Value) (ds gs : List (DataW H)) (before : List MemPlace)
    (hval : ∀ (j : Nat) t v, Tryz.f7.params[j]? = some t → args[j]? = some v → Value.okWide Tryz.prog W .any base t v)
    (hW : DataW.Whole enc Tryz.prog Tryz.f7.params.toList Rows.deltaFormSpec.vars false W args.toList ds gs before)
    (hz : (DataW.weightsEach Tryz.prog (Tryz.f7.params.toList ++ (OpenSpec.ofChange Rows.deltaFormSpec).bare.plain.varTypes Tryz.prog) (ds ++ gs)).all (· ≤ reachBytes) = true)
    (hL : laidMetH Tryz.prog listed W) :
    Calls Tryz.prog 7 args W fun e W' => ∃ v, e = .returned v ∧ Rows.deltaFormSpec.post enc Tryz.prog Tryz.f7 false true false false W args v W' := by
  have hW' := hW
  obtain ⟨p, q, hA0, hV, rfl, hfz, hnd⟩ := hW
  have hA : DataW.TrodAll enc Tryz.prog W 0 (fun _ => true) true Tryz.f7.params.toList args.toList ds p := hA0
  rw [Tryz.params7] at hA hval
  obtain ⟨v0, vs0, d0, ds0, p0, q0, hargs, rfl, rfl, h0, r0⟩ := trodAll_cons hA
  obtain ⟨v1, vs1, d1, ds1, p1, q1, rfl, rfl, rfl, h1, r1⟩ := trodAll_cons r0
  obtain ⟨rfl, rfl, rfl⟩ := trodAll_nil r1
  obtain rfl : args = #[v0, v1] := by cases args; simp_all
  obtain ⟨rfl, rfl⟩ := trodVars_none hV
  clear hA0
  simp only [List.append_nil] at hW'
  have k0 := fun (W' : World) (hg : Below W.heap.size W W') => Below.trod (by kernel_rfl) (by kernel_rfl) (of_decide_eq_true (by kernel_rfl)) h0 hg (by obtain ⟨fu, hf⟩ := h0; exact DataW.trod_lt _ _ _ _ hf)
  obtain ⟨l0, t0, y0, x0⟩ := open_ents_sized (j := 0) hz rfl rfl (hval 0 22 v0 rfl rfl) h0
  have k1 := fun (W' : World) (hg : Below W.heap.size W W') => Below.trod (by kernel_rfl) (by kernel_rfl) (of_decide_eq_true (by kernel_rfl)) h1 hg (by obtain ⟨fu, hf⟩ := h1; exact DataW.trod_lt _ _ _ _ hf)
  obtain ⟨l1, t1, y1, x1⟩ := open_ents_sized (j := 1) hz rfl rfl (hval 1 22 v1 rfl rfl) h1
  refine (deltaform_law v0 v1 l0 l1 W (handle_of_laidU hL) t0 t1 y0 y1 x0 x1).mono fun e W' ⟨he, hg⟩ => ?_
  subst he
  have e1 : Rows.deltaFormSpec.fn H ([d0, d1] ++ []) = { results := [.lit (.bool true)], args := [d0, d1] } := by simp [Rows.deltaFormSpec]
  refine ⟨_, rfl, _, _, _, [], p0 ++ (p1 ++ []), [], hW', ?_, ?_, ?_, hg.frame _, fun h => by cases h⟩
  · rw [e1]; exact trodAll_mk1 (shut_bool Tryz.underlying4 true)
  · rw [e1]; exact trodAll_cons_mk (k0 W' hg) (trodAll_cons_mk (k1 W' hg) trodAll_mk0)
  · rw [e1]; rfl

set_option maxRecDepth 100000 in
theorem met (os : Os) (args : Array Value) : laidMetH Tryz.prog listed ((laidWorldU os).forCall (fun _ _ => 0) ⟨#[], args, []⟩).memory :=
  laidMetH_of_parts (laidMet_of_run' 8 (by kernel_rfl) (by kernel_rfl)) (by kernel_rfl)
theorem reads (os : Os) {H : Type} (enc : TypeId × Value → H) : ∃ places, DataW.whole enc Tryz.prog ((laidWorldU os).forCall (fun _ _ => 0) ⟨#[], #[.slice none 0 0, .slice none 0 0], []⟩).memory Tryz.f7.params.toList Rows.deltaFormSpec.vars false #[Value.slice none 0 0, Value.slice none 0 0].toList 8 = some ([.nil, .nil], [], places) :=
  ⟨[], by kernel_rfl⟩

set_option maxRecDepth 100000 in
theorem lifted (os : Os) (started : os.Started) (H : Type) (enc : TypeId × Value → H) (F : Stop.Interp) :
    ReturnsInHanded {} Tryz.checked os 7 .any ((OpenSpec.ofChange Rows.deltaFormSpec).preRow enc Tryz.prog Tryz.f7 Rows.deltaFormRow.domain false Rows.deltaFormRow.laid) (((OpenSpec.ofChange Rows.deltaFormSpec).at F).post enc Tryz.prog Tryz.f7 false true false false) := by
  obtain ⟨places, hx⟩ := reads os enc
  refine returnsInHanded_of_row (C := Tryz.checked) (s := OpenSpec.ofChange Rows.deltaFormSpec) own started (by kernel_rfl) Tryz.func7
    (witness_row_at (enc := enc) (C := Tryz.checked) false (laidWorldU os) #[.slice none 0 0, .slice none 0 0] rfl (by kernel_rfl) (by kernel_rfl) (by kernel_rfl)
      (OpenSpec.preRow_of_cond 8 hx (by kernel_rfl) (fun k hk => by cases hk) (by kernel_rfl) (met os _))) ?_
  intro W base args ds gs before hval hW _ _ hz hL _ _
  exact contract H enc W base args ds gs before hval hW hz hL

theorem said : Rows.DeltaFormSaid :=
  OpenClaim.holds_of_cond 7 Tryz.f7 rfl rfl rfl rfl rfl rfl rfl ⟨rfl, rfl, rfl, rfl, rfl⟩ rfl rfl rfl rfl rfl (by kernel_rfl) Tryz.func7 (by kernel_rfl)
    (of_decide_eq_true (by kernel_rfl)) (by unfold Func.isWrapper; rw [if_neg (of_decide_eq_false (by kernel_rfl))]; exact ⟨rfl, rfl⟩)
    (fun os started H enc _ F => by rw [OpenClaim.pre_eq_preRow]; exact lifted os started H enc F)

theorem plainly (f : FuncId) (fn : Func) (hf : Tryz.pinned.checked.prog.funcNamed "strata/stratalaw10.DeltaForm" = some f) (hfn : Tryz.pinned.checked.prog.funcs[f]? = some fn) :
    true = Tryz.pinned.checked.prog.looks [] ∧ ∀ (j : Nat) t, fn.params[j]? = some t → Tryz.pinned.checked.prog.wantsStandIn t = false := by
  obtain rfl : f = 7 := Option.some.inj ((show Tryz.prog.funcNamed "strata/stratalaw10.DeltaForm" = some 7 by kernel_rfl).symm.trans hf) |>.symm
  obtain rfl : fn = Tryz.f7 := (Option.some.inj (Tryz.func7.symm.trans hfn)).symm
  refine ⟨by kernel_rfl, fun j t ht => ?_⟩
  rw [Tryz.params7] at ht
  have hm : t ∈ [22, 22] := by simpa using Array.mem_of_getElem? ht
  have hall : ([22, 22].all fun u => !Tryz.prog.wantsStandIn u) = true := by kernel_rfl
  exact (show Tryz.prog.wantsStandIn t = false by simpa using List.all_eq_true.1 hall t hm)

theorem card : Rows.DeltaFormCardSaid :=
  Claim7.holds_tied_plain_at .later [] _ _ _ _ said (fun _ h => by cases h) (by kernel_rfl) (fun _ h => by cases h) deltaForm_row_tie rfl ⟨rfl, rfl⟩ (by kernel_rfl) rfl plainly (by kernel_rfl)
end Go.Proofs.YtgildlfanfbebaaGreatDoor.fnDeltaForm
namespace Go.Proofs.YtgildlfanfbebaaGreatDoor
theorem deltaForm_card : Rows.DeltaFormCardSaid := fnDeltaForm.card
end Go.Proofs.YtgildlfanfbebaaGreatDoor
