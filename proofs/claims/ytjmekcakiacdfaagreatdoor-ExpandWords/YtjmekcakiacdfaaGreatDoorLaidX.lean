/- Lists of pairs and bytes among the arguments of a row, first form. -/
import Derived.Test.YtjmekcakiacdfaaGreatDoorRows
import Derived.Test.YtjmekcakiacdfaaGreatDoorPrX
import Derived.Test.YtjmekcakiacdfaaGreatDoorLaid
import Derived.SizedLaws
import Derived.Deep.Slices
import Derived.Deep.Strs
import Derived.ChangeArms
import Derived.ProofKit
import Derived.OpenShut
import Derived.LaidLaws
import Derived.LaidHandle
namespace Go.Proofs.YtjmekcakiacdfaaGreatDoor
open Go.ChangeShapes Go.WideShapes Go.RowKit

theorem byte_of (n : Int) (h : (Lit.int .u8 n).wf = true) : ∃ c : UInt8, n = (c.toNat : Int) := by
  have e1 : IntKind.u8.min = 0 := rfl
  have e2 : IntKind.u8.max = 255 := rfl
  simp [Lit.wf] at h
  refine ⟨UInt8.ofNat n.toNat, ?_⟩
  rw [UInt8.toNat_ofNat', Nat.mod_eq_of_lt (by omega)]; omega
def prD {H : Type} (e : PrZ) : DataW H := .agg [.lit (.string e.key.data.toList), .lit (.string e.val.data.toList)]
def prC (e : PrZ) : List Value := [.string e.key, .string e.val]
theorem pr_size : Tryz.prog.cellsOf 53 = 2 := by kernel_rfl
theorem pr_bytes : Tryz.prog.bytesOf 53 = 32 := by kernel_rfl
set_option maxRecDepth 100000 in
theorem open_oneP {H : Type} {enc : TypeId × Value → H} {W : World} {n : Nat} {cs : List Value} {x : DataW H × List MemPlace} (hlen : cs.length = 2) (hf : DataW.trod enc Tryz.prog W 0 (fun _ => true) true n 53 cs = some x) :
    ∃ e : PrZ, cs = prC e ∧ x.1 = prD e := by
  obtain ⟨xs, n, _, hx, hl, hlen2, hff⟩ := DataW.trod_struct Tryz.underlying53 hf
  obtain ⟨v0, v1, hvs⟩ : ∃ v0 v1, cs = [v0, v1] := by
    match cs, hlen with
    | [v0, v1], _ => exact ⟨v0, v1, rfl⟩
  obtain ⟨y0, y1, hys⟩ : ∃ y0 y1, xs = [y0, y1] := by
    match xs, hlen2 with
    | [y0, y1], _ => exact ⟨y0, y1, rfl⟩
  subst hys
  subst hvs
  have m2 : Tryz.prog.cellsOf 9 = 1 := by kernel_rfl
  have g0 : DataW.trod enc Tryz.prog W 0 (fun _ => true) true n 9 [v0] = some y0 := by
    have e : DataW.trod enc Tryz.prog W 0 (fun _ => true) true n 9 ((([v0, v1] : List Value).drop 0).take (Tryz.prog.cellsOf 9)) = some y0 := hff 0 _ rfl
    rw [m2] at e
    exact e
  have g1 : DataW.trod enc Tryz.prog W 0 (fun _ => true) true n 9 [v1] = some y1 := by
    have e : DataW.trod enc Tryz.prog W 0 (fun _ => true) true n 9 ((([v0, v1] : List Value).drop 1).take (Tryz.prog.cellsOf 9)) = some y1 := hff 1 _ rfl
    rw [m2] at e
    exact e
  clear hff
  obtain ⟨s0, a0, b0, _⟩ := DataW.trod_string Tryz.underlying9 g0
  obtain rfl := (List.cons.inj a0).1
  subst b0
  obtain ⟨s1, a1, b1, _⟩ := DataW.trod_string Tryz.underlying9 g1
  obtain rfl := (List.cons.inj a1).1
  subst b1
  exact ⟨⟨s0, s1⟩, rfl, by rw [hx]; rfl⟩
theorem all_weightsP {H : Type} {P : Program} {e : TypeId} (k : Nat) : ∀ (ds : List (DataW H)) (d : DataW H), d ∈ ds → k ∈ DataW.weights P e d → k ∈ DataW.weightsAll P e ds
  | [], _, h, _ => by cases h
  | y :: ds, d, h, hk => by
    rw [DataW.weightsAll, List.mem_append]
    rcases List.mem_cons.1 h with rfl | h
    · exact Or.inl hk
    · exact Or.inr (all_weightsP k ds d h hk)
set_option maxRecDepth 100000 in
theorem open_prs_sized {H : Type} {enc : TypeId × Value → H} {W : World} {b0 j : Nat} {v : Value} {d : DataW H} {p : List MemPlace} {ts : List TypeId} {ds : List (DataW H)}
    (hz : (DataW.weightsEach Tryz.prog ts ds).all (· ≤ reachBytes) = true) (ht : ts[j]? = some 22) (hd : ds[j]? = some d)
    (hv : Value.okWide Tryz.prog W .any b0 22 v) (h : DataW.Trod enc Tryz.prog W 0 (fun _ => true) true 22 v d p) : ∃ l : List PrZ, PrsAt W v l ∧ l.length ≤ 4398046511104 ∧ ∀ x ∈ l, x.key.size ≤ 140737488355328 ∧ x.val.size ≤ 140737488355328 := by
  obtain ⟨a0, len0, cap0, rfl⟩ := okWide_slice Tryz.underlying22 hv
  have er : reachBytes = 140737488351232 := rfl
  obtain ⟨fuel, hf⟩ := h
  rcases Go.Deep.open_slice Tryz.underlying22 hf with ⟨hcs, hx⟩ | ⟨a, len, cap, m, n, D, Pl, hcs, _, hl, hm, hmm, hx, hall⟩
  · have e : Value.slice a0 len0 cap0 = .slice none 0 0 := by simpa [Value.cells] using hcs
    rw [e]
    exact ⟨[], ⟨none, 0, 0, 0, rfl, fun h => absurd rfl h, Nat.le_refl _, fun i x h => by simp at h⟩, by simp, fun x h => by cases h⟩
  · have e : Value.slice a0 len0 cap0 = .slice (some a) len cap := by simpa [Value.cells] using hcs
    rw [e]
    rw [if_pos rfl] at hmm
    have e2 : d = .slice ((List.range len).map D) ((List.range (m - len)).map fun j => D (len + j)) := congrArg Prod.fst hx
    rw [e2] at hd
    have each : ∀ i, i < len → ∃ s : PrZ, (∀ j v, (prC s)[j]? = some v → W.cell? (a.add (i * 2 + j)) = some v) ∧ D i = prD s := by
      intro i hi
      obtain ⟨cs', h1, h2⟩ := hall i (by omega)
      rw [pr_size] at h1
      obtain ⟨_, hlen, hcell⟩ := World.cells?_some h1
      obtain ⟨s, hxe, hxd⟩ := open_oneP hlen h2
      refine ⟨s, fun j v hj => ?_, hxd⟩
      have hj5 : j < 2 := (List.getElem?_eq_some_iff.1 hj).1
      have c := hcell j (by omega)
      rw [Go.Deep.add_add] at c
      rw [c]
      subst hxe
      first | exact hj | (rw [← hj]; simp) | simpa using hj
    obtain ⟨f, hfx⟩ : ∃ f : Nat → PrZ, ∀ i, i < len → (∀ j v, (prC (f i))[j]? = some v → W.cell? (a.add (i * 2 + j)) = some v) ∧ D i = prD (f i) :=
      ⟨fun i => if h : i < len then Classical.choose (each i h) else ⟨⟨#[]⟩, ⟨#[]⟩⟩, fun i hi => by simp only [dif_pos hi]; exact Classical.choose_spec (each i hi)⟩
    have hs1 := sized_slice hz ht hd Tryz.underlying22
    rw [pr_bytes, List.length_map, List.length_map, List.length_range, List.length_range] at hs1
    refine ⟨(List.range len).map f, ?_, by rw [List.length_map, List.length_range]; omega, ?_⟩
    · by_cases h0 : len = 0
      · subst h0
        exact ⟨some a, cap, 0, 0, by simp, fun h => absurd rfl h, by simp, fun i x h => by simp at h⟩
      · obtain ⟨b, off, spot⟩ := a
        have hc0 := (hfx 0 (by omega)).1 0 _ rfl
        have hspot : spot = none := by simpa [Addr.add] using World.cell?_spot hc0
        subst hspot
        refine ⟨some ⟨b, off, none⟩, cap, b, off, by simp, fun _ => rfl, by simpa using hl, fun i x hi => ?_⟩
        have h1 : i < len := by have := (List.getElem?_eq_some_iff.1 hi).1; simpa using this
        have hx2 : x = f i := by simpa [h1] using hi.symm
        subst hx2
        have hc : ∀ j v, (prC (f i))[j]? = some v → W.cell? ⟨b, off + i * 2 + j, none⟩ = some v := fun j v hj => by
          have := (hfx i h1).1 j v hj
          rw [Addr.add_mid] at this
          rw [Nat.add_assoc]; exact this
        exact ⟨hc 0 _ rfl, hc 1 _ rfl⟩
    · intro x hx3
      obtain ⟨i, hi, rfl⟩ := List.mem_map.1 hx3
      have hi2 := List.mem_range.1 hi
      have wt : ∀ k, k ∈ DataW.weights Tryz.prog 53 (D i) → k ≤ reachBytes := fun k hk => by
        have hw := List.all_eq_true.1 hz _ (DataW.weights_mem_each ht hd k (by
          have h9 := all_weightsP (P := Tryz.prog) (e := 53) k ((List.range len).map D) (D i) (List.mem_map_of_mem hi) hk
          simp [DataW.weights, Tryz.underlying22, h9]))
        exact of_decide_eq_true hw
      have hs : (f i).key.data.toList.length = (f i).key.size := un_length _
      have hs2 : (f i).val.data.toList.length = (f i).val.size := un_length _
      have w1 := wt (f i).key.size (by
        rw [(hfx i hi2).2]
        simp [prD, DataW.weights, DataW.weightsEach, Tryz.underlying53, hs])
      have w2 := wt (f i).val.size (by
        rw [(hfx i hi2).2]
        simp [prD, DataW.weights, DataW.weightsEach, Tryz.underlying53, hs2])
      omega
end Go.Proofs.YtjmekcakiacdfaaGreatDoor
