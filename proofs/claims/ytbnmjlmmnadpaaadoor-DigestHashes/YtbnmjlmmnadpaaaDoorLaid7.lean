/- A list of steps among the arguments, where it may be as great as a machine holds. -/
import Derived.Test.YtbnmjlmmnadpaaaDoorLaid6
import Derived.Test.YtbnmjlmmnadpaaaDoorLawHashes
import Derived.Deep.Slices
import Derived.Deep.Strs
import Derived.ChangeArms
import Derived.SizedLaws
namespace Go.Proofs.YtbnmjlmmnadpaaaDoor
open Go.ChangeShapes Go.WideShapes Go.RowKit

theorem all_weights {H : Type} {P : Program} {e : TypeId} (k : Nat) : ∀ (ds : List (DataW H)) (d : DataW H), d ∈ ds → k ∈ DataW.weights P e d → k ∈ DataW.weightsAll P e ds
  | [], _, h, _ => by cases h
  | y :: ds, d, h, hk => by
    rw [DataW.weightsAll, List.mem_append]
    rcases List.mem_cons.1 h with rfl | h
    · exact Or.inl hk
    · exact Or.inr (all_weights k ds d h hk)
theorem act_cells : Tryd.prog.cellsOf 34 = 3 := by kernel_rfl
theorem act_bytes : Tryd.prog.bytesOf 34 = 24 := by kernel_rfl
set_option maxRecDepth 100000 in
theorem open_acts_sized {H : Type} {enc : TypeId × Value → H} {W : World} {b0 j : Nat} {v : Value} {d : DataW H} {p : List MemPlace} {ts : List TypeId} {ds : List (DataW H)}
    (hz : (DataW.weightsEach Tryd.prog ts ds).all (· ≤ reachBytes) = true) (ht : ts[j]? = some 27) (hd : ds[j]? = some d)
    (hv : Value.okWide Tryd.prog W .any b0 27 v) (h : DataW.Trod enc Tryd.prog W 0 (fun _ => true) true 27 v d p) : ∃ l : List ActV, ActsAt W v l ∧ l.length ≤ 8796093021952 ∧ ∀ x ∈ l, x.1.size ≤ 140737488351232 := by
  obtain ⟨a0, len0, cap0, rfl⟩ := okWide_slice Tryd.underlying27 hv
  have er : reachBytes = 140737488351232 := rfl
  obtain ⟨fuel, hf⟩ := h
  rcases Go.Deep.open_slice Tryd.underlying27 hf with ⟨hcs, hx⟩ | ⟨a, len, cap, m, n, D, Pl, hcs, _, hl, hm, hmm, hx, hall⟩
  · have e : Value.slice a0 len0 cap0 = .slice none 0 0 := by simpa [Value.cells] using hcs
    rw [e]
    exact ⟨[], ⟨none, 0, rfl, fun _ => rfl, fun i x h => by simp at h⟩, by simp, fun x h => by cases h⟩
  · have e : Value.slice a0 len0 cap0 = .slice (some a) len cap := by simpa [Value.cells] using hcs
    rw [e]
    rw [if_pos rfl] at hmm
    have e2 : d = .slice ((List.range len).map D) ((List.range (m - len)).map fun j => D (len + j)) := congrArg Prod.fst hx
    rw [e2] at hd
    have each : ∀ i, i < len → ∃ x : ActV, W.cell? (a.add (i * 3)) = some (.string x.1) ∧ W.cell? (a.add (i * 3 + 1)) = some (.bool x.2.1) ∧ W.cell? (a.add (i * 3 + 2)) = some (.bool x.2.2) ∧ D i = .agg [.lit (.string x.1.data.toList), .lit (.bool x.2.1), .lit (.bool x.2.2)] := by
      intro i hi
      obtain ⟨cs', h1, h2⟩ := hall i (by omega)
      rw [act_cells] at h1
      obtain ⟨_, hlen, hcell⟩ := World.cells?_some h1
      obtain ⟨y0, y1, y2, n', hxy, _, g0, g1, g2⟩ := Go.Deep.trod_struct3 Tryd.underlying34 h2
      obtain ⟨s, k0, k1, _⟩ := DataW.trod_string Tryd.underlying9 g0
      obtain ⟨b1, k2, k3⟩ := DataW.trod_bool Tryd.underlying4 g1
      obtain ⟨b2, k4, k5⟩ := DataW.trod_bool Tryd.underlying4 g2
      have c0 := hcell 0 (by omega)
      have c1 := hcell 1 (by omega)
      have c2 := hcell 2 (by omega)
      rw [Go.Deep.add_add] at c0 c1 c2
      match cs', hlen with
      | [v0, v1, v2], _ =>
        have m1 : Tryd.prog.cellsOf 9 = 1 := by kernel_rfl
        have m2 : Tryd.prog.cellsOf 4 = 1 := by kernel_rfl
        simp [m1, m2] at k0 k2 k4
        refine ⟨(s, b1, b2), ?_, ?_, ?_, ?_⟩
        · rw [Nat.add_zero] at c0; rw [c0, ← k0]; rfl
        · rw [c1, ← k2]; rfl
        · rw [c2, ← k4]; rfl
        · have := congrArg Prod.fst hxy
          rw [k1, k3, k5] at this
          exact this
    obtain ⟨f, hfx⟩ : ∃ f : Nat → ActV, ∀ i, i < len → W.cell? (a.add (i * 3)) = some (.string (f i).1) ∧ W.cell? (a.add (i * 3 + 1)) = some (.bool (f i).2.1) ∧ W.cell? (a.add (i * 3 + 2)) = some (.bool (f i).2.2) ∧ D i = .agg [.lit (.string (f i).1.data.toList), .lit (.bool (f i).2.1), .lit (.bool (f i).2.2)] :=
      ⟨fun i => if h : i < len then Classical.choose (each i h) else (⟨#[]⟩, false, false), fun i hi => by simp only [dif_pos hi]; exact Classical.choose_spec (each i hi)⟩
    have hs1 := sized_slice hz ht hd Tryd.underlying27
    rw [act_bytes, List.length_map, List.length_map, List.length_range, List.length_range] at hs1
    refine ⟨(List.range len).map f, ⟨some a, cap, by simp, (fun e => nomatch e), ?_⟩, by rw [List.length_map, List.length_range]; omega, ?_⟩
    · intro i x hi
      have h0 : i < len := by have := (List.getElem?_eq_some_iff.1 hi).1; simpa using this
      have hx2 : x = f i := by simpa [h0] using hi.symm
      subst hx2
      obtain ⟨c0, c1, c2, _⟩ := hfx i h0
      obtain ⟨b, off, spot⟩ := a
      have hc0 := (hfx 0 (by omega)).1
      have hspot : spot = none := by simpa [Addr.add] using World.cell?_spot hc0
      subst hspot
      rw [Addr.add_mid] at c0 c1 c2
      exact ⟨b, off, rfl, c0, by rw [Nat.add_assoc]; exact c1, by rw [Nat.add_assoc]; exact c2⟩
    · intro x hx3
      obtain ⟨i, hi, rfl⟩ := List.mem_map.1 hx3
      have hi2 := List.mem_range.1 hi
      have hw := List.all_eq_true.1 hz _ (DataW.weights_mem_each ht hd (f i).1.size (by
        have h9 := all_weights (P := Tryd.prog) (e := 34) (f i).1.size ((List.range len).map D) (D i) (List.mem_map_of_mem hi) (by
          rw [(hfx i hi2).2.2.2]
          have hs : (f i).1.data.toList.length = (f i).1.size := un_length _
          simp [DataW.weights, DataW.weightsEach, Tryd.underlying34, hs])
        simp [DataW.weights, Tryd.underlying27, h9]))
      have := of_decide_eq_true hw
      omega
end Go.Proofs.YtbnmjlmmnadpaaaDoor
