/- A list of texts among the arguments, where it may be as great as a machine holds. -/
import Derived.Test.YtmnggnmgiflhjaaDoorLaidW
import Derived.Test.YtmnggnmgiflhjaaDoorLists
import Derived.SliceStrings
import Derived.SizedLaws
namespace Go.Proofs.YtmnggnmgiflhjaaDoor
open Go.ChangeShapes Go.WideShapes Go.RowKit

theorem strs_weights {H : Type} (l : List ByteArray) : ∀ x ∈ l, x.size ∈ DataW.weightsAll Tryd.prog 9 (ChangeShapes.strs l : List (DataW H)) := by
  induction l with
  | nil => intro x h; cases h
  | cons y l ih =>
    intro x h
    have e3 : (ChangeShapes.strs (y :: l) : List (DataW H)) = .lit (.string y.data.toList) :: ChangeShapes.strs l := rfl
    rw [e3, DataW.weightsAll, List.mem_append]
    rcases List.mem_cons.1 h with rfl | h
    · refine Or.inl ?_
      have hs : x.data.toList.length = x.size := un_length x
      simp [DataW.weights, hs]
    · exact Or.inr (ih x h)
set_option maxRecDepth 100000 in
theorem open_texts_sized {H : Type} {enc : TypeId × Value → H} {W : World} {b0 j : Nat} {v : Value} {d : DataW H} {p : List MemPlace} {ts : List TypeId} {ds : List (DataW H)}
    (hz : (DataW.weightsEach Tryd.prog ts ds).all (· ≤ reachBytes) = true) (ht : ts[j]? = some 47) (hd : ds[j]? = some d)
    (hv : Value.okWide Tryd.prog W .any b0 47 v) (h : DataW.Trod enc Tryd.prog W 0 (fun _ => true) true 47 v d p) : ∃ l : List ByteArray, TextsAt W v l ∧ l.length ≤ 8796093021952 ∧ ∀ x ∈ l, x.size ≤ 140737488351232 := by
  obtain ⟨a0, len0, cap0, rfl⟩ := okWide_slice Tryd.underlying47 hv
  have er : reachBytes = 140737488351232 := rfl
  obtain ⟨fuel, hf⟩ := h
  rcases open_strings Tryd.underlying47 Tryd.underlying9 (by kernel_rfl) hf with ⟨hcs, hx⟩ | ⟨a, len, cap, ss, hcs, _, hl, hm, hsz, hx, hcell, _⟩
  · have e : Value.slice a0 len0 cap0 = .slice none 0 0 := by simpa [Value.cells] using hcs
    rw [e]
    exact ⟨[], TextsAt.nil W, by simp, fun x h => by cases h⟩
  · have e : Value.slice a0 len0 cap0 = .slice (some a) len cap := by simpa [Value.cells] using hcs
    rw [e]
    have e2 : d = .slice (ChangeShapes.strs (ss.take len)) (ChangeShapes.strs (ss.drop len)) := congrArg Prod.fst hx
    rw [e2] at hd
    rw [if_pos rfl] at hsz
    have hlen : (ss.take len).length = len := by rw [List.length_take]; omega
    have hs1 := sized_slice hz ht hd Tryd.underlying47
    have hb : Tryd.prog.bytesOf 9 = 16 := by kernel_rfl
    have hl1 : (ChangeShapes.strs (ss.take len) : List (DataW H)).length = len := by rw [← hlen]; simp [ChangeShapes.strs]
    rw [hb, hl1] at hs1
    refine ⟨ss.take len, ⟨some a, cap, by rw [hlen], (fun e => nomatch e), ?_⟩, by omega, ?_⟩
    · intro i x hi
      have h0 : i < len := by have := (List.getElem?_eq_some_iff.1 hi).1; omega
      have hc := hcell i (by omega)
      have hx2 : ss[i]? = some x := by rwa [List.getElem?_take, if_pos h0] at hi
      rw [List.getD_eq_getElem?_getD, hx2] at hc
      obtain ⟨b, off, spot⟩ := a
      have hc0 := hcell 0 (by omega)
      have hspot : spot = none := by simpa [Addr.add] using World.cell?_spot hc0
      subst hspot
      exact ⟨b, off, rfl, by rw [← Addr.add_mid]; exact hc⟩
    · intro x hx3
      have hw := List.all_eq_true.1 hz _ (DataW.weights_mem_each ht hd x.size (by
        have := strs_weights (H := H) (ss.take len) x hx3
        simp [DataW.weights, Tryd.underlying47, this]))
      have := of_decide_eq_true hw
      omega
end Go.Proofs.YtmnggnmgiflhjaaDoor
