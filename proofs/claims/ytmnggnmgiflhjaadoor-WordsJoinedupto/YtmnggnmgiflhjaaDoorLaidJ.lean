/- A Join among the arguments of a row: second form. -/
import Derived.Test.YtmnggnmgiflhjaaDoorLaidW
import Derived.WideShapes
import Derived.ChangeArms
namespace Go.Proofs.YtmnggnmgiflhjaaDoor
open Go Go.ChangeShapes Go.WideShapes Go.RowKit

set_option maxRecDepth 100000 in
theorem open_join {H : Type} {enc : TypeId × Value → H} {W : World} {b0 : Nat} {v : Value} {d : DataW H} {p : List MemPlace}
    (hv : Value.okWide Tryd.prog W .any b0 44 v) (h : DataW.Trod enc Tryd.prog W 0 (fun _ => true) true 44 v d p) : ∃ (a b : ByteArray) (c e : UInt8), v = .agg #[.string a, .string b, .int .u8 c.toNat, .int .u8 e.toNat] ∧ d = .agg [.lit (.string a.data.toList), .lit (.string b.data.toList), .lit (.int .u8 c.toNat), .lit (.int .u8 e.toNat)] := by
  obtain ⟨cs, rfl, hcs⟩ := okWide_struct Tryd.underlying44 hv
  obtain ⟨fuel, hf⟩ := h
  obtain ⟨xs, n, _, hx, hl, hlen, hff⟩ := DataW.trod_struct Tryd.underlying44 hf
  have hcl : cs.toList.length = 4 := by rw [Array.length_toList, hcs]; kernel_rfl
  obtain ⟨v0, v1, v2, v3, hvs⟩ : ∃ v0 v1 v2 v3, cs.toList = [v0, v1, v2, v3] := by
    match cs.toList, hcl with
    | [v0, v1, v2, v3], _ => exact ⟨v0, v1, v2, v3, rfl⟩
  obtain ⟨y0, y1, y2, y3, hys⟩ : ∃ y0 y1 y2 y3, xs = [y0, y1, y2, y3] := by
    match xs, hlen with
    | [y0, y1, y2, y3], _ => exact ⟨y0, y1, y2, y3, rfl⟩
  subst hys
  have hca : cs = #[v0, v1, v2, v3] := by cases cs; simp at hvs ⊢; exact hvs
  subst hca
  clear hf hl hlen hcl hvs hcs hv
  have m0 : Tryd.prog.cellsOf 5 = 1 := by kernel_rfl
  have m2 : Tryd.prog.cellsOf 9 = 1 := by kernel_rfl
  have g0 : DataW.trod enc Tryd.prog W 0 (fun _ => true) true n 9 [v0] = some y0 := by
    have e : DataW.trod enc Tryd.prog W 0 (fun _ => true) true n 9 ((([v0, v1, v2, v3] : List Value).drop 0).take (Tryd.prog.cellsOf 9)) = some y0 := hff 0 _ rfl
    rw [m2] at e
    exact e
  have g1 : DataW.trod enc Tryd.prog W 0 (fun _ => true) true n 9 [v1] = some y1 := by
    have e : DataW.trod enc Tryd.prog W 0 (fun _ => true) true n 9 ((([v0, v1, v2, v3] : List Value).drop 1).take (Tryd.prog.cellsOf 9)) = some y1 := hff 1 _ rfl
    rw [m2] at e
    exact e
  have g2 : DataW.trod enc Tryd.prog W 0 (fun _ => true) true n 5 [v2] = some y2 := by
    have e : DataW.trod enc Tryd.prog W 0 (fun _ => true) true n 5 ((([v0, v1, v2, v3] : List Value).drop 2).take (Tryd.prog.cellsOf 5)) = some y2 := hff 2 _ rfl
    rw [m0] at e
    exact e
  have g3 : DataW.trod enc Tryd.prog W 0 (fun _ => true) true n 5 [v3] = some y3 := by
    have e : DataW.trod enc Tryd.prog W 0 (fun _ => true) true n 5 ((([v0, v1, v2, v3] : List Value).drop 3).take (Tryd.prog.cellsOf 5)) = some y3 := hff 3 _ rfl
    rw [m0] at e
    exact e
  clear hff
  obtain ⟨s0, a0, b0, _⟩ := DataW.trod_string Tryd.underlying9 g0
  obtain rfl := (List.cons.inj a0).1
  subst b0
  obtain ⟨s1, a1, b1, _⟩ := DataW.trod_string Tryd.underlying9 g1
  obtain rfl := (List.cons.inj a1).1
  subst b1
  obtain ⟨i2, a2, b2, w2⟩ := DataW.trod_int Tryd.underlying5 g2
  obtain rfl := (List.cons.inj a2).1
  subst b2
  obtain ⟨i3, a3, b3, w3⟩ := DataW.trod_int Tryd.underlying5 g3
  obtain rfl := (List.cons.inj a3).1
  subst b3
  obtain ⟨c2, rfl⟩ := byte_of i2 w2
  obtain ⟨c3, rfl⟩ := byte_of i3 w3
  have e2 : d = .agg [.lit (.string s0.data.toList), .lit (.string s1.data.toList), .lit (.int .u8 c2.toNat), .lit (.int .u8 c3.toNat)] := congrArg Prod.fst hx
  exact ⟨s0, s1, c2, c3, rfl, e2⟩
end Go.Proofs.YtmnggnmgiflhjaaDoor
