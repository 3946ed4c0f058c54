/- What the rows of layer 5 list, as a walk reads it; a world in which it stands; headers and entries among the arguments. -/
import Derived.Test.YtgdkgdlgalinbaaGreatDoorRows
import Derived.Test.YtgdkgdlgalinbaaGreatDoorPlain
import Derived.Test.YtgdkgdlgalinbaaGreatDoorOctU
import Derived.Test.YtgdkgdlgalinbaaGreatDoorHdU
import Derived.LaidHandle
import Derived.LaidLaws
import Derived.Stop.Joined
import Derived.Lib.LaidTab
import Derived.SliceStrings
import Derived.Laws.Tables
import Derived.ChangeArms
import Derived.SizedLaws
namespace Go.Proofs.YtgdkgdlgalinbaaGreatDoor
open Go.ChangeShapes Go.WideShapes Go.RowKit

theorem own : ownKnob Tryz.prog.godebug = none := by kernel_rfl
theorem l_et : Tryz.prog.globalNamed "errors.errorType" = some 1 := by kernel_rfl
theorem l_rt : (Tryz.prog.cutTypes.find? (·.1 == "internal/reflectlite.rtype")).map (·.2) = some 107 := by kernel_rfl
theorem l_oneRow : ((List.range 201).filter fun t => Tryz.prog.rowNamed t [101, 114, 114, 111, 114]) = [24] := by kernel_rfl
theorem l_size : Tryz.prog.types.size = 201 := by kernel_rfl
/-- A listed table stands as it is listed. -/
theorem tab_of_vars {P : Program} {W : World} {name : String} {k : IntKind} {zs : List Int} {g : Nat} {t e : TypeId} {n : Nat}
    (hg : P.globalNamed name = some g) (hty : (P.globals[g]?).map (·.type) = some t) (ht : P.underlying t = some (.array n e)) (he : P.underlying e = some (.int k)) (hce : P.cellsOf e = 1) (hct : P.cellsOf t = n) :
    ∀ {l : List (String × DataW Unit)} {ps : List MemPlace}, DataW.LaidVars P W l ps → (name, Lib.tabData k zs) ∈ l → Lib.TabIs P W name k zs
  | [], _, _, hm => by cases hm
  | (m, d) :: r, ps, h, hm => by
    obtain ⟨g', t', cs, fuel, p, q, hg', ht', hvar, hd, hr, _⟩ := h
    rcases List.mem_cons.1 hm with e1 | h2
    · cases e1
      obtain rfl := Option.some.inj (hg.symm.trans hg')
      obtain rfl := Option.some.inj (hty.symm.trans ht')
      unfold Lib.TabIs
      rw [hvar, ← Lib.cells_of_tab ht he hce hct hd]
    · exact tab_of_vars hg hty ht he hce hct hr h2
def intsOf : DataW Unit → List Int
  | .agg ds => ds.map fun
    | .lit (.int _ n) => n
    | _ => 0
  | _ => []
def brTab : List Int := intsOf Rows.laid_math_bits_deBruijn64tab
abbrev dataV : List (String × DataW Unit) := [("math/bits.deBruijn32tab", Rows.laid_math_bits_deBruijn32tab), ("math/bits.deBruijn64tab", Rows.laid_math_bits_deBruijn64tab), ("internal/strconv.uint64pow10", Rows.laid_internal_strconv_uint64pow10), ("unicode/utf8.acceptRanges", Rows.laid_unicode_utf8_acceptRanges), ("strata/ustar.begins", Rows.laid_strata_ustar_begins), ("unicode/utf8.first", Rows.laid_unicode_utf8_first)]
abbrev listedV : List (String × DataW Unit) := [("math/bits.deBruijn32tab", Rows.laid_math_bits_deBruijn32tab), ("math/bits.deBruijn64tab", Rows.laid_math_bits_deBruijn64tab), ("internal/strconv.uint64pow10", Rows.laid_internal_strconv_uint64pow10), ("unicode/utf8.acceptRanges", Rows.laid_unicode_utf8_acceptRanges), ("errors.errorType", Rows.laid_errors_errorType), ("strata/ustar.begins", Rows.laid_strata_ustar_begins), ("unicode/utf8.first", Rows.laid_unicode_utf8_first)]
theorem l_db : Tryz.prog.globalNamed "math/bits.deBruijn64tab" = some 7 := by kernel_rfl
set_option maxRecDepth 100000 in
theorem env_of_laid {W : World} (h : laidMetH Tryz.prog listedV W) : Env W ∧ ErrType W := by
  have h2 : laidMet Tryz.prog dataV W ∧ handlesMet Tryz.prog [("errors.errorType", Rows.laid_errors_errorType)] W := h
  obtain ⟨ps, hv, _⟩ := h2.1
  have t1 : BTab W := tab_of_vars (g := 0) (by kernel_rfl) (by kernel_rfl) Tryz.underlying61 Tryz.underlying3 (by kernel_rfl) (by kernel_rfl) hv (show ("strata/ustar.begins", Lib.tabData .i64 begTab) ∈ dataV from List.mem_cons_of_mem _ (List.mem_cons_of_mem _ (List.mem_cons_of_mem _ (List.mem_cons_of_mem _ List.mem_cons_self))))
  have t2 : Lib.TabIs Tryz.prog W "math/bits.deBruijn64tab" .u8 brTab := tab_of_vars (g := 7) (by kernel_rfl) (by kernel_rfl) Tryz.underlying174 Tryz.underlying5 (by kernel_rfl) (by kernel_rfl) hv (show ("math/bits.deBruijn64tab", Lib.tabData .u8 brTab) ∈ dataV from List.mem_cons_of_mem _ List.mem_cons_self)
  have z : ZAt W := Lib.TabIs.cell t2 l_db 7 (by decide)
  have gl : 8 ≤ W.heap.size := by
    have := var_lt l_db t2
    omega
  refine ⟨⟨t1, z, gl⟩, ?_⟩
  obtain ⟨name, u, ty, e1, e2, e3, e4, e5⟩ := h2.2 _ (List.mem_singleton.2 rfl)
  have en : name = [101, 114, 114, 111, 114] := (Option.some.inj e1).symm
  subst en
  obtain rfl := Option.some.inj (l_rt.symm.trans e2)
  have hm : ty ∈ (List.range 201).filter fun t => Tryz.prog.rowNamed t [101, 114, 114, 111, 114] := List.mem_filter.2 ⟨List.mem_range.2 (by rw [← l_size]; exact e3), e4⟩
  rw [l_oneRow] at hm
  obtain rfl := List.mem_singleton.1 hm
  have hh : typeHandle Tryz.prog 24 = .pointer (some ⟨8, 24, none⟩) := by kernel_rfl
  rw [hh] at e5
  have h3 := World.var?_cell l_et e5 0
  unfold ErrType
  simpa using h3
def numsOf : DataW Unit → List Value
  | .lit (.int k n) => [.int k n]
  | .agg ds => ds.flatMap fun
    | .lit (.int k n) => [Value.int k n]
    | .agg es => es.map fun
      | .lit (.int k n) => Value.int k n
      | _ => .int .i64 0
    | _ => []
  | _ => []
noncomputable def laidWorldV (os : Os) : World :=
  (((((((World.holding Tryz.prog os ⟨#[], #[], []⟩).setRow 6 (numsOf Rows.laid_math_bits_deBruijn32tab).toArray).setRow 7 (numsOf Rows.laid_math_bits_deBruijn64tab).toArray).setRow 3 (numsOf Rows.laid_internal_strconv_uint64pow10).toArray).setRow 5 (numsOf Rows.laid_unicode_utf8_acceptRanges).toArray).setRow 0 (numsOf Rows.laid_strata_ustar_begins).toArray).setRow 4 (numsOf Rows.laid_unicode_utf8_first).toArray).setRow 1 #[.iface 107 (.agg #[.pointer (some ⟨8, 24, none⟩)])]

theorem u8_of (n : Int) (h : (Lit.int .u8 n).wf = true) : n = ((UInt8.ofNat n.toNat).toNat : Int) := by
  simp only [Lit.wf, Bool.and_eq_true, decide_eq_true_eq] at h
  have h1 : 0 ≤ n := h.1
  have h2 : n ≤ 255 := h.2
  rw [UInt8.toNat_ofNat']
  omega
theorem i64_of (n : Int) (h : (Lit.int .i64 n).wf = true) : -9223372036854775808 ≤ n ∧ n ≤ 9223372036854775807 := by
  simp only [Lit.wf, Bool.and_eq_true, decide_eq_true_eq] at h
  exact ⟨h.1, h.2⟩
set_option maxRecDepth 100000 in
set_option maxHeartbeats 2000000 in
/-- A header among the arguments. -/
theorem open_hd {H : Type} {enc : TypeId × Value → H} {W : World} {b0 j : Nat} {v : Value} {d : DataW H} {p : List MemPlace} {ts : List TypeId} {ds : List (DataW H)}
    (hz : (DataW.weightsEach Tryz.prog ts ds).all (· ≤ reachBytes) = true) (ht : ts[j]? = some 28) (hd : ds[j]? = some d)
    (hv : Value.okWide Tryz.prog W .any b0 28 v) (h : DataW.Trod enc Tryz.prog W 0 (fun _ => true) true 28 v d p) : ∃ h : Hd, v = .agg (hcs h) ∧ h.path.size ≤ 140737488351232 ∧ h.link.size ≤ 140737488351232 ∧ h.user.size ≤ 140737488351232 ∧ h.group.size ≤ 140737488351232 ∧ (-9223372036854775808 ≤ h.mode ∧ h.mode ≤ 9223372036854775807) ∧ (-9223372036854775808 ≤ h.uid ∧ h.uid ≤ 9223372036854775807) ∧ (-9223372036854775808 ≤ h.gid ∧ h.gid ≤ 9223372036854775807) ∧ (-9223372036854775808 ≤ h.size ∧ h.size ≤ 9223372036854775807) ∧ (-9223372036854775808 ≤ h.time ∧ h.time ≤ 9223372036854775807) ∧ (-9223372036854775808 ≤ h.major ∧ h.major ≤ 9223372036854775807) ∧ (-9223372036854775808 ≤ h.minor ∧ h.minor ≤ 9223372036854775807) := by
  obtain ⟨cs, rfl, hcs⟩ := okWide_struct Tryz.underlying28 hv
  have er : reachBytes = 140737488351232 := rfl
  obtain ⟨fuel, hf⟩ := h
  obtain ⟨xs, n, _, hx, hl, hlen, hff⟩ := DataW.trod_struct Tryz.underlying28 hf
  have hcl : cs.toList.length = 12 := by rw [Array.length_toList, hcs]; kernel_rfl
  obtain ⟨v0, v1, v2, v3, v4, v5, v6, v7, v8, v9, v10, v11, hvs⟩ : ∃ v0 v1 v2 v3 v4 v5 v6 v7 v8 v9 v10 v11, cs.toList = [v0, v1, v2, v3, v4, v5, v6, v7, v8, v9, v10, v11] := by
    match cs.toList, hcl with
    | [v0, v1, v2, v3, v4, v5, v6, v7, v8, v9, v10, v11], _ => exact ⟨v0, v1, v2, v3, v4, v5, v6, v7, v8, v9, v10, v11, rfl⟩
  obtain ⟨y0, y1, y2, y3, y4, y5, y6, y7, y8, y9, y10, y11, hys⟩ : ∃ y0 y1 y2 y3 y4 y5 y6 y7 y8 y9 y10 y11, xs = [y0, y1, y2, y3, y4, y5, y6, y7, y8, y9, y10, y11] := by
    match xs, hlen with
    | [y0, y1, y2, y3, y4, y5, y6, y7, y8, y9, y10, y11], _ => exact ⟨y0, y1, y2, y3, y4, y5, y6, y7, y8, y9, y10, y11, rfl⟩
  subst hys
  have hca : cs = #[v0, v1, v2, v3, v4, v5, v6, v7, v8, v9, v10, v11] := by cases cs; simp at hvs ⊢; exact hvs
  subst hca
  clear hf hl hlen hcl hvs hcs hv
  have m0 : Tryz.prog.cellsOf 2 = 1 := by kernel_rfl
  have m1 : Tryz.prog.cellsOf 9 = 1 := by kernel_rfl
  have m2 : Tryz.prog.cellsOf 5 = 1 := by kernel_rfl
  have g0 : DataW.trod enc Tryz.prog W 0 (fun _ => true) true n 9 [v0] = some y0 := by
    have e : DataW.trod enc Tryz.prog W 0 (fun _ => true) true n 9 ((([v0, v1, v2, v3, v4, v5, v6, v7, v8, v9, v10, v11] : List Value).drop 0).take (Tryz.prog.cellsOf 9)) = some y0 := hff 0 _ rfl
    rw [m1] at e
    exact e
  have g1 : DataW.trod enc Tryz.prog W 0 (fun _ => true) true n 2 [v1] = some y1 := by
    have e : DataW.trod enc Tryz.prog W 0 (fun _ => true) true n 2 ((([v0, v1, v2, v3, v4, v5, v6, v7, v8, v9, v10, v11] : List Value).drop 1).take (Tryz.prog.cellsOf 2)) = some y1 := hff 1 _ rfl
    rw [m0] at e
    exact e
  have g2 : DataW.trod enc Tryz.prog W 0 (fun _ => true) true n 2 [v2] = some y2 := by
    have e : DataW.trod enc Tryz.prog W 0 (fun _ => true) true n 2 ((([v0, v1, v2, v3, v4, v5, v6, v7, v8, v9, v10, v11] : List Value).drop 2).take (Tryz.prog.cellsOf 2)) = some y2 := hff 2 _ rfl
    rw [m0] at e
    exact e
  have g3 : DataW.trod enc Tryz.prog W 0 (fun _ => true) true n 2 [v3] = some y3 := by
    have e : DataW.trod enc Tryz.prog W 0 (fun _ => true) true n 2 ((([v0, v1, v2, v3, v4, v5, v6, v7, v8, v9, v10, v11] : List Value).drop 3).take (Tryz.prog.cellsOf 2)) = some y3 := hff 3 _ rfl
    rw [m0] at e
    exact e
  have g4 : DataW.trod enc Tryz.prog W 0 (fun _ => true) true n 2 [v4] = some y4 := by
    have e : DataW.trod enc Tryz.prog W 0 (fun _ => true) true n 2 ((([v0, v1, v2, v3, v4, v5, v6, v7, v8, v9, v10, v11] : List Value).drop 4).take (Tryz.prog.cellsOf 2)) = some y4 := hff 4 _ rfl
    rw [m0] at e
    exact e
  have g5 : DataW.trod enc Tryz.prog W 0 (fun _ => true) true n 2 [v5] = some y5 := by
    have e : DataW.trod enc Tryz.prog W 0 (fun _ => true) true n 2 ((([v0, v1, v2, v3, v4, v5, v6, v7, v8, v9, v10, v11] : List Value).drop 5).take (Tryz.prog.cellsOf 2)) = some y5 := hff 5 _ rfl
    rw [m0] at e
    exact e
  have g6 : DataW.trod enc Tryz.prog W 0 (fun _ => true) true n 5 [v6] = some y6 := by
    have e : DataW.trod enc Tryz.prog W 0 (fun _ => true) true n 5 ((([v0, v1, v2, v3, v4, v5, v6, v7, v8, v9, v10, v11] : List Value).drop 6).take (Tryz.prog.cellsOf 5)) = some y6 := hff 6 _ rfl
    rw [m2] at e
    exact e
  have g7 : DataW.trod enc Tryz.prog W 0 (fun _ => true) true n 9 [v7] = some y7 := by
    have e : DataW.trod enc Tryz.prog W 0 (fun _ => true) true n 9 ((([v0, v1, v2, v3, v4, v5, v6, v7, v8, v9, v10, v11] : List Value).drop 7).take (Tryz.prog.cellsOf 9)) = some y7 := hff 7 _ rfl
    rw [m1] at e
    exact e
  have g8 : DataW.trod enc Tryz.prog W 0 (fun _ => true) true n 9 [v8] = some y8 := by
    have e : DataW.trod enc Tryz.prog W 0 (fun _ => true) true n 9 ((([v0, v1, v2, v3, v4, v5, v6, v7, v8, v9, v10, v11] : List Value).drop 8).take (Tryz.prog.cellsOf 9)) = some y8 := hff 8 _ rfl
    rw [m1] at e
    exact e
  have g9 : DataW.trod enc Tryz.prog W 0 (fun _ => true) true n 9 [v9] = some y9 := by
    have e : DataW.trod enc Tryz.prog W 0 (fun _ => true) true n 9 ((([v0, v1, v2, v3, v4, v5, v6, v7, v8, v9, v10, v11] : List Value).drop 9).take (Tryz.prog.cellsOf 9)) = some y9 := hff 9 _ rfl
    rw [m1] at e
    exact e
  have g10 : DataW.trod enc Tryz.prog W 0 (fun _ => true) true n 2 [v10] = some y10 := by
    have e : DataW.trod enc Tryz.prog W 0 (fun _ => true) true n 2 ((([v0, v1, v2, v3, v4, v5, v6, v7, v8, v9, v10, v11] : List Value).drop 10).take (Tryz.prog.cellsOf 2)) = some y10 := hff 10 _ rfl
    rw [m0] at e
    exact e
  have g11 : DataW.trod enc Tryz.prog W 0 (fun _ => true) true n 2 [v11] = some y11 := by
    have e : DataW.trod enc Tryz.prog W 0 (fun _ => true) true n 2 ((([v0, v1, v2, v3, v4, v5, v6, v7, v8, v9, v10, v11] : List Value).drop 11).take (Tryz.prog.cellsOf 2)) = some y11 := hff 11 _ rfl
    rw [m0] at e
    exact e
  clear hff
  obtain ⟨s0, a0, b0, _⟩ := DataW.trod_string Tryz.underlying9 g0
  obtain rfl := (List.cons.inj a0).1
  subst b0
  obtain ⟨i1, a1, b1, w1⟩ := DataW.trod_int Tryz.underlying2 g1
  obtain rfl := (List.cons.inj a1).1
  subst b1
  obtain ⟨i2, a2, b2, w2⟩ := DataW.trod_int Tryz.underlying2 g2
  obtain rfl := (List.cons.inj a2).1
  subst b2
  obtain ⟨i3, a3, b3, w3⟩ := DataW.trod_int Tryz.underlying2 g3
  obtain rfl := (List.cons.inj a3).1
  subst b3
  obtain ⟨i4, a4, b4, w4⟩ := DataW.trod_int Tryz.underlying2 g4
  obtain rfl := (List.cons.inj a4).1
  subst b4
  obtain ⟨i5, a5, b5, w5⟩ := DataW.trod_int Tryz.underlying2 g5
  obtain rfl := (List.cons.inj a5).1
  subst b5
  obtain ⟨i6, a6, b6, w6⟩ := DataW.trod_int Tryz.underlying5 g6
  obtain rfl := (List.cons.inj a6).1
  subst b6
  obtain ⟨s7, a7, b7, _⟩ := DataW.trod_string Tryz.underlying9 g7
  obtain rfl := (List.cons.inj a7).1
  subst b7
  obtain ⟨s8, a8, b8, _⟩ := DataW.trod_string Tryz.underlying9 g8
  obtain rfl := (List.cons.inj a8).1
  subst b8
  obtain ⟨s9, a9, b9, _⟩ := DataW.trod_string Tryz.underlying9 g9
  obtain rfl := (List.cons.inj a9).1
  subst b9
  obtain ⟨i10, a10, b10, w10⟩ := DataW.trod_int Tryz.underlying2 g10
  obtain rfl := (List.cons.inj a10).1
  subst b10
  obtain ⟨i11, a11, b11, w11⟩ := DataW.trod_int Tryz.underlying2 g11
  obtain rfl := (List.cons.inj a11).1
  subst b11
  have e2 : d = .agg [.lit (.string s0.data.toList), .lit (.int .i64 i1), .lit (.int .i64 i2), .lit (.int .i64 i3), .lit (.int .i64 i4), .lit (.int .i64 i5), .lit (.int .u8 i6), .lit (.string s7.data.toList), .lit (.string s8.data.toList), .lit (.string s9.data.toList), .lit (.int .i64 i10), .lit (.int .i64 i11)] := congrArg Prod.fst hx
  subst e2
  have z0 : s0.size ≤ 140737488351232 := by
    have hs : s0.data.toList.length = s0.size := un_length _
    have hw := List.all_eq_true.1 hz _ (DataW.weights_mem_each ht hd s0.size (by simp [DataW.weights, DataW.weightsEach, Tryz.underlying28, hs]))
    have := of_decide_eq_true hw
    omega
  have z7 : s7.size ≤ 140737488351232 := by
    have hs : s7.data.toList.length = s7.size := un_length _
    have hw := List.all_eq_true.1 hz _ (DataW.weights_mem_each ht hd s7.size (by simp [DataW.weights, DataW.weightsEach, Tryz.underlying28, hs]))
    have := of_decide_eq_true hw
    omega
  have z8 : s8.size ≤ 140737488351232 := by
    have hs : s8.data.toList.length = s8.size := un_length _
    have hw := List.all_eq_true.1 hz _ (DataW.weights_mem_each ht hd s8.size (by simp [DataW.weights, DataW.weightsEach, Tryz.underlying28, hs]))
    have := of_decide_eq_true hw
    omega
  have z9 : s9.size ≤ 140737488351232 := by
    have hs : s9.data.toList.length = s9.size := un_length _
    have hw := List.all_eq_true.1 hz _ (DataW.weights_mem_each ht hd s9.size (by simp [DataW.weights, DataW.weightsEach, Tryz.underlying28, hs]))
    have := of_decide_eq_true hw
    omega
  refine ⟨⟨s0, i1, i2, i3, i4, i5, UInt8.ofNat i6.toNat, s7, s8, s9, i10, i11⟩, ?_, z0, z7, z8, z9, i64_of i1 w1, i64_of i2 w2, i64_of i3 w3, i64_of i4 w4, i64_of i5 w5, i64_of i10 w10, i64_of i11 w11⟩
  unfold hcs
  simp only []
  rw [← u8_of i6 w6]
end Go.Proofs.YtgdkgdlgalinbaaGreatDoor
