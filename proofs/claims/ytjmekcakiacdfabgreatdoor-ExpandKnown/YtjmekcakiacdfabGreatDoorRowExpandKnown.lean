/- ExpandKnown, the closed statement: the examples and each limit: from its walk to its row and its card. -/
import Derived.Test.YtjmekcakiacdfabGreatDoorRows
import Derived.Test.YtjmekcakiacdfabGreatDoorPlain
import Derived.LaidHandle
import Derived.LaidLaws
import Derived.Stop.Joined
import Derived.Test.YtjmekcakiacdfabGreatDoorPrX
import Derived.SizedLaws
import Derived.Deep.Slices
import Derived.Deep.Strs
import Derived.ChangeArms
import Derived.ProofKit
import Derived.OpenShut
import Derived.Test.YtjmekcakiacdfabGreatDoorDcL
import Derived.Test.YtjmekcakiacdfabGreatDoorPutX
import Derived.Test.YtjmekcakiacdfabGreatDoorWrdW
import Derived.Deep.Cut
import Derived.Test.YtjmekcakiacdfabGreatDoorBytes
import Derived.Laws.IdiomStrings
import Derived.Laws.CopyOwn
import Derived.Laws.StructEq
import Derived.Laws.OwnMore
import Derived.Laws.Tables
import Derived.Laws.AppendOwn
import Derived.OwnWalk
import Derived.Deep.CutRange
import Derived.Deep.MidRow
import Derived.ChangeKeysEq
import Derived.Test.YtjmekcakiacdfabGreatDoorWksX
import Derived.Test.YtjmekcakiacdfabGreatDoorProg
import Derived.Lib.Strings
import Derived.Lib.Bytealg
import Derived.Lib.IndexAny
import Derived.Laws.Strings
import Derived.Lib.UnsafeStr
import Derived.WalkKit
import Derived.WalkSpells
import Derived.Outline
import Derived.Deep.WholeRow
import Derived.RangeFuncBox
import Derived.RegionTactic
import Derived.Deep.QuietTactic
import Derived.BigQuiet
import Derived.Deep.Draws
import Derived.Lib.Walk
import Derived.Laws.Externs
import Derived.Lib.Slices
import Derived.ArgAppend
import Derived.Deep.DeepAppendRoom
import Derived.Maps.AppendAt
import Derived.Test.YtjmekcakiacdfabGreatDoorDcO
import Derived.Test.YtjmekcakiacdfabGreatDoorExE
import Derived.Test.YtjmekcakiacdfabGreatDoorNmuW
import Derived.Deep.RegionHeld
import Derived.Deep.RegionHeld3
import Derived.Test.YtjmekcakiacdfabGreatDoorCards
import Derived.Test.YtjmekcakiacdfabGreatDoorTie
import Derived.Deep.DeepHandedRow
import Derived.SevenTiedAt

namespace Go.Proofs.YtjmekcakiacdfabGreatDoor
open Go.ChangeShapes Go.WideShapes Go.RowKit

theorem own : ownKnob Tryz.prog.godebug = none := by kernel_rfl
theorem l_et : Tryz.prog.globalNamed "errors.errorType" = some 0 := by kernel_rfl
theorem l_rt : (Tryz.prog.cutTypes.find? (·.1 == "internal/reflectlite.rtype")).map (·.2) = some 118 := by kernel_rfl
theorem l_oneRow : ((List.range 189).filter fun t => Tryz.prog.rowNamed t [101, 114, 114, 111, 114]) = [26] := by kernel_rfl
theorem l_size : Tryz.prog.types.size = 189 := by kernel_rfl

theorem handle_of_laid {W : World} (h : laidMetH Tryz.prog [("errors.errorType", Rows.laid_errors_errorType)] W) : ErrType W := by
  have h2 : laidMet Tryz.prog [] W ∧ handlesMet Tryz.prog [("errors.errorType", Rows.laid_errors_errorType)] W := h
  obtain ⟨name, u, ty, e1, e2, e3, e4, e5⟩ := h2.2 _ (List.mem_singleton.2 rfl)
  have en : name = [101, 114, 114, 111, 114] := (Option.some.inj e1).symm
  subst en
  obtain rfl := Option.some.inj (l_rt.symm.trans e2)
  have hm : ty ∈ (List.range 189).filter fun t => Tryz.prog.rowNamed t [101, 114, 114, 111, 114] := List.mem_filter.2 ⟨List.mem_range.2 (by rw [← l_size]; exact e3), e4⟩
  rw [l_oneRow] at hm
  obtain rfl := List.mem_singleton.1 hm
  have hh : typeHandle Tryz.prog 26 = .pointer (some ⟨2, 26, none⟩) := by kernel_rfl
  rw [hh] at e5
  have h3 := World.var?_cell l_et e5 0
  unfold ErrType
  simpa using h3

noncomputable def laidWorld (os : Os) : World :=
  { World.holding Tryz.prog os ⟨#[], #[], []⟩ with heap := (World.holding Tryz.prog os ⟨#[], #[], []⟩).heap.modify 0 fun
      | .cells _ t frozen => .cells #[.iface 118 (.agg #[.pointer (some ⟨2, 26, none⟩)])] t frozen
      | o => o }
theorem laidWorld_met (os : Os) (args : Array Value) : laidMetH Tryz.prog [("errors.errorType", Rows.laid_errors_errorType)] ((laidWorld os).forCall (fun _ _ => 0) ⟨#[], args, []⟩).memory :=
  laidMetH_of_parts (laidMet_nil _ _) (by kernel_rfl)
end Go.Proofs.YtjmekcakiacdfabGreatDoor

namespace Go.Proofs.YtjmekcakiacdfabGreatDoor
open Go.ChangeShapes Go.WideShapes Go.RowKit

theorem byte_of (n : Int) (h : (Lit.int .u8 n).wf = true) : ∃ c : UInt8, n = (c.toNat : Int) := by
  have e1 : IntKind.u8.min = 0 := rfl
  have e2 : IntKind.u8.max = 255 := rfl
  simp [Lit.wf] at h
  refine ⟨UInt8.ofNat n.toNat, ?_⟩
  rw [UInt8.toNat_ofNat', Nat.mod_eq_of_lt (by omega)]; omega
def prD {H : Type} (e : PrZ) : DataW H := .agg [.lit (.string e.key.data.toList), .lit (.string e.val.data.toList)]
def prC (e : PrZ) : List Value := [.string e.key, .string e.val]
theorem pr_size : Tryz.prog.cellsOf 40 = 2 := by kernel_rfl
theorem pr_bytes : Tryz.prog.bytesOf 40 = 32 := by kernel_rfl
set_option maxRecDepth 100000 in
theorem open_oneP {H : Type} {enc : TypeId × Value → H} {W : World} {n : Nat} {cs : List Value} {x : DataW H × List MemPlace} (hlen : cs.length = 2) (hf : DataW.trod enc Tryz.prog W 0 (fun _ => true) true n 40 cs = some x) :
    ∃ e : PrZ, cs = prC e ∧ x.1 = prD e := by
  obtain ⟨xs, n, _, hx, hl, hlen2, hff⟩ := DataW.trod_struct Tryz.underlying40 hf
  obtain ⟨v0, v1, hvs⟩ : ∃ v0 v1, cs = [v0, v1] := by
    match cs, hlen with
    | [v0, v1], _ => exact ⟨v0, v1, rfl⟩
  obtain ⟨y0, y1, hys⟩ : ∃ y0 y1, xs = [y0, y1] := by
    match xs, hlen2 with
    | [y0, y1], _ => exact ⟨y0, y1, rfl⟩
  subst hys
  subst hvs
  have m2 : Tryz.prog.cellsOf 9 = 1 := by kernel_rfl
  have g0 : DataW.trod enc Tryz.prog W 0 (fun _ => true) true n 9 [v0] = some y0 := by
    have e : DataW.trod enc Tryz.prog W 0 (fun _ => true) true n 9 ((([v0, v1] : List Value).drop 0).take (Tryz.prog.cellsOf 9)) = some y0 := hff 0 _ rfl
    rw [m2] at e
    exact e
  have g1 : DataW.trod enc Tryz.prog W 0 (fun _ => true) true n 9 [v1] = some y1 := by
    have e : DataW.trod enc Tryz.prog W 0 (fun _ => true) true n 9 ((([v0, v1] : List Value).drop 1).take (Tryz.prog.cellsOf 9)) = some y1 := hff 1 _ rfl
    rw [m2] at e
    exact e
  clear hff
  obtain ⟨s0, a0, b0, _⟩ := DataW.trod_string Tryz.underlying9 g0
  obtain rfl := (List.cons.inj a0).1
  subst b0
  obtain ⟨s1, a1, b1, _⟩ := DataW.trod_string Tryz.underlying9 g1
  obtain rfl := (List.cons.inj a1).1
  subst b1
  exact ⟨⟨s0, s1⟩, rfl, by rw [hx]; rfl⟩
theorem all_weightsP {H : Type} {P : Program} {e : TypeId} (k : Nat) : ∀ (ds : List (DataW H)) (d : DataW H), d ∈ ds → k ∈ DataW.weights P e d → k ∈ DataW.weightsAll P e ds
  | [], _, h, _ => by cases h
  | y :: ds, d, h, hk => by
    rw [DataW.weightsAll, List.mem_append]
    rcases List.mem_cons.1 h with rfl | h
    · exact Or.inl hk
    · exact Or.inr (all_weightsP k ds d h hk)
set_option maxRecDepth 100000 in
theorem open_prs_sized {H : Type} {enc : TypeId × Value → H} {W : World} {b0 j : Nat} {v : Value} {d : DataW H} {p : List MemPlace} {ts : List TypeId} {ds : List (DataW H)}
    (hz : (DataW.weightsEach Tryz.prog ts ds).all (· ≤ reachBytes) = true) (ht : ts[j]? = some 29) (hd : ds[j]? = some d)
    (hv : Value.okWide Tryz.prog W .any b0 29 v) (h : DataW.Trod enc Tryz.prog W 0 (fun _ => true) true 29 v d p) : ∃ l : List PrZ, PrsAt W v l ∧ l.length ≤ 4398046511104 ∧ ∀ x ∈ l, x.key.size ≤ 140737488355328 ∧ x.val.size ≤ 140737488355328 := by
  obtain ⟨a0, len0, cap0, rfl⟩ := okWide_slice Tryz.underlying29 hv
  have er : reachBytes = 140737488351232 := rfl
  obtain ⟨fuel, hf⟩ := h
  rcases Go.Deep.open_slice Tryz.underlying29 hf with ⟨hcs, hx⟩ | ⟨a, len, cap, m, n, D, Pl, hcs, _, hl, hm, hmm, hx, hall⟩
  · have e : Value.slice a0 len0 cap0 = .slice none 0 0 := by simpa [Value.cells] using hcs
    rw [e]
    exact ⟨[], ⟨none, 0, 0, 0, rfl, fun h => absurd rfl h, Nat.le_refl _, fun i x h => by simp at h⟩, by simp, fun x h => by cases h⟩
  · have e : Value.slice a0 len0 cap0 = .slice (some a) len cap := by simpa [Value.cells] using hcs
    rw [e]
    rw [if_pos rfl] at hmm
    have e2 : d = .slice ((List.range len).map D) ((List.range (m - len)).map fun j => D (len + j)) := congrArg Prod.fst hx
    rw [e2] at hd
    have each : ∀ i, i < len → ∃ s : PrZ, (∀ j v, (prC s)[j]? = some v → W.cell? (a.add (i * 2 + j)) = some v) ∧ D i = prD s := by
      intro i hi
      obtain ⟨cs', h1, h2⟩ := hall i (by omega)
      rw [pr_size] at h1
      obtain ⟨_, hlen, hcell⟩ := World.cells?_some h1
      obtain ⟨s, hxe, hxd⟩ := open_oneP hlen h2
      refine ⟨s, fun j v hj => ?_, hxd⟩
      have hj5 : j < 2 := (List.getElem?_eq_some_iff.1 hj).1
      have c := hcell j (by omega)
      rw [Go.Deep.add_add] at c
      rw [c]
      subst hxe
      first | exact hj | (rw [← hj]; simp) | simpa using hj
    obtain ⟨f, hfx⟩ : ∃ f : Nat → PrZ, ∀ i, i < len → (∀ j v, (prC (f i))[j]? = some v → W.cell? (a.add (i * 2 + j)) = some v) ∧ D i = prD (f i) :=
      ⟨fun i => if h : i < len then Classical.choose (each i h) else ⟨⟨#[]⟩, ⟨#[]⟩⟩, fun i hi => by simp only [dif_pos hi]; exact Classical.choose_spec (each i hi)⟩
    have hs1 := sized_slice hz ht hd Tryz.underlying29
    rw [pr_bytes, List.length_map, List.length_map, List.length_range, List.length_range] at hs1
    refine ⟨(List.range len).map f, ?_, by rw [List.length_map, List.length_range]; omega, ?_⟩
    · by_cases h0 : len = 0
      · subst h0
        exact ⟨some a, cap, 0, 0, by simp, fun h => absurd rfl h, by simp, fun i x h => by simp at h⟩
      · obtain ⟨b, off, spot⟩ := a
        have hc0 := (hfx 0 (by omega)).1 0 _ rfl
        have hspot : spot = none := by simpa [Addr.add] using World.cell?_spot hc0
        subst hspot
        refine ⟨some ⟨b, off, none⟩, cap, b, off, by simp, fun _ => rfl, by simpa using hl, fun i x hi => ?_⟩
        have h1 : i < len := by have := (List.getElem?_eq_some_iff.1 hi).1; simpa using this
        have hx2 : x = f i := by simpa [h1] using hi.symm
        subst hx2
        have hc : ∀ j v, (prC (f i))[j]? = some v → W.cell? ⟨b, off + i * 2 + j, none⟩ = some v := fun j v hj => by
          have := (hfx i h1).1 j v hj
          rw [Addr.add_mid] at this
          rw [Nat.add_assoc]; exact this
        exact ⟨hc 0 _ rfl, hc 1 _ rfl⟩
    · intro x hx3
      obtain ⟨i, hi, rfl⟩ := List.mem_map.1 hx3
      have hi2 := List.mem_range.1 hi
      have wt : ∀ k, k ∈ DataW.weights Tryz.prog 40 (D i) → k ≤ reachBytes := fun k hk => by
        have hw := List.all_eq_true.1 hz _ (DataW.weights_mem_each ht hd k (by
          have h9 := all_weightsP (P := Tryz.prog) (e := 40) k ((List.range len).map D) (D i) (List.mem_map_of_mem hi) hk
          simp [DataW.weights, Tryz.underlying29, h9]))
        exact of_decide_eq_true hw
      have hs : (f i).key.data.toList.length = (f i).key.size := un_length _
      have hs2 : (f i).val.data.toList.length = (f i).val.size := un_length _
      have w1 := wt (f i).key.size (by
        rw [(hfx i hi2).2]
        simp [prD, DataW.weights, DataW.weightsEach, Tryz.underlying40, hs])
      have w2 := wt (f i).val.size (by
        rw [(hfx i hi2).2]
        simp [prD, DataW.weights, DataW.weightsEach, Tryz.underlying40, hs2])
      omega
end Go.Proofs.YtjmekcakiacdfabGreatDoor

namespace Go.Proofs.YtjmekcakiacdfabGreatDoor
open Go Go.RowKit

set_option maxHeartbeats 8000000 in
set_option maxRecDepth 100000 in
theorem document_r (W : World) (B R : Nat) (s : ByteArray) (e : UInt8) (k : Nat) (v : Value) (ns : List (List UInt8)) (h : DR W B R s e k 0 v ns) (hk : k ≤ s.size) (hB : B ≤ W.heap.size) (hnl : ns.length ≤ k) (hs : s.size ≤ 1099511627776) (hV : VarT [1] B R s e k) : Calls Tryz.prog 39 #[.pointer (some ⟨R, 0, none⟩)] W fun x w' => LPost [1] [1] (fun k2 => k2 = s.size) (s.size + 1) W B R s e k v ns x w' := by
  obtain ⟨i0, hi, hz0, hz1, hz2⟩ := info_parts info_pt
  have hsl := un_length s
  have H0 : Hid (LI [1] W B R s e k v ns W k 0 v ns (.slice none 0 0) [] []) := LI.start [1] h hk
  clear h
  go_enter Tryz.func39, Tryz.ntmps39
  go_wp2
  go_loopw [3] (fun lv wr => ∃ (k2 no2 : Nat) (v2 : Value) (ns2 : List (List UInt8)) (ts : List Pt) (us : List Value), wr.cell? ⟨R, 1, none⟩ = some (.int .i64 k2) ∧ LI [1] W B R s e k v ns wr k2 no2 v2 ns2 lv ts us) (fun _ wr => s.size + 1 - (match wr.cell? ⟨R, 1, none⟩ with | some v => (intOf v).toNat | none => 0))
  case atStart => exact ⟨k, 0, v, ns, [], [], H0.out.dr.lies.cell (i := 1) rfl, H0.out⟩
  case round =>
    obtain ⟨k2, no2, v2, ns2, ts, us, hc1, hl⟩ := hrel
    have f0 := hl.dr.lies.cell (i := 0) rfl
    have hki := hl.hi
    by_cases hlt : k2 < s.size
    · obtain rfl : no2 = 0 := by
        by_cases h0 : no2 = 0
        · exact h0
        · have := (hl.bad h0).1; omega
      have HL0 : Hid (LI [1] W B R s e k v ns wr k2 0 v2 ns2 u3 ts us) := hl
      have d0 : (0 : Int) ≤ (k2 : Int) := by omega
      have d1 : (k2 : Int) < (s.size : Int) := by omega
      have hNx := fun n => next_r (wr.drewN n) B R s e k2 0 v2 ns2 (HL0.out.dr.drew n) (by omega) hs
      have HD : Hid ((un s).drop k2 = s[k2] :: (un s).drop (k2 + 1)) := drop_get hlt
      clear hl
      go_wp2
      go_quiet (fail)
      go_wp2
      go_quiet (fail)
      go_wp2_with fail
      refine (hNx _).mono ?_
      rintro x w1 ⟨rfl, q, hw⟩
      have HL : Hid (LI [1] W B R s e k v ns w1 k2 0 v2 ns2 u3 ts us) := by unfold Hid; rw [hw]; exact (HL0.out.to _).to _
      clear hw hNx f0 HL0
      have g0 := HL.out.dr.lies.cell (i := 0) rfl
      have g1 := HL.out.dr.lies.cell (i := 1) rfl
      have g2 := HL.out.dr.lies.cell (i := 2) rfl
      have gr := HL.out.dr.lies.frozen 1
      generalize s[k2] = c at *
      by_cases hce : c = e
      · have q1 := u8t hce
        cases hT : (un s).drop (k2 + 1) with
        | nil =>
          simp only [nextV]
          have HRun : Hid (Run e [1] ((un s).drop k2) [1] ((un s).drop (k2 + 1)) [.lit [c]]) := by
            unfold Hid; rw [HD.out]; exact (by rw [hce, hT]; exact run_lone (fun d r h => by cases h))
          have hB1 := fun W2 (hdr : DR W2 B R s e k2 0 v2 ns2) => bytes_r 1 W2 B R s e k2 0 v2 ns2 hdr (by omega) hs
          rw [show ((un s).drop k2).take 1 = [c] by rw [HD.out]; rfl] at hB1
          clear HD g0 hce hT
          go_wp2_with (first
            | (go_at_call 51; refine (hB1 _ HL.out.dr).mono ?_; rintro x w2 ⟨rfl, hdr2, r2⟩; unfold pcD; have pi2 := HL.out.bytes hdr2 (by omega) (by omega) r2 HRun.out (by simp); have hln := pi2.len.1)
            | (at_builtin; refine wpList_append_own_at _ rfl _ _ 80 rfl 0 108 i0 (.agg #[.string ⟨#[]⟩, .string ⟨#[]⟩, .int .u8 0, .slice none 0 0]) 4 64 Tryz.underlying80 hi hz0 hz1 hz2 rfl (by decide) u3 ts.length (ptsC ts us) rfl (pi2.pl.pts.own.alloc _) ⟨w2.heap.size, 0, none⟩ 1 1 [.string (bs [c]), .string ⟨#[]⟩, .int .u8 0, .slice none 0 0] rfl rfl (cells_new4 w2 _ _ _ _ _) (by simp [Value.oneCell']) (by unfold maxLen; omega) (by omega) (by simp) ?_; intro lv3 w3 hown3 hgrow3 _ hat3; have li3 := pi2.push hown3 hgrow3 hat3))
          have hc3 := li3.dr.lies.cell (i := 1) rfl
          go_roundw
          case rel => exact ⟨_, _, _, _, _, _, hc3, li3⟩
          case measure => rw [hc3]; simp [intOf, hc1]; omega
        | cons d r =>
          simp only [nextV]
          by_cases hd1 : d = 36
          · have q2 : ((d.toNat : Int) == 36) = true := u8nt (n := 36) (by decide) hd1
            obtain ⟨kb, hkb⟩ : ∃ kb, k2 + 1 = kb := ⟨_, rfl⟩
            have w1' : IntKind.i64.wrap ((k2 : Int) + 1) = (kb : Int) := by rw [wrap_small _ (by omega) (by omega)]; omega
            have hkl : kb < s.size := by have := congrArg List.length hT; rw [List.length_drop, hsl, List.length_cons] at this; omega
            have HRun : Hid (Run e [1] ((un s).drop k2) [1] ((un s).drop (kb + 1)) [.lit [d]]) := by
              unfold Hid; rw [HD.out, hT, hce, show (un s).drop (kb + 1) = r by rw [← hkb, ← List.drop_drop, hT]; rfl]; exact (run_esc (by subst hd1; simp [escs]) r)
            have hB1 := fun W2 (hdr : DR W2 B R s e kb 0 v2 ns2) => bytes_r 1 W2 B R s e kb 0 v2 ns2 hdr (by omega) hs
            rw [show ((un s).drop kb).take 1 = [d] by rw [← hkb, hT]; rfl] at hB1
            have hm := HL.out.dr.move kb
            have rm := (Rnd.refl (rdS R v2) w1).set (b := R) (i := 1) (.inl rfl) (.int .i64 (kb : Int))
            clear HD g0 hce hT hd1
            go_wp2_with (first
              | (go_at_call 51; refine (hB1 _ hm).mono ?_; rintro x w2 ⟨rfl, hdr2, r2⟩; unfold pcD; have pi2 := HL.out.bytes hdr2 (by omega) (by omega) (rm.trans r2) HRun.out (by simp); have hln := pi2.len.1)
              | (at_builtin; refine wpList_append_own_at _ rfl _ _ 80 rfl 0 108 i0 (.agg #[.string ⟨#[]⟩, .string ⟨#[]⟩, .int .u8 0, .slice none 0 0]) 4 64 Tryz.underlying80 hi hz0 hz1 hz2 rfl (by decide) u3 ts.length (ptsC ts us) rfl (pi2.pl.pts.own.alloc _) ⟨w2.heap.size, 0, none⟩ 1 1 [.string (bs [d]), .string ⟨#[]⟩, .int .u8 0, .slice none 0 0] rfl rfl (cells_new4 w2 _ _ _ _ _) (by simp [Value.oneCell']) (by unfold maxLen; omega) (by omega) (by simp) ?_; intro lv3 w3 hown3 hgrow3 _ hat3; have li3 := pi2.push hown3 hgrow3 hat3))
            have hc3 := li3.dr.lies.cell (i := 1) rfl
            go_roundw
            case rel => exact ⟨_, _, _, _, _, _, hc3, li3⟩
            case measure => rw [hc3]; simp [intOf, hc1]; omega
          · have q2 : ((d.toNat : Int) == 36) = false := u8nf (n := 36) (by decide) hd1
            by_cases hd2 : d = e
            · have q3 := u8t hd2
              obtain ⟨kb, hkb⟩ : ∃ kb, k2 + 1 = kb := ⟨_, rfl⟩
              have w1' : IntKind.i64.wrap ((k2 : Int) + 1) = (kb : Int) := by rw [wrap_small _ (by omega) (by omega)]; omega
              have hkl : kb < s.size := by have := congrArg List.length hT; rw [List.length_drop, hsl, List.length_cons] at this; omega
              have HRun : Hid (Run e [1] ((un s).drop k2) [1] ((un s).drop (kb + 1)) [.lit [d]]) := by
                unfold Hid; rw [HD.out, hT, hce, show (un s).drop (kb + 1) = r by rw [← hkb, ← List.drop_drop, hT]; rfl]; exact (run_esc (by subst hd2; simp [escs]) r)
              have hB1 := fun W2 (hdr : DR W2 B R s e kb 0 v2 ns2) => bytes_r 1 W2 B R s e kb 0 v2 ns2 hdr (by omega) hs
              rw [show ((un s).drop kb).take 1 = [d] by rw [← hkb, hT]; rfl] at hB1
              have hm := HL.out.dr.move kb
              have rm := (Rnd.refl (rdS R v2) w1).set (b := R) (i := 1) (.inl rfl) (.int .i64 (kb : Int))
              clear HD g0 hce hT hd1 hd2
              go_wp2_with (first
                | (go_at_call 51; refine (hB1 _ hm).mono ?_; rintro x w2 ⟨rfl, hdr2, r2⟩; unfold pcD; have pi2 := HL.out.bytes hdr2 (by omega) (by omega) (rm.trans r2) HRun.out (by simp); have hln := pi2.len.1)
                | (at_builtin; refine wpList_append_own_at _ rfl _ _ 80 rfl 0 108 i0 (.agg #[.string ⟨#[]⟩, .string ⟨#[]⟩, .int .u8 0, .slice none 0 0]) 4 64 Tryz.underlying80 hi hz0 hz1 hz2 rfl (by decide) u3 ts.length (ptsC ts us) rfl (pi2.pl.pts.own.alloc _) ⟨w2.heap.size, 0, none⟩ 1 1 [.string (bs [d]), .string ⟨#[]⟩, .int .u8 0, .slice none 0 0] rfl rfl (cells_new4 w2 _ _ _ _ _) (by simp [Value.oneCell']) (by unfold maxLen; omega) (by omega) (by simp) ?_; intro lv3 w3 hown3 hgrow3 _ hat3; have li3 := pi2.push hown3 hgrow3 hat3))
              have hc3 := li3.dr.lies.cell (i := 1) rfl
              go_roundw
              case rel => exact ⟨_, _, _, _, _, _, hc3, li3⟩
              case measure => rw [hc3]; simp [intOf, hc1]; omega
            · have q3 := u8f hd2
              have HRun : Hid (Run e [1] ((un s).drop k2) [1] ((un s).drop (k2 + 1)) [.lit [c]]) := by
                unfold Hid; rw [HD.out]; exact (by rw [hce, hT]; exact run_lone (fun d2 r2 h => by cases h; simp [escs, hd1, hd2]))
              have hB1 := fun W2 (hdr : DR W2 B R s e k2 0 v2 ns2) => bytes_r 1 W2 B R s e k2 0 v2 ns2 hdr (by omega) hs
              rw [show ((un s).drop k2).take 1 = [c] by rw [HD.out]; rfl] at hB1
              clear HD g0 hce hT hd1 hd2
              go_wp2_with (first
                | (go_at_call 51; refine (hB1 _ HL.out.dr).mono ?_; rintro x w2 ⟨rfl, hdr2, r2⟩; unfold pcD; have pi2 := HL.out.bytes hdr2 (by omega) (by omega) r2 HRun.out (by simp); have hln := pi2.len.1)
                | (at_builtin; refine wpList_append_own_at _ rfl _ _ 80 rfl 0 108 i0 (.agg #[.string ⟨#[]⟩, .string ⟨#[]⟩, .int .u8 0, .slice none 0 0]) 4 64 Tryz.underlying80 hi hz0 hz1 hz2 rfl (by decide) u3 ts.length (ptsC ts us) rfl (pi2.pl.pts.own.alloc _) ⟨w2.heap.size, 0, none⟩ 1 1 [.string (bs [c]), .string ⟨#[]⟩, .int .u8 0, .slice none 0 0] rfl rfl (cells_new4 w2 _ _ _ _ _) (by simp [Value.oneCell']) (by unfold maxLen; omega) (by omega) (by simp) ?_; intro lv3 w3 hown3 hgrow3 _ hat3; have li3 := pi2.push hown3 hgrow3 hat3))
              have hc3 := li3.dr.lies.cell (i := 1) rfl
              go_roundw
              case rel => exact ⟨_, _, _, _, _, _, hc3, li3⟩
              case measure => rw [hc3]; simp [intOf, hc1]; omega
      · have q1 := u8f hce
        obtain ⟨nb, nd, hnx⟩ : ∃ (nb : Bool) (nd : Int), nextV ((un s).drop (k2 + 1)) = .tuple #[.int .u8 nd, .bool nb] := by
          cases (un s).drop (k2 + 1) with
          | nil => exact ⟨_, _, rfl⟩
          | cons d r => exact ⟨_, _, rfl⟩
        rw [hnx]
        by_cases hc36 : c = 36
        · have q2 : ((c.toNat : Int) == 36) = true := u8nt (n := 36) (by decide) hc36
          have hln1 := HL.out.ok rfl
          have hVt := hV w1 k2 v2 ns2 (by have := HL.out.len.2 rfl; omega) HL.out.dr (by rw [← hc36]; exact hce) ⟨(un s).drop (k2 + 1), by rw [HD.out, hc36]⟩ (by have := HL.out.rnd.size; omega) (by omega)
          clear HD g0 hce hc36 hnx
          clear hln1
          go_wp2_with fail
          refine hVt.mono ?_
          rintro x w2 ⟨p, u, k3, no3, v3, ns3, rfl, hdr2, hk23, hk3, hkid, r2, hok3, hbad3⟩
          have pi2 := HL.out.piece hdr2 hk23 hk3 hkid r2 hok3 hbad3
          have hln := pi2.len.1
          clear hdr2 hkid r2 hok3 hbad3 hVt
          obtain ⟨pt, pn, po, pk⟩ := p
          have hku := pi2.kid
          rw [PatP] at hku
          obtain ⟨_, _, us0, _, hu0, _⟩ := hku
          obtain ⟨ua, uc, ug, rfl, _⟩ := own_form4 hu0
          clear hu0
          simp only [ptC]
          go_wp2_with (at_builtin; refine wpList_append_own_at _ rfl _ _ 80 rfl 0 108 i0 (.agg #[.string ⟨#[]⟩, .string ⟨#[]⟩, .int .u8 0, .slice none 0 0]) 4 64 Tryz.underlying80 hi hz0 hz1 hz2 rfl (by decide) u3 ts.length (ptsC ts us) rfl (pi2.pl.pts.own.alloc _) ⟨w2.heap.size, 0, none⟩ 1 1 [.string (bs pt), .string (bs pn), .int .u8 po.toNat, .slice ua pk.length uc] rfl rfl (cells_new4 w2 _ _ _ _ _) (by simp [Value.oneCell']) (by unfold maxLen; omega) (by omega) (by simp) ?_; intro lv3 w3 hown3 hgrow3 _ hat3; have li3 := pi2.push hown3 hgrow3 hat3)
          have hc3 := li3.dr.lies.cell (i := 1) rfl
          go_roundw
          case rel => exact ⟨_, _, _, _, _, _, hc3, li3⟩
          case measure => rw [hc3]; simp [intOf, hc1]; omega
        · have q2 : ((c.toNat : Int) == 36) = false := u8nf (n := 36) (by decide) hc36
          have HRun : Hid (Run e [1] ((un s).drop k2) [1] ((un s).drop (k2 + 1)) [.lit [c]]) := by
            unfold Hid; rw [HD.out]; exact (run_free (free1 hce hc36) _)
          have hB1 := fun W2 (hdr : DR W2 B R s e k2 0 v2 ns2) => bytes_r 1 W2 B R s e k2 0 v2 ns2 hdr (by omega) hs
          rw [show ((un s).drop k2).take 1 = [c] by rw [HD.out]; rfl] at hB1
          clear HD g0 hce hc36 hnx
          go_wp2_with (first
            | (go_at_call 51; refine (hB1 _ HL.out.dr).mono ?_; rintro x w2 ⟨rfl, hdr2, r2⟩; unfold pcD; have pi2 := HL.out.bytes hdr2 (by omega) (by omega) r2 HRun.out (by simp); have hln := pi2.len.1)
            | (at_builtin; refine wpList_append_own_at _ rfl _ _ 80 rfl 0 108 i0 (.agg #[.string ⟨#[]⟩, .string ⟨#[]⟩, .int .u8 0, .slice none 0 0]) 4 64 Tryz.underlying80 hi hz0 hz1 hz2 rfl (by decide) u3 ts.length (ptsC ts us) rfl (pi2.pl.pts.own.alloc _) ⟨w2.heap.size, 0, none⟩ 1 1 [.string (bs [c]), .string ⟨#[]⟩, .int .u8 0, .slice none 0 0] rfl rfl (cells_new4 w2 _ _ _ _ _) (by simp [Value.oneCell']) (by unfold maxLen; omega) (by omega) (by simp) ?_; intro lv3 w3 hown3 hgrow3 _ hat3; have li3 := pi2.push hown3 hgrow3 hat3))
          have hc3 := li3.dr.lies.cell (i := 1) rfl
          go_roundw
          case rel => exact ⟨_, _, _, _, _, _, hc3, li3⟩
          case measure => rw [hc3]; simp [intOf, hc1]; omega
    · have HL : Hid (LI [1] W B R s e k v ns wr k2 no2 v2 ns2 u3 ts us) := hl
      clear hl
      go_wp2
      go_quiet (fail)
      go_wp2
      go_ret
      have h1 := HL.out.to nq
      exact h1.post h1.hi (fun h0 => by have := (h1.ok h0).1; omega)
theorem doc0_r (W : World) (B R : Nat) (s : ByteArray) (e : UInt8) (v : Value) (h : DR W B R s e 0 0 v []) (hB : B ≤ W.heap.size) (hs : s.size ≤ 1099511627776) : Calls Tryz.prog 39 #[.pointer (some ⟨R, 0, none⟩)] W fun x w' => LPost [1] [1] (fun k => k = s.size) (s.size + 1) W B R s e 0 v [] x w' :=
  document_r W B R s e 0 v [] h (Nat.zero_le _) hB (Nat.le_refl _) hs (varT_of (plainT_all B R s e hs _ _ 0 (Nat.le_refl _)) hs)
end Go.Proofs.YtjmekcakiacdfabGreatDoor

namespace Go.Proofs.YtjmekcakiacdfabGreatDoor
open Go Go.RowKit

theorem conv_own (l : List UInt8) (B : Nat) (v : Value) (w : World) (h : w.ownsRow B 5 1 v l.length (Lib.byteCells l)) : (convert 37 9 v).run Tryz.prog w = .ok (.string (bs l)) w := by
  rcases h.2 with ⟨rfl, h0⟩ | ⟨g, cap, cur, rfl, _⟩
  · obtain rfl : l = [] := List.length_eq_zero_iff.1 h0
    rw [run_convert_bytes_string w 37 9 5 none 0 0 Tryz.underlying37 Tryz.underlying5 Tryz.underlying9]
    rfl
  · exact run_convert_bytes_back w 37 9 5 ⟨g, 0, none⟩ cap l Tryz.underlying37 Tryz.underlying5 Tryz.underlying9 (fun j hj => by
      rw [Addr.add_mid, Nat.zero_add, h.cellAt j (by omega)]
      unfold Lib.byteCells
      rw [List.getElem?_map, List.getElem?_eq_getElem hj]; rfl)
set_option maxHeartbeats 4000000 in
set_option maxRecDepth 100000 in
theorem told_bad (W : World) (B R : Nat) (s : ByteArray) (e : UInt8) (k no : Nat) (v : Value) (ns : List (List UInt8)) (h : DR W B R s e k no v ns) (hn : no ≠ 0) (lv vv : Value) : Calls Tryz.prog 36 #[.pointer (some ⟨R, 0, none⟩), lv, vv] W fun x w' => x = .returned (.tuple #[.string ⟨#[]⟩, .int .i64 no]) ∧ Below W.heap.size W w' := by
  have f3 := h.lies.cell (i := 3) rfl
  have q : ((no : Int) != 0) = true := by unfold bne; rw [show ((no : Int) == 0) = false by rw [beq_eq_false_iff_ne]; omega]; rfl
  clear h hn
  go_enter Tryz.func36, Tryz.ntmps36
  go_wp2
  go_quiet (fail)
  go_wp2
  go_ret2
  exact ⟨rfl, ⟨rfl, rfl, rfl, Nat.le_refl _, fun _ _ => rfl⟩⟩
set_option maxHeartbeats 4000000 in
set_option maxRecDepth 100000 in
theorem told_ok (W : World) (B R : Nat) (s : ByteArray) (e : UInt8) (k : Nat) (v : Value) (ns : List (List UInt8)) (h : DR W B R s e k 0 v ns) (lv vv : Value) (vs : List PrZ) (ts : List Pt) (us : List Value) (hf : FewP vs) (hp : PtsAt W (· < W.heap.size) lv ts us) (hl : ∀ j, lv.ownBlock = some j → j < W.heap.size) (hv : PrsAt W vv vs) : Calls Tryz.prog 36 #[.pointer (some ⟨R, 0, none⟩), lv, vv] W fun x w' => x = .returned (.tuple #[.string (bs (if 65536 < (txtL (prL vs) ts).length then ((5 : Nat), []) else (0, txtL (prL vs) ts)).2), .int .i64 ((if 65536 < (txtL (prL vs) ts).length then ((5 : Nat), ([] : List UInt8)) else (0, txtL (prL vs) ts)).1 : Nat)]) ∧ Below W.heap.size W w' := by
  have f3 := h.lies.cell (i := 3) rfl
  have hP := put_n vs hf _ ts us lv vv (.slice none 0 0) [] W W.heap.size (Nat.le_refl _) hp hl hv.in (Nat.le_refl _) (World.ownsRow_nil _ _ _ _) (by simp)
  clear h hp hl hv
  obtain ⟨TX, hTX⟩ : ∃ TX, TX = txtL (prL vs) ts := ⟨_, rfl⟩
  rw [← hTX]
  go_enter Tryz.func36, Tryz.ntmps36
  go_upto_region 4 with (go_at_call 55; refine hP.mono ?_; rintro x w2 ⟨ov, ol2, ok, rfl, hown, hb, hl2, hok, hbad⟩)
  have HB : Hid _ := hb
  clear hP hb f3
  cases ok with
  | true =>
    have hT : ol2 = TX := by rw [hok rfl, hTX, List.nil_append]
    have HI : Hid (¬ 65536 < TX.length) := by unfold Hid; rw [← hT]; omega
    subst hT
    have hconv := conv_own ol2 _ ov w2 hown
    clear hok hbad hown hTX
    go_wp2
    go_ret2
    exact ⟨rfl, HB.out⟩
  | false =>
    have HI : Hid (65536 < TX.length) := by have := hbad rfl; rw [hTX]; simpa [Hid] using this
    clear hok hbad hown hTX
    go_wp2
    go_ret2
    exact ⟨rfl, HB.out⟩
set_option maxHeartbeats 4000000 in
set_option maxRecDepth 100000 in
theorem word_d (s : ByteArray) (e : UInt8) (vv : Value) (vs : List PrZ) (W : World) (hv : PrsAt W vv vs) (hf : FewP vs) (hs : s.size ≤ 1099511627776) : Calls Tryz.prog 20 #[.string s, .int .u8 e.toNat, vv] W fun x w' => x = .returned (.tuple #[.string (bs (wordL e (prL vs) (un s)).2), .int .i64 ((wordL e (prL vs) (un s)).1 : Nat)]) ∧ Below W.heap.size W w' := by
  have hsl := un_length s
  have hd0 : DR (W.alloc (.cells #[.string s, .int .i64 0, .int .u8 e.toNat, .int .i64 0, .slice none 0 0] 79)) W.heap.size W.heap.size s e 0 0 (.slice none 0 0) [] := ⟨Lies.new W _ _, World.ownsRow_nil _ _ _ _⟩
  have hp := plain0_r _ W.heap.size W.heap.size s e (.slice none 0 0) hd0 (by rw [World.size_alloc]; omega) hs
  have b0 : Below W.heap.size W (W.alloc (.cells #[.string s, .int .i64 0, .int .u8 e.toNat, .int .i64 0, .slice none 0 0] 79)) := (Below.refl _ W).alloc (Nat.le_refl _) _
  have HA : Hid (wordL e (prL vs) (un s) = ansL (prL vs) (eachL e [0] (un s))) := rfl
  clear hd0
  generalize wordL e (prL vs) (un s) = AN at *
  go_enter Tryz.func20, Tryz.ntmps20
  go_upto_region 2 with fail
  generalize (W.alloc (.cells #[.string s, .int .i64 0, .int .u8 e.toNat, .int .i64 0, .slice none 0 0] 79)) = W1 at *
  go_upto_region 3 with (go_at_call 35; refine hp.mono ?_; rintro x w2 ⟨lv, ts, us, k2, no2, v2, ns2, rfl, hd, hpl, hr, _, _, hok, hbad⟩)
  have hb : Below W.heap.size W w2 := b0.trans (hr.below b0.size (fun j hj => by
    rcases hj with rfl | hj
    · exact Nat.le_refl _
    · cases hj))
  have hv2 : PrsAt w2 vv vs := hv.below hb
  by_cases h0 : no2 = 0
  · subst h0
    obtain ⟨q1, q2, q3, q4, q5⟩ := hok rfl
    rw [show (un s).drop k2 = [] from List.drop_of_length_le (by rw [hsl]; omega), List.drop_zero] at q2
    have hT := told_ok w2 W.heap.size W.heap.size s e k2 v2 ns2 hd lv vv vs ts us hf (hpl.pts.keep (fun j hj => hj.1.2.1) (fun _ _ => rfl)) (fun j hj => (hpl.blk j hj).2.1) hv2
    rw [← ans_txt (m := 0) (by omega) (prL vs) q2, ← HA.out] at hT
    clear hok hbad q1 q2 q3 q4 q5 hp hd hpl hr hv hv2
    go_wp2_with (go_at_call 36; refine hT.mono ?_; rintro x w3 ⟨rfl, b3⟩)
    go_ret2
    exact ⟨rfl, hb.trans (b3.mono hb.size)⟩
  · have hT := told_bad w2 W.heap.size W.heap.size s e k2 no2 v2 ns2 hd h0 lv vv
    have h1 := (hbad h0).2
    rw [List.drop_zero] at h1
    have HN : Hid (AN = (no2, [])) := by
      unfold Hid
      rw [HA.out]
      unfold ansL
      rw [if_pos (by rw [h1.1]; exact h0), h1.1]
    clear hok hbad hp hd hpl hr hv hv2 h1 h0
    go_wp2_with (go_at_call 36; refine hT.mono ?_; rintro x w3 ⟨rfl, b3⟩)
    go_ret2
    exact ⟨by rw [HN.out]; rfl, hb.trans (b3.mono hb.size)⟩
set_option maxHeartbeats 4000000 in
set_option maxRecDepth 100000 in
theorem doc_d (s : ByteArray) (e : UInt8) (vv : Value) (vs : List PrZ) (W : World) (hv : PrsAt W vv vs) (hf : FewP vs) (hs : s.size ≤ 1099511627776) : Calls Tryz.prog 23 #[.string s, .int .u8 e.toNat, vv] W fun x w' => x = .returned (.tuple #[.string (bs (docL e (prL vs) (un s)).2), .int .i64 ((docL e (prL vs) (un s)).1 : Nat)]) ∧ Below W.heap.size W w' := by
  have hsl := un_length s
  have hd0 : DR (W.alloc (.cells #[.string s, .int .i64 0, .int .u8 e.toNat, .int .i64 0, .slice none 0 0] 79)) W.heap.size W.heap.size s e 0 0 (.slice none 0 0) [] := ⟨Lies.new W _ _, World.ownsRow_nil _ _ _ _⟩
  have hp := doc0_r _ W.heap.size W.heap.size s e (.slice none 0 0) hd0 (by rw [World.size_alloc]; omega) hs
  have b0 : Below W.heap.size W (W.alloc (.cells #[.string s, .int .i64 0, .int .u8 e.toNat, .int .i64 0, .slice none 0 0] 79)) := (Below.refl _ W).alloc (Nat.le_refl _) _
  have HA : Hid (docL e (prL vs) (un s) = ansL (prL vs) (eachL e [1] (un s))) := rfl
  clear hd0
  generalize docL e (prL vs) (un s) = AN at *
  go_enter Tryz.func23, Tryz.ntmps23
  go_upto_region 2 with fail
  generalize (W.alloc (.cells #[.string s, .int .i64 0, .int .u8 e.toNat, .int .i64 0, .slice none 0 0] 79)) = W1 at *
  go_upto_region 3 with (go_at_call 39; refine hp.mono ?_; rintro x w2 ⟨lv, ts, us, k2, no2, v2, ns2, rfl, hd, hpl, hr, _, _, hok, hbad⟩)
  have hb : Below W.heap.size W w2 := b0.trans (hr.below b0.size (fun j hj => by
    rcases hj with rfl | hj
    · exact Nat.le_refl _
    · cases hj))
  have hv2 : PrsAt w2 vv vs := hv.below hb
  by_cases h0 : no2 = 0
  · subst h0
    obtain ⟨q1, q2, q3, q4, q5⟩ := hok rfl
    rw [show (un s).drop k2 = [] from List.drop_of_length_le (by rw [hsl]; omega), List.drop_zero] at q2
    have hT := told_ok w2 W.heap.size W.heap.size s e k2 v2 ns2 hd lv vv vs ts us hf (hpl.pts.keep (fun j hj => hj.1.2.1) (fun _ _ => rfl)) (fun j hj => (hpl.blk j hj).2.1) hv2
    rw [← ans_txt (m := 1) (by omega) (prL vs) q2, ← HA.out] at hT
    clear hok hbad q1 q2 q3 q4 q5 hp hd hpl hr hv hv2
    go_wp2_with (go_at_call 36; refine hT.mono ?_; rintro x w3 ⟨rfl, b3⟩)
    go_ret2
    exact ⟨rfl, hb.trans (b3.mono hb.size)⟩
  · have hT := told_bad w2 W.heap.size W.heap.size s e k2 no2 v2 ns2 hd h0 lv vv
    have h1 := (hbad h0).2
    rw [List.drop_zero] at h1
    have HN : Hid (AN = (no2, [])) := by
      unfold Hid
      rw [HA.out]
      unfold ansL
      rw [if_pos (by rw [h1.1]; exact h0), h1.1]
    clear hok hbad hp hd hpl hr hv hv2 h1 h0
    go_wp2_with (go_at_call 36; refine hT.mono ?_; rintro x w3 ⟨rfl, b3⟩)
    go_ret2
    exact ⟨by rw [HN.out]; rfl, hb.trans (b3.mono hb.size)⟩
end Go.Proofs.YtjmekcakiacdfabGreatDoor

namespace Go.Proofs.YtjmekcakiacdfabGreatDoor
open Go Go.RowKit

theorem own_geG {W : World} {base e size k : Nat} {v : Value} {xs : List Value} (h : W.ownsRow base e size v k xs) : ∀ j, some j = v.ownBlock → base ≤ j := by
  intro j hj
  rcases h.2 with ⟨rfl, _⟩ | ⟨g, cap, cur, rfl, hg, hgb, _⟩
  · simp [Value.ownBlock] at hj
  · simp [Value.ownBlock] at hj; subst hj; exact hg
theorem own_upG {A B : World} {base e size n : Nat} {v : Value} {xs : List Value} (h : A.ownsRow base e size v n xs) (hb : Below A.heap.size A B) : B.ownsRow base e size v n xs := by
  refine ⟨h.1, ?_⟩
  rcases h.2 with hn | ⟨g, cap, cur, rfl, hg, hgg, rest⟩
  · exact .inl hn
  · exact .inr ⟨g, cap, cur, rfl, hg, (hb.block g (Array.getElem?_eq_some_iff.1 hgg).1).trans hgg, rest⟩
theorem eqFc {P : Program} {w : World} (d : Nat) (f : Field) (fs : List Field) (xs ys : Array Value) (a b : Value) (r R : Bool) (hn : f.name ≠ "_") (ha : (part f.type xs f.offset).run P w = .ok a w) (hb : (part f.type ys f.offset).run P w = .ok b w)
    (hr : (Op.equalIn d f.type a b).run P w = .ok r w) (hR : (Op.eqFields d xs ys fs).run P w = .ok R w) : (Op.eqFields d xs ys (f :: fs)).run P w = .ok (r && R) w := by
  simp only [Op.eqFields, if_pos hn, Sem.run_bind, ha, hb, hr, Result.andThen_ok]
  cases r with
  | false => simp
  | true => simpa using hR
theorem eqFn {P : Program} {w : World} (d : Nat) (xs ys : Array Value) : (Op.eqFields d xs ys []).run P w = .ok true w := rfl
def mkb8 (x : Int) : UInt8 := UInt8.ofNat (x % 256).toNat
theorem mkb8_int (x : Int) : ((mkb8 x).toNat : Int) = x % 256 := by
  unfold mkb8
  rw [UInt8.toNat_ofNat']; omega
def mkTx (k i : Int) : ByteArray := bs [35, mkb8 k, mkb8 (k / 256), mkb8 i, mkb8 (i / 256)]
set_option maxRecDepth 100000 in
theorem mkTx_conv (k i : Int) (w : World) : (convert 37 9 (.slice (some ⟨w.heap.size, 0, none⟩) 5 5)).run Tryz.prog (w.alloc (.cells #[.int .u8 35, .int .u8 (k % 256), .int .u8 (k / 256 % 256), .int .u8 (i % 256), .int .u8 (i / 256 % 256)] 5)) = .ok (.string (mkTx k i)) (w.alloc (.cells #[.int .u8 35, .int .u8 (k % 256), .int .u8 (k / 256 % 256), .int .u8 (i % 256), .int .u8 (i / 256 % 256)] 5)) := by
  refine run_convert_bytes_back _ 37 9 5 ⟨w.heap.size, 0, none⟩ 5 [35, mkb8 k, mkb8 (k / 256), mkb8 i, mkb8 (i / 256)] Tryz.underlying37 Tryz.underlying5 Tryz.underlying9 ?_
  intro j hj
  simp only [← mkb8_int]
  have hc := fun v (h : (#[.int .u8 35, .int .u8 ((mkb8 k).toNat : Int), .int .u8 ((mkb8 (k / 256)).toNat : Int), .int .u8 ((mkb8 i).toNat : Int), .int .u8 ((mkb8 (i / 256)).toNat : Int)] : Array Value)[j]? = some v) => (Lies.new w 5 #[.int .u8 35, .int .u8 ((mkb8 k).toNat : Int), .int .u8 ((mkb8 (k / 256)).toNat : Int), .int .u8 ((mkb8 i).toNat : Int), .int .u8 ((mkb8 (i / 256)).toNat : Int)]).cell h
  have e : (⟨w.heap.size, 0, none⟩ : Addr).add j = ⟨w.heap.size, j, none⟩ := by rw [Addr.add_mid, Nat.zero_add]
  rw [e]
  refine hc _ ?_
  rcases j with _ | _ | _ | _ | _ | j
  · rfl
  · rfl
  · rfl
  · rfl
  · rfl
  · simp at hj; omega
set_option maxRecDepth 100000 in
set_option maxHeartbeats 2000000 in
theorem mkTx_p (k i : Int) (w : World) : Calls Tryz.prog 57 #[.int .i64 k, .int .i64 i] w fun e w' => e = .returned (.string (mkTx k i)) ∧ Below w.heap.size w w' := by
  have hcv := mkTx_conv k i w
  go_enter Tryz.func57, Tryz.ntmps57
  go_wp2
  go_ret
  exact ⟨rfl, (Below.refl _ w).alloc (Nat.le_refl _) _⟩
end Go.Proofs.YtjmekcakiacdfabGreatDoor

namespace Go.Proofs.YtjmekcakiacdfabGreatDoor
open Go Go.RowKit

def csPr (x : PrZ) : List Value := [.string x.key, .string x.val]
def clPr (xs : List PrZ) : List Value := xs.flatMap csPr
theorem clPr_cons (e : PrZ) (es : List PrZ) : clPr (e :: es) = csPr e ++ clPr es := rfl
theorem clPr_length (es : List PrZ) : (clPr es).length = es.length * 2 := by
  induction es with
  | nil => rfl
  | cons e es ih => rw [clPr_cons, List.length_append, ih, List.length_cons, show (csPr e).length = 2 from rfl]; omega
theorem clPr_append (a b : List PrZ) : clPr (a ++ b) = clPr a ++ clPr b := by simp [clPr]
theorem clPr_get : ∀ (es : List PrZ) (k : Nat) (e : PrZ), es[k]? = some e → ∀ j v, (csPr e)[j]? = some v → (clPr es)[k * 2 + j]? = some v
  | [], k, e, h => by simp at h
  | x :: es, 0, e, h => fun j v hj => by
    simp at h; subst h
    have : j < (csPr x).length := (List.getElem?_eq_some_iff.1 hj).1
    rw [clPr_cons, Nat.zero_mul, Nat.zero_add, List.getElem?_append_left this]; exact hj
  | x :: es, k + 1, e, h => fun j v hj => by
    rw [clPr_cons, List.getElem?_append_right (by show 2 ≤ _; omega), show (k + 1) * 2 + j - (csPr x).length = k * 2 + j by show (k + 1) * 2 + j - 2 = _; omega]
    exact clPr_get es k e (by simpa using h) j v hj
theorem infoPr : (Tryz.prog.info? 40).map (fun i => (i.zero, i.size, i.bytes)) = some (some (.agg #[.string ⟨#[]⟩, .string ⟨#[]⟩]), 2, 32) := by kernel_rfl
theorem at_of_ownsPr {W : World} {base : Nat} {v : Value} {es : List PrZ} (h : W.ownsRow base 40 2 v es.length (clPr es)) : PrsAt W v es := by
  rcases h.2 with ⟨rfl, h0⟩ | ⟨g, cap, cur, rfl, hg, hgb, hcap, _⟩
  · have : es = [] := List.eq_nil_of_length_eq_zero h0
    subst this
    exact ⟨none, 0, 0, 0, rfl, fun h => absurd rfl h, Nat.le_refl _, fun i e he => by simp at he⟩
  · refine ⟨some ⟨g, 0, none⟩, cap, g, 0, rfl, fun _ => rfl, hcap, fun i e he => ?_⟩
    have hi := (List.getElem?_eq_some_iff.1 he).1
    have hc : ∀ j v, (csPr e)[j]? = some v → W.cell? ⟨g, 0 + i * 2 + j, none⟩ = some v := fun j v hj => by
      have hj2 : j < 2 := (List.getElem?_eq_some_iff.1 hj).1
      rw [Nat.zero_add, h.cellAt (i * 2 + j) (by omega)]
      exact clPr_get es i e he j v hj
    exact ⟨hc 0 _ rfl, hc 1 _ rfl⟩
theorem newPr (W : World) (t : TypeId) (e : PrZ) : ∀ j u, (csPr e)[j]? = some u → (W.alloc (.cells #[.string e.key, .string e.val] t)).cell? ((⟨W.heap.size, 0, none⟩ : Addr).add j) = some u := by
  intro j u hj
  rw [Addr.add_mid, Nat.zero_add]
  unfold World.cell?
  rw [World.alloc_heap_new]
  simpa [csPr] using hj
theorem onePr (e : PrZ) : ∀ u ∈ csPr e, u.oneCell' = true := by
  intro u hu
  simp [csPr] at hu
  rcases hu with rfl | rfl <;> rfl
def vaPr (e : PrZ) : Array Value := #[.string e.key, .string e.val]
set_option maxRecDepth 100000 in
theorem eqPr (a : PrZ) (w : World) : (Op.equalIn 10000 40 (.agg #[.string a.key, .string a.val]) (.agg #[.string a.key, .string a.val])).run Tryz.prog w = .ok true w := by
  show (Op.equalIn 10000 40 (.agg (vaPr a)) (.agg (vaPr a))).run Tryz.prog w = .ok true w
  rw [run_equalIn_struct w 9999 40 (vaPr a) (vaPr a) (by kernel_rfl) (by kernel_rfl)]
  have hs : ∀ x y : ByteArray, (Op.equalIn 9999 9 (.string x) (.string y)).run Tryz.prog w = .ok (x.toList == y.toList) w := fun x y => run_equalIn_string w 9998 _ x y Tryz.underlying9
  have hi : ∀ x y : Int, (Op.equalIn 9999 3 (.int .i64 x) (.int .i64 y)).run Tryz.prog w = .ok (x == y) w := fun x y => run_equalIn_int w 9998 _ .i64 .i64 _ _ Tryz.underlying3
  have hb : ∀ x y : Bool, (Op.equalIn 9999 4 (.bool x) (.bool y)).run Tryz.prog w = .ok (x == y) w := fun x y => run_equalIn_bool w 9998 _ x y Tryz.underlying4
  have pt : ∀ (k : Nat) (v : Value) (t : TypeId), (isAgg t).run Tryz.prog w = .ok false w → (vaPr a)[k]? = some v → (part t (vaPr a) k).run Tryz.prog w = .ok v w := fun k v t ht hv => by simp [part, ht, hv]
  have aS := Tryz.isAgg9 w
  have aI := Tryz.isAgg3 w
  have aB := Tryz.isAgg4 w
  rw [show (Tryz.prog.fieldsOf 40) = _ from by unfold Program.fieldsOf; rw [Tryz.underlying40]]
  refine (?_ : _ = Result.ok ((a.key.toList == a.key.toList) && ((a.val.toList == a.val.toList) && true)) w).trans (by simp)
  exact eqFc 9999 _ _ _ _ _ _ _ _ (by decide) (pt 0 _ _ aS rfl) (pt 0 _ _ aS rfl) (hs _ _) (eqFc 9999 _ _ _ _ _ _ _ _ (by decide) (pt 1 _ _ aS rfl) (pt 1 _ _ aS rfl) (hs _ _) (eqFn _ _ _))
/-- A mark in a list of pairs. -/
def markPr (k i : Int) : PrZ := ⟨mkTx k i, ⟨#[109, 97, 114, 107]⟩⟩
set_option maxRecDepth 100000 in
set_option maxHeartbeats 2000000 in
theorem markPr_p (k i : Int) (_h0 : 0 ≤ k) (_h1 : k ≤ 1000000) (w : World) : Calls Tryz.prog 56 #[.int .i64 k, .int .i64 i] w fun e w' => e = .returned (.agg #[.string (markPr k i).key, .string (markPr k i).val]) ∧ Below w.heap.size w w' := by
  have b0 : Below w.heap.size w (w.alloc (.cells #[.string ⟨#[]⟩, .string ⟨#[]⟩] 40)) := (Below.refl _ w).alloc (Nat.le_refl _) _
  have L0 := Lies.new w 40 #[.string ⟨#[]⟩, .string ⟨#[]⟩]
  have hinf : (Tryz.prog.info? 40).map (·.size) = some 2 := by kernel_rfl
  have hone : (#[.string (mkTx k i), .string ⟨#[109, 97, 114, 107]⟩] : Array Value).all (·.oneCell') = true := by simp [Value.oneCell']
  go_enter Tryz.func56, Tryz.ntmps56
  go_wp2_with (first
    | (go_at_call 57; refine (mkTx_p k i _).mono ?_; rintro e w1 ⟨rfl, b1⟩; have L1 := L0.below b1)
    | (refine wpList_store_row rfl 40 (.tmp 4) (.tmp 8) rfl w.heap.size #[.string (mkTx k i), .string ⟨#[109, 97, 114, 107]⟩] rfl rfl 40 #[.string ⟨#[]⟩, .string ⟨#[]⟩] L1 hinf rfl hone ?_))
  dsimp only [Act.put]
  refine bodyPost_ret (results_cell_row rfl _ _ w.heap.size 40 #[.string (mkTx k i), .string ⟨#[109, 97, 114, 107]⟩] (0, 0) _ rfl (setRow_heap w1 w.heap.size _ _ _ (0, 0) L1) Tryz.underlying40 rfl hinf) rfl ?_
  exact ⟨rfl, below_setRow (b0.trans (b1.mono b0.size)) (Nat.le_refl _) _⟩
def marksPr (n : Nat) : List PrZ := List.map (fun i : Nat => markPr 90 (i : Int)) (List.range n)
theorem marksPr_succ (n : Nat) : marksPr (n + 1) = marksPr n ++ [markPr 90 n] := by simp [marksPr, List.range_succ]
theorem marksPr_length (n : Nat) : (marksPr n).length = n := by simp [marksPr]
theorem marksPr_get (n i : Nat) (h : i < n) : (marksPr n)[i]? = some (markPr 90 i) := by simp [marksPr, h]
set_option maxHeartbeats 4000000 in
set_option maxRecDepth 100000 in
theorem fullPr_p (es : List PrZ) (v : Value) (w : World) (hv : PrsAt w v es) (hl : es.length ≤ 4398046510976) : Calls Tryz.prog 37 #[v] w fun e w' => ∃ u, e = .returned u ∧ w'.ownsRow w.heap.size 40 2 u (es.length + 16) (clPr (es ++ marksPr 16)) ∧ Below w.heap.size w w' := by
  obtain ⟨i0, hi, hz0, hz1, hz2⟩ := info_parts infoPr
  obtain ⟨a, cap, b, o, rfl, ha, hcap, hc⟩ := hv
  go_enter Tryz.func37, Tryz.ntmps37
  go_wp2
  go_loopw [3, 4] (fun v i wr => ∃ k : Nat, i = .int .i64 k ∧ k ≤ es.length ∧ wr.ownsRow w.heap.size 40 2 v (es.take k).length (clPr (es.take k)) ∧ Below w.heap.size w wr) (fun _ i _ => es.length - (intOf i).toNat)
  case atStart => exact ⟨0, rfl, Nat.zero_le _, World.ownsRow_nil _ _ _ _, Below.refl _ _⟩
  case round =>
    obtain ⟨k, rfl, hk, hown, hB⟩ := hrel
    have hsz := hB.size
    by_cases hlt : k < es.length
    · have hlt' : (k : Int) < (es.length : Int) := by omega
      have hk0 : (0 : Int) ≤ (k : Int) := by omega
      obtain ⟨x, hx⟩ : ∃ x, es[k]? = some x := ⟨_, List.getElem?_eq_getElem hlt⟩
      obtain rfl := ha (fun e => by rw [e] at hlt; simp at hlt)
      obtain ⟨c0, c1⟩ := (hc k x hx).below hB
      have hlk : (es.take k).length + 1 ≤ es.length := by rw [List.length_take]; omega
      have HX : Hid (es.take (k + 1) = es.take k ++ [x]) := by unfold Hid; rw [List.take_add_one, hx]; rfl
      clear hx hc ha
      go_wp2_with (at_builtin; refine wpList_append_own _ rfl _ _ 29 rfl w.heap.size 40 i0 (.agg #[.string ⟨#[]⟩, .string ⟨#[]⟩]) 2 32 Tryz.underlying29 hi hz0 hz1 hz2 rfl (by decide) _ _ _ rfl (hown.alloc _) ⟨wr.heap.size, 0, none⟩ 1 1 (csPr x) rfl rfl (newPr wr _ x) (onePr x) (by unfold maxLen; omega) (by omega) (by simp; omega) ?_; intro v1 w1 hown1 hgrow1 _)
      have hb1 : Below w.heap.size w w1 := (hB.alloc hsz _).grown hgrow1 (by simp; omega) (fun j hj => own_geG hown j hj.symm)
      have hown2 : w1.ownsRow w.heap.size 40 2 v1 (es.take (k + 1)).length (clPr (es.take (k + 1))) := by
        rw [HX.out, clPr_append, List.length_append]; simpa [clPr] using hown1
      clear hown1 hgrow1 hown
      go_roundw
      case rel => exact ⟨k + 1, by go_num, by omega, hown2, hb1⟩
      case measure => simp [intOf]; omega
    · have hge : ¬ (k : Int) < (es.length : Int) := by omega
      have hall : es.take k = es := List.take_of_length_le (by omega)
      rw [hall] at hown
      clear ha hc
      go_wp2_with fail
      go_loopw [3, 5] (fun v i wr => ∃ m : Nat, i = .int .i64 m ∧ m ≤ 16 ∧ wr.ownsRow w.heap.size 40 2 v (es ++ marksPr m).length (clPr (es ++ marksPr m)) ∧ Below w.heap.size w wr) (fun _ i _ => 16 - (intOf i).toNat)
      case atStart => exact ⟨0, rfl, Nat.zero_le _, by rw [show marksPr 0 = [] from rfl, List.append_nil]; exact hown, hB⟩
      case round =>
        clear hown hB hsz
        obtain ⟨m, rfl, hm, hown, hB⟩ := hrel
        by_cases hlt : m < 16
        · have hlt' : (m : Int) < 16 := by omega
          have hM := fun W => markPr_p 90 m (by decide) (by decide) W
          have HX : Hid (es ++ marksPr (m + 1) = (es ++ marksPr m) ++ [markPr 90 m]) := by unfold Hid; rw [marksPr_succ, ← List.append_assoc]
          have hln : (es ++ marksPr m).length + 1 ≤ 4398046510976 + 16 := by rw [List.length_append, marksPr_length]; omega
          generalize markPr 90 (m : Int) = x at *
          go_wp2_with (first
            | (go_at_call 56; refine (hM _).mono ?_; rintro e w1 ⟨rfl, b1⟩; have hown1 := own_upG hown b1; have hB1 := hB.trans (b1.mono hB.size); have hs1 := hB1.size)
            | (at_builtin; refine wpList_append_own _ rfl _ _ 29 rfl w.heap.size 40 i0 (.agg #[.string ⟨#[]⟩, .string ⟨#[]⟩]) 2 32 Tryz.underlying29 hi hz0 hz1 hz2 rfl (by decide) _ _ _ rfl (hown1.alloc _) ⟨w1.heap.size, 0, none⟩ 1 1 (csPr x) rfl rfl (newPr w1 _ x) (onePr x) (by unfold maxLen; omega) (by omega) (by simp; omega) ?_; intro v1 w2 hown2 hgrow2 _))
          have hb2 : Below w.heap.size w w2 := (hB1.alloc hs1 _).grown hgrow2 (by simp; omega) (fun j hj => own_geG hown1 j hj.symm)
          have hown3 : w2.ownsRow w.heap.size 40 2 v1 (es ++ marksPr (m + 1)).length (clPr (es ++ marksPr (m + 1))) := by
            rw [HX.out, clPr_append, List.length_append]; simpa [clPr] using hown2
          clear hown1 hgrow2 hown2 hown
          go_roundw
          case rel => exact ⟨m + 1, by go_num, by omega, hown3, hb2⟩
          case measure => simp [intOf]; omega
        · have hge2 : ¬ (m : Int) < 16 := by omega
          have hm16 : m = 16 := by omega
          rw [hm16, List.length_append, marksPr_length] at hown
          have HW : Hid _ := hown
          clear hown hm16
          go_wp2
          go_ret
          exact ⟨_, rfl, HW.out, hB⟩
/-- A list that was lent: its elements, and sixteen marks behind them. -/
def LentPr (w : World) (v : Value) (es : List PrZ) : Prop :=
  ∃ g cap, v = .slice (some ⟨g, 0, none⟩) es.length cap ∧ es.length + 16 ≤ cap ∧ cap ≤ maxLen ∧ ∀ j x, (es ++ marksPr 16)[j]? = some x → PrC w g (j * 2) x
theorem LentPr.below {w w' : World} {v : Value} {es : List PrZ} (h : LentPr w v es) (hb : Below w.heap.size w w') : LentPr w' v es := by
  obtain ⟨g, cap, rfl, hc, hm, h3⟩ := h
  exact ⟨g, cap, rfl, hc, hm, fun j x hx => (h3 j x hx).below hb⟩
theorem LentPr.keep {w w' : World} {v : Value} {es : List PrZ} (h : LentPr w v es) (hk : ∀ g, v.ownBlock = some g → w'.heap[g]? = w.heap[g]?) : LentPr w' v es := by
  obtain ⟨g, cap, rfl, hc, hm, h3⟩ := h
  have e : ∀ q, w'.cell? ⟨g, q, none⟩ = w.cell? ⟨g, q, none⟩ := fun q => by simp [World.cell?, hk g rfl]
  exact ⟨g, cap, rfl, hc, hm, fun j x hx => ⟨(e _).trans (h3 j x hx).c0, (e _).trans (h3 j x hx).c1⟩⟩
theorem LentPr.sl {w : World} {v : Value} {es : List PrZ} (h : LentPr w v es) : ∃ a l c, v = .slice a l c := by
  obtain ⟨g, cap, rfl, _⟩ := h
  exact ⟨_, _, _, rfl⟩
theorem LentPr.at {w : World} {v : Value} {es : List PrZ} (h : LentPr w v es) : PrsAt w v es := by
  obtain ⟨g, cap, rfl, hc, _, h3⟩ := h
  refine ⟨_, cap, g, 0, rfl, fun _ => rfl, by omega, fun i x hx => ?_⟩
  rw [Nat.zero_add]
  exact h3 i x (by rw [List.getElem?_append_left (List.getElem?_eq_some_iff.1 hx).1]; exact hx)
set_option maxHeartbeats 2000000 in
set_option maxRecDepth 100000 in
theorem lentPr_p (es : List PrZ) (v : Value) (w : World) (hv : PrsAt w v es) (hl : es.length ≤ 4398046510976) : Calls Tryz.prog 21 #[v] w fun e w' => ∃ u, e = .returned u ∧ LentPr w' u es ∧ (∀ j, u.ownBlock = some j → w.heap.size ≤ j) ∧ Below w.heap.size w w' := by
  have hF := fullPr_p es v w hv hl
  obtain ⟨a, cap0, b, o, rfl, ha, _, hc⟩ := hv
  clear hc ha
  go_enter Tryz.func21, Tryz.ntmps21
  go_wp2_with fail
  refine hF.mono ?_
  rintro e w1 ⟨u, rfl, hown, b1⟩
  have hown2 : w1.ownsRow w.heap.size 40 2 u (es ++ marksPr 16).length (clPr (es ++ marksPr 16)) := by rw [List.length_append, marksPr_length]; exact hown
  obtain ⟨a3, cap3, b3, o3, h31, h32, h33, h34⟩ := at_of_ownsPr hown2
  rcases hown.2 with ⟨_, h0⟩ | ⟨g, cap, cur, rfl, hgb, hgg, hcap, hmax, hcs, htk⟩
  · omega
  have hne : es ++ marksPr 16 ≠ [] := fun e => by have := congrArg List.length e; rw [List.length_append, marksPr_length] at this; simp at this
  have e3 := h32 hne
  rw [e3] at h31
  injection h31 with h311 h312 h313
  injection h311 with h311
  injection h311 with h3a h3b
  subst h3a; subst h3b; subst h313
  clear h312
  have HI : Hid (LentPr w1 (.slice (some ⟨g, 0, none⟩) es.length cap) es) := ⟨g, cap, rfl, hcap, hmax, fun j x hx => by have := h34 j x hx; rw [Nat.zero_add] at this; exact this⟩
  clear hown hown2 h34 h32 hgg htk
  unfold maxLen at hmax
  have d1 : (0 : Int) ≤ (es.length : Int) := by omega
  have d2 : (es.length : Int) ≤ (cap : Int) := by omega
  go_wp2
  go_ret
  exact ⟨_, rfl, HI.out, (fun j hj => by simp [Value.ownBlock] at hj; omega), b1⟩
theorem mark_atPr {es : List PrZ} {k : Nat} {x : PrZ} (hx : (es ++ marksPr 16)[k]? = some x) (hk : ¬ k < es.length) (h2 : k < es.length + 16) : x = markPr 90 ((k : Int) - (es.length : Int)) := by
  rw [List.getElem?_append_right (by omega), marksPr_get _ _ (by omega)] at hx
  have e9 : ((k - es.length : Nat) : Int) = (k : Int) - (es.length : Int) := by omega
  rw [← Option.some.inj hx, e9]
set_option maxHeartbeats 2000000 in
set_option maxRecDepth 100000 in
theorem keptfullPr_p (es : List PrZ) (g cap : Nat) (v : Value) (w : World) (hv : PrsAt w v es) (hl : es.length ≤ 4398046510976) (hG : ∀ j x, (es ++ marksPr 16)[j]? = some x → PrC w g (j * 2) x) : Calls Tryz.prog 38 #[.slice (some ⟨g, 0, none⟩) (es.length + 16) cap, v] w fun e w' => e = .returned (.bool true) ∧ Below w.heap.size w w' := by
  obtain ⟨a, cap2, b, o, rfl, ha, hcap, hc⟩ := hv
  have HC : Hid (∀ W i e, es[i]? = some e → Below w.heap.size w W → PrC W b (o + i * 2) e) := fun W i e he bb => (hc i e he).below bb
  have HGC : Hid (∀ W j x, (es ++ marksPr 16)[j]? = some x → Below w.heap.size w W → PrC W g (j * 2) x) := fun W j x hx bb => (hG j x hx).below bb
  have hinf : (Tryz.prog.info? 40).map (·.size) = some 2 := by kernel_rfl
  clear hc hG
  go_enter Tryz.func38, Tryz.ntmps38
  go_wp2_with fail
  go_loopw [5, 6] (fun n _ wr => ∃ k : Nat, k ≤ es.length + 16 ∧ n = .int .i64 k ∧ Below w.heap.size w wr) (fun n _ _ => es.length + 16 - (intOf n).toNat)
  case atStart => exact ⟨0, Nat.zero_le _, rfl, Below.refl _ _⟩
  case round =>
    obtain ⟨k, hk, rfl, hB⟩ := hrel
    by_cases hlt : k < es.length + 16
    · have hlt' : (k : Int) < (es.length : Int) + 16 := by omega
      have hk0 : (0 : Int) ≤ (k : Int) := by omega
      obtain ⟨x, hx⟩ : ∃ x, (es ++ marksPr 16)[k]? = some x := ⟨_, List.getElem?_eq_getElem (by rw [List.length_append, marksPr_length]; exact hlt)⟩
      have HX : Hid _ := hx
      have hM := fun W => markPr_p 90 ((k : Int) - (es.length : Int)) (by decide) (by decide) W
      have HMA : Hid (¬ k < es.length → markPr 90 ((k : Int) - (es.length : Int)) = x) := fun h => (mark_atPr hx h hlt).symm
      have heq := fun W => eqPr x W
      by_cases hin : k < es.length
      · have hin' : (k : Int) < (es.length : Int) := by omega
        have hx2 : es[k]? = some x := by rwa [List.getElem?_append_left hin] at hx
        obtain rfl := ha (fun e => by rw [e] at hin; simp at hin)
        clear HMA hx
        generalize markPr 90 ((k : Int) - (es.length : Int)) = y at *
        go_upto_region 7 with (go_at_call 56; refine (hM _).mono ?_; rintro e w1 ⟨rfl, b1⟩)
        have B1 := hB.trans (b1.mono hB.size)
        have L2 := Lies.new w1 40 #[.string y.key, .string y.val]
        have B2 : Below w.heap.size w (w1.alloc (.cells #[.string y.key, .string y.val] 40)) := B1.alloc B1.size _
        have hge : w.heap.size ≤ w1.heap.size := B1.size
        clear b1 hM B1
        generalize (w1.alloc (.cells #[.string y.key, .string y.val] 40)) = W2 at *
        generalize w1.heap.size = ge at *
        obtain ⟨c0, c1⟩ := HC.out W2 k x hx2 B2
        have hone : (#[.string x.key, .string x.val] : Array Value).all (·.oneCell') = true := by simp [Value.oneCell']
        clear hx2
        go_upto_region 9 with (first | (refine wpList_store_row rfl 40 (.tmp 6) (.tmp 31) rfl ge #[.string x.key, .string x.val] rfl rfl 40 #[.string y.key, .string y.val] L2 hinf rfl hone ?_))
        have L3 : Lies (W2.setRow ge #[.string x.key, .string x.val]) ge 40 #[.string x.key, .string x.val] := setRow_heap W2 ge _ _ _ (0, 0) L2
        have B3 : Below w.heap.size w (W2.setRow ge #[.string x.key, .string x.val]) := below_setRow B2 hge _
        clear c0 c1 L2
        generalize (W2.setRow ge #[.string x.key, .string x.val]) = W3 at *
        obtain ⟨d0, d1⟩ := HGC.out W3 k x HX.out B3
        have f0 := L3.cell (i := 0) rfl
        have f1 := L3.cell (i := 1) rfl
        clear L3
        go_wp2
        try (go_quiet (fail))
        try go_wp2
        go_roundw
        case rel => exact ⟨k + 1, by omega, by go_num, B3.trans ⟨rfl, rfl, rfl, Nat.le_refl _, fun _ _ => rfl⟩⟩
        case measure => simp [intOf]; omega
      · have hin' : ¬ (k : Int) < (es.length : Int) := by omega
        have hy := HMA.out hin
        rw [hy] at hM
        clear HMA hx hy
        go_upto_region 7 with (go_at_call 56; refine (hM _).mono ?_; rintro e w1 ⟨rfl, b1⟩)
        have B1 := hB.trans (b1.mono hB.size)
        have L3 := Lies.new w1 40 #[.string x.key, .string x.val]
        have B3 : Below w.heap.size w (w1.alloc (.cells #[.string x.key, .string x.val] 40)) := B1.alloc B1.size _
        clear b1 hM B1
        generalize (w1.alloc (.cells #[.string x.key, .string x.val] 40)) = W3 at *
        generalize w1.heap.size = ge at *
        obtain ⟨d0, d1⟩ := HGC.out W3 k x HX.out B3
        have f0 := L3.cell (i := 0) rfl
        have f1 := L3.cell (i := 1) rfl
        clear L3
        go_wp2
        try (go_quiet (fail))
        try go_wp2
        go_roundw
        case rel => exact ⟨k + 1, by omega, by go_num, B3.trans ⟨rfl, rfl, rfl, Nat.le_refl _, fun _ _ => rfl⟩⟩
        case measure => simp [intOf]; omega
    · have hge : ¬ (k : Int) < (es.length : Int) + 16 := by omega
      go_wp2
      go_ret
      exact ⟨rfl, hB⟩
set_option maxHeartbeats 2000000 in
set_option maxRecDepth 100000 in
theorem keptPr_p (es : List PrZ) (u v : Value) (w : World) (hu : LentPr w u es) (hv : PrsAt w v es) (hl : es.length ≤ 4398046510976) : Calls Tryz.prog 22 #[u, v] w fun e w' => e = .returned (.bool true) ∧ Below w.heap.size w w' := by
  obtain ⟨g, cap, rfl, hcap, _, hG⟩ := hu
  have hK := keptfullPr_p es g cap v w hv hl hG
  obtain ⟨a, cap2, b, o, rfl, ha, _, hc⟩ := hv
  clear hc hG ha
  have d1 : (0 : Int) ≤ (es.length : Int) + 16 := by omega
  have d2 : (es.length : Int) + 16 ≤ (cap : Int) := by omega
  go_enter Tryz.func22, Tryz.ntmps22
  go_wp2_with fail
  refine hK.mono ?_
  rintro e w1 ⟨rfl, b1⟩
  go_wp2
  go_ret
  exact ⟨rfl, b1⟩
end Go.Proofs.YtjmekcakiacdfabGreatDoor

namespace Go.Proofs.YtjmekcakiacdfabGreatDoor
open Go Go.RowKit

theorem below_j {W A C : World} (h : Below W.heap.size W A) (k : Below A.heap.size A C) : Below W.heap.size W C := h.trans (k.mono h.size)
theorem PrsAt.formH {W : World} {v : Value} {vs : List PrZ} (h : PrsAt W v vs) : ∃ a cap, v = .slice a vs.length cap := by
  obtain ⟨a, cap, b, o, h1, _⟩ := h
  exact ⟨a, cap, h1⟩
theorem few_h (s : ByteArray) (a : Option Addr) (n c : Nat) (W : World) : Calls Tryz.prog 19 #[.string s, .slice a n c] W fun x w' => x = .returned (.bool (decide (s.size ≤ 131072) && decide (n ≤ 4096))) ∧ w' = W := by
  by_cases h1 : s.size ≤ 131072
  · have h1' : (s.size : Int) ≤ 131072 := by omega
    by_cases h2 : n ≤ 4096
    · have h2' : (n : Int) ≤ 4096 := by omega
      rw [decide_eq_true h1, decide_eq_true h2]
      go_enter Tryz.func19, Tryz.ntmps19
      go_wp2
      go_ret
      exact ⟨rfl, rfl⟩
    · have h2' : ¬ (n : Int) ≤ 4096 := by omega
      rw [decide_eq_true h1, decide_eq_false h2]
      go_enter Tryz.func19, Tryz.ntmps19
      go_wp2
      go_ret
      exact ⟨rfl, rfl⟩
  · have h1' : ¬ (s.size : Int) ≤ 131072 := by omega
    rw [decide_eq_false h1]
    go_enter Tryz.func19, Tryz.ntmps19
    go_wp2
    go_ret
    exact ⟨rfl, rfl⟩
theorem each_no (e : UInt8) : ∀ (f : Nat) (st : List Nat) (l : List UInt8), (eachF e f st l).2 ≤ 18
  | 0, st, l => by simp only [eachF, endS]; split <;> (try split) <;> omega
  | f + 1, st, [] => by simp only [eachF, endS]; split <;> (try split) <;> omega
  | f + 1, st, b :: t => by
    unfold eachF
    cases hk : takeS e st b t with
    | bad n =>
      simp only
      unfold takeS escS dollarS bracesS singS runS at hk
      repeat' split at hk
      all_goals first
        | (cases hk; omega)
        | cases hk
    | good p k st2 => exact each_no e f st2 _
theorem word_no (e : UInt8) (vs : List (List UInt8 × List UInt8)) (l : List UInt8) : (wordL e vs l).1 ≤ 18 := by
  have h := each_no e l.length [0] l
  unfold wordL ansL
  split
  · exact h
  · split <;> simp
theorem doc_no (e : UInt8) (vs : List (List UInt8 × List UInt8)) (l : List UInt8) : (docL e vs l).1 ≤ 18 := by
  have h := each_no e l.length [1] l
  unfold docL ansL
  split
  · exact h
  · split <;> simp
theorem lent_prs {w : World} {u : Value} {es : List PrZ} (h : LentPr w u es) : PrsAt w u es := by
  obtain ⟨g, cap, rfl, hc, hm, h3⟩ := h
  refine ⟨some ⟨g, 0, none⟩, cap, g, 0, rfl, fun _ => rfl, by omega, fun i e he => ?_⟩
  have hi := (List.getElem?_eq_some_iff.1 he).1
  have := h3 i e (by rw [List.getElem?_append_left hi]; exact he)
  rwa [Nat.zero_add]
set_option maxHeartbeats 8000000 in
set_option maxRecDepth 100000 in
theorem expandwords_law (s : ByteArray) (e : UInt8) (v : Value) (vs : List PrZ) (W : World) (hE : ErrType W) (hv : PrsAt W v vs) (_hl : vs.length ≤ 4398046511104) (hx : ∀ x ∈ vs, x.key.size ≤ 140737488355328 ∧ x.val.size ≤ 140737488355328) (_hs : s.size ≤ 140737488351232) : Calls Tryz.prog 11 #[.string s, .int .u8 e.toNat, v] W fun x w' => x = .returned (.bool true) ∧ Below W.heap.size W w' := by
  obtain ⟨va, cap, rfl⟩ := hv.formH
  have hfa := fun W => few_h s va vs.length cap W
  have hww := works_x
  cases h1 : (decide (s.size ≤ 131072) && decide (vs.length ≤ 4096)) with
  | false =>
    rw [h1] at hfa
    clear hv h1
    go_enter Tryz.func11, Tryz.ntmps11
    go_wp2_with (go_at_call 19; refine (hfa _).mono ?_; rintro x w2 ⟨rfl, hw⟩; replace hw := hw.symm; subst hw)
    go_ret
    exact ⟨rfl, Below.refl _ _⟩
  | true =>
  rw [h1] at hfa
  simp only [Bool.and_eq_true, decide_eq_true_eq] at h1
  have hf : FewQ vs := FewQ.of ⟨by omega, hx⟩
  have hno := word_no e (prL vs) (un s)
  have hD := word_d s e (.slice va vs.length cap) vs W hv hf.1 (by omega)
  have hP := fun (W2 : World) (u : Value) (hu : PrsAt W2 u vs) => word_p s e vs u W2 hu hf (by omega)
  have hL := fun W2 (hb : Below W.heap.size W W2) => lentPr_p vs (.slice va vs.length cap) W2 (hv.below hb) (by omega)
  have hK := fun W2 (u : Value) (hb : Below W.heap.size W W2) (hu : LentPr W2 u vs) => keptPr_p vs u (.slice va vs.length cap) W2 hu (hv.below hb) (by omega)
  have hE2 := fun W2 (hb : Below W.heap.size W W2) => hE.below hb
  generalize wordL e (prL vs) (un s) = AN at *
  obtain ⟨n, T⟩ := AN
  have hno : n ≤ 18 := hno
  have hPl : ∀ W2, Below W.heap.size W W2 → Calls Tryz.prog 14 #[erV n, .int .i64 (n : Int)] W2 fun x w' => x = .returned (.bool true) ∧ Below W2.heap.size W2 w' := fun W2 hb => by
    by_cases h0 : n = 0
    · subst h0; exact plain_nil W2
    · unfold erV
      rw [if_neg h0]
      exact plain_some (n : Int) (by omega) (by omega) W2 (hE2 W2 hb)
  have hq : ((bs T).toList == (bs T).toList) = true := by simp
  have hEV : ∃ ev, ev = erV n := ⟨_, rfl⟩
  clear hE hx hno hf h1
  dsimp only at hD hP
  generalize erV n = ev at *
  go_enter Tryz.func11, Tryz.ntmps11
  go_upto_region 4 with (first
    | (go_at_call 19; refine (hfa _).mono ?_; rintro x w2 ⟨rfl, hw⟩; replace hw := hw.symm; subst hw)
    | (go_at_call 20; refine hD.mono ?_; rintro x w1 ⟨rfl, b1⟩))
  go_upto_region 5 with (go_at_call 21; refine (hL _ b1).mono ?_; rintro x w2 ⟨u, rfl, hu2, _, b2⟩)
  have B2 := below_j b1 b2
  have hu2p := lent_prs hu2
  go_upto_region 6 with (go_at_call 9; refine (hP _ u hu2p).mono ?_; rintro x w3 ⟨rfl, b3⟩)
  have hu3 := hu2.below b3
  have B3 := below_j B2 b3
  have hu3p := lent_prs hu3
  go_upto_region 7 with (go_at_call 9; refine (hP _ u hu3p).mono ?_; rintro x w4 ⟨rfl, b4⟩)
  have hu4 := hu3.below b4
  have B4 := below_j B3 b4
  have p4 := hPl _ B4
  clear hD hP hL hfa hu2 hu3 hu2p hu3p b1 b2 b3 b4 B2 B3
  go_wp2_with (first
    | (go_at_call 14; with_reducible refine p4.mono ?_; rintro x w5 ⟨rfl, b5⟩; have B5 := below_j B4 b5; have p5 := hPl _ B5)
    | (go_at_call 14; with_reducible refine p5.mono ?_; rintro x w6 ⟨rfl, b6⟩; have B6 := below_j B5 b6; have k6 := hK _ u B6 ((hu4.below b5).below b6))
    | (go_at_call 22; refine k6.mono ?_; rintro x w7 ⟨rfl, b7⟩; have B7 := below_j B6 b7)
    | (go_at_call 15; refine (hww _).mono ?_; rintro x w8 ⟨rfl, b8⟩; have B8 := below_j B7 b8))
  go_ret
  exact ⟨rfl, B8⟩
set_option maxHeartbeats 8000000 in
set_option maxRecDepth 100000 in
theorem expanddocs_law (s : ByteArray) (e : UInt8) (v : Value) (vs : List PrZ) (W : World) (hE : ErrType W) (hv : PrsAt W v vs) (_hl : vs.length ≤ 4398046511104) (hx : ∀ x ∈ vs, x.key.size ≤ 140737488355328 ∧ x.val.size ≤ 140737488355328) (_hs : s.size ≤ 140737488351232) : Calls Tryz.prog 12 #[.string s, .int .u8 e.toNat, v] W fun x w' => x = .returned (.bool true) ∧ Below W.heap.size W w' := by
  obtain ⟨va, cap, rfl⟩ := hv.formH
  have hfa := fun W => few_h s va vs.length cap W
  have hww := works_x
  cases h1 : (decide (s.size ≤ 131072) && decide (vs.length ≤ 4096)) with
  | false =>
    rw [h1] at hfa
    clear hv h1
    go_enter Tryz.func12, Tryz.ntmps12
    go_wp2_with (go_at_call 19; refine (hfa _).mono ?_; rintro x w2 ⟨rfl, hw⟩; replace hw := hw.symm; subst hw)
    go_ret
    exact ⟨rfl, Below.refl _ _⟩
  | true =>
  rw [h1] at hfa
  simp only [Bool.and_eq_true, decide_eq_true_eq] at h1
  have hf : FewQ vs := FewQ.of ⟨by omega, hx⟩
  have hno := doc_no e (prL vs) (un s)
  have hD := doc_d s e (.slice va vs.length cap) vs W hv hf.1 (by omega)
  have hP := fun (W2 : World) (u : Value) (hu : PrsAt W2 u vs) => doc_p s e vs u W2 hu hf (by omega)
  have hL := fun W2 (hb : Below W.heap.size W W2) => lentPr_p vs (.slice va vs.length cap) W2 (hv.below hb) (by omega)
  have hK := fun W2 (u : Value) (hb : Below W.heap.size W W2) (hu : LentPr W2 u vs) => keptPr_p vs u (.slice va vs.length cap) W2 hu (hv.below hb) (by omega)
  have hE2 := fun W2 (hb : Below W.heap.size W W2) => hE.below hb
  generalize docL e (prL vs) (un s) = AN at *
  obtain ⟨n, T⟩ := AN
  have hno : n ≤ 18 := hno
  have hPl : ∀ W2, Below W.heap.size W W2 → Calls Tryz.prog 14 #[erV n, .int .i64 (n : Int)] W2 fun x w' => x = .returned (.bool true) ∧ Below W2.heap.size W2 w' := fun W2 hb => by
    by_cases h0 : n = 0
    · subst h0; exact plain_nil W2
    · unfold erV
      rw [if_neg h0]
      exact plain_some (n : Int) (by omega) (by omega) W2 (hE2 W2 hb)
  have hq : ((bs T).toList == (bs T).toList) = true := by simp
  have hEV : ∃ ev, ev = erV n := ⟨_, rfl⟩
  clear hE hx hno hf h1
  dsimp only at hD hP
  generalize erV n = ev at *
  go_enter Tryz.func12, Tryz.ntmps12
  go_upto_region 4 with (first
    | (go_at_call 19; refine (hfa _).mono ?_; rintro x w2 ⟨rfl, hw⟩; replace hw := hw.symm; subst hw)
    | (go_at_call 23; refine hD.mono ?_; rintro x w1 ⟨rfl, b1⟩))
  go_upto_region 5 with (go_at_call 21; refine (hL _ b1).mono ?_; rintro x w2 ⟨u, rfl, hu2, _, b2⟩)
  have B2 := below_j b1 b2
  have hu2p := lent_prs hu2
  go_upto_region 6 with (go_at_call 24; refine (hP _ u hu2p).mono ?_; rintro x w3 ⟨rfl, b3⟩)
  have hu3 := hu2.below b3
  have B3 := below_j B2 b3
  have p3 := hPl _ B3
  clear hD hP hL hfa hu2 hu2p b1 b2 b3 B2
  go_wp2_with (first
    | (go_at_call 14; refine p3.mono ?_; rintro x w6 ⟨rfl, b6⟩; have B6 := below_j B3 b6; have k6 := hK _ u B6 (hu3.below b6))
    | (go_at_call 22; refine k6.mono ?_; rintro x w7 ⟨rfl, b7⟩; have B7 := below_j B6 b7)
    | (go_at_call 15; refine (hww _).mono ?_; rintro x w8 ⟨rfl, b8⟩; have B8 := below_j B7 b8))
  go_ret
  exact ⟨rfl, B8⟩
end Go.Proofs.YtjmekcakiacdfabGreatDoor

namespace Go.Proofs.YtjmekcakiacdfabGreatDoor.Tx
open Go Go.RowKit

def un (s : ByteArray) : List UInt8 := s.data.toList
def bs (l : List UInt8) : ByteArray := ⟨l.toArray⟩
theorem un_bs (l : List UInt8) : un (bs l) = l := by simp [un, bs]
theorem bs_un (s : ByteArray) : bs (un s) = s := by cases s; simp [un, bs]
theorem un_inj {a b : ByteArray} (h : un a = un b) : a = b := by rw [← bs_un a, ← bs_un b, h]
theorem un_length (s : ByteArray) : (un s).length = s.size := by cases s; simp [un, ByteArray.size]
theorem size_bs (l : List UInt8) : (bs l).size = l.length := by simp [bs, ByteArray.size]
theorem un_append (a b : ByteArray) : un (a ++ b) = un a ++ un b := by simp [un]
theorem un_extract (s : ByteArray) (i j : Nat) : un (s.extract i j) = ((un s).take j).drop i := by
  simp [un, ByteArray.data_extract, List.extract_eq_take_drop, List.drop_take]
theorem toList_un (s : ByteArray) : s.toList = un s := ByteArray.toList_eq s
theorem isEmpty_iff (s : ByteArray) : s.toList.isEmpty = true ↔ s.size = 0 := by rw [toList_un, ← un_length, List.isEmpty_iff, List.length_eq_zero_iff]
theorem isEmpty_false (s : ByteArray) : s.toList.isEmpty = false ↔ 0 < s.size := by
  rw [toList_un, ← un_length]; cases un s <;> simp
theorem un_getElem? (s : ByteArray) (k : Nat) (h : k < s.size) : (un s)[k]? = some s[k] := by
  unfold un; rw [Array.getElem?_toList]; exact Array.getElem?_eq_getElem h
theorem size_extract' (s : ByteArray) (i j : Nat) (h : j ≤ s.size) : (s.extract i j).size = j - i := by
  rw [← un_length, un_extract]; simp [un_length]; omega
theorem un_extract_get (s : ByteArray) (f j : Nat) : (un (s.extract f s.size))[j]? = (un s)[f + j]? := by
  rw [un_extract, List.take_of_length_le (by rw [un_length]; omega), List.getElem?_drop]

/-- Block B holds just these cells. -/
def Lies (W : World) (B : Nat) (t : TypeId) (cur : Array Value) : Prop := W.heap[B]? = some (.cells cur t (0, 0))
theorem Lies.cell {W : World} {B i : Nat} {t : TypeId} {cur : Array Value} {v : Value} (h : Lies W B t cur) (hv : cur[i]? = some v) : W.cell? ⟨B, i, none⟩ = some v := by simp [World.cell?, show W.heap[B]? = _ from h, hv]
theorem Lies.frozen {W : World} {B : Nat} {t : TypeId} {cur : Array Value} (h : Lies W B t cur) (i : Nat) : W.frozen? ⟨B, i, none⟩ = false := by simp [World.frozen?, show W.heap[B]? = _ from h]
theorem Lies.lt {W : World} {B : Nat} {t : TypeId} {cur : Array Value} (h : Lies W B t cur) : B < W.heap.size := (Array.getElem?_eq_some_iff.1 h).1
theorem Lies.new (W : World) (t : TypeId) (cur : Array Value) : Lies (W.alloc (.cells cur t)) W.heap.size t cur := World.alloc_heap_new W _
theorem Lies.set {W : World} {B i : Nat} {t : TypeId} {cur : Array Value} (h : Lies W B t cur) (v : Value) : Lies (W.setCell ⟨B, i, none⟩ v) B t (cur.setIfInBounds i v) := by
  obtain ⟨hlt, hk⟩ := Array.getElem?_eq_some_iff.1 h
  show (W.heap.modify B _)[B]? = _
  rw [Array.getElem?_eq_getElem (by rw [Array.size_modify]; exact hlt), Array.getElem_modify_self, hk]
  rfl
theorem Lies.other {W : World} {B b i : Nat} {t : TypeId} {cur : Array Value} (h : Lies W B t cur) (v : Value) (hne : b ≠ B) : Lies (W.setCell ⟨b, i, none⟩ v) B t cur := by
  show (W.heap.modify b _)[B]? = _
  rw [Array.getElem?_modify, if_neg hne]; exact h
theorem Lies.below {W W2 : World} {B : Nat} {t : TypeId} {cur : Array Value} (h : Lies W B t cur) (hb : Below W.heap.size W W2) : Lies W2 B t cur := (hb.block B h.lt).trans h
theorem Lies.alloc {W : World} {B : Nat} {t : TypeId} {cur : Array Value} (h : Lies W B t cur) (o : Obj) : Lies (W.alloc o) B t cur := (Below.heap_alloc W o B h.lt).trans h
theorem Lies.drew {W : World} {B : Nat} {t : TypeId} {cur : Array Value} (h : Lies W B t cur) (k : Nat) : Lies (W.drewN k) B t cur := h
theorem below_drawn {B : Nat} {a w : World} (h : Below B a w) (n : Nat) : Below B a (w.drewN n) := h.trans ⟨rfl, rfl, rfl, Nat.le_refl _, fun _ _ => rfl⟩
theorem below_join {w w1 w2 : World} (h : Below w.heap.size w w1) (k : Below w1.heap.size w1 w2) : Below w.heap.size w w2 := h.trans (k.mono h.size)

/-- The list at v holds these texts. -/
def TextsAt (w : World) (v : Value) (l : List ByteArray) : Prop :=
  ∃ a c, v = .slice a l.length c ∧ (a = none → c = 0) ∧ ∀ i x, l[i]? = some x → ∃ b o, a = some ⟨b, o, none⟩ ∧ w.cell? ⟨b, o + i, none⟩ = some (.string x)
theorem TextsAt.below {w w' : World} {v : Value} {l : List ByteArray} (h : TextsAt w v l) (hb : Below w.heap.size w w') : TextsAt w' v l := by
  obtain ⟨a, c, rfl, ha, hc⟩ := h
  refine ⟨a, c, rfl, ha, fun i x hx => ?_⟩
  obtain ⟨b, o, rfl, h1⟩ := hc i x hx
  exact ⟨b, o, rfl, (hb.cell (p := ⟨b, o + i, none⟩) (World.block_lt_of_cell? w _ h1)).trans h1⟩
theorem TextsAt.nil (w : World) : TextsAt w (.slice none 0 0) [] := ⟨none, 0, rfl, fun _ => rfl, fun i x h => by simp at h⟩
def strs (xs : List ByteArray) : List Value := xs.map Value.string
theorem strs_length (xs : List ByteArray) : (strs xs).length = xs.length := by simp [strs]
theorem strs_append (a b : List ByteArray) : strs (a ++ b) = strs a ++ strs b := by simp [strs]
theorem row_cell {W : World} {base e size n : Nat} {g cap : Nat} {xs : List Value} (h : W.ownsRow base e size (.slice (some ⟨g, 0, none⟩) n cap) n xs) (j : Nat) (u : Value) (hu : xs[j]? = some u) : W.cell? ⟨g, j, none⟩ = some u := by
  rcases h.2 with ⟨hv, _⟩ | ⟨g', cap', cur, hv, _, hg, _, _, _, hx⟩
  · cases hv
  · cases hv
    have hj : j < xs.length := (List.getElem?_eq_some_iff.1 hu).1
    have h2 : cur[j]? = some u := by
      rw [← Array.getElem?_toList]
      have h3 : (cur.toList.take xs.length)[j]? = some u := by rw [h.1, hx]; exact hu
      rwa [List.getElem?_take, if_pos hj] at h3
    simp [World.cell?, hg, h2]
theorem TextsAt.own {w : World} {B : Nat} {v : Value} {l : List ByteArray} (h : w.ownsRow B 9 1 v l.length (strs l)) : TextsAt w v l := by
  have h2 := h
  rcases h.2 with ⟨hv, h0⟩ | ⟨g, cap, cur, hv, _⟩
  · subst hv
    obtain rfl : l = [] := List.length_eq_zero_iff.1 h0
    exact TextsAt.nil w
  · subst hv
    exact ⟨_, _, rfl, (fun e => nomatch e), fun i x hx => ⟨g, 0, rfl, by rw [Nat.zero_add]; exact row_cell h2 i _ (by simp [strs, hx])⟩⟩
/-- How much a list of texts weighs. -/
def wt (l : List ByteArray) : Nat := (l.map fun x => x.size + 1).sum
theorem wt_append (a b : List ByteArray) : wt (a ++ b) = wt a + wt b := by simp [wt]
theorem wt_take_succ (l : List ByteArray) (k : Nat) (x : ByteArray) (h : l[k]? = some x) : wt (l.take (k + 1)) = wt (l.take k) + x.size + 1 := by
  rw [List.take_add_one, h, wt_append]; simp [wt]; omega
theorem wt_take_le (l : List ByteArray) (k : Nat) : wt (l.take k) ≤ wt l := by
  conv => rhs; rw [← List.take_append_drop k l, wt_append]
  omega
theorem length_wt (l : List ByteArray) : l.length ≤ wt l := by
  induction l with
  | nil => simp [wt]
  | cons x l ih => simp [wt] at ih ⊢; omega
theorem size_wt {l : List ByteArray} {x : ByteArray} (h : x ∈ l) : x.size + 1 ≤ wt l := by
  obtain ⟨a, b, rfl⟩ := List.append_of_mem h
  rw [wt_append]; simp [wt]; omega

theorem str_info : (Tryz.prog.info? 9).map (fun i => (i.zero, i.size, i.bytes)) = some (some (.string ⟨#[]⟩), 1, 16) := by kernel_rfl
theorem own_below {A B : World} {base e size n : Nat} {v : Value} {xs : List Value} (h : A.ownsRow base e size v n xs) (hb : Below A.heap.size A B) : B.ownsRow base e size v n xs := by
  refine ⟨h.1, ?_⟩
  rcases h.2 with hn | ⟨g, cap, cur, rfl, hg, hgg, rest⟩
  · exact .inl hn
  · exact .inr ⟨g, cap, cur, rfl, hg, (hb.block g (Array.getElem?_eq_some_iff.1 hgg).1).trans hgg, rest⟩
theorem own_slice {w : World} {B e n : Nat} {v : Value} {cs : List Value} (h : w.ownsRow B e 1 v n cs) : ∃ a k c, v = .slice a k c := by
  rcases h.2 with ⟨rfl, _⟩ | ⟨g, cap, cur, rfl, _⟩
  · exact ⟨_, _, _, rfl⟩
  · exact ⟨_, _, _, rfl⟩


def b8 (x : Int) : UInt8 := UInt8.ofNat (x % 256).toNat
theorem b8_int (x : Int) : ((b8 x).toNat : Int) = x % 256 := by
  unfold b8
  rw [UInt8.toNat_ofNat']; omega
def markB (k i : Int) : ByteArray := bs [35, b8 k, b8 (k / 256), b8 i, b8 (i / 256)]
set_option maxRecDepth 100000 in
theorem mark_conv (k i : Int) (w : World) : (convert 37 9 (.slice (some ⟨w.heap.size, 0, none⟩) 5 5)).run Tryz.prog (w.alloc (.cells #[.int .u8 35, .int .u8 (k % 256), .int .u8 (k / 256 % 256), .int .u8 (i % 256), .int .u8 (i / 256 % 256)] 5)) = .ok (.string (markB k i)) (w.alloc (.cells #[.int .u8 35, .int .u8 (k % 256), .int .u8 (k / 256 % 256), .int .u8 (i % 256), .int .u8 (i / 256 % 256)] 5)) := by
  refine run_convert_bytes_back _ 37 9 5 ⟨w.heap.size, 0, none⟩ 5 [35, b8 k, b8 (k / 256), b8 i, b8 (i / 256)] Tryz.underlying37 Tryz.underlying5 Tryz.underlying9 ?_
  intro j hj
  simp only [← b8_int]
  have hc := fun v (h : (#[.int .u8 35, .int .u8 ((b8 k).toNat : Int), .int .u8 ((b8 (k / 256)).toNat : Int), .int .u8 ((b8 i).toNat : Int), .int .u8 ((b8 (i / 256)).toNat : Int)] : Array Value)[j]? = some v) => (Lies.new w 5 #[.int .u8 35, .int .u8 ((b8 k).toNat : Int), .int .u8 ((b8 (k / 256)).toNat : Int), .int .u8 ((b8 i).toNat : Int), .int .u8 ((b8 (i / 256)).toNat : Int)]).cell h
  have e : (⟨w.heap.size, 0, none⟩ : Addr).add j = ⟨w.heap.size, j, none⟩ := by rw [Addr.add_mid, Nat.zero_add]
  rw [e]
  refine hc _ ?_
  rcases j with _ | _ | _ | _ | _ | j
  · rfl
  · rfl
  · rfl
  · rfl
  · rfl
  · simp at hj; omega
set_option maxRecDepth 100000 in
set_option maxHeartbeats 2000000 in
theorem mark_p (k i : Int) (w : World) : Calls Tryz.prog 57 #[.int .i64 k, .int .i64 i] w fun e w' => e = .returned (.string (markB k i)) ∧ Below w.heap.size w w' := by
  have hcv := mark_conv k i w
  go_enter Tryz.func57, Tryz.ntmps57
  go_wp2
  go_ret
  exact ⟨rfl, (Below.refl _ w).alloc (Nat.le_refl _) _⟩
theorem marks_p (k i : Int) (w : World) : Calls Tryz.prog 41 #[.int .i64 k, .int .i64 i] w fun e w' => e = .returned (.string (markB k i)) ∧ Below w.heap.size w w' := by
  go_enter Tryz.func41, Tryz.ntmps41
  go_wp2_with fail
  refine (mark_p k i w).mono ?_
  rintro e w1 ⟨rfl, b1⟩
  go_wp2
  go_ret
  exact ⟨rfl, b1⟩
end Go.Proofs.YtjmekcakiacdfabGreatDoor.Tx

namespace Go.Proofs.YtjmekcakiacdfabGreatDoor.Tx
open Go Go.RowKit

def marksK (k n : Nat) : List ByteArray := List.map (fun i : Nat => markB (k : Int) (i : Int)) (List.range n)
theorem marksK_succ (k n : Nat) : marksK k (n + 1) = marksK k n ++ [markB k n] := by simp [marksK, List.range_succ]
theorem marksK_length (k n : Nat) : (marksK k n).length = n := by simp [marksK]
theorem marksK_get (k n i : Nat) (h : i < n) : (marksK k n)[i]? = some (markB k i) := by simp [marksK, h]

theorem own_same {W W2 : World} {base e size n : Nat} {v : Value} {xs : List Value} (h : W.ownsRow base e size v n xs) (hb : ∀ b, v.ownBlock = some b → W2.heap[b]? = W.heap[b]?) : W2.ownsRow base e size v n xs := by
  refine ⟨h.1, ?_⟩
  rcases h.2 with hn | ⟨g, cap, cur, rfl, hg, hgg, rest⟩
  · exact .inl hn
  · exact .inr ⟨g, cap, cur, rfl, hg, (hb g rfl).trans hgg, rest⟩
theorem texts_same {W W2 : World} {v : Value} {l : List ByteArray} (h : TextsAt W v l) (hb : ∀ b, v.ownBlock = some b → W2.heap[b]? = W.heap[b]?) : TextsAt W2 v l := by
  obtain ⟨a, c, rfl, ha, hc⟩ := h
  refine ⟨a, c, rfl, ha, fun i x hx => ?_⟩
  obtain ⟨b, o, rfl, h1⟩ := hc i x hx
  exact ⟨b, o, rfl, (World.cell?_of_block (a := ⟨b, o + i, none⟩) (hb b rfl)).trans h1⟩
theorem own_set {W : World} {base e n g cap i : Nat} {xs : List Value} (h : W.ownsRow base e 1 (.slice (some ⟨g, 0, none⟩) n cap) n xs) (x : Value) : (W.setCell ⟨g, i, none⟩ x).ownsRow base e 1 (.slice (some ⟨g, 0, none⟩) n cap) n (xs.set i x) := by
  refine ⟨by rw [List.length_set]; exact h.1, ?_⟩
  rcases h.2 with ⟨hv, _⟩ | ⟨g', cap', cur, hv, hb, hg, h1, h2, h3, h4⟩
  · cases hv
  · cases hv
    refine .inr ⟨g, cap, cur.setIfInBounds i x, rfl, hb, Lies.set hg x, h1, h2, by rw [Array.size_setIfInBounds]; exact h3, ?_⟩
    rw [Array.toList_setIfInBounds, ← h4, List.take_set]
theorem set_other {W : World} {g i b : Nat} (x : Value) (h : g ≠ b) : (W.setCell ⟨g, i, none⟩ x).heap[b]? = W.heap[b]? := by
  show (W.heap.modify g _)[b]? = _
  rw [Array.getElem?_modify, if_neg h]

/-- An append that grows has a row of its own and leaves all else; one with room stays in its row. -/
theorem wpList_append_keep {P : Program} (w : World) {ops : Array Oper} {rest : List Oper} {o : Oper} {a : Act} {Q : Exit → Act → World → Prop} (hgd : o.guard = none) (s x : Operand) (t : TypeId)
    (ho : o.op = .call { callee := .builtin .append, args := #[s, x], argTypes := #[t, t] })
    (base : Nat) (e : TypeId) (i : TypeInfo) (z : Value) (bytes : Nat) (ht : P.underlying t = some (.slice e)) (hi : P.info? e = some i) (hz : i.zero = some z)
    (hsize : i.size = 1) (hby : i.bytes = bytes) (hzs : z.cells.size = 1)
    (v : Value) (n : Nat) (xs : List Value) (hs : a.eval s = v) (hown : w.ownsRow base e 1 v n xs)
    (ad : Addr) (c : Nat) (y : Value) (hx : a.eval x = .slice (some ad) 1 c) (hnews : ∀ j u, [y][j]? = some u → w.cell? (ad.add j) = some u) (h1 : y.oneCell' = true)
    (h63 : n + 1 ≤ maxLen) (hbytes : (n + 1) * bytes ≤ 140737488355328) (hbase : base ≤ w.heap.size)
    (h : ∀ v' w', w'.ownsRow base e 1 v' (n + 1) (xs ++ [y]) → (v'.ownBlock = v.ownBlock ∧ w.grownBy w' v.ownBlock ∨ (∃ b, w.heap.size ≤ b ∧ v'.ownBlock = some b) ∧ w.grownBy w' none) → wpList P ops Q rest (a.put o.dst v') w') : wpList P ops Q (o :: rest) a w := by
  have h1' : ∀ u ∈ [y], u.oneCell' = true := fun u hu => by simp at hu; rw [hu]; exact h1
  have fresh : ∀ v' w', w'.ownsRow w.heap.size e 1 v' (n + 1) (xs ++ [y]) → w.grownBy w' none → wpList P ops Q rest (a.put o.dst v') w' := by
    intro v' w' ho hg
    rcases ho.2 with ⟨_, h0⟩ | ⟨g, cap, cur, rfl, hb, rest⟩
    · omega
    · exact h _ _ ⟨ho.1, .inr ⟨g, cap, cur, rfl, Nat.le_trans hbase hb, rest⟩⟩ (.inr ⟨⟨g, hb, rfl⟩, hg⟩)
  have hown0 := hown
  rcases hown.2 with ⟨rfl, rfl⟩ | ⟨g, cap, cur, rfl, hb, hg, hnc, hcm, hcs, htake⟩
  · obtain rfl : xs = [] := List.eq_nil_of_length_eq_zero (by simpa using hown.1)
    exact wpList_append_grows w hgd s x t ho e i z 1 bytes ht hi hz hsize hby hzs (by decide) none 0 0 [] hs (fun _ => ⟨rfl, rfl⟩) rfl (fun b hb => nomatch hb) ad 1 c [y] hx rfl hnews h1' (by omega) h63 hbytes fresh
  · by_cases hroom : n + 1 ≤ cap
    · exact wpList_append_own_spare w hgd s x t ho base e i 1 ht hi hsize g n cap xs hs hown0 ad 1 c [y] hx rfl hnews h1' hroom (fun w' h2 h3 => h _ _ h2 (.inl ⟨rfl, h3⟩))
    · exact wpList_append_grows w hgd s x t ho e i z 1 bytes ht hi hz hsize hby hzs (by decide) (some ⟨g, 0, none⟩) n cap xs hs (fun h => nomatch h) hown0.1 (fun b hb => by cases hb; exact hown0.cells rfl) ad 1 c [y] hx rfl hnews h1' (by omega) h63 hbytes fresh

/-- The lists stand apart from each other and from the row that holds them. -/
structure Handed (g : Nat) (us : List Value) : Prop where
  apart : ∀ (i j : Nat) (u v : Value), us[i]? = some u → us[j]? = some v → i ≠ j → u.ownBlock = none ∨ u.ownBlock ≠ v.ownBlock
  gap : ∀ (i : Nat) (u : Value), us[i]? = some u → u.ownBlock ≠ some g
def rowF (k i j : Nat) (xs : List ByteArray) : List ByteArray := if j < k then marksK j xs.length else if j = k then marksK k i ++ xs.drop i else xs
/-- The lists ahead of the k-th are marked, and so are its first i texts. -/
def Rws (w : World) (B : Nat) (us : List Value) (xss : List (List ByteArray)) (k i : Nat) : Prop := ∀ (j : Nat) (u : Value) (xs : List ByteArray), us[j]? = some u → xss[j]? = some xs → w.ownsRow B 9 1 u xs.length (strs (rowF k i j xs))
theorem Rws.below {w w' : World} {B : Nat} {us : List Value} {xss : List (List ByteArray)} {k i : Nat} (h : Rws w B us xss k i) (hb : Below w.heap.size w w') : Rws w' B us xss k i := fun j u xs h1 h2 => own_below (h j u xs h1 h2) hb
theorem Rws.set {w : World} {B g : Nat} {us : List Value} {xss : List (List ByteArray)} {k i gk cap : Nat} {xs : List ByteArray} (h : Rws w B us xss k i) (hA : Handed g us) (hu : us[k]? = some (.slice (some ⟨gk, 0, none⟩) xs.length cap)) (hx : xss[k]? = some xs) (hi : i < xs.length) :
    Rws (w.setCell ⟨gk, i, none⟩ (.string (markB k i))) B us xss k (i + 1) := by
  intro j v ys hv hy
  by_cases hj : j = k
  · subst hj
    rw [hu] at hv
    rw [hx] at hy
    cases hv
    cases hy
    have h2 := own_set (i := i) (h j _ _ hu hx) (.string (markB j i))
    have e : (strs (rowF j i j xs)).set i (.string (markB j i)) = strs (rowF j (i + 1) j xs) := by
      unfold strs rowF
      rw [if_neg (Nat.lt_irrefl j), if_pos rfl, if_neg (Nat.lt_irrefl j), if_pos rfl, ← List.map_set, List.set_append_right _ _ (by rw [marksK_length]; exact Nat.le_refl _), marksK_length, Nat.sub_self, List.drop_eq_getElem_cons hi, List.set_cons_zero, marksK_succ, List.append_assoc]
      rfl
    rw [e] at h2
    exact h2
  · have e : rowF k (i + 1) j ys = rowF k i j ys := by unfold rowF; simp [hj]
    rw [e]
    refine own_same (h j v ys hv hy) (fun b hb => set_other _ (fun e => ?_))
    subst e
    rcases hA.apart j k v _ hv hu hj with h1 | h1
    · rw [hb] at h1; cases h1
    · exact h1 hb
theorem Rws.next {w : World} {B : Nat} {us : List Value} {xss : List (List ByteArray)} {k : Nat} {xs : List ByteArray} (h : Rws w B us xss k xs.length) (hx : xss[k]? = some xs) : Rws w B us xss (k + 1) 0 := by
  intro j u ys hu hy
  have h2 := h j u ys hu hy
  have e : rowF k xs.length j ys = rowF (k + 1) 0 j ys := by
    unfold rowF
    by_cases h1 : j < k
    · rw [if_pos h1, if_pos (by omega)]
    · rw [if_neg h1]
      by_cases h2 : j = k
      · subst h2
        rw [hx] at hy
        cases hy
        rw [if_pos rfl, if_pos (by omega), List.drop_of_length_le (Nat.le_refl _), List.append_nil]
      · rw [if_neg h2, if_neg (by omega)]
        by_cases h3 : j = k + 1
        · rw [if_pos h3]; rfl
        · rw [if_neg h3]
  rw [← e]
  exact h2

/-- The first k lists have marks appended, behind the world w1. -/
structure Grew (w1 wr : World) (B : Nat) (us : List Value) (xss : List (List ByteArray)) (k : Nat) (vs : List Value) (gv : Value) : Prop where
  len : vs.length = k
  size : w1.heap.size ≤ wr.heap.size
  same : ∀ b, b < w1.heap.size → (∀ (j : Nat) (u : Value), j < k → us[j]? = some u → u.ownBlock ≠ some b) → wr.heap[b]? = w1.heap[b]?
  old : ∀ (j : Nat) (u : Value) (xs : List ByteArray), j < k → us[j]? = some u → xss[j]? = some xs → TextsAt wr u (marksK j xs.length)
  new : ∀ (j : Nat) (v : Value) (xs : List ByteArray), vs[j]? = some v → xss[j]? = some xs → TextsAt wr v (marksK j (xs.length + 64))
  row : wr.ownsRow w1.heap.size 36 1 gv k vs
  gap : ∀ (j : Nat) (v : Value), vs[j]? = some v → v.ownBlock ≠ gv.ownBlock
  blk : ∀ (j : Nat) (v u : Value), vs[j]? = some v → us[j]? = some u → v.ownBlock = u.ownBlock ∨ ∃ b, w1.heap.size ≤ b ∧ v.ownBlock = some b
/-- Of the k-th list, i marks are appended, behind the world w. -/
structure Grows (w wr : World) (B k n i : Nat) (u v : Value) : Prop where
  size : w.heap.size ≤ wr.heap.size
  same : ∀ b, b < w.heap.size → u.ownBlock ≠ some b → wr.heap[b]? = w.heap[b]?
  old : TextsAt wr u (marksK k n)
  new : wr.ownsRow B 9 1 v (n + i) (strs (marksK k (n + i)))
  blk : v.ownBlock = u.ownBlock ∨ ∃ b, w.heap.size ≤ b ∧ v.ownBlock = some b
theorem Grows.below {w wr wr' : World} {B k n i : Nat} {u v : Value} (h : Grows w wr B k n i u v) (hu : ∀ b, u.ownBlock = some b → b < w.heap.size) (hb : Below wr.heap.size wr wr') : Grows w wr' B k n i u v :=
  ⟨Nat.le_trans h.size hb.size, fun b h1 h2 => (hb.block b (Nat.lt_of_lt_of_le h1 h.size)).trans (h.same b h1 h2), texts_same h.old (fun b h1 => hb.block b (Nat.lt_of_lt_of_le (hu b h1) h.size)), own_below h.new hb, h.blk⟩
theorem Grows.step {w wr wr' : World} {B k n i : Nat} {u v v' : Value} (h : Grows w wr B k n i u v) (hu : ∀ b, u.ownBlock = some b → b < w.heap.size) (hn : u.ownBlock = none → n = 0) (hv0 : ∃ a c, u = .slice a n c ∧ (a = none → c = 0) ∧ ∀ b, a = some b → ∃ g, b = ⟨g, 0, none⟩)
    (hown : wr'.ownsRow B 9 1 v' (n + i + 1) (strs (marksK k (n + i)) ++ [.string (markB k (n + i : Nat))])) (hg : v'.ownBlock = v.ownBlock ∧ wr.grownBy wr' v.ownBlock ∨ (∃ b, wr.heap.size ≤ b ∧ v'.ownBlock = some b) ∧ wr.grownBy wr' none) :
    Grows w wr' B k n (i + 1) u v' := by
  have e : strs (marksK k (n + i)) ++ [.string (markB k (n + i : Nat))] = strs (marksK k (n + (i + 1))) := by
    rw [← Nat.add_assoc, marksK_succ, strs_append]; rfl
  rw [e] at hown
  have hsz : wr.heap.size ≤ wr'.heap.size := by rcases hg with ⟨_, h1⟩ | ⟨_, h1⟩ <;> exact h1.size
  refine ⟨Nat.le_trans h.size hsz, fun b h1 h2 => ?_, ?_, hown, ?_⟩
  · rcases hg with ⟨_, hg⟩ | ⟨_, hg⟩
    · refine (hg.block b (Nat.lt_of_lt_of_le h1 h.size) ?_).trans (h.same b h1 h2)
      rcases h.blk with h3 | ⟨b3, h3, h4⟩
      · rw [h3]; exact fun e => h2 e.symm
      · rw [h4]; intro e; cases e; omega
    · exact (hg.block b (Nat.lt_of_lt_of_le h1 h.size) (fun e => nomatch e)).trans (h.same b h1 h2)
  · rcases hg with ⟨hv, hg⟩ | ⟨_, hg⟩
    · rcases h.blk with h3 | ⟨b3, h3, h4⟩
      · obtain ⟨a, c, rfl, ha, hb⟩ := hv0
        refine ⟨a, c, by rw [marksK_length], ha, fun j x hx => ?_⟩
        have hjn : j < n := by have := (List.getElem?_eq_some_iff.1 hx).1; rwa [marksK_length] at this
        cases a with
        | none => exact absurd (hn rfl) (by omega)
        | some ad =>
          obtain ⟨g, rfl⟩ := hb ad rfl
          refine ⟨g, 0, rfl, ?_⟩
          have hvb : v'.ownBlock = some g := by rw [hv, h3]; rfl
          have hc := hown.cells hvb j (.string x) (by
            unfold strs
            rw [List.getElem?_map, marksK_get _ _ _ (by omega)]
            rw [marksK_get _ _ _ hjn] at hx
            rw [Option.some.inj hx]; rfl)
          rw [Addr.add_mid] at hc
          exact hc
      · refine texts_same h.old (fun b hb => hg.block b (Nat.lt_of_lt_of_le (hu b hb) h.size) ?_)
        rw [h4]; intro e; cases e; have := hu _ hb; omega
    · exact texts_same h.old (fun b hb => hg.block b (Nat.lt_of_lt_of_le (hu b hb) h.size) (fun e => nomatch e))
  · rcases hg with ⟨hv, _⟩ | ⟨⟨b, h1, h2⟩, _⟩
    · rw [hv]; exact h.blk
    · exact .inr ⟨b, Nat.le_trans h.size h1, h2⟩
/-- The k-th list is done: the next. -/
theorem Grew.step {w1 wr wr' wr2 : World} {B g k n : Nat} {us vs : List Value} {xss : List (List ByteArray)} {gv gv' u v : Value} {xs : List ByteArray} (h : Grew w1 wr B us xss k vs gv) (hA : Handed g us) (hu : us[k]? = some u) (hx : xss[k]? = some xs) (hn : n = xs.length)
    (hlt : ∀ (j : Nat) (u : Value), us[j]? = some u → ∀ b, u.ownBlock = some b → b < w1.heap.size)
    (hG : Grows wr wr' B k n 64 u v)
    (hown : wr2.ownsRow w1.heap.size 36 1 gv' (k + 1) (vs ++ [v])) (hg : gv'.ownBlock = gv.ownBlock ∧ wr'.grownBy wr2 gv.ownBlock ∨ (∃ b, wr'.heap.size ≤ b ∧ gv'.ownBlock = some b) ∧ wr'.grownBy wr2 none) :
    Grew w1 wr2 B us xss (k + 1) (vs ++ [v]) gv' := by
  subst hn
  have hul := hlt k u hu
  have hsz : wr'.heap.size ≤ wr2.heap.size := by rcases hg with ⟨_, h1⟩ | ⟨_, h1⟩ <;> exact h1.size
  have hvs : v.ownBlock ≠ none := by
    intro e
    rcases hG.new.2 with ⟨_, h0⟩ | ⟨g', cap, cur, rfl, _⟩
    · omega
    · cases e
  have hgv : ∀ b, gv.ownBlock = some b → w1.heap.size ≤ b ∧ b < wr.heap.size := fun b hb => h.row.lt b hb
  have hvg : v.ownBlock ≠ gv.ownBlock := by
    rcases hG.blk with h1 | ⟨b, h1, h2⟩
    · intro e
      cases hb : v.ownBlock with
      | none => exact hvs hb
      | some b =>
        have := hul b (by rw [← h1]; exact hb)
        have := hgv b (by rw [← e]; exact hb)
        omega
    · intro e
      have := hgv b (by rw [← e]; exact h2)
      omega
  -- what the last append leaves as it was
  have hk : ∀ b, b < wr'.heap.size → gv.ownBlock ≠ some b → wr2.heap[b]? = wr'.heap[b]? := by
    intro b h1 h2
    rcases hg with ⟨_, hg⟩ | ⟨_, hg⟩
    · exact hg.block b h1 (fun e => h2 e.symm)
    · exact hg.block b h1 (fun e => nomatch e)
  have hvlt : ∀ b, v.ownBlock = some b → b < wr'.heap.size := fun b hb => (hG.new.lt b hb).2
  have hvsl : ∀ (j : Nat) (v0 : Value), vs[j]? = some v0 → ∀ b, v0.ownBlock = some b → b < wr.heap.size ∧ u.ownBlock ≠ some b := by
    intro j v0 hv0 b hb
    have hjk : j < k := by have := (List.getElem?_eq_some_iff.1 hv0).1; rw [h.len] at this; exact this
    obtain ⟨uj, huj⟩ : ∃ uj, us[j]? = some uj := ⟨_, List.getElem?_eq_getElem (by have := (List.getElem?_eq_some_iff.1 hu).1; omega)⟩
    obtain ⟨xj, hxj⟩ : ∃ xj, xss[j]? = some xj := ⟨_, List.getElem?_eq_getElem (by have := (List.getElem?_eq_some_iff.1 hx).1; omega)⟩
    have hT := h.new j v0 xj hv0 hxj
    obtain ⟨a, c, rfl, _, hc⟩ := hT
    obtain ⟨b0, o0, rfl, hcell⟩ := hc 0 _ (marksK_get j _ 0 (by omega))
    have e : b0 = b := by cases hb; rfl
    subst e
    refine ⟨World.block_lt_of_cell? wr _ hcell, ?_⟩
    rcases h.blk j _ uj hv0 huj with h1 | ⟨b1, h1, h2⟩
    · intro e
      rcases hA.apart j k uj u huj hu (by omega) with h5 | h5
      · rw [← h1] at h5; cases h5
      · exact h5 (by rw [← h1, hb, e])
    · intro e
      have := hul _ e
      rw [hb] at h2
      cases h2
      omega
  refine ⟨by rw [List.length_append, h.len]; rfl, Nat.le_trans h.size (Nat.le_trans hG.size hsz), fun b h1 h2 => ?_, fun j u' xs' h1 h2 h3 => ?_, fun j v' xs' h1 h2 => ?_, hown, fun j v' h1 => ?_, fun j v' u' h1 h2 => ?_⟩
  · have hb1 : b < wr.heap.size := Nat.lt_of_lt_of_le h1 h.size
    rw [hk b (Nat.lt_of_lt_of_le hb1 hG.size) (fun e => by have := (hgv b e).1; omega), hG.same b hb1 (h2 k u (by omega) hu)]
    exact h.same b h1 (fun j u' h3 h4 => h2 j u' (by omega) h4)
  · by_cases hj : j = k
    · subst hj
      rw [hu] at h2
      rw [hx] at h3
      cases h2
      cases h3
      exact texts_same hG.old (fun b hb => hk b (Nat.lt_of_lt_of_le (Nat.lt_of_lt_of_le (hul b hb) h.size) hG.size) (fun e => by have := (hgv b e).1; have := hul b hb; omega))
    · have hl := hlt j u' h2
      refine texts_same (h.old j u' xs' (by omega) h2 h3) (fun b hb => ?_)
      have hb1 : b < wr.heap.size := Nat.lt_of_lt_of_le (hl b hb) h.size
      rw [hk b (Nat.lt_of_lt_of_le hb1 hG.size) (fun e => by have := (hgv b e).1; have := hl b hb; omega)]
      refine hG.same b hb1 (fun e => ?_)
      rcases hA.apart j k u' u h2 hu hj with h5 | h5
      · rw [hb] at h5; cases h5
      · exact h5 (hb.trans e.symm)
  · by_cases hj : j < vs.length
    · rw [List.getElem?_append_left hj] at h1
      refine texts_same (h.new j v' xs' h1 h2) (fun b hb => ?_)
      obtain ⟨h5, h6⟩ := hvsl j v' h1 b hb
      rw [hk b (Nat.lt_of_lt_of_le h5 hG.size) (fun e => h.gap j v' h1 (by rw [hb, e]))]
      exact hG.same b h5 h6
    · have hjk : j = k := by
        have := (List.getElem?_eq_some_iff.1 h1).1
        rw [List.length_append, List.length_singleton] at this
        have := h.len
        omega
      subst hjk
      rw [List.getElem?_append_right (by omega), show j - vs.length = 0 by have := h.len; omega] at h1
      rw [hx] at h2
      cases h1
      cases h2
      have hT : TextsAt wr' v (marksK j (xs.length + 64)) := TextsAt.own (B := B) (by rw [marksK_length]; exact hG.new)
      exact texts_same hT (fun b hb => hk b (hvlt b hb) (fun e => hvg (by rw [hb, e])))
  · have hg2 : ∀ b, gv'.ownBlock = some b → gv.ownBlock = some b ∨ wr'.heap.size ≤ b := by
      intro b hb
      rcases hg with ⟨h5, _⟩ | ⟨⟨b5, h5, h6⟩, _⟩
      · exact .inl (by rw [← h5]; exact hb)
      · rw [hb] at h6; cases h6; exact .inr h5
    intro e
    by_cases hj : j < vs.length
    · rw [List.getElem?_append_left hj] at h1
      cases hb : v'.ownBlock with
      | none =>
        obtain ⟨xj, hxj⟩ : ∃ xj, xss[j]? = some xj := ⟨_, List.getElem?_eq_getElem (by have := (List.getElem?_eq_some_iff.1 hx).1; have := h.len; omega)⟩
        obtain ⟨a, c, rfl, _, hc⟩ := h.new j v' xj h1 hxj
        obtain ⟨b0, o0, rfl, _⟩ := hc 0 _ (marksK_get j _ 0 (by omega))
        cases hb
      | some b =>
        rcases hg2 b (by rw [← e]; exact hb) with h5 | h5
        · exact h.gap j v' h1 (by rw [hb, h5])
        · have := (hvsl j v' h1 b hb).1
          have := hG.size
          omega
    · rw [List.getElem?_append_right (by omega)] at h1
      have hv' : v' = v := by
        cases hd : j - vs.length with
        | zero => rw [hd] at h1; cases h1; rfl
        | succ m => rw [hd] at h1; cases h1
      subst hv'
      cases hb : v'.ownBlock with
      | none => exact hvs hb
      | some b =>
        rcases hg2 b (by rw [← e]; exact hb) with h5 | h5
        · exact hvg (by rw [hb, h5])
        · have := hvlt b hb
          omega
  · by_cases hj : j < vs.length
    · rw [List.getElem?_append_left hj] at h1
      exact h.blk j v' u' h1 h2
    · have hjk : j = k := by
        have := (List.getElem?_eq_some_iff.1 h1).1
        rw [List.length_append, List.length_singleton] at this
        have := h.len
        omega
      subst hjk
      rw [List.getElem?_append_right (by omega), show j - vs.length = 0 by have := h.len; omega] at h1
      rw [hu] at h2
      cases h1
      cases h2
      rcases hG.blk with h5 | ⟨b, h5, h6⟩
      · exact .inl h5
      · exact .inr ⟨b, Nat.le_trans h.size h5, h6⟩
end Go.Proofs.YtjmekcakiacdfabGreatDoor.Tx

namespace Go.Proofs.YtjmekcakiacdfabGreatDoor.Tx
open Go Go.RowKit

theorem sl_info : (Tryz.prog.info? 36).map (fun i => (i.zero, i.size, i.bytes)) = some (some (.slice none 0 0), 1, 24) := by kernel_rfl
theorem own_shape {w : World} {B e n : Nat} {u : Value} {xs : List Value} (h : w.ownsRow B e 1 u n xs) : ∃ a c, u = .slice a n c ∧ (a = none → c = 0 ∧ n = 0) ∧ (∀ b, a = some b → ∃ g, b = ⟨g, 0, none⟩) ∧ c ≤ maxLen := by
  rcases h.2 with ⟨rfl, rfl⟩ | ⟨g, cap, cur, rfl, _, _, _, hc, _⟩
  · exact ⟨none, 0, rfl, fun _ => ⟨rfl, rfl⟩, (fun b hb => nomatch hb), Nat.zero_le _⟩
  · exact ⟨_, _, rfl, (fun e => nomatch e), fun b hb => by cases hb; exact ⟨g, rfl⟩, hc⟩
theorem own_frozen {w : World} {B e n g c : Nat} {xs : List Value} (h : w.ownsRow B e 1 (.slice (some ⟨g, 0, none⟩) n c) n xs) (i : Nat) : w.frozen? ⟨g, i, none⟩ = false := by
  rcases h.2 with ⟨hv, _⟩ | ⟨g', cap, cur, hv, _, hg, _⟩
  · cases hv
  · cases hv; exact Lies.frozen hg i
theorem own_base {w : World} {B B' e n : Nat} {u : Value} {xs : List Value} (h : w.ownsRow B' e 1 u n xs) (hb : B ≤ B') : w.ownsRow B e 1 u n xs := by
  refine ⟨h.1, ?_⟩
  rcases h.2 with h1 | ⟨g, cap, cur, h1, h2, h3⟩
  · exact .inl h1
  · exact .inr ⟨g, cap, cur, h1, Nat.le_trans hb h2, h3⟩
theorem grown_below {w w' : World} {B e n : Nat} {v v' : Value} {xs : List Value} (hg : v'.ownBlock = v.ownBlock ∧ w.grownBy w' v.ownBlock ∨ (∃ b, w.heap.size ≤ b ∧ v'.ownBlock = some b) ∧ w.grownBy w' none) (h : w.ownsRow B e 1 v n xs) (hB : B ≤ w.heap.size) : Below B w w' := by
  rcases hg with ⟨_, hg⟩ | ⟨_, hg⟩
  · exact ⟨hg.os, hg.tape, hg.output, hg.size, fun k hk => hg.block k (by omega) (fun e => by have := (h.lt k e.symm).1; omega)⟩
  · exact ⟨hg.os, hg.tape, hg.output, hg.size, fun k hk => hg.block k (by omega) (fun e => nomatch e)⟩
theorem Rws.start {w : World} {B : Nat} {us : List Value} {xss : List (List ByteArray)} (h : ∀ (j : Nat) (u : Value) (xs : List ByteArray), us[j]? = some u → xss[j]? = some xs → w.ownsRow B 9 1 u xs.length (strs xs)) : Rws w B us xss 0 0 := by
  intro j u xs h1 h2
  have e : rowF 0 0 j xs = xs := by
    unfold rowF
    rw [if_neg (by omega)]
    by_cases h : j = 0
    · rw [if_pos h]; rfl
    · rw [if_neg h]
  rw [e]; exact h j u xs h1 h2
theorem Rws.done {w : World} {B n : Nat} {us : List Value} {xss : List (List ByteArray)} (h : Rws w B us xss n 0) (hn : n = us.length) (j : Nat) (u : Value) (xs : List ByteArray) (h1 : us[j]? = some u) (h2 : xss[j]? = some xs) : w.ownsRow B 9 1 u xs.length (strs (marksK j xs.length)) := by
  have h3 := h j u xs h1 h2
  have hj := (List.getElem?_eq_some_iff.1 h1).1
  unfold rowF at h3
  rw [if_pos (by omega)] at h3
  exact h3

set_option maxRecDepth 100000 in
set_option maxHeartbeats 8000000 in
theorem apart_p (B g c : Nat) (us : List Value) (xss : List (List ByteArray)) (w : World) (hl : us.length = xss.length) (hm : us.length ≤ 1000) (hB : B ≤ w.heap.size) (hL : Lies w g 36 us.toArray)
    (hA : Handed g us) (hR : Rws w B us xss 0 0) (hz : ∀ xs ∈ xss, xs.length ≤ 1099511627776) :
    Calls Tryz.prog 28 #[.slice (some ⟨g, 0, none⟩) us.length c] w fun e w' => e = .returned (.bool true) ∧ Below B w w' := by
  obtain ⟨i0, hi, z0, z1, z2⟩ := info_parts str_info
  obtain ⟨j0, hj, y0, y1, y2⟩ := info_parts sl_info
  have HL0 : Hid _ := hL
  have HR0 : Hid _ := hR
  have HA : Hid _ := hA
  have HZ : Hid _ := hz
  have HLL : Hid _ := hl
  clear hL hR hA hz hl
  go_enter Tryz.func28, Tryz.ntmps28
  go_wp2
  go_loopw [3] (fun n wr => ∃ k : Nat, k ≤ us.length ∧ n = .int .i64 k ∧ Hid (Lies wr g 36 us.toArray) ∧ Hid (Rws wr B us xss k 0) ∧ Below B w wr) (fun n _ => us.length - (intOf n).toNat)
  case atStart => exact ⟨0, Nat.zero_le _, rfl, HL0, HR0, Below.refl _ _⟩
  case round =>
    clear HL0 HR0
    obtain ⟨k, hk, rfl, HL, HR, hB1⟩ := hrel
    by_cases hlt : k < us.length
    · obtain ⟨u, hu⟩ : ∃ u, us[k]? = some u := ⟨_, List.getElem?_eq_getElem hlt⟩
      obtain ⟨xs, hx⟩ : ∃ xs, xss[k]? = some xs := ⟨_, List.getElem?_eq_getElem (by rw [← HLL.out]; exact hlt)⟩
      have hzx := HZ.out xs (List.mem_of_getElem? hx)
      obtain ⟨a, cu, rfl, hac, hab, _⟩ := own_shape (HR.out k u xs hu hx)
      have hcell := HL.out.cell (i := k) (by simpa using hu)
      have HU : Hid _ := hu
      have HX : Hid _ := hx
      clear hu hx
      have d1 : (0 : Int) ≤ (k : Int) := by omega
      have d2 : (k : Int) < (us.length : Int) := by omega
      go_wp2
      go_loopw [4] (fun n wr2 => ∃ i : Nat, i ≤ xs.length ∧ n = .int .i64 i ∧ Hid (Lies wr2 g 36 us.toArray) ∧ Hid (Rws wr2 B us xss k i) ∧ Below B w wr2) (fun n _ => xs.length - (intOf n).toNat)
      case atStart => exact ⟨0, Nat.zero_le _, rfl, HL, HR, hB1⟩
      case round =>
        clear HL HR hB1 hcell
        obtain ⟨i, hi2, rfl, HL, HR, hB1⟩ := hrel
        have hcell := HL.out.cell (i := k) (by simpa using HU.out)
        by_cases hin : i < xs.length
        · cases a with
          | none => exact absurd (hac rfl).2 (by omega)
          | some ad =>
            obtain ⟨gk, rfl⟩ := hab ad rfl
            have e1 : (0 : Int) ≤ (i : Int) := by omega
            have e2 : (i : Int) < (xs.length : Int) := by omega
            have hM := marks_p (k : Int) (i : Int) wr.drew
            have hrow := HR.out k _ xs HU.out HX.out
            obtain ⟨y, hy⟩ : ∃ y, (strs (rowF k i k xs))[i]? = some y := ⟨_, List.getElem?_eq_getElem (by rw [hrow.1]; omega)⟩
            have HF : Hid (∀ w2, Below wr.drew.heap.size wr.drew w2 → w2.cell? ⟨g, k, none⟩ = some (.slice (some ⟨gk, 0, none⟩) xs.length cu) ∧ w2.cell? ⟨gk, i, none⟩ = some y ∧ w2.frozen? ⟨gk, i, none⟩ = false) := by
              intro w2 b2
              have b3 : Below wr.heap.size wr w2 := (below_drawn (Below.refl _ wr) 1).trans b2
              have r2 := own_below hrow b3
              exact ⟨(HL.out.below b3).cell (i := k) (by simpa using HU.out), row_cell r2 i y hy, own_frozen r2 i⟩
            have hBg := (hrow.lt gk rfl).1
            have hne : gk ≠ g := fun e => HA.out.gap k _ HU.out (by rw [e]; rfl)
            clear hrow hy
            go_wp2
            go_region_with (first | (go_at_call 41; refine hM.mono ?_; rintro e w2 ⟨rfl, b2⟩; obtain ⟨k0, k1, k2⟩ := HF.out w2 b2))
            all_goals go_wp2
            all_goals
              have b3 : Below wr.heap.size wr w2 := (below_drawn (Below.refl _ wr) 1).trans b2
              have hs1 := hB1.size
              exact ⟨⟨i + 1, by omega, by go_num, (HL.out.below b3).other _ hne, (HR.out.below b3).set HA.out HU.out HX.out hin, (hB1.trans (b3.mono (by omega))).setCell (p := ⟨gk, i, none⟩) hBg _⟩, by simp [intOf]; omega⟩
        · obtain rfl : i = xs.length := by omega
          have HR2 : Hid (Rws wr B us xss (k + 1) 0) := HR.out.next HX.out
          go_wp2
          exact ⟨⟨k + 1, by omega, by go_num, HL, HR2, hB1⟩, by simp [intOf]; omega⟩
    · obtain rfl : k = us.length := by omega
      have HD : Hid (∀ (j : Nat) (u : Value) (xs : List ByteArray), us[j]? = some u → xss[j]? = some xs → wr.ownsRow B 9 1 u xs.length (strs (marksK j xs.length))) := fun j u xs h1 h2 => HR.out.done rfl j u xs h1 h2
      clear HR
      go_wp2
      obtain ⟨w1, hw1⟩ : ∃ w1, w1 = wr := ⟨_, rfl⟩
      subst hw1
      have hBw : B ≤ w1.heap.size := by have := hB1.size; omega
      go_loopw [5, 6] (fun gv n wr2 => ∃ (k : Nat) (vs : List Value), k ≤ us.length ∧ n = .int .i64 k ∧ Hid (Grew w1 wr2 B us xss k vs gv) ∧ Below B w wr2) (fun _ n _ => us.length - (intOf n).toNat)
      case atStart => exact ⟨0, [], Nat.zero_le _, rfl, ⟨rfl, Nat.le_refl _, fun _ _ _ => rfl, fun j _ _ h => absurd h (Nat.not_lt_zero j), fun j v xs h => by simp at h, World.ownsRow_nil _ _ _ _, fun j v h => by simp at h, fun j v u h => by simp at h⟩, hB1⟩
      case round =>
        obtain ⟨k, vs, hk, rfl, HG, hB2⟩ := hrel
        by_cases hlt : k < us.length
        · obtain ⟨u, hu⟩ : ∃ u, us[k]? = some u := ⟨_, List.getElem?_eq_getElem hlt⟩
          obtain ⟨xs, hx⟩ : ∃ xs, xss[k]? = some xs := ⟨_, List.getElem?_eq_getElem (by rw [← HLL.out]; exact hlt)⟩
          have hzx := HZ.out xs (List.mem_of_getElem? hx)
          have hul : ∀ b, u.ownBlock = some b → b < w1.heap.size := fun b hb => ((HD.out k u xs hu hx).lt b hb).2
          have hown2 : wr.ownsRow B 9 1 u xs.length (strs (marksK k xs.length)) := own_same (HD.out k u xs hu hx) (fun b hb => HG.out.same b (hul b hb) (fun j u' hj hu' e => by
            rcases HA.out.apart j k u' u hu' hu (by omega) with h | h
            · rw [e] at h; cases h
            · exact h (e.trans hb.symm)))
          have hgl : Lies wr g 36 us.toArray := (HG.out.same g HL.out.lt (fun j u' _ hu' => HA.out.gap j u' hu')).trans HL.out
          have hcell := hgl.cell (i := k) (by simpa using hu)
          have hsz2 := HG.out.size
          have HUL : Hid (∀ b, u.ownBlock = some b → b < wr.heap.size) := fun b hb => Nat.lt_of_lt_of_le (hul b hb) hsz2
          have HUL1 : Hid (∀ b, u.ownBlock = some b → b < w1.heap.size) := hul
          have HUG : Hid (u.ownBlock ≠ some g) := HA.out.gap k u hu
          have HGL : Hid (Lies wr g 36 us.toArray) := hgl
          have HU : Hid _ := hu
          have HX : Hid _ := hx
          obtain ⟨a, cu, rfl, hac, hab, _⟩ := own_shape hown2
          clear hu hx hul hgl
          have d1 : (0 : Int) ≤ (k : Int) := by omega
          have d2 : (k : Int) < (us.length : Int) := by omega
          go_wp2
          obtain ⟨w2, hw2⟩ : ∃ w2, w2 = wr := ⟨_, rfl⟩
          subst hw2
          go_loopw [7, 8] (fun v n wr3 => ∃ i : Nat, i ≤ 64 ∧ n = .int .i64 i ∧ Hid (Grows w2 wr3 B k xs.length i (.slice a xs.length cu) v) ∧ Below B w wr3) (fun _ n _ => 64 - (intOf n).toNat)
          case atStart => exact ⟨0, by omega, rfl, ⟨Nat.le_refl _, fun _ _ _ => rfl, TextsAt.own (B := B) (by rw [marksK_length]; exact hown2), hown2, .inl rfl⟩, hB2⟩
          case round =>
            clear hcell
            obtain ⟨i, hi2, rfl, HS, hB3⟩ := hrel
            have hcell : wr.cell? ⟨g, k, none⟩ = some (.slice a xs.length cu) := Lies.cell (t := 36) (cur := us.toArray) ((HS.out.same g HGL.out.lt HUG.out).trans HGL.out) (by simpa using HU.out)
            by_cases hin : i < 64
            · have e1 : (0 : Int) ≤ (i : Int) := by omega
              have e2 : (i : Int) < 64 := by omega
              go_wp2_with fail
              refine (marks_p _ _ wr).mono ?_
              rintro e w3 ⟨rfl, b3⟩
              have hB4 : Below B w w3 := hB3.trans (b3.mono (by have := hB3.size; omega))
              have hs4 := hB4.size
              have HS3 := HS.out.below HUL.out b3
              obtain ⟨x, hxm⟩ : ∃ x, x = markB (k : Int) ((xs.length : Int) + (i : Int)) := ⟨_, rfl⟩
              rw [← hxm]
              have HXM : Hid (x = markB (k : Int) ((xs.length + i : Nat) : Int)) := by unfold Hid; rw [hxm]; simp
              have HS4 : Hid (Grows w2 (w3.alloc (.cells #[.string x] 9)) B k xs.length i (.slice a xs.length cu) u7) := HS3.below HUL.out ((Below.refl _ w3).alloc (Nat.le_refl _) _)
              clear hxm HS3 HS
              go_wp2_with (at_builtin; refine wpList_append_keep _ rfl _ _ 36 rfl B 9 i0 (.string ⟨#[]⟩) 16 Tryz.underlying36 hi z0 z1 z2 rfl _ _ _ rfl HS4.out.new ⟨w3.heap.size, 0, none⟩ 1 (.string x) rfl (cell_one_new _ _ _) rfl ?c3 ?c4 ?c5 ?_)
              case c3 => unfold maxLen; omega
              case c4 => omega
              case c5 => simp; omega
              intro v' w4 hown' hg
              rw [show w3.heap.size + 1 = (w3.alloc (.cells #[.string x] 9)).heap.size from (World.size_alloc _ _).symm] at hg
              have hgs := grown_below hg HS4.out.new (by simp; omega)
              have HS5 : Hid (Grows w2 w4 B k xs.length (i + 1) (.slice a xs.length cu) v') := HS4.out.step HUL.out (fun e => by cases a with | none => exact (hac rfl).2 | some _ => cases e) ⟨a, cu, rfl, fun e => (hac e).1, hab⟩ (by rw [← HXM.out]; exact hown') hg
              clear hown' hg HS4
              go_wp2
              exact ⟨⟨i + 1, by omega, by go_num, HS5, (hB4.alloc (by omega) _).trans hgs⟩, by simp [intOf]; omega⟩
            · obtain rfl : i = 64 := by omega
              obtain ⟨av, cv, rfl, _⟩ := own_shape HS.out.new
              have hgo : wr.ownsRow w1.heap.size 36 1 u5 k vs := own_same HG.out.row (fun b hb => HS.out.same b (HG.out.row.lt b hb).2 (fun e => by have h1 := (HG.out.row.lt b hb).1; have h2 := HUL1.out b e; omega))
              go_wp2_with (at_builtin; refine wpList_append_keep _ rfl _ _ 53 rfl w1.heap.size 36 j0 (.slice none 0 0) 24 Tryz.underlying53 hj y0 y1 y2 rfl _ _ _ rfl (hgo.alloc _) ⟨wr.heap.size, 0, none⟩ 1 (.slice av (xs.length + 64) cv) rfl (cell_one_new _ _ _) rfl ?c3 ?c4 ?c5 ?_)
              case c3 => unfold maxLen; omega
              case c4 => omega
              case c5 => have := HG.out.size; have := HS.out.size; simp; omega
              intro gv' w4 hown' hg
              rw [show wr.heap.size + 1 = (wr.alloc (.cells #[.slice av (xs.length + 64) cv] 36)).heap.size from (World.size_alloc _ _).symm] at hg
              have hs3 := hB3.size
              have hgs := grown_below hg ((own_base hgo hBw).alloc _) (by simp; omega)
              have HS5 : Hid (Grew w1 w4 B us xss (k + 1) (vs ++ [.slice av (xs.length + 64) cv]) gv') := HG.out.step HA.out HU.out HX.out rfl (fun j u hu b hb => by
                obtain ⟨xj, hxj⟩ : ∃ xj, xss[j]? = some xj := ⟨_, List.getElem?_eq_getElem (by rw [← HLL.out]; exact (List.getElem?_eq_some_iff.1 hu).1)⟩
                exact ((HD.out j u xj hu hxj).lt b hb).2) (HS.out.below HUL.out ((Below.refl _ wr).alloc (Nat.le_refl _) _)) hown' hg
              clear hown' hg hgo
              go_wp2
              exact ⟨⟨k + 1, _, by omega, by go_num, HS5, (hB3.alloc (by omega) _).trans hgs⟩, by simp [intOf]; omega⟩
        · obtain rfl : k = us.length := by omega
          obtain ⟨w2, hw2⟩ : ∃ w2, w2 = wr := ⟨_, rfl⟩
          subst hw2
          have hsz2 := HG.out.size
          have HGL : Hid (Lies w2 g 36 us.toArray) := (HG.out.same g HL.out.lt (fun j u' _ hu' => HA.out.gap j u' hu')).trans HL.out
          go_wp2
          go_loopw [9] (fun n wr => ∃ k : Nat, k ≤ us.length ∧ n = .int .i64 k ∧ Below w2.heap.size w2 wr) (fun n _ => us.length - (intOf n).toNat)
          case atStart => exact ⟨0, Nat.zero_le _, rfl, Below.refl _ _⟩
          case round =>
            obtain ⟨k, hk, rfl, hb⟩ := hrel
            by_cases hlt : k < us.length
            · obtain ⟨u, hu⟩ : ∃ u, us[k]? = some u := ⟨_, List.getElem?_eq_getElem hlt⟩
              obtain ⟨v, hv⟩ : ∃ v, vs[k]? = some v := ⟨_, List.getElem?_eq_getElem (by rw [HG.out.len]; exact hlt)⟩
              obtain ⟨xs, hx⟩ : ∃ xs, xss[k]? = some xs := ⟨_, List.getElem?_eq_getElem (by rw [← HLL.out]; exact hlt)⟩
              have hzx := HZ.out xs (List.mem_of_getElem? hx)
              obtain ⟨a, ca, hua, _, ha2⟩ := HG.out.old k u xs hlt hu hx
              obtain ⟨av, cv, hva, _, hv2⟩ := HG.out.new k v xs hv hx
              rw [marksK_length] at hua hva
              subst hua
              subst hva
              have HUA : Hid _ := ha2
              have HVA : Hid _ := hv2
              have hrow := HG.out.row
              rcases hrow.2 with ⟨_, h0⟩ | ⟨gg, cg, cur, hgv, _, _, _, hcg, _⟩
              · omega
              subst hgv
              have HC : Hid (∀ wr, Below w2.heap.size w2 wr → wr.cell? ⟨g, k, none⟩ = some (.slice a xs.length ca) ∧ wr.cell? ⟨gg, k, none⟩ = some (.slice av (xs.length + 64) cv)) := fun wr hb => ⟨(HGL.out.below hb).cell (by simpa using hu), row_cell (own_below hrow hb) k _ hv⟩
              obtain ⟨q1, q2⟩ := HC.out wr hb
              unfold maxLen at hcg
              clear hrow hu hv hx ha2 hv2
              have d1 : (0 : Int) ≤ (k : Int) := by omega
              have d2 : (k : Int) < (us.length : Int) := by omega
              go_wp2
              go_loopw [10] (fun n wr => ∃ i : Nat, i ≤ xs.length + 64 ∧ n = .int .i64 i ∧ Below w2.heap.size w2 wr) (fun n _ => xs.length + 64 - (intOf n).toNat)
              case atStart => exact ⟨0, Nat.zero_le _, rfl, hb⟩
              case round =>
                clear q1 q2 hb
                obtain ⟨i, hi2, rfl, hb⟩ := hrel
                obtain ⟨q1, q2⟩ := HC.out wr hb
                by_cases hin : i < xs.length + 64
                · obtain ⟨bv, ov, rfl, hcv⟩ := HVA.out i _ (marksK_get k (xs.length + 64) i hin)
                  have e1 : (0 : Int) ≤ (i : Int) := by omega
                  have e2 : (i : Int) < (xs.length : Int) + 64 := by omega
                  have dxx : ((markB (k : Int) (i : Int)).toList == (markB (k : Int) (i : Int)).toList) = true := by simp
                  go_wp2_with fail
                  refine (marks_p _ _ wr).mono ?_
                  rintro e w3 ⟨rfl, b3⟩
                  have hb3 := below_join hb b3
                  obtain ⟨p1, p2⟩ := HC.out w3 hb3
                  have hcv3 := (hb3.cell (p := ⟨bv, ov + i, none⟩) (World.block_lt_of_cell? w2 _ hcv)).trans hcv
                  clear q1 q2 hb b3 hcv
                  by_cases hin2 : i < xs.length
                  · obtain ⟨bu, ou, rfl, hcu⟩ := HUA.out i _ (marksK_get k xs.length i hin2)
                    have hcu3 := (hb3.cell (p := ⟨bu, ou + i, none⟩) (World.block_lt_of_cell? w2 _ hcu)).trans hcu
                    have e3 : (i : Int) < (xs.length : Int) := by omega
                    clear hcu
                    generalize markB (k : Int) (i : Int) = x at *
                    go_wp2
                    exact ⟨⟨i + 1, by omega, by go_num, hb3⟩, by simp [intOf]; omega⟩
                  · have e3 : ¬ (i : Int) < (xs.length : Int) := by omega
                    generalize markB (k : Int) (i : Int) = x at *
                    go_wp2
                    exact ⟨⟨i + 1, by omega, by go_num, hb3⟩, by simp [intOf]; omega⟩
                · obtain rfl : i = xs.length + 64 := by omega
                  go_wp2
                  exact ⟨⟨k + 1, by omega, by go_num, hb⟩, by simp [intOf]; omega⟩
            · obtain rfl : k = us.length := by omega
              go_wp2
              go_ret
              exact ⟨rfl, hB2.trans (hb.mono (by have := hB2.size; omega))⟩
end Go.Proofs.YtjmekcakiacdfabGreatDoor.Tx

namespace Go.Proofs.YtjmekcakiacdfabGreatDoor.Tx
open Go Go.RowKit
set_option maxHeartbeats 2000000 in
theorem same_p (l m : List ByteArray) (u v : Value) (w : World) (h1 : TextsAt w u l) (h2 : TextsAt w v m) (hz : l.length ≤ 1099511627776) (he : l = m) : Calls Tryz.prog 27 #[u, v] w fun e w' => e = .returned (.bool true) ∧ Below w.heap.size w w' := by
  subst he
  obtain ⟨a, c, rfl, _, hc⟩ := h1
  obtain ⟨a2, c2, rfl, _, hc2⟩ := h2
  have HC : Hid _ := hc
  have HC2 : Hid _ := hc2
  clear hc hc2
  go_enter Tryz.func27, Tryz.ntmps27
  go_wp2
  go_loopw [5] (fun n wr => ∃ (k d : Nat), k ≤ l.length ∧ n = .int .i64 k ∧ wr = w.drewN d) (fun n _ => l.length - (intOf n).toNat)
  case atStart => exact ⟨0, 0, Nat.zero_le _, rfl, rfl⟩
  case round =>
    obtain ⟨k, d, hk, rfl, rfl⟩ := hrel
    by_cases hlt : k < l.length
    · obtain ⟨x, hx⟩ : ∃ x, l[k]? = some x := ⟨_, List.getElem?_eq_getElem hlt⟩
      obtain ⟨b, o, rfl, hcell⟩ := HC.out k x hx
      obtain ⟨b2, o2, rfl, hcell2⟩ := HC2.out k x hx
      have d1 : (0 : Int) ≤ (k : Int) := by omega
      have d2 : (k : Int) < (l.length : Int) := by omega
      have d3 : (x.toList == x.toList) = true := by simp
      go_wp2
      go_region
      go_wp2
      go_roundw
      case rel => exact ⟨k + 1, d + 1, by omega, by go_num, rfl⟩
      case measure => simp [intOf]; omega
    · obtain rfl : k = l.length := by omega
      go_wp2
      go_ret
      exact ⟨rfl, below_drawn (Below.refl _ _) d⟩

end Go.Proofs.YtjmekcakiacdfabGreatDoor.Tx

namespace Go.Proofs.YtjmekcakiacdfabGreatDoor
open Go Go.RowKit

theorem handed2 {g m : Nat} {u1 u2 : Value} (h1 : ∀ b, u1.ownBlock = some b → b < m) (h2 : ∀ b, u2.ownBlock = some b → m ≤ b ∧ b < g) (hm : m ≤ g) : Tx.Handed g [u1, u2] := by
  refine ⟨fun i j u v hi hj hne => ?_, fun i u hi e => ?_⟩
  · rcases i with _ | _ | i <;> rcases j with _ | _ | j <;> simp at hi hj hne
    · subst hi
      subst hj
      cases hb : u1.ownBlock with
      | none => exact .inl rfl
      | some b => exact .inr (fun e => by have := h1 b hb; have := (h2 b e.symm).1; omega)
    · subst hi
      subst hj
      cases hb : u2.ownBlock with
      | none => exact .inl rfl
      | some b => exact .inr (fun e => by have := (h2 b hb).1; have := h1 b e.symm; omega)
  · rcases i with _ | _ | i <;> simp at hi
    · subst hi; have := h1 g e; omega
    · subst hi; have := (h2 g e).2; omega
theorem rows2 {w : World} {B : Nat} {u1 u2 : Value} {l1 l2 : List ByteArray} (h1 : w.ownsRow B 9 1 u1 l1.length (Tx.strs l1)) (h2 : w.ownsRow B 9 1 u2 l2.length (Tx.strs l2)) :
    ∀ (j : Nat) (u : Value) (xs : List ByteArray), [u1, u2][j]? = some u → [l1, l2][j]? = some xs → w.ownsRow B 9 1 u xs.length (Tx.strs xs) := by
  intro j u xs hu hx
  rcases j with _ | _ | j <;> simp at hu hx
  · subst hu; subst hx; exact h1
  · subst hu; subst hx; exact h2
theorem eachF_len (e : UInt8) : ∀ (f : Nat) (st : List Nat) (l : List UInt8), (eachF e f st l).1.length ≤ f
  | 0, st, _ => by simp [eachF]
  | f + 1, st, [] => by simp [eachF]
  | f + 1, st, b :: t => by
    unfold eachF
    cases takeS e st b t with
    | bad n => simp
    | good p k st2 =>
      have := eachF_len e f st2 ((b :: t).drop k)
      simp only [List.length_cons]
      omega
theorem namesL_len (e : UInt8) (l : List UInt8) : (namesL e l).length ≤ l.length := by
  unfold namesL
  split
  · simp
  · have h1 := metL_len (eachL e [0] l).1 []
    have h2 := eachF_len e l.length [0] l
    have h3 : (eachL e [0] l).1.length ≤ l.length := h2
    simp at h1
    omega
theorem nsC_strs (ns : List (List UInt8)) : nsC ns = Tx.strs (ns.map bs) := by simp [nsC, Tx.strs]
set_option maxHeartbeats 4000000 in
set_option maxRecDepth 100000 in
theorem expandnames_law (s : ByteArray) (e : UInt8) (w : World) (_hs : s.size ≤ 140737488351232) : Calls Tryz.prog 13 #[.string s, .int .u8 e.toNat] w fun x w' => x = .returned (.bool true) ∧ Below w.heap.size w w' := by
  have hsl := un_length s
  have hw := works_x
  by_cases hbig : 131072 < s.size
  · have hg : (131072 : Int) < (s.size : Int) := by omega
    clear hw
    go_enter Tryz.func13, Tryz.ntmps13
    go_wp2
    go_ret
    exact ⟨rfl, Below.refl _ _⟩
  · have hg : ¬ (131072 : Int) < (s.size : Int) := by omega
    have hd := fun W => names_d s e W (by omega)
    have hn := fun W => names_p s e W (by omega)
    have hll := namesL_len e (un s)
    rw [nsC_strs] at hd hn
    rw [show (namesL e (un s)).length = ((namesL e (un s)).map bs).length by simp] at hd hn hll
    generalize (namesL e (un s)).map bs = l at *
    have hl2 : l.length ≤ 131072 := by omega
    clear hll hsl
    go_enter Tryz.func13, Tryz.ntmps13
    go_upto_region 4 with (go_at_call 25; refine (hd _).mono ?_; rintro x w1 ⟨u0, rfl, o0, b1⟩)
    go_upto_region 5 with (go_at_call 26; refine (hn _).mono ?_; rintro x w2 ⟨u1, rfl, o1, b2⟩)
    go_upto_region 6 with (go_at_call 26; refine (hn _).mono ?_; rintro x w3 ⟨u2, rfl, o2, b3⟩)
    have B2 := below_j b1 b2
    have B3 := below_j B2 b3
    have O0 := Tx.own_below (Tx.own_below o0 b2) b3
    have O1 := Tx.own_below o1 b3
    have s1 := b1.size
    have s2 := b2.size
    have s3 := b3.size
    have HH : Hid (∀ G, w3.heap.size ≤ G → Tx.Handed G [u1, u2]) := fun G hG => handed2 (m := w2.heap.size) (fun b hb => (o1.lt b hb).2) (fun b hb => ⟨(o2.lt b hb).1, Nat.lt_of_lt_of_le (o2.lt b hb).2 hG⟩) (by omega)
    have P1 := Tx.own_base (B := w.heap.size) O1 (by omega)
    have P2 := Tx.own_base (B := w.heap.size) o2 (by omega)
    have Q0 := Tx.own_base (B := w.heap.size) O0 (by omega)
    clear o0 o1 o2 O0 O1 b1 b2 b3 B2
    have hS1 := Tx.same_p l l u1 u0 w3 (Tx.TextsAt.own P1) (Tx.TextsAt.own Q0) (by omega) rfl
    have hS2 := fun W (hb : Below w3.heap.size w3 W) => Tx.same_p l l u2 u0 W (Tx.TextsAt.own (Tx.own_below P2 hb)) (Tx.TextsAt.own (Tx.own_below Q0 hb)) (by omega) rfl
    obtain ⟨a1, c1, hu1, _⟩ := Tx.own_shape P1
    obtain ⟨a2, c2, hu2, _⟩ := Tx.own_shape P2
    have hAP := fun W (hb : Below w3.heap.size w3 W) (c : Nat) => Tx.apart_p w.heap.size W.heap.size c [u1, u2] [l, l] (W.alloc (.cells #[u1, u2] 36)) rfl (by simp) (by have := hb.size; simp; omega) (Lies.new _ _ _) (HH.out _ hb.size) (Tx.Rws.start (rows2 ((Tx.own_below P1 hb).alloc _) ((Tx.own_below P2 hb).alloc _))) (fun xs hxs => by simp at hxs; rw [hxs]; omega)
    rw [show [u1, u2].length = 2 from rfl] at hAP
    clear P1 P2 Q0 HH
    subst hu1
    subst hu2
    go_upto_region 8 with (first
      | (go_at_call 27; with_reducible refine hS1.mono ?_; rintro x w4 ⟨rfl, b4⟩)
      | (go_at_call 27; with_reducible refine (hS2 _ b4).mono ?_; rintro x w5 ⟨rfl, b5⟩))
    have b35 : Below w3.heap.size w3 w5 := b4.trans (b5.mono b4.size)
    have B5 := below_j B3 b35
    have BA := B5.alloc B5.size (.cells #[.slice a1 l.length c1, .slice a2 l.length c2] 36)
    have hAP5 := hAP w5 b35
    clear hAP hS1 hS2 b4 b5
    go_wp2_with (first
      | (go_at_call 28; refine (hAP5 _).mono ?_; rintro x w6 ⟨rfl, b6⟩)
      | (go_at_call 15; refine (hw _).mono ?_; rintro x w7 ⟨rfl, b7⟩))
    go_ret
    exact ⟨rfl, below_j (BA.trans b6) b7⟩
end Go.Proofs.YtjmekcakiacdfabGreatDoor

namespace Go.Proofs.YtjmekcakiacdfabGreatDoor
open Go Go.RowKit

def varL : List PrZ := [⟨⟨#[65]⟩, ⟨#[111, 108, 100]⟩⟩, ⟨⟨#[66]⟩, ⟨#[]⟩⟩, ⟨⟨#[68]⟩, ⟨#[36, 65, 32, 39, 113, 39]⟩⟩, ⟨⟨#[65]⟩, ⟨#[120]⟩⟩, ⟨⟨#[]⟩, ⟨#[110, 111, 110, 101]⟩⟩, ⟨⟨#[49]⟩, ⟨#[111, 110, 101]⟩⟩]
def varC : Array Value := #[.string ⟨#[65]⟩, .string ⟨#[111, 108, 100]⟩, .string ⟨#[66]⟩, .string ⟨#[]⟩, .string ⟨#[68]⟩, .string ⟨#[36, 65, 32, 39, 113, 39]⟩, .string ⟨#[65]⟩, .string ⟨#[120]⟩, .string ⟨#[]⟩, .string ⟨#[110, 111, 110, 101]⟩, .string ⟨#[49]⟩, .string ⟨#[111, 110, 101]⟩]
theorem varL_few : ∀ x ∈ varL, x.key.size ≤ 140737488355328 ∧ x.val.size ≤ 140737488355328 := by
  intro x hx
  simp only [varL, List.mem_cons, List.not_mem_nil, or_false] at hx
  rcases hx with rfl | rfl | rfl | rfl | rfl | rfl <;> decide
theorem varL_at {W : World} {g : Nat} (h : Lies W g 40 varC) : PrsAt W (.slice (some ⟨g, 0, none⟩) 6 6) varL := by
  refine ⟨some ⟨g, 0, none⟩, 6, g, 0, rfl, fun _ => rfl, Nat.le_refl _, fun i e he => ?_⟩
  rcases i with _ | _ | _ | _ | _ | _ | i
  all_goals first
    | (simp only [varL, List.getElem?_cons_zero, List.getElem?_cons_succ, Option.some.injEq] at he; subst he; exact ⟨h.cell rfl, h.cell rfl⟩)
    | (simp [varL] at he)
set_option maxHeartbeats 2000000 in
set_option maxRecDepth 100000 in
theorem vars_p (W : World) : Calls Tryz.prog 10 #[] W fun x w' => ∃ v, x = .returned v ∧ PrsAt w' v varL ∧ Below W.heap.size W w' := by
  have hA := varL_at (Lies.new W 40 varC)
  have b0 : Below W.heap.size W (W.alloc (.cells varC 40)) := (Below.refl _ W).alloc (Nat.le_refl _) _
  unfold varC at hA b0
  go_enter Tryz.func10, Tryz.ntmps10
  go_wp2
  go_ret
  exact ⟨_, rfl, hA, b0⟩
/-- What every call here asks: the world has errors' type, and stands on the first one. -/
structure KnG (W0 w : World) : Prop where
  e : ErrType w
  b : Below W0.heap.size W0 w
theorem KnG.refl {W : World} (h : ErrType W) : KnG W W := ⟨h, Below.refl _ _⟩
theorem KnG.step {W0 w w2 : World} (h : KnG W0 w) (hb : Below w.heap.size w w2) : KnG W0 w2 := ⟨h.e.below hb, below_j h.b hb⟩
theorem ew_p (s : ByteArray) (c : UInt8) (v : Value) (vs : List PrZ) (w : World) (hv : PrsAt w v vs) (hE : ErrType w) (hl : vs.length ≤ 4096) (hx : ∀ x ∈ vs, x.key.size ≤ 140737488355328 ∧ x.val.size ≤ 140737488355328) (hs : s.size ≤ 1099511627776) : Calls Tryz.prog 11 #[.string s, .int .u8 c.toNat, v] w fun x w' => x = .returned (.bool true) ∧ Below w.heap.size w w' :=
  expandwords_law s c v vs w hE hv (by omega) hx (by omega)
theorem ed_p (s : ByteArray) (c : UInt8) (v : Value) (vs : List PrZ) (w : World) (hv : PrsAt w v vs) (hE : ErrType w) (hl : vs.length ≤ 4096) (hx : ∀ x ∈ vs, x.key.size ≤ 140737488355328 ∧ x.val.size ≤ 140737488355328) (hs : s.size ≤ 1099511627776) : Calls Tryz.prog 12 #[.string s, .int .u8 c.toNat, v] w fun x w' => x = .returned (.bool true) ∧ Below w.heap.size w w' :=
  expanddocs_law s c v vs w hE hv (by omega) hx (by omega)
/-- With the examples' variables, and the escape of most calls. -/
theorem ewv_p (s : ByteArray) (v : Value) (w : World) (hv : PrsAt w v varL) (hE : ErrType w) (hs : s.size ≤ 1099511627776) : Calls Tryz.prog 11 #[.string s, .int .u8 92, v] w fun x w' => x = .returned (.bool true) ∧ Below w.heap.size w w' := ew_p s 92 v varL w hv hE (by decide) varL_few hs
theorem edv_p (s : ByteArray) (v : Value) (w : World) (hv : PrsAt w v varL) (hE : ErrType w) (hs : s.size ≤ 1099511627776) : Calls Tryz.prog 12 #[.string s, .int .u8 92, v] w fun x w' => x = .returned (.bool true) ∧ Below w.heap.size w w' := ed_p s 92 v varL w hv hE (by decide) varL_few hs
theorem env_p (s : ByteArray) (w : World) (hs : s.size ≤ 1099511627776) : Calls Tryz.prog 13 #[.string s, .int .u8 92] w fun x w' => x = .returned (.bool true) ∧ Below w.heap.size w w' := expandnames_law s 92 w (by omega)
end Go.Proofs.YtjmekcakiacdfabGreatDoor

namespace Go.Proofs.YtjmekcakiacdfabGreatDoor
open Go Go.RowKit Go.Maps

def hasB (cs : List UInt8) (b : UInt8) : Bool := cs.any fun c => b == c
def hasL (l cs : List UInt8) : Bool := l.any (hasB cs)
theorem any_take_succ {α : Type} (p : α → Bool) (l : List α) (k : Nat) (x : α) (h : l[k]? = some x) : (l.take (k + 1)).any p = ((l.take k).any p || p x) := by
  rw [List.take_add_one, h, List.any_append]; simp
theorem beq_bytes (b c : UInt8) : ((b.toNat : Int) == (c.toNat : Int)) = (b == c) := by
  rw [Bool.eq_iff_iff, beq_iff_eq, beq_iff_eq]
  constructor
  · intro h; apply UInt8.toNat_inj.1; omega
  · intro h; rw [h]
set_option maxHeartbeats 4000000 in
set_option maxRecDepth 100000 in
theorem has_p (s : ByteArray) (cs : List UInt8) (g : Nat) (W : World) (hs : s.size ≤ 1099511627776) (hn : cs.length ≤ 16) (hg : ∀ j c, cs[j]? = some c → W.cell? ⟨g, j, none⟩ = some (.int .u8 c.toNat)) : Calls Tryz.prog 31 #[.string s, .slice (some ⟨g, 0, none⟩) cs.length cs.length] W fun x w' => x = .returned (.bool (hasL (un s) cs)) ∧ ∃ d, w' = W.drewN d := by
  have hsl := un_length s
  have HG : Hid _ := hg
  clear hg
  go_enter Tryz.func31, Tryz.ntmps31
  go_wp2
  go_loopw [5, 6] (fun i _ wr => ∃ k : Nat, k ≤ s.size ∧ i = .int .i64 k ∧ Hid (((un s).take k).any (hasB cs) = false) ∧ ∃ d, wr = W.drewN d) (fun i _ _ => s.size - (intOf i).toNat)
  case atStart => exact ⟨0, Nat.zero_le _, rfl, by simp [Hid], 0, rfl⟩
  case round =>
    obtain ⟨k, hk, rfl, HA, d, rfl⟩ := hrel
    by_cases hlt : k < s.size
    · have hget := un_getElem? s k hlt
      have k0 : (0 : Int) ≤ (k : Int) := by omega
      have k1 : (k : Int) < (s.size : Int) := by omega
      have HGET : Hid ((un s)[k]? = some s[k]) := hget
      clear hget
      go_wp2
      go_loopw [6] (fun j wr => ∃ n : Nat, n ≤ cs.length ∧ j = .int .i64 n ∧ Hid ((cs.take n).any (fun c => s[k] == c) = false) ∧ ∃ d, wr = W.drewN d) (fun j _ => cs.length - (intOf j).toNat)
      case atStart => exact ⟨0, Nat.zero_le _, rfl, by simp [Hid], d, rfl⟩
      case round =>
        obtain ⟨n, hnl, rfl, HN, d2, rfl⟩ := hrel
        by_cases hlt2 : n < cs.length
        · obtain ⟨c, hc⟩ : ∃ c, cs[n]? = some c := ⟨_, List.getElem?_eq_getElem hlt2⟩
          have hcell := HG.out n c hc
          have n0 : (0 : Int) ≤ (n : Int) := by omega
          have n1 : (n : Int) < (cs.length : Int) := by omega
          have hq := beq_bytes s[k] c
          have HS : Hid ((cs.take (n + 1)).any (fun c => s[k] == c) = ((cs.take n).any (fun c => s[k] == c) || s[k] == c)) := any_take_succ _ _ _ _ hc
          have HC : Hid (cs[n]? = some c) := hc
          cases hr : (s[k] == c) with
          | true =>
            rw [hr] at hq
            have HF : Hid (hasL (un s) cs = true) := by
              unfold Hid hasL
              rw [List.any_eq_true]
              refine ⟨s[k], List.mem_of_getElem? HGET.out, ?_⟩
              unfold hasB
              rw [List.any_eq_true]
              exact ⟨c, List.mem_of_getElem? hc, hr⟩
            clear hc hr
            go_wp2
            go_quiet (fail)
            go_wp2
            go_ret
            exact ⟨by rw [HF.out]; rfl, _, World.drewN_drewN _ _ _⟩
          | false =>
            rw [hr] at hq
            have HS2 : Hid ((cs.take (n + 1)).any (fun c => s[k] == c) = false) := by unfold Hid; rw [HS.out, HN.out, hr]; rfl
            clear hc hr
            go_wp2
            go_quiet (fail)
            go_wp2
            go_roundw
            case rel => exact ⟨n + 1, by omega, by go_num, HS2, _, rfl⟩
            case measure => simp [intOf]; omega
        · obtain rfl : n = cs.length := by omega
          have hge : ¬ ((cs.length : Nat) : Int) < (cs.length : Int) := by omega
          have HA2 : Hid (((un s).take (k + 1)).any (hasB cs) = false) := by
            unfold Hid
            rw [any_take_succ _ _ _ _ HGET.out, HA.out]
            have := HN.out
            rw [List.take_length] at this
            exact this
          go_wp2
          go_roundw
          case rel => exact ⟨k + 1, by omega, by go_num, HA2, _, rfl⟩
          case measure => simp [intOf]; omega
    · obtain rfl : k = s.size := by omega
      have hge : ¬ ((s.size : Nat) : Int) < (s.size : Int) := by omega
      have HE : Hid (hasL (un s) cs = false) := by
        have := HA.out
        rw [← hsl, List.take_length] at this
        exact this
      go_wp2
      go_ret
      exact ⟨by rw [HE.out]; rfl, _, rfl⟩
end Go.Proofs.YtjmekcakiacdfabGreatDoor

namespace Go.Proofs.YtjmekcakiacdfabGreatDoor
open Go Go.RowKit Go.Maps

theorem PrsAt.form {W : World} {v : Value} {vs : List PrZ} (h : PrsAt W v vs) : ∃ a cap, v = .slice a vs.length cap := by
  obtain ⟨a, cap, b, o, h1, _⟩ := h
  exact ⟨a, cap, h1⟩
theorem few_p (s : ByteArray) (a : Option Addr) (n c : Nat) (W : World) : Calls Tryz.prog 19 #[.string s, .slice a n c] W fun x w' => x = .returned (.bool (decide (s.size ≤ 131072) && decide (n ≤ 4096))) ∧ w' = W := by
  by_cases h1 : s.size ≤ 131072
  · have h1' : (s.size : Int) ≤ 131072 := by omega
    by_cases h2 : n ≤ 4096
    · have h2' : (n : Int) ≤ 4096 := by omega
      rw [decide_eq_true h1, decide_eq_true h2]
      go_enter Tryz.func19, Tryz.ntmps19
      go_wp2
      go_ret
      exact ⟨rfl, rfl⟩
    · have h2' : ¬ (n : Int) ≤ 4096 := by omega
      rw [decide_eq_true h1, decide_eq_false h2]
      go_enter Tryz.func19, Tryz.ntmps19
      go_wp2
      go_ret
      exact ⟨rfl, rfl⟩
  · have h1' : ¬ (s.size : Int) ≤ 131072 := by omega
    rw [decide_eq_false h1]
    go_enter Tryz.func19, Tryz.ntmps19
    go_wp2
    go_ret
    exact ⟨rfl, rfl⟩
theorem has_none {l cs : List UInt8} (h : hasL l cs = false) : ∀ b ∈ l, ∀ c ∈ cs, b ≠ c := by
  intro b hb c hc e
  unfold hasL at h
  rw [List.any_eq_false] at h
  have := h b hb
  unfold hasB at this
  rw [Bool.not_eq_true, List.any_eq_false] at this
  exact this c hc (by rw [e]; simp)
theorem ans_plain {e : UInt8} {m : Nat} (hm : m ≤ 1) (vs : List (List UInt8 × List UInt8)) (l : List UInt8) (h : ∀ c ∈ l, freeB e [m] c = true) : ansL vs (eachL e [m] l) = if 65536 < l.length then (5, []) else (0, l) := by
  obtain ⟨h1, h2, _⟩ := plain_ans hm vs l h
  unfold ansL
  rw [if_neg (by rw [h1]; simp), h2]
theorem has2 (s : ByteArray) (e : UInt8) (W : World) (hs : s.size ≤ 1099511627776) : Calls Tryz.prog 31 #[.string s, .slice (some ⟨W.heap.size, 0, none⟩) 2 2] (W.alloc (.cells #[.int .u8 e.toNat, .int .u8 36] 5)) fun x w' => x = .returned (.bool (hasL (un s) [e, 36])) ∧ Below W.heap.size W w' := by
  have L := Lies.new W 5 #[.int .u8 e.toNat, .int .u8 36]
  refine (has_p s [e, 36] W.heap.size _ hs (by simp) (fun j c hc => ?_)).mono ?_
  · match j, hc with
    | 0, hc => simp at hc; subst hc; exact L.cell (i := 0) rfl
    | 1, hc => simp at hc; subst hc; exact L.cell (i := 1) rfl
  · rintro x w' ⟨rfl, d, rfl⟩
    exact ⟨rfl, below_drawn ((Below.refl _ W).alloc (Nat.le_refl _) _) _⟩
theorem has4 (s : ByteArray) (e : UInt8) (W : World) (hs : s.size ≤ 1099511627776) : Calls Tryz.prog 31 #[.string s, .slice (some ⟨W.heap.size, 0, none⟩) 4 4] (W.alloc (.cells #[.int .u8 e.toNat, .int .u8 36, .int .u8 34, .int .u8 39] 5)) fun x w' => x = .returned (.bool (hasL (un s) [e, 36, 34, 39])) ∧ Below W.heap.size W w' := by
  have L := Lies.new W 5 #[.int .u8 e.toNat, .int .u8 36, .int .u8 34, .int .u8 39]
  refine (has_p s [e, 36, 34, 39] W.heap.size _ hs (by simp) (fun j c hc => ?_)).mono ?_
  · match j, hc with
    | 0, hc => simp at hc; subst hc; exact L.cell (i := 0) rfl
    | 1, hc => simp at hc; subst hc; exact L.cell (i := 1) rfl
    | 2, hc => simp at hc; subst hc; exact L.cell (i := 2) rfl
    | 3, hc => simp at hc; subst hc; exact L.cell (i := 3) rfl
  · rintro x w' ⟨rfl, d, rfl⟩
    exact ⟨rfl, below_drawn ((Below.refl _ W).alloc (Nat.le_refl _) _) _⟩
set_option maxHeartbeats 16000000 in
set_option maxRecDepth 100000 in
theorem expandplain_law (s : ByteArray) (e : UInt8) (v : Value) (vs : List PrZ) (W : World) (hE : ErrType W) (hv : PrsAt W v vs) (_hl : vs.length ≤ 4398046511104) (hx : ∀ x ∈ vs, x.key.size ≤ 140737488355328 ∧ x.val.size ≤ 140737488355328) (_hs : s.size ≤ 140737488351232) : Calls Tryz.prog 16 #[.string s, .int .u8 e.toNat, v] W fun x w' => x = .returned (.bool true) ∧ Below W.heap.size W w' := by
  obtain ⟨va, cap, rfl⟩ := hv.form
  have hfa := fun W => few_p s va vs.length cap W
  have b0 : Below W.heap.size W W := Below.refl _ _
  cases h1 : (decide (s.size ≤ 131072) && decide (vs.length ≤ 4096)) with
  | false =>
    rw [h1] at hfa
    clear hv h1
    go_enter Tryz.func16, Tryz.ntmps16
    go_wp2_with (go_at_call 19; refine (hfa _).mono ?_; rintro x w2 ⟨rfl, hw⟩; replace hw := hw.symm; subst hw)
    go_ret
    exact ⟨rfl, b0⟩
  | true =>
  rw [h1] at hfa
  simp only [Bool.and_eq_true, decide_eq_true_eq] at h1
  have hf : FewQ vs := FewQ.of ⟨by omega, hx⟩
  have hwa : ∀ W2, Below W.heap.size W W2 → Calls Tryz.prog 9 #[.string s, .int .u8 e.toNat, .slice va vs.length cap] W2 fun x w' => x = .returned (.tuple #[.string (bs (wordL e (prL vs) (un s)).2), erV (wordL e (prL vs) (un s)).1]) ∧ Below W.heap.size W w' := fun W2 hb => (word_p s e vs _ W2 (hv.below hb) hf (by omega)).mono fun x w' ⟨h4, h5⟩ => ⟨h4, below_join hb h5⟩
  have hda : ∀ W2, Below W.heap.size W W2 → Calls Tryz.prog 24 #[.string s, .int .u8 e.toNat, .slice va vs.length cap] W2 fun x w' => x = .returned (.tuple #[.string (bs (docL e (prL vs) (un s)).2), erV (docL e (prL vs) (un s)).1]) ∧ Below W.heap.size W w' := fun W2 hb => (doc_p s e vs _ W2 (hv.below hb) hf (by omega)).mono fun x w' ⟨h4, h5⟩ => ⟨h4, below_join hb h5⟩
  have h2 : ∀ W2, Below W.heap.size W W2 → Calls Tryz.prog 31 #[.string s, .slice (some ⟨W2.heap.size, 0, none⟩) 2 2] (W2.alloc (.cells #[.int .u8 e.toNat, .int .u8 36] 5)) fun x w' => x = .returned (.bool (hasL (un s) [e, 36])) ∧ Below W.heap.size W w' := fun W2 hb => (has2 s e W2 (by omega)).mono fun x w' ⟨h4, h5⟩ => ⟨h4, below_join hb h5⟩
  have h4 : ∀ W2, Below W.heap.size W W2 → Calls Tryz.prog 31 #[.string s, .slice (some ⟨W2.heap.size, 0, none⟩) 4 4] (W2.alloc (.cells #[.int .u8 e.toNat, .int .u8 36, .int .u8 34, .int .u8 39] 5)) fun x w' => x = .returned (.bool (hasL (un s) [e, 36, 34, 39])) ∧ Below W.heap.size W w' := fun W2 hb => (has4 s e W2 (by omega)).mono fun x w' ⟨h4, h5⟩ => ⟨h4, below_join hb h5⟩
  have hp : ∀ W2, Below W.heap.size W W2 → Calls Tryz.prog 14 #[.iface 54 (.int .i64 5), .int .i64 5] W2 fun x w' => x = .returned (.bool true) ∧ Below W.heap.size W w' := fun W2 hb => (plain_some 5 (by decide) (by decide) W2 (hE.below hb)).mono fun x w' ⟨h4, h5⟩ => ⟨h4, below_join hb h5⟩
  have hnm : hasL (un s) [e, 36, 34, 39] = false → ∀ W2, Below W.heap.size W W2 → Calls Tryz.prog 26 #[.string s, .int .u8 e.toNat] W2 fun x w' => ∃ o c, x = .returned (.slice o 0 c) ∧ Below W.heap.size W w' := fun h9 W2 hb => (names_p s e W2 (by omega)).mono fun x w' ⟨v, h7, h8, h5⟩ => by
    have hn : namesL e (un s) = [] := by
      have hh := has_none h9
      obtain ⟨k1, _, k3⟩ := plain_ans (e := e) (m := 0) (by decide) [] (un s) (fun c hc => by
        have q0 := hh c hc e (by simp); have q1 := hh c hc 36 (by simp); have q2 := hh c hc 34 (by simp); have q3 := hh c hc 39 (by simp)
        simp [freeB, q0, q1, q2, q3, opq])
      unfold namesL
      rw [if_neg (by rw [k1]; simp), k3]
    rw [hn] at h8
    obtain ⟨o, c, rfl⟩ := own_sliceN h8
    exact ⟨o, c, h7, below_join hb h5⟩
  have P2 : Hid (hasL (un s) [e, 36] = false → docL e (prL vs) (un s) = if 65536 < s.size then (5, []) else (0, un s)) := fun h9 => by
    have hh := has_none h9
    have := ans_plain (e := e) (m := 1) (by decide) (prL vs) (un s) (fun c hc => by
      have q0 := hh c hc e (by simp); have q1 := hh c hc 36 (by simp)
      simp [freeB, q0, q1, opq])
    rw [un_length] at this; exact this
  have P4 : Hid (hasL (un s) [e, 36, 34, 39] = false → wordL e (prL vs) (un s) = if 65536 < s.size then (5, []) else (0, un s)) := fun h9 => by
    have hh := has_none h9
    have := ans_plain (e := e) (m := 0) (by decide) (prL vs) (un s) (fun c hc => by
      have q0 := hh c hc e (by simp); have q1 := hh c hc 36 (by simp); have q2 := hh c hc 34 (by simp); have q3 := hh c hc 39 (by simp)
      simp [freeB, q0, q1, q2, q3, opq])
    rw [un_length] at this; exact this
  have HNM : Hid _ := hnm
  have heq : (s.toList == s.toList) = true := by simp
  clear hv hx hf hE hnm
  generalize hasL (un s) [e, 36] = x2 at *
  generalize hasL (un s) [e, 36, 34, 39] = x4 at *
  generalize wordL e (prL vs) (un s) = wa at *
  generalize docL e (prL vs) (un s) = da at *
  obtain ⟨na, sa⟩ := wa
  obtain ⟨ma, ta⟩ := da
  simp only at hwa hda
  by_cases hz : 65536 < s.size
  · have hz1 : (65536 : Int) < (s.size : Int) := by omega
    clear h1
    cases x2
    all_goals cases x4
    all_goals
      first | (have hq2 := P2.out rfl; rw [if_pos hz] at hq2; injection hq2 with e1 e2; subst e1; subst e2; have hda : ∀ W2, Below W.heap.size W W2 → Calls Tryz.prog 24 #[.string s, .int .u8 e.toNat, .slice va vs.length cap] W2 fun x w' => x = .returned (.tuple #[.string ⟨#[]⟩, .iface 54 (.int .i64 5)]) ∧ Below W.heap.size W w' := hda) | skip
    all_goals
      first | (have hq4 := P4.out rfl; rw [if_pos hz] at hq4; injection hq4 with e3 e4; subst e3; subst e4; have hwa : ∀ W2, Below W.heap.size W W2 → Calls Tryz.prog 9 #[.string s, .int .u8 e.toNat, .slice va vs.length cap] W2 fun x w' => x = .returned (.tuple #[.string ⟨#[]⟩, .iface 54 (.int .i64 5)]) ∧ Below W.heap.size W w' := hwa) | skip
    all_goals
      clear P2 P4 HNM hz
      go_enter Tryz.func16, Tryz.ntmps16
      go_wp2_with (first
        | (go_at_call 19; refine (hfa _).mono ?_; rintro x w2 ⟨rfl, hw⟩; replace hw := hw.symm; subst hw)
        | (go_at_call 9; with_reducible refine (hwa _ (by assumption)).mono ?_; rintro x w3 ⟨rfl, b3⟩)
        | (go_at_call 24; with_reducible refine (hda _ (by assumption)).mono ?_; rintro x w4 ⟨rfl, b4⟩)
        | (go_at_call 31; first | (with_reducible refine (h2 _ (by assumption)).mono ?_; rintro x w5 ⟨rfl, b5⟩) | (with_reducible refine (h4 _ (by assumption)).mono ?_; rintro x w6 ⟨rfl, b6⟩))
        | (go_at_call 14; with_reducible refine (hp _ (by assumption)).mono ?_; rintro x w7 ⟨rfl, b7⟩))
      go_ret
      exact ⟨rfl, by assumption⟩
  · have hz1 : ¬ (65536 : Int) < (s.size : Int) := by omega
    clear h1
    cases x2
    all_goals cases x4
    all_goals
      first | (have hq2 := P2.out rfl; rw [if_neg hz] at hq2; injection hq2 with e1 e2; subst e1; subst e2; have hda : ∀ W2, Below W.heap.size W W2 → Calls Tryz.prog 24 #[.string s, .int .u8 e.toNat, .slice va vs.length cap] W2 fun x w' => x = .returned (.tuple #[.string s, .nilIface]) ∧ Below W.heap.size W w' := (by rw [bs_un] at hda; exact hda)) | skip
    all_goals
      first | (have hq4 := P4.out rfl; have hnames := HNM.out rfl; rw [if_neg hz] at hq4; injection hq4 with e3 e4; subst e3; subst e4; have hwa : ∀ W2, Below W.heap.size W W2 → Calls Tryz.prog 9 #[.string s, .int .u8 e.toNat, .slice va vs.length cap] W2 fun x w' => x = .returned (.tuple #[.string s, .nilIface]) ∧ Below W.heap.size W w' := (by rw [bs_un] at hwa; exact hwa)) | skip
    all_goals
      clear P2 P4 HNM hz
      go_enter Tryz.func16, Tryz.ntmps16
      go_wp2_with (first
        | (go_at_call 19; refine (hfa _).mono ?_; rintro x w2 ⟨rfl, hw⟩; replace hw := hw.symm; subst hw)
        | (go_at_call 9; with_reducible refine (hwa _ (by assumption)).mono ?_; rintro x w3 ⟨rfl, b3⟩)
        | (go_at_call 24; with_reducible refine (hda _ (by assumption)).mono ?_; rintro x w4 ⟨rfl, b4⟩)
        | (go_at_call 31; first | (with_reducible refine (h2 _ (by assumption)).mono ?_; rintro x w5 ⟨rfl, b5⟩) | (with_reducible refine (h4 _ (by assumption)).mono ?_; rintro x w6 ⟨rfl, b6⟩))
        | (go_at_call 26; with_reducible refine (hnames _ (by assumption)).mono ?_; rintro x w7 ⟨o9, c9, rfl, b7⟩))
      go_ret
      exact ⟨rfl, by assumption⟩
end Go.Proofs.YtjmekcakiacdfabGreatDoor

namespace Go.Proofs.YtjmekcakiacdfabGreatDoor
open Go Go.RowKit

def szOf : Value → Nat
  | .string x => x.size
  | _ => 0
theorem pair2_at {W : World} {g : Nat} {a b c d : ByteArray} (h : Lies W g 40 #[.string a, .string b, .string c, .string d]) : PrsAt W (.slice (some ⟨g, 0, none⟩) 2 2) [⟨a, b⟩, ⟨c, d⟩] := by
  refine ⟨some ⟨g, 0, none⟩, 2, g, 0, rfl, fun _ => rfl, Nat.le_refl _, fun i e he => ?_⟩
  rcases i with _ | _ | i
  all_goals first
    | (simp only [List.getElem?_cons_zero, List.getElem?_cons_succ, Option.some.injEq] at he; subst he; exact ⟨h.cell rfl, h.cell rfl⟩)
    | (simp at he)
def szW : List ByteArray := [⟨#[36, 76]⟩, ⟨#[97, 36, 76]⟩, ⟨#[36, 123, 76, 125, 98, 99]⟩, ⟨#[36, 123, 76, 58, 45, 36, 77, 125, 97]⟩, ⟨#[36, 123, 77, 58, 43, 125, 36, 76]⟩, ⟨#[36, 123, 77, 58, 43, 36, 76, 125, 122]⟩, ⟨#[36, 123, 78, 58, 45, 36, 123, 76, 125, 121, 125]⟩, ⟨#[36, 77]⟩, ⟨#[36, 123, 77, 58, 45, 125]⟩, ⟨#[36, 76, 36, 77]⟩, ⟨#[36, 77, 36, 123]⟩, ⟨#[36, 77, 39]⟩, ⟨#[36, 123, 76, 58, 43, 36, 77, 125]⟩, ⟨#[39, 120, 39, 36, 76]⟩]
def szC : Array Value := (szW.map Value.string).toArray
theorem prs_nil (w : World) : PrsAt w (.slice none 0 0) [] := ⟨none, 0, 0, 0, rfl, fun h => (h rfl).elim, Nat.le_refl _, fun i e he => by simp at he⟩
theorem ewn_p (s : ByteArray) (w : World) (hE : ErrType w) (hs : s.size ≤ 1099511627776) : Calls Tryz.prog 11 #[.string s, .int .u8 92, .slice none 0 0] w fun x w' => x = .returned (.bool true) ∧ Below w.heap.size w w' := ew_p s 92 _ [] w (prs_nil w) hE (by decide) (by simp) hs
theorem edn_p (s : ByteArray) (w : World) (hE : ErrType w) (hs : s.size ≤ 1099511627776) : Calls Tryz.prog 12 #[.string s, .int .u8 92, .slice none 0 0] w fun x w' => x = .returned (.bool true) ∧ Below w.heap.size w w' := ed_p s 92 _ [] w (prs_nil w) hE (by decide) (by simp) hs
theorem epn_p (s : ByteArray) (w : World) (hE : ErrType w) (hs : s.size ≤ 1099511627776) : Calls Tryz.prog 16 #[.string s, .int .u8 92, .slice none 0 0] w fun x w' => x = .returned (.bool true) ∧ Below w.heap.size w w' := expandplain_law s 92 _ [] w hE (prs_nil w) (by decide) (by simp) (by omega)
theorem app_le {a b : ByteArray} {n m : Nat} (ha : a.size ≤ n) (hb : b.size ≤ m) (h : n + m ≤ 1099511627776) : (a ++ b).size ≤ 1099511627776 := by rw [ByteArray.size_append]; omega
theorem szC_get (j : Nat) (h : j < 14) : ∃ w : ByteArray, szC[j]? = some (.string w) ∧ w.size ≤ 1099511627776 := by
  have hj : j < szW.length := h
  refine ⟨szW[j], ?_, ?_⟩
  · unfold szC
    rw [List.getElem?_toArray, List.getElem?_map, List.getElem?_eq_getElem hj]; rfl
  · have : ∀ w ∈ szW, w.size ≤ 1099511627776 := by decide
    exact this _ (List.getElem_mem hj)
set_option maxHeartbeats 8000000 in
set_option maxRecDepth 100000 in
theorem sizes_p (W : World) (hE : ErrType W) : Calls Tryz.prog 7 #[] W fun x w' => x = .returned (.bool true) ∧ Below W.heap.size W w' := by
  have HG : Hid (KnG W W) := KnG.refl hE
  clear hE
  go_enter Tryz.func7, Tryz.ntmps7
  go_wp2
  go_loopw [1] (fun sv wr => ∃ x : ByteArray, sv = .string x ∧ 8 ≤ x.size ∧ x.size ≤ 131072 ∧ KnG W wr) (fun sv _ => 131072 - szOf sv)
  case atStart => exact ⟨_, rfl, by decide, by decide, HG.out⟩
  case round =>
    obtain ⟨x, rfl, hx8, hxm, hg⟩ := hrel
    by_cases hlt : x.size < 65536
    · have d1 : (x.size : Int) < 65536 := by omega
      have hsz : (x ++ x).size = x.size + x.size := ByteArray.size_append
      go_wp2
      go_roundw
      case rel => exact ⟨_, rfl, by rw [hsz]; omega, by rw [hsz]; omega, hg⟩
      case measure => simp only [szOf, hsz]; omega
    · have d1 : ¬ (x.size : Int) < 65536 := by omega
      have hxb : (65536 : Nat) ≤ x.size := by omega
      go_wp2
      clear d1 hlt
      have hI := Lies.new wr 3 #[.int .i64 65534, .int .i64 65535, .int .i64 65536]
      have hg1 : KnG W (wr.alloc (.cells #[.int .i64 65534, .int .i64 65535, .int .i64 65536] 3)) := hg.step ((Below.refl _ _).alloc (Nat.le_refl _) _)
      generalize hwr1 : (wr.alloc (.cells #[.int .i64 65534, .int .i64 65535, .int .i64 65536] 3)) = wr1 at *
      clear hwr1 hg
      generalize wr.heap.size = gI at *
      go_loopw [15] (fun iv wr2 => ∃ (k : Nat) (wz : World), wz = wr2 ∧ iv = .int .i64 k ∧ k ≤ 3 ∧ Lies wr2 gI 3 #[.int .i64 65534, .int .i64 65535, .int .i64 65536] ∧ KnG W wr2) (fun iv _ => 3 - (intOf iv).toNat)
      case atStart => exact ⟨0, _, rfl, rfl, by omega, hI, hg1⟩
      case round =>
        clear hI hg1
        obtain ⟨k, wz, hwz, rfl, hk, hI, hg⟩ := hrel
        subst hwz
        by_cases hlt : k < 3
        · have d1 : (k : Int) < 3 := by omega
          have d0 : (0 : Int) ≤ (k : Int) := by omega
          obtain ⟨n, hn, hcell⟩ : ∃ n : Nat, n ≤ 65536 ∧ wz.cell? ⟨gI, k, none⟩ = some (.int .i64 (n : Int)) := by
            rcases k with _ | _ | _ | k
            · exact ⟨65534, by omega, hI.cell (i := 0) rfl⟩
            · exact ⟨65535, by omega, hI.cell (i := 1) rfl⟩
            · exact ⟨65536, by omega, hI.cell (i := 2) rfl⟩
            · omega
          have n0 : (0 : Int) ≤ (n : Int) := by omega
          have n1 : (n : Int) ≤ (x.size : Int) := by omega
          go_upto_region 8 with fail
          have hP := pair2_at (Lies.new wz 40 #[.string ⟨#[76]⟩, .string (x.extract 0 n), .string ⟨#[77]⟩, .string (x ++ (⟨#[120]⟩ : ByteArray))])
          have bp : Below wz.heap.size wz (wz.alloc (.cells #[.string ⟨#[76]⟩, .string (x.extract 0 n), .string ⟨#[77]⟩, .string (x ++ (⟨#[120]⟩ : ByteArray))] 40)) := (Below.refl _ wz).alloc (Nat.le_refl _) _
          have hg2 := hg.step bp
          have hI2 := hI.below bp
          have hx1 : (x.extract 0 n).size ≤ 65536 := by rw [ByteArray.size_extract]; omega
          have hx2 : (x ++ (⟨#[120]⟩ : ByteArray)).size ≤ 131073 := by rw [ByteArray.size_append]; show x.size + 1 ≤ _; omega
          have hPx : ∀ y ∈ [(⟨⟨#[76]⟩, x.extract 0 n⟩ : PrZ), ⟨⟨#[77]⟩, x ++ (⟨#[120]⟩ : ByteArray)⟩], y.key.size ≤ 140737488355328 ∧ y.val.size ≤ 140737488355328 := by
            intro y hy
            simp only [List.mem_cons, List.not_mem_nil, or_false] at hy
            rcases hy with rfl | rfl
            · exact ⟨by show (⟨#[76]⟩ : ByteArray).size ≤ _; decide, by show (x.extract 0 n).size ≤ _; omega⟩
            · exact ⟨by show (⟨#[77]⟩ : ByteArray).size ≤ _; decide, by show (x ++ (⟨#[120]⟩ : ByteArray)).size ≤ _; omega⟩
          generalize (wz.alloc (.cells #[.string ⟨#[76]⟩, .string (x.extract 0 n), .string ⟨#[77]⟩, .string (x ++ (⟨#[120]⟩ : ByteArray))] 40)) = wp at *
          generalize wz.heap.size = gP at *
          generalize hvs : [(⟨⟨#[76]⟩, x.extract 0 n⟩ : PrZ), ⟨⟨#[77]⟩, x ++ (⟨#[120]⟩ : ByteArray)⟩] = vs at *
          have hvl : vs.length = 2 := by rw [← hvs]; rfl
          generalize x ++ (⟨#[120]⟩ : ByteArray) = xm at *
          clear hvs hI hg bp hcell
          go_upto_region 9 with fail
          have hS := Lies.new wp 9 szC
          have bs0 : Below wp.heap.size wp (wp.alloc (.cells szC 9)) := (Below.refl _ wp).alloc (Nat.le_refl _) _
          rw [show (wp.alloc (.cells #[.string ⟨#[36, 76]⟩, .string ⟨#[97, 36, 76]⟩, .string ⟨#[36, 123, 76, 125, 98, 99]⟩, .string ⟨#[36, 123, 76, 58, 45, 36, 77, 125, 97]⟩, .string ⟨#[36, 123, 77, 58, 43, 125, 36, 76]⟩, .string ⟨#[36, 123, 77, 58, 43, 36, 76, 125, 122]⟩, .string ⟨#[36, 123, 78, 58, 45, 36, 123, 76, 125, 121, 125]⟩, .string ⟨#[36, 77]⟩, .string ⟨#[36, 123, 77, 58, 45, 125]⟩, .string ⟨#[36, 76, 36, 77]⟩, .string ⟨#[36, 77, 36, 123]⟩, .string ⟨#[36, 77, 39]⟩, .string ⟨#[36, 123, 76, 58, 43, 36, 77, 125]⟩, .string ⟨#[39, 120, 39, 36, 76]⟩] 9)) = wp.alloc (.cells szC 9) from rfl]
          have hg3 := hg2.step bs0
          have hP3 := hP.below bs0
          have hI3 := hI2.below bs0
          generalize (wp.alloc (.cells szC 9)) = wq at *
          generalize wp.heap.size = gS at *
          clear hg2 hP hI2 bs0
          go_loopw [29] (fun jv wr3 => ∃ (j : Nat) (wy : World), wy = wr3 ∧ jv = .int .i64 j ∧ j ≤ 14 ∧ Lies wy gS 9 szC ∧ PrsAt wy (.slice (some ⟨gP, 0, none⟩) 2 2) vs ∧ Lies wy gI 3 #[.int .i64 65534, .int .i64 65535, .int .i64 65536] ∧ KnG W wy) (fun jv _ => 14 - (intOf jv).toNat)
          case atStart => exact ⟨0, _, rfl, rfl, by omega, hS, hP3, hI3, hg3⟩
          case round =>
            clear hS hP3 hI3 hg3
            obtain ⟨j, wy, hwy, rfl, hj, hS, hP, hI, hg⟩ := hrel
            subst hwy
            by_cases hjl : j < 14
            · have j1 : (j : Int) < 14 := by omega
              have j0 : (0 : Int) ≤ (j : Int) := by omega
              obtain ⟨wd, hwd, hwl⟩ := szC_get j hjl
              have hcj := hS.cell hwd
              clear hwd
              have hW1 := ew_p wd 92 _ vs wy hP hg.e (by omega) hPx hwl
              go_wp2_with (first
                | (go_at_call 11; refine hW1.mono ?_; rintro xx w5 ⟨rfl, b5⟩; have hg5 := hg.step b5; have hD1 := ed_p wd 92 _ vs w5 (hP.below b5) hg5.e (by omega) hPx hwl)
                | (go_at_call 12; refine hD1.mono ?_; rintro xx w6 ⟨rfl, b6⟩; have hg6 := hg5.step b6))
              exact ⟨⟨j + 1, w6, rfl, by go_num, by omega, (hS.below b5).below b6, (hP.below b5).below b6, (hI.below b5).below b6, hg6⟩, by simp [intOf]; omega⟩
            · have j1 : ¬ (j : Int) < 14 := by omega
              have hA := ewn_p ((x.extract 0 n) ++ (⟨#[97]⟩ : ByteArray)) wy hg.e (app_le hx1 (m := 1) (by decide) (by decide))
              have s2 : ((x.extract 0 n) ++ (⟨#[97, 98]⟩ : ByteArray)).size ≤ 1099511627776 := app_le hx1 (m := 2) (by decide) (by decide)
              have s3 : ((x.extract 0 n) ++ (⟨#[92, 36]⟩ : ByteArray)).size ≤ 1099511627776 := app_le hx1 (m := 2) (by decide) (by decide)
              clear hP hS
              go_wp2_with (first
                | (go_at_call 11; refine hA.mono ?_; rintro xx w5 ⟨rfl, b5⟩; have hg5 := hg.step b5; have hB1 := epn_p _ w5 hg5.e s2)
                | (go_at_call 16; refine hB1.mono ?_; rintro xx w6 ⟨rfl, b6⟩; have hg6 := hg5.step b6; have hC1 := edn_p _ w6 hg6.e s3)
                | (go_at_call 12; refine hC1.mono ?_; rintro xx w7 ⟨rfl, b7⟩; have hg7 := hg6.step b7))
              exact ⟨⟨k + 1, w7, rfl, by go_num, by omega, ((hI.below b5).below b6).below b7, hg7⟩, by simp [intOf]; omega⟩
        · have d1 : ¬ (k : Int) < 3 := by omega
          have hA := ewn_p (x ++ (⟨#[92, 120]⟩ : ByteArray)) wz hg.e (app_le hxm (m := 2) (by decide) (by decide))
          have s2 : (x ++ (⟨#[39, 39]⟩ : ByteArray)).size ≤ 1099511627776 := app_le hxm (m := 2) (by decide) (by decide)
          have s3 : (x ++ (⟨#[36, 123, 65, 58, 43, 120, 125]⟩ : ByteArray)).size ≤ 1099511627776 := app_le hxm (m := 7) (by decide) (by decide)
          clear hI
          go_wp2_with (first
            | (go_at_call 11; with_reducible refine hA.mono ?_; rintro xx w5 ⟨rfl, b5⟩; have hg5 := hg.step b5; have hB1 := ewn_p _ w5 hg5.e s2)
            | (go_at_call 11; with_reducible refine hB1.mono ?_; rintro xx w6 ⟨rfl, b6⟩; have hg6 := hg5.step b6; have hC1 := ewn_p _ w6 hg6.e s3)
            | (go_at_call 11; with_reducible refine hC1.mono ?_; rintro xx w7 ⟨rfl, b7⟩; have hg7 := hg6.step b7))
          go_ret
          exact ⟨rfl, hg7.b⟩
end Go.Proofs.YtjmekcakiacdfabGreatDoor

namespace Go.Proofs.YtjmekcakiacdfabGreatDoor
open Go Go.RowKit

theorem own_one (w : World) (x : UInt8) : (w.alloc (.cells #[.int .u8 x.toNat] 5)).ownsRow w.heap.size 5 1 (.slice (some ⟨w.heap.size, 0, none⟩) 1 1) 1 (Lib.byteCells [x]) :=
  ⟨rfl, .inr ⟨w.heap.size, 1, #[.int .u8 x.toNat], rfl, Nat.le_refl _, World.alloc_heap_new w _, Nat.le_refl _, by unfold maxLen; omega, rfl, rfl⟩⟩
def byW : List ByteArray := [⟨#[97, 36, 65, 46, 36, 123, 66, 58, 45, 121, 125, 122]⟩, ⟨#[34, 36, 65, 92, 36, 34, 39, 98, 39]⟩, ⟨#[36, 123, 65, 58, 43, 34, 113, 34, 125, 36, 68]⟩]
def byC : Array Value := (byW.map Value.string).toArray
theorem byC_get (j : Nat) (h : j < 3) : ∃ w : ByteArray, byC[j]? = some (.string w) ∧ w.size ≤ 20 := by
  have hj : j < byW.length := h
  refine ⟨byW[j], ?_, ?_⟩
  · unfold byC
    rw [List.getElem?_toArray, List.getElem?_map, List.getElem?_eq_getElem hj]; rfl
  · have : ∀ w ∈ byW, w.size ≤ 20 := by decide
    exact this _ (List.getElem_mem hj)
set_option maxHeartbeats 16000000 in
set_option maxRecDepth 100000 in
theorem bytesk_p (W : World) (hE : ErrType W) : Calls Tryz.prog 6 #[] W fun x w' => x = .returned (.bool true) ∧ Below W.heap.size W w' := by
  have HG := KnG.refl hE
  have hS := Lies.new W 9 byC
  have bs0 : Below W.heap.size W (W.alloc (.cells byC 9)) := (Below.refl _ W).alloc (Nat.le_refl _) _
  have hg0 := HG.step bs0
  clear HG hE
  go_enter Tryz.func6, Tryz.ntmps6
  go_wp2
  rw [show (W.alloc (.cells #[.string ⟨#[97, 36, 65, 46, 36, 123, 66, 58, 45, 121, 125, 122]⟩, .string ⟨#[34, 36, 65, 92, 36, 34, 39, 98, 39]⟩, .string ⟨#[36, 123, 65, 58, 43, 34, 113, 34, 125, 36, 68]⟩] 9)) = W.alloc (.cells byC 9) from rfl]
  generalize (W.alloc (.cells byC 9)) = w0 at *
  generalize hgS : W.heap.size = gS at *
  go_loopw [9] (fun kv wr => ∃ (k : Nat) (wz : World), wz = wr ∧ kv = .int .i64 k ∧ k ≤ 3 ∧ Lies wz gS 9 byC ∧ KnG W wz) (fun kv _ => 3 - (intOf kv).toNat)
  case atStart => exact ⟨0, _, rfl, rfl, by omega, hS, hg0⟩
  case round =>
    clear hS hg0 bs0
    obtain ⟨k, wz, hwz, rfl, hk, hS, hg⟩ := hrel
    subst hwz
    by_cases hlt : k < 3
    · have d1 : (k : Int) < 3 := by omega
      have d0 : (0 : Int) ≤ (k : Int) := by omega
      obtain ⟨s, hsd, hsl⟩ := byC_get k hlt
      have hcs := hS.cell hsd
      clear hsd
      go_wp2
      go_loopw [3] (fun iv wr => ∃ (i : Nat) (wy : World), wy = wr ∧ iv = .int .i64 i ∧ i ≤ s.size + 1 ∧ Lies wy gS 9 byC ∧ KnG W wy) (fun iv _ => s.size + 1 - (intOf iv).toNat)
      case atStart => exact ⟨0, _, rfl, rfl, by omega, hS, hg⟩
      case round =>
        clear hS hg hcs
        obtain ⟨i, wy, hwy, rfl, hi, hS, hg⟩ := hrel
        subst hwy
        by_cases hil : i ≤ s.size
        · have i1 : (i : Int) ≤ (s.size : Int) := by omega
          have i0 : (0 : Int) ≤ (i : Int) := by omega
          go_wp2
          go_loopw [4] (fun cv wr => ∃ (c : Nat) (wx : World), wx = wr ∧ cv = .int .i64 c ∧ c ≤ 256 ∧ Lies wx gS 9 byC ∧ KnG W wx) (fun cv _ => 256 - (intOf cv).toNat)
          case atStart => exact ⟨0, _, rfl, rfl, by omega, hS, hg⟩
          case round =>
            clear hS hg
            obtain ⟨c, wx, hwx, rfl, hc, hS, hg⟩ := hrel
            subst hwx
            by_cases hcl : c < 256
            · have c1 : (c : Int) < 256 := by omega
              obtain ⟨b, hb⟩ : ∃ b : UInt8, (b.toNat : Int) = (c : Int) := ⟨UInt8.ofNat c, by simp; omega⟩
              have wb : IntKind.u8.wrap (c : Int) = (b.toNat : Int) := by rw [hb]; simp [IntKind.wrap, IntKind.bits, IntKind.signed]; omega
              have hconv := conv_own [b] wx.heap.size (.slice (some ⟨wx.heap.size, 0, none⟩) 1 1) (wx.alloc (.cells #[.int .u8 b.toNat] 5)).drew (own_one wx b)
              have hB1 : (bs [b]).size = 1 := size_bs _
              have HT : Hid ((s.extract 0 i ++ bs [b] ++ s.extract i s.size).size ≤ 1099511627776) := by unfold Hid; rw [ByteArray.size_append, ByteArray.size_append, ByteArray.size_extract, ByteArray.size_extract, hB1]; omega
              generalize bs [b] = B1 at *
              have m1 : ¬ 9223372036854775807 < i + B1.size := by omega
              have m2 : ¬ 9223372036854775807 < i + B1.size + (s.size - i) := by omega
              have m3 : i ≤ s.size := hil
              clear hb hB1
              go_wp2
              go_region
              have bx : Below wx.heap.size wx (wx.alloc (.cells #[.int .u8 b.toNat] 5)).drew := ⟨rfl, rfl, rfl, by simp [World.drew], fun j hj => Below.heap_alloc wx _ j hj⟩
              have hS2 := hS.below bx
              have hg2 := hg.step bx
              generalize (wx.alloc (.cells #[.int .u8 b.toNat] 5)).drew = wn at *
              generalize s.extract 0 i ++ B1 ++ s.extract i s.size = T at *
              clear hS hg hconv bx m1 m2 m3 wb
              have hS := hS2
              have hg := hg2
              clear hS2 hg2
              by_cases h4 : c % 4 = 0
              · have q4 : (Int.tmod (c : Int) 4 == 0) = true := by rw [Int.tmod_eq_emod_of_nonneg (by omega), beq_iff_eq]; omega
                go_wp2_with (first
                  | (go_at_call 10; refine (vars_p _).mono ?_; rintro xx wn ⟨vn, rfl, hvn, bn⟩; have hSn := Lies.below (by assumption) bn; have hgn := KnG.step (W0 := W) (by assumption) bn; clear hS hg; have hS := hSn; have hg := hgn; clear hSn hgn bn)
                  | (go_at_call 11; refine (ewv_p _ _ _ (by assumption) (KnG.e (W0 := W) (by assumption)) HT.out).mono ?_; rintro xx wn ⟨rfl, bn⟩; have hSn := Lies.below (by assumption) bn; have hgn := KnG.step (W0 := W) (by assumption) bn; clear hS hg; have hS := hSn; have hg := hgn; clear hSn hgn bn)
                  | (go_at_call 12; refine (edv_p _ _ _ (by assumption) (KnG.e (W0 := W) (by assumption)) HT.out).mono ?_; rintro xx wn ⟨rfl, bn⟩; have hSn := Lies.below (by assumption) bn; have hgn := KnG.step (W0 := W) (by assumption) bn; clear hS hg; have hS := hSn; have hg := hgn; clear hSn hgn bn)
                  | (go_at_call 13; refine (env_p _ _ HT.out).mono ?_; rintro xx wn ⟨rfl, bn⟩; have hSn := Lies.below (by assumption) bn; have hgn := KnG.step (W0 := W) (by assumption) bn; clear hS hg; have hS := hSn; have hg := hgn; clear hSn hgn bn))
                exact ⟨⟨c + 1, _, rfl, by go_num, by omega, hS, hg⟩, by simp [intOf]; omega⟩
              · have q4 : (Int.tmod (c : Int) 4 == 0) = false := by rw [Int.tmod_eq_emod_of_nonneg (by omega), beq_eq_false_iff_ne]; omega
                go_wp2_with (first
                  | (go_at_call 10; refine (vars_p _).mono ?_; rintro xx wn ⟨vn, rfl, hvn, bn⟩; have hSn := Lies.below (by assumption) bn; have hgn := KnG.step (W0 := W) (by assumption) bn; clear hS hg; have hS := hSn; have hg := hgn; clear hSn hgn bn)
                  | (go_at_call 11; refine (ewv_p _ _ _ (by assumption) (KnG.e (W0 := W) (by assumption)) HT.out).mono ?_; rintro xx wn ⟨rfl, bn⟩; have hSn := Lies.below (by assumption) bn; have hgn := KnG.step (W0 := W) (by assumption) bn; clear hS hg; have hS := hSn; have hg := hgn; clear hSn hgn bn)
                  | (go_at_call 12; refine (edv_p _ _ _ (by assumption) (KnG.e (W0 := W) (by assumption)) HT.out).mono ?_; rintro xx wn ⟨rfl, bn⟩; have hSn := Lies.below (by assumption) bn; have hgn := KnG.step (W0 := W) (by assumption) bn; clear hS hg; have hS := hSn; have hg := hgn; clear hSn hgn bn)
                  | (go_at_call 13; refine (env_p _ _ HT.out).mono ?_; rintro xx wn ⟨rfl, bn⟩; have hSn := Lies.below (by assumption) bn; have hgn := KnG.step (W0 := W) (by assumption) bn; clear hS hg; have hS := hSn; have hg := hgn; clear hSn hgn bn))
                exact ⟨⟨c + 1, _, rfl, by go_num, by omega, hS, hg⟩, by simp [intOf]; omega⟩
            · have c1 : ¬ (c : Int) < 256 := by omega
              go_wp2
              have bx : Below wx.heap.size wx wx.drew := ⟨rfl, rfl, rfl, Nat.le_refl _, fun _ _ => rfl⟩
              have hS2 := hS.below bx
              have hg2 := hg.step bx
              clear hS hg bx
              have hS := hS2
              have hg := hg2
              clear hS2 hg2
              have z1 : (s.extract 0 i).size ≤ 1099511627776 := by rw [ByteArray.size_extract]; omega
              have z2 : (s.extract i s.size).size ≤ 1099511627776 := by rw [ByteArray.size_extract]; omega
              go_region_held (fun _ => True) (trivial) (first
                | (go_at_call 10; refine (vars_p _).mono ?_; rintro xx wn ⟨vn, rfl, hvn, bn⟩; have hSn := Lies.below (by assumption) bn; have hgn := KnG.step (W0 := W) (by assumption) bn; clear hS hg; have hS := hSn; have hg := hgn; clear hSn hgn bn)
                | (go_at_call 11; refine (ewv_p _ _ _ (by assumption) (KnG.e (W0 := W) (by assumption)) (by assumption)).mono ?_; rintro xx wn ⟨rfl, bn⟩; have hSn := Lies.below (by assumption) bn; have hgn := KnG.step (W0 := W) (by assumption) bn; clear hS hg; have hS := hSn; have hg := hgn; clear hSn hgn bn)
                | (go_at_call 12; refine (edv_p _ _ _ (by assumption) (KnG.e (W0 := W) (by assumption)) (by assumption)).mono ?_; rintro xx wn ⟨rfl, bn⟩; have hSn := Lies.below (by assumption) bn; have hgn := KnG.step (W0 := W) (by assumption) bn; clear hS hg; have hS := hSn; have hg := hgn; clear hSn hgn bn))
              go_wp2
              all_goals exact ⟨⟨i + 1, _, rfl, by go_num, by omega, hS, hg⟩, by simp [intOf]; omega⟩
        · have i1 : ¬ (i : Int) ≤ (s.size : Int) := by omega
          go_wp2
          go_loopw [6] (fun cv wr => ∃ (c : Nat) (wx : World), wx = wr ∧ cv = .int .i64 c ∧ c ≤ 256 ∧ Lies wx gS 9 byC ∧ KnG W wx) (fun cv _ => 256 - (intOf cv).toNat)
          case atStart => exact ⟨0, _, rfl, rfl, by omega, hS, hg⟩
          case round =>
            clear hS hg
            obtain ⟨c, wx, hwx, rfl, hc, hS, hg⟩ := hrel
            subst hwx
            by_cases hcl : c < 256
            · have c1 : (c : Int) < 256 := by omega
              obtain ⟨b, hb⟩ : ∃ b : UInt8, (b.toNat : Int) = (c : Int) := ⟨UInt8.ofNat c, by simp; omega⟩
              have wb : IntKind.u8.wrap (c : Int) = (b.toNat : Int) := by rw [hb]; simp [IntKind.wrap, IntKind.bits, IntKind.signed]; omega
              have z1 : s.size ≤ 1099511627776 := by omega
              have z2 : ((⟨#[36]⟩ : ByteArray) ++ s ++ (⟨#[36, 123, 65, 125]⟩ : ByteArray)).size ≤ 1099511627776 := by rw [ByteArray.size_append, ByteArray.size_append]; show 1 + s.size + 4 ≤ _; omega
              clear hb
              go_wp2_with (first
                | (go_at_call 10; refine (vars_p _).mono ?_; rintro xx wn ⟨vn, rfl, hvn, bn⟩; have hSn := Lies.below (by assumption) bn; have hgn := KnG.step (W0 := W) (by assumption) bn; clear hS hg; have hS := hSn; have hg := hgn; clear hSn hgn bn)
                | (go_at_call 11; refine (ew_p _ b _ varL _ (by assumption) (KnG.e (W0 := W) (by assumption)) (by decide) varL_few (by assumption)).mono ?_; rintro xx wn ⟨rfl, bn⟩; have hSn := Lies.below (by assumption) bn; have hgn := KnG.step (W0 := W) (by assumption) bn; clear hS hg; have hS := hSn; have hg := hgn; clear hSn hgn bn)
                | (go_at_call 12; refine (ed_p _ b _ varL _ (by assumption) (KnG.e (W0 := W) (by assumption)) (by decide) varL_few (by assumption)).mono ?_; rintro xx wn ⟨rfl, bn⟩; have hSn := Lies.below (by assumption) bn; have hgn := KnG.step (W0 := W) (by assumption) bn; clear hS hg; have hS := hSn; have hg := hgn; clear hSn hgn bn)
                | (go_at_call 13; refine (expandnames_law _ b _ (by omega)).mono ?_; rintro xx wn ⟨rfl, bn⟩; have hSn := Lies.below (by assumption) bn; have hgn := KnG.step (W0 := W) (by assumption) bn; clear hS hg; have hS := hSn; have hg := hgn; clear hSn hgn bn))
              exact ⟨⟨c + 1, _, rfl, by go_num, by omega, hS, hg⟩, by simp [intOf]; omega⟩
            · have c1 : ¬ (c : Int) < 256 := by omega
              go_wp2
              exact ⟨⟨k + 1, _, rfl, by go_num, by omega, hS, hg⟩, by simp [intOf]; omega⟩
    · have d1 : ¬ (k : Int) < 3 := by omega
      go_wp2
      go_ret
      exact ⟨rfl, by rw [← hgS]; exact hg.b⟩
end Go.Proofs.YtjmekcakiacdfabGreatDoor

namespace Go.Proofs.YtjmekcakiacdfabGreatDoor
open Go Go.RowKit

set_option maxHeartbeats 8000000 in
set_option maxRecDepth 100000 in
theorem nested_p (W : World) (hE : ErrType W) : Calls Tryz.prog 8 #[] W fun x w' => x = .returned (.bool true) ∧ Below W.heap.size W w' := by
  have HG : Hid (KnG W W) := KnG.refl hE
  clear hE
  go_enter Tryz.func8, Tryz.ntmps8
  go_wp2
  go_loopw [1, 2, 3] (fun sv tv nv wr => ∃ (x y : ByteArray) (k : Nat), sv = .string x ∧ tv = .string y ∧ nv = .int .i64 k ∧ k ≤ 40 ∧ 1 ≤ x.size ∧ x.size ≤ 1 + 7 * k ∧ y.size ≤ 1 + 11 * k ∧ KnG W wr) (fun _ _ nv _ => 40 - (intOf nv).toNat)
  case atStart => exact ⟨_, _, 0, rfl, rfl, rfl, by omega, by decide, by decide, by decide, HG.out⟩
  case round =>
    obtain ⟨x, y, k, rfl, rfl, rfl, hk, hx1, hxm, hym, hg⟩ := hrel
    by_cases hlt : k < 40
    · have d1 : (k : Int) < 40 := by omega
      go_upto_region 8 with fail
      obtain ⟨x2, hx2⟩ : ∃ x2, x2 = (⟨#[36, 123, 66, 58, 45, 97]⟩ : ByteArray) ++ x ++ ⟨#[125]⟩ := ⟨_, rfl⟩
      obtain ⟨y2, hy2⟩ : ∃ y2, y2 = (⟨#[34, 36, 123, 65, 58, 43]⟩ : ByteArray) ++ y ++ ⟨#[39, 125, 39, 125, 34]⟩ := ⟨_, rfl⟩
      have sx : x2.size = x.size + 7 := by rw [hx2, ByteArray.size_append, ByteArray.size_append]; show 6 + x.size + 1 = _; omega
      have sy : y2.size = y.size + 11 := by rw [hy2, ByteArray.size_append, ByteArray.size_append]; show 6 + y.size + 5 = _; omega
      rw [← hx2, ← hy2]
      clear hx2 hy2
      have sX : x2.size ≤ 1099511627776 := by omega
      have sY : y2.size ≤ 1099511627776 := by omega
      have sXY : (x2 ++ y2).size ≤ 1099511627776 := by rw [ByteArray.size_append]; omega
      obtain ⟨xm, hxm2⟩ : ∃ xm, x2.size - 1 = xm := ⟨_, rfl⟩
      have wx : IntKind.i64.wrap ((x2.size : Int) - 1) = (xm : Int) := by rw [wrap_small _ (by omega) (by omega)]; omega
      have sE : (x2.extract 0 xm).size ≤ 1099511627776 := by rw [ByteArray.size_extract]; omega
      have e0 : (xm : Int) ≤ (x2.size : Int) := by omega
      have e1 : (0 : Int) ≤ (xm : Int) := by omega
      have e2 : xm ≤ x2.size := by omega
      have HSX : Hid (1 ≤ x2.size ∧ x2.size ≤ 1 + 7 * (k + 1) ∧ y2.size ≤ 1 + 11 * (k + 1)) := by unfold Hid; omega
      clear sx sy hxm2
      have hgd : KnG W wr.drew := hg.step ⟨rfl, rfl, rfl, Nat.le_refl _, fun _ _ => rfl⟩
      go_region_held (fun _ => True) (trivial) (first
        | (go_at_call 10; refine (vars_p _).mono ?_; rintro xx wn ⟨vn, rfl, hvn, bn⟩; have hgn := KnG.step (W0 := W) (by assumption) bn)
        | (go_at_call 11; refine (ewv_p _ _ _ (by assumption) (KnG.e (W0 := W) (by assumption)) (by assumption)).mono ?_; rintro xx wn ⟨rfl, bn⟩; have hgn := KnG.step (W0 := W) (by assumption) bn)
        | (go_at_call 12; refine (edv_p _ _ _ (by assumption) (KnG.e (W0 := W) (by assumption)) (by assumption)).mono ?_; rintro xx wn ⟨rfl, bn⟩; have hgn := KnG.step (W0 := W) (by assumption) bn)
        | (go_at_call 13; refine (env_p _ _ (by assumption)).mono ?_; rintro xx wn ⟨rfl, bn⟩; have hgn := KnG.step (W0 := W) (by assumption) bn))
      go_wp2
      all_goals exact ⟨⟨x2, y2, k + 1, rfl, rfl, by go_num, by omega, HSX.out.1, HSX.out.2.1, HSX.out.2.2, by assumption⟩, by simp [intOf]; omega⟩
    · have d1 : ¬ (k : Int) < 40 := by omega
      go_wp2
      go_loopw [4, 5, 6] (fun sv tv nv wr => ∃ (x y : ByteArray) (k : Nat), sv = .string x ∧ tv = .string y ∧ nv = .int .i64 k ∧ k ≤ 2000 ∧ x.size ≤ 5 * k ∧ y.size ≤ k ∧ KnG W wr) (fun _ _ nv _ => 2000 - (intOf nv).toNat)
      case atStart => exact ⟨_, _, 0, rfl, rfl, rfl, by omega, by decide, by decide, hg⟩
      case round =>
        clear hg
        obtain ⟨a, b, j, rfl, rfl, rfl, hj, ha, hb, hg⟩ := hrel
        by_cases hlt2 : j < 2000
        · have d2 : (j : Int) < 2000 := by omega
          have sa : (a ++ (⟨#[36, 123, 66, 58, 45]⟩ : ByteArray)).size = a.size + 5 := by rw [ByteArray.size_append]; rfl
          have sb : (b ++ (⟨#[125]⟩ : ByteArray)).size = b.size + 1 := by rw [ByteArray.size_append]; rfl
          go_wp2
          go_roundw
          case rel => exact ⟨_, _, j + 1, rfl, rfl, by go_num, by omega, by rw [sa]; omega, by rw [sb]; omega, hg⟩
          case measure => simp [intOf]; omega
        · have d2 : ¬ (j : Int) < 2000 := by omega
          have s1 : (a ++ (⟨#[113]⟩ : ByteArray) ++ b).size ≤ 1099511627776 := by rw [ByteArray.size_append, ByteArray.size_append]; show a.size + 1 + b.size ≤ _; omega
          have s2 : a.size ≤ 1099511627776 := by omega
          have s3 : (a ++ b).size ≤ 1099511627776 := by rw [ByteArray.size_append]; omega
          go_wp2_with (first
        | (go_at_call 10; refine (vars_p _).mono ?_; rintro xx wn ⟨vn, rfl, hvn, bn⟩; have hgn := KnG.step (W0 := W) (by assumption) bn)
        | (go_at_call 11; refine (ewv_p _ _ _ (by assumption) (KnG.e (W0 := W) (by assumption)) (by assumption)).mono ?_; rintro xx wn ⟨rfl, bn⟩; have hgn := KnG.step (W0 := W) (by assumption) bn)
        | (go_at_call 12; refine (edv_p _ _ _ (by assumption) (KnG.e (W0 := W) (by assumption)) (by assumption)).mono ?_; rintro xx wn ⟨rfl, bn⟩; have hgn := KnG.step (W0 := W) (by assumption) bn)
        | (go_at_call 13; refine (env_p _ _ (by assumption)).mono ?_; rintro xx wn ⟨rfl, bn⟩; have hgn := KnG.step (W0 := W) (by assumption) bn))
          go_ret
          exact ⟨rfl, KnG.b (by assumption)⟩
end Go.Proofs.YtjmekcakiacdfabGreatDoor

namespace Go.Proofs.YtjmekcakiacdfabGreatDoor
open Go Go.RowKit

def shL : List (ByteArray × ByteArray) := [(⟨#[97, 36, 65, 45, 36, 123, 65, 125, 98]⟩, ⟨#[97, 120, 45, 120, 98]⟩), (⟨#[36, 65, 66]⟩, ⟨#[]⟩), (⟨#[36, 65, 46, 66]⟩, ⟨#[120, 46, 66]⟩), (⟨#[36, 123, 65, 125, 66]⟩, ⟨#[120, 66]⟩), (⟨#[36, 123, 66, 58, 45, 121, 125]⟩, ⟨#[121]⟩), (⟨#[36, 123, 67, 58, 45, 121, 125]⟩, ⟨#[121]⟩), (⟨#[36, 123, 65, 58, 45, 121, 125]⟩, ⟨#[120]⟩), (⟨#[36, 123, 65, 58, 43, 121, 125]⟩, ⟨#[121]⟩), (⟨#[36, 123, 67, 58, 43, 121, 125]⟩, ⟨#[]⟩), (⟨#[36, 123, 67, 58, 45, 97, 36, 123, 65, 125, 98, 125, 99]⟩, ⟨#[97, 120, 98, 99]⟩), (⟨#[36, 123, 67, 58, 45, 34, 125, 34, 125]⟩, ⟨#[125]⟩), (⟨#[36, 123, 67, 58, 45, 92, 125, 125]⟩, ⟨#[125]⟩), (⟨#[36, 123, 65, 58, 43, 36, 123, 67, 58, 45, 122, 125, 125]⟩, ⟨#[122]⟩), (⟨#[39, 36, 65, 32, 34, 39]⟩, ⟨#[36, 65, 32, 34]⟩), (⟨#[34, 36, 65, 32, 39, 34]⟩, ⟨#[120, 32, 39]⟩), (⟨#[34, 92, 36, 65, 32, 92, 34, 32, 92, 92, 32, 92, 120, 34]⟩, ⟨#[36, 65, 32, 34, 32, 92, 32, 92, 120]⟩), (⟨#[92, 36, 65, 92, 32, 98, 92, 39]⟩, ⟨#[36, 65, 32, 98, 39]⟩), (⟨#[97, 34, 34, 98, 39, 39]⟩, ⟨#[97, 98]⟩), (⟨#[36, 68]⟩, ⟨#[36, 65, 32, 39, 113, 39]⟩), (⟨#[34, 36, 68, 34]⟩, ⟨#[36, 65, 32, 39, 113, 39]⟩), (⟨#[36]⟩, ⟨#[36]⟩), (⟨#[36, 36, 65]⟩, ⟨#[36, 120]⟩), (⟨#[36, 49]⟩, ⟨#[36, 49]⟩), (⟨#[97, 125, 98]⟩, ⟨#[97, 125, 98]⟩), (⟨#[92]⟩, ⟨#[92]⟩), (⟨#[]⟩, ⟨#[]⟩)]
def bdL : List (ByteArray × Nat) := [(⟨#[39, 97]⟩, 18), (⟨#[34, 97]⟩, 18), (⟨#[34, 97, 92, 34]⟩, 18), (⟨#[36, 123]⟩, 4), (⟨#[36, 123, 65]⟩, 4), (⟨#[36, 123, 49, 125]⟩, 4), (⟨#[36, 123, 125]⟩, 4), (⟨#[36, 123, 65, 58, 125]⟩, 4), (⟨#[36, 123, 65, 45, 98, 125]⟩, 4), (⟨#[36, 123, 65, 58, 45, 98]⟩, 4), (⟨#[34, 36, 123, 65]⟩, 4), (⟨#[36, 123, 65, 58, 45, 34, 98]⟩, 18), (⟨#[36, 123, 65, 58, 45, 39, 98, 125, 39]⟩, 4), (⟨#[36, 123, 65, 58, 45, 36, 123, 125, 39]⟩, 4)]
def shC : Array Value := (shL.flatMap fun p => [Value.string p.1, .string p.2]).toArray
def bdC : Array Value := (bdL.flatMap fun p => [Value.string p.1, .int .i64 p.2]).toArray
theorem shL_ans : (shL.all fun p => decide (wordL 92 (prL varL) (un p.1) = (0, un p.2)) && decide (p.1.size ≤ 20)) = true := by decide +kernel
theorem bdL_ans : (bdL.all fun p => decide (wordL 92 (prL varL) (un p.1) = (p.2, [])) && decide (p.1.size ≤ 20) && decide (1 ≤ p.2) && decide (p.2 ≤ 18)) = true := by decide +kernel
theorem sh_get (k : Nat) (h : k < 26) : ∃ a b : ByteArray, wordL 92 (prL varL) (un a) = (0, un b) ∧ a.size ≤ 20 ∧ shC[k * 2]? = some (.string a) ∧ shC[k * 2 + 1]? = some (.string b) := by
  have hk : k < shL.length := h
  have h1 := List.all_eq_true.1 shL_ans _ (List.getElem_mem hk)
  simp only [Bool.and_eq_true, decide_eq_true_eq] at h1
  refine ⟨_, _, h1.1, h1.2, ?_, ?_⟩
  · have : ∀ j < 26, shC[j * 2]? = (shL[j]?).map (fun p => Value.string p.1) := by
      intro j hj
      have : j = 0 ∨ j = 1 ∨ j = 2 ∨ j = 3 ∨ j = 4 ∨ j = 5 ∨ j = 6 ∨ j = 7 ∨ j = 8 ∨ j = 9 ∨ j = 10 ∨ j = 11 ∨ j = 12 ∨ j = 13 ∨ j = 14 ∨ j = 15 ∨ j = 16 ∨ j = 17 ∨ j = 18 ∨ j = 19 ∨ j = 20 ∨ j = 21 ∨ j = 22 ∨ j = 23 ∨ j = 24 ∨ j = 25 := by omega
      rcases this with rfl | rfl | rfl | rfl | rfl | rfl | rfl | rfl | rfl | rfl | rfl | rfl | rfl | rfl | rfl | rfl | rfl | rfl | rfl | rfl | rfl | rfl | rfl | rfl | rfl | rfl <;> rfl
    rw [this k h, List.getElem?_eq_getElem hk]; rfl
  · have : ∀ j < 26, shC[j * 2 + 1]? = (shL[j]?).map (fun p => Value.string p.2) := by
      intro j hj
      have : j = 0 ∨ j = 1 ∨ j = 2 ∨ j = 3 ∨ j = 4 ∨ j = 5 ∨ j = 6 ∨ j = 7 ∨ j = 8 ∨ j = 9 ∨ j = 10 ∨ j = 11 ∨ j = 12 ∨ j = 13 ∨ j = 14 ∨ j = 15 ∨ j = 16 ∨ j = 17 ∨ j = 18 ∨ j = 19 ∨ j = 20 ∨ j = 21 ∨ j = 22 ∨ j = 23 ∨ j = 24 ∨ j = 25 := by omega
      rcases this with rfl | rfl | rfl | rfl | rfl | rfl | rfl | rfl | rfl | rfl | rfl | rfl | rfl | rfl | rfl | rfl | rfl | rfl | rfl | rfl | rfl | rfl | rfl | rfl | rfl | rfl <;> rfl
    rw [this k h, List.getElem?_eq_getElem hk]; rfl
theorem bd_get (k : Nat) (h : k < 14) : ∃ (a : ByteArray) (n : Nat), wordL 92 (prL varL) (un a) = (n, []) ∧ a.size ≤ 20 ∧ 1 ≤ n ∧ n ≤ 18 ∧ bdC[k * 2]? = some (.string a) ∧ bdC[k * 2 + 1]? = some (.int .i64 n) := by
  have hk : k < bdL.length := h
  have h1 := List.all_eq_true.1 bdL_ans _ (List.getElem_mem hk)
  simp only [Bool.and_eq_true, decide_eq_true_eq] at h1
  refine ⟨_, _, h1.1.1.1, h1.1.1.2, h1.1.2, h1.2, ?_, ?_⟩
  · have : ∀ j < 14, bdC[j * 2]? = (bdL[j]?).map (fun p => Value.string p.1) := by
      intro j hj
      have : j = 0 ∨ j = 1 ∨ j = 2 ∨ j = 3 ∨ j = 4 ∨ j = 5 ∨ j = 6 ∨ j = 7 ∨ j = 8 ∨ j = 9 ∨ j = 10 ∨ j = 11 ∨ j = 12 ∨ j = 13 := by omega
      rcases this with rfl | rfl | rfl | rfl | rfl | rfl | rfl | rfl | rfl | rfl | rfl | rfl | rfl | rfl <;> rfl
    rw [this k h, List.getElem?_eq_getElem hk]; rfl
  · have : ∀ j < 14, bdC[j * 2 + 1]? = (bdL[j]?).map (fun p => Value.int .i64 p.2) := by
      intro j hj
      have : j = 0 ∨ j = 1 ∨ j = 2 ∨ j = 3 ∨ j = 4 ∨ j = 5 ∨ j = 6 ∨ j = 7 ∨ j = 8 ∨ j = 9 ∨ j = 10 ∨ j = 11 ∨ j = 12 ∨ j = 13 := by omega
      rcases this with rfl | rfl | rfl | rfl | rfl | rfl | rfl | rfl | rfl | rfl | rfl | rfl | rfl | rfl <;> rfl
    rw [this k h, List.getElem?_eq_getElem hk]; rfl
set_option maxHeartbeats 16000000 in
set_option maxRecDepth 100000 in
theorem shown_p (W : World) (hE : ErrType W) : Calls Tryz.prog 4 #[] W fun x w' => x = .returned (.bool true) ∧ Below W.heap.size W w' := by
  have HG := KnG.refl hE
  have hS := Lies.new W 23 shC
  have bs0 : Below W.heap.size W (W.alloc (.cells shC 23)) := (Below.refl _ W).alloc (Nat.le_refl _) _
  have hg0 := HG.step bs0
  clear HG hE
  go_enter Tryz.func4, Tryz.ntmps4
  go_wp2
  rw [show (W.alloc (.cells #[.string ⟨#[97, 36, 65, 45, 36, 123, 65, 125, 98]⟩, .string ⟨#[97, 120, 45, 120, 98]⟩, .string ⟨#[36, 65, 66]⟩, .string ⟨#[]⟩, .string ⟨#[36, 65, 46, 66]⟩, .string ⟨#[120, 46, 66]⟩, .string ⟨#[36, 123, 65, 125, 66]⟩, .string ⟨#[120, 66]⟩, .string ⟨#[36, 123, 66, 58, 45, 121, 125]⟩, .string ⟨#[121]⟩, .string ⟨#[36, 123, 67, 58, 45, 121, 125]⟩, .string ⟨#[121]⟩, .string ⟨#[36, 123, 65, 58, 45, 121, 125]⟩, .string ⟨#[120]⟩, .string ⟨#[36, 123, 65, 58, 43, 121, 125]⟩, .string ⟨#[121]⟩, .string ⟨#[36, 123, 67, 58, 43, 121, 125]⟩, .string ⟨#[]⟩, .string ⟨#[36, 123, 67, 58, 45, 97, 36, 123, 65, 125, 98, 125, 99]⟩, .string ⟨#[97, 120, 98, 99]⟩, .string ⟨#[36, 123, 67, 58, 45, 34, 125, 34, 125]⟩, .string ⟨#[125]⟩, .string ⟨#[36, 123, 67, 58, 45, 92, 125, 125]⟩, .string ⟨#[125]⟩, .string ⟨#[36, 123, 65, 58, 43, 36, 123, 67, 58, 45, 122, 125, 125]⟩, .string ⟨#[122]⟩, .string ⟨#[39, 36, 65, 32, 34, 39]⟩, .string ⟨#[36, 65, 32, 34]⟩, .string ⟨#[34, 36, 65, 32, 39, 34]⟩, .string ⟨#[120, 32, 39]⟩, .string ⟨#[34, 92, 36, 65, 32, 92, 34, 32, 92, 92, 32, 92, 120, 34]⟩, .string ⟨#[36, 65, 32, 34, 32, 92, 32, 92, 120]⟩, .string ⟨#[92, 36, 65, 92, 32, 98, 92, 39]⟩, .string ⟨#[36, 65, 32, 98, 39]⟩, .string ⟨#[97, 34, 34, 98, 39, 39]⟩, .string ⟨#[97, 98]⟩, .string ⟨#[36, 68]⟩, .string ⟨#[36, 65, 32, 39, 113, 39]⟩, .string ⟨#[34, 36, 68, 34]⟩, .string ⟨#[36, 65, 32, 39, 113, 39]⟩, .string ⟨#[36]⟩, .string ⟨#[36]⟩, .string ⟨#[36, 36, 65]⟩, .string ⟨#[36, 120]⟩, .string ⟨#[36, 49]⟩, .string ⟨#[36, 49]⟩, .string ⟨#[97, 125, 98]⟩, .string ⟨#[97, 125, 98]⟩, .string ⟨#[92]⟩, .string ⟨#[92]⟩, .string ⟨#[]⟩, .string ⟨#[]⟩] 23)) = W.alloc (.cells shC 23) from rfl]
  generalize (W.alloc (.cells shC 23)) = w0 at *
  generalize hgS : W.heap.size = gS at *
  clear bs0
  go_loopw [37] (fun kv wr => ∃ (k : Nat) (wz : World), wz = wr ∧ kv = .int .i64 k ∧ k ≤ 26 ∧ Lies wz gS 23 shC ∧ KnG W wz) (fun kv _ => 26 - (intOf kv).toNat)
  case atStart => exact ⟨0, _, rfl, rfl, by omega, hS, hg0⟩
  case round =>
    clear hS hg0
    obtain ⟨k, wz, hwz, rfl, hk, hS, hg⟩ := hrel
    subst hwz
    by_cases hlt : k < 26
    · have d1 : (k : Int) < 26 := by omega
      have d0 : (0 : Int) ≤ (k : Int) := by omega
      obtain ⟨a, b, hans, hsz, h0, h1⟩ := sh_get k hlt
      have has : a.size ≤ 1099511627776 := by omega
      have hc0 := hS.cell h0
      have hc1 := hS.cell h1
      have hrange : wz.rangeAt gS (k * 2) [.string a, .string b] := by
        intro c x hx
        rcases c with _ | _ | c
        · simp at hx; subst hx; exact hc0
        · simp at hx; subst hx; exact hc1
        · simp at hx
      have hWd : ∀ (w : World) (v : Value), PrsAt w v varL → Calls Tryz.prog 9 #[.string a, .int .u8 92, v] w fun x w' => x = .returned (.tuple #[.string b, .nilIface]) ∧ Below w.heap.size w w' := fun w v hv => by
        have h := word_p a 92 varL v w hv (FewQ.of ⟨by decide, varL_few⟩) (by omega)
        rw [hans, show bs (0, un b).2 = b from bs_un b, show erV (0, un b).1 = .nilIface from rfl] at h
        exact h
      have hq : (b.toList != b.toList) = false := by simp
      clear hans h0 h1 hc0 hc1
      go_upto_region 4 with (refine wpList_load_mid rfl 23 (.tmp 39) rfl gS (k * 2) rfl _ _ hrange Tryz.underlying23 rfl (by kernel_rfl) ?_)
      have hL := Lies.new wz 23 #[.string a, .string b]
      have bp : Below wz.heap.size wz (wz.alloc (.cells #[.string a, .string b] 23)) := (Below.refl _ wz).alloc (Nat.le_refl _) _
      have hSp := hS.below bp
      have hgp := hg.step bp
      generalize (wz.alloc (.cells #[.string a, .string b] 23)) = wp at *
      generalize wz.heap.size = gP at *
      clear hS hg hrange bp
      have hS := hSp
      have hg := hgp
      clear hSp hgp
      have x0 := hL.cell (i := 0) rfl
      have x1 := hL.cell (i := 1) rfl
      have bx : Below wp.heap.size wp wp.drew := ⟨rfl, rfl, rfl, Nat.le_refl _, fun _ _ => rfl⟩
      have hSx := hS.below bx
      have hLx := hL.below bx
      have hgx := hg.step bx
      clear hS hg hL x0 x1 bx
      have hS := hSx
      have hg := hgx
      have hL := hLx
      have x0 := hL.cell (i := 0) rfl
      have x1 := hL.cell (i := 1) rfl
      clear hSx hgx hLx
      go_region_held (fun w => w.cell? ⟨gP, 0, none⟩ = some (.string a)) (go_keep) (first
        | (go_at_call 10; refine (vars_p _).mono ?_; rintro xx wn ⟨vn, rfl, hvn, bn⟩; have hSn := Lies.below hS bn; have hLn := Lies.below hL bn; have hgn := KnG.step (W0 := W) hg bn; clear hS hg hL x0 x1; have hS := hSn; have hg := hgn; have hL := hLn; have x0 := hL.cell (i := 0) rfl; have x1 := hL.cell (i := 1) rfl; clear hSn hgn hLn bn)
        | (go_at_call 9; refine (hWd _ _ (by assumption)).mono ?_; rintro xx wn ⟨rfl, bn⟩; have hSn := Lies.below hS bn; have hLn := Lies.below hL bn; have hgn := KnG.step (W0 := W) hg bn; clear hS hg hL x0 x1; have hS := hSn; have hg := hgn; have hL := hLn; have x0 := hL.cell (i := 0) rfl; have x1 := hL.cell (i := 1) rfl; clear hSn hgn hLn bn)
        | (go_at_call 14; refine (hPl _ hg.e).mono ?_; rintro xx wn ⟨rfl, bn⟩; have hSn := Lies.below hS bn; have hLn := Lies.below hL bn; have hgn := KnG.step (W0 := W) hg bn; clear hS hg hL x0 x1; have hS := hSn; have hg := hgn; have hL := hLn; have x0 := hL.cell (i := 0) rfl; have x1 := hL.cell (i := 1) rfl; clear hSn hgn hLn bn)
        | (go_at_call 11; refine (ewv_p _ _ _ (by assumption) hg.e has).mono ?_; rintro xx wn ⟨rfl, bn⟩; have hSn := Lies.below hS bn; have hLn := Lies.below hL bn; have hgn := KnG.step (W0 := W) hg bn; clear hS hg hL x0 x1; have hS := hSn; have hg := hgn; have hL := hLn; have x0 := hL.cell (i := 0) rfl; have x1 := hL.cell (i := 1) rfl; clear hSn hgn hLn bn)
        | (go_at_call 12; refine (edv_p _ _ _ (by assumption) hg.e has).mono ?_; rintro xx wn ⟨rfl, bn⟩; have hSn := Lies.below hS bn; have hLn := Lies.below hL bn; have hgn := KnG.step (W0 := W) hg bn; clear hS hg hL x0 x1; have hS := hSn; have hg := hgn; have hL := hLn; have x0 := hL.cell (i := 0) rfl; have x1 := hL.cell (i := 1) rfl; clear hSn hgn hLn bn)
        | (go_at_call 13; refine (env_p _ _ has).mono ?_; rintro xx wn ⟨rfl, bn⟩; have hSn := Lies.below hS bn; have hLn := Lies.below hL bn; have hgn := KnG.step (W0 := W) hg bn; clear hS hg hL x0 x1; have hS := hSn; have hg := hgn; have hL := hLn; have x0 := hL.cell (i := 0) rfl; have x1 := hL.cell (i := 1) rfl; clear hSn hgn hLn bn))
      go_upto_region 5 with fail
      have bx : Below wn.heap.size wn wn.drew := ⟨rfl, rfl, rfl, Nat.le_refl _, fun _ _ => rfl⟩
      have hSx := hS.below bx
      have hLx := hL.below bx
      have hgx := hg.step bx
      clear hS hg hL x0 x1 bx
      have hS := hSx
      have hg := hgx
      have hL := hLx
      have x0 := hL.cell (i := 0) rfl
      have x1 := hL.cell (i := 1) rfl
      clear hSx hgx hLx
      go_region_held (fun w => w.cell? ⟨gP, 0, none⟩ = some (.string a) ∧ w.cell? ⟨gP, 1, none⟩ = some (.string b)) (go_keep) (first
        | (go_at_call 10; refine (vars_p _).mono ?_; rintro xx wn ⟨vn, rfl, hvn, bn⟩; have hSn := Lies.below hS bn; have hLn := Lies.below hL bn; have hgn := KnG.step (W0 := W) hg bn; clear hS hg hL x0 x1; have hS := hSn; have hg := hgn; have hL := hLn; have x0 := hL.cell (i := 0) rfl; have x1 := hL.cell (i := 1) rfl; clear hSn hgn hLn bn)
        | (go_at_call 9; refine (hWd _ _ (by assumption)).mono ?_; rintro xx wn ⟨rfl, bn⟩; have hSn := Lies.below hS bn; have hLn := Lies.below hL bn; have hgn := KnG.step (W0 := W) hg bn; clear hS hg hL x0 x1; have hS := hSn; have hg := hgn; have hL := hLn; have x0 := hL.cell (i := 0) rfl; have x1 := hL.cell (i := 1) rfl; clear hSn hgn hLn bn)
        | (go_at_call 14; refine (hPl _ hg.e).mono ?_; rintro xx wn ⟨rfl, bn⟩; have hSn := Lies.below hS bn; have hLn := Lies.below hL bn; have hgn := KnG.step (W0 := W) hg bn; clear hS hg hL x0 x1; have hS := hSn; have hg := hgn; have hL := hLn; have x0 := hL.cell (i := 0) rfl; have x1 := hL.cell (i := 1) rfl; clear hSn hgn hLn bn)
        | (go_at_call 11; refine (ewv_p _ _ _ (by assumption) hg.e has).mono ?_; rintro xx wn ⟨rfl, bn⟩; have hSn := Lies.below hS bn; have hLn := Lies.below hL bn; have hgn := KnG.step (W0 := W) hg bn; clear hS hg hL x0 x1; have hS := hSn; have hg := hgn; have hL := hLn; have x0 := hL.cell (i := 0) rfl; have x1 := hL.cell (i := 1) rfl; clear hSn hgn hLn bn)
        | (go_at_call 12; refine (edv_p _ _ _ (by assumption) hg.e has).mono ?_; rintro xx wn ⟨rfl, bn⟩; have hSn := Lies.below hS bn; have hLn := Lies.below hL bn; have hgn := KnG.step (W0 := W) hg bn; clear hS hg hL x0 x1; have hS := hSn; have hg := hgn; have hL := hLn; have x0 := hL.cell (i := 0) rfl; have x1 := hL.cell (i := 1) rfl; clear hSn hgn hLn bn)
        | (go_at_call 13; refine (env_p _ _ has).mono ?_; rintro xx wn ⟨rfl, bn⟩; have hSn := Lies.below hS bn; have hLn := Lies.below hL bn; have hgn := KnG.step (W0 := W) hg bn; clear hS hg hL x0 x1; have hS := hSn; have hg := hgn; have hL := hLn; have x0 := hL.cell (i := 0) rfl; have x1 := hL.cell (i := 1) rfl; clear hSn hgn hLn bn))
      go_wp2
      all_goals exact ⟨⟨k + 1, _, rfl, by go_num, by omega, hS, hg⟩, by simp [intOf]; omega⟩
    · have d1 : ¬ (k : Int) < 26 := by omega
      go_wp2
      rw [show (wz.alloc (.cells #[.string ⟨#[39, 97]⟩, .int .i64 18, .string ⟨#[34, 97]⟩, .int .i64 18, .string ⟨#[34, 97, 92, 34]⟩, .int .i64 18, .string ⟨#[36, 123]⟩, .int .i64 4, .string ⟨#[36, 123, 65]⟩, .int .i64 4, .string ⟨#[36, 123, 49, 125]⟩, .int .i64 4, .string ⟨#[36, 123, 125]⟩, .int .i64 4, .string ⟨#[36, 123, 65, 58, 125]⟩, .int .i64 4, .string ⟨#[36, 123, 65, 45, 98, 125]⟩, .int .i64 4, .string ⟨#[36, 123, 65, 58, 45, 98]⟩, .int .i64 4, .string ⟨#[34, 36, 123, 65]⟩, .int .i64 4, .string ⟨#[36, 123, 65, 58, 45, 34, 98]⟩, .int .i64 18, .string ⟨#[36, 123, 65, 58, 45, 39, 98, 125, 39]⟩, .int .i64 4, .string ⟨#[36, 123, 65, 58, 45, 36, 123, 125, 39]⟩, .int .i64 4] 33)) = wz.alloc (.cells bdC 33) from rfl]
      have hS2 := Lies.new wz 33 bdC
      have hg2 := hg.step ((Below.refl _ wz).alloc (Nat.le_refl _) (.cells bdC 33))
      generalize (wz.alloc (.cells bdC 33)) = w9 at *
      generalize wz.heap.size = gB at *
      clear hS hg d1 hlt
      go_loopw [93] (fun kv wr => ∃ (k : Nat) (wz : World), wz = wr ∧ kv = .int .i64 k ∧ k ≤ 14 ∧ Lies wz gB 33 bdC ∧ KnG W wz) (fun kv _ => 14 - (intOf kv).toNat)
      case atStart => exact ⟨0, _, rfl, rfl, by omega, hS2, hg2⟩
      case round =>
        clear hS2 hg2
        obtain ⟨k, wz, hwz, rfl, hk, hS, hg⟩ := hrel
        subst hwz
        by_cases hlt : k < 14
        · have d1 : (k : Int) < 14 := by omega
          have d0 : (0 : Int) ≤ (k : Int) := by omega
          obtain ⟨a, n, hans, hsz, hn1, hn18, h0, h1⟩ := bd_get k hlt
          have has : a.size ≤ 1099511627776 := by omega
          have hc0 := hS.cell h0
          have hc1 := hS.cell h1
          have hrange : wz.rangeAt gB (k * 2) [.string a, .int .i64 n] := by
            intro c x hx
            rcases c with _ | _ | c
            · simp at hx; subst hx; exact hc0
            · simp at hx; subst hx; exact hc1
            · simp at hx
          have hWd : ∀ (w : World) (v : Value), PrsAt w v varL → Calls Tryz.prog 9 #[.string a, .int .u8 92, v] w fun x w' => x = .returned (.tuple #[.string ⟨#[]⟩, .iface 54 (.int .i64 n)]) ∧ Below w.heap.size w w' := fun w v hv => by
            have h := word_p a 92 varL v w hv (FewQ.of ⟨by decide, varL_few⟩) (by omega)
            rw [hans, show erV (n, ([] : List UInt8)).1 = .iface 54 (.int .i64 n) from by unfold erV; exact if_neg (by show n ≠ 0; omega)] at h
            exact h
          have hPl : ∀ w : World, ErrType w → Calls Tryz.prog 14 #[.iface 54 (.int .i64 n), .int .i64 n] w fun x w' => x = .returned (.bool true) ∧ Below w.heap.size w w' := fun w hE => plain_some (n : Int) (by omega) (by omega) w hE
          clear hans h0 h1 hc0 hc1
          go_upto_region 11 with (refine wpList_load_mid rfl 33 (.tmp 95) rfl gB (k * 2) rfl _ _ hrange Tryz.underlying33 rfl (by kernel_rfl) ?_)
          have hL := Lies.new wz 33 #[.string a, .int .i64 n]
          have bp : Below wz.heap.size wz (wz.alloc (.cells #[.string a, .int .i64 n] 33)) := (Below.refl _ wz).alloc (Nat.le_refl _) _
          have hSp := hS.below bp
          have hgp := hg.step bp
          generalize (wz.alloc (.cells #[.string a, .int .i64 n] 33)) = wp at *
          generalize wz.heap.size = gP at *
          clear hS hg hrange bp
          have hS := hSp
          have hg := hgp
          clear hSp hgp
          have x0 := hL.cell (i := 0) rfl
          have x1 := hL.cell (i := 1) rfl
          have bx : Below wp.heap.size wp wp.drew := ⟨rfl, rfl, rfl, Nat.le_refl _, fun _ _ => rfl⟩
          have hSx := hS.below bx
          have hLx := hL.below bx
          have hgx := hg.step bx
          clear hS hg hL x0 x1 bx
          have hS := hSx
          have hg := hgx
          have hL := hLx
          have x0 := hL.cell (i := 0) rfl
          have x1 := hL.cell (i := 1) rfl
          clear hSx hgx hLx
          go_region_held (fun w => w.cell? ⟨gP, 0, none⟩ = some (.string a)) (go_keep) (first
            | (go_at_call 10; refine (vars_p _).mono ?_; rintro xx wn ⟨vn, rfl, hvn, bn⟩; have hSn := Lies.below hS bn; have hLn := Lies.below hL bn; have hgn := KnG.step (W0 := W) hg bn; clear hS hg hL x0 x1; have hS := hSn; have hg := hgn; have hL := hLn; have x0 := hL.cell (i := 0) rfl; have x1 := hL.cell (i := 1) rfl; clear hSn hgn hLn bn)
            | (go_at_call 9; refine (hWd _ _ (by assumption)).mono ?_; rintro xx wn ⟨rfl, bn⟩; have hSn := Lies.below hS bn; have hLn := Lies.below hL bn; have hgn := KnG.step (W0 := W) hg bn; clear hS hg hL x0 x1; have hS := hSn; have hg := hgn; have hL := hLn; have x0 := hL.cell (i := 0) rfl; have x1 := hL.cell (i := 1) rfl; clear hSn hgn hLn bn)
            | (go_at_call 14; refine (hPl _ hg.e).mono ?_; rintro xx wn ⟨rfl, bn⟩; have hSn := Lies.below hS bn; have hLn := Lies.below hL bn; have hgn := KnG.step (W0 := W) hg bn; clear hS hg hL x0 x1; have hS := hSn; have hg := hgn; have hL := hLn; have x0 := hL.cell (i := 0) rfl; have x1 := hL.cell (i := 1) rfl; clear hSn hgn hLn bn)
            | (go_at_call 11; refine (ewv_p _ _ _ (by assumption) hg.e has).mono ?_; rintro xx wn ⟨rfl, bn⟩; have hSn := Lies.below hS bn; have hLn := Lies.below hL bn; have hgn := KnG.step (W0 := W) hg bn; clear hS hg hL x0 x1; have hS := hSn; have hg := hgn; have hL := hLn; have x0 := hL.cell (i := 0) rfl; have x1 := hL.cell (i := 1) rfl; clear hSn hgn hLn bn)
            | (go_at_call 12; refine (edv_p _ _ _ (by assumption) hg.e has).mono ?_; rintro xx wn ⟨rfl, bn⟩; have hSn := Lies.below hS bn; have hLn := Lies.below hL bn; have hgn := KnG.step (W0 := W) hg bn; clear hS hg hL x0 x1; have hS := hSn; have hg := hgn; have hL := hLn; have x0 := hL.cell (i := 0) rfl; have x1 := hL.cell (i := 1) rfl; clear hSn hgn hLn bn)
            | (go_at_call 13; refine (env_p _ _ has).mono ?_; rintro xx wn ⟨rfl, bn⟩; have hSn := Lies.below hS bn; have hLn := Lies.below hL bn; have hgn := KnG.step (W0 := W) hg bn; clear hS hg hL x0 x1; have hS := hSn; have hg := hgn; have hL := hLn; have x0 := hL.cell (i := 0) rfl; have x1 := hL.cell (i := 1) rfl; clear hSn hgn hLn bn))
          go_upto_region 12 with fail
          have bx : Below wn.heap.size wn wn.drew := ⟨rfl, rfl, rfl, Nat.le_refl _, fun _ _ => rfl⟩
          have hSx := hS.below bx
          have hLx := hL.below bx
          have hgx := hg.step bx
          clear hS hg hL x0 x1 bx
          have hS := hSx
          have hg := hgx
          have hL := hLx
          have x0 := hL.cell (i := 0) rfl
          have x1 := hL.cell (i := 1) rfl
          clear hSx hgx hLx
          go_region_held (fun w => w.cell? ⟨gP, 0, none⟩ = some (.string a) ∧ w.cell? ⟨gP, 1, none⟩ = some (.int .i64 n)) (go_keep) (first
            | (go_at_call 10; refine (vars_p _).mono ?_; rintro xx wn ⟨vn, rfl, hvn, bn⟩; have hSn := Lies.below hS bn; have hLn := Lies.below hL bn; have hgn := KnG.step (W0 := W) hg bn; clear hS hg hL x0 x1; have hS := hSn; have hg := hgn; have hL := hLn; have x0 := hL.cell (i := 0) rfl; have x1 := hL.cell (i := 1) rfl; clear hSn hgn hLn bn)
            | (go_at_call 9; refine (hWd _ _ (by assumption)).mono ?_; rintro xx wn ⟨rfl, bn⟩; have hSn := Lies.below hS bn; have hLn := Lies.below hL bn; have hgn := KnG.step (W0 := W) hg bn; clear hS hg hL x0 x1; have hS := hSn; have hg := hgn; have hL := hLn; have x0 := hL.cell (i := 0) rfl; have x1 := hL.cell (i := 1) rfl; clear hSn hgn hLn bn)
            | (go_at_call 14; refine (hPl _ hg.e).mono ?_; rintro xx wn ⟨rfl, bn⟩; have hSn := Lies.below hS bn; have hLn := Lies.below hL bn; have hgn := KnG.step (W0 := W) hg bn; clear hS hg hL x0 x1; have hS := hSn; have hg := hgn; have hL := hLn; have x0 := hL.cell (i := 0) rfl; have x1 := hL.cell (i := 1) rfl; clear hSn hgn hLn bn)
            | (go_at_call 11; refine (ewv_p _ _ _ (by assumption) hg.e has).mono ?_; rintro xx wn ⟨rfl, bn⟩; have hSn := Lies.below hS bn; have hLn := Lies.below hL bn; have hgn := KnG.step (W0 := W) hg bn; clear hS hg hL x0 x1; have hS := hSn; have hg := hgn; have hL := hLn; have x0 := hL.cell (i := 0) rfl; have x1 := hL.cell (i := 1) rfl; clear hSn hgn hLn bn)
            | (go_at_call 12; refine (edv_p _ _ _ (by assumption) hg.e has).mono ?_; rintro xx wn ⟨rfl, bn⟩; have hSn := Lies.below hS bn; have hLn := Lies.below hL bn; have hgn := KnG.step (W0 := W) hg bn; clear hS hg hL x0 x1; have hS := hSn; have hg := hgn; have hL := hLn; have x0 := hL.cell (i := 0) rfl; have x1 := hL.cell (i := 1) rfl; clear hSn hgn hLn bn)
            | (go_at_call 13; refine (env_p _ _ has).mono ?_; rintro xx wn ⟨rfl, bn⟩; have hSn := Lies.below hS bn; have hLn := Lies.below hL bn; have hgn := KnG.step (W0 := W) hg bn; clear hS hg hL x0 x1; have hS := hSn; have hg := hgn; have hL := hLn; have x0 := hL.cell (i := 0) rfl; have x1 := hL.cell (i := 1) rfl; clear hSn hgn hLn bn))
          go_wp2
          all_goals exact ⟨⟨k + 1, _, rfl, by go_num, by omega, hS, hg⟩, by simp [intOf]; omega⟩
        · have d1 : ¬ (k : Int) < 14 := by omega
          have hww := works_x
          go_wp2_with (go_at_call 15; refine (hww _).mono ?_; rintro x w8 ⟨rfl, b8⟩)
          go_ret
          exact ⟨rfl, (hg.step b8).b⟩
end Go.Proofs.YtjmekcakiacdfabGreatDoor

namespace Go.Proofs.YtjmekcakiacdfabGreatDoor
open Go Go.RowKit

/-- 'append' of a drawn region. -/
theorem wp_append_row {P : Program} (w : World) {o : Oper} {a : Act} {K : Act → World → Prop} {Q : Exit → Act → World → Prop}
    (s x : Operand) (t : TypeId) (hop : o.op = Op.call { callee := Callee.builtin Builtin.append, args := #[s, x], argTypes := #[t, t] })
    (base : Nat) (e : TypeId) (i : TypeInfo) (z : Value) (size bytes : Nat) (h1 : P.underlying t = some (.slice e)) (h2 : P.info? e = some i) (h3 : i.zero = some z) (h4 : i.size = size) (h5 : i.bytes = bytes) (h6 : z.cells.size = size) (h7 : 0 < size)
    (v : Value) (k : Nat) (xs : List Value) (hs : a.eval s = v) (hown : w.ownsRow base e size v k xs) (ad : Addr) (m c : Nat) (news : List Value) (hx : a.eval x = .slice (some ad) m c) (hn : news.length = m * size)
    (hc : ∀ j u, news[j]? = some u → w.cell? (ad.add j) = some u) (h1c : ∀ u ∈ news, u.oneCell' = true) (b1 : k + m ≤ maxLen) (b2 : (k + m) * bytes ≤ 140737488355328) (b3 : base ≤ w.heap.size)
    (hK : ∀ v' w', w'.ownsRow base e size v' (k + m) (xs ++ news) → w.grownBy w' v.ownBlock → K (a.put o.dst v') w') :
    Oper.wp P o a w K Q := by
  obtain ⟨v', w', hr, r1, r2, _, _⟩ := run_append_own_at (P := P) w base t o.type e i z size bytes h1 h2 h3 h4 h5 h6 h7 v k xs hown ad m c news hn hc h1c b1 b2 b3
  unfold Oper.wp execOp
  simp only [hop, resolve, invoke, builtin, Sem.run_bind, Sem.run_pure, Result.andThen_ok, List.map_toArray, List.map_cons, List.map_nil, hs, hx, hr]
  exact hK v' w' r1 r2
/-- A row of texts, each of at most so many bytes. -/
structure TxR (W : World) (B : Nat) (v : Value) (xs : List ByteArray) (m : Nat) : Prop where
  own : W.ownsRow B 9 1 v xs.length (xs.map Value.string)
  sz : ∀ x ∈ xs, x.size ≤ m
theorem TxR.lt {W : World} {B : Nat} {v : Value} {xs : List ByteArray} {m : Nat} (h : TxR W B v xs m) (j : Nat) (hj : v.ownBlock = some j) : B ≤ j ∧ j < W.heap.size := ⟨own_ge8 h.own j hj, own_lt8 h.own j hj⟩
theorem TxR.keep {W W2 : World} {B : Nat} {v : Value} {xs : List ByteArray} {m : Nat} (h : TxR W B v xs m) (hk : ∀ j, v.ownBlock = some j → W2.heap[j]? = W.heap[j]?) : TxR W2 B v xs m := ⟨own_keepN h.own hk, h.sz⟩
theorem TxR.below {W W2 : World} {B : Nat} {v : Value} {xs : List ByteArray} {m : Nat} (h : TxR W B v xs m) (hb : Below W.heap.size W W2) : TxR W2 B v xs m := h.keep (fun j hj => hb.block j (h.lt j hj).2)
theorem TxR.mono {W : World} {B B2 : Nat} {v : Value} {xs : List ByteArray} {m : Nat} (h : TxR W B v xs m) (hB : B2 ≤ B) : TxR W B2 v xs m := by
  refine ⟨⟨h.own.1, ?_⟩, h.sz⟩
  rcases h.own.2 with h1 | ⟨g, cap, cur, e, hb, r⟩
  · exact .inl h1
  · exact .inr ⟨g, cap, cur, e, by omega, r⟩
theorem TxR.nil (W : World) (B m : Nat) : TxR W B (.slice none 0 0) [] m := ⟨⟨rfl, .inl ⟨rfl, rfl⟩⟩, fun x hx => by simp at hx⟩
theorem TxR.form {W : World} {B : Nat} {v : Value} {xs : List ByteArray} {m : Nat} (h : TxR W B v xs m) : ∃ va vc, v = .slice va xs.length vc := by
  obtain ⟨va, vc, _, h1, _⟩ := own_form h.own
  exact ⟨va, vc, h1⟩
theorem TxR.get {W : World} {B : Nat} {v : Value} {xs : List ByteArray} {m : Nat} (h : TxR W B v xs m) (i : Nat) (hi : i < xs.length) : ∃ g c, v = .slice (some ⟨g, 0, none⟩) xs.length c ∧ W.cell? ⟨g, i, none⟩ = some (.string xs[i]) ∧ xs[i].size ≤ m := by
  rcases h.own.2 with ⟨_, h0⟩ | ⟨g, cap, cur, hv, _⟩
  · omega
  · subst hv
    refine ⟨g, cap, rfl, ?_, h.sz _ (List.getElem_mem hi)⟩
    rw [h.own.cellAt i (by omega), List.getElem?_map, List.getElem?_eq_getElem hi]; rfl
theorem below_grown {n : Nat} {A B C : World} {r : Option Nat} (h : Below n A B) (g : B.grownBy C r) (hn : n ≤ B.heap.size) (hr : ∀ j, r = some j → n ≤ j) : Below n A C := h.grown g hn hr
set_option maxHeartbeats 8000000 in
set_option maxRecDepth 100000 in
theorem short_p (W : World) (hE : ErrType W) : Calls Tryz.prog 5 #[] W fun x w' => x = .returned (.bool true) ∧ Below W.heap.size W w' := by
  obtain ⟨i0, hi, z0, z1, z2⟩ := info_parts info_str
  have HG : Hid (KnG W W) := KnG.refl hE
  clear hE
  go_enter Tryz.func5, Tryz.ntmps5
  go_wp2
  have hl0 : TxR (W.alloc (.cells #[.string ⟨#[]⟩] 9)) W.heap.size (.slice (some ⟨W.heap.size, 0, none⟩) 1 1) [⟨#[]⟩] 0 := by
    refine ⟨⟨rfl, .inr ⟨W.heap.size, 1, #[.string ⟨#[]⟩], rfl, Nat.le_refl _, World.alloc_heap_new W _, Nat.le_refl _, by unfold maxLen; omega, rfl, rfl⟩⟩, fun x hx => ?_⟩
    simp at hx; subst hx; decide
  have hg0 : KnG W (W.alloc (.cells #[.string ⟨#[]⟩] 9)) := HG.out.step ((Below.refl _ W).alloc (Nat.le_refl _) _)
  go_loopw [1, 2] (fun lv nv wr => ∃ (xs : List ByteArray) (k : Nat) (wz : World), wz = wr ∧ TxR wz W.heap.size lv xs k ∧ nv = .int .i64 k ∧ k ≤ 4 ∧ xs.length ≤ 10 ^ k ∧ KnG W wz) (fun _ nv _ => 4 - (intOf nv).toNat)
  case atStart => exact ⟨_, 0, _, rfl, hl0, rfl, by omega, by simp, hg0⟩
  case round =>
    clear hl0 hg0
    obtain ⟨xs, k, wz, hwz, hl, rfl, hk, hxl, hg⟩ := hrel
    subst hwz
    obtain ⟨la, lc, rfl⟩ := hl.form
    by_cases hlt : k < 4
    · have d1 : (k : Int) < 4 := by omega
      have hxm : xs.length ≤ 1000 := Nat.le_trans hxl (Nat.le_trans (Nat.pow_le_pow_right (by decide) (by omega : k ≤ 3)) (by decide))
      have HL : Hid (TxR wz W.heap.size (.slice la xs.length lc) xs k) := hl
      have HGz : Hid (KnG W wz) := hg
      go_wp2
      have hn0 : TxR wz wz.heap.size (.slice none 0 0) [] (k + 1) := TxR.nil _ _ _
      go_loopw [3, 4] (fun nv iv wr => ∃ (ys : List ByteArray) (i : Nat) (wy : World), wy = wr ∧ TxR wy wz.heap.size nv ys (k + 1) ∧ iv = .int .i64 i ∧ i ≤ xs.length ∧ Hid (ys.length = 10 * i) ∧ TxR wy W.heap.size (.slice la xs.length lc) xs k ∧ KnG W wy ∧ Below wz.heap.size wz wy) (fun _ iv _ => xs.length - (intOf iv).toNat)
      case atStart => exact ⟨_, 0, _, rfl, hn0, rfl, by omega, (by unfold Hid; simp), hl, hg, Below.refl _ _⟩
      case round =>
        clear hn0
        obtain ⟨ys, i, wy, hwy, hn, rfl, hi1, hyl, hly, hgy, hby⟩ := hrel
        subst hwy
        obtain ⟨na, nc, rfl⟩ := hn.form
        by_cases hil : i < xs.length
        · have i1 : (i : Int) < (xs.length : Int) := by omega
          go_wp2
          go_loopw [3, 5] (fun nv jv wr => ∃ (zs : List ByteArray) (j : Nat) (wx : World), wx = wr ∧ TxR wx wz.heap.size nv zs (k + 1) ∧ jv = .int .i64 j ∧ j ≤ 10 ∧ Hid (zs.length = 10 * i + j) ∧ TxR wx W.heap.size (.slice la xs.length lc) xs k ∧ KnG W wx ∧ Below wz.heap.size wz wx) (fun _ jv _ => 10 - (intOf jv).toNat)
          case atStart => exact ⟨_, 0, _, rfl, hn, rfl, by omega, hyl, hly, hgy, hby⟩
          case round =>
            clear hn hly hgy hby
            obtain ⟨zs, j, wx, hwx, hn, rfl, hj, hzl, hlx, hgx, hbx⟩ := hrel
            subst hwx
            by_cases hjl : j < 10
            · have j1 : (j : Int) < 10 := by omega
              obtain ⟨g, c, hgc, hcell, hsz⟩ := hlx.get i hil
              obtain ⟨rfl, rfl⟩ : la = some ⟨g, 0, none⟩ ∧ lc = c := by injection hgc with a b c; exact ⟨a, c⟩
              have j0 : (0 : Int) ≤ (j : Int) := by omega
              have i1 : (i : Int) < (xs.length : Int) := by omega
              have i00 : (0 : Int) ≤ (i : Int) := by omega
              have j2 : (j : Int) ≤ (j : Int) + 1 := by omega
              have j3 : (j : Int) + 1 ≤ 10 := by omega
              have j4 : IntKind.i64.wrap ((j : Int) + 1) = (j : Int) + 1 := by rw [wrap_small _ (by omega) (by omega)]
              obtain ⟨na2, nc2, rfl⟩ := hn.form
              go_upto_region 12 with fail
              obtain ⟨x, hx⟩ : ∃ x, xs[i] = x := ⟨_, rfl⟩
              rw [hx] at hcell hsz
              have HC : Hid (∀ W', Below wz.heap.size wz W' → W'.cell? ⟨g, i, none⟩ = some (.string x)) := fun W' hb => by
                obtain ⟨g2, c2, e, h1, _⟩ := (TxR.below HL.out hb).get i hil
                injection e with e1 _ _
                injection e1 with e1
                injection e1 with e1 _ _
                rw [e1, ← hx]; exact h1
              have hbd : Below wz.heap.size wz wx.drew := hbx.trans ⟨rfl, rfl, rfl, Nat.le_refl _, fun _ _ => rfl⟩
              have hsd := hbd.size
              have hsx := hbx.size
              have hbd2 : ∀ o, Below wz.heap.size wz (wx.alloc o).drew := fun o => (hbx.alloc hsx o).trans ⟨rfl, rfl, rfl, Nat.le_refl _, fun _ _ => rfl⟩
              have m1 : ¬ 9223372036854775807 < x.size + (min (j + 1) 10 - j) := by omega
              have m2 : ¬ 9223372036854775807 < x.size + 1 := by omega
              have m3 : ¬ 9223372036854775807 < x.size + (j + 1 - j) := by omega
              have m4 : ¬ 9223372036854775807 < x.size + (min (j + 1) (⟨#[36, 65, 123, 125, 58, 45, 43, 39, 34, 92]⟩ : ByteArray).size - j) := by rw [show (⟨#[36, 65, 123, 125, 58, 45, 43, 39, 34, 92]⟩ : ByteArray).size = 10 from rfl]; omega
              have m5 : ¬ 9223372036854775807 < x.size + ((⟨#[36, 65, 123, 125, 58, 45, 43, 39, 34, 92]⟩ : ByteArray).extract j (j + 1)).size := by rw [ByteArray.size_extract]; exact m4
              go_region_held3 (fun W' => W'.cell? ⟨g, i, none⟩ = some (.string x))
                (first
                  | exact HC.out _ hbd
                  | exact HC.out _ (hbd.alloc hsd _)
                  | exact HC.out _ (hbd2 _)
                  | exact HC.out _ hb9
                  | go_keep)
                ((rw [if_pos (by rfl)]; refine wp_append_row _ _ _ 36 rfl wz.heap.size 9 i0 (.string ⟨#[]⟩) 1 16 Tryz.underlying36 hi z0 z1 z2 rfl (by decide) _ _ _ rfl (hn.own.alloc _) ⟨wx.heap.size, 0, none⟩ 1 1 [.string _] rfl rfl (cell_one_new _ _ _) (by intro u hu; simp at hu; subst hu; rfl) (by have := hzl.out; unfold maxLen; omega) (by have := hzl.out; omega) (by simp; omega) ?_; intro v9 w9 hown9 hgrow9; have hb9 : Below wz.heap.size wz w9 := (hbd2 _).grown hgrow9 (by have := (hbd2 (.cells #[.string (x ++ (⟨#[36, 65, 123, 125, 58, 45, 43, 39, 34, 92]⟩ : ByteArray).extract j (j + 1))] 9)).size; exact this) (fun j hj => (own_ge8 hn.own j hj))))
              go_wp2
              go_roundw
              case rel =>
                refine ⟨zs ++ [x ++ (⟨#[36, 65, 123, 125, 58, 45, 43, 39, 34, 92]⟩ : ByteArray).extract j (j + 1)], j + 1, _, rfl, ⟨by simpa using hown9, fun y hy => ?_⟩, by go_num, by omega, (by have := hzl.out; unfold Hid; simp; omega), TxR.below HL.out hb9, HGz.out.step hb9, hb9⟩
                rcases List.mem_append.1 hy with hy | hy
                · exact hn.sz y hy
                · simp at hy
                  subst hy
                  rw [ByteArray.size_append, ByteArray.size_extract]
                  have : (⟨#[36, 65, 123, 125, 58, 45, 43, 39, 34, 92]⟩ : ByteArray).size = 10 := rfl
                  omega
              case measure => simp [intOf]; omega
            · have j1 : ¬ (j : Int) < 10 := by omega
              go_wp2
              exact ⟨⟨zs, i + 1, _, rfl, hn, by go_num, by omega, (by have := hzl.out; unfold Hid; omega), hlx, hgx, hbx⟩, by simp [intOf]; omega⟩
        · have i1 : ¬ (i : Int) < (xs.length : Int) := by omega
          have hyb : ys.length ≤ 10000 := by have := hyl.out; omega
          go_wp2
          go_loopw [6] (fun iv wr => ∃ (i : Nat) (wx : World), wx = wr ∧ iv = .int .i64 i ∧ i ≤ ys.length ∧ TxR wx wz.heap.size (.slice na ys.length nc) ys (k + 1) ∧ KnG W wx) (fun iv _ => ys.length - (intOf iv).toNat)
          case atStart => exact ⟨0, _, rfl, rfl, by omega, hn, hgy⟩
          case round =>
            clear hn hgy hly
            obtain ⟨i, wx, hwx, rfl, hi, hn, hg⟩ := hrel
            subst hwx
            by_cases hil : i < ys.length
            · have d1 : (i : Int) < (ys.length : Int) := by omega
              have d0 : (0 : Int) ≤ (i : Int) := by omega
              obtain ⟨g, c, hgc, hcell, hsz⟩ := hn.get i hil
              obtain ⟨rfl, rfl⟩ : na = some ⟨g, 0, none⟩ ∧ nc = c := by injection hgc with a b c; exact ⟨a, c⟩
              obtain ⟨x, hx⟩ : ∃ x, ys[i] = x := ⟨_, rfl⟩
              rw [hx] at hcell hsz
              have z0 : x.size ≤ 1099511627776 := by omega
              have z1 : ((⟨#[36, 123, 66, 58, 45]⟩ : ByteArray) ++ x ++ (⟨#[125, 120]⟩ : ByteArray)).size ≤ 1099511627776 := by rw [ByteArray.size_append, ByteArray.size_append]; show 5 + x.size + 2 ≤ _; omega
              have z2 : ((⟨#[36, 123, 65, 58, 43]⟩ : ByteArray) ++ x ++ (⟨#[125, 39]⟩ : ByteArray)).size ≤ 1099511627776 := by rw [ByteArray.size_append, ByteArray.size_append]; show 5 + x.size + 2 ≤ _; omega
              have z3 : ((⟨#[34]⟩ : ByteArray) ++ x ++ (⟨#[34, 121]⟩ : ByteArray)).size ≤ 1099511627776 := by rw [ByteArray.size_append, ByteArray.size_append]; show 1 + x.size + 2 ≤ _; omega
              clear hx hgc
              have hm : ∀ n : Int, (Int.tmod (i : Int) 3 == n) = decide ((i : Int) % 3 = n) := fun n => by rw [Int.tmod_eq_emod_of_nonneg (by omega), Bool.eq_iff_iff, beq_iff_eq, decide_eq_true_iff]
              have hm2 : ∀ n : Int, ((i : Int) % 3 == n) = decide ((i : Int) % 3 = n) := fun n => by rw [Bool.eq_iff_iff, beq_iff_eq, decide_eq_true_iff]
              have hmc : (i : Int) % 3 = 0 ∨ (i : Int) % 3 = 1 ∨ (i : Int) % 3 = 2 := by omega
              rcases hmc with h3 | h3 | h3
              all_goals (
                have q0 := hm 0
                have q1 := hm 1
                have q2 := hm 2
                have p0 := h3
                have p1 : Int.tmod (i : Int) 3 = (i : Int) % 3 := Int.tmod_eq_emod_of_nonneg (by omega)
                rw [h3] at p1
                rw [h3] at q0 q1 q2
                simp only [Int.reduceEq, decide_true, decide_false] at q0 q1 q2
                clear hm2
                have i1w : (i : Int) < 10000 := by omega
                clear hm h3
                go_wp2_with (first
                  | (go_at_call 10; refine (vars_p _).mono ?_; rintro xx wn ⟨vn, rfl, hvn, bn⟩; have hSn := TxR.below (by assumption) bn; have hgn := KnG.step (W0 := W) (by assumption) bn; clear hn hg; have hn := hSn; have hg := hgn; clear hSn hgn bn)
                  | (go_at_call 11; refine (ewv_p _ _ _ (by assumption) (KnG.e (W0 := W) (by assumption)) (by assumption)).mono ?_; rintro xx wn ⟨rfl, bn⟩; have hSn := TxR.below (by assumption) bn; have hgn := KnG.step (W0 := W) (by assumption) bn; clear hn hg; have hn := hSn; have hg := hgn; clear hSn hgn bn)
                  | (go_at_call 12; refine (edv_p _ _ _ (by assumption) (KnG.e (W0 := W) (by assumption)) (by assumption)).mono ?_; rintro xx wn ⟨rfl, bn⟩; have hSn := TxR.below (by assumption) bn; have hgn := KnG.step (W0 := W) (by assumption) bn; clear hn hg; have hn := hSn; have hg := hgn; clear hSn hgn bn)
                  | (go_at_call 13; refine (env_p _ _ (by assumption)).mono ?_; rintro xx wn ⟨rfl, bn⟩; have hSn := TxR.below (by assumption) bn; have hgn := KnG.step (W0 := W) (by assumption) bn; clear hn hg; have hn := hSn; have hg := hgn; clear hSn hgn bn))
                all_goals exact ⟨⟨i + 1, _, rfl, by go_num, by omega, hn, hg⟩, by simp [intOf]; omega⟩)
            · have d1 : ¬ (i : Int) < (ys.length : Int) := by omega
              go_wp2
              go_roundw
              case rel =>
                refine ⟨ys, k + 1, _, rfl, hn.mono HGz.out.b.size, by go_num, by omega, ?_, hg⟩
                have := hyl.out
                rw [Nat.pow_succ]; omega
              case measure => simp [intOf]; omega
    · have d1 : ¬ (k : Int) < 4 := by omega
      go_wp2
      go_ret
      exact ⟨rfl, hg.b⟩
end Go.Proofs.YtjmekcakiacdfabGreatDoor

namespace Go.Proofs.YtjmekcakiacdfabGreatDoor
open Go Go.RowKit

set_option maxHeartbeats 4000000 in
set_option maxRecDepth 100000 in
theorem expandknown_law (W : World) (hE : ErrType W) : Calls Tryz.prog 3 #[] W fun x w' => x = .returned (.bool true) ∧ Below W.heap.size W w' := by
  have HE : Hid (∀ w, Below W.heap.size W w → ErrType w) := fun w hb => hE.below hb
  have hb0 : Below W.heap.size W W := Below.refl _ _
  clear hE
  go_enter Tryz.func3, Tryz.ntmps3
  go_wp2_with (first
    | (go_at_call 4; refine (shown_p _ (HE.out _ (by assumption))).mono ?_; rintro xx wn ⟨rfl, bn⟩; have hbn := below_j (by assumption) bn; clear hb0; have hb0 := hbn; clear hbn bn)
    | (go_at_call 5; refine (short_p _ (HE.out _ (by assumption))).mono ?_; rintro xx wn ⟨rfl, bn⟩; have hbn := below_j hb0 bn; clear hb0; have hb0 := hbn; clear hbn bn)
    | (go_at_call 6; refine (bytesk_p _ (HE.out _ (by assumption))).mono ?_; rintro xx wn ⟨rfl, bn⟩; have hbn := below_j hb0 bn; clear hb0; have hb0 := hbn; clear hbn bn)
    | (go_at_call 7; refine (sizes_p _ (HE.out _ (by assumption))).mono ?_; rintro xx wn ⟨rfl, bn⟩; have hbn := below_j hb0 bn; clear hb0; have hb0 := hbn; clear hbn bn)
    | (go_at_call 8; refine (nested_p _ (HE.out _ (by assumption))).mono ?_; rintro xx wn ⟨rfl, bn⟩; have hbn := below_j hb0 bn; clear hb0; have hb0 := hbn; clear hbn bn))
  go_ret
  exact ⟨rfl, hb0⟩
end Go.Proofs.YtjmekcakiacdfabGreatDoor

namespace Go.Proofs.YtjmekcakiacdfabGreatDoor.fnExpandKnown
open Go.ChangeShapes Go.WideShapes Go.ChangeAt Go.RowKit
open Go.WideMaps Go.WideElems
open Go.ChangeMaps (open_string shut_string)

abbrev listed : List (String × DataW Unit) := [("errors.errorType", Rows.laid_errors_errorType)]
set_option maxRecDepth 100000 in
theorem contract (H : Type) (enc : TypeId × Value → H) (W : World) (base : Nat) (args : Array Value) (ds gs : List (DataW H)) (before : List MemPlace)
    (hval : ∀ (j : Nat) t v, Tryz.f3.params[j]? = some t → args[j]? = some v → Value.okWide Tryz.prog W .any base t v)
    (hW : DataW.Whole enc Tryz.prog Tryz.f3.params.toList Rows.expandKnownSpec.vars false W args.toList ds gs before)
    (hz : (DataW.weightsEach Tryz.prog (Tryz.f3.params.toList ++ (OpenSpec.ofChange Rows.expandKnownSpec).bare.plain.varTypes Tryz.prog) (ds ++ gs)).all (· ≤ reachBytes) = true)
    (hL : laidMetH Tryz.prog listed W) :
    Calls Tryz.prog 3 args W fun e W' => ∃ v, e = .returned v ∧ Rows.expandKnownSpec.post enc Tryz.prog Tryz.f3 false true false false W args v W' := by
  have hW' := hW
  obtain ⟨p, q, hA0, hV, rfl, hfz, hnd⟩ := hW
  have hA : DataW.TrodAll enc Tryz.prog W 0 (fun _ => true) true Tryz.f3.params.toList args.toList ds p := hA0
  rw [Tryz.params3] at hA hval
  obtain ⟨hargs, rfl, rfl⟩ := trodAll_nil hA
  obtain rfl : args = #[] := by cases args; simp_all
  obtain ⟨rfl, rfl⟩ := trodVars_none hV
  clear hA0
  simp only [List.append_nil] at hW'
  refine (expandknown_law W (handle_of_laid hL)).mono fun e W' ⟨he, hg⟩ => ?_
  subst he
  have e1 : Rows.expandKnownSpec.fn H ([] ++ []) = { results := [.lit (.bool true)], args := [] } := by simp [Rows.expandKnownSpec]
  refine ⟨_, rfl, _, _, _, [], [], [], hW', ?_, ?_, ?_, hg.frame _, fun h => by cases h⟩
  · rw [e1]; exact trodAll_mk1 (shut_bool Tryz.underlying4 true)
  · rw [e1]; exact trodAll_mk0
  · rw [e1]; rfl

set_option maxRecDepth 100000 in
theorem met (os : Os) (args : Array Value) : laidMetH Tryz.prog listed ((laidWorld os).forCall (fun _ _ => 0) ⟨#[], args, []⟩).memory :=
  laidMetH_of_parts (laidMet_nil _ _) (by kernel_rfl)
theorem reads (os : Os) {H : Type} (enc : TypeId × Value → H) : ∃ places, DataW.whole enc Tryz.prog ((laidWorld os).forCall (fun _ _ => 0) ⟨#[], #[], []⟩).memory Tryz.f3.params.toList Rows.expandKnownSpec.vars false (#[] : Array Value).toList 8 = some ([], [], places) :=
  ⟨[], by kernel_rfl⟩

set_option maxRecDepth 100000 in
theorem lifted (os : Os) (started : os.Started) (H : Type) (enc : TypeId × Value → H) (F : Stop.Interp) :
    ReturnsInHanded {} Tryz.checked os 3 .any ((OpenSpec.ofChange Rows.expandKnownSpec).preRow enc Tryz.prog Tryz.f3 Rows.expandKnownRow.domain false Rows.expandKnownRow.laid) (((OpenSpec.ofChange Rows.expandKnownSpec).at F).post enc Tryz.prog Tryz.f3 false true false false) := by
  obtain ⟨places, hx⟩ := reads os enc
  refine returnsInHanded_of_row (C := Tryz.checked) (s := OpenSpec.ofChange Rows.expandKnownSpec) own started (by kernel_rfl) Tryz.func3
    (witness_row_at (enc := enc) (C := Tryz.checked) false (laidWorld os) #[] rfl (by kernel_rfl) (by kernel_rfl) (by kernel_rfl)
      (OpenSpec.preRow_of_cond 8 hx (by kernel_rfl) (fun k hk => by cases hk) (by kernel_rfl) (met os _))) ?_
  intro W base args ds gs before hval hW _ _ hz hL _ _
  exact contract H enc W base args ds gs before hval hW hz hL

theorem said : Rows.ExpandKnownSaid :=
  OpenClaim.holds_of_cond 3 Tryz.f3 rfl rfl rfl rfl rfl rfl rfl ⟨rfl, rfl, rfl, rfl, rfl⟩ rfl rfl rfl rfl rfl (by kernel_rfl) Tryz.func3 (by kernel_rfl)
    (of_decide_eq_true (by kernel_rfl)) (by unfold Func.isWrapper; rw [if_neg (of_decide_eq_false (by kernel_rfl))]; exact ⟨rfl, rfl⟩)
    (fun os started H enc _ F => by rw [OpenClaim.pre_eq_preRow]; exact lifted os started H enc F)

theorem plainly (f : FuncId) (fn : Func) (hf : Tryz.pinned.checked.prog.funcNamed "strata/stratalaw15.ExpandKnown" = some f) (hfn : Tryz.pinned.checked.prog.funcs[f]? = some fn) :
    true = Tryz.pinned.checked.prog.looks [] ∧ ∀ (j : Nat) t, fn.params[j]? = some t → Tryz.pinned.checked.prog.wantsStandIn t = false := by
  obtain rfl : f = 3 := Option.some.inj ((show Tryz.prog.funcNamed "strata/stratalaw15.ExpandKnown" = some 3 by kernel_rfl).symm.trans hf) |>.symm
  obtain rfl : fn = Tryz.f3 := (Option.some.inj (Tryz.func3.symm.trans hfn)).symm
  refine ⟨by kernel_rfl, fun j t ht => ?_⟩
  rw [Tryz.params3] at ht
  simp at ht

theorem card : Rows.ExpandKnownCardSaid :=
  Claim7.holds_tied_plain_at .later [] _ _ _ _ said (fun _ h => by cases h) (by kernel_rfl) (fun _ h => by cases h) expandKnown_row_tie rfl ⟨rfl, rfl⟩ (by kernel_rfl) rfl plainly (by kernel_rfl)
end Go.Proofs.YtjmekcakiacdfabGreatDoor.fnExpandKnown
namespace Go.Proofs.YtjmekcakiacdfabGreatDoor
theorem expandKnown_card : Rows.ExpandKnownCardSaid := fnExpandKnown.card
end Go.Proofs.YtjmekcakiacdfabGreatDoor
