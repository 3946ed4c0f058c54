/- TreeChecks, where the entries are of bulk at most 1048576: from its walk to its row and its card. -/
import Derived.Test.YtfglanibbngdmaaGreatDoorRows
import Derived.Test.YtfglanibbngdmaaGreatDoorPlain
import Derived.LaidHandle
import Derived.LaidLaws
import Derived.Stop.Joined
import Derived.Test.YtfglanibbngdmaaGreatDoorEntW
import Derived.Deep.Slices
import Derived.Deep.Strs
import Derived.ChangeArms
import Derived.Test.YtfglanibbngdmaaGreatDoorSet
import Derived.Laws.IdiomStrings
import Derived.Laws.CopyOwn
import Derived.Deep.CutRange
import Derived.Test.YtfglanibbngdmaaGreatDoorRefCk
import Derived.Test.YtfglanibbngdmaaGreatDoorWorksT
import Derived.Test.YtfglanibbngdmaaGreatDoorCards
import Derived.Test.YtfglanibbngdmaaGreatDoorTie
import Derived.ProofKit
import Derived.OpenShut
import Derived.SizedLaws
import Derived.Deep.DeepHandedRow
import Derived.SevenTiedAt

namespace Go.Proofs.YtfglanibbngdmaaGreatDoor
open Go.ChangeShapes Go.WideShapes Go.RowKit

theorem own : ownKnob Tryz.prog.godebug = none := by kernel_rfl
theorem l_et : Tryz.prog.globalNamed "errors.errorType" = some 0 := by kernel_rfl
theorem l_rt : (Tryz.prog.cutTypes.find? (·.1 == "internal/reflectlite.rtype")).map (·.2) = some 163 := by kernel_rfl
theorem l_oneRow : ((List.range 245).filter fun t => Tryz.prog.rowNamed t [101, 114, 114, 111, 114]) = [28] := by kernel_rfl
theorem l_size : Tryz.prog.types.size = 245 := by kernel_rfl

theorem handle_of_laid {W : World} (h : laidMetH Tryz.prog [("errors.errorType", Rows.laid_errors_errorType)] W) : ErrType W := by
  have h2 : laidMet Tryz.prog [] W ∧ handlesMet Tryz.prog [("errors.errorType", Rows.laid_errors_errorType)] W := h
  obtain ⟨name, u, ty, e1, e2, e3, e4, e5⟩ := h2.2 _ (List.mem_singleton.2 rfl)
  have en : name = [101, 114, 114, 111, 114] := (Option.some.inj e1).symm
  subst en
  obtain rfl := Option.some.inj (l_rt.symm.trans e2)
  have hm : ty ∈ (List.range 245).filter fun t => Tryz.prog.rowNamed t [101, 114, 114, 111, 114] := List.mem_filter.2 ⟨List.mem_range.2 (by rw [← l_size]; exact e3), e4⟩
  rw [l_oneRow] at hm
  obtain rfl := List.mem_singleton.1 hm
  have hh : typeHandle Tryz.prog 28 = .pointer (some ⟨2, 28, none⟩) := by kernel_rfl
  rw [hh] at e5
  have h3 := World.var?_cell l_et e5 0
  unfold ErrType
  simpa using h3

noncomputable def laidWorld (os : Os) : World :=
  { World.holding Tryz.prog os ⟨#[], #[], []⟩ with heap := (World.holding Tryz.prog os ⟨#[], #[], []⟩).heap.modify 0 fun
      | .cells _ t frozen => .cells #[.iface 163 (.agg #[.pointer (some ⟨2, 28, none⟩)])] t frozen
      | o => o }
theorem laidWorld_met (os : Os) (args : Array Value) : laidMetH Tryz.prog [("errors.errorType", Rows.laid_errors_errorType)] ((laidWorld os).forCall (fun _ _ => 0) ⟨#[], args, []⟩).memory :=
  laidMetH_of_parts (laidMet_nil _ _) (by kernel_rfl)
end Go.Proofs.YtfglanibbngdmaaGreatDoor

namespace Go.Proofs.YtfglanibbngdmaaGreatDoor
open Go.ChangeShapes Go.WideShapes Go.RowKit

theorem ent_size : Tryz.prog.cellsOf 52 = 5 := by kernel_rfl
theorem bulk_mem {H : Type} : ∀ {ds : List (DataW H)} {d : DataW H}, d ∈ ds → Rows.uptoBulk d ≤ Rows.uptoBulkAll ds
  | [], _, h => by cases h
  | y :: ds, d, h => by
    rw [Rows.uptoBulkAll]
    rcases List.mem_cons.1 h with rfl | h
    · omega
    · have := bulk_mem h; omega
theorem bulk_len {H : Type} : ∀ {ds : List (DataW H)}, (∀ d ∈ ds, 1 ≤ Rows.uptoBulk d) → ds.length ≤ Rows.uptoBulkAll ds
  | [], _ => by simp
  | y :: ds, h => by
    rw [Rows.uptoBulkAll, List.length_cons]
    have h1 := h y (by simp)
    have h2 := bulk_len (ds := ds) (fun d hd => h d (by simp [hd]))
    omega
set_option maxRecDepth 100000 in
/-- One entry's cells and datum. -/
theorem open_one {H : Type} {enc : TypeId × Value → H} {W : World} {n : Nat} {cs : List Value} {x : DataW H × List MemPlace} (hlen : cs.length = 5) (hf : DataW.trod enc Tryz.prog W 0 (fun _ => true) true n 52 cs = some x) :
    ∃ e : Ent, cs = ecs e ∧ x.1 = .agg [.lit (.string e.path.data.toList), .lit (.int .i64 e.kind), .lit (.int .i64 e.mode), .lit (.string e.data.data.toList), .lit (.string e.link.data.toList)] := by
  obtain ⟨xs, n, _, hx, hl, hlen2, hff⟩ := DataW.trod_struct Tryz.underlying52 hf
  obtain ⟨v0, v1, v2, v3, v4, hvs⟩ : ∃ v0 v1 v2 v3 v4, cs = [v0, v1, v2, v3, v4] := by
    match cs, hlen with
    | [v0, v1, v2, v3, v4], _ => exact ⟨v0, v1, v2, v3, v4, rfl⟩
  obtain ⟨y0, y1, y2, y3, y4, hys⟩ : ∃ y0 y1 y2 y3 y4, xs = [y0, y1, y2, y3, y4] := by
    match xs, hlen2 with
    | [y0, y1, y2, y3, y4], _ => exact ⟨y0, y1, y2, y3, y4, rfl⟩
  subst hys
  subst hvs
  have m0 : Tryz.prog.cellsOf 50 = 1 := by kernel_rfl
  have m1 : Tryz.prog.cellsOf 3 = 1 := by kernel_rfl
  have m2 : Tryz.prog.cellsOf 9 = 1 := by kernel_rfl
  have g0 : DataW.trod enc Tryz.prog W 0 (fun _ => true) true n 9 [v0] = some y0 := by
    have e : DataW.trod enc Tryz.prog W 0 (fun _ => true) true n 9 ((([v0, v1, v2, v3, v4] : List Value).drop 0).take (Tryz.prog.cellsOf 9)) = some y0 := hff 0 _ rfl
    rw [m2] at e
    exact e
  have g1 : DataW.trod enc Tryz.prog W 0 (fun _ => true) true n 50 [v1] = some y1 := by
    have e : DataW.trod enc Tryz.prog W 0 (fun _ => true) true n 50 ((([v0, v1, v2, v3, v4] : List Value).drop 1).take (Tryz.prog.cellsOf 50)) = some y1 := hff 1 _ rfl
    rw [m0] at e
    exact e
  have g2 : DataW.trod enc Tryz.prog W 0 (fun _ => true) true n 3 [v2] = some y2 := by
    have e : DataW.trod enc Tryz.prog W 0 (fun _ => true) true n 3 ((([v0, v1, v2, v3, v4] : List Value).drop 2).take (Tryz.prog.cellsOf 3)) = some y2 := hff 2 _ rfl
    rw [m1] at e
    exact e
  have g3 : DataW.trod enc Tryz.prog W 0 (fun _ => true) true n 9 [v3] = some y3 := by
    have e : DataW.trod enc Tryz.prog W 0 (fun _ => true) true n 9 ((([v0, v1, v2, v3, v4] : List Value).drop 3).take (Tryz.prog.cellsOf 9)) = some y3 := hff 3 _ rfl
    rw [m2] at e
    exact e
  have g4 : DataW.trod enc Tryz.prog W 0 (fun _ => true) true n 9 [v4] = some y4 := by
    have e : DataW.trod enc Tryz.prog W 0 (fun _ => true) true n 9 ((([v0, v1, v2, v3, v4] : List Value).drop 4).take (Tryz.prog.cellsOf 9)) = some y4 := hff 4 _ rfl
    rw [m2] at e
    exact e
  clear hff
  obtain ⟨s0, a0, b0, _⟩ := DataW.trod_string Tryz.underlying9 g0
  obtain rfl := (List.cons.inj a0).1
  subst b0
  obtain ⟨i1, a1, b1, w1⟩ := DataW.trod_int Tryz.underlying50 g1
  obtain rfl := (List.cons.inj a1).1
  subst b1
  obtain ⟨i2, a2, b2, w2⟩ := DataW.trod_int Tryz.underlying3 g2
  obtain rfl := (List.cons.inj a2).1
  subst b2
  obtain ⟨s3, a3, b3, _⟩ := DataW.trod_string Tryz.underlying9 g3
  obtain rfl := (List.cons.inj a3).1
  subst b3
  obtain ⟨s4, a4, b4, _⟩ := DataW.trod_string Tryz.underlying9 g4
  obtain rfl := (List.cons.inj a4).1
  subst b4
  exact ⟨⟨s0, i1, i2, s3, s4⟩, rfl, congrArg Prod.fst hx⟩
set_option maxRecDepth 100000 in
theorem open_ents {H : Type} {enc : TypeId × Value → H} {W : World} {b0 : Nat} {v : Value} {d : DataW H} {p : List MemPlace}
    (hv : Value.okWide Tryz.prog W .any b0 22 v) (h : DataW.Trod enc Tryz.prog W 0 (fun _ => true) true 22 v d p) : ∃ l : List Ent, EntsAt W v l ∧ l.length ≤ Rows.uptoBulk d ∧ ∀ x ∈ l, x.path.size ≤ Rows.uptoBulk d ∧ x.link.size ≤ Rows.uptoBulk d ∧ x.data.size ≤ Rows.uptoBulk d := by
  obtain ⟨a0, len0, cap0, rfl⟩ := okWide_slice Tryz.underlying22 hv
  obtain ⟨fuel, hf⟩ := h
  rcases Go.Deep.open_slice Tryz.underlying22 hf with ⟨hcs, hx⟩ | ⟨a, len, cap, m, n, D, Pl, hcs, _, hl, hm, hmm, hx, hall⟩
  · have e : Value.slice a0 len0 cap0 = .slice none 0 0 := by simpa [Value.cells] using hcs
    rw [e]
    exact ⟨[], ⟨none, 0, 0, 0, rfl, fun h => absurd rfl h, Nat.le_refl _, fun i x h => by simp at h⟩, by simp, fun x h => by cases h⟩
  · have e : Value.slice a0 len0 cap0 = .slice (some a) len cap := by simpa [Value.cells] using hcs
    rw [e]
    rw [if_pos rfl] at hmm
    have e2 : d = .slice ((List.range len).map D) ((List.range (m - len)).map fun j => D (len + j)) := congrArg Prod.fst hx
    have each : ∀ i, i < len → ∃ x : Ent, (∀ j v, (ecs x)[j]? = some v → W.cell? (a.add (i * 5 + j)) = some v) ∧ D i = .agg [.lit (.string x.path.data.toList), .lit (.int .i64 x.kind), .lit (.int .i64 x.mode), .lit (.string x.data.data.toList), .lit (.string x.link.data.toList)] := by
      intro i hi
      obtain ⟨cs', h1, h2⟩ := hall i (by omega)
      rw [ent_size] at h1
      obtain ⟨_, hlen, hcell⟩ := World.cells?_some h1
      obtain ⟨x, hxe, hxd⟩ := open_one hlen h2
      refine ⟨x, fun j v hj => ?_, hxd⟩
      have hj5 : j < 5 := (List.getElem?_eq_some_iff.1 hj).1
      have c := hcell j (by omega)
      rw [Go.Deep.add_add] at c
      rw [c]
      subst hxe
      first | exact hj | (rw [← hj]; simp) | simpa using hj
    obtain ⟨f, hfx⟩ : ∃ f : Nat → Ent, ∀ i, i < len → (∀ j v, (ecs (f i))[j]? = some v → W.cell? (a.add (i * 5 + j)) = some v) ∧ D i = .agg [.lit (.string (f i).path.data.toList), .lit (.int .i64 (f i).kind), .lit (.int .i64 (f i).mode), .lit (.string (f i).data.data.toList), .lit (.string (f i).link.data.toList)] :=
      ⟨fun i => if h : i < len then Classical.choose (each i h) else ⟨⟨#[]⟩, 0, 0, ⟨#[]⟩, ⟨#[]⟩⟩, fun i hi => by simp only [dif_pos hi]; exact Classical.choose_spec (each i hi)⟩
    have hD : ∀ i, i < len → (f i).path.size + (f i).data.size + (f i).link.size + 2 ≤ Rows.uptoBulk (D i) := fun i hi => by
      rw [(hfx i hi).2]
      have hs : (f i).path.data.toList.length = (f i).path.size := un_length _
      have hs2 : (f i).data.data.toList.length = (f i).data.size := un_length _
      have hs3 : (f i).link.data.toList.length = (f i).link.size := un_length _
      simp only [Rows.uptoBulk, Rows.uptoBulkAll, hs, hs2, hs3]
      omega
    have hmem : ∀ i, i < len → D i ∈ (List.range len).map D := fun i hi => List.mem_map_of_mem (List.mem_range.2 hi)
    have hbk : Rows.uptoBulkAll ((List.range len).map D) ≤ Rows.uptoBulk d := by rw [e2]; simp only [Rows.uptoBulk]; omega
    refine ⟨(List.range len).map f, ?_, ?_, ?_⟩
    · by_cases h0 : len = 0
      · subst h0
        exact ⟨some a, cap, 0, 0, by simp, fun h => absurd rfl h, by simp, fun i x h => by simp at h⟩
      · obtain ⟨b, off, spot⟩ := a
        have hc0 := (hfx 0 (by omega)).1 0 _ rfl
        have hspot : spot = none := by simpa [Addr.add] using World.cell?_spot hc0
        subst hspot
        refine ⟨some ⟨b, off, none⟩, cap, b, off, by simp, fun _ => rfl, by simpa using hl, fun i x hi => ?_⟩
        have h1 : i < len := by have := (List.getElem?_eq_some_iff.1 hi).1; simpa using this
        have hx2 : x = f i := by simpa [h1] using hi.symm
        subst hx2
        have hc : ∀ j v, (ecs (f i))[j]? = some v → W.cell? ⟨b, off + i * 5 + j, none⟩ = some v := fun j v hj => by
          have := (hfx i h1).1 j v hj
          rw [Addr.add_mid] at this
          rw [Nat.add_assoc]; exact this
        exact ⟨hc 0 _ rfl, hc 1 _ rfl, hc 2 _ rfl, hc 3 _ rfl, hc 4 _ rfl⟩
    · have := bulk_len (ds := (List.range len).map D) (fun y hy => by
        obtain ⟨i, hi, rfl⟩ := List.mem_map.1 hy
        have := hD i (List.mem_range.1 hi); omega)
      rw [List.length_map] at this ⊢
      omega
    · intro x hx3
      obtain ⟨i, hi, rfl⟩ := List.mem_map.1 hx3
      have h1 := hD i (List.mem_range.1 hi)
      have h2 := bulk_mem (hmem i (List.mem_range.1 hi))
      exact ⟨by omega, by omega, by omega⟩
end Go.Proofs.YtfglanibbngdmaaGreatDoor

namespace Go.Proofs.YtfglanibbngdmaaGreatDoor
open Go Go.RowKit

def mkb8 (x : Int) : UInt8 := UInt8.ofNat (x % 256).toNat
theorem mkb8_int (x : Int) : ((mkb8 x).toNat : Int) = x % 256 := by
  unfold mkb8
  rw [UInt8.toNat_ofNat']; omega
def mkTx (k i : Int) : ByteArray := bs [35, mkb8 k, mkb8 (k / 256), mkb8 i, mkb8 (i / 256)]
set_option maxRecDepth 100000 in
theorem mkTx_conv (k i : Int) (w : World) : (convert 116 9 (.slice (some ⟨w.heap.size, 0, none⟩) 5 5)).run Tryz.prog (w.alloc (.cells #[.int .u8 35, .int .u8 (k % 256), .int .u8 (k / 256 % 256), .int .u8 (i % 256), .int .u8 (i / 256 % 256)] 5)) = .ok (.string (mkTx k i)) (w.alloc (.cells #[.int .u8 35, .int .u8 (k % 256), .int .u8 (k / 256 % 256), .int .u8 (i % 256), .int .u8 (i / 256 % 256)] 5)) := by
  refine run_convert_bytes_back _ 116 9 5 ⟨w.heap.size, 0, none⟩ 5 [35, mkb8 k, mkb8 (k / 256), mkb8 i, mkb8 (i / 256)] Tryz.underlying116 Tryz.underlying5 Tryz.underlying9 ?_
  intro j hj
  simp only [← mkb8_int]
  have hc := fun v (h : (#[.int .u8 35, .int .u8 ((mkb8 k).toNat : Int), .int .u8 ((mkb8 (k / 256)).toNat : Int), .int .u8 ((mkb8 i).toNat : Int), .int .u8 ((mkb8 (i / 256)).toNat : Int)] : Array Value)[j]? = some v) => (Lies.new w 5 #[.int .u8 35, .int .u8 ((mkb8 k).toNat : Int), .int .u8 ((mkb8 (k / 256)).toNat : Int), .int .u8 ((mkb8 i).toNat : Int), .int .u8 ((mkb8 (i / 256)).toNat : Int)]).cell h
  have e : (⟨w.heap.size, 0, none⟩ : Addr).add j = ⟨w.heap.size, j, none⟩ := by rw [Addr.add_mid, Nat.zero_add]
  rw [e]
  refine hc _ ?_
  rcases j with _ | _ | _ | _ | _ | j
  · rfl
  · rfl
  · rfl
  · rfl
  · rfl
  · simp at hj; omega
set_option maxRecDepth 100000 in
set_option maxHeartbeats 2000000 in
theorem mkTx_p (k i : Int) (w : World) : Calls Tryz.prog 87 #[.int .i64 k, .int .i64 i] w fun e w' => e = .returned (.string (mkTx k i)) ∧ Below w.heap.size w w' := by
  have hcv := mkTx_conv k i w
  go_enter Tryz.func87, Tryz.ntmps87
  go_wp2
  go_ret
  exact ⟨rfl, (Below.refl _ w).alloc (Nat.le_refl _) _⟩
theorem own_below0 {W W2 : World} {base e size n : Nat} {v : Value} {xs : List Value} (h : W.ownsRow base e size v n xs) (hb : Below W.heap.size W W2) : W2.ownsRow base e size v n xs := by
  refine ⟨h.1, ?_⟩
  rcases h.2 with hn | ⟨g, cap, cur, rfl, hg, hgg, rest⟩
  · exact .inl hn
  · exact .inr ⟨g, cap, cur, rfl, hg, (hb.block g (Array.getElem?_eq_some_iff.1 hgg).1).trans hgg, rest⟩
/-- A mark. -/
def markE (k i : Int) : Ent := ⟨mkTx k i, 0, -7 - k, ⟨#[]⟩, ⟨#[]⟩⟩
def evs (e : Ent) : Array Value := #[.string e.path, .int .i64 e.kind, .int .i64 e.mode, .string e.data, .string e.link]
theorem evs_size (e : Ent) : (Tryz.prog.info? 52).map (·.size) = some (evs e).size := by
  show _ = some 5
  kernel_rfl
set_option maxRecDepth 100000 in
set_option maxHeartbeats 2000000 in
theorem markE_p (k i : Int) (h0 : 0 ≤ k) (h1 : k ≤ 1000000) (w : World) : Calls Tryz.prog 56 #[.int .i64 k, .int .i64 i] w fun e w' => e = .returned (.agg #[.string (markE k i).path, .int .i64 (markE k i).kind, .int .i64 (markE k i).mode, .string (markE k i).data, .string (markE k i).link]) ∧ Below w.heap.size w w' := by
  have b0 : Below w.heap.size w (w.alloc (.cells #[.string ⟨#[]⟩, .int .i64 0, .int .i64 0, .string ⟨#[]⟩, .string ⟨#[]⟩] 52)) := (Below.refl _ w).alloc (Nat.le_refl _) _
  have L0 := Lies.new w 52 #[.string ⟨#[]⟩, .int .i64 0, .int .i64 0, .string ⟨#[]⟩, .string ⟨#[]⟩]
  have hw : IntKind.i64.wrap (-7 - k) = -7 - k := by
    simp only [IntKind.wrap, IntKind.bits, IntKind.signed]
    simp
    omega
  have hinf : (Tryz.prog.info? 52).map (·.size) = some 5 := by kernel_rfl
  have hone : (#[.string (mkTx k i), .int .i64 0, .int .i64 (-7 - k), .string ⟨#[]⟩, .string ⟨#[]⟩] : Array Value).all (·.oneCell') = true := by simp [Value.oneCell']
  go_enter Tryz.func56, Tryz.ntmps56
  go_wp2_with (first
    | (go_at_call 87; refine (mkTx_p k i _).mono ?_; rintro e w1 ⟨rfl, b1⟩; have L1 := L0.below b1)
    | (refine wpList_store_row rfl 52 (.tmp 4) (.tmp 10) rfl w.heap.size #[.string (mkTx k i), .int .i64 0, .int .i64 (-7 - k), .string ⟨#[]⟩, .string ⟨#[]⟩] rfl rfl 52 #[.string ⟨#[]⟩, .int .i64 0, .int .i64 0, .string ⟨#[]⟩, .string ⟨#[]⟩] L1 hinf rfl hone ?_))
  dsimp only [Act.put]
  refine bodyPost_ret (results_cell_row rfl _ _ w.heap.size 52 #[.string (mkTx k i), .int .i64 0, .int .i64 (-7 - k), .string ⟨#[]⟩, .string ⟨#[]⟩] (0, 0) _ rfl (setRow_heap w1 w.heap.size _ _ _ (0, 0) L1) Tryz.underlying52 rfl hinf) rfl ?_
  exact ⟨rfl, below_setRow (b0.trans (b1.mono b0.size)) (Nat.le_refl _) _⟩
def marksE (n : Nat) : List Ent := List.map (fun i : Nat => markE 90 (i : Int)) (List.range n)
theorem marksE_succ (n : Nat) : marksE (n + 1) = marksE n ++ [markE 90 n] := by simp [marksE, List.range_succ]
theorem marksE_length (n : Nat) : (marksE n).length = n := by simp [marksE]
theorem marksE_get (n i : Nat) (h : i < n) : (marksE n)[i]? = some (markE 90 i) := by simp [marksE, h]

set_option maxHeartbeats 4000000 in
set_option maxRecDepth 100000 in
theorem fullE_p (es : List Ent) (v : Value) (w : World) (hv : EntsAt w v es) (hl : es.length ≤ 1073741824) : Calls Tryz.prog 45 #[v] w fun e w' => ∃ u, e = .returned u ∧ w'.ownsRow w.heap.size 52 5 u (es.length + 16) (ecells (es ++ marksE 16)) ∧ Below w.heap.size w w' := by
  obtain ⟨i0, hi, hz0, hz1, hz2⟩ := info_parts info_ent
  obtain ⟨a, cap, b, o, rfl, ha, hcap, hc⟩ := hv
  go_enter Tryz.func45, Tryz.ntmps45
  go_wp2
  go_loopw [3, 4] (fun v i wr => ∃ k : Nat, i = .int .i64 k ∧ k ≤ es.length ∧ wr.ownsRow w.heap.size 52 5 v (es.take k).length (ecells (es.take k)) ∧ Below w.heap.size w wr) (fun _ i _ => es.length - (intOf i).toNat)
  case atStart => exact ⟨0, rfl, Nat.zero_le _, World.ownsRow_nil _ _ _ _, Below.refl _ _⟩
  case round =>
    obtain ⟨k, rfl, hk, hown, hB⟩ := hrel
    have hsz := hB.size
    by_cases hlt : k < es.length
    · have hlt' : (k : Int) < (es.length : Int) := by omega
      have hk0 : (0 : Int) ≤ (k : Int) := by omega
      obtain ⟨x, hx⟩ : ∃ x, es[k]? = some x := ⟨_, List.getElem?_eq_getElem hlt⟩
      obtain rfl := ha (fun e => by rw [e] at hlt; simp at hlt)
      obtain ⟨c0, c1, c2, c3, c4⟩ := (hc k x hx).below hB
      have hlk : (es.take k).length ≤ es.length := by rw [List.length_take]; omega
      have HX : Hid (es.take (k + 1) = es.take k ++ [x]) := by unfold Hid; rw [List.take_add_one, hx]; rfl
      clear hx hc ha
      go_wp2_with (at_builtin; refine wpList_append_own _ rfl _ _ 22 rfl w.heap.size 52 i0 (.agg #[.string ⟨#[]⟩, .int .i64 0, .int .i64 0, .string ⟨#[]⟩, .string ⟨#[]⟩]) 5 64 Tryz.underlying22 hi hz0 hz1 hz2 rfl (by decide) _ _ _ rfl (hown.alloc _) ⟨wr.heap.size, 0, none⟩ 1 1 (ecs x) rfl rfl (ent_cells (ent_new wr _ x)) (ent_one x) (by unfold maxLen; omega) (by omega) (by simp; omega) ?_; intro v1 w1 hown1 hgrow1 _)
      have hb1 : Below w.heap.size w w1 := (hB.alloc hsz _).grown hgrow1 (by simp; omega) (fun j hj => (own_ge hown j hj.symm).1)
      have hown2 : w1.ownsRow w.heap.size 52 5 v1 (es.take (k + 1)).length (ecells (es.take (k + 1))) := by
        rw [HX.out, ecells_append, List.length_append]; simpa [ecells] using hown1
      clear hown1 hgrow1 hown
      go_roundw
      case rel => exact ⟨k + 1, by go_num, by omega, hown2, hb1⟩
      case measure => simp [intOf]; omega
    · have hge : ¬ (k : Int) < (es.length : Int) := by omega
      have hall : es.take k = es := List.take_of_length_le (by omega)
      rw [hall] at hown
      clear ha hc
      go_wp2_with fail
      go_loopw [3, 5] (fun v i wr => ∃ m : Nat, i = .int .i64 m ∧ m ≤ 16 ∧ wr.ownsRow w.heap.size 52 5 v (es ++ marksE m).length (ecells (es ++ marksE m)) ∧ Below w.heap.size w wr) (fun _ i _ => 16 - (intOf i).toNat)
      case atStart => exact ⟨0, rfl, Nat.zero_le _, by rw [show marksE 0 = [] from rfl, List.append_nil]; exact hown, hB⟩
      case round =>
        clear hown hB hsz
        obtain ⟨m, rfl, hm, hown, hB⟩ := hrel
        by_cases hlt : m < 16
        · have hlt' : (m : Int) < 16 := by omega
          have hM := fun W => markE_p 90 m (by decide) (by decide) W
          have HX : Hid (es ++ marksE (m + 1) = (es ++ marksE m) ++ [markE 90 m]) := by unfold Hid; rw [marksE_succ, ← List.append_assoc]
          have hln : (es ++ marksE m).length ≤ 1073741840 := by rw [List.length_append, marksE_length]; omega
          generalize markE 90 (m : Int) = x at *
          go_wp2_with (first
            | (go_at_call 56; refine (hM _).mono ?_; rintro e w1 ⟨rfl, b1⟩; have hown1 := own_below0 hown b1; have hB1 := hB.trans (b1.mono hB.size); have hs1 := hB1.size)
            | (at_builtin; refine wpList_append_own _ rfl _ _ 22 rfl w.heap.size 52 i0 (.agg #[.string ⟨#[]⟩, .int .i64 0, .int .i64 0, .string ⟨#[]⟩, .string ⟨#[]⟩]) 5 64 Tryz.underlying22 hi hz0 hz1 hz2 rfl (by decide) _ _ _ rfl (hown1.alloc _) ⟨w1.heap.size, 0, none⟩ 1 1 (ecs x) rfl rfl (ent_cells (ent_new w1 _ x)) (ent_one x) (by unfold maxLen; omega) (by omega) (by simp; omega) ?_; intro v1 w2 hown2 hgrow2 _))
          have hb2 : Below w.heap.size w w2 := (hB1.alloc hs1 _).grown hgrow2 (by simp; omega) (fun j hj => (own_ge hown1 j hj.symm).1)
          have hown3 : w2.ownsRow w.heap.size 52 5 v1 (es ++ marksE (m + 1)).length (ecells (es ++ marksE (m + 1))) := by
            rw [HX.out, ecells_append, List.length_append]; simpa [ecells] using hown2
          clear hown1 hgrow2 hown2 hown
          go_roundw
          case rel => exact ⟨m + 1, by go_num, by omega, hown3, hb2⟩
          case measure => simp [intOf]; omega
        · have hge2 : ¬ (m : Int) < 16 := by omega
          have hm16 : m = 16 := by omega
          rw [hm16, List.length_append, marksE_length] at hown
          have HW : Hid _ := hown
          clear hown hm16
          go_wp2
          go_ret
          exact ⟨_, rfl, HW.out, hB⟩
/-- A list that was lent: the entries, and sixteen marks behind them. -/
def LentE (w : World) (v : Value) (es : List Ent) : Prop :=
  ∃ g cap, v = .slice (some ⟨g, 0, none⟩) es.length cap ∧ es.length + 16 ≤ cap ∧ cap ≤ maxLen ∧ ∀ j x, (es ++ marksE 16)[j]? = some x → EntC w g (j * 5) x
theorem LentE.below {w w' : World} {v : Value} {es : List Ent} (h : LentE w v es) (hb : Below w.heap.size w w') : LentE w' v es := by
  obtain ⟨g, cap, rfl, hc, hm, h3⟩ := h
  exact ⟨g, cap, rfl, hc, hm, fun j x hx => (h3 j x hx).below hb⟩
theorem LentE.ents {w : World} {v : Value} {es : List Ent} (h : LentE w v es) : EntsAt w v es := by
  obtain ⟨g, cap, rfl, hc, _, h3⟩ := h
  refine ⟨_, cap, g, 0, rfl, fun _ => rfl, by omega, fun i x hx => ?_⟩
  rw [Nat.zero_add]
  exact h3 i x (by rw [List.getElem?_append_left (List.getElem?_eq_some_iff.1 hx).1]; exact hx)
set_option maxHeartbeats 2000000 in
set_option maxRecDepth 100000 in
theorem lentE_p (es : List Ent) (v : Value) (w : World) (hv : EntsAt w v es) (hl : es.length ≤ 1073741824) : Calls Tryz.prog 10 #[v] w fun e w' => ∃ u, e = .returned u ∧ LentE w' u es ∧ w'.ownsRow w.heap.size 52 5 u es.length (ecells es) ∧ Below w.heap.size w w' := by
  have hF := fullE_p es v w hv hl
  obtain ⟨a, cap0, b, o, rfl, ha, _, hc⟩ := hv
  clear hc ha
  go_enter Tryz.func10, Tryz.ntmps10
  go_wp2_with fail
  refine hF.mono ?_
  rintro e w1 ⟨u, rfl, hown, b1⟩
  have hown2 : w1.ownsRow w.heap.size 52 5 u (es ++ marksE 16).length (ecells (es ++ marksE 16)) := by rw [List.length_append, marksE_length]; exact hown
  obtain ⟨a3, cap3, b3, o3, h31, h32, h33, h34⟩ := ents_of_owns hown2
  rcases hown.2 with ⟨_, h0⟩ | ⟨g, cap, cur, rfl, hgb, hgg, hcap, hmax, hcs, htk⟩
  · omega
  have hne : es ++ marksE 16 ≠ [] := fun e => by have := congrArg List.length e; rw [List.length_append, marksE_length] at this; simp at this
  have e3 := h32 hne
  rw [e3] at h31
  injection h31 with h311 h312 h313
  injection h311 with h311
  injection h311 with h3a h3b
  subst h3a; subst h3b; subst h313
  clear h312
  have HI : Hid (LentE w1 (.slice (some ⟨g, 0, none⟩) es.length cap) es) := ⟨g, cap, rfl, hcap, hmax, fun j x hx => by have := h34 j x hx; rw [Nat.zero_add] at this; exact this⟩
  have HO : Hid (w1.ownsRow w.heap.size 52 5 (.slice (some ⟨g, 0, none⟩) es.length cap) es.length (ecells es)) := by
    refine ⟨ecells_length es, .inr ⟨g, cap, cur, rfl, hgb, hgg, by omega, hmax, hcs, ?_⟩⟩
    have h5 : cur.toList.take (es.length * 5) = (cur.toList.take ((es.length + 16) * 5)).take (es.length * 5) := by rw [List.take_take, Nat.min_eq_left (by omega)]
    rw [h5, htk, ecells_append, List.take_append_of_le_length (by rw [ecells_length]; exact Nat.le_refl _), List.take_of_length_le (by rw [ecells_length]; exact Nat.le_refl _)]
  clear hown hown2 h34 h32 hgg htk
  unfold maxLen at hmax
  have d1 : (0 : Int) ≤ (es.length : Int) := by omega
  have d2 : (es.length : Int) ≤ (cap : Int) := by omega
  go_wp2
  go_ret
  exact ⟨_, rfl, HI.out, HO.out, b1⟩
end Go.Proofs.YtfglanibbngdmaaGreatDoor

namespace Go.Proofs.YtfglanibbngdmaaGreatDoor
open Go Go.RowKit

theorem kept_at {w : World} {g k : Nat} {es : List Ent} {x : Ent} (hG : ∀ j x, (es ++ marksE 16)[j]? = some x → EntC w g (j * 5) x) (hx : (es ++ marksE 16)[k]? = some x) : EntC w g (k * 5) x := hG k x hx
theorem mark_at {es : List Ent} {k : Nat} {x : Ent} (hx : (es ++ marksE 16)[k]? = some x) (hk : ¬ k < es.length) (h2 : k < es.length + 16) : x = markE 90 ((k : Int) - (es.length : Int)) := by
  rw [List.getElem?_append_right (by omega), marksE_get _ _ (by omega)] at hx
  have e9 : ((k - es.length : Nat) : Int) = (k : Int) - (es.length : Int) := by omega
  rw [← Option.some.inj hx, e9]
set_option maxHeartbeats 2000000 in
set_option maxRecDepth 100000 in
theorem keptfullE_p (es : List Ent) (g cap : Nat) (v : Value) (w : World) (hv : EntsAt w v es) (hl : es.length ≤ 1073741824) (hG : ∀ j x, (es ++ marksE 16)[j]? = some x → EntC w g (j * 5) x) : Calls Tryz.prog 49 #[.slice (some ⟨g, 0, none⟩) (es.length + 16) cap, v] w fun e w' => e = .returned (.bool true) ∧ Below w.heap.size w w' := by
  obtain ⟨a, cap2, b, o, rfl, ha, hcap, hc⟩ := hv
  have HC : Hid (∀ W i e, es[i]? = some e → Below w.heap.size w W → EntC W b (o + i * 5) e) := fun W i e he bb => (hc i e he).below bb
  have HGC : Hid (∀ W j x, (es ++ marksE 16)[j]? = some x → Below w.heap.size w W → EntC W g (j * 5) x) := fun W j x hx bb => (hG j x hx).below bb
  have hinf : (Tryz.prog.info? 52).map (·.size) = some 5 := by kernel_rfl
  clear hc hG
  go_enter Tryz.func49, Tryz.ntmps49
  go_wp2_with fail
  go_loopw [5, 6] (fun n _ wr => ∃ k : Nat, k ≤ es.length + 16 ∧ n = .int .i64 k ∧ Below w.heap.size w wr) (fun n _ _ => es.length + 16 - (intOf n).toNat)
  case atStart => exact ⟨0, Nat.zero_le _, rfl, Below.refl _ _⟩
  case round =>
    obtain ⟨k, hk, rfl, hB⟩ := hrel
    by_cases hlt : k < es.length + 16
    · have hlt' : (k : Int) < (es.length : Int) + 16 := by omega
      have hk0 : (0 : Int) ≤ (k : Int) := by omega
      obtain ⟨x, hx⟩ : ∃ x, (es ++ marksE 16)[k]? = some x := ⟨_, List.getElem?_eq_getElem (by rw [List.length_append, marksE_length]; exact hlt)⟩
      have HX : Hid _ := hx
      have hM := fun W => markE_p 90 ((k : Int) - (es.length : Int)) (by decide) (by decide) W
      have HMA : Hid (¬ k < es.length → markE 90 ((k : Int) - (es.length : Int)) = x) := fun h => (mark_at hx h hlt).symm
      have heq := fun W => eq_self x W
      by_cases hin : k < es.length
      · have hin' : (k : Int) < (es.length : Int) := by omega
        have hx2 : es[k]? = some x := by rwa [List.getElem?_append_left hin] at hx
        obtain rfl := ha (fun e => by rw [e] at hin; simp at hin)
        clear HMA hx
        generalize markE 90 ((k : Int) - (es.length : Int)) = y at *
        go_upto_region 7 with (go_at_call 56; refine (hM _).mono ?_; rintro e w1 ⟨rfl, b1⟩)
        have B1 := hB.trans (b1.mono hB.size)
        have L2 := Lies.new w1 52 #[.string y.path, .int .i64 y.kind, .int .i64 y.mode, .string y.data, .string y.link]
        have B2 : Below w.heap.size w (w1.alloc (.cells #[.string y.path, .int .i64 y.kind, .int .i64 y.mode, .string y.data, .string y.link] 52)) := B1.alloc B1.size _
        have hge : w.heap.size ≤ w1.heap.size := B1.size
        clear b1 hM B1
        generalize (w1.alloc (.cells #[.string y.path, .int .i64 y.kind, .int .i64 y.mode, .string y.data, .string y.link] 52)) = W2 at *
        generalize w1.heap.size = ge at *
        obtain ⟨c0, c1, c2, c3, c4⟩ := HC.out W2 k x hx2 B2
        have hone : (#[.string x.path, .int .i64 x.kind, .int .i64 x.mode, .string x.data, .string x.link] : Array Value).all (·.oneCell') = true := by simp [Value.oneCell']
        clear hx2
        go_upto_region 9 with (first | (refine wpList_store_row rfl 52 (.tmp 6) (.tmp 31) rfl ge #[.string x.path, .int .i64 x.kind, .int .i64 x.mode, .string x.data, .string x.link] rfl rfl 52 #[.string y.path, .int .i64 y.kind, .int .i64 y.mode, .string y.data, .string y.link] L2 hinf rfl hone ?_))
        have L3 : Lies (W2.setRow ge #[.string x.path, .int .i64 x.kind, .int .i64 x.mode, .string x.data, .string x.link]) ge 52 #[.string x.path, .int .i64 x.kind, .int .i64 x.mode, .string x.data, .string x.link] := setRow_heap W2 ge _ _ _ (0, 0) L2
        have B3 : Below w.heap.size w (W2.setRow ge #[.string x.path, .int .i64 x.kind, .int .i64 x.mode, .string x.data, .string x.link]) := below_setRow B2 hge _
        clear c0 c1 c2 c3 c4 L2
        generalize (W2.setRow ge #[.string x.path, .int .i64 x.kind, .int .i64 x.mode, .string x.data, .string x.link]) = W3 at *
        obtain ⟨d0, d1, d2, d3, d4⟩ := HGC.out W3 k x HX.out B3
        have f0 := L3.cell (i := 0) rfl
        have f1 := L3.cell (i := 1) rfl
        have f2 := L3.cell (i := 2) rfl
        have f3 := L3.cell (i := 3) rfl
        have f4 := L3.cell (i := 4) rfl
        clear L3
        go_wp2
        go_quiet (fail)
        go_wp2
        go_roundw
        case rel => exact ⟨k + 1, by omega, by go_num, B3.trans ⟨rfl, rfl, rfl, Nat.le_refl _, fun _ _ => rfl⟩⟩
        case measure => simp [intOf]; omega
      · have hin' : ¬ (k : Int) < (es.length : Int) := by omega
        have hy := HMA.out hin
        rw [hy] at hM
        clear HMA hx hy
        go_upto_region 7 with (go_at_call 56; refine (hM _).mono ?_; rintro e w1 ⟨rfl, b1⟩)
        have B1 := hB.trans (b1.mono hB.size)
        have L3 := Lies.new w1 52 #[.string x.path, .int .i64 x.kind, .int .i64 x.mode, .string x.data, .string x.link]
        have B3 : Below w.heap.size w (w1.alloc (.cells #[.string x.path, .int .i64 x.kind, .int .i64 x.mode, .string x.data, .string x.link] 52)) := B1.alloc B1.size _
        clear b1 hM B1
        generalize (w1.alloc (.cells #[.string x.path, .int .i64 x.kind, .int .i64 x.mode, .string x.data, .string x.link] 52)) = W3 at *
        generalize w1.heap.size = ge at *
        obtain ⟨d0, d1, d2, d3, d4⟩ := HGC.out W3 k x HX.out B3
        have f0 := L3.cell (i := 0) rfl
        have f1 := L3.cell (i := 1) rfl
        have f2 := L3.cell (i := 2) rfl
        have f3 := L3.cell (i := 3) rfl
        have f4 := L3.cell (i := 4) rfl
        clear L3
        go_wp2
        go_quiet (fail)
        go_wp2
        go_roundw
        case rel => exact ⟨k + 1, by omega, by go_num, B3.trans ⟨rfl, rfl, rfl, Nat.le_refl _, fun _ _ => rfl⟩⟩
        case measure => simp [intOf]; omega
    · have hge : ¬ (k : Int) < (es.length : Int) + 16 := by omega
      go_wp2
      go_ret
      exact ⟨rfl, hB⟩
set_option maxHeartbeats 2000000 in
set_option maxRecDepth 100000 in
theorem keptE_p (es : List Ent) (u v : Value) (w : World) (hu : LentE w u es) (hv : EntsAt w v es) (hl : es.length ≤ 1073741824) : Calls Tryz.prog 13 #[u, v] w fun e w' => e = .returned (.bool true) ∧ Below w.heap.size w w' := by
  obtain ⟨g, cap, rfl, hcap, _, hG⟩ := hu
  have hK := keptfullE_p es g cap v w hv hl hG
  obtain ⟨a, cap2, b, o, rfl, ha, _, hc⟩ := hv
  clear hc hG ha
  have d1 : (0 : Int) ≤ (es.length : Int) + 16 := by omega
  have d2 : (es.length : Int) + 16 ≤ (cap : Int) := by omega
  go_enter Tryz.func13, Tryz.ntmps13
  go_wp2_with fail
  refine hK.mono ?_
  rintro e w1 ⟨rfl, b1⟩
  go_wp2
  go_ret
  exact ⟨rfl, b1⟩
end Go.Proofs.YtfglanibbngdmaaGreatDoor

namespace Go.Proofs.YtfglanibbngdmaaGreatDoor
open Go Go.RowKit

theorem checkN_range (p : ByteArray) : 0 ≤ checkN p ∧ checkN p ≤ 32 := by
  unfold checkN
  repeat' split
  all_goals first | omega | (rcases splitP_cases (whiteoutB p) with h | h <;> rw [h] <;> omega)
theorem one_range (L : List Ent) (e : Ent) : 0 ≤ oneN L e ∧ oneN L e ≤ 32 := by
  have h1 : 0 ≤ wrongN e ∧ wrongN e ≤ 32 := by
    have := checkN_range e.path
    unfold wrongN
    repeat' split
    all_goals omega
  have h2 : 0 ≤ ooN (lastP L) e.path ∧ ooN (lastP L) e.path ≤ 32 := by
    unfold ooN
    repeat' split
    all_goals omega
  have h3 : 0 ≤ upN L e.path ∧ upN L e.path ≤ 32 := by
    unfold upN
    repeat' split
    all_goals omega
  have h4 : 0 ≤ manyN L e ∧ manyN L e ≤ 32 := by
    unfold manyN
    repeat' split
    all_goals omega
  unfold oneN putN
  repeat' split
  all_goals omega
theorem go_range : ∀ (r L : List Ent), 0 ≤ (checkGo L r).1 ∧ (checkGo L r).1 ≤ 32 ∧ ((checkGo L r).1 = 0 → (checkGo L r).2 = 0)
  | [], L => by simp [checkGo]
  | e :: r, L => by
    unfold checkGo
    split
    · rename_i h
      have := one_range L e
      exact ⟨this.1, this.2, fun h0 => absurd h0 h⟩
    · exact go_range r _
/-- Both sides tell the same. -/
theorem at_both (es : List Ent) (w : World) (hg : ErrType w) : Calls Tryz.prog 11 #[chkV es, .int .i64 (checkGo [] es).1, .int .i64 0, .int .i64 ((checkGo [] es).2 : Nat)] w fun e w' => e = .returned (.bool true) ∧ Below w.heap.size w w' := by
  obtain ⟨h1, h2, h3⟩ := go_range es []
  by_cases h0 : (checkGo [] es).1 = 0
  · rw [show chkV es = .nilIface from if_pos h0, h0, h3 h0]
    refine (at_nil 0 0 w).mono ?_
    rintro e w' ⟨rfl, rfl⟩
    exact ⟨rfl, Below.refl _ _⟩
  · rw [show chkV es = fltA (checkGo [] es).1 (checkGo [] es).2 from if_neg h0]
    exact kitAt_p _ 0 _ (by omega) (by omega) w hg
theorem small_len {es : List Ent} (h : Small es) : es.length ≤ 1048576 := h.1
set_option maxRecDepth 100000 in
set_option maxHeartbeats 4000000 in
theorem treechecks_law (v : Value) (es : List Ent) (w : World) (hg : ErrType w) (hv : EntsAt w v es) (hs : Small es) : Calls Tryz.prog 3 #[v] w fun e w' => e = .returned (.bool true) ∧ Below w.heap.size w w' := by
  have hsl := hs.1
  go_enter Tryz.func3, Tryz.ntmps3
  go_wp2_with fail
  refine (check_d v es w hv hs).mono ?_
  rintro e w1 ⟨rfl, hb1⟩
  go_wp2_with fail
  refine (lentE_p es v w1 (hv.below hb1) (by omega)).mono ?_
  rintro e w2 ⟨u, rfl, hL2, hrow2, hb2⟩
  have HB2 := below_join hb1 hb2
  have hL2e := hL2.ents
  go_wp2_with fail
  refine (check_t u es w2 (hg.below HB2) hL2e (by omega) (fun e he => by have := (hs.2 e he).1; omega)).mono ?_
  rintro e w3 ⟨rfl, hb3⟩
  have HB3 := below_join HB2 hb3
  go_wp2_with fail
  refine (at_both es w3 (hg.below HB3)).mono ?_
  rintro e w4 ⟨rfl, hb4⟩
  have HB4 := below_join HB3 hb4
  go_wp2_with fail
  refine (keptE_p es u v w4 ((hL2.below hb3).below hb4) (hv.below HB4) (by omega)).mono ?_
  rintro e w5 ⟨rfl, hb5⟩
  have HB5 := below_join HB4 hb5
  go_wp2_with fail
  refine (works_t w5 (hg.below HB5)).mono ?_
  rintro e w6 ⟨rfl, hb6⟩
  go_wp2
  go_ret
  exact ⟨rfl, below_join HB5 hb6⟩
end Go.Proofs.YtfglanibbngdmaaGreatDoor

namespace Go.Proofs.YtfglanibbngdmaaGreatDoor.fnTreeChecksUpto
open Go.ChangeShapes Go.WideShapes Go.ChangeAt Go.RowKit
open Go.WideMaps Go.WideElems
open Go.ChangeMaps (open_string shut_string)

abbrev listed : List (String × DataW Unit) := [("errors.errorType", Rows.laid_errors_errorType)]
set_option maxRecDepth 100000 in
theorem contract (H : Type) (enc : TypeId × Value → H) (W : World) (base : Nat) (args : Array Value) (ds gs : List (DataW H)) (before : List MemPlace)
    (hval : ∀ (j : Nat) t v, Tryz.f3.params[j]? = some t → args[j]? = some v → Value.okWide Tryz.prog W .any base t v)
    (hW : DataW.Whole enc Tryz.prog Tryz.f3.params.toList Rows.treeChecksSpec.vars false W args.toList ds gs before)
    (hk : Rows.uptoSmall H (ds ++ gs) = true)
    (hL : laidMetH Tryz.prog listed W) :
    Calls Tryz.prog 3 args W fun e W' => ∃ v, e = .returned v ∧ Rows.treeChecksSpec.post enc Tryz.prog Tryz.f3 false true false false W args v W' := by
  have hW' := hW
  obtain ⟨p, q, hA0, hV, rfl, hfz, hnd⟩ := hW
  have hA : DataW.TrodAll enc Tryz.prog W 0 (fun _ => true) true Tryz.f3.params.toList args.toList ds p := hA0
  rw [Tryz.params3] at hA hval
  obtain ⟨v0, vs0, d0, ds0, p0, q0, hargs, rfl, rfl, h0, r0⟩ := trodAll_cons hA
  obtain ⟨rfl, rfl, rfl⟩ := trodAll_nil r0
  obtain rfl : args = #[v0] := by cases args; simp_all
  obtain ⟨rfl, rfl⟩ := trodVars_none hV
  clear hA0
  simp only [List.append_nil] at hW'
  have hb := of_decide_eq_true hk
  simp only [List.append_nil, Rows.uptoBulkAll] at hb
  have k0 := fun (W' : World) (hg : Below W.heap.size W W') => Below.trod (by kernel_rfl) (by kernel_rfl) (of_decide_eq_true (by kernel_rfl)) h0 hg (by obtain ⟨fu, hf⟩ := h0; exact DataW.trod_lt _ _ _ _ hf)
  obtain ⟨l0, t0, y0, x0⟩ := open_ents (hval 0 22 v0 rfl rfl) h0
  refine (treechecks_law v0 l0 W (handle_of_laid hL) t0 ⟨by omega, fun x hx => by obtain ⟨q1, q2, q3⟩ := x0 x hx; exact ⟨by omega, by omega, by omega⟩⟩).mono fun e W' ⟨he, hg⟩ => ?_
  subst he
  have e1 : Rows.treeChecksSpec.fn H ([d0] ++ []) = { results := [.lit (.bool true)], args := [d0] } := by simp [Rows.treeChecksSpec]
  refine ⟨_, rfl, _, _, _, [], p0 ++ [], [], hW', ?_, ?_, ?_, hg.frame _, fun h => by cases h⟩
  · rw [e1]; exact trodAll_mk1 (shut_bool Tryz.underlying4 true)
  · rw [e1]; exact trodAll_cons_mk (k0 W' hg) trodAll_mk0
  · rw [e1]; rfl

set_option maxRecDepth 100000 in
theorem met (os : Os) (args : Array Value) : laidMetH Tryz.prog listed ((laidWorld os).forCall (fun _ _ => 0) ⟨#[], args, []⟩).memory :=
  laidWorld_met os args
theorem reads (os : Os) {H : Type} (enc : TypeId × Value → H) : ∃ places, DataW.whole enc Tryz.prog ((laidWorld os).forCall (fun _ _ => 0) ⟨#[], #[.slice none 0 0], []⟩).memory Tryz.f3.params.toList Rows.treeChecksSpec.vars false #[Value.slice none 0 0].toList 8 = some ([.nil], [], places) :=
  ⟨[], by kernel_rfl⟩

set_option maxRecDepth 100000 in
theorem lifted (os : Os) (started : os.Started) (H : Type) (enc : TypeId × Value → H) (F : Stop.Interp) :
    ReturnsInHanded {} Tryz.checked os 3 .any ((Rows.OpenSpec.upto Rows.treeChecksSpec).preRow enc Tryz.prog Tryz.f3 Rows.treeChecksUptoRow.domain false Rows.treeChecksUptoRow.laid) (((Rows.OpenSpec.upto Rows.treeChecksSpec).at F).post enc Tryz.prog Tryz.f3 false true false false) := by
  obtain ⟨places, hx⟩ := reads os enc
  refine returnsInHanded_of_row (C := Tryz.checked) (s := Rows.OpenSpec.upto Rows.treeChecksSpec) own started (by kernel_rfl) Tryz.func3
    (witness_row_at (enc := enc) (C := Tryz.checked) false (laidWorld os) #[.slice none 0 0] rfl (by kernel_rfl) (by kernel_rfl) (by kernel_rfl)
      (OpenSpec.preRow_of_cond 8 hx (by kernel_rfl) (fun k hk => by cases hk; kernel_rfl) (by kernel_rfl) (met os _))) ?_
  intro W base args ds gs before hval hW _ hcond _ hL _ _
  exact contract H enc W base args ds gs before hval hW (hcond _ rfl) hL

theorem said : Rows.TreeChecksUptoSaid :=
  OpenClaim.holds_of_cond 3 Tryz.f3 rfl rfl rfl rfl rfl rfl rfl ⟨rfl, rfl, rfl, rfl, rfl⟩ rfl rfl rfl rfl rfl (by kernel_rfl) Tryz.func3 (by kernel_rfl)
    (of_decide_eq_true (by kernel_rfl)) (by unfold Func.isWrapper; rw [if_neg (of_decide_eq_false (by kernel_rfl))]; exact ⟨rfl, rfl⟩)
    (fun os started H enc _ F => by rw [OpenClaim.pre_eq_preRow]; exact lifted os started H enc F)

theorem plainly (f : FuncId) (fn : Func) (hf : Tryz.pinned.checked.prog.funcNamed "strata/stratalaw07.TreeChecks" = some f) (hfn : Tryz.pinned.checked.prog.funcs[f]? = some fn) :
    true = Tryz.pinned.checked.prog.looks [] ∧ ∀ (j : Nat) t, fn.params[j]? = some t → Tryz.pinned.checked.prog.wantsStandIn t = false := by
  obtain rfl : f = 3 := Option.some.inj ((show Tryz.prog.funcNamed "strata/stratalaw07.TreeChecks" = some 3 by kernel_rfl).symm.trans hf) |>.symm
  obtain rfl : fn = Tryz.f3 := (Option.some.inj (Tryz.func3.symm.trans hfn)).symm
  refine ⟨by kernel_rfl, fun j t ht => ?_⟩
  rw [Tryz.params3] at ht
  have hm : t ∈ [22] := by simpa using Array.mem_of_getElem? ht
  have hall : ([22].all fun u => !Tryz.prog.wantsStandIn u) = true := by kernel_rfl
  exact (show Tryz.prog.wantsStandIn t = false by simpa using List.all_eq_true.1 hall t hm)

theorem card : Rows.TreeChecksUptoCardSaid :=
  Claim7.holds_tied_plain_at .later [] _ _ _ _ said (fun _ h => by cases h) (by kernel_rfl) (fun _ h => by cases h) treeChecksUpto_row_tie rfl ⟨rfl, rfl⟩ (by kernel_rfl) rfl plainly (by kernel_rfl)
end Go.Proofs.YtfglanibbngdmaaGreatDoor.fnTreeChecksUpto
namespace Go.Proofs.YtfglanibbngdmaaGreatDoor
theorem treeChecksUpto_card : Rows.TreeChecksUptoCardSaid := fnTreeChecksUpto.card
end Go.Proofs.YtfglanibbngdmaaGreatDoor
