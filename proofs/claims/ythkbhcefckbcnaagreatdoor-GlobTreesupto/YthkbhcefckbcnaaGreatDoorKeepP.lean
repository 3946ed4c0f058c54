/- Package glob's Keep: what is left of entries. -/
import Derived.Test.YthkbhcefckbcnaaGreatDoorAnyP
import Derived.Test.YthkbhcefckbcnaaGreatDoorBelP
import Derived.Test.YthkbhcefckbcnaaGreatDoorBoolRow
import Derived.Test.YthkbhcefckbcnaaGreatDoorRules
namespace Go.Proofs.YthkbhcefckbcnaaGreatDoor
open Go Go.RowKit

def outF (ok : ByteArray → Bool) (es : List Ent) (k i : Nat) : Bool := decide (i < k) && !(ok (((es[i]?).map Ent.path).getD ⟨#[]⟩))
theorem outF_zero (ok : ByteArray → Bool) (es : List Ent) (i : Nat) : outF ok es 0 i = false := by simp [outF]
theorem outF_succ {ok : ByteArray → Bool} {es : List Ent} {k : Nat} {x : Ent} (hx : es[k]? = some x) (i : Nat) : outF ok es (k + 1) i = if i = k then !ok x.path else outF ok es k i := by
  unfold outF
  by_cases h : i = k
  · subst h; rw [if_pos rfl, hx]; simp
  · rw [if_neg h]
    by_cases h2 : i < k
    · have : i < k + 1 := by omega
      simp [h2, this]
    · have : ¬ i < k + 1 := by omega
      simp [h2, this]
theorem outF_at {ok : ByteArray → Bool} {es : List Ent} {k n : Nat} {x : Ent} (hx : es[k]? = some x) (hk : k < n) : outF ok es n k = !ok x.path := by
  unfold outF; rw [hx]; simp [hk]
theorem setBK {W : World} {g n k : Nat} {f : Nat → Bool} (h : Lies W g 4 (rowB n f)) (b : Bool) (hk : k < n) : Lies (W.setCell ⟨g, k, none⟩ (.bool b)) g 4 (rowB n (fun i => if i = k then b else f i)) := by
  rw [← rowB_set n f k b hk]; exact h.set _
theorem EntC.same {W W2 : World} {b q : Nat} {e : Ent} (h : EntC W b q e) (hb : W2.heap[b]? = W.heap[b]?) : EntC W2 b q e := by
  have hc : ∀ (j : Nat) (v : Value), W.cell? ⟨b, j, none⟩ = some v → W2.cell? ⟨b, j, none⟩ = some v := fun j v hv => by
    unfold World.cell? at hv ⊢
    rw [show W2.heap[(⟨b, j, none⟩ : Addr).block]? = W.heap[(⟨b, j, none⟩ : Addr).block]? from hb]
    exact hv
  exact ⟨hc _ _ h.c0, hc _ _ h.c1, hc _ _ h.c2, hc _ _ h.c3, hc _ _ h.c4⟩
theorem liesTurn {A B : World} {row : Option Nat} {g : Nat} {cur : Array Value} {t : TypeId} (h : Lies A g 4 cur) (hg : A.grownBy B row) (hn : ∀ j, row = some j → ∃ c2, A.heap[j]? = some (.cells c2 t (0, 0))) (ht : t ≠ 4) : Lies B g 4 cur :=
  (hg.block g h.lt (fun e => by
    obtain ⟨c2, h2⟩ := hn g e.symm
    have := h2.symm.trans (show A.heap[g]? = _ from h)
    simp at this
    exact ht this.2)).trans h
theorem grown_setK (W : World) (g k : Nat) (u : Value) : W.grownBy (W.setCell ⟨g, k, none⟩ u) (some g) :=
  ⟨rfl, rfl, rfl, by simp [World.setCell], fun j _ hj => Below.heap_setCell _ _ _ _ (fun e => hj (by rw [e]))⟩
/-- What the first loop holds. -/
structure KA (w W : World) (n : Nat) (F : Nat → Bool) (v : Value) (xs : List ByteArray) : Prop where
  row : Lies W w.heap.size 4 (rowB n F)
  inn : W.ownsRow w.heap.size 9 1 v xs.length (strs xs)
  bel : Below w.heap.size w W
theorem KA.below {w W W2 : World} {n : Nat} {F : Nat → Bool} {v : Value} {xs : List ByteArray} (h : KA w W n F v xs) (b : Below W.heap.size W W2) : KA w W2 n F v xs :=
  ⟨h.row.below b, own_below h.inn b, h.bel.trans (b.mono h.bel.size)⟩
theorem KA.set {w W : World} {n k : Nat} {F F2 : Nat → Bool} {v : Value} {xs : List ByteArray} (h : KA w W n F v xs) (b : Bool) (hk : k < n) (hF : ∀ i, F2 i = if i = k then b else F i) : KA w (W.setCell ⟨w.heap.size, k, none⟩ (.bool b)) n F2 v xs := by
  refine ⟨?_, ?_, h.bel.setCell (p := ⟨w.heap.size, k, none⟩) (Nat.le_refl _) _⟩
  · rw [show rowB n F2 = rowB n (fun i => if i = k then b else F i) from rowB_congr (fun i _ => hF i)]
    exact setBK h.row b hk
  · exact own_same h.inn (same_grown (grown_setK W w.heap.size k _) (fun j cur e hj => by
      cases e
      have := hj.symm.trans (show W.heap[w.heap.size]? = _ from h.row)
      simp at this))
theorem in_next (ok : ByteArray → Bool) (es : List Ent) (k : Nat) (x : Ent) (hx : es[k]? = some x) : inL ok (es.take (k + 1)) = inL ok (es.take k) ++ (if ok x.path then [x.path] else []) := by
  unfold inL
  rw [List.take_add_one, hx, List.map_append, List.filter_append]
  congr 1
  cases h : ok x.path <;> simp [h]
theorem in_length (ok : ByteArray → Bool) (es : List Ent) (k : Nat) : (inL ok (es.take k)).length ≤ es.length := by
  unfold inL
  have h1 := List.length_filter_le ok ((es.take k).map Ent.path)
  rw [List.length_map, List.length_take] at h1
  omega
/-- What the second loop holds. -/
structure KB (w W : World) (n : Nat) (F : Nat → Bool) (v : Value) (xs : List ByteArray) (u : Value) (ks : List Ent) : Prop where
  a : KA w W n F v xs
  kept : W.ownsRow w.heap.size 38 5 u ks.length (ecells ks)
theorem KB.below {w W W2 : World} {n : Nat} {F : Nat → Bool} {v u : Value} {xs : List ByteArray} {ks : List Ent} (h : KB w W n F v xs u ks) (b : Below W.heap.size W W2) : KB w W2 n F v xs u ks := ⟨h.a.below b, own_below h.kept b⟩
theorem KB.app {w W w1 : World} {n : Nat} {F : Nat → Bool} {v u v1 : Value} {xs : List ByteArray} {ks ks2 : List Ent} {x : Ent} {o : Obj} (h : KB w W n F v xs u ks) (hg : (W.alloc o).grownBy w1 u.ownBlock) (h1 : w1.ownsRow w.heap.size 38 5 v1 (ks.length + 1) (ecells ks ++ ecs x)) (he : ks2 = ks ++ [x]) : KB w w1 n F v xs v1 ks2 := by
  have hs := h.a.bel.size
  refine ⟨⟨liesTurn (h.a.row.alloc o) hg (fun j hj => (own_ge (h.kept.alloc o) j hj.symm).2) (by decide), own_same (h.a.inn.alloc o) (same_grown hg (fun j cur hj hh => ?_)), (h.a.bel.alloc hs _).grown hg (by simp; omega) (fun j hj => (own_ge h.kept j hj.symm).1)⟩, ?_⟩
  · obtain ⟨_, c2, h2⟩ := own_ge (h.kept.alloc o) j hj.symm
    rw [h2] at hh
    simp at hh
  · rw [he, ecells_append, List.length_append]
    have : ecells [x] = ecs x := by simp [ecells]
    rw [this]; exact h1

set_option maxRecDepth 100000 in
set_option maxHeartbeats 4000000 in
theorem keep_p {G : World → Prop} (HG : KeptBy G) (lv : Value) (ok : ByteArray → Bool) (HO : Hid (OutOK G lv ok)) (v : Value) (es : List Ent) (w : World) (hG : G w) (hv : EntsAt w v es) (hl : es.length ≤ 1048576) (hz : ∀ e ∈ es, e.path.size ≤ 1048576) : Calls Tryz.prog 12 #[lv, v] w fun e w' => ∃ u, e = .returned u ∧ w'.ownsRow w.heap.size 38 5 u (keepB ok es).length (ecells (keepB ok es)) ∧ Below w.heap.size w w' := by
  obtain ⟨i0, hi, hz0, hz1, hz2⟩ := info_parts info_ent
  obtain ⟨j0, hj, hy0, hy1, hy2⟩ := info_parts info_str
  obtain ⟨a, cap, b, o, rfl, ha, hcap, hc⟩ := hv
  have hmk : ∀ W, (Instr.makeSlice 66 (.int .i64 (es.length : Int)) (.int .i64 (es.length : Int))).run Tryz.prog W = .ok (.slice (some ⟨W.heap.size, 0, none⟩) es.length es.length) (W.alloc (.cells (rowB es.length fun _ => false) 4)) := fun W => make_bools es.length (by omega) W
  have HC : Hid (∀ W i e, es[i]? = some e → Below w.heap.size w W → EntC W b (o + i * 5) e) := fun W i e he bb => (hc i e he).below bb
  have HGW : Hid (∀ W, Below w.heap.size w W → G W) := fun W bb => HG _ _ hG bb
  have HKB : Hid (es.filter (keepS ok es) = keepB ok es) := by
    unfold Hid keepB
    exact congrArg (fun f => List.filter f es) (funext fun e => keepS_eq ok es e)
  clear hc HG
  go_enter Tryz.func12, Tryz.ntmps12
  go_wp2
  go_loopw [6, 7, 8, 17] (fun v _ _ i wr => ∃ k : Nat, i = .int .i64 k ∧ k ≤ es.length ∧ KA w wr es.length (outF ok es k) v (inL ok (es.take k))) (fun _ _ _ i _ => es.length - (intOf i).toNat)
  case atStart =>
    refine ⟨0, rfl, Nat.zero_le _, ?_, World.ownsRow_nil _ _ _ _, (Below.refl _ w).alloc (Nat.le_refl _) _⟩
    rw [show rowB es.length (outF ok es 0) = rowB es.length (fun _ => false) from rowB_congr (fun i _ => outF_zero ok es i)]
    exact Lies.new w _ _
  case round =>
    obtain ⟨k, rfl, hk, hK⟩ := hrel
    by_cases hlt : k < es.length
    · have hlt' : (k : Int) < (es.length : Int) := by omega
      have hk0 : (0 : Int) ≤ (k : Int) := by omega
      obtain ⟨x, hx⟩ : ∃ x, es[k]? = some x := ⟨_, List.getElem?_eq_getElem hlt⟩
      obtain rfl := ha (fun e => by rw [e] at hlt; simp at hlt)
      have hxz := hz x (List.mem_of_getElem? hx)
      obtain ⟨c0, c1, c2, c3, c4⟩ := HC.out wr k x hx hK.bel
      have HIN : Hid _ := in_next ok es k x hx
      have hil := in_length ok es k
      have HF : Hid (∀ i, outF ok es (k + 1) i = if i = k then !ok x.path else outF ok es k i) := fun i => outF_succ hx i
      have HKA : Hid _ := hK
      clear hx ha hK
      go_upto_region 6 with fail
      have E1 := ent_new wr 38 x
      have K1 := HKA.out.below ((Below.refl _ wr).alloc (Nat.le_refl _) (.cells #[.string x.path, .int .i64 x.kind, .int .i64 x.mode, .string x.data, .string x.link] 38))
      have hgs : w.heap.size ≤ wr.heap.size := HKA.out.bel.size
      have hne : w.heap.size < wr.heap.size := HKA.out.row.lt
      clear HKA c0 c1 c2 c3 c4
      generalize (wr.alloc (.cells #[.string x.path, .int .i64 x.kind, .int .i64 x.mode, .string x.data, .string x.link] 38)) = W1 at *
      generalize wr.heap.size = ge at *
      have hO := HO.out W1 (HGW.out W1 K1.bel) x.path hxz
      have e0 := E1.c0
      have HE1 : Hid _ := E1
      have HK1 : Hid _ := K1
      clear E1 K1
      cases hok : ok x.path with
      | false =>
        rw [hok] at hO
        have HF2 : Hid (∀ i, outF ok es (k + 1) i = if i = k then true else outF ok es k i) := fun i => by rw [HF.out i, hok]; rfl
        have HI2 : Hid (inL ok (es.take (k + 1)) = inL ok (es.take k)) := by unfold Hid; rw [HIN.out, hok]; simp
        clear hok HF HIN
        go_upto_region 7 with (go_at_call 18; refine hO.mono ?_; rintro e x1 ⟨rfl, b1⟩; have L1 := (HK1.out.below b1).row; have f1 := L1.frozen k; have d1 := L1.cell (rowB_get _ _ k hlt))
        have K2 : KA w (x1.setCell ⟨w.heap.size, k, none⟩ (.bool true)) es.length (outF ok es (k + 1)) u6 (inL ok (es.take (k + 1))) := by
          rw [HI2.out]; exact (HK1.out.below b1).set true hlt HF2.out
        have d2 := K2.row.cell (rowB_get _ _ k hlt)
        rw [HF2.out k, if_pos rfl] at d2
        have HK2 : Hid _ := K2
        clear K2 L1 f1 d1 b1 HK1 HE1 e0 hO
        generalize x1.setCell ⟨w.heap.size, k, none⟩ (.bool true) = W2 at *
        go_wp2
        go_roundw
        case rel => exact ⟨k + 1, by go_num, by omega, HK2.out⟩
        case measure => simp [intOf]; omega
      | true =>
        rw [hok] at hO
        have HF2 : Hid (∀ i, outF ok es (k + 1) i = if i = k then false else outF ok es k i) := fun i => by rw [HF.out i, hok]; rfl
        have HI2 : Hid (inL ok (es.take (k + 1)) = inL ok (es.take k) ++ [x.path]) := by unfold Hid; rw [HIN.out, hok]; simp
        clear hok HF HIN
        go_upto_region 7 with (go_at_call 18; refine hO.mono ?_; rintro e x1 ⟨rfl, b1⟩; have L1 := (HK1.out.below b1).row; have f1 := L1.frozen k; have d1 := L1.cell (rowB_get _ _ k hlt))
        have K2 : KA w (x1.setCell ⟨w.heap.size, k, none⟩ (.bool false)) es.length (outF ok es (k + 1)) u6 (inL ok (es.take k)) := (HK1.out.below b1).set false hlt HF2.out
        have e2 := ((HE1.out.below b1).same (W2 := x1.setCell ⟨w.heap.size, k, none⟩ (.bool false)) (Below.heap_setCell _ _ _ _ (by show ge ≠ w.heap.size; omega))).c0
        have d2 := K2.row.cell (rowB_get _ _ k hlt)
        rw [HF2.out k, if_pos rfl] at d2
        clear L1 f1 d1 b1 HK1 HE1 e0 hO
        generalize x1.setCell ⟨w.heap.size, k, none⟩ (.bool false) = W2 at *
        have hs2 := K2.bel.size
        go_wp2_with (at_builtin; refine wpList_append_own _ rfl _ _ 46 rfl w.heap.size 9 j0 (.string ⟨#[]⟩) 1 16 Tryz.underlying46 hj hy0 hy1 hy2 rfl (by decide) _ _ _ rfl (K2.inn.alloc _) ⟨W2.heap.size, 0, none⟩ 1 1 [.string x.path] rfl rfl (cell_one_new _ _ _) (by simp [Value.oneCell']) (by unfold maxLen; omega) (by omega) (by simp; omega) ?_; intro v1 w1 hown1 hgrow1 _)
        have hb1 : Below w.heap.size w w1 := (K2.bel.alloc hs2 _).grown hgrow1 (by simp; omega) (fun j hj => (own_ge K2.inn j hj.symm).1)
        have K3 : KA w w1 es.length (outF ok es (k + 1)) v1 (inL ok (es.take (k + 1))) := by
          refine ⟨liesTurn (K2.row.alloc _) hgrow1 (fun j hj => (own_ge (K2.inn.alloc _) j hj.symm).2) (by decide), ?_, hb1⟩
          rw [HI2.out]; simpa [strs] using hown1
        clear hown1 hgrow1 K2 d2 e2
        go_roundw
        case rel => exact ⟨k + 1, by go_num, by omega, K3⟩
        case measure => simp [intOf]; omega
    · have hge : ¬ (k : Int) < (es.length : Int) := by omega
      have hka : k = es.length := by omega
      rw [hka, List.take_of_length_le (Nat.le_refl _)] at hK
      have hil := in_length ok es es.length
      rw [List.take_of_length_le (Nat.le_refl _)] at hil
      have hS := sort_own hK.inn (by omega)
      have HK1 : Hid _ := hK
      clear hK hka
      go_wp2_with (go_at_call 34; refine hS.mono ?_; rintro e w2 ⟨rfl, ho2, hg2⟩)
      have K2 : KA w w2 es.length (outF ok es es.length) u6 (srtL ok es) := by
        refine ⟨liesTurn HK1.out.row hg2 (fun j hj => (own_ge HK1.out.inn j hj.symm).2) (by decide), ?_, HK1.out.bel.grown hg2 HK1.out.bel.size (fun j hj => (own_ge HK1.out.inn j hj.symm).1)⟩
        rw [srtL_sortT, sortT_length]; exact ho2
      have HSP : Hid _ := srt_pair ok es
      have hsl : (srtL ok es).length ≤ es.length := by rw [srt_length]; exact hil
      clear ho2 hg2 HK1 hS
      obtain ⟨oi, ci, rfl⟩ : ∃ oi ci, u6 = .slice oi (srtL ok es).length ci := by
        rcases K2.inn.2 with ⟨h, h0⟩ | ⟨g, cap', cur, h, _⟩
        · exact ⟨none, 0, by rw [h, h0]⟩
        · exact ⟨_, _, h⟩
      have HK2 : Hid _ := K2
      clear K2
      go_loopw [9, 10, 11, 44] (fun u _ _ i wr2 => ∃ k : Nat, i = .int .i64 k ∧ k ≤ es.length ∧ KB w wr2 es.length (outF ok es es.length) (.slice oi (srtL ok es).length ci) (srtL ok es) u ((es.take k).filter (keepS ok es))) (fun _ _ _ i _ => es.length - (intOf i).toNat)
      case atStart => exact ⟨0, rfl, Nat.zero_le _, HK2.out, World.ownsRow_nil _ _ _ _⟩
      case round =>
        obtain ⟨k, rfl, hk, hK⟩ := hrel
        by_cases hlt : k < es.length
        · have hlt' : (k : Int) < (es.length : Int) := by omega
          have hk0 : (0 : Int) ≤ (k : Int) := by omega
          obtain ⟨x, hx⟩ : ∃ x, es[k]? = some x := ⟨_, List.getElem?_eq_getElem hlt⟩
          obtain rfl := ha (fun e => by rw [e] at hlt; simp at hlt)
          have hxz := hz x (List.mem_of_getElem? hx)
          obtain ⟨c0, c1, c2, c3, c4⟩ := HC.out wr k x hx hK.a.bel
          have HTK : Hid (es.take (k + 1) = es.take k ++ [x]) := by unfold Hid; rw [List.take_add_one, hx]; rfl
          have HFK : Hid (outF ok es es.length k = !ok x.path) := outF_at hx hlt
          have hkl : ((es.take k).filter (keepS ok es)).length ≤ es.length := by
            have h1 := List.length_filter_le (keepS ok es) (es.take k)
            rw [List.length_take] at h1; omega
          have HKA : Hid _ := hK
          clear hx ha hK
          go_upto_region 15 with fail
          have E1 := ent_new wr 38 x
          have K1 := HKA.out.below ((Below.refl _ wr).alloc (Nat.le_refl _) (.cells #[.string x.path, .int .i64 x.kind, .int .i64 x.mode, .string x.data, .string x.link] 38))
          clear HKA c0 c1 c2 c3 c4
          generalize (wr.alloc (.cells #[.string x.path, .int .i64 x.kind, .int .i64 x.mode, .string x.data, .string x.link] 38)) = W1 at *
          generalize wr.heap.size = ge at *
          have d1 := K1.a.row.cell (rowB_get _ _ k hlt)
          rw [HFK.out] at d1
          have HAP : Hid (Calls Tryz.prog 35 #[.string x.path, .slice oi (srtL ok es).length ci] W1 fun e w' => e = .returned (.bool (anyS x.path (srtL ok es))) ∧ Below W1.heap.size W1 w') := any_p x.path (srtL ok es) K1.a.inn HSP.out (by omega) (by omega)
          have e0 := E1.c0
          have HKS : Hid (keepS ok es x = (ok x.path || anyS x.path (srtL ok es))) := rfl
          have HLF : Hid (∀ (W : World) (u : Value), keepS ok es x = false → KB w W es.length (outF ok es es.length) (.slice oi (srtL ok es).length ci) (srtL ok es) u ((es.take k).filter (keepS ok es)) → KB w W es.length (outF ok es es.length) (.slice oi (srtL ok es).length ci) (srtL ok es) u ((es.take (k + 1)).filter (keepS ok es))) := fun W u h1 h2 => by
            rw [HTK.out, List.filter_append, show [x].filter (keepS ok es) = [] by simp [h1], List.append_nil]; exact h2
          have HEQ : Hid (keepS ok es x = true → (es.take (k + 1)).filter (keepS ok es) = (es.take k).filter (keepS ok es) ++ [x]) := fun h1 => by
            rw [HTK.out, List.filter_append, show [x].filter (keepS ok es) = [x] by simp [h1]]
          cases hok : ok x.path with
          | true =>
            rw [hok] at d1
            have HE2 := HEQ.out (by rw [HKS.out, hok]; rfl)
            have HE3 : Hid _ := HE2
            obtain ⟨f0, f1, f2, f3, f4⟩ := E1
            clear hok HKS HLF HEQ HE2 HAP e0
            have hs2 := K1.a.bel.size
            go_wp2_with (at_builtin; refine wpList_append_own _ rfl _ _ 22 rfl w.heap.size 38 i0 (.agg #[.string ⟨#[]⟩, .int .i64 0, .int .i64 0, .string ⟨#[]⟩, .string ⟨#[]⟩]) 5 64 Tryz.underlying22 hi hz0 hz1 hz2 rfl (by decide) _ _ _ rfl (K1.kept.alloc _) ⟨W1.heap.size, 0, none⟩ 1 1 (ecs x) rfl rfl (ent_cells (ent_new W1 _ x)) (ent_one x) (by unfold maxLen; omega) (by omega) (by simp; omega) ?_; intro v1 w1 hown1 hgrow1 _)
            have K3 := KB.app K1 hgrow1 hown1 HE3.out
            clear hown1 hgrow1 K1 d1 f0 f1 f2 f3 f4
            go_roundw
            case rel => exact ⟨k + 1, by go_num, by omega, K3⟩
            case measure => simp [intOf]; omega
          | false =>
            rw [hok] at d1
            cases has : anyS x.path (srtL ok es) with
            | true =>
              have hAP := HAP.out
              rw [has] at hAP
              have HE2 := HEQ.out (by rw [HKS.out, hok, has]; rfl)
              have HE3 : Hid _ := HE2
              have HEE : Hid _ := E1
              clear hok has HKS HLF HEQ HE2 HAP
              go_upto_region 16 with (go_at_call 35; refine hAP.mono ?_; rintro e x1 ⟨rfl, b1⟩)
              obtain ⟨f0, f1, f2, f3, f4⟩ := HEE.out.below b1
              have K2 := K1.below b1
              have hs2 := K2.a.bel.size
              clear K1 hAP e0 d1
              go_wp2_with (at_builtin; refine wpList_append_own _ rfl _ _ 22 rfl w.heap.size 38 i0 (.agg #[.string ⟨#[]⟩, .int .i64 0, .int .i64 0, .string ⟨#[]⟩, .string ⟨#[]⟩]) 5 64 Tryz.underlying22 hi hz0 hz1 hz2 rfl (by decide) _ _ _ rfl (K2.kept.alloc _) ⟨x1.heap.size, 0, none⟩ 1 1 (ecs x) rfl rfl (ent_cells (ent_new x1 _ x)) (ent_one x) (by unfold maxLen; omega) (by omega) (by simp; omega) ?_; intro v1 w1 hown1 hgrow1 _)
              have K3 := KB.app K2 hgrow1 hown1 HE3.out
              clear hown1 hgrow1 K2 f0 f1 f2 f3 f4
              go_roundw
              case rel => exact ⟨k + 1, by go_num, by omega, K3⟩
              case measure => simp [intOf]; omega
            | false =>
              have hAP := HAP.out
              rw [has] at hAP
              have HL2 : Hid _ := HLF.out
              have HKF : Hid (keepS ok es x = false) := by unfold Hid; rw [HKS.out, hok, has]; rfl
              clear hok has HKS HLF HEQ HAP E1
              go_wp2_with (go_at_call 35; refine hAP.mono ?_; rintro e x1 ⟨rfl, b1⟩)
              have K3 := HL2.out x1 _ HKF.out (K1.below b1)
              clear K1 hAP e0 d1
              go_roundw
              case rel => exact ⟨k + 1, by go_num, by omega, K3⟩
              case measure => simp [intOf]; omega
        · have hge : ¬ (k : Int) < (es.length : Int) := by omega
          have hka : k = es.length := by omega
          rw [hka, List.take_of_length_le (Nat.le_refl _), HKB.out] at hK
          have HKK : Hid _ := hK
          clear hK hka
          go_wp2
          go_ret
          exact ⟨_, rfl, HKK.out.kept, HKK.out.a.bel⟩
end Go.Proofs.YthkbhcefckbcnaaGreatDoor
