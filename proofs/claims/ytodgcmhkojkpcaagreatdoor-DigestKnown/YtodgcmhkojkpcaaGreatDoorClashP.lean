/- Package digest's Clash. -/
import Derived.Test.YtodgcmhkojkpcaaGreatDoorLists
import Derived.Test.YtodgcmhkojkpcaaGreatDoorDigEq
import Derived.DeepKeys3
import Derived.Maps.OwnSet
import Derived.Maps.Views
import Derived.Test.YtodgcmhkojkpcaaGreatDoorSum3
import Derived.Carry

namespace Go.Proofs.YtodgcmhkojkpcaaGreatDoor

/-- Two places hold unlike texts with one digest. -/
def clashes (f : ByteArray → List UInt8) (l : List ByteArray) (i j : Nat) : Prop := ∃ x y, l[i]? = some x ∧ l[j]? = some y ∧ x ≠ y ∧ f x = f y
/-- No clash among the first k texts. -/
def calm (f : ByteArray → List UInt8) (l : List ByteArray) (k : Nat) : Prop := ∀ j, j < k → ∀ i, i < j → ¬ clashes f l i j
/-- What is answered of a row of texts. -/
def ClashIs (f : ByteArray → List UInt8) (l : List ByteArray) (i j : Nat) (ok : Bool) : Prop :=
  (ok = false ∧ i = 0 ∧ j = 0 ∧ calm f l l.length) ∨ (ok = true ∧ i < j ∧ j < l.length ∧ clashes f l i j ∧ (∀ q, q < i → ¬ clashes f l q j) ∧ calm f l j)

theorem ClashIs.same {f : ByteArray → List UInt8} {l : List ByteArray} {i j p q : Nat} {ok ok2 : Bool} (h : ClashIs f l i j ok) (k : ClashIs f l p q ok2) : i = p ∧ j = q ∧ ok = ok2 := by
  rcases h with ⟨rfl, rfl, rfl, h⟩ | ⟨rfl, h1, h2, h3, h4, h5⟩
  · rcases k with ⟨rfl, rfl, rfl, _⟩ | ⟨rfl, k1, k2, k3, _, _⟩
    · exact ⟨rfl, rfl, rfl⟩
    · exact (h q k2 p k1 k3).elim
  · rcases k with ⟨rfl, rfl, rfl, k⟩ | ⟨rfl, k1, k2, k3, k4, k5⟩
    · exact (k j h2 i h1 h3).elim
    · have e : j = q := by
        rcases Nat.lt_trichotomy j q with e | e | e
        · exact (k5 j e i h1 h3).elim
        · exact e
        · exact (h5 q e p k1 k3).elim
      subst e
      refine ⟨?_, rfl, rfl⟩
      rcases Nat.lt_trichotomy i p with e | e | e
      · exact (k4 i e h3).elim
      · exact e
      · exact (h4 p e k3).elim
theorem calm_zero (f : ByteArray → List UInt8) (l : List ByteArray) : calm f l 0 := fun j h => by omega
theorem calm_succ {f : ByteArray → List UInt8} {l : List ByteArray} {k : Nat} (h : calm f l k) (h2 : ∀ i, i < k → ¬ clashes f l i k) : calm f l (k + 1) := fun j hj i hi => by
  rcases Nat.lt_or_ge j k with e | e
  · exact h j e i hi
  · obtain rfl : j = k := by omega
    exact h2 i hi

/-- i is the first of the first k places whose text has the digest d. -/
def FirstAt (f : ByteArray → List UInt8) (l : List ByteArray) (k : Nat) (d : List UInt8) (i : Nat) : Prop := i < k ∧ (∃ x, l[i]? = some x ∧ f x = d) ∧ ∀ q x, q < i → l[q]? = some x → f x ≠ d
/-- None of the first k texts has the digest d. -/
def NoneAt (f : ByteArray → List UInt8) (l : List ByteArray) (k : Nat) (d : List UInt8) : Prop := ∀ q x, q < k → l[q]? = some x → f x ≠ d

theorem none_clash {f : ByteArray → List UInt8} {l : List ByteArray} {k : Nat} {y : ByteArray} (hy : l[k]? = some y) (h : NoneAt f l k (f y)) : ∀ i, i < k → ¬ clashes f l i k := by
  rintro i hi ⟨x, y2, hx, hy2, _, he⟩
  obtain rfl := Option.some.inj (hy.symm.trans hy2)
  exact h i x hi hx he
theorem first_same {f : ByteArray → List UInt8} {l : List ByteArray} {k i : Nat} {y : ByteArray} (hc : calm f l k) (hy : l[k]? = some y) (h : FirstAt f l k (f y) i) (hs : l[i]? = some y) : ∀ q, q < k → ¬ clashes f l q k := by
  rintro q hq ⟨x, y2, hx, hy2, hne, he⟩
  obtain rfl := Option.some.inj (hy.symm.trans hy2)
  rcases Nat.lt_trichotomy q i with e | e | e
  · exact h.2.2 q x e hx he
  · subst e; exact hne (Option.some.inj (hx.symm.trans hs))
  · exact hc q hq i e ⟨y, x, hs, hx, fun e2 => hne e2.symm, he.symm⟩
theorem first_clash {f : ByteArray → List UInt8} {l : List ByteArray} {k i : Nat} {x y : ByteArray} (hc : calm f l k) (hk : k < l.length) (hy : l[k]? = some y) (h : FirstAt f l k (f y) i) (hs : l[i]? = some x) (hne : x ≠ y) : ClashIs f l i k true := by
  obtain ⟨h1, ⟨x2, hx2, he⟩, h3⟩ := h
  obtain rfl := Option.some.inj (hs.symm.trans hx2)
  refine .inr ⟨rfl, h1, hk, ⟨x, y, hs, hy, hne, he⟩, ?_, hc⟩
  rintro q hq ⟨z, y2, hz, hy2, _, he2⟩
  obtain rfl := Option.some.inj (hy.symm.trans hy2)
  exact h3 q z hq hz he2
theorem FirstAt.mono {f : ByteArray → List UInt8} {l : List ByteArray} {k i : Nat} {d : List UInt8} (h : FirstAt f l k d i) : FirstAt f l (k + 1) d i := ⟨by have := h.1; omega, h.2⟩
theorem NoneAt.first {f : ByteArray → List UInt8} {l : List ByteArray} {k : Nat} {y : ByteArray} (h : NoneAt f l k (f y)) (hy : l[k]? = some y) : FirstAt f l (k + 1) (f y) k := ⟨by omega, ⟨y, hy, rfl⟩, h⟩
theorem NoneAt.succ {f : ByteArray → List UInt8} {l : List ByteArray} {k : Nat} {y : ByteArray} {d : List UInt8} (h : NoneAt f l k d) (hy : l[k]? = some y) (hd : d ≠ f y) : NoneAt f l (k + 1) d := fun q x hq hx => by
  rcases Nat.lt_or_ge q k with e | e
  · exact h q x e hx
  · obtain rfl : q = k := by omega
    obtain rfl := Option.some.inj (hx.symm.trans hy)
    exact fun e => hd e.symm
end Go.Proofs.YtodgcmhkojkpcaaGreatDoor

namespace Go.Proofs.YtodgcmhkojkpcaaGreatDoor
open Go Go.RowKit Go.Maps

def digLits (l : List UInt8) : List Lit := l.map fun b => Lit.int .u8 b.toNat
def keyD (l : List UInt8) : Lit := .string (keyBytes (digLits l))
set_option maxRecDepth 100000 in
theorem keyD_lit (l : List UInt8) : WideAt.IsKeyLit (keyD l) := trivial
set_option maxRecDepth 100000 in
theorem mapM_all {α β : Type} (f : α → Option β) (g : α → β) : ∀ L : List α, (∀ x ∈ L, f x = some (g x)) → L.mapM f = some (L.map g)
  | [], _ => rfl
  | x :: L, h => by
    rw [List.mapM_cons, h x (by simp), mapM_all f g L (fun y hy => h y (by simp [hy]))]
    rfl
set_option maxRecDepth 100000 in
theorem digest_cells : Tryz.prog.cellsOf 25 = 32 := by kernel_rfl
set_option maxRecDepth 100000 in
theorem wide_digest : (match Tryz.prog.underlying 25 with | some (.array _ _) | some (.struct _) => true | _ => false) = true := by kernel_rfl
set_option maxRecDepth 100000 in
theorem types_n : Tryz.prog.types.size = 187 := by kernel_rfl
set_option maxRecDepth 100000 in
theorem types_two : ∃ n, Tryz.prog.types.size + 1 = n + 2 := ⟨187 - 1, by rw [types_n]⟩
set_option maxRecDepth 100000 in
theorem lits_dig (n : Nat) (l : List UInt8) (h : l.length = 32) : Tryz.prog.keyLits (n + 2) 25 (Lib.byteCells l) = some (digLits l) := by
  have hl : (Lib.byteCells l).length = 32 := by rw [Lib.byteCells_length, h]
  unfold Program.keyLits
  rw [Tryz.underlying25]
  simp only []
  rw [digest_cells, if_pos hl, byte_cells]
  have hone : ∀ i ∈ List.range 32, Tryz.prog.keyLits (n + 1) 5 (((Lib.byteCells l).drop (i * 1)).take 1) = some [Lit.int .u8 ((l.getD i 0).toNat : Nat)] := fun i hi => by
    have hi2 : i < 32 := List.mem_range.1 hi
    have hil : i < l.length := by omega
    have e : ((Lib.byteCells l).drop (i * 1)).take 1 = [Value.int .u8 (l[i].toNat : Nat)] := by
      rw [Nat.mul_one, List.drop_eq_getElem_cons (by omega)]
      simp [Lib.byteCells]
    rw [e]
    unfold Program.keyLits
    rw [Tryz.underlying5]
    simp only []
    have hb : l[i].toNat < 256 := UInt8.toNat_lt _
    have hw : (Lit.int .u8 (l[i].toNat : Nat)).wf = true := by
      have e1 : IntKind.u8.min = 0 := rfl
      have e2 : IntKind.u8.max = 255 := rfl
      simp [Lit.wf]
      omega
    rw [if_pos (by exact ⟨by simp, hw⟩)]
    rw [List.getD_eq_getElem?_getD, List.getElem?_eq_getElem hil]
    rfl
  rw [mapM_all _ _ _ hone]
  show some (List.flatten _) = _
  congr 1
  apply List.ext_getElem?
  intro i
  have e2 : ((List.range 32).map fun i => [Lit.int .u8 ((l.getD i 0).toNat : Nat)]).flatten = (List.range 32).map fun i => Lit.int .u8 ((l.getD i 0).toNat : Nat) := by
    induction List.range 32 with
    | nil => rfl
    | cons a L ih => simp only [List.map_cons, List.flatten_cons, ih]; rfl
  rw [e2]
  unfold digLits
  rw [List.getElem?_map, List.getElem?_map]
  by_cases hi : i < 32
  · rw [List.getElem?_range hi, List.getElem?_eq_getElem (by omega)]
    simp [List.getElem?_eq_getElem (show i < l.length by omega)]
  · rw [List.getElem?_eq_none (by simp; omega), List.getElem?_eq_none (by omega)]; rfl
set_option maxRecDepth 100000 in
theorem key_dig (l : List UInt8) (h : l.length = 32) : keyOf Tryz.prog 25 (.agg (dig32 l)) = some (keyD l) := by
  obtain ⟨n, hn⟩ := types_two
  have hk : Tryz.prog.keyType 25 = true := by kernel_rfl
  have hf : (Value.agg (dig32 l)).formed Tryz.prog 25 = true := by
    unfold Value.formed
    rw [Tryz.underlying25]
    simp only []
    rw [digest_cells, dig32_size, h]; rfl
  unfold keyOf
  rw [Tryz.underlying25]
  simp only []
  rw [hk, hf, hn]
  have e : (Value.agg (dig32 l)).cells.toList = Lib.byteCells l := by simp [Value.cells, dig32]
  rw [e, lits_dig n l h]
  rfl
set_option maxRecDepth 100000 in
theorem tiled_digest : Tryz.prog.tiled 2 25 = true := by kernel_rfl
set_option maxRecDepth 100000 in
theorem digest_law : Keyed Tryz.prog 25 := Keyed.of_law (deep_law (m := 2) (by decide) (by kernel_rfl) tiled_digest wide_digest)
set_option maxRecDepth 100000 in
theorem keyD_inj {a b : List UInt8} (ha : a.length = 32) (hb : b.length = 32) (h : keyD a = keyD b) : a = b := by
  have e := keyOf_inj_deep tiled_digest wide_digest (key_dig a ha) (h ▸ key_dig b hb)
  have e2 : dig32 a = dig32 b := by injection e
  apply List.ext_getElem?
  intro i
  by_cases hi : i < 32
  · have h1 := dig32_get a i (by omega)
    have h2 := dig32_get b i (by omega)
    rw [e2, h2] at h1
    have h3 : (b[i].toNat : Int) = (a[i].toNat : Int) := by injection (Option.some.inj h1)
    rw [List.getElem?_eq_getElem (by omega), List.getElem?_eq_getElem (by omega)]
    congr 1
    exact UInt8.toNat_inj.1 (by omega)
  · rw [List.getElem?_eq_none (by omega), List.getElem?_eq_none (by omega)]

set_option maxRecDepth 100000 in
/-- The map tells of each digest the first of the first k places that has it. -/
def MapOK (f : ByteArray → List UInt8) (l : List ByteArray) (k : Nat) (D : DataW Unit) : Prop :=
  ∀ d : List UInt8, d.length = 32 → (has D (keyD d) = false → NoneAt f l k d) ∧ (has D (keyD d) = true → ∃ i : Nat, (∀ z, D.atKey (keyD d) z = .lit (.int .i64 i)) ∧ FirstAt f l k d i)
set_option maxRecDepth 100000 in
theorem mapOK_start (f : ByteArray → List UInt8) (l : List ByteArray) : MapOK f l 0 (.map []) := fun d _ => ⟨fun _ q x hq => by omega, fun h => by cases h⟩
set_option maxRecDepth 100000 in
theorem mapOK_same {f : ByteArray → List UInt8} {l : List ByteArray} {k : Nat} {D : DataW Unit} {y : ByteArray} (h : MapOK f l k D) (hy : l[k]? = some y) (hh : has D (keyD (f y)) = true) : MapOK f l (k + 1) D := fun d hd => by
  refine ⟨fun hn => (h d hd).1 hn |>.succ hy (fun e => by subst e; rw [hh] at hn; cases hn), fun ht => ?_⟩
  obtain ⟨i, h1, h2⟩ := (h d hd).2 ht
  exact ⟨i, h1, h2.mono⟩
set_option maxRecDepth 100000 in
theorem mapOK_put {f : ByteArray → List UInt8} {l : List ByteArray} {k : Nat} {D : DataW Unit} {y : ByteArray} (h : MapOK f l k D) (hm : IsMap D) (hy : l[k]? = some y) (hh : has D (keyD (f y)) = false) (hf : (f y).length = 32) : MapOK f l (k + 1) (D.put (keyD (f y)) (.lit (.int .i64 k))) := fun d hd => by
  by_cases e : d = f y
  · subst e
    refine ⟨fun hn => (by rw [has_put_same hm (keyD_lit _)] at hn; cases hn), fun _ => ⟨k, fun z => atKey_put_same hm (keyD_lit _) _ z, ((h _ hd).1 hh).first hy⟩⟩
  · have hne : keyD d ≠ keyD (f y) := fun e2 => e (keyD_inj hd hf e2)
    refine ⟨fun hn => ((h d hd).1 (by rw [has_put_other hne] at hn; exact hn)).succ hy e, fun ht => ?_⟩
    rw [has_put_other hne] at ht
    obtain ⟨i, h1, h2⟩ := (h d hd).2 ht
    exact ⟨i, fun z => by rw [atKey_put_other hne]; exact h1 z, h2.mono⟩
end Go.Proofs.YtodgcmhkojkpcaaGreatDoor

namespace Go.Proofs.YtodgcmhkojkpcaaGreatDoor
open Go Go.RowKit Go.Maps

theorem info_int : (Tryz.prog.info? 3).map (fun i => (i.zero, i.size)) = some (some (.int .i64 0), 1) := by kernel_rfl
theorem zero_int (W : World) : (zeroValue 3).run Tryz.prog W = .ok (.int .i64 0) W := (zero_of_info (P := Tryz.prog) info_int).1 W
def ClashPost (n : Int) (l : List ByteArray) (w : World) (e : Ending) (w' : World) : Prop := ∃ (i j : Nat) (ok : Bool), e = .returned (.tuple #[.int .i64 i, .int .i64 j, .bool ok]) ∧ ClashIs (fun x => sumB (widthN n) (un x)) l i j ok ∧ Below w.heap.size w w'
theorem own_map_below {w w' : World} {b m : Nat} {D : DataW Unit} (h : w.ownsMap Tryz.prog 25 (plainElem Tryz.prog 3) b m D) (hb : Below w.heap.size w w') : w'.ownsMap Tryz.prog 25 (plainElem Tryz.prog 3) b m D := by
  have hl := h.lt
  obtain ⟨es, clock, h1, rest⟩ := h
  exact ⟨es, clock, (hb.block b hl).trans h1, rest⟩
theorem toList_ne {x y : ByteArray} (h : x ≠ y) : (x.toList == y.toList) = false := by
  rw [beq_eq_false_iff_ne]
  intro e
  rw [toList_un, toList_un] at e
  exact h (un_inj e)
theorem wf_nat (k : Nat) (h : k ≤ 1048576) : (Lit.int .i64 (k : Int)).wf = true := by
  have e1 : IntKind.i64.min = -9223372036854775808 := rfl
  have e2 : IntKind.i64.max = 9223372036854775807 := rfl
  simp [Lit.wf]
  omega

set_option maxRecDepth 100000 in
set_option maxHeartbeats 8000000 in
theorem clash_p (n : Int) (l : List ByteArray) (v : Value) (w : World) (hk : KTab w) (h : TextsAt w v l) (hz : wt l ≤ 1048576) :
    Calls Tryz.prog 47 #[.int .i64 n, v] w (ClashPost n l w) := by
  have hln := length_wt l
  obtain ⟨o, cap, rfl, hnil, hcell⟩ := h
  have hmm := @run_makeMap Tryz.prog
  have HF : Hid (∀ x : ByteArray, (sumB (widthN n) (un x)).length = 32) := fun x => sumB_length _ _ (widthN_le n)
  go_enter Tryz.func47, Tryz.ntmps47
  go_wp2
  go_loopw [16] (fun s wr => ∃ (k m : Nat) (D : DataW Unit), s = .int .i64 k ∧ k ≤ l.length ∧ m ≤ k ∧ wr.ownsMap Tryz.prog 25 (plainElem Tryz.prog 3) w.heap.size m D ∧ MapOK (fun x => sumB (widthN n) (un x)) l k D ∧ calm (fun x => sumB (widthN n) (un x)) l k ∧ Below w.heap.size w wr) (fun s _ => l.length - (intOf s).toNat)
  case atStart => exact ⟨0, 0, .map [], rfl, Nat.zero_le _, Nat.le_refl _, World.ownsMap_made _ _ _ _, mapOK_start _ _, calm_zero _ _, (Below.refl _ w).alloc (Nat.le_refl _) _⟩
  case round =>
    obtain ⟨k, m, D, rfl, hkl, hm, hown, hmap, hcalm, hB⟩ := hrel
    by_cases hlt : k < l.length
    · obtain ⟨x, hx⟩ : ∃ x, l[k]? = some x := ⟨_, List.getElem?_eq_getElem hlt⟩
      obtain ⟨b, of, rfl, hcx⟩ := hcell k x hx
      have HX : Hid (l[k]? = some x) := hx
      have hcw : wr.cell? ⟨b, of + k, none⟩ = some (.string x) := (hB.cell (p := ⟨b, of + k, none⟩) (World.block_lt_of_cell? w _ hcx)).trans hcx
      have hsz : x.size ≤ 1048576 := by have := size_wt (List.mem_of_getElem? hx); omega
      have hS := fun W (h : KTab W) => sum_p n x W h (by omega)
      have hdl := HF.out x
      have hkd := key_dig _ hdl
      have HMap : Hid _ := hmap
      have HCalm : Hid _ := hcalm
      have hbw : w.heap.size < wr.heap.size := hown.lt
      have hd1 : (k : Int) < (l.length : Int) := by omega
      have hKT : KTab wr := var?_below hB l_k (var_lt l_k hk) hk
      have HFX : Hid (sumB (widthN n) (un x) = (fun x => sumB (widthN n) (un x)) x) := rfl
      generalize sumB (widthN n) (un x) = d at *
      clear hx hcx hmap hcalm
      have hi : (Tryz.prog.info? 25).map (·.size) = some (dig32 d).size := by rw [dig32_size, hdl]; kernel_rfl
      have hzd : (dig32 zeros).size = (dig32 d).size := by rw [dig32_size, dig32_size, hdl]; rfl
      have ho := dig32_one d
      have hzr := (zero_of_info (P := Tryz.prog) info_digest).1
      go_wp2_with fail
      refine (hS _ hKT).mono ?_
      rintro e w1 ⟨rfl, B1⟩
      have A1 : Lies (w1.alloc (.cells (dig32 zeros) 25)) w1.heap.size 25 (dig32 zeros) := Lies.new _ _ _
      have L1 : Lies ((w1.alloc (.cells (dig32 zeros) 25)).setRow w1.heap.size (dig32 d)) w1.heap.size 25 (dig32 d) := A1.row _
      have B2 : Below w1.heap.size w1 ((w1.alloc (.cells (dig32 zeros) 25)).setRow w1.heap.size (dig32 d)) := below_setRow ((Below.refl _ w1).alloc (Nat.le_refl _) _) (Nat.le_refl _) _
      have hownA := own_map_below (own_map_below hown B1) B2
      have BA : Below w.heap.size w ((w1.alloc (.cells (dig32 zeros) 25)).setRow w1.heap.size (dig32 d)) := below_join (below_join hB B1) B2
      generalize hWA : (w1.alloc (.cells (dig32 zeros) 25)).setRow w1.heap.size (dig32 d) = WA at *
      cases hh : has D (keyD d)
      · have HNew : Hid _ := mapOK_put HMap.out hownA.isMap HX.out (by rw [← HFX.out]; exact hh) (by rw [← HFX.out]; exact hdl)
        have HNone : Hid _ := ((HMap.out d hdl).1 hh)
        have HH : Hid _ := hh
        clear hh
        go_wp2_with (first
          | (refine wpList_store_row rfl 25 (.tmp 10) (.tmp 23) rfl w1.heap.size (dig32 d) rfl rfl 25 (dig32 zeros) A1 hi hzd ho ?_; rw [hWA])
          | (refine wpList_load_row rfl 25 (.tmp 10) rfl w1.heap.size rfl 25 (dig32 d) (0, 0) _ L1 Tryz.underlying25 rfl hi ?_)
          | (at_lookup; refine wpList_lookup_own_ok_int _ rfl _ _ 106 rfl 25 3 .i64 digest_law Tryz.underlying106 Tryz.underlying3 (zero_int _) w.heap.size m D rfl hownA _ _ rfl hkd ?_; intro c hat hwc; rw [HH.out])
          | (at_mapUpdate; refine wpList_mapUpdate_own _ rfl _ _ _ 106 rfl 25 3 digest_law Tryz.underlying106 (plainElem Tryz.prog 3) w.heap.size m D rfl hownA (by unfold maxLen; omega) _ _ _ rfl rfl hkd _ [] (plainElem_int Tryz.underlying3 (wf_nat k (by omega))) ?_; intro w3 hown3 hgrow3))
        refine ⟨⟨k + 1, m + 1, _, by go_num, by omega, by omega, hown3, ?_, calm_succ HCalm.out (none_clash HX.out ?_), BA.grown hgrow3 BA.size (fun j e => by cases e; exact Nat.le_refl _)⟩, by simp [intOf]; omega⟩
        · have hfx : d = sumB (widthN n) (un x) := HFX.out
          rw [hfx]
          exact HNew.out
        · have hfx : d = sumB (widthN n) (un x) := HFX.out
          have h := HNone.out
          rw [hfx] at h
          exact h
      · obtain ⟨i, hat, hF⟩ := (HMap.out d hdl).2 hh
        have HSame : Hid (MapOK (fun x => sumB (widthN n) (un x)) l (k + 1) D) := mapOK_same HMap.out HX.out (by rw [← HFX.out]; exact hh)
        have HH : Hid _ := hh
        have HAt : Hid _ := hat
        have HFi : Hid (FirstAt (fun x => sumB (widthN n) (un x)) l k (sumB (widthN n) (un x)) i) := by
          have hfx : d = sumB (widthN n) (un x) := HFX.out
          rw [hfx] at hF
          exact hF
        have hik : i < k := hF.1
        obtain ⟨y, hy⟩ : ∃ y, l[i]? = some y := ⟨_, List.getElem?_eq_getElem (by omega)⟩
        obtain ⟨b2, of2, e2, hcy⟩ := hcell i y hy
        have e3 : b = b2 ∧ of = of2 := by injection e2 with e2; injection e2 with e4 e5; exact ⟨e4, e5⟩
        obtain ⟨rfl, rfl⟩ := e3
        have hcyA : WA.cell? ⟨b, of + i, none⟩ = some (.string y) := (BA.cell (p := ⟨b, of + i, none⟩) (World.block_lt_of_cell? w _ hcy)).trans hcy
        have hd2 : (i : Int) < (l.length : Int) := by omega
        have HY : Hid _ := hy
        clear hh hat hF hy hcy e2
        by_cases hxy : y = x
        · subst hxy
          go_wp2_with (first
            | (refine wpList_store_row rfl 25 (.tmp 10) (.tmp 23) rfl w1.heap.size (dig32 d) rfl rfl 25 (dig32 zeros) A1 hi hzd ho ?_; rw [hWA])
            | (refine wpList_load_row rfl 25 (.tmp 10) rfl w1.heap.size rfl 25 (dig32 d) (0, 0) _ L1 Tryz.underlying25 rfl hi ?_)
            | (at_lookup; refine wpList_lookup_own_ok_int _ rfl _ _ 106 rfl 25 3 .i64 digest_law Tryz.underlying106 Tryz.underlying3 (zero_int _) w.heap.size m D rfl hownA _ _ rfl hkd ?_; intro c hat2 hwc; obtain rfl : c = (i : Int) := (by have h := (HAt.out _).symm.trans hat2; injection h with h; injection h with h1 h2; exact h2.symm); rw [HH.out])
            | (at_mapUpdate; refine wpList_mapUpdate_own _ rfl _ _ _ 106 rfl 25 3 digest_law Tryz.underlying106 (plainElem Tryz.prog 3) w.heap.size m D rfl hownA (by unfold maxLen; omega) _ _ _ rfl rfl hkd _ [] (plainElem_int Tryz.underlying3 (wf_nat k (by omega))) ?_; intro w3 hown3 hgrow3))
          refine ⟨⟨k + 1, m, D, by go_num, by omega, by omega, hownA, HSame.out, calm_succ HCalm.out (first_same HCalm.out HX.out HFi.out HY.out), BA⟩, by simp [intOf]; omega⟩
        · have HC : Hid (ClashIs (fun x => sumB (widthN n) (un x)) l i k true) := first_clash HCalm.out hlt HX.out HFi.out HY.out hxy
          have hne2 : (y.toList == x.toList) = false := toList_ne hxy
          clear hxy
          go_wp2_with (first
            | (refine wpList_store_row rfl 25 (.tmp 10) (.tmp 23) rfl w1.heap.size (dig32 d) rfl rfl 25 (dig32 zeros) A1 hi hzd ho ?_; rw [hWA])
            | (refine wpList_load_row rfl 25 (.tmp 10) rfl w1.heap.size rfl 25 (dig32 d) (0, 0) _ L1 Tryz.underlying25 rfl hi ?_)
            | (at_lookup; refine wpList_lookup_own_ok_int _ rfl _ _ 106 rfl 25 3 .i64 digest_law Tryz.underlying106 Tryz.underlying3 (zero_int _) w.heap.size m D rfl hownA _ _ rfl hkd ?_; intro c hat2 hwc; obtain rfl : c = (i : Int) := (by have h := (HAt.out _).symm.trans hat2; injection h with h; injection h with h1 h2; exact h2.symm); rw [HH.out])
            | (at_mapUpdate; refine wpList_mapUpdate_own _ rfl _ _ _ 106 rfl 25 3 digest_law Tryz.underlying106 (plainElem Tryz.prog 3) w.heap.size m D rfl hownA (by unfold maxLen; omega) _ _ _ rfl rfl hkd _ [] (plainElem_int Tryz.underlying3 (wf_nat k (by omega))) ?_; intro w3 hown3 hgrow3))
          refine bodyPost_ret (results_tmp3 rfl _ _ _) rfl ?_
          exact ⟨i, k, true, rfl, HC.out, BA⟩
    · obtain rfl : k = l.length := by omega
      have hd1 : ¬ ((l.length : Nat) : Int) < (l.length : Int) := by omega
      have HC : Hid (calm (fun x => sumB (widthN n) (un x)) l l.length) := hcalm
      clear hmap hcalm
      go_wp2
      refine bodyPost_ret (results_tmp3 rfl _ _ _) rfl ?_
      exact ⟨0, 0, false, rfl, .inl ⟨rfl, rfl, rfl, HC.out⟩, hB⟩
end Go.Proofs.YtodgcmhkojkpcaaGreatDoor
