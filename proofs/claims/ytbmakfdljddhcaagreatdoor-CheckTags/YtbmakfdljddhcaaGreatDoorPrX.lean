/- Lists of pairs that are read; the last pair of each key, as a map tells it. -/
import Derived.Test.YtbmakfdljddhcaaGreatDoorRdW
import Derived.StringKeys
import Derived.Maps.OwnSet
import Derived.Maps.Views
import Derived.Carry
namespace Go.Proofs.YtbmakfdljddhcaaGreatDoor
open Go Go.RowKit Go.Maps

structure PrZ where
  key : ByteArray
  val : ByteArray
structure PrC (W : World) (b q : Nat) (e : PrZ) : Prop where
  c0 : W.cell? ⟨b, q, none⟩ = some (.string e.key)
  c1 : W.cell? ⟨b, q + 1, none⟩ = some (.string e.val)
theorem PrC.below {W W2 : World} {b q : Nat} {e : PrZ} (h : PrC W b q e) (hb : Below W.heap.size W W2) : PrC W2 b q e := by
  have hl := World.block_lt_of_cell? W _ h.c0
  exact ⟨(hb.cell (p := ⟨b, q, none⟩) hl).trans h.c0, (hb.cell (p := ⟨b, q + 1, none⟩) hl).trans h.c1⟩
/-- A list of them that is read. -/
def PrsAt (W : World) (v : Value) (es : List PrZ) : Prop :=
  ∃ (a : Option Addr) (cap b o : Nat), v = .slice a es.length cap ∧ (es ≠ [] → a = some ⟨b, o, none⟩) ∧ es.length ≤ cap ∧ ∀ (i : Nat) (e : PrZ), es[i]? = some e → PrC W b (o + i * 2) e
theorem PrsAt.below {W W2 : World} {v : Value} {es : List PrZ} (h : PrsAt W v es) (hb : Below W.heap.size W W2) : PrsAt W2 v es := by
  obtain ⟨a, cap, b, o, h1, h2, h3, h4⟩ := h
  exact ⟨a, cap, b, o, h1, h2, h3, fun i e he => (h4 i e he).below hb⟩
/-- .. whose block stands below B. -/
def PrsIn (B : Nat) (W : World) (v : Value) (es : List PrZ) : Prop :=
  ∃ (a : Option Addr) (cap b o : Nat), v = .slice a es.length cap ∧ (es ≠ [] → a = some ⟨b, o, none⟩) ∧ es.length ≤ cap ∧ ∀ (i : Nat) (e : PrZ), es[i]? = some e → b < B ∧ PrC W b (o + i * 2) e
theorem PrsAt.in {W : World} {v : Value} {es : List PrZ} (h : PrsAt W v es) : PrsIn W.heap.size W v es := by
  obtain ⟨a, cap, b, o, h1, h2, h3, h4⟩ := h
  exact ⟨a, cap, b, o, h1, h2, h3, fun i e he => ⟨World.block_lt_of_cell? W _ (h4 i e he).c0, h4 i e he⟩⟩
theorem PrsIn.keep {B : Nat} {W W2 : World} {v : Value} {es : List PrZ} (h : PrsIn B W v es) (hk : ∀ j, j < B → W2.heap[j]? = W.heap[j]?) : PrsIn B W2 v es := by
  obtain ⟨a, cap, b, o, h1, h2, h3, h4⟩ := h
  refine ⟨a, cap, b, o, h1, h2, h3, fun i e he => ?_⟩
  obtain ⟨hb, hc⟩ := h4 i e he
  have e2 : ∀ q, W2.cell? ⟨b, q, none⟩ = W.cell? ⟨b, q, none⟩ := fun q => by simp [World.cell?, hk b hb]
  exact ⟨hb, (e2 _).trans hc.c0, (e2 _).trans hc.c1⟩
def prL (vs : List PrZ) : List (List UInt8 × List UInt8) := vs.map fun x => (un x.key, un x.val)
def FewP (vs : List PrZ) : Prop := vs.length ≤ 1048576 ∧ ∀ x ∈ vs, x.key.size ≤ 140737488355328 ∧ x.val.size ≤ 140737488355328

theorem val_none {vs : List PrZ} {n : ByteArray} (h : ∀ (i : Nat) (x : PrZ), vs[i]? = some x → x.key ≠ n) : valL (prL vs) (un n) = [] := by
  induction vs with
  | nil => rfl
  | cons a vs ih =>
    have h2 : ∀ (i : Nat) (x : PrZ), vs[i]? = some x → x.key ≠ n := fun i x hx => h (i + 1) x (by simpa using hx)
    have ha := h 0 a rfl
    show (if (prL vs).any (fun x => x.1 == un n) = true then valL (prL vs) (un n) else if un a.key = un n then un a.val else []) = []
    rw [ih h2, if_neg (fun e => ha (un_inj e))]
    split <;> rfl
theorem any_key {vs : List PrZ} {n : ByteArray} : (prL vs).any (fun x => x.1 == un n) = true ↔ ∃ (i : Nat) (x : PrZ), vs[i]? = some x ∧ x.key = n := by
  rw [List.any_eq_true]
  constructor
  · rintro ⟨y, hy, he⟩
    obtain ⟨x, hx, rfl⟩ := List.mem_map.1 hy
    obtain ⟨i, hi⟩ := List.getElem?_of_mem hx
    exact ⟨i, x, hi, un_inj (by simpa using he)⟩
  · rintro ⟨i, x, hx, rfl⟩
    exact ⟨_, List.mem_map.2 ⟨x, List.mem_of_getElem? hx, rfl⟩, by simp⟩
theorem val_last {vs : List PrZ} {n : ByteArray} {i : Nat} {x : PrZ} (hx : vs[i]? = some x) (hk : x.key = n) (h : ∀ (j : Nat) (y : PrZ), i < j → vs[j]? = some y → y.key ≠ n) : valL (prL vs) (un n) = un x.val := by
  induction vs generalizing i with
  | nil => simp at hx
  | cons a vs ih =>
    show (if (prL vs).any (fun x => x.1 == un n) = true then valL (prL vs) (un n) else if un a.key = un n then un a.val else []) = _
    cases i with
    | zero =>
      simp at hx; subst hx
      rw [if_neg, if_pos (by rw [hk])]
      rw [any_key]
      rintro ⟨j, y, hy, he⟩
      exact h (j + 1) y (by omega) (by simpa using hy) he
    | succ i =>
      rw [if_pos]
      · exact ih (i := i) (by simpa using hx) (fun j y hj hy => h (j + 1) y (by omega) (by simpa using hy))
      · rw [any_key]; exact ⟨i, x, by simpa using hx, hk⟩

def kS (n : ByteArray) : Lit := .string n.data.toList
theorem kS_inj {a b : ByteArray} (h : kS a = kS b) : a = b := by
  unfold kS at h
  injection h with h
  exact un_inj h
theorem kS_lit (n : ByteArray) : WideAt.IsKeyLit (kS n) := trivial
theorem str_keyed : Keyed Tryz.prog 9 := string_keyed Tryz.underlying9
theorem info_int : (Tryz.prog.info? 3).map (fun i => (i.zero, i.size)) = some (some (.int .i64 0), 1) := by kernel_rfl
theorem zero_int (W : World) : (zeroValue 3).run Tryz.prog W = .ok (.int .i64 0) W := (zero_of_info (P := Tryz.prog) info_int).1 W
theorem mk_hint (n : Int) (W : World) : (Instr.makeMap 146 (some (.int .i64 n))).run Tryz.prog W = .ok (.map (some W.heap.size)) (W.alloc (.map #[] 0)) := by
  simp [Instr.makeMap, run_underlying Tryz.underlying146, asInt, asIntOf]
/-- The map tells of each key the last of the first k pairs that has it. -/
def LastOK (vs : List PrZ) (k : Nat) (D : DataW Unit) : Prop :=
  ∀ n : ByteArray, (has D (kS n) = false → ∀ (i : Nat) (x : PrZ), i < k → vs[i]? = some x → x.key ≠ n) ∧
    (has D (kS n) = true → ∃ (i : Nat) (x : PrZ), i < k ∧ vs[i]? = some x ∧ x.key = n ∧ (∀ z, D.atKey (kS n) z = .lit (.int .i64 (i : Int))) ∧ ∀ (j : Nat) (y : PrZ), i < j → j < k → vs[j]? = some y → y.key ≠ n)
theorem lastOK_start (vs : List PrZ) : LastOK vs 0 (.map []) := fun n => ⟨fun _ i x hi => by omega, fun h => by cases h⟩
theorem lastOK_put {vs : List PrZ} {k : Nat} {D : DataW Unit} {x : PrZ} (h : LastOK vs k D) (hm : IsMap D) (hx : vs[k]? = some x) : LastOK vs (k + 1) (D.put (kS x.key) (.lit (.int .i64 (k : Int)))) := fun n => by
  by_cases e : n = x.key
  · subst e
    refine ⟨fun hn => (by rw [has_put_same hm (kS_lit _)] at hn; cases hn), fun _ => ⟨k, x, by omega, hx, rfl, fun z => atKey_put_same hm (kS_lit _) _ z, fun j y h1 h2 => by omega⟩⟩
  · have hne : kS n ≠ kS x.key := fun e2 => e (kS_inj e2)
    refine ⟨fun hn i y hi hy => ?_, fun ht => ?_⟩
    · rcases Nat.lt_or_ge i k with h1 | h1
      · exact (h n).1 (by rw [has_put_other hne] at hn; exact hn) i y h1 hy
      · obtain rfl : i = k := by omega
        obtain rfl := Option.some.inj (hx.symm.trans hy)
        exact fun e2 => e e2.symm
    · rw [has_put_other hne] at ht
      obtain ⟨i, y, h1, h2, h3, h4, h5⟩ := (h n).2 ht
      refine ⟨i, y, by omega, h2, h3, fun z => by rw [atKey_put_other hne]; exact h4 z, fun j z hj hjk hz => ?_⟩
      rcases Nat.lt_or_ge j k with h6 | h6
      · exact h5 j z hj h6 hz
      · obtain rfl : j = k := by omega
        obtain rfl := Option.some.inj (hx.symm.trans hz)
        exact fun e2 => e e2.symm
theorem wf_nat (k : Nat) (h : k ≤ 1048576) : (Lit.int .i64 (k : Int)).wf = true := by
  have e1 : IntKind.i64.min = -9223372036854775808 := rfl
  have e2 : IntKind.i64.max = 9223372036854775807 := rfl
  simp [Lit.wf]
  omega
theorem own_mapK {w w' : World} {b m : Nat} {D : DataW Unit} (h : w.ownsMap Tryz.prog 9 (plainElem Tryz.prog 3) b m D) (hb : w'.heap[b]? = w.heap[b]?) : w'.ownsMap Tryz.prog 9 (plainElem Tryz.prog 3) b m D := by
  obtain ⟨es, clock, h1, rest⟩ := h
  exact ⟨es, clock, hb.trans h1, rest⟩
set_option maxHeartbeats 4000000 in
set_option maxRecDepth 100000 in
theorem lastPairs_p (vs : List PrZ) (v : Value) (w : World) (hv : PrsIn w.heap.size w v vs) (hf : FewP vs) : Calls Tryz.prog 168 #[v] w fun e w' => ∃ g : Nat, e = .returned (.map (some g)) ∧ w.heap.size ≤ g ∧ (∃ (m : Nat) (D : DataW Unit), w'.ownsMap Tryz.prog 9 (plainElem Tryz.prog 3) g m D ∧ LastOK vs vs.length D) ∧ Below w.heap.size w w' := by
  obtain ⟨hfl, hfm⟩ := hf
  have HF : Hid (∀ x ∈ vs, x.key.size ≤ 140737488355328 ∧ x.val.size ≤ 140737488355328) := hfm
  obtain ⟨a, cap, b, o, rfl, ha, hcap, hc⟩ := hv
  have HC : Hid (∀ (i : Nat) (e : PrZ), vs[i]? = some e → b < w.heap.size ∧ PrC w b (o + i * 2) e) := hc
  have HA : Hid (vs ≠ [] → a = some ⟨b, o, none⟩) := ha
  clear hc ha hfm
  have hmm := mk_hint (vs.length : Int)
  go_enter Tryz.func168, Tryz.ntmps168
  go_wp2
  go_loopw [11] (fun s wr => ∃ (k m : Nat) (D : DataW Unit), s = .int .i64 k ∧ k ≤ vs.length ∧ m ≤ k ∧ wr.ownsMap Tryz.prog 9 (plainElem Tryz.prog 3) w.heap.size m D ∧ LastOK vs k D ∧ Below w.heap.size w wr) (fun s _ => vs.length - (intOf s).toNat)
  case atStart => exact ⟨0, 0, .map [], rfl, Nat.zero_le _, Nat.le_refl _, World.ownsMap_made _ _ _ _, lastOK_start _, (Below.refl _ w).alloc (Nat.le_refl _) _⟩
  case round =>
    obtain ⟨k, m, D, rfl, hkl, hm, hown, hmap, hB⟩ := hrel
    have HMap : Hid _ := hmap
    have hsz := hB.size
    have hbw : w.heap.size < wr.heap.size := hown.lt
    clear hmap
    by_cases hlt : k < vs.length
    · obtain ⟨x, hx⟩ : ∃ x, vs[k]? = some x := ⟨_, List.getElem?_eq_getElem hlt⟩
      have HX : Hid (vs[k]? = some x) := hx
      obtain ⟨hb, hcx⟩ := HC.out k x hx
      obtain rfl := HA.out (fun e => by rw [e] at hlt; simp at hlt)
      obtain ⟨hk1, hk2⟩ := HF.out x (List.mem_of_getElem? hx)
      obtain ⟨c0, c1⟩ := hcx
      have c0 := (hB.cell (p := ⟨b, o + k * 2, none⟩) hb).trans c0
      have c1 := (hB.cell (p := ⟨b, o + k * 2 + 1, none⟩) hb).trans c1
      have d0 : (0 : Int) ≤ (k : Int) := by omega
      have d1 : (k : Int) < (vs.length : Int) := by omega
      have hkey := WideMaps.keyOf_string_mk (P := Tryz.prog) Tryz.underlying9 (s := x.key) (by unfold maxLen; omega)
      have HNew : Hid _ := lastOK_put HMap.out hown.isMap HX.out
      have hownA := fun cs => own_mapK (w' := wr.alloc (.cells cs 40)) hown (Below.heap_alloc _ _ _ (by omega))
      have BA := fun cs => hB.alloc hsz (.cells cs 40)
      clear hx
      go_wp2_with (at_mapUpdate; refine wpList_mapUpdate_own _ rfl _ _ _ 146 rfl 9 3 str_keyed Tryz.underlying146 (plainElem Tryz.prog 3) w.heap.size m D rfl (hownA _) (by unfold maxLen; omega) _ _ _ rfl rfl hkey _ [] (plainElem_int Tryz.underlying3 (wf_nat k (by omega))) ?_; intro w3 hown3 hgrow3)
      go_roundw
      case rel => exact ⟨k + 1, m + 1, _, by go_num, by omega, by omega, hown3, HNew.out, (BA _).grown hgrow3 (BA _).size (fun j e => by cases e; exact Nat.le_refl _)⟩
      case measure => simp [intOf]; omega
    · obtain rfl : k = vs.length := by omega
      have hd1 : ¬ ((vs.length : Nat) : Int) < (vs.length : Int) := by omega
      go_wp2
      go_ret
      exact ⟨_, rfl, Nat.le_refl _, ⟨m, D, hown, HMap.out⟩, hB⟩
end Go.Proofs.YtbmakfdljddhcaaGreatDoor
