/- A region whose operations come up in whatever order: one invariant, each operation shown once. -/
import Derived.Test.YtgdkgdlgalinbaaGreatDoorBaseU
import Derived.Deep.RegionHeld
namespace Go.Proofs.YtgdkgdlgalinbaaGreatDoor
open Go Go.RowKit

section
variable {P : Program} {ops : Array Oper} {Q : Exit → Act → World → Prop} {md : Region.Mode}

/-- How many have not come up. -/
def openCount (l : Array Bool) : Nat := (l.toList.filter (fun b => !b)).length
theorem openCount_set_aux : ∀ (l : List Bool) (i : Nat), l[i]? = some false → ((l.set i true).filter (fun b => !b)).length + 1 = (l.filter (fun b => !b)).length
  | [], _, h => by simp at h
  | x :: xs, 0, h => by simp at h; subst h; simp
  | x :: xs, i + 1, h => by
    have ih := openCount_set_aux xs i (by simpa using h)
    cases x <;> simp <;> omega
theorem openCount_set {l : Array Bool} {i : Nat} (h : l.getD i true = false) : openCount (l.setIfInBounds i true) + 1 = openCount l := by
  unfold openCount
  rw [Array.toList_setIfInBounds]
  refine openCount_set_aux _ _ ?_
  rw [Array.getElem?_toList]
  rw [Array.getD_eq_getD_getElem?] at h
  cases hx : l[i]? with
  | none => rw [hx] at h; simp at h
  | some b => rw [hx] at h; simp at h; rw [h]
theorem openCount_pos {l : Array Bool} {i : Nat} (h : l.getD i true = false) : 0 < openCount l := by have := openCount_set h; omega

theorem wpAny_net (Inv : Array Bool → Act → World → Prop)
    (hstep : ∀ listed a w i, Inv listed a w → i ∈ Region.ready md ops listed → wpOp P ops Q i (fun a' w' => Inv (listed.setIfInBounds i true) a' w') a w)
    (hend : ∀ listed a w, Inv listed a w → Region.ready md ops listed = [] → Q .normal a w) :
    ∀ (fuel : Nat) (listed : Array Bool) (a : Act) (w : World), openCount listed ≤ fuel → Inv listed a w → wpAny P md ops Q fuel listed a w
  | 0, listed, a, w, hc, hi => by
    have hr : Region.ready md ops listed = [] := by
      cases hx : Region.ready md ops listed with
      | nil => rfl
      | cons j js =>
        have hj : j ∈ Region.ready md ops listed := by rw [hx]; exact List.mem_cons_self
        have := openCount_pos (mem_ready.1 hj).1
        omega
    exact ⟨hr, hend _ _ _ hi hr⟩
  | fuel + 1, listed, a, w, hc, hi => ⟨fun hr => hend _ _ _ hi hr, fun i hir =>
      wpOp_mono (fun a' w' h' => wpAny_net Inv hstep hend fuel _ a' w' (by have := openCount_set (mem_ready.1 hir).1; omega) h') (hstep _ _ _ i hi hir)⟩

theorem openCount_all (n : Nat) : openCount (Array.replicate n false) = n := by
  unfold openCount; simp

/-- The region, by an invariant. -/
theorem wp_region_net {id : Nat} {a : Act} {w : World} (hm : P.follows .mixedOrders = true) (Inv : Array Bool → Act → World → Prop)
    (h0 : Inv (Array.replicate ops.size false) a w.drew)
    (hstep : ∀ listed a w i, Inv listed a w → i ∈ Region.ready .any ops listed → wpOp P ops Q i (fun a' w' => Inv (listed.setIfInBounds i true) a' w') a w)
    (hend : ∀ listed a w, Inv listed a w → Region.ready .any ops listed = [] → Q .normal a w) : (Code.region id ops true).wp P Q a w :=
  wp_region_any hm (wpAny_net Inv hstep hend ops.size _ a _ (by rw [openCount_all]; exact Nat.le_refl _) h0)
end

/-- What has come up lies in its temporary; all else is as it was. -/
structure Net (a0 : Act) (ds : List Nat) (vs : List Value) (listed : Array Bool) (a : Act) : Prop where
  same : ∀ k, k ∉ ds → a.tmps[k]? = a0.tmps[k]?
  size : a.tmps.size = a0.tmps.size
  rest : a.defers = a0.defers
  done : ∀ i d, ds[i]? = some d → listed.getD i false = true → a.tmps[d]? = vs[i]?
theorem Net.start (a0 : Act) (ds : List Nat) (vs : List Value) (n : Nat) : Net a0 ds vs (Array.replicate n false) a0 :=
  ⟨fun _ _ => rfl, rfl, rfl, fun i d _ h => by
    rw [Array.getD_eq_getD_getElem?, Array.getElem?_replicate] at h
    split at h <;> simp at h⟩
theorem Net.swap {a0 a : Act} {ds : List Nat} {vs us : List Value} {listed : Array Bool} (x : Net a0 ds vs listed a)
    (h : ∀ i, listed.getD i false = true → vs[i]? = us[i]?) : Net a0 ds us listed a :=
  ⟨x.same, x.size, x.rest, fun i d hd hl => by rw [x.done i d hd hl, h i hl]⟩
theorem Net.put {a0 a : Act} {ds : List Nat} {vs : List Value} {listed : Array Bool} (x : Net a0 ds vs listed a) {i d : Nat} {v : Value}
    (hn : ds.Nodup) (hd : ds[i]? = some d) (hv : vs[i]? = some v) (hb : d < a0.tmps.size) :
    Net a0 ds vs (listed.setIfInBounds i true) (a.put (some d) v) := by
  have hm : d ∈ ds := List.mem_of_getElem? hd
  refine ⟨fun k hk => ?_, ?_, x.rest, fun j e he hl => ?_⟩
  · show (a.tmps.setIfInBounds d v)[k]? = _
    rw [Array.getElem?_setIfInBounds_ne (fun h : d = k => hk (h ▸ hm))]
    exact x.same k hk
  · show (a.tmps.setIfInBounds d v).size = _
    rw [Array.size_setIfInBounds]; exact x.size
  · show (a.tmps.setIfInBounds d v)[e]? = _
    by_cases hij : i = j
    · subst hij
      rw [hd] at he; cases he
      rw [Array.getElem?_setIfInBounds_self_of_lt (by rw [x.size]; exact hb), hv]
    · have hde : d ≠ e := fun h => by
        subst h
        exact hij ((List.getElem?_inj (by have := (List.getElem?_eq_some_iff.1 hd).1; exact this) hn).1 (hd.trans he.symm))
      rw [Array.getElem?_setIfInBounds_ne hde]
      exact x.done j e he (by rw [getD_set_ne false hij] at hl; exact hl)
/-- The operand's value. -/
theorem Net.at {a0 a : Act} {ds : List Nat} {vs : List Value} {listed : Array Bool} (x : Net a0 ds vs listed a) (i d : Nat) {v : Value}
    (hd : ds[i]? = some d) (hv : vs[i]? = some v) (hl : listed.getD i false = true) : a.tmps[d]? = some v := by rw [x.done i d hd hl, hv]

/-- All put, one behind the other. -/
def putAll (a : Act) : List Nat → List Value → Act
  | d :: ds, v :: vs => putAll (a.put (some d) v) ds vs
  | _, _ => a
theorem putAll_defers : ∀ (ds : List Nat) (vs : List Value) (a : Act), (putAll a ds vs).defers = a.defers
  | [], _, _ => by simp [putAll]
  | _ :: _, [], _ => by simp [putAll]
  | d :: ds, v :: vs, a => by rw [putAll, putAll_defers ds vs]; rfl
theorem putAll_size : ∀ (ds : List Nat) (vs : List Value) (a : Act), (putAll a ds vs).tmps.size = a.tmps.size
  | [], _, _ => by simp [putAll]
  | _ :: _, [], _ => by simp [putAll]
  | d :: ds, v :: vs, a => by
    rw [putAll, putAll_size ds vs]
    show (a.tmps.setIfInBounds d v).size = _
    rw [Array.size_setIfInBounds]
theorem putAll_same : ∀ (ds : List Nat) (vs : List Value) (a : Act) (k : Nat), k ∉ ds → (putAll a ds vs).tmps[k]? = a.tmps[k]?
  | [], _, _, _, _ => by simp [putAll]
  | _ :: _, [], _, _, _ => by simp [putAll]
  | d :: ds, v :: vs, a, k, h => by
    rw [putAll, putAll_same ds vs _ k (fun x => h (List.mem_cons_of_mem _ x))]
    show (a.tmps.setIfInBounds d v)[k]? = _
    rw [Array.getElem?_setIfInBounds_ne (fun e : d = k => h (e ▸ List.mem_cons_self))]
theorem putAll_at : ∀ (ds : List Nat) (vs : List Value) (a : Act) (i d : Nat), ds.Nodup → ds.length = vs.length → ds[i]? = some d → d < a.tmps.size → (putAll a ds vs).tmps[d]? = vs[i]?
  | [], _, _, _, _, _, _, h, _ => by simp at h
  | _ :: _, [], _, _, _, _, h, _, _ => by simp at h
  | d0 :: ds, v :: vs, a, 0, d, hn, hl, h, hb => by
    simp at h; subst h
    rw [putAll, putAll_same ds vs _ d0 (List.nodup_cons.1 hn).1]
    show (a.tmps.setIfInBounds d0 v)[d0]? = _
    rw [Array.getElem?_setIfInBounds_self_of_lt hb]; rfl
  | d0 :: ds, v :: vs, a, i + 1, d, hn, hl, h, hb => by
    rw [putAll, putAll_at ds vs _ i d (List.nodup_cons.1 hn).2 (by simpa using hl) (by simpa using h) (by show d < (a.tmps.setIfInBounds d0 v).size; rw [Array.size_setIfInBounds]; exact hb)]
    rfl
theorem Net.all {a0 a : Act} {ds : List Nat} {vs : List Value} {listed : Array Bool} (x : Net a0 ds vs listed a)
    (hn : ds.Nodup) (hlen : ds.length = vs.length) (hb : ∀ d ∈ ds, d < a0.tmps.size) (hall : ∀ i, i < ds.length → listed.getD i false = true) : a = putAll a0 ds vs := by
  have ht : a.tmps = (putAll a0 ds vs).tmps := by
    refine Array.ext_getElem? (fun k => ?_)
    by_cases hk : k ∈ ds
    · obtain ⟨i, hi⟩ := List.getElem?_of_mem hk
      rw [x.done i k hi (hall i (List.getElem?_eq_some_iff.1 hi).1), putAll_at ds vs a0 i k hn hlen hi (hb k hk)]
    · rw [x.same k hk, putAll_same ds vs a0 k hk]
  have hd : a.defers = (putAll a0 ds vs).defers := by rw [x.rest, putAll_defers]
  cases a; cases hp : putAll a0 ds vs; rw [hp] at ht hd; simp only at ht hd; rw [ht, hd]
/-- When nothing is ready all have come up: each waits for earlier ones alone. -/
theorem all_done {md : Region.Mode} {ops : Array Oper} {listed : Array Bool} (hs : listed.size = ops.size)
    (hd : ∀ (i : Nat) (o : Oper), ops[i]? = some o → ∀ e ∈ o.after, e.on < i) (hr : Region.ready md ops listed = []) : ∀ i, i < ops.size → listed.getD i false = true := by
  intro i
  induction i using Nat.strongRecOn with
  | _ i ih =>
    intro hi
    cases hl : listed.getD i true with
    | true =>
      rw [Array.getD_eq_getD_getElem?] at hl ⊢
      rw [Array.getElem?_eq_getElem (by omega)] at hl ⊢
      exact hl
    | false =>
      have ho : ops[i]? = some ops[i] := Array.getElem?_eq_getElem hi
      have : i ∈ Region.ready md ops listed := mem_ready.2 ⟨hl, ops[i], ho, fun e he _ => ih e.on (hd i _ ho e he) (Nat.lt_trans (hd i _ ho e he) hi)⟩
      rw [hr] at this; cases this
end Go.Proofs.YtgdkgdlgalinbaaGreatDoor
