/- A tree of nodes in memory: which path leads to which block; what a look, a new node, a node written anew and a node taken out make of it. -/
import Derived.Test.YtgildlfanfbebaaGreatDoorKidW
import Derived.Test.YtgildlfanfbebaaGreatDoorKeepM
namespace Go.Proofs.YtgildlfanfbebaaGreatDoor
open Go Go.RowKit

/-- A node: its block, its map's, its entry. -/
structure Nd where
  b : Nat
  m : Option Nat
  e : Ent
/-- Which names lead to which node. -/
abbrev Pic := List (List UInt8) → Option Nd
def ncells (x : Nd) : Array Value := #[.string x.e.path, .int .i64 x.e.kind, .int .i64 x.e.mode, .string x.e.data, .string x.e.link, .map x.m]
def kidsOf (F : Pic) (ns : List (List UInt8)) : List UInt8 → Option Nat := fun y => (F (ns ++ [y])).map Nd.b
/-- The tree lies in memory: k: a text's type; T: the nodes'; from block base on; no map has more than N. -/
structure TreeW (W : World) (P : Program) (k T : TypeId) (base N : Nat) (F : Pic) : Prop where
  node : ∀ ns x, F ns = some x → base ≤ x.b ∧ W.heap[x.b]? = some (.cells (ncells x) T)
  kids : ∀ ns x m, F ns = some x → x.m = some m → base ≤ m ∧ KidsAt W P k m N (kidsOf F ns)
  leaf : ∀ ns x y, F ns = some x → x.m = none → F (ns ++ [y]) = none
  gone : ∀ ns y, F ns = none → F (ns ++ [y]) = none
  apart : ∀ ns ns' x x', F ns = some x → F ns' = some x' → ns ≠ ns' → x.b ≠ x'.b ∧ ∀ m, x.m = some m → x'.m ≠ some m

variable {W W' : World} {P : Program} {k T t e : TypeId} {base N : Nat} {F : Pic}

theorem TreeW.mono (h : TreeW W P k T base N F) {N' : Nat} (hN : N ≤ N') : TreeW W P k T base N' F :=
  ⟨h.node, fun ns x m hx hm => ⟨(h.kids ns x m hx hm).1, (h.kids ns x m hx hm).2.mono hN⟩, h.leaf, h.gone, h.apart⟩
theorem TreeW.lt (h : TreeW W P k T base N F) {ns : List (List UInt8)} {x : Nd} (hx : F ns = some x) : x.b < W.heap.size := (Array.getElem?_eq_some_iff.1 (h.node ns x hx).2).1
theorem TreeW.mlt (h : TreeW W P k T base N F) {ns : List (List UInt8)} {x : Nd} {m : Nat} (hx : F ns = some x) (hm : x.m = some m) : m < W.heap.size := (h.kids ns x m hx hm).2.lt
/-- No node's block is a map's. -/
theorem TreeW.other (h : TreeW W P k T base N F) {ns ns' : List (List UInt8)} {x x' : Nd} {m : Nat} (hx : F ns = some x) (hx' : F ns' = some x') (hm : x'.m = some m) : x.b ≠ m := by
  intro e
  have h1 := (h.node ns x hx).2
  obtain ⟨_, _, ⟨es, clock, h2, _⟩, _⟩ := h.kids ns' x' m hx' hm
  rw [e, h2] at h1
  cases h1
theorem TreeW.gone_all (h : TreeW W P k T base N F) {ns : List (List UInt8)} (h0 : F ns = none) : ∀ ys, F (ns ++ ys) = none := by
  intro ys
  induction ys generalizing ns with
  | nil => simpa using h0
  | cons y ys ih => rw [show ns ++ y :: ys = (ns ++ [y]) ++ ys by simp]; exact ih (h.gone ns y h0)
/-- Behind a node that is there all of its way is there. -/
theorem TreeW.ahead (h : TreeW W P k T base N F) {ns ys : List (List UInt8)} {x : Nd} (hx : F (ns ++ ys) = some x) : ∃ z, F ns = some z := by
  cases hn : F ns with
  | some z => exact ⟨z, rfl⟩
  | none => rw [h.gone_all hn] at hx; cases hx
/-- While nothing of it is written it stays. -/
theorem TreeW.kept {row : Option Nat} (h : TreeW W P k T base N F) (hg : W.grownBy W' row) (h1 : ∀ ns x, F ns = some x → some x.b ≠ row ∧ ∀ m, x.m = some m → some m ≠ row) : TreeW W' P k T base N F :=
  ⟨fun ns x hx => ⟨(h.node ns x hx).1, (hg.block _ (h.lt hx) (h1 ns x hx).1).trans (h.node ns x hx).2⟩,
    fun ns x m hx hm => ⟨(h.kids ns x m hx hm).1, (h.kids ns x m hx hm).2.kept hg ((h1 ns x hx).2 m hm)⟩, h.leaf, h.gone, h.apart⟩
theorem TreeW.below (h : TreeW W P k T base N F) (hb : Below W.heap.size W W') : TreeW W' P k T base N F :=
  h.kept (row := none) ⟨hb.os, hb.tape, hb.output, hb.size, fun i hi _ => hb.block i hi⟩ (fun _ _ _ => ⟨by simp, fun _ _ => by simp⟩)
theorem TreeW.alloc (h : TreeW W P k T base N F) (o : Obj) : TreeW (W.alloc o) P k T base N F :=
  h.kept (row := none) (World.grownBy_alloc W o none) (fun _ _ _ => ⟨by simp, fun _ _ => by simp⟩)
theorem node_cell {x : Nd} (h : W.heap[x.b]? = some (.cells (ncells x) T)) {j : Nat} {v : Value} (hj : (ncells x)[j]? = some v) : W.cell? ⟨x.b, j, none⟩ = some v := by
  unfold World.cell?
  simp only [h]
  simpa using hj
/-- One name further: what the node's map answers. -/
theorem TreeW.look (h : TreeW W P k T base N F) (hk : P.underlying k = some .string) (ht : P.underlying t = some (.map k e)) (hz : (zeroValue e).run P W = .ok (.pointer none) W) {ns : List (List UInt8)} {x : Nd} (hx : F ns = some x) {s : ByteArray} (hs : s.size ≤ maxLen) :
    (Instr.lookup t (.map x.m) (.string s) false).run P W = .ok (toPtr ((F (ns ++ [s.data.toList])).map Nd.b)) W := by
  cases hm : x.m with
  | none =>
    rw [h.leaf ns x _ hx hm]
    exact kids_nil hk ht hz hs
  | some m => exact (h.kids ns x m hx hm).2.look hk ht hz hs

/-- The picture with one place turned. -/
def setPic (F : Pic) (ns : List (List UInt8)) (o : Option Nd) : Pic := fun x => if x = ns then o else F x
theorem setPic_same (F : Pic) (ns : List (List UInt8)) (o : Option Nd) : setPic F ns o ns = o := by simp [setPic]
theorem setPic_other (F : Pic) (ns : List (List UInt8)) (o : Option Nd) {x : List (List UInt8)} (h : x ≠ ns) : setPic F ns o x = F x := by simp [setPic, h]
theorem snoc_ne (ns : List (List UInt8)) (y : List UInt8) : ns ++ [y] ≠ ns := by
  intro h
  have := congrArg List.length h
  simp at this

/-- A NEW NODE: W1 is W and new blocks beside it, one of them the node, one its map; then the parent's map is told. -/
theorem TreeW.grown {W1 W2 : World} (h : TreeW W P k T base N F) (hbase : base ≤ W.heap.size) (hb : Below W.heap.size W W1) {ns : List (List UInt8)} {y : List UInt8} {x z : Nd} {m : Nat}
    (hx : F ns = some x) (hm : x.m = some m) (h0 : F (ns ++ [y]) = none) (hz : W.heap.size ≤ z.b) (hzc : W1.heap[z.b]? = some (.cells (ncells z) T))
    (hzm : ∀ q, z.m = some q → W.heap.size ≤ q ∧ KidsAt W1 P k q 0 (fun _ => none))
    (h2 : KidsAt W2 P k m (N + 1) (setKid (kidsOf F ns) y (some z.b))) (ht : W1.mapTurned W2 m) : TreeW W2 P k T base (N + 1) (setPic F (ns ++ [y]) (some z)) := by
  have g := h.below hb
  have hg := ht.grown
  have hml := h.mlt hx hm
  have hnew : ∀ v, F (ns ++ [y] ++ [v]) = none := fun v => h.gone _ v h0
  have hzb : z.b ≠ m := by omega
  have hzlt : z.b < W1.heap.size := (Array.getElem?_eq_some_iff.1 hzc).1
  constructor
  · intro a u hu
    by_cases ha : a = ns ++ [y]
    · subst ha
      rw [setPic_same] at hu; cases hu
      exact ⟨by omega, (hg.block _ hzlt (by simpa using hzb)).trans hzc⟩
    · rw [setPic_other _ _ _ ha] at hu
      exact ⟨(g.node a u hu).1, (hg.block _ (g.lt hu) (by simpa using g.other hu hx hm)).trans (g.node a u hu).2⟩
  · intro a u q hu hq
    by_cases ha : a = ns ++ [y]
    · subst ha
      rw [setPic_same] at hu; cases hu
      obtain ⟨hq1, hq2⟩ := hzm q hq
      refine ⟨by omega, ?_⟩
      have e1 : kidsOf (setPic F (ns ++ [y]) (some z)) (ns ++ [y]) = fun _ => none := by
        funext v
        simp only [kidsOf]
        rw [setPic_other _ _ _ (snoc_ne _ _), hnew]; rfl
      rw [e1]
      exact (hq2.kept hg (by simp; omega)).mono (Nat.zero_le _)
    · rw [setPic_other _ _ _ ha] at hu
      obtain ⟨hq1, hq2⟩ := g.kids a u q hu hq
      refine ⟨hq1, ?_⟩
      by_cases hn : a = ns
      · subst hn
        rw [hx] at hu; cases hu
        rw [hm] at hq; cases hq
        have e1 : kidsOf (setPic F (a ++ [y]) (some z)) a = setKid (kidsOf F a) y (some z.b) := by
          funext v
          by_cases hv : v = y
          · subst hv; simp [kidsOf, setPic_same, setKid_same]
          · simp only [kidsOf]
            rw [setPic_other _ _ _ (by simpa using hv), setKid_other _ _ _ hv]
            rfl
        rw [e1]; exact h2
      · have e1 : kidsOf (setPic F (ns ++ [y]) (some z)) a = kidsOf F a := by
          funext v
          simp only [kidsOf]
          rw [setPic_other]
          intro e
          exact hn (List.append_inj_left' e rfl)
        rw [e1]
        have hqm : q ≠ m := fun e => (h.apart a ns u x hu hx hn).2 q hq (e ▸ hm)
        exact (hq2.kept hg (by simpa using hqm)).mono (Nat.le_succ _)
  · intro a u v hu hq
    by_cases ha : a = ns ++ [y]
    · subst ha
      rw [setPic_other _ _ _ (snoc_ne _ _)]
      exact hnew v
    · rw [setPic_other _ _ _ ha] at hu
      rw [setPic_other]
      · exact h.leaf a u v hu hq
      · intro e
        have e2 := List.append_inj_left' e rfl
        subst e2
        rw [hx] at hu; cases hu
        rw [hm] at hq; cases hq
  · intro a v hu
    by_cases ha : a = ns ++ [y]
    · subst ha; rw [setPic_same] at hu; cases hu
    · rw [setPic_other _ _ _ ha] at hu
      rw [setPic_other]
      · exact h.gone a v hu
      · intro e
        have e2 := List.append_inj_left' e rfl
        subst e2
        rw [hx] at hu; cases hu
  · intro a a' u u' hu hu' hne
    have old : ∀ {c : List (List UInt8)} {w : Nd}, F c = some w → w.b ≠ z.b ∧ ∀ q, w.m = some q → z.m ≠ some q := fun {c w} hw =>
      ⟨by have := h.lt hw; omega, fun q hq he => by have := h.mlt hw hq; have := (hzm q he).1; omega⟩
    by_cases ha : a = ns ++ [y]
    · subst ha
      rw [setPic_same] at hu; cases hu
      rw [setPic_other _ _ _ (Ne.symm hne)] at hu'
      exact ⟨Ne.symm (old hu').1, fun q hq he => (old hu').2 q he hq⟩
    · rw [setPic_other _ _ _ ha] at hu
      by_cases ha' : a' = ns ++ [y]
      · subst ha'
        rw [setPic_same] at hu'; cases hu'
        exact old hu
      · rw [setPic_other _ _ _ ha'] at hu'
        exact h.apart a a' u u' hu hu' hne

/-- A NODE'S ENTRY WRITTEN ANEW. -/
theorem TreeW.written (h : TreeW W P k T base N F) {ns : List (List UInt8)} {x : Nd} {e' : Ent} (hx : F ns = some x) (hg : W.grownBy W' (some x.b)) (hc : W'.heap[x.b]? = some (.cells (ncells { x with e := e' }) T)) :
    TreeW W' P k T base N (setPic F ns (some { x with e := e' })) := by
  have bs' : ∀ a, (setPic F ns (some { x with e := e' }) a).map Nd.b = (F a).map Nd.b := fun a => by
    by_cases ha : a = ns
    · subst ha; rw [setPic_same, hx]; rfl
    · rw [setPic_other _ _ _ ha]
  have ks : ∀ a, kidsOf (setPic F ns (some { x with e := e' })) a = kidsOf F a := fun a => by funext v; exact bs' _
  have back : ∀ {a : List (List UInt8)} {u : Nd}, setPic F ns (some { x with e := e' }) a = some u → ∃ w, F a = some w ∧ w.b = u.b ∧ w.m = u.m ∧ (a ≠ ns → w = u) := fun {a u} hu => by
    by_cases ha : a = ns
    · subst ha; rw [setPic_same] at hu; cases hu; exact ⟨x, hx, rfl, rfl, fun h => absurd rfl h⟩
    · rw [setPic_other _ _ _ ha] at hu; exact ⟨u, hu, rfl, rfl, fun _ => rfl⟩
  have no : ∀ {a : List (List UInt8)}, setPic F ns (some { x with e := e' }) a = none ↔ F a = none := fun {a} => by
    by_cases ha : a = ns
    · subst ha; rw [setPic_same, hx]; simp
    · rw [setPic_other _ _ _ ha]
  constructor
  · intro a u hu
    by_cases ha : a = ns
    · subst ha
      rw [setPic_same] at hu; cases hu
      exact ⟨(h.node a x hx).1, hc⟩
    · rw [setPic_other _ _ _ ha] at hu
      exact ⟨(h.node a u hu).1, (hg.block _ (h.lt hu) (by simpa using (h.apart a ns u x hu hx ha).1)).trans (h.node a u hu).2⟩
  · intro a u q hu hq
    obtain ⟨w, hw, _, hwm, _⟩ := back hu
    rw [← hwm] at hq
    rw [ks]
    exact ⟨(h.kids a w q hw hq).1, (h.kids a w q hw hq).2.kept hg (by simpa using Ne.symm (h.other hx hw hq))⟩
  · intro a u v hu hq
    obtain ⟨w, hw, _, hwm, _⟩ := back hu
    exact no.2 (h.leaf a w v hw (hwm.trans hq))
  · intro a v hu
    exact no.2 (h.gone a v (no.1 hu))
  · intro a a' u u' hu hu' hne
    obtain ⟨w, hw, hwb, hwm, _⟩ := back hu
    obtain ⟨w', hw', hwb', hwm', _⟩ := back hu'
    rw [← hwb, ← hwb', ← hwm, ← hwm']
    exact h.apart a a' w w' hw hw' hne

/-- The picture without a node and all below it. -/
def cutPic (F : Pic) (ns : List (List UInt8)) : Pic := fun x => if ns <+: x then none else F x
/-- A NODE TAKEN OUT OF ITS PARENT'S MAP. -/
theorem TreeW.taken (h : TreeW W P k T base N F) {ns : List (List UInt8)} {y : List UInt8} {x : Nd} {m : Nat} (hx : F ns = some x) (hm : x.m = some m)
    (h2 : KidsAt W' P k m N (setKid (kidsOf F ns) y none)) (ht : W.mapTurned W' m) : TreeW W' P k T base N (cutPic F (ns ++ [y])) := by
  have hg := ht.grown
  have back : ∀ {a : List (List UInt8)} {u : Nd}, cutPic F (ns ++ [y]) a = some u → F a = some u ∧ ¬ (ns ++ [y] <+: a) := fun {a u} hu => by
    unfold cutPic at hu
    split at hu
    · cases hu
    · rename_i hn; exact ⟨hu, hn⟩
  have no : ∀ {a : List (List UInt8)}, F a = none → cutPic F (ns ++ [y]) a = none := fun {a} ha => by unfold cutPic; split <;> simp [ha]
  constructor
  · intro a u hu
    obtain ⟨hu, _⟩ := back hu
    exact ⟨(h.node a u hu).1, (hg.block _ (h.lt hu) (by simpa using h.other hu hx hm)).trans (h.node a u hu).2⟩
  · intro a u q hu hq
    replace hu := back hu
    obtain ⟨hu, hn⟩ := hu
    obtain ⟨hq1, hq2⟩ := h.kids a u q hu hq
    refine ⟨hq1, ?_⟩
    by_cases ha : a = ns
    · subst ha
      rw [hx] at hu; cases hu
      rw [hm] at hq; cases hq
      have e1 : kidsOf (cutPic F (a ++ [y])) a = setKid (kidsOf F a) y none := by
        funext v
        by_cases hv : v = y
        · subst hv; simp [kidsOf, cutPic, setKid_same]
        · simp only [kidsOf, cutPic]
          have hp : ¬ (a ++ [y] <+: a ++ [v]) := fun hp => by
            have := hp.eq_of_length (by simp)
            simp at this
            exact hv this.symm
          rw [setKid_other _ _ _ hv, if_neg hp]
          rfl
      rw [e1]; exact h2
    · have e1 : kidsOf (cutPic F (ns ++ [y])) a = kidsOf F a := by
        funext v
        simp only [kidsOf, cutPic]
        have hp : ¬ (ns ++ [y] <+: a ++ [v]) := fun hp => by
          rcases List.prefix_concat_iff.1 hp with hp | hp
          · exact ha (List.append_inj_left' hp rfl).symm
          · exact hn hp
        rw [if_neg hp]
      rw [e1]
      have hqm : q ≠ m := fun e => (h.apart a ns u x hu hx ha).2 q hq (e ▸ hm)
      exact hq2.kept hg (by simpa using hqm)
  · intro a u v hu hq
    exact no (h.leaf a u v (back hu).1 hq)
  · intro a v hu
    unfold cutPic at hu
    split at hu
    · rename_i hp
      unfold cutPic
      rw [if_pos (hp.trans (List.prefix_append _ _))]
    · exact no (h.gone a v hu)
  · intro a a' u u' hu hu' hne
    exact h.apart a a' u u' (back hu).1 (back hu').1 hne
end Go.Proofs.YtgildlfanfbebaaGreatDoor
