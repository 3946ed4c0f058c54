/- Words in memory: where their cells lie, and lists of them held against each other. -/
import Derived.Test.YtjgijbeedgggdaaGreatDoorWordM
import Derived.ChangeKeysEq
import Derived.Laws.StructEq
import Derived.Laws.OwnMore
import Derived.Laws.Tables
import Derived.Deep.MidRow
namespace Go.Proofs.YtjgijbeedgggdaaGreatDoor
open Go Go.RowKit

structure Wd where
  p : Int
  r : ByteArray
def wcs (x : Wd) : List Value := [.int .i64 x.p, .string x.r]
def wcells (xs : List Wd) : List Value := xs.flatMap wcs
theorem wcells_cons (e : Wd) (es : List Wd) : wcells (e :: es) = wcs e ++ wcells es := rfl
theorem wcells_length (es : List Wd) : (wcells es).length = es.length * 2 := by
  induction es with
  | nil => rfl
  | cons e es ih => rw [wcells_cons, List.length_append, ih, List.length_cons, show (wcs e).length = 2 from rfl]; omega
theorem wcells_append (a b : List Wd) : wcells (a ++ b) = wcells a ++ wcells b := by simp [wcells]
theorem wcells_get : ∀ (es : List Wd) (k : Nat) (e : Wd), es[k]? = some e → ∀ j v, (wcs e)[j]? = some v → (wcells es)[k * 2 + j]? = some v
  | [], k, e, h => by simp at h
  | x :: es, 0, e, h => fun j v hj => by
    simp at h; subst h
    have : j < (wcs x).length := (List.getElem?_eq_some_iff.1 hj).1
    rw [wcells_cons, Nat.zero_mul, Nat.zero_add, List.getElem?_append_left this]; exact hj
  | x :: es, k + 1, e, h => fun j v hj => by
    rw [wcells_cons, List.getElem?_append_right (by show 2 ≤ _; omega), show (k + 1) * 2 + j - (wcs x).length = k * 2 + j by show (k + 1) * 2 + j - 2 = _; omega]
    exact wcells_get es k e (by simpa using h) j v hj
theorem info_wd : (Tryz.prog.info? 144).map (fun i => (i.zero, i.size, i.bytes)) = some (some (.agg #[.int .i64 0, .string ⟨#[]⟩]), 2, 24) := by kernel_rfl
structure WdC (W : World) (b q : Nat) (e : Wd) : Prop where
  c0 : W.cell? ⟨b, q, none⟩ = some (.int .i64 e.p)
  c1 : W.cell? ⟨b, q + 1, none⟩ = some (.string e.r)
theorem WdC.below {W W2 : World} {b q : Nat} {e : Wd} (h : WdC W b q e) (hb : Below W.heap.size W W2) : WdC W2 b q e := by
  have hl := World.block_lt_of_cell? W _ h.c0
  exact ⟨(hb.cell (p := ⟨b, q, none⟩) hl).trans h.c0, (hb.cell (p := ⟨b, q + 1, none⟩) hl).trans h.c1⟩
/-- A list of words. -/
def WdsAt (W : World) (v : Value) (es : List Wd) : Prop :=
  ∃ (a : Option Addr) (cap b o : Nat), v = .slice a es.length cap ∧ (es ≠ [] → a = some ⟨b, o, none⟩) ∧ es.length ≤ cap ∧ ∀ i e, es[i]? = some e → WdC W b (o + i * 2) e
theorem WdsAt.below {W W2 : World} {v : Value} {es : List Wd} (h : WdsAt W v es) (hb : Below W.heap.size W W2) : WdsAt W2 v es := by
  obtain ⟨a, cap, b, o, h1, h2, h3, h4⟩ := h
  exact ⟨a, cap, b, o, h1, h2, h3, fun i e he => (h4 i e he).below hb⟩
theorem wds_of_owns {W : World} {base : Nat} {v : Value} {es : List Wd} (h : W.ownsRow base 144 2 v es.length (wcells es)) : WdsAt W v es := by
  rcases h.2 with ⟨rfl, h0⟩ | ⟨g, cap, cur, rfl, hg, hgb, hcap, _⟩
  · have : es = [] := List.eq_nil_of_length_eq_zero h0
    subst this
    exact ⟨none, 0, 0, 0, rfl, fun h => absurd rfl h, Nat.le_refl _, fun i e he => by simp at he⟩
  · refine ⟨some ⟨g, 0, none⟩, cap, g, 0, rfl, fun _ => rfl, hcap, fun i e he => ?_⟩
    have hi := (List.getElem?_eq_some_iff.1 he).1
    have hc : ∀ j v, (wcs e)[j]? = some v → W.cell? ⟨g, 0 + i * 2 + j, none⟩ = some v := fun j v hj => by
      have hj2 : j < 2 := (List.getElem?_eq_some_iff.1 hj).1
      rw [Nat.zero_add, h.cellAt (i * 2 + j) (by omega)]
      exact wcells_get es i e he j v hj
    exact ⟨hc 0 _ rfl, hc 1 _ rfl⟩
theorem wd_new (W : World) (t : TypeId) (x y : Value) : ∀ j u, [x, y][j]? = some u → (W.alloc (.cells #[x, y] t)).cell? ((⟨W.heap.size, 0, none⟩ : Addr).add j) = some u := by
  intro j u hj
  rw [Addr.add_mid, Nat.zero_add]
  unfold World.cell?
  rw [World.alloc_heap_new]
  simpa using hj
theorem own_ge {W : World} {base e size k : Nat} {v : Value} {xs : List Value} (h : W.ownsRow base e size v k xs) : ∀ j, some j = v.ownBlock → base ≤ j ∧ ∃ cur, W.heap[j]? = some (.cells cur e (0, 0)) := by
  intro j hj
  rcases h.2 with ⟨rfl, _⟩ | ⟨g, cap, cur, rfl, hg, hgb, _⟩
  · simp [Value.ownBlock] at hj
  · simp [Value.ownBlock] at hj; subst hj; exact ⟨hg, cur, hgb⟩
theorem own_up {A B : World} {base e size n : Nat} {v : Value} {xs : List Value} (h : A.ownsRow base e size v n xs) (hb : Below A.heap.size A B) : B.ownsRow base e size v n xs := by
  refine ⟨h.1, ?_⟩
  rcases h.2 with hn | ⟨g, cap, cur, rfl, hg, hgg, rest⟩
  · exact .inl hn
  · exact .inr ⟨g, cap, cur, rfl, hg, (hb.block g (Array.getElem?_eq_some_iff.1 hgg).1).trans hgg, rest⟩
end Go.Proofs.YtjgijbeedgggdaaGreatDoor
