/- A Tree in memory: its head, its nodes; New. -/
import Derived.Test.YtgildlfanfbebaaGreatDoorAtW
namespace Go.Proofs.YtgildlfanfbebaaGreatDoor
open Go Go.RowKit

/-- A Tree lies at block tb, of n entries and q bytes. -/
structure TreeAt (W : World) (tb base N : Nat) (F : Pic) (n : Nat) (q : Int) : Prop where
  from' : base ≤ tb
  root : ∃ rt m, F [] = some rt ∧ rt.m = some m ∧ W.heap[tb]? = some (.cells #[.pointer (some ⟨rt.b, 0, none⟩), .int .i64 n, .int .i64 q] 151)
  tree : TreeW W Tryz.prog 9 155 base N F
  kinds : ∀ ns x, F ns = some x → (x.m = none ↔ x.e.kind ≠ 1)
theorem TreeAt.lt {W : World} {tb base N : Nat} {F : Pic} {n : Nat} {q : Int} (h : TreeAt W tb base N F n q) : tb < W.heap.size := by
  obtain ⟨rt, m, _, _, h1⟩ := h.root
  exact (Array.getElem?_eq_some_iff.1 h1).1
theorem TreeAt.below {W W' : World} {tb base N : Nat} {F : Pic} {n : Nat} {q : Int} (h : TreeAt W tb base N F n q) (hb : Below W.heap.size W W') : TreeAt W' tb base N F n q := by
  have hlt := h.lt
  obtain ⟨rt, m, h1, h2, h3⟩ := h.root
  exact ⟨h.from', ⟨rt, m, h1, h2, (hb.block tb hlt).trans h3⟩, h.tree.below hb, h.kinds⟩
/-- Its head is no node's block, and no map's. -/
theorem TreeAt.head_node {W : World} {tb base N : Nat} {F : Pic} {n : Nat} {q : Int} (h : TreeAt W tb base N F n q) {ns : List (List UInt8)} {x : Nd} (hx : F ns = some x) : x.b ≠ tb := by
  intro e
  obtain ⟨rt, m, _, _, h1⟩ := h.root
  have h2 := (h.tree.node ns x hx).2
  rw [e, h1] at h2
  simp at h2
theorem TreeAt.head_map {W : World} {tb base N : Nat} {F : Pic} {n : Nat} {q : Int} (h : TreeAt W tb base N F n q) {ns : List (List UInt8)} {x : Nd} {m : Nat} (hx : F ns = some x) (hm : x.m = some m) : m ≠ tb := by
  intro e
  obtain ⟨rt, _, _, _, h1⟩ := h.root
  obtain ⟨_, _, ⟨es, clock, h2, _⟩, _⟩ := h.tree.kids ns x m hx hm
  rw [e, h1] at h2
  cases h2
/-- The picture of the root alone. -/
def rootPic (z : Nd) : Pic := fun ns => if ns = [] then some z else none
theorem rootPic_some {z : Nd} {ns : List (List UInt8)} {x : Nd} (h : rootPic z ns = some x) : ns = [] ∧ x = z := by
  unfold rootPic at h
  split at h
  · cases h; exact ⟨by assumption, rfl⟩
  · cases h
theorem rootPic_snoc (z : Nd) (ns : List (List UInt8)) (y : List UInt8) : rootPic z (ns ++ [y]) = none := by simp [rootPic]
theorem rootPic_kids (z : Nd) (ns : List (List UInt8)) : kidsOf (rootPic z) ns = fun _ => none := by
  funext y
  simp [kidsOf, rootPic_snoc]

def rootE : Ent := ⟨⟨#[]⟩, 1, 0, ⟨#[]⟩, ⟨#[]⟩⟩
set_option maxRecDepth 100000 in
theorem make_p (w : World) : Calls Tryz.prog 84 #[] w fun ex w' => ∃ (tb : Nat) (z : Nd), ex = .returned (.pointer (some ⟨tb, 0, none⟩)) ∧ z.e = rootE ∧ Below w.heap.size w w' ∧ TreeAt w' tb w.heap.size 0 (rootPic z) 0 0 := by
  go_enter Tryz.func84, Tryz.ntmps84
  go_wp2_with (go_at_call 115; refine (new_p rootE _).mono ?_; rintro e w1 ⟨z, rfl, h1, h2, h3, h4, h5, h6⟩)
  go_ret
  have hm : ∃ m, z.m = some m := by
    cases hz : z.m with
    | none => exact absurd (by rw [h1]; rfl : z.e.kind = 1) (by rw [h1]; exact h6.1 hz)
    | some m => exact ⟨m, rfl⟩
  obtain ⟨m, hm⟩ := hm
  have hlt : z.b < w1.heap.size := (Array.getElem?_eq_some_iff.1 h4).1
  refine ⟨w1.heap.size, z, rfl, h1, h2.alloc h2.size _, ⟨h2.size, ⟨z, m, rfl, hm, heap_alloc_new _ _⟩, TreeW.alloc ?_ _, fun ns x hx => ?_⟩⟩
  · constructor
    · intro ns x hx
      obtain ⟨rfl, rfl⟩ := rootPic_some hx
      exact ⟨h3, h4⟩
    · intro ns x q hx hq
      obtain ⟨rfl, rfl⟩ := rootPic_some hx
      rw [rootPic_kids]
      exact h5 q hq
    · intro ns x y hx hq
      exact rootPic_snoc _ _ _
    · intro ns y hx
      exact rootPic_snoc _ _ _
    · intro ns ns' x x' hx hx' hne
      obtain ⟨rfl, rfl⟩ := rootPic_some hx
      obtain ⟨rfl, rfl⟩ := rootPic_some hx'
      exact absurd rfl hne
  · obtain ⟨rfl, rfl⟩ := rootPic_some hx
    rw [h1]; exact h6
end Go.Proofs.YtgildlfanfbebaaGreatDoor
