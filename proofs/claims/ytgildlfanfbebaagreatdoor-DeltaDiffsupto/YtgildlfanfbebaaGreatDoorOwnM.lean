/- Rows of one's own. (Out of stage 2, without path.Pieces.) -/
import Derived.Test.YtgildlfanfbebaaGreatDoorCheck
import Derived.Maps.AppendAt
import Derived.WalkSmall
import Derived.OwnWalk
import Derived.Lib.Join
namespace Go.Proofs.YtgildlfanfbebaaGreatDoor
open Go Go.RowKit Go.Shelf
attribute [local go_sem] Oper.semAt_some

/- What an append of one's own turns, and what it leaves. -/
theorem own_ge {W : World} {base e size k : Nat} {v : Value} {xs : List Value} (h : W.ownsRow base e size v k xs) : ∀ j, some j = v.ownBlock → base ≤ j ∧ ∃ cur, W.heap[j]? = some (.cells cur e (0, 0)) := by
  intro j hj
  rcases h.2 with ⟨rfl, _⟩ | ⟨g, cap, cur, rfl, hg, hgb, _⟩
  · simp [Value.ownBlock] at hj
  · simp [Value.ownBlock] at hj; subst hj; exact ⟨hg, cur, hgb⟩
theorem app_other {W w1 : World} {tmp : Obj} {v : Value} (v2 : Value) {N j : Nat} (hg : (W.alloc tmp).grownBy w1 v.ownBlock) (hj : j < W.heap.size) (h1 : some j ≠ v.ownBlock) (h2 : j ≠ N) :
    (w1.setCell ⟨N, 0, none⟩ v2).heap[j]? = W.heap[j]? :=
  (Below.heap_setCell w1 ⟨N, 0, none⟩ v2 j h2).trans ((hg.block j (by simp; omega) h1).trans (Below.heap_alloc W tmp j hj))
theorem own_set {w1 : World} {base e size k N : Nat} {v : Value} {xs : List Value} (u : Value) (h : w1.ownsRow base e size v k xs) (hN : N < base) : (w1.setCell ⟨N, 0, none⟩ u).ownsRow base e size v k xs := by
  refine h.kept (grownBy_setCell' w1 N u) ?_
  rcases h.2 with ⟨rfl, _⟩ | ⟨g, cap, cur, rfl, hg, hgb, _⟩
  · exact .inl rfl
  · exact .inr fun e2 => by simp [Value.ownBlock] at e2; omega

theorem app_all {W w1 : World} {tmp : Obj} {v v2 : Value} {N base e t k m : Nat} {xs ys : List Value} (hv : Boxed W N t v) (hrow : W.ownsRow base e 1 v k xs) (hN : N < base) (hbW : base ≤ W.heap.size) (hown2 : w1.ownsRow base e 1 v2 m ys) (hg : (W.alloc tmp).grownBy w1 v.ownBlock) :
    Boxed w1 N t v ∧ Boxed (w1.setCell ⟨N, 0, none⟩ v2) N t v2 ∧ (w1.setCell ⟨N, 0, none⟩ v2).ownsRow base e 1 v2 m ys ∧ Below N W (w1.setCell ⟨N, 0, none⟩ v2) ∧ (∀ B, KeepsFrom B W (w1.setCell ⟨N, 0, none⟩ v2)) ∧ (∀ j, j < base → j ≠ N → (w1.setCell ⟨N, 0, none⟩ v2).heap[j]? = W.heap[j]?) := by
  have ho := own_ge hrow
  have hlt := hv.lt
  have hv1 : Boxed w1 N t v := (hg.block N (by simp; omega) (fun e => by have := (ho _ e).1; omega)).trans ((Below.heap_alloc W tmp N hlt).trans hv)
  refine ⟨hv1, Boxed.set _ hv1, own_set _ hown2 hN, ?_, fun B => ⟨?_, fun j o _ hj hc => ?_⟩, fun j hj hne => app_other _ hg (by omega) (fun e => by have := (ho _ e).1; omega) hne⟩
  · exact (((Below.refl N W).alloc (by omega) tmp).grown hg (by simp; omega) (fun j e => by have := (ho j e.symm).1; omega)).setCell (p := ⟨N, 0, none⟩) (Nat.le_refl _) _
  · have h1 := hg.size
    have h2 := (KeepsOthers.setCell w1 ⟨N, 0, none⟩ v2).size
    simp at h1; omega
  · have hjl := (Array.getElem?_eq_some_iff.1 hj).1
    refine (app_other _ hg hjl (fun e => ?_) (fun e => ?_)).trans hj
    · obtain ⟨_, cur, hcur⟩ := ho _ e
      rw [hj] at hcur; cases hcur; cases hc
    · subst e
      rw [show W.heap[j]? = _ from hv] at hj; cases hj; cases hc
theorem info_str : (Tryz.prog.info? 9).map (fun i => (i.zero, i.size, i.bytes)) = some (some (.string ⟨#[]⟩), 1, 16) := by kernel_rfl
def strs (xs : List ByteArray) : List Value := xs.map Value.string

end Go.Proofs.YtgildlfanfbebaaGreatDoor
