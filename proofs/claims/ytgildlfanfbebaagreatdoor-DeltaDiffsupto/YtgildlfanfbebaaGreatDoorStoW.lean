/- What lay's stores make of a Tree: the two counts; a node's entry. -/
import Derived.Test.YtgildlfanfbebaaGreatDoorLayW
import Derived.Test.YtgildlfanfbebaaGreatDoorRndW
import Derived.Deep.MidRow
namespace Go.Proofs.YtgildlfanfbebaaGreatDoor
open Go Go.RowKit

theorem set_block {W : World} {B i : Nat} {t : TypeId} {cur : Array Value} (h : W.heap[B]? = some (.cells cur t)) (v : Value) : (W.setCell ⟨B, i, none⟩ v).heap[B]? = some (.cells (cur.setIfInBounds i v) t) := by
  obtain ⟨hlt, hk⟩ := Array.getElem?_eq_some_iff.1 h
  show (W.heap.modify B _)[B]? = _
  rw [Array.getElem?_eq_getElem (by rw [Array.size_modify]; exact hlt), Array.getElem_modify_self, hk]
  rfl
theorem grown_set (W : World) (B i : Nat) (v : Value) : W.grownBy (W.setCell ⟨B, i, none⟩ v) (some B) :=
  ⟨rfl, rfl, rfl, by simp [World.setCell], fun j _ hj => by rw [RowKit.Below.heap_setCell _ _ _ _ (fun e => hj (by rw [e]))]⟩
theorem grown_trans {a b c : World} {row : Option Nat} (h1 : a.grownBy b row) (h2 : b.grownBy c row) : a.grownBy c row :=
  ⟨h2.os.trans h1.os, h2.tape.trans h1.tape, h2.output.trans h1.output, Nat.le_trans h1.size h2.size, fun j hj hne => (h2.block j (Nat.lt_of_lt_of_le hj h1.size) hne).trans (h1.block j hj hne)⟩
theorem grown_below {a b : World} {B i : Nat} (h : a.grownBy b (some i)) (hB : B ≤ i) (hs : B ≤ a.heap.size) : Below B a b :=
  ⟨h.os, h.tape, h.output, h.size, fun j hj => h.block j (by omega) (by simp; omega)⟩

/-- The blocks of a Tree. -/
def MineT (tb : Nat) (F : Pic) (k : Nat) : Prop := k = tb ∨ ∃ ns x, F ns = some x ∧ (k = x.b ∨ x.m = some k)
variable {W : World} {tb base N n : Nat} {F : Pic} {q : Int}
theorem TreeAt.counts (h : TreeAt W tb base N F n q) (n' : Nat) (q' : Int) :
    TreeAt ((W.setCell ⟨tb, 1, none⟩ (.int .i64 n')).setCell ⟨tb, 2, none⟩ (.int .i64 q')) tb base N F n' q' ∧ W.grownBy ((W.setCell ⟨tb, 1, none⟩ (.int .i64 n')).setCell ⟨tb, 2, none⟩ (.int .i64 q')) (some tb) := by
  have hg := grown_trans (grown_set W tb 1 (.int .i64 n')) (grown_set (W.setCell ⟨tb, 1, none⟩ (.int .i64 n')) tb 2 (.int .i64 q'))
  obtain ⟨rt, m, h1, h2, h3⟩ := h.root
  refine ⟨⟨h.from', ⟨rt, m, h1, h2, ?_⟩, h.tree.kept hg (fun ns x hx => ⟨by simpa using h.head_node hx, fun p hp => by simpa using h.head_map hx hp⟩), h.kinds⟩, hg⟩
  exact set_block (set_block h3 _) _
theorem five_set {b : Nat} {T : TypeId} {o : Nd} (h : W.heap[b]? = some (.cells (ncells o) T)) (x : Ent) :
    (W.setCells b 0 [.string x.path, .int .i64 x.kind, .int .i64 x.mode, .string x.data, .string x.link]).heap[b]? = some (.cells (ncells { o with e := x }) T) ∧ W.grownBy (W.setCells b 0 [.string x.path, .int .i64 x.kind, .int .i64 x.mode, .string x.data, .string x.link]) (some b) := by
  refine ⟨?_, ?_⟩
  · exact set_block (set_block (set_block (set_block (set_block h _) _) _) _) _
  · exact grown_trans (grown_trans (grown_trans (grown_trans (grown_set _ _ _ _) (grown_set _ _ _ _)) (grown_set _ _ _ _)) (grown_set _ _ _ _)) (grown_set _ _ _ _)
theorem TreeAt.entry (h : TreeAt W tb base N F n q) {ns : List (List UInt8)} {o : Nd} (ho : F ns = some o) (x : Ent) (hk : o.e.kind = 1 ↔ x.kind = 1) :
    TreeAt (W.setCells o.b 0 [.string x.path, .int .i64 x.kind, .int .i64 x.mode, .string x.data, .string x.link]) tb base N (setPic F ns (some { o with e := x })) n q ∧ W.grownBy (W.setCells o.b 0 [.string x.path, .int .i64 x.kind, .int .i64 x.mode, .string x.data, .string x.link]) (some o.b) := by
  obtain ⟨hc, hg⟩ := five_set (h.tree.node ns o ho).2 x
  obtain ⟨rt, m, h1, h2, h3⟩ := h.root
  have h4 := (hg.block tb h.lt (by simpa using Ne.symm (h.head_node ho))).trans h3
  refine ⟨⟨h.from', ?_, h.tree.written ho hg hc, fun a u hu => ?_⟩, hg⟩
  · by_cases e : ([] : List (List UInt8)) = ns
    · subst e
      rw [h1] at ho; cases ho
      exact ⟨{ o with e := x }, m, setPic_same _ _ _, h2, h4⟩
    · exact ⟨rt, m, by rw [setPic_other _ _ _ e]; exact h1, h2, h4⟩
  · by_cases e : a = ns
    · subst e
      rw [setPic_same] at hu; cases hu
      rw [h.kinds a o ho]
      exact not_congr hk
    · rw [setPic_other _ _ _ e] at hu
      exact h.kinds a u hu
theorem there_node {b : Nat} {T : TypeId} {o : Nd} (hb : o.b = b) (h : W.heap[b]? = some (.cells (ncells o) T)) : W.there b 0 5 := fun j hj => by
  subst hb
  refine ⟨?_, by simp [World.frozen?, h]⟩
  unfold World.cell?
  simp only [h]
  have : j < (ncells o).size := by simp [ncells]; omega
  simp [this]
end Go.Proofs.YtgildlfanfbebaaGreatDoor
