/- Lists of the document's pieces as they grow: what a loop keeps, and what it leaves. -/
import Derived.Test.YtjmekcakiacdfabGreatDoorDcU
import Derived.Maps.AppendAt
namespace Go.Proofs.YtjmekcakiacdfabGreatDoor
open Go Go.RowKit

/-- Blocks of a list's pieces: made on the way, the reader's no more, and not the list's own. -/
def TLp (W w' : World) (R : Nat) (v' lv : Value) : Nat → Prop := fun j => TAp W w' R v' j ∧ lv.ownBlock ≠ some j
/-- A list of pieces that was made on the way. -/
structure PL (W w : World) (R : Nat) (v lv : Value) (ts : List Pt) (us : List Value) : Prop where
  pts : PtsAt w (TLp W w R v lv) lv ts us
  blk : ∀ j, lv.ownBlock = some j → TAp W w R v j
theorem PL.nil (W w : World) (R : Nat) (v : Value) : PL W w R v (.slice none 0 0) [] [] := ⟨PtsAt.nil _ _, fun j hj => by cases hj⟩
theorem TAp.rnd {W w w2 : World} {R : Nat} {v v2 : Value} (hr : Rnd (rdS R v) (rdS R v2) w w2) {j : Nat} (h : TAp W w R v j) : TAp W w2 R v2 j := by
  obtain ⟨h1, h2, h3⟩ := h
  have := hr.size
  refine ⟨h1, by omega, fun hh => ?_⟩
  rcases hr.more j hh with h9 | h9
  · exact h3 h9
  · omega
theorem PL.rnd {W w w2 : World} {R : Nat} {v v2 lv : Value} {ts : List Pt} {us : List Value} (h : PL W w R v lv ts us) (hr : Rnd (rdS R v) (rdS R v2) w w2) : PL W w2 R v2 lv ts us := by
  refine ⟨h.pts.keep (fun j hj => ⟨hj.1.rnd hr, hj.2⟩) (fun j hj => ?_), fun j hj => (h.blk j hj).rnd hr⟩
  have hj2 : TAp W w R v j := by
    rcases hj with hj | hj
    · exact hj.1
    · exact h.blk j hj
  exact hr.same j hj2.2.1 hj2.2.2
theorem PL.to {W w w2 : World} {R : Nat} {v lv : Value} {ts : List Pt} {us : List Value} (h : PL W w R v lv ts us) (hs : w.heap.size ≤ w2.heap.size) (hk : ∀ j, TAp W w R v j → w2.heap[j]? = w.heap[j]?) : PL W w2 R v lv ts us := by
  have ht : ∀ j, TAp W w R v j → TAp W w2 R v j := fun j hj => ⟨hj.1, by have := hj.2.1; omega, hj.2.2⟩
  refine ⟨h.pts.keep (fun j hj => ⟨ht j hj.1, hj.2⟩) (fun j hj => ?_), fun j hj => ht j (h.blk j hj)⟩
  rcases hj with hj | hj
  · exact hk j hj.1
  · exact hk j (h.blk j hj)
theorem PL.alloc {W w : World} {R : Nat} {v lv : Value} {ts : List Pt} {us : List Value} (h : PL W w R v lv ts us) (o : Obj) : PL W (w.alloc o) R v lv ts us :=
  h.to (by rw [World.size_alloc]; omega) (fun j hj => Below.heap_alloc w o j hj.2.1)
theorem PL.grow {W w w3 : World} {R : Nat} {v lv lv2 : Value} {ts ts2 : List Pt} {us us2 : List Value} (h : PL W w R v lv ts us) (hr : w.grownBy w3 lv.ownBlock) (own : w3.ownsRow 0 108 4 lv2 ts2.length (ptsC ts2 us2)) (kids : PatL w (TLp W w R v lv) ts2 us2) (hat : lv2.ownBlock = lv.ownBlock ∨ lv2.ownBlock = some w.heap.size) (hn : ∀ j, rdS R v j → j < w.heap.size) (hW : W.heap.size ≤ w.heap.size) : PL W w3 R v lv2 ts2 us2 := by
  have hs := hr.size
  have ht : ∀ j, TAp W w R v j → TAp W w3 R v j := fun j hj => ⟨hj.1, by have := hj.2.1; omega, hj.2.2⟩
  refine ⟨⟨own, PatL.keep (fun j hj => ⟨ht j hj.1, fun e => ?_⟩) (fun j hj => hr.block j hj.1.2.1 (fun e => hj.2 e.symm)) ts2 us2 kids⟩, fun j hj => ?_⟩
  · rcases hat with h1 | h1
    · exact ht j (h.blk j (h1.symm.trans hj))
    · rw [h1] at hj
      have e := Option.some.inj hj
      refine ⟨by omega, ?_, fun hh => by have := hn j hh; omega⟩
      rcases own.2 with ⟨rfl, _⟩ | ⟨g, cap, cur, rfl, _, hg, _⟩
      · cases h1
      · simp [Value.ownBlock] at h1
        have := (Array.getElem?_eq_some_iff.1 hg).1
        omega
  · rcases hat with h1 | h1
    · exact hj.2 (h1.symm.trans e)
    · rw [h1] at e
      have e := Option.some.inj e
      have := hj.1.2.1
      omega
theorem PatP.to {w : World} {T T2 : Nat → Prop} {p : Pt} {u : Value} (h : PatP w T p u) (hT : ∀ j, T j → T2 j) : PatP w T2 p u := PatP.keep hT (fun _ _ => rfl) p u h
theorem Rnd.setNew {S S2 : Nat → Prop} {A B : World} (h : Rnd S S2 A B) {b i : Nat} (hb : A.heap.size ≤ b) (v : Value) : Rnd S S2 A (B.setCell ⟨b, i, none⟩ v) := by
  have e : (B.setCell ⟨b, i, none⟩ v).heap.size = B.heap.size := by simp [World.setCell]
  exact ⟨h.os, h.tape, h.output, by rw [e]; exact h.size, fun k hk hn => (Below.heap_setCell _ _ _ _ (fun e => by simp at e; omega)).trans (h.same k hk hn), fun k hk => by rw [e]; exact h.more k hk⟩
theorem DR.aside {W : World} {B R : Nat} {s : ByteArray} {e : UInt8} {k no : Nat} {v : Value} {ns : List (List UInt8)} (h : DR W B R s e k no v ns) {L i : Nat} (hL : ¬ rdS R v L) (x : Value) : DR (W.setCell ⟨L, i, none⟩ x) B R s e k no v ns :=
  h.keep (fun j hj => Below.heap_setCell _ _ _ _ (fun e => hL (by simp at e; exact e ▸ hj)))
theorem lies_rnd {S S2 : Nat → Prop} {w w2 : World} {b : Nat} {t : TypeId} {cur : Array Value} (h : Lies w b t cur) (hr : Rnd S S2 w w2) (hn : ¬ S b) : Lies w2 b t cur := (hr.same _ h.lt hn).trans h
theorem size_setCell (w : World) (b i : Nat) (x : Value) : (w.setCell ⟨b, i, none⟩ x).heap.size = w.heap.size := by simp [World.setCell]
theorem metL_fin (n : List UInt8) (hn : n ≠ []) (ps : List Pc) (p : Pc) (hp : p = .ifE n ∨ p = .ifF n) (ns : List (List UInt8)) : metL (p :: ps ++ [.fin]) ns = metL ps (metN n ns) := by
  rw [metL_append]
  have e1 : askP p = n := by rcases hp with rfl | rfl <;> rfl
  have e2 : ∀ ms, metL [Pc.fin] ms = ms := fun ms => by
    simp [metL, askP]
  rw [e2]
  show metL ps (if askP p = [] ∨ askP p ∈ ns then ns else ns ++ [askP p]) = _
  rw [e1]
  congr 1
  unfold metN
  simp [hn]
/-- What stands between the rounds of a loop that reads pieces. -/
structure LI (st : List Nat) (W : World) (B R : Nat) (s : ByteArray) (e : UInt8) (k : Nat) (v : Value) (ns : List (List UInt8)) (w : World) (k2 no2 : Nat) (v2 : Value) (ns2 : List (List UInt8)) (lv : Value) (ts : List Pt) (us : List Value) : Prop where
  dr : DR w B R s e k2 no2 v2 ns2
  pl : PL W w R v2 lv ts us
  rnd : Rnd (rdS R v) (rdS R v2) W w
  len : ts.length + k ≤ s.size + 2 ∧ (no2 = 0 → ts.length + k ≤ k2)
  hi : k2 ≤ s.size + 1
  ok : no2 = 0 → k2 ≤ s.size ∧ Run e st ((un s).drop k) st ((un s).drop k2) (flatL ts) ∧ ns2 = metL (flatL ts) ns ∧ ns2.length + k ≤ ns.length + k2
  bad : no2 ≠ 0 → s.size ≤ k2 ∧ Bad e st ((un s).drop k) no2
theorem LI.start (st : List Nat) {W : World} {B R : Nat} {s : ByteArray} {e : UInt8} {k : Nat} {v : Value} {ns : List (List UInt8)} (h : DR W B R s e k 0 v ns) (hk : k ≤ s.size) : LI st W B R s e k v ns W k 0 v ns (.slice none 0 0) [] [] :=
  ⟨h, PL.nil _ _ _ _, Rnd.refl _ _, ⟨by simp; omega, fun _ => by simp⟩, by omega, fun _ => ⟨hk, by rw [flatL]; exact Run.refl _ _ _, by rw [flatL]; rfl, Nat.le_refl _⟩, fun h => (h rfl).elim⟩
/-- What a reading of a list leaves: behind it st2 is open. -/
def LPost (st st2 : List Nat) (E : Nat → Prop) (hi : Nat) (W : World) (B R : Nat) (s : ByteArray) (e : UInt8) (k : Nat) (v : Value) (ns : List (List UInt8)) (x : Ending) (w' : World) : Prop :=
  ∃ lv ts us k2 no2 v2 ns2, x = .returned lv ∧ DR w' B R s e k2 no2 v2 ns2 ∧ PL W w' R v2 lv ts us ∧ Rnd (rdS R v) (rdS R v2) W w' ∧ (ts.length + k ≤ s.size + 2 ∧ (no2 = 0 → ts.length + k ≤ k2)) ∧ k2 ≤ hi ∧
    (no2 = 0 → k2 ≤ s.size ∧ Run e st ((un s).drop k) st2 ((un s).drop k2) (flatL ts) ∧ ns2 = metL (flatL ts) ns ∧ ns2.length + k ≤ ns.length + k2 ∧ E k2) ∧ (no2 ≠ 0 → s.size ≤ k2 ∧ Bad e st ((un s).drop k) no2)
theorem own_form4 {W : World} {B ty z : Nat} {v : Value} {n : Nat} {xs : List Value} (h : W.ownsRow B ty z v n xs) : ∃ va vc g, v = .slice va n vc ∧ (n ≠ 0 → va = some ⟨g, 0, none⟩) := by
  rcases h.2 with ⟨rfl, h0⟩ | ⟨g, cap, cur, rfl, _⟩
  · exact ⟨none, 0, 0, by rw [h0], fun h => (h h0).elim⟩
  · exact ⟨_, _, g, rfl, fun _ => rfl⟩
/-- A list's own form. -/
theorem PL.form {W w : World} {R : Nat} {v lv : Value} {ts : List Pt} {us : List Value} (h : PL W w R v lv ts us) : ∃ va vc g, lv = .slice va ts.length vc ∧ (ts.length ≠ 0 → va = some ⟨g, 0, none⟩) := own_form4 h.pts.own
end Go.Proofs.YtjmekcakiacdfabGreatDoor
