/- The document's pieces: a list of pieces within pieces, what it reads as, and how it lies in memory. -/
import Derived.Test.YtjmekcakiacdfabGreatDoorDcM
import Derived.Test.YtjmekcakiacdfabGreatDoorDcE
namespace Go.Proofs.YtjmekcakiacdfabGreatDoor
open Go Go.RowKit

inductive Pt where
  | mk (t n : List UInt8) (o : UInt8) (ks : List Pt)
mutual
/-- The pieces of package expand that it reads as. -/
def flatP : Pt → List Pc
  | .mk t n o ks => if n = [] then (if o = 45 then .lit t :: (if t = [] then flatL ks else []) else if o = 43 then (if t = [] then [] else flatL ks) else [.lit t]) else if o = 45 then .ifE n :: flatL ks ++ [.fin] else if o = 43 then .ifF n :: flatL ks ++ [.fin] else [.var n]
def flatL : List Pt → List Pc
  | [] => []
  | p :: l => flatP p ++ flatL l
end
theorem flatP_lit (t : List UInt8) : flatP (.mk t [] 0 []) = [.lit t] := by rw [flatP, if_pos rfl, if_neg (by decide), if_neg (by decide)]
theorem flatL_append (a b : List Pt) : flatL (a ++ b) = flatL a ++ flatL b := by
  induction a with
  | nil => rw [flatL]; rfl
  | cons p a ih => rw [List.cons_append, flatL, flatL, ih, List.append_assoc]
theorem flatL_one (p : Pt) : flatL [p] = flatP p := by rw [flatL, flatL, List.append_nil]
def ptC : Pt → Value → List Value
  | .mk t n o _, u => [.string (bs t), .string (bs n), .int .u8 o.toNat, u]
def ptsC : List Pt → List Value → List Value
  | p :: l, u :: us => ptC p u ++ ptsC l us
  | _, _ => []
theorem ptC_length (p : Pt) (u : Value) : (ptC p u).length = 4 := by cases p; rfl
theorem ptsC_append : ∀ (a b : List Pt) (us vs : List Value), us.length = a.length → ptsC (a ++ b) (us ++ vs) = ptsC a us ++ ptsC b vs
  | [], b, us, vs, h => by obtain rfl := List.eq_nil_of_length_eq_zero h; rfl
  | p :: a, b, [], vs, h => by simp at h
  | p :: a, b, u :: us, vs, h => by
    simp only [List.cons_append, ptsC, List.append_assoc]
    rw [ptsC_append a b us vs (by simpa using h)]
theorem ptsC_one (p : Pt) (u : Value) : ptsC [p] [u] = ptC p u := by simp [ptsC]
theorem ptsC_length : ∀ (a : List Pt) (us : List Value), us.length = a.length → (ptsC a us).length = a.length * 4
  | [], us, h => rfl
  | p :: a, [], h => by simp at h
  | p :: a, u :: us, h => by
    rw [ptsC, List.length_append, ptC_length, ptsC_length a us (by simpa using h), List.length_cons]; omega
theorem info_pt : (Tryz.prog.info? 108).map (fun i => (i.zero, i.size, i.bytes)) = some (some (.agg #[.string ⟨#[]⟩, .string ⟨#[]⟩, .int .u8 0, .slice none 0 0]), 4, 64) := by kernel_rfl

mutual
/-- What lies within a piece: rows of pieces in blocks of T. -/
def PatP (W : World) (T : Nat → Prop) : Pt → Value → Prop
  | .mk t _ _ ks, u => t.length ≤ 1099511627776 ∧ (∀ j, u.ownBlock = some j → T j) ∧ ∃ us, us.length = ks.length ∧ W.ownsRow 0 108 4 u ks.length (ptsC ks us) ∧ PatL W T ks us
def PatL (W : World) (T : Nat → Prop) : List Pt → List Value → Prop
  | [], us => us = []
  | p :: l, us => ∃ u us2, us = u :: us2 ∧ PatP W T p u ∧ PatL W T l us2
end
theorem own_keep4 {w w' : World} {B e size n : Nat} {v : Value} {xs : List Value} (h : w.ownsRow B e size v n xs) (hk : ∀ j, v.ownBlock = some j → w'.heap[j]? = w.heap[j]?) : w'.ownsRow B e size v n xs := own_keepN h hk
mutual
theorem PatP.keep {W W2 : World} {T T2 : Nat → Prop} (hT : ∀ j, T j → T2 j) (hk : ∀ j, T j → W2.heap[j]? = W.heap[j]?) : ∀ (p : Pt) (u : Value), PatP W T p u → PatP W2 T2 p u
  | .mk _ _ _ ks, u, h => by
    rw [PatP] at h ⊢
    obtain ⟨h0, h1, us, h2, h3, h4⟩ := h
    exact ⟨h0, fun j hj => hT j (h1 j hj), us, h2, own_keep4 h3 (fun j hj => hk j (h1 j hj)), PatL.keep hT hk ks us h4⟩
theorem PatL.keep {W W2 : World} {T T2 : Nat → Prop} (hT : ∀ j, T j → T2 j) (hk : ∀ j, T j → W2.heap[j]? = W.heap[j]?) : ∀ (l : List Pt) (us : List Value), PatL W T l us → PatL W2 T2 l us
  | [], us, h => by rw [PatL] at h ⊢; exact h
  | p :: l, us, h => by
    rw [PatL] at h ⊢
    obtain ⟨u, us2, rfl, h1, h2⟩ := h
    exact ⟨u, us2, rfl, PatP.keep hT hk p u h1, PatL.keep hT hk l us2 h2⟩
end
theorem PatL.len {W : World} {T : Nat → Prop} : ∀ {l : List Pt} {us : List Value}, PatL W T l us → us.length = l.length
  | [], us, h => by rw [PatL] at h; rw [h]; rfl
  | p :: l, us, h => by
    rw [PatL] at h
    obtain ⟨u, us2, rfl, _, h2⟩ := h
    simp [PatL.len h2]
theorem PatL.append {W : World} {T : Nat → Prop} : ∀ {a b : List Pt} {us vs : List Value}, PatL W T a us → PatL W T b vs → PatL W T (a ++ b) (us ++ vs)
  | [], b, us, vs, h, k => by rw [PatL] at h; subst h; exact k
  | p :: a, b, us, vs, h, k => by
    rw [PatL] at h
    obtain ⟨u, us2, rfl, h1, h2⟩ := h
    rw [List.cons_append, PatL]
    exact ⟨u, us2 ++ vs, rfl, h1, PatL.append h2 k⟩
theorem PatL.one {W : World} {T : Nat → Prop} {p : Pt} {u : Value} (h : PatP W T p u) : PatL W T [p] [u] := by
  rw [PatL]
  exact ⟨u, [], rfl, h, by rw [PatL]⟩
/-- A list of pieces in memory. -/
structure PtsAt (W : World) (T : Nat → Prop) (v : Value) (ts : List Pt) (us : List Value) : Prop where
  own : W.ownsRow 0 108 4 v ts.length (ptsC ts us)
  kids : PatL W T ts us
theorem PtsAt.keep {W W2 : World} {T T2 : Nat → Prop} {v : Value} {ts : List Pt} {us : List Value} (h : PtsAt W T v ts us) (hT : ∀ j, T j → T2 j) (hk : ∀ j, T j ∨ v.ownBlock = some j → W2.heap[j]? = W.heap[j]?) : PtsAt W2 T2 v ts us :=
  ⟨own_keep4 h.own (fun j hj => hk j (.inr hj)), PatL.keep hT (fun j hj => hk j (.inl hj)) ts us h.kids⟩
theorem PtsAt.nil (W : World) (T : Nat → Prop) : PtsAt W T (.slice none 0 0) [] [] := ⟨⟨by simp [ptsC], .inl ⟨rfl, rfl⟩⟩, by rw [PatL]⟩
end Go.Proofs.YtjmekcakiacdfabGreatDoor
