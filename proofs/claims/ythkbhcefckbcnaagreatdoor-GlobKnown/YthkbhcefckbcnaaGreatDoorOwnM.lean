/- Rows of one's own, and how much texts weigh: what Clean's text has ahead of its walk, for programs that have no Clean. -/
import Derived.Test.YthkbhcefckbcnaaGreatDoorPieces
import Derived.Test.YthkbhcefckbcnaaGreatDoorSplitM
import Derived.Maps.AppendAt
import Derived.WalkSmall
import Derived.OwnWalk
import Derived.Lib.Join
namespace Go.Proofs.YthkbhcefckbcnaaGreatDoor
open Go Go.RowKit Go.Shelf
attribute [local go_sem] Oper.semAt_some

def cleanStep (kept : List ByteArray) (x : ByteArray) : List ByteArray := if x.toList == [46] then kept else if x.toList == [46, 46] then kept.dropLast else kept ++ [x]
def cleanL (xs : List ByteArray) : List ByteArray := xs.foldl cleanStep []
theorem cleanL_snoc (pre : List ByteArray) (x : ByteArray) : cleanL (pre ++ [x]) = cleanStep (cleanL pre) x := by simp [cleanL]
def joinL (xs : List ByteArray) : List UInt8 := Lib.join (xs.map un) [47]
def cleanB (s : ByteArray) : ByteArray := bs (joinL (cleanL (namesB s)))

def wt : List ByteArray → Nat
  | [] => 0
  | x :: xs => x.size + 1 + wt xs
theorem wt_append (a b : List ByteArray) : wt (a ++ b) = wt a + wt b := by induction a with | nil => simp [wt] | cons x a ih => simp [wt, ih]; omega
theorem wt_dropLast (a : List ByteArray) : wt a.dropLast ≤ wt a := by
  rcases List.eq_nil_or_concat a with rfl | ⟨l, x, rfl⟩
  · simp
  · simp [wt_append]
theorem wt_step (k : List ByteArray) (x : ByteArray) : wt (cleanStep k x) ≤ wt k + (x.size + 1) := by
  unfold cleanStep; split
  · omega
  · split
    · have := wt_dropLast k; omega
    · simp [wt_append, wt]
theorem wt_clean (xs : List ByteArray) : wt (cleanL xs) ≤ wt xs := by
  have h : ∀ (xs k : List ByteArray), wt (xs.foldl cleanStep k) ≤ wt k + wt xs := by
    intro xs
    induction xs with
    | nil => intro k; simp
    | cons x xs ih => intro k; have h1 := ih (cleanStep k x); have h2 := wt_step k x; simp only [List.foldl_cons, wt]; omega
  have := h xs []; simpa [cleanL, wt] using this
theorem wt_filter (p : ByteArray → Bool) (xs : List ByteArray) : wt (xs.filter p) ≤ wt xs := by
  induction xs with
  | nil => simp
  | cons x xs ih => rw [List.filter_cons]; split <;> simp [wt] <;> omega
theorem wt_cut : ∀ l : List UInt8, wt ((cutL l).map bs) = l.length + 1
  | [] => by simp [cutL, wt, size_bs]
  | c :: l => by
    have ih := wt_cut l
    rw [cutL_cons]
    split
    · simp [wt, size_bs, ih]; omega
    · cases h : cutL l with
      | nil => exact absurd h (cutL_ne l)
      | cons p r => rw [h] at ih; simp [wt, size_bs] at ih ⊢; omega
theorem wt_names (s : ByteArray) : wt (namesB s) ≤ s.size + 1 := by
  have h := wt_filter full (piecesB s)
  have h2 : wt (piecesB s) = s.size + 1 := by unfold piecesB; rw [wt_cut, un_length]
  unfold namesB; omega
theorem length_wt : ∀ xs : List ByteArray, xs.length ≤ wt xs
  | [] => Nat.le_refl _
  | x :: xs => by have := length_wt xs; simp [wt]; omega
theorem wt_prefix {pre xs : List ByteArray} (h : pre <+: xs) : wt pre ≤ wt xs := by obtain ⟨t, rfl⟩ := h; rw [wt_append]; omega
theorem joinL_length : ∀ xs : List ByteArray, (joinL xs).length ≤ wt xs
  | [] => by simp [joinL, Lib.join]
  | [x] => by simp [joinL, Lib.join, wt, un_length]
  | x :: y :: xs => by
    have ih := joinL_length (y :: xs)
    have e : joinL (x :: y :: xs) = un x ++ ([47] ++ joinL (y :: xs)) := by simp [joinL, Lib.join]
    rw [e]; simp only [List.length_append, un_length, wt] at ih ⊢; simp; omega

/- What an append of one's own turns, and what it leaves. -/
theorem own_ge {W : World} {base e size k : Nat} {v : Value} {xs : List Value} (h : W.ownsRow base e size v k xs) : ∀ j, some j = v.ownBlock → base ≤ j ∧ ∃ cur, W.heap[j]? = some (.cells cur e (0, 0)) := by
  intro j hj
  rcases h.2 with ⟨rfl, _⟩ | ⟨g, cap, cur, rfl, hg, hgb, _⟩
  · simp [Value.ownBlock] at hj
  · simp [Value.ownBlock] at hj; subst hj; exact ⟨hg, cur, hgb⟩
theorem app_other {W w1 : World} {tmp : Obj} {v : Value} (v2 : Value) {N j : Nat} (hg : (W.alloc tmp).grownBy w1 v.ownBlock) (hj : j < W.heap.size) (h1 : some j ≠ v.ownBlock) (h2 : j ≠ N) :
    (w1.setCell ⟨N, 0, none⟩ v2).heap[j]? = W.heap[j]? :=
  (Below.heap_setCell w1 ⟨N, 0, none⟩ v2 j h2).trans ((hg.block j (by simp; omega) h1).trans (Below.heap_alloc W tmp j hj))
theorem own_set {w1 : World} {base e size k N : Nat} {v : Value} {xs : List Value} (u : Value) (h : w1.ownsRow base e size v k xs) (hN : N < base) : (w1.setCell ⟨N, 0, none⟩ u).ownsRow base e size v k xs := by
  refine h.kept (grownBy_setCell' w1 N u) ?_
  rcases h.2 with ⟨rfl, _⟩ | ⟨g, cap, cur, rfl, hg, hgb, _⟩
  · exact .inl rfl
  · exact .inr fun e2 => by simp [Value.ownBlock] at e2; omega

theorem app_all {W w1 : World} {tmp : Obj} {v v2 : Value} {N base e t k m : Nat} {xs ys : List Value} (hv : Boxed W N t v) (hrow : W.ownsRow base e 1 v k xs) (hN : N < base) (hbW : base ≤ W.heap.size) (hown2 : w1.ownsRow base e 1 v2 m ys) (hg : (W.alloc tmp).grownBy w1 v.ownBlock) :
    Boxed w1 N t v ∧ Boxed (w1.setCell ⟨N, 0, none⟩ v2) N t v2 ∧ (w1.setCell ⟨N, 0, none⟩ v2).ownsRow base e 1 v2 m ys ∧ Below N W (w1.setCell ⟨N, 0, none⟩ v2) ∧ (∀ B, KeepsFrom B W (w1.setCell ⟨N, 0, none⟩ v2)) ∧ (∀ j, j < base → j ≠ N → (w1.setCell ⟨N, 0, none⟩ v2).heap[j]? = W.heap[j]?) := by
  have ho := own_ge hrow
  have hlt := hv.lt
  have hv1 : Boxed w1 N t v := (hg.block N (by simp; omega) (fun e => by have := (ho _ e).1; omega)).trans ((Below.heap_alloc W tmp N hlt).trans hv)
  refine ⟨hv1, Boxed.set _ hv1, own_set _ hown2 hN, ?_, fun B => ⟨?_, fun j o _ hj hc => ?_⟩, fun j hj hne => app_other _ hg (by omega) (fun e => by have := (ho _ e).1; omega) hne⟩
  · exact (((Below.refl N W).alloc (by omega) tmp).grown hg (by simp; omega) (fun j e => by have := (ho j e.symm).1; omega)).setCell (p := ⟨N, 0, none⟩) (Nat.le_refl _) _
  · have h1 := hg.size
    have h2 := (KeepsOthers.setCell w1 ⟨N, 0, none⟩ v2).size
    simp at h1; omega
  · have hjl := (Array.getElem?_eq_some_iff.1 hj).1
    refine (app_other _ hg hjl (fun e => ?_) (fun e => ?_)).trans hj
    · obtain ⟨_, cur, hcur⟩ := ho _ e
      rw [hj] at hcur; cases hcur; cases hc
    · subst e
      rw [show W.heap[j]? = _ from hv] at hj; cases hj; cases hc
theorem info_str : (Tryz.prog.info? 9).map (fun i => (i.zero, i.size, i.bytes)) = some (some (.string ⟨#[]⟩), 1, 16) := by kernel_rfl
def strs (xs : List ByteArray) : List Value := xs.map Value.string

theorem cutL_length : ∀ l : List UInt8, (cutL l).length ≤ l.length + 1
  | [] => by simp [cutL]
  | c :: l => by
    have ih := cutL_length l
    have hn : 0 < (cutL l).length := List.length_pos_iff.2 (cutL_ne l)
    rw [cutL_cons]; split <;> simp <;> omega
theorem piecesB_length (s : ByteArray) : (piecesB s).length ≤ s.size + 1 := by
  unfold piecesB; rw [List.length_map, ← un_length]; exact cutL_length _
theorem pre_length {pre xs : List ByteArray} {x : ByteArray} (h : pre ++ [x] <+: xs) : pre.length < xs.length := by
  have := h.length_le; simp at this; omega

end Go.Proofs.YthkbhcefckbcnaaGreatDoor
