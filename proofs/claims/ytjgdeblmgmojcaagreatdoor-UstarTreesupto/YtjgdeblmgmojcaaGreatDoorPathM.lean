/- Names, paths, pieces: what layer 5 wants of layer 1, and cells of lists of texts. (Made by wip/gen_tree5.py out of strata01.) -/
import Derived.Test.YtjgdeblmgmojcaaGreatDoorBaseU
import Derived.Test.YtjgdeblmgmojcaaGreatDoorSplitM
import Derived.OwnWalk
import Derived.Maps.AppendAt
import Derived.WalkSmall
import Derived.Lib.IndexAny
import Derived.Lib.Strings
namespace Go.Proofs.YtjgdeblmgmojcaaGreatDoor
open Go Go.RowKit

def nameN (s : ByteArray) : Int :=
  if s.toList.isEmpty then 8 else if 96 < s.size then 8 else if Lib.containsAny (un s) [0, 47] then 8 else if s.toList == [46] then 8 else if s.toList == [46, 46] then 8 else if Lib.hasPrefix (un s) [46, 119, 104, 46] then 8 else 0
theorem hasPrefix_take (l h : List UInt8) : Lib.hasPrefix l h = (decide (h.length ≤ l.length) && (l.take h.length == h)) := by
  unfold Lib.hasPrefix
  rw [Bool.eq_iff_iff]
  simp only [List.isPrefixOf_iff_prefix, Bool.and_eq_true, decide_eq_true_eq, beq_iff_eq]
  constructor
  · rintro ⟨t, rfl⟩; simp
  · rintro ⟨_, h2⟩; exact ⟨l.drop h.length, by have h3 := List.take_append_drop h.length l; rw [h2] at h3; exact h3⟩
theorem nameN_cases (s : ByteArray) : nameN s = 0 ∨ nameN s = 8 := by
  unfold nameN
  repeat' split
  all_goals first | exact .inl rfl | exact .inr rfl
def checkN (p : ByteArray) : Int :=
  if p.toList.isEmpty then 15 else if (piecesB p).any (fun x => nameN x != 0) then 8 else if 32 < (piecesB p).length then 9 else if 255 < p.size then 9 else (splitP (whiteoutB p)).2.2
theorem cutL_length : ∀ l : List UInt8, (cutL l).length ≤ l.length + 1
  | [] => by simp [cutL]
  | c :: l => by
    have ih := cutL_length l
    have hn : 0 < (cutL l).length := List.length_pos_iff.2 (cutL_ne l)
    rw [cutL_cons]; split <;> simp <;> omega
theorem piecesB_length (s : ByteArray) : (piecesB s).length ≤ s.size + 1 := by
  unfold piecesB; rw [List.length_map, ← un_length]; exact cutL_length _
theorem whiteoutB_size (p : ByteArray) : (whiteoutB p).size ≤ 2 * p.size + 5 := by
  have h1 := parentB_size p
  have h2 := lastB_size p
  have h3 := joinB_size (parentB p) (⟨#[46, 119, 104, 46]⟩ ++ lastB p)
  rw [ByteArray.size_append, show (ByteArray.mk #[46, 119, 104, 46]).size = 4 from rfl] at h3
  unfold whiteoutB; omega
def full (x : ByteArray) : Bool := !x.toList.isEmpty
def wt : List ByteArray → Nat
  | [] => 0
  | x :: xs => x.size + 1 + wt xs
theorem wt_append (a b : List ByteArray) : wt (a ++ b) = wt a + wt b := by induction a with | nil => simp [wt] | cons x a ih => simp [wt, ih]; omega
theorem wt_cut : ∀ l : List UInt8, wt ((cutL l).map bs) = l.length + 1
  | [] => by simp [cutL, wt, size_bs]
  | c :: l => by
    have ih := wt_cut l
    rw [cutL_cons]
    split
    · simp [wt, size_bs, ih]; omega
    · cases h : cutL l with
      | nil => exact absurd h (cutL_ne l)
      | cons p r => rw [h] at ih; simp [wt, size_bs] at ih ⊢; omega
theorem wt_prefix {pre xs : List ByteArray} (h : pre <+: xs) : wt pre ≤ wt xs := by obtain ⟨t, rfl⟩ := h; rw [wt_append]; omega
theorem own_ge {W : World} {base e size k : Nat} {v : Value} {xs : List Value} (h : W.ownsRow base e size v k xs) : ∀ j, some j = v.ownBlock → base ≤ j ∧ ∃ cur, W.heap[j]? = some (.cells cur e (0, 0)) := by
  intro j hj
  rcases h.2 with ⟨rfl, _⟩ | ⟨g, cap, cur, rfl, hg, hgb, _⟩
  · simp [Value.ownBlock] at hj
  · simp [Value.ownBlock] at hj; subst hj; exact ⟨hg, cur, hgb⟩
theorem info_str : (Tryz.prog.info? 9).map (fun i => (i.zero, i.size, i.bytes)) = some (some (.string ⟨#[]⟩), 1, 16) := by kernel_rfl
def strs (xs : List ByteArray) : List Value := xs.map Value.string
theorem cutL_noslash : ∀ (l : List UInt8), ∀ p ∈ cutL l, (47 : UInt8) ∉ p
  | [], p, hp => by simp [cutL] at hp; simp [hp]
  | c :: l, p, hp => by
    have ih := cutL_noslash l
    rw [cutL_cons] at hp
    by_cases hc : (c == 47) = true
    · rw [if_pos hc] at hp
      rcases List.mem_cons.1 hp with rfl | h
      · simp
      · exact ih p h
    · rw [if_neg hc] at hp
      cases h : cutL l with
      | nil => exact absurd h (cutL_ne l)
      | cons q r =>
        rw [h] at hp ih
        rcases List.mem_cons.1 hp with rfl | h2
        · have := ih q (by simp)
          have h3 : (47 : UInt8) ≠ c := fun e => hc (by simp [e])
          simp [this, h3]
        · exact ih p (by simpa using Or.inr h2)
theorem cut_single : ∀ l : List UInt8, (47 : UInt8) ∉ l → cutL l = [l]
  | [], _ => rfl
  | c :: l, h => by
    have h1 : ¬ (c == 47) = true := fun e => h (by simp at e; simp [e])
    rw [cutL_cons, if_neg h1, cut_single l (fun e => h (by simp [e]))]; rfl
theorem cut_append : ∀ (a b : List UInt8), cutL (a ++ 47 :: b) = cutL a ++ cutL b
  | [], b => by simp [cutL]
  | c :: a, b => by
    have ih := cut_append a b
    rw [List.cons_append, cutL_cons, cutL_cons, ih]
    by_cases hc : (c == 47) = true
    · rw [if_pos hc, if_pos hc]; rfl
    · rw [if_neg hc, if_neg hc]
      cases h : cutL a with
      | nil => exact absurd h (cutL_ne a)
      | cons p r => simp
end Go.Proofs.YtjgdeblmgmojcaaGreatDoor
