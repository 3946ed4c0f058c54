/- How many lines a file has; where it stops being UTF-8: purely, as the program asks it. -/
import Derived.Test.YtjgijbeedgggdaaGreatDoorFncW
import Derived.Lib.LastIndexByte
namespace Go.Proofs.YtjgijbeedgggdaaGreatDoor
open Go Go.RowKit

theorem segs_cnt (x : Ln) : ∀ acc : Ln, (segsG acc x).length = x.count 10 + (if acc ++ x = [] ∨ x.getLast? = some 10 then 0 else 1) := by
  induction x with
  | nil =>
    intro acc
    rw [segsG, List.append_nil]
    by_cases h : acc = []
    · simp [h]
    · rw [if_neg h, if_neg (by simp [h])]; rfl
  | cons b s ih =>
    intro acc
    rw [segsG]
    by_cases hb : b = 10
    · subst hb
      rw [if_pos rfl, List.length_cons, ih [], List.count_cons_self, List.nil_append]
      by_cases hs : s = []
      · subst hs; simp
      · have e : (10 :: s).getLast? = s.getLast? := by cases s with
          | nil => exact absurd rfl hs
          | cons c s => rfl
        rw [e]
        by_cases hl : s.getLast? = some 10
        · rw [if_pos (.inr hl), if_pos (.inr hl)]
        · rw [if_neg (by simp [hs, hl]), if_neg (by simp [hl])]
    · rw [if_neg hb, ih (acc ++ [b]), List.count_cons_of_ne hb]
      congr 1
      have e : (b :: s).getLast? = some 10 ↔ s.getLast? = some 10 := by cases s with
        | nil => simp [hb]
        | cons c s => exact Iff.rfl
      by_cases hl : s.getLast? = some 10
      · rw [if_pos (.inr hl), if_pos (.inr (e.2 hl))]
      · rw [if_neg (by simp [hl]), if_neg (by rw [e]; simp [hl])]
theorem cut_count (x : Ln) : (cutL x).length = x.count 10 + (if x = [] ∨ x.getLast? = some 10 then 0 else 1) := by
  unfold cutL; rw [List.length_map, segs_cnt x []]; rfl
/-- The column behind a text. -/
def colF : Nat → Ln → Nat
  | c, [] => c
  | c, b :: x => if b = 10 then colF 1 x else colF (c + 1) x
theorem colF_app : ∀ (x y : Ln) (c : Nat), colF c (x ++ y) = colF (colF c x) y
  | [], y, c => rfl
  | b :: x, y, c => by
    rw [List.cons_append, colF, colF]
    split
    · exact colF_app x y 1
    · exact colF_app x y (c + 1)
theorem colF_no : ∀ (x : Ln) (c : Nat), 10 ∉ x → colF c x = c + x.length
  | [], c, _ => rfl
  | b :: x, c, h => by
    rw [colF, if_neg (fun e => h (by rw [e]; exact List.mem_cons_self)), colF_no x (c + 1) (fun hm => h (List.mem_cons_of_mem _ hm)), List.length_cons]; omega
/-- A whole character other than 0a has no byte 0a. -/
theorem chr_no10 (c : UInt8) (r : Ln) (h : 0 < chrN (c :: r)) (hc : c ≠ 10) : 10 ∉ (c :: r).take (chrN (c :: r)) := by
  intro hm
  obtain ⟨i, hi, hx⟩ := List.getElem_of_mem hm
  rw [List.length_take] at hi
  rw [List.getElem_take] at hx
  have hx2 : (c :: r)[i]? = some 10 := by rw [List.getElem?_eq_getElem (by omega), hx]
  cases i with
  | zero => simp at hx2; exact hc hx2
  | succ i =>
    have := (chrN_cont (c :: r) h).2 (i + 1) 10 (by omega) (by omega) hx2
    exact absurd this (by decide)
theorem chr_10 (r : Ln) : chrN (10 :: r) = 1 := by rw [chrN_cons]; exact if_pos (by decide)
theorem vp_le : ∀ (fu : Nat) (s : Ln), vpN fu s ≤ s.length
  | 0, s => Nat.zero_le _
  | fu + 1, s => by
    rw [vpN]
    split
    · exact Nat.zero_le _
    · have h1 := chr_le s
      have h2 := vp_le fu (s.drop (chrN s))
      rw [List.length_drop] at h2
      omega
theorem wrong_vp : ∀ (fu : Nat) (s : Ln) (line col : Nat), s.length ≤ fu → wrongU fu s line col = (if vpN fu s < s.length then some (line + (s.take (vpN fu s)).count 10, colF col (s.take (vpN fu s))) else none)
  | 0, s, line, col, h => by
    have : s = [] := List.eq_nil_of_length_eq_zero (by omega)
    subst this; rfl
  | fu + 1, [], line, col, h => by
    rw [if_neg (by simp)]; rfl
  | fu + 1, c :: r, line, col, h => by
    rw [wrongU, vpN]
    by_cases h0 : chrN (c :: r) = 0
    · rw [if_pos h0, if_pos h0, if_pos (by simp)]; rfl
    · rw [if_neg h0, if_neg h0]
      have hle := chr_le (c :: r)
      have hlen : ((c :: r).drop (chrN (c :: r))).length = (c :: r).length - chrN (c :: r) := List.length_drop
      have hl : ((c :: r).drop (chrN (c :: r))).length ≤ fu := by rw [hlen, List.length_cons] at *; omega
      have htk : ∀ m, (c :: r).take (chrN (c :: r) + m) = (c :: r).take (chrN (c :: r)) ++ ((c :: r).drop (chrN (c :: r))).take m := fun m => List.take_add
      have hif : (vpN fu ((c :: r).drop (chrN (c :: r))) < ((c :: r).drop (chrN (c :: r))).length) ↔ (chrN (c :: r) + vpN fu ((c :: r).drop (chrN (c :: r))) < (c :: r).length) := by rw [hlen]; omega
      by_cases hc : c = 10
      · subst hc
        rw [if_pos rfl, wrong_vp fu _ (line + 1) 1 hl]
        by_cases hv : vpN fu ((10 :: r).drop (chrN (10 :: r))) < ((10 :: r).drop (chrN (10 :: r))).length
        · rw [if_pos hv, if_pos (hif.1 hv), htk, List.count_append, colF_app, chr_10]
          simp [colF]; omega
        · rw [if_neg hv, if_neg (fun h => hv (hif.2 h))]
      · have hno := chr_no10 c r (by omega) hc
        rw [if_neg hc, wrong_vp fu _ line (col + chrN (c :: r)) hl]
        by_cases hv : vpN fu ((c :: r).drop (chrN (c :: r))) < ((c :: r).drop (chrN (c :: r))).length
        · rw [if_pos hv, if_pos (hif.1 hv), htk, List.count_append, colF_app, colF_no _ col hno, List.count_eq_zero.2 hno, List.length_take, Nat.min_eq_left hle]
          simp
        · rw [if_neg hv, if_neg (fun h => hv (hif.2 h))]
theorem last_col (X : ByteArray) : Lib.lastIndexByte X 10 + 1 ≤ X.size ∧ -1 ≤ Lib.lastIndexByte X 10 ∧ (X.size : Int) - (Lib.lastIndexByte X 10 + 1) + 1 = colF 1 (un X) := by
  have hg : ∀ j, j < X.size → (un X)[j]? = some (X.data[j]!) := fun j hj => by
    rw [un_getElem? X j hj]
    have : X.data[j]! = X.data[j]'hj := getElem!_pos X.data j hj
    rw [this]; rfl
  have h10 : ∀ b : UInt8, ((b.toNat : Int) = 10) ↔ b = 10 := fun b => by
    refine ⟨fun h => UInt8.toNat_inj.1 (by show b.toNat = 10; omega), fun h => by subst h; rfl⟩
  rcases Lib.lastIndexByte_spec X 10 with ⟨e, hn⟩ | ⟨i, hi, e, h1, h2⟩
  · have hno : 10 ∉ un X := fun hm => by
      obtain ⟨j, hj, hx⟩ := List.getElem_of_mem hm
      rw [un_length] at hj
      have := hg j hj
      rw [List.getElem?_eq_getElem (by rw [un_length]; exact hj), hx] at this
      exact hn j hj ((h10 _).2 (Option.some.inj this).symm)
    rw [e, colF_no _ _ hno, un_length]
    omega
  · have hlt : i < (un X).length := by rw [un_length]; exact hi
    have e1 : un X = (un X).take i ++ 10 :: (un X).drop (i + 1) := by
      have := hg i hi
      rw [(h10 _).1 h1] at this
      obtain ⟨q1, q2⟩ := List.getElem?_eq_some_iff.1 this
      have e2 : (un X).drop i = 10 :: (un X).drop (i + 1) := by rw [List.drop_eq_getElem_cons q1, q2]
      rw [← e2, List.take_append_drop]
    have hno : 10 ∉ (un X).drop (i + 1) := fun hm => by
      obtain ⟨j, hj, hx⟩ := List.getElem_of_mem hm
      rw [List.length_drop, un_length] at hj
      have := hg (i + 1 + j) (by omega)
      rw [List.getElem_drop] at hx
      rw [List.getElem?_eq_getElem (by rw [un_length]; omega), hx] at this
      exact h2 _ (by omega) (by omega) ((h10 _).2 (Option.some.inj this).symm)
    have e3 : colF 1 (un X) = 1 + (X.size - (i + 1)) := by
      rw [e1, colF_app, colF, if_pos rfl, colF_no _ _ hno, List.length_drop, un_length]
    rw [e, e3]
    omega
end Go.Proofs.YtjgijbeedgggdaaGreatDoor
