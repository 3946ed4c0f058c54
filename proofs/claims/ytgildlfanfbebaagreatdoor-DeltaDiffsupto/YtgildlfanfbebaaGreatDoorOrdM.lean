/- The order of paths, without a program: it is total, it is one, and what lies below a path stands straight behind it. -/
import Derived.Test.YtgildlfanfbebaaGreatDoorCmpM
import Derived.Test.YtgildlfanfbebaaGreatDoorBelM
namespace Go.Proofs.YtgildlfanfbebaaGreatDoor

theorem cb_range : ∀ a b : List UInt8, Lib.compareBytes a b = -1 ∨ Lib.compareBytes a b = 0 ∨ Lib.compareBytes a b = 1
  | [], [] => by simp [Lib.compareBytes]
  | [], _ :: _ => by simp [Lib.compareBytes]
  | _ :: _, [] => by simp [Lib.compareBytes]
  | x :: a, y :: b => by
    have ih := cb_range a b
    unfold Lib.compareBytes
    by_cases h1 : x < y
    · simp [h1]
    · by_cases h2 : y < x
      · simp [h1, h2]
      · simpa [h1, h2] using ih
theorem cb_neg : ∀ a b : List UInt8, Lib.compareBytes a b = - Lib.compareBytes b a
  | [], [] => by simp [Lib.compareBytes]
  | [], _ :: _ => by simp [Lib.compareBytes]
  | _ :: _, [] => by simp [Lib.compareBytes]
  | x :: a, y :: b => by
    have ih := cb_neg a b
    unfold Lib.compareBytes
    by_cases h1 : x < y
    · have h2 : ¬ y < x := fun h => by have a1 : x.toNat < y.toNat := h1; have a2 : y.toNat < x.toNat := h; omega
      simp [h1, h2]
    · by_cases h2 : y < x
      · simp [h1, h2]
      · simpa [h1, h2] using ih
theorem cb_trans : ∀ a b c : List UInt8, Lib.compareBytes a b = -1 → Lib.compareBytes b c = -1 → Lib.compareBytes a c = -1
  | [], [], _, h, _ => by simp [Lib.compareBytes] at h
  | [], _ :: _, [], _, h => by simp [Lib.compareBytes] at h
  | [], _ :: _, _ :: _, _, _ => by simp [Lib.compareBytes]
  | _ :: _, [], _, h, _ => by simp [Lib.compareBytes] at h
  | _ :: _, _ :: _, [], _, h => by simp [Lib.compareBytes] at h
  | x :: a, y :: b, z :: c, h, k => by
    unfold Lib.compareBytes at h k ⊢
    by_cases h1 : x.toNat < y.toNat
    · by_cases k1 : y.toNat < z.toNat
      · have : x < z := show x.toNat < z.toNat by omega
        simp [this]
      · by_cases k2 : z.toNat < y.toNat
        · have n1 : ¬ y < z := k1
          have n2 : z < y := k2
          simp [n1, n2] at k
        · have : x < z := show x.toNat < z.toNat by omega
          simp [this]
    · by_cases h2 : y.toNat < x.toNat
      · have n1 : ¬ x < y := h1
        have n2 : y < x := h2
        simp [n1, n2] at h
      · have n1 : ¬ x < y := h1
        have n2 : ¬ y < x := h2
        simp only [n1, n2, if_false] at h
        by_cases k1 : y.toNat < z.toNat
        · have : x < z := show x.toNat < z.toNat by omega
          simp [this]
        · by_cases k2 : z.toNat < y.toNat
          · have m1 : ¬ y < z := k1
            have m2 : z < y := k2
            simp [m1, m2] at k
          · have m1 : ¬ y < z := k1
            have m2 : ¬ z < y := k2
            simp only [m1, m2, if_false] at k
            have o1 : ¬ x < z := show ¬ x.toNat < z.toNat by omega
            have o2 : ¬ z < x := show ¬ z.toNat < x.toNat by omega
            simp only [o1, o2, if_false]
            exact cb_trans a b c h k

theorem cmpB_range (x y : ByteArray) : cmpB x y = -1 ∨ cmpB x y = 0 ∨ cmpB x y = 1 := cb_range _ _
theorem cmpB_neg (x y : ByteArray) : cmpB x y = - cmpB y x := cb_neg _ _
theorem cp_range : ∀ a b : List ByteArray, compareP a b = -1 ∨ compareP a b = 0 ∨ compareP a b = 1
  | [], [] => by simp [compareP]
  | [], _ :: _ => by simp [compareP]
  | _ :: _, [] => by simp [compareP]
  | x :: a, y :: b => by
    unfold compareP
    split
    · exact cp_range a b
    · exact cmpB_range x y
theorem cp_neg : ∀ a b : List ByteArray, compareP a b = - compareP b a
  | [], [] => by simp [compareP]
  | [], _ :: _ => by simp [compareP]
  | _ :: _, [] => by simp [compareP]
  | x :: a, y :: b => by
    have e := cmpB_neg x y
    unfold compareP
    by_cases h : cmpB x y = 0
    · rw [if_pos h, if_pos (by omega)]; exact cp_neg a b
    · rw [if_neg h, if_neg (by omega)]; exact e
theorem cp_zero : ∀ a b : List ByteArray, compareP a b = 0 → a = b
  | [], [], _ => rfl
  | [], _ :: _, h => by simp [compareP] at h
  | _ :: _, [], h => by simp [compareP] at h
  | x :: a, y :: b, h => by
    unfold compareP at h
    by_cases e : cmpB x y = 0
    · rw [if_pos e] at h; rw [cmpB_zero e, cp_zero a b h]
    · rw [if_neg e] at h; exact absurd h e
theorem cp_self (a : List ByteArray) : compareP a a = 0 := by have := cp_neg a a; omega
theorem cmpB_trans {x y z : ByteArray} (h : cmpB x y = -1) (k : cmpB y z = -1) : cmpB x z = -1 := cb_trans _ _ _ h k
theorem cp_trans : ∀ a b c : List ByteArray, compareP a b = -1 → compareP b c = -1 → compareP a c = -1
  | [], [], _, h, _ => by simp [compareP] at h
  | [], _ :: _, [], _, h => by simp [compareP] at h
  | [], _ :: _, _ :: _, _, _ => by simp [compareP]
  | _ :: _, [], _, h, _ => by simp [compareP] at h
  | _ :: _, _ :: _, [], _, h => by simp [compareP] at h
  | x :: a, y :: b, z :: c, h, k => by
    unfold compareP at h k ⊢
    by_cases e1 : cmpB x y = 0
    · rw [if_pos e1] at h
      obtain rfl := cmpB_zero e1
      by_cases e2 : cmpB x z = 0
      · rw [if_pos e2] at k ⊢; exact cp_trans a b c h k
      · rw [if_neg e2] at k ⊢; exact k
    · rw [if_neg e1] at h
      by_cases e2 : cmpB y z = 0
      · obtain rfl := cmpB_zero e2
        rw [if_neg e1]; exact h
      · rw [if_neg e2] at k
        have t := cmpB_trans h k
        rw [if_neg (by omega)]; exact t
/-- What stands between a list and one that begins with it begins with it too. -/
theorem cp_between : ∀ (a b t : List ByteArray), compareP a b = -1 → compareP b (a ++ t) = -1 → ∃ u, u ≠ [] ∧ b = a ++ u
  | [], [], _, h, _ => by simp [compareP] at h
  | [], y :: b, _, _, _ => ⟨y :: b, by simp, rfl⟩
  | _ :: _, [], _, h, _ => by simp [compareP] at h
  | x :: a, y :: b, t, h, k => by
    rw [List.cons_append] at k
    unfold compareP at h k
    have e := cmpB_neg x y
    by_cases e1 : cmpB x y = 0
    · rw [if_pos e1] at h
      rw [if_pos (by omega)] at k
      obtain ⟨u, hu, hb⟩ := cp_between a b t h k
      exact ⟨u, hu, by rw [hb, cmpB_zero e1]; rfl⟩
    · rw [if_neg e1] at h
      rw [if_neg (by omega)] at k
      omega

/- Pieces, put together again. -/
def glue : List (List UInt8) → List UInt8
  | [] => []
  | [x] => x
  | x :: y :: r => x ++ 47 :: glue (y :: r)
theorem glue_cons (x : List UInt8) (r : List (List UInt8)) (h : r ≠ []) : glue (x :: r) = x ++ 47 :: glue r := by
  cases r with
  | nil => exact absurd rfl h
  | cons y r => rfl
theorem glue_cut : ∀ l : List UInt8, glue (cutL l) = l
  | [] => rfl
  | c :: l => by
    have ih := glue_cut l
    rw [cutL_cons]
    by_cases hc : (c == 47) = true
    · rw [if_pos hc, glue_cons _ _ (cutL_ne l), ih]; simp at hc; simp [hc]
    · rw [if_neg hc]
      cases h : cutL l with
      | nil => exact absurd h (cutL_ne l)
      | cons p r =>
        rw [h] at ih
        cases r with
        | nil => simpa [glue] using ih
        | cons q r => simpa [glue] using ih
theorem glue_append (a b : List (List UInt8)) (ha : a ≠ []) (hb : b ≠ []) : glue (a ++ b) = glue a ++ 47 :: glue b := by
  induction a with
  | nil => exact absurd rfl ha
  | cons x r ih =>
    cases r with
    | nil => rw [List.singleton_append, glue_cons x b hb]; rfl
    | cons y r => rw [List.cons_append, glue_cons x _ (by simp), ih (by simp), glue_cons x (y :: r) (by simp)]; simp
theorem cut_append : ∀ (a b : List UInt8), cutL (a ++ 47 :: b) = cutL a ++ cutL b
  | [], b => by simp [cutL]
  | c :: a, b => by
    have ih := cut_append a b
    rw [List.cons_append, cutL_cons, cutL_cons, ih]
    by_cases hc : (c == 47) = true
    · rw [if_pos hc, if_pos hc]; rfl
    · rw [if_neg hc, if_neg hc]
      cases h : cutL a with
      | nil => exact absurd h (cutL_ne a)
      | cons p r => simp
theorem cut_inj {a b : List UInt8} (h : cutL a = cutL b) : a = b := by rw [← glue_cut a, ← glue_cut b, h]
theorem pieces_inj {a b : ByteArray} (h : piecesB a = piecesB b) : a = b := by
  have h1 : ((piecesB a).map un) = ((piecesB b).map un) := by rw [h]
  unfold piecesB at h1
  rw [List.map_map, List.map_map] at h1
  have e : ∀ l : List (List UInt8), l.map (un ∘ bs) = l := fun l => by
    induction l with
    | nil => rfl
    | cons x l ih => simp [un_bs, ih]
  rw [e, e] at h1
  exact un_inj (cut_inj h1)

theorem below_iff {a c : ByteArray} (ha : a.toList.isEmpty = false) : belowB a c = true ↔ ∃ t, un c = un a ++ 47 :: t := by
  rw [belowB_r a c ha]
  unfold Lib.hasPrefix
  rw [List.isPrefixOf_iff_prefix]
  constructor
  · rintro ⟨t, ht⟩; exact ⟨t, by rw [← ht]; simp⟩
  · rintro ⟨t, ht⟩; exact ⟨t, by rw [ht]; simp⟩
theorem below_pieces {a c : ByteArray} (ha : a.toList.isEmpty = false) (h : belowB a c = true) : ∃ t, t ≠ [] ∧ piecesB c = piecesB a ++ t := by
  obtain ⟨t, ht⟩ := (below_iff ha).1 h
  refine ⟨(cutL t).map bs, by simp [cutL_ne], ?_⟩
  unfold piecesB; rw [ht, cut_append]; simp
theorem pieces_below {a b : ByteArray} (ha : a.toList.isEmpty = false) {u : List ByteArray} (hu : u ≠ []) (h : piecesB b = piecesB a ++ u) : belowB a b = true := by
  rw [below_iff ha]
  have h1 : ((piecesB b).map un) = ((piecesB a).map un) ++ u.map un := by rw [h]; simp
  unfold piecesB at h1
  rw [List.map_map, List.map_map] at h1
  have e : ∀ l : List (List UInt8), l.map (un ∘ bs) = l := fun l => by
    induction l with
    | nil => rfl
    | cons x l ih => simp [un_bs, ih]
  rw [e, e] at h1
  have h2 := congrArg glue h1
  rw [glue_cut, glue_append _ _ (cutL_ne _) (by simpa using hu), glue_cut] at h2
  exact ⟨_, h2⟩

theorem order_range (a b : ByteArray) : -1 ≤ compareN a b ∧ compareN a b ≤ 1 := by rcases cp_range (piecesB a) (piecesB b) with h | h | h <;> (unfold compareN; omega)
theorem order_neg (a b : ByteArray) : compareN a b = - compareN b a := cp_neg _ _
theorem order_zero {a b : ByteArray} (h : compareN a b = 0) : a = b := pieces_inj (cp_zero _ _ h)
theorem order_self (a : ByteArray) : compareN a a = 0 := cp_self _
theorem order_trans {a b c : ByteArray} (h : compareN a b < 0) (k : compareN b c < 0) : compareN a c < 0 := by
  have h1 := order_range a b
  have h2 := order_range b c
  have := cp_trans (piecesB a) (piecesB b) (piecesB c) (show compareN a b = -1 by omega) (show compareN b c = -1 by omega)
  show compareP _ _ < 0; omega
theorem order_below {a c : ByteArray} (ha : a.toList.isEmpty = false) (h : belowB a c = true) : compareN a c = -1 := by
  obtain ⟨t, ht, e⟩ := below_pieces ha h
  have e2 := compareP_same (piecesB a) [] t
  rw [List.append_nil] at e2
  unfold compareN; rw [e, e2]
  cases t with
  | nil => exact absurd rfl ht
  | cons _ _ => rfl
theorem order_between {a b c : ByteArray} (ha : a.toList.isEmpty = false) (h : belowB a c = true) (h1 : compareN a b < 0) (h2 : compareN b c < 0) : belowB a b = true := by
  obtain ⟨t, _, e⟩ := below_pieces ha h
  have r1 := order_range a b
  have r2 := order_range b c
  have k1 : compareP (piecesB a) (piecesB b) = -1 := by show compareN a b = -1; omega
  have k2 : compareP (piecesB b) (piecesB a ++ t) = -1 := by rw [← e]; show compareN b c = -1; omega
  obtain ⟨u, hu, hb⟩ := cp_between _ _ _ k1 k2
  exact pieces_below ha hu hb
end Go.Proofs.YtgildlfanfbebaaGreatDoor
