/- GlobKnown's shown, walked. -/
import Derived.Test.YthkbhcefckbcnaaGreatDoorSpec
import Derived.Test.YthkbhcefckbcnaaGreatDoorSplitM
import Derived.Test.YthkbhcefckbcnaaGreatDoorOwnM
import Derived.ChangeKeysEq
import Derived.Laws.StructEq
import Derived.Laws.OwnMore
import Derived.Laws.Tables
import Derived.Deep.MidRow
import Derived.Test.YthkbhcefckbcnaaGreatDoorCut
import Derived.Test.YthkbhcefckbcnaaGreatDoorTakeN
import Derived.Sort.OwnSorted
import Derived.Test.YthkbhcefckbcnaaGreatDoorBoolRow
import Derived.Test.YthkbhcefckbcnaaGreatDoorRules
import Derived.Test.YthkbhcefckbcnaaGreatDoorOutP
import Derived.Test.YthkbhcefckbcnaaGreatDoorReadP
import Derived.Test.YthkbhcefckbcnaaGreatDoorLawOutB
import Derived.Deep.RegionHeld3

namespace Go.Proofs.YthkbhcefckbcnaaGreatDoor
open Go

theorem compareBytes_self : ∀ l : List UInt8, Lib.compareBytes l l = 0
  | [] => rfl
  | c :: l => by simp [Lib.compareBytes, compareBytes_self l]
theorem compareBytes_zero : ∀ a b : List UInt8, Lib.compareBytes a b = 0 → a = b
  | [], [], _ => rfl
  | [], _ :: _, h => by simp [Lib.compareBytes] at h
  | _ :: _, [], h => by simp [Lib.compareBytes] at h
  | x :: a, y :: b, h => by
    unfold Lib.compareBytes at h
    by_cases h1 : x < y
    · simp [h1] at h
    · by_cases h2 : y < x
      · simp [h1, h2] at h
      · simp only [h1, h2, if_false] at h
        have : x = y := by
          have a1 : ¬ x.toNat < y.toNat := h1
          have a2 : ¬ y.toNat < x.toNat := h2
          exact UInt8.toNat_inj.1 (by omega)
        rw [this, compareBytes_zero a b h]
def cmpB (x y : ByteArray) : Int := Lib.compareBytes (un x) (un y)
theorem cmpB_self (x : ByteArray) : cmpB x x = 0 := compareBytes_self _
theorem cmpB_zero {x y : ByteArray} (h : cmpB x y = 0) : x = y := un_inj (compareBytes_zero _ _ h)
def compareP : List ByteArray → List ByteArray → Int
  | [], [] => 0
  | [], _ :: _ => -1
  | _ :: _, [] => 1
  | x :: xs, y :: ys => if cmpB x y = 0 then compareP xs ys else cmpB x y
theorem compareP_same : ∀ (pre xs ys : List ByteArray), compareP (pre ++ xs) (pre ++ ys) = compareP xs ys
  | [], _, _ => rfl
  | x :: pre, xs, ys => by simp [compareP, cmpB_self, compareP_same pre xs ys]
def compareN (a b : ByteArray) : Int := compareP (piecesB a) (piecesB b)
end Go.Proofs.YthkbhcefckbcnaaGreatDoor

namespace Go.Proofs.YthkbhcefckbcnaaGreatDoor
open Go

/-- Does p lie below dir? -/
def belowB (dir p : ByteArray) : Bool := if dir.toList.isEmpty then !p.toList.isEmpty else (Lib.hasPrefix (un p) (un dir) && Lib.hasPrefix (Lib.trimPrefix (un p) (un dir)) [47])
theorem hasPrefix_take (l h : List UInt8) : Lib.hasPrefix l h = (decide (h.length ≤ l.length) && (l.take h.length == h)) := by
  unfold Lib.hasPrefix
  rw [Bool.eq_iff_iff]
  simp only [List.isPrefixOf_iff_prefix, Bool.and_eq_true, decide_eq_true_eq, beq_iff_eq]
  constructor
  · rintro ⟨t, rfl⟩; simp
  · rintro ⟨_, h2⟩; exact ⟨l.drop h.length, by have h3 := List.take_append_drop h.length l; rw [h2] at h3; exact h3⟩
theorem belowB_r (a b : ByteArray) (h : a.toList.isEmpty = false) : belowB a b = Lib.hasPrefix (un b) (un a ++ [47]) := by
  unfold belowB
  rw [h]
  simp only [Bool.false_eq_true, if_false, Lib.trimPrefix]
  rw [Bool.eq_iff_iff]
  constructor
  · intro hh
    rw [Bool.and_eq_true] at hh
    obtain ⟨h1, h2⟩ := hh
    rw [if_pos h1] at h2
    unfold Lib.hasPrefix at *
    rw [List.isPrefixOf_iff_prefix] at *
    obtain ⟨t, ht⟩ := h1
    obtain ⟨u, hu⟩ := h2
    rw [← ht] at hu
    simp at hu
    exact ⟨u, by rw [← ht, ← hu]; simp⟩
  · intro hh
    have h1 : Lib.hasPrefix (un b) (un a) = true := by
      unfold Lib.hasPrefix at *
      rw [List.isPrefixOf_iff_prefix] at *
      obtain ⟨u, hu⟩ := hh
      exact ⟨47 :: u, by rw [← hu]; simp⟩
    rw [h1, if_pos rfl]
    unfold Lib.hasPrefix at *
    simp only [Bool.true_and]
    rw [List.isPrefixOf_iff_prefix] at *
    obtain ⟨u, hu⟩ := hh
    exact ⟨u, by rw [← hu]; simp⟩
end Go.Proofs.YthkbhcefckbcnaaGreatDoor

namespace Go.Proofs.YthkbhcefckbcnaaGreatDoor

theorem cb_range : ∀ a b : List UInt8, Lib.compareBytes a b = -1 ∨ Lib.compareBytes a b = 0 ∨ Lib.compareBytes a b = 1
  | [], [] => by simp [Lib.compareBytes]
  | [], _ :: _ => by simp [Lib.compareBytes]
  | _ :: _, [] => by simp [Lib.compareBytes]
  | x :: a, y :: b => by
    have ih := cb_range a b
    unfold Lib.compareBytes
    by_cases h1 : x < y
    · simp [h1]
    · by_cases h2 : y < x
      · simp [h1, h2]
      · simpa [h1, h2] using ih
theorem cb_neg : ∀ a b : List UInt8, Lib.compareBytes a b = - Lib.compareBytes b a
  | [], [] => by simp [Lib.compareBytes]
  | [], _ :: _ => by simp [Lib.compareBytes]
  | _ :: _, [] => by simp [Lib.compareBytes]
  | x :: a, y :: b => by
    have ih := cb_neg a b
    unfold Lib.compareBytes
    by_cases h1 : x < y
    · have h2 : ¬ y < x := fun h => by have a1 : x.toNat < y.toNat := h1; have a2 : y.toNat < x.toNat := h; omega
      simp [h1, h2]
    · by_cases h2 : y < x
      · simp [h1, h2]
      · simpa [h1, h2] using ih
theorem cb_trans : ∀ a b c : List UInt8, Lib.compareBytes a b = -1 → Lib.compareBytes b c = -1 → Lib.compareBytes a c = -1
  | [], [], _, h, _ => by simp [Lib.compareBytes] at h
  | [], _ :: _, [], _, h => by simp [Lib.compareBytes] at h
  | [], _ :: _, _ :: _, _, _ => by simp [Lib.compareBytes]
  | _ :: _, [], _, h, _ => by simp [Lib.compareBytes] at h
  | _ :: _, _ :: _, [], _, h => by simp [Lib.compareBytes] at h
  | x :: a, y :: b, z :: c, h, k => by
    unfold Lib.compareBytes at h k ⊢
    by_cases h1 : x.toNat < y.toNat
    · by_cases k1 : y.toNat < z.toNat
      · have : x < z := show x.toNat < z.toNat by omega
        simp [this]
      · by_cases k2 : z.toNat < y.toNat
        · have n1 : ¬ y < z := k1
          have n2 : z < y := k2
          simp [n1, n2] at k
        · have : x < z := show x.toNat < z.toNat by omega
          simp [this]
    · by_cases h2 : y.toNat < x.toNat
      · have n1 : ¬ x < y := h1
        have n2 : y < x := h2
        simp [n1, n2] at h
      · have n1 : ¬ x < y := h1
        have n2 : ¬ y < x := h2
        simp only [n1, n2, if_false] at h
        by_cases k1 : y.toNat < z.toNat
        · have : x < z := show x.toNat < z.toNat by omega
          simp [this]
        · by_cases k2 : z.toNat < y.toNat
          · have m1 : ¬ y < z := k1
            have m2 : z < y := k2
            simp [m1, m2] at k
          · have m1 : ¬ y < z := k1
            have m2 : ¬ z < y := k2
            simp only [m1, m2, if_false] at k
            have o1 : ¬ x < z := show ¬ x.toNat < z.toNat by omega
            have o2 : ¬ z < x := show ¬ z.toNat < x.toNat by omega
            simp only [o1, o2, if_false]
            exact cb_trans a b c h k

theorem cmpB_range (x y : ByteArray) : cmpB x y = -1 ∨ cmpB x y = 0 ∨ cmpB x y = 1 := cb_range _ _
theorem cmpB_neg (x y : ByteArray) : cmpB x y = - cmpB y x := cb_neg _ _
theorem cp_range : ∀ a b : List ByteArray, compareP a b = -1 ∨ compareP a b = 0 ∨ compareP a b = 1
  | [], [] => by simp [compareP]
  | [], _ :: _ => by simp [compareP]
  | _ :: _, [] => by simp [compareP]
  | x :: a, y :: b => by
    unfold compareP
    split
    · exact cp_range a b
    · exact cmpB_range x y
theorem cp_neg : ∀ a b : List ByteArray, compareP a b = - compareP b a
  | [], [] => by simp [compareP]
  | [], _ :: _ => by simp [compareP]
  | _ :: _, [] => by simp [compareP]
  | x :: a, y :: b => by
    have e := cmpB_neg x y
    unfold compareP
    by_cases h : cmpB x y = 0
    · rw [if_pos h, if_pos (by omega)]; exact cp_neg a b
    · rw [if_neg h, if_neg (by omega)]; exact e
theorem cp_zero : ∀ a b : List ByteArray, compareP a b = 0 → a = b
  | [], [], _ => rfl
  | [], _ :: _, h => by simp [compareP] at h
  | _ :: _, [], h => by simp [compareP] at h
  | x :: a, y :: b, h => by
    unfold compareP at h
    by_cases e : cmpB x y = 0
    · rw [if_pos e] at h; rw [cmpB_zero e, cp_zero a b h]
    · rw [if_neg e] at h; exact absurd h e
theorem cp_self (a : List ByteArray) : compareP a a = 0 := by have := cp_neg a a; omega
theorem cmpB_trans {x y z : ByteArray} (h : cmpB x y = -1) (k : cmpB y z = -1) : cmpB x z = -1 := cb_trans _ _ _ h k
theorem cp_trans : ∀ a b c : List ByteArray, compareP a b = -1 → compareP b c = -1 → compareP a c = -1
  | [], [], _, h, _ => by simp [compareP] at h
  | [], _ :: _, [], _, h => by simp [compareP] at h
  | [], _ :: _, _ :: _, _, _ => by simp [compareP]
  | _ :: _, [], _, h, _ => by simp [compareP] at h
  | _ :: _, _ :: _, [], _, h => by simp [compareP] at h
  | x :: a, y :: b, z :: c, h, k => by
    unfold compareP at h k ⊢
    by_cases e1 : cmpB x y = 0
    · rw [if_pos e1] at h
      obtain rfl := cmpB_zero e1
      by_cases e2 : cmpB x z = 0
      · rw [if_pos e2] at k ⊢; exact cp_trans a b c h k
      · rw [if_neg e2] at k ⊢; exact k
    · rw [if_neg e1] at h
      by_cases e2 : cmpB y z = 0
      · obtain rfl := cmpB_zero e2
        rw [if_neg e1]; exact h
      · rw [if_neg e2] at k
        have t := cmpB_trans h k
        rw [if_neg (by omega)]; exact t
/-- What stands between a list and one that begins with it begins with it too. -/
theorem cp_between : ∀ (a b t : List ByteArray), compareP a b = -1 → compareP b (a ++ t) = -1 → ∃ u, u ≠ [] ∧ b = a ++ u
  | [], [], _, h, _ => by simp [compareP] at h
  | [], y :: b, _, _, _ => ⟨y :: b, by simp, rfl⟩
  | _ :: _, [], _, h, _ => by simp [compareP] at h
  | x :: a, y :: b, t, h, k => by
    rw [List.cons_append] at k
    unfold compareP at h k
    have e := cmpB_neg x y
    by_cases e1 : cmpB x y = 0
    · rw [if_pos e1] at h
      rw [if_pos (by omega)] at k
      obtain ⟨u, hu, hb⟩ := cp_between a b t h k
      exact ⟨u, hu, by rw [hb, cmpB_zero e1]; rfl⟩
    · rw [if_neg e1] at h
      rw [if_neg (by omega)] at k
      omega

/- Pieces, put together again. -/
def glue : List (List UInt8) → List UInt8
  | [] => []
  | [x] => x
  | x :: y :: r => x ++ 47 :: glue (y :: r)
theorem glue_cons (x : List UInt8) (r : List (List UInt8)) (h : r ≠ []) : glue (x :: r) = x ++ 47 :: glue r := by
  cases r with
  | nil => exact absurd rfl h
  | cons y r => rfl
theorem glue_cut : ∀ l : List UInt8, glue (cutL l) = l
  | [] => rfl
  | c :: l => by
    have ih := glue_cut l
    rw [cutL_cons]
    by_cases hc : (c == 47) = true
    · rw [if_pos hc, glue_cons _ _ (cutL_ne l), ih]; simp at hc; simp [hc]
    · rw [if_neg hc]
      cases h : cutL l with
      | nil => exact absurd h (cutL_ne l)
      | cons p r =>
        rw [h] at ih
        cases r with
        | nil => simpa [glue] using ih
        | cons q r => simpa [glue] using ih
theorem glue_append (a b : List (List UInt8)) (ha : a ≠ []) (hb : b ≠ []) : glue (a ++ b) = glue a ++ 47 :: glue b := by
  induction a with
  | nil => exact absurd rfl ha
  | cons x r ih =>
    cases r with
    | nil => rw [List.singleton_append, glue_cons x b hb]; rfl
    | cons y r => rw [List.cons_append, glue_cons x _ (by simp), ih (by simp), glue_cons x (y :: r) (by simp)]; simp
theorem cut_append : ∀ (a b : List UInt8), cutL (a ++ 47 :: b) = cutL a ++ cutL b
  | [], b => by simp [cutL]
  | c :: a, b => by
    have ih := cut_append a b
    rw [List.cons_append, cutL_cons, cutL_cons, ih]
    by_cases hc : (c == 47) = true
    · rw [if_pos hc, if_pos hc]; rfl
    · rw [if_neg hc, if_neg hc]
      cases h : cutL a with
      | nil => exact absurd h (cutL_ne a)
      | cons p r => simp
theorem cut_inj {a b : List UInt8} (h : cutL a = cutL b) : a = b := by rw [← glue_cut a, ← glue_cut b, h]
theorem pieces_inj {a b : ByteArray} (h : piecesB a = piecesB b) : a = b := by
  have h1 : ((piecesB a).map un) = ((piecesB b).map un) := by rw [h]
  unfold piecesB at h1
  rw [List.map_map, List.map_map] at h1
  have e : ∀ l : List (List UInt8), l.map (un ∘ bs) = l := fun l => by
    induction l with
    | nil => rfl
    | cons x l ih => simp [un_bs, ih]
  rw [e, e] at h1
  exact un_inj (cut_inj h1)

theorem below_iff {a c : ByteArray} (ha : a.toList.isEmpty = false) : belowB a c = true ↔ ∃ t, un c = un a ++ 47 :: t := by
  rw [belowB_r a c ha]
  unfold Lib.hasPrefix
  rw [List.isPrefixOf_iff_prefix]
  constructor
  · rintro ⟨t, ht⟩; exact ⟨t, by rw [← ht]; simp⟩
  · rintro ⟨t, ht⟩; exact ⟨t, by rw [ht]; simp⟩
theorem below_pieces {a c : ByteArray} (ha : a.toList.isEmpty = false) (h : belowB a c = true) : ∃ t, t ≠ [] ∧ piecesB c = piecesB a ++ t := by
  obtain ⟨t, ht⟩ := (below_iff ha).1 h
  refine ⟨(cutL t).map bs, by simp [cutL_ne], ?_⟩
  unfold piecesB; rw [ht, cut_append]; simp
theorem pieces_below {a b : ByteArray} (ha : a.toList.isEmpty = false) {u : List ByteArray} (hu : u ≠ []) (h : piecesB b = piecesB a ++ u) : belowB a b = true := by
  rw [below_iff ha]
  have h1 : ((piecesB b).map un) = ((piecesB a).map un) ++ u.map un := by rw [h]; simp
  unfold piecesB at h1
  rw [List.map_map, List.map_map] at h1
  have e : ∀ l : List (List UInt8), l.map (un ∘ bs) = l := fun l => by
    induction l with
    | nil => rfl
    | cons x l ih => simp [un_bs, ih]
  rw [e, e] at h1
  have h2 := congrArg glue h1
  rw [glue_cut, glue_append _ _ (cutL_ne _) (by simpa using hu), glue_cut] at h2
  exact ⟨_, h2⟩

theorem order_range (a b : ByteArray) : -1 ≤ compareN a b ∧ compareN a b ≤ 1 := by rcases cp_range (piecesB a) (piecesB b) with h | h | h <;> (unfold compareN; omega)
theorem order_neg (a b : ByteArray) : compareN a b = - compareN b a := cp_neg _ _
theorem order_zero {a b : ByteArray} (h : compareN a b = 0) : a = b := pieces_inj (cp_zero _ _ h)
theorem order_self (a : ByteArray) : compareN a a = 0 := cp_self _
theorem order_trans {a b c : ByteArray} (h : compareN a b < 0) (k : compareN b c < 0) : compareN a c < 0 := by
  have h1 := order_range a b
  have h2 := order_range b c
  have := cp_trans (piecesB a) (piecesB b) (piecesB c) (show compareN a b = -1 by omega) (show compareN b c = -1 by omega)
  show compareP _ _ < 0; omega
theorem order_below {a c : ByteArray} (ha : a.toList.isEmpty = false) (h : belowB a c = true) : compareN a c = -1 := by
  obtain ⟨t, ht, e⟩ := below_pieces ha h
  have e2 := compareP_same (piecesB a) [] t
  rw [List.append_nil] at e2
  unfold compareN; rw [e, e2]
  cases t with
  | nil => exact absurd rfl ht
  | cons _ _ => rfl
theorem order_between {a b c : ByteArray} (ha : a.toList.isEmpty = false) (h : belowB a c = true) (h1 : compareN a b < 0) (h2 : compareN b c < 0) : belowB a b = true := by
  obtain ⟨t, _, e⟩ := below_pieces ha h
  have r1 := order_range a b
  have r2 := order_range b c
  have k1 : compareP (piecesB a) (piecesB b) = -1 := by show compareN a b = -1; omega
  have k2 : compareP (piecesB b) (piecesB a ++ t) = -1 := by rw [← e]; show compareN b c = -1; omega
  obtain ⟨u, hu, hb⟩ := cp_between _ _ _ k1 k2
  exact pieces_below ha hu hb
end Go.Proofs.YthkbhcefckbcnaaGreatDoor

namespace Go.Proofs.YthkbhcefckbcnaaGreatDoor
open Go

/-- An entry. -/
structure Ent where
  path : ByteArray
  kind : Int
  mode : Int
  data : ByteArray
  link : ByteArray
def ecs (e : Ent) : List Value := [.string e.path, .int .i64 e.kind, .int .i64 e.mode, .string e.data, .string e.link]
def ecells (es : List Ent) : List Value := es.flatMap ecs
theorem ecells_cons (e : Ent) (es : List Ent) : ecells (e :: es) = ecs e ++ ecells es := rfl
theorem ecells_length (es : List Ent) : (ecells es).length = es.length * 5 := by
  induction es with
  | nil => rfl
  | cons e es ih => rw [ecells_cons, List.length_append, ih]; simp [ecs]; omega
theorem ecells_append (a b : List Ent) : ecells (a ++ b) = ecells a ++ ecells b := by simp [ecells]
theorem ecells_get : ∀ (es : List Ent) (k : Nat) (e : Ent), es[k]? = some e → ∀ j v, (ecs e)[j]? = some v → (ecells es)[k * 5 + j]? = some v
  | [], k, e, h, _, _, _ => by simp at h
  | q :: es, 0, e, h, j, v, hj => by
    have hq : q = e := by simpa using h
    subst hq
    have hl : j < (ecs q).length := (List.getElem?_eq_some_iff.1 hj).1
    rw [ecells_cons, Nat.zero_mul, Nat.zero_add, List.getElem?_append_left hl]; exact hj
  | q :: es, k + 1, e, h, j, v, hj => by
    have ih := ecells_get es k e (by simpa using h) j v hj
    rw [ecells_cons, List.getElem?_append_right (by simp [ecs]; omega)]
    rw [← ih]; congr 1; simp [ecs]; omega

/-- Is one of the entries that aren't out below a path? -/
def anyB (ok : ByteArray → Bool) (es : List Ent) (dir : ByteArray) : Bool := es.any fun f => belowB dir f.path && ok f.path
def stayB (ok : ByteArray → Bool) (es : List Ent) (e : Ent) : Bool := ok e.path || anyB ok es e.path
/-- What stays. -/
def keepB (ok : ByteArray → Bool) (es : List Ent) : List Ent := es.filter (stayB ok es)

/- The program's way: the texts that aren't out in their order, and a search. -/
theorem pre_between : ∀ {f y x : List UInt8}, ¬ y < f → ¬ x < y → f <+: x → f <+: y
  | [], _, _, _, _, _ => List.nil_prefix
  | a :: f, [], _, h, _, _ => absurd (List.Lex.nil) h
  | a :: f, b :: y, x, h1, h2, hp => by
    obtain ⟨t, rfl⟩ := hp
    rw [List.cons_append] at h2
    rw [List.cons_lt_cons_iff] at h1 h2
    have hab : a = b := by
      have e1 : ¬ b < a := fun h => h1 (.inl h)
      have e2 : ¬ a < b := fun h => h2 (.inl h)
      have e1' : ¬ b.toNat < a.toNat := e1
      have e2' : ¬ a.toNat < b.toNat := e2
      exact UInt8.toNat_inj.1 (by omega)
    subst hab
    have := pre_between (fun h => h1 (.inr ⟨rfl, h⟩)) (fun h => h2 (.inr ⟨rfl, h⟩)) (List.prefix_append f t)
    exact (List.cons_prefix_cons).2 ⟨rfl, this⟩
theorem lt_not_pre : ∀ {f y : List UInt8}, y < f → ¬ f <+: y
  | [], y, h, _ => absurd h (List.not_lt_nil y)
  | a :: f, [], _, hp => by obtain ⟨t, ht⟩ := hp; simp at ht
  | a :: f, b :: y, h, hp => by
    obtain ⟨rfl, h2⟩ := (List.cons_prefix_cons).1 hp
    rw [List.cons_lt_cons_iff] at h
    rcases h with h | ⟨_, h⟩
    · exact absurd (show a.toNat < a.toNat from h) (by omega)
    · exact lt_not_pre h h2
theorem lt_le : ∀ {y f t : List UInt8}, y < f → ¬ t < f → y < t
  | y, [], t, h, _ => absurd h (List.not_lt_nil y)
  | [], b :: f, [], _, h2 => absurd List.Lex.nil h2
  | [], b :: f, c :: t, _, _ => List.Lex.nil
  | a :: y, b :: f, [], _, h2 => absurd List.Lex.nil h2
  | a :: y, b :: f, c :: t, h1, h2 => by
    rw [List.cons_lt_cons_iff] at h1 h2 ⊢
    have e2 : ¬ c.toNat < b.toNat := fun h => h2 (.inl h)
    rcases h1 with h1 | ⟨rfl, h1⟩
    · have e1 : a.toNat < b.toNat := h1
      exact .inl (show a.toNat < c.toNat by omega)
    · by_cases hac : a = c
      · subst hac
        exact .inr ⟨rfl, lt_le h1 (fun h => h2 (.inr ⟨rfl, h⟩))⟩
      · have e3 : a.toNat ≠ c.toNat := fun h => hac (UInt8.toNat_inj.1 h)
        exact .inl (show a.toNat < c.toNat by omega)
theorem search_any (f : List UInt8) : ∀ ts : List (List UInt8), ts.Pairwise (fun a b => ¬ b < a) → ((ts[ts.countP fun y => decide (y < f)]?).any fun y => f.isPrefixOf y) = ts.any fun y => f.isPrefixOf y
  | [], _ => rfl
  | t :: ts, h => by
    obtain ⟨h1, h2⟩ := List.pairwise_cons.1 h
    by_cases hl : t < f
    · have hd : decide (t < f) = true := decide_eq_true hl
      rw [List.countP_cons_of_pos (by simpa using hl), List.getElem?_cons_succ, search_any f ts h2, List.any_cons]
      have : f.isPrefixOf t = false := by
        rw [Bool.eq_false_iff]; intro hp; exact lt_not_pre hl (List.isPrefixOf_iff_prefix.1 hp)
      rw [this, Bool.false_or]
    · have hge : ∀ y ∈ ts, ¬ y < f := fun y hy hyf => by
        have := h1 y hy
        exact this (lt_le hyf hl)
      have hc : (t :: ts).countP (fun y => decide (y < f)) = 0 := by
        rw [List.countP_eq_zero]
        intro y hy
        rcases List.mem_cons.1 hy with rfl | hy
        · simpa using hl
        · simpa using hge y hy
      rw [hc, List.getElem?_cons_zero, Option.any_some, List.any_cons]
      cases hp : f.isPrefixOf t with
      | true => rfl
      | false =>
        rw [Bool.false_or]
        symm
        rw [List.any_eq_false]
        intro y hy hpy
        have := pre_between hl (h1 y hy) (List.isPrefixOf_iff_prefix.1 hpy)
        rw [← List.isPrefixOf_iff_prefix] at this
        rw [hp] at this; cases this
def firstB (dir : ByteArray) : ByteArray := if dir.toList.isEmpty then dir else dir ++ ⟨#[47]⟩
def lessN (dir : ByteArray) (row : List ByteArray) : Nat := row.countP fun y => decide (un y < un (firstB dir))
def anyS (dir : ByteArray) (row : List ByteArray) : Bool := (row[lessN dir row]?).any fun y => belowB dir y
theorem anyS_eq (dir : ByteArray) (row : List ByteArray) (hs : (row.map un).Pairwise (fun a b => ¬ b < a)) (h0 : dir.size = 0 → ∀ y ∈ row, y.size ≠ 0) : anyS dir row = row.any (belowB dir) := by
  unfold anyS lessN firstB
  cases he : dir.toList.isEmpty with
  | true =>
    have hz : dir.size = 0 := (isEmpty_iff _).1 he
    have hud : un dir = [] := by rw [← List.length_eq_zero_iff, un_length]; exact hz
    have hc : row.countP (fun y => decide (un y < un (if true = true then dir else dir ++ ⟨#[47]⟩))) = 0 := by
      rw [List.countP_eq_zero]; intro y _; simp [hud]
    rw [hc]
    have hb : ∀ y ∈ row, belowB dir y = true := fun y hy => by
      unfold belowB; rw [he, if_pos rfl]
      have := h0 hz y hy
      rw [(isEmpty_false y).2 (by omega)]; rfl
    cases row with
    | nil => rfl
    | cons y row => simp [hb y (by simp)]
  | false =>
    have hf : un (if false = true then dir else dir ++ ⟨#[47]⟩) = un dir ++ [47] := by
      rw [if_neg (by decide), un_append]; rfl
    rw [hf]
    have hb : ∀ y, belowB dir y = (un dir ++ [47]).isPrefixOf (un y) := fun y => by rw [belowB_r dir y he]; rfl
    have h := search_any (un dir ++ [47]) (row.map un) hs
    rw [List.countP_map, List.any_map, List.getElem?_map] at h
    have hb2 : belowB dir = fun y => (un dir ++ [47]).isPrefixOf (un y) := funext hb
    rw [hb2]
    rw [Option.any_map] at h
    exact h
/-- The texts that aren't out. -/
def inL (ok : ByteArray → Bool) (es : List Ent) : List ByteArray := (es.map Ent.path).filter ok
/-- They in their order. -/
def srtL (ok : ByteArray → Bool) (es : List Ent) : List ByteArray := (((inL ok es).map un).mergeSort fun x y => decide (x ≤ y)).map bs
theorem srt_un (l : List (List UInt8)) : (l.map bs).map un = l := by
  rw [List.map_map]; induction l with | nil => rfl | cons x l ih => simp [un_bs, ih]
theorem srt_pair (ok : ByteArray → Bool) (es : List Ent) : ((srtL ok es).map un).Pairwise (fun a b => ¬ b < a) := by
  unfold srtL
  rw [srt_un]
  have h := List.pairwise_mergeSort (le := fun x y : List UInt8 => decide (x ≤ y)) (fun a b c h1 h2 => decide_eq_true (List.le_trans (of_decide_eq_true h1) (of_decide_eq_true h2))) (fun a b => by
    rcases List.le_total a b with h | h
    · simp [h]
    · simp [h]) ((inL ok es).map un)
  exact h.imp fun {a b} hh => List.not_lt.2 (of_decide_eq_true hh)
theorem srt_mem (ok : ByteArray → Bool) (es : List Ent) (y : ByteArray) : y ∈ srtL ok es ↔ y ∈ inL ok es := by
  unfold srtL
  rw [List.mem_map]
  constructor
  · rintro ⟨x, hx, rfl⟩
    rw [List.mem_mergeSort, List.mem_map] at hx
    obtain ⟨z, hz, rfl⟩ := hx
    rw [bs_un]; exact hz
  · intro h
    exact ⟨un y, by rw [List.mem_mergeSort]; exact List.mem_map_of_mem h, bs_un y⟩
theorem srt_length (ok : ByteArray → Bool) (es : List Ent) : (srtL ok es).length = (inL ok es).length := by unfold srtL; simp
theorem in_mem (ok : ByteArray → Bool) (es : List Ent) (y : ByteArray) : y ∈ inL ok es ↔ ∃ f ∈ es, f.path = y ∧ ok y = true := by
  unfold inL; rw [List.mem_filter, List.mem_map]
  constructor
  · rintro ⟨⟨f, h1, rfl⟩, h2⟩; exact ⟨f, h1, rfl, h2⟩
  · rintro ⟨f, h1, rfl, h2⟩; exact ⟨⟨f, h1, rfl⟩, h2⟩
/-- The program's test is the document's. -/
theorem anyS_stay (ok : ByteArray → Bool) (es : List Ent) (dir : ByteArray) (hd : ok dir = false) : anyS dir (srtL ok es) = anyB ok es dir := by
  rw [anyS_eq dir _ (srt_pair ok es) (fun hz y hy hy0 => by
    obtain ⟨f, _, _, h⟩ := (in_mem ok es y).1 ((srt_mem ok es y).1 hy)
    have e : y = dir := un_inj (by
      have h1 : un y = [] := by rw [← List.length_eq_zero_iff, un_length]; exact hy0
      have h2 : un dir = [] := by rw [← List.length_eq_zero_iff, un_length]; exact hz
      rw [h1, h2])
    rw [e, hd] at h; cases h)]
  rw [Bool.eq_iff_iff, List.any_eq_true]
  unfold anyB
  rw [List.any_eq_true]
  constructor
  · rintro ⟨y, hy, hb⟩
    obtain ⟨f, h1, h2, h3⟩ := (in_mem ok es y).1 ((srt_mem ok es y).1 hy)
    exact ⟨f, h1, by rw [h2, hb, h3]; rfl⟩
  · rintro ⟨f, h1, h2⟩
    rw [Bool.and_eq_true] at h2
    exact ⟨f.path, (srt_mem ok es _).2 ((in_mem ok es _).2 ⟨f, h1, rfl, h2.2⟩), h2.1⟩
def keepS (ok : ByteArray → Bool) (es : List Ent) (e : Ent) : Bool := ok e.path || anyS e.path (srtL ok es)
theorem keepS_eq (ok : ByteArray → Bool) (es : List Ent) (e : Ent) : keepS ok es e = stayB ok es e := by
  unfold keepS stayB
  cases h : ok e.path with
  | true => rfl
  | false => rw [anyS_stay ok es _ h]

/- What stays stays once more. -/
theorem keep_again (ok : ByteArray → Bool) (es : List Ent) : keepB ok (keepB ok es) = keepB ok es := by
  unfold keepB
  rw [List.filter_eq_self]
  intro e he
  have h2 := (List.mem_filter.1 he).2
  unfold stayB at h2 ⊢
  rw [Bool.or_eq_true] at h2 ⊢
  rcases h2 with h | h
  · exact .inl h
  · right
    unfold anyB at h
    rw [List.any_eq_true] at h
    obtain ⟨f, hf, hb⟩ := h
    have hb2 := hb
    rw [Bool.and_eq_true] at hb2
    exact List.any_eq_true.2 ⟨f, List.mem_filter.2 ⟨hf, by rw [hb2.2]; rfl⟩, hb⟩
theorem filter_at (p : Ent → Bool) : ∀ (es : List Ent) (i : Nat) (e : Ent), es[i]? = some e → p e = true → (es.filter p)[((es.take i).filter p).length]? = some e
  | [], i, e, h, _ => by simp at h
  | q :: es, 0, e, h, hp => by
    have hq : q = e := by simpa using h
    subst hq
    simp [hp]
  | q :: es, i + 1, e, h, hp => by
    have ih := filter_at p es i e (by simpa using h) hp
    rw [List.take_succ_cons, List.filter_cons, List.filter_cons]
    cases p q with
    | true => simpa using ih
    | false => simpa using ih
theorem filter_take_succ (p : Ent → Bool) (es : List Ent) (i : Nat) (e : Ent) (h : es[i]? = some e) : ((es.take (i + 1)).filter p).length = ((es.take i).filter p).length + (if p e then 1 else 0) := by
  rw [List.take_add_one, h, List.filter_append, List.length_append]
  cases hp : p e <;> simp [hp]

/- Entries that rise, each behind its directory. -/
def parOK (l : List Ent) (e : Ent) : Prop := (parentB e.path).size = 0 ∨ ∃ f ∈ l, f.path = parentB e.path ∧ f.kind = 1
def ahead1 (l : List Ent) (e : Ent) : Prop := ∀ d, l.getLast? = some d → compareN d.path e.path < 0
def Rises (es : List Ent) : Prop := es.Pairwise (fun a b => compareN a.path b.path < 0) ∧ ∀ pre e post, es = pre ++ e :: post → parOK pre e
theorem rises_nil : Rises [] := ⟨List.Pairwise.nil, fun pre e post h => by simp at h⟩
theorem rises_pre {a b : List Ent} (h : Rises (a ++ b)) : Rises a := ⟨(List.pairwise_append.1 h.1).1, fun pre e post he => h.2 pre e (post ++ b) (by rw [he]; simp)⟩
theorem rises_snoc {l : List Ent} {e : Ent} (h : Rises l) (h1 : ahead1 l e) (h2 : parOK l e) : Rises (l ++ [e]) := by
  refine ⟨List.pairwise_append.2 ⟨h.1, List.pairwise_singleton _ _, fun a ha b hb => ?_⟩, fun pre x post he => ?_⟩
  · obtain rfl : b = e := by simpa using hb
    rcases List.eq_nil_or_concat l with rfl | ⟨l', d, rfl⟩
    · cases ha
    · have hd := h1 d (by simp)
      rw [List.concat_eq_append, List.mem_append] at ha
      rcases ha with ha | ha
      · have := (List.pairwise_append.1 (by rw [← List.concat_eq_append]; exact h.1)).2.2 a ha d (by simp)
        exact order_trans this hd
      · obtain rfl : a = d := by simpa using ha
        exact hd
  · rcases List.eq_nil_or_concat post with rfl | ⟨p', d, rfl⟩
    · have := List.append_inj' he (by simp)
      obtain ⟨rfl, h3⟩ := this
      have h4 : x = e := by simpa using h3.symm
      rw [h4]; exact h2
    · rw [List.concat_eq_append] at he
      have e2 : l ++ [e] = (pre ++ x :: p') ++ [d] := by rw [he]; simp
      have := List.append_inj' e2 (by simp)
      exact h.2 pre x p' this.1
theorem rises_last {l : List Ent} {e : Ent} (h : Rises (l ++ [e])) : ahead1 l e ∧ parOK l e := by
  refine ⟨fun d hd => ?_, h.2 l e [] rfl⟩
  exact (List.pairwise_append.1 h.1).2.2 d (List.mem_of_getLast? hd) e (by simp)

theorem parent_below {p : ByteArray} (h : (parentB p).size ≠ 0) : belowB (parentB p) p = true := by
  have hne : (parentB p).toList.isEmpty = false := (isEmpty_false _).2 (by omega)
  rw [below_iff hne]
  unfold parentB at h ⊢
  by_cases hl : Lib.lastIndexByte p 47 < 0
  · rw [if_pos hl] at h; exact absurd rfl h
  · rw [if_neg hl]
    rcases Lib.lastIdx_spec p 47 p.size with ⟨h2, hn⟩ | ⟨i, hi, h2, hc, hn⟩
    · have e : Lib.lastIndexByte p 47 = -1 := h2
      omega
    · have e : Lib.lastIndexByte p 47 = i := h2
      rw [e, un_extract]
      have hc2 : p.data[i]! = p[i] := getElem!_pos p.data i hi
      rw [hc2] at hc
      have hget : (un p)[i]? = some 47 := by rw [un_getElem? p i hi]; congr 1; exact UInt8.toNat_inj.1 (by show p[i].toNat = 47; omega)
      have hlt : i < (un p).length := by rw [un_length]; exact hi
      have hdrop : (un p).drop i = 47 :: (un p).drop (i + 1) := by
        rw [List.drop_eq_getElem_cons hlt]
        rw [List.getElem?_eq_getElem hlt] at hget
        rw [Option.some.inj hget]
      refine ⟨(un p).drop (i + 1), ?_⟩
      rw [← hdrop]
      simp
theorem below_trans {a b c : ByteArray} (ha : a.size ≠ 0) (h1 : belowB a b = true) (h2 : belowB b c = true) : belowB a c = true := by
  have hae : a.toList.isEmpty = false := (isEmpty_false _).2 (by omega)
  obtain ⟨t, ht⟩ := (below_iff hae).1 h1
  have hbe : b.toList.isEmpty = false := (isEmpty_false _).2 (by rw [← un_length, ht]; simp; omega)
  obtain ⟨u, hu⟩ := (below_iff hbe).1 h2
  exact (below_iff hae).2 ⟨t ++ 47 :: u, by rw [hu, ht]; simp⟩
theorem split_filter (p : Ent → Bool) : ∀ (es pre : List Ent) (e : Ent) (post : List Ent), es.filter p = pre ++ e :: post → ∃ a b, es = a ++ e :: b ∧ a.filter p = pre ∧ p e = true
  | [], pre, e, post, h => by simp at h
  | q :: es, pre, e, post, h => by
    rw [List.filter_cons] at h
    by_cases hq : p q = true
    · rw [if_pos hq] at h
      cases pre with
      | nil =>
        simp at h
        obtain ⟨rfl, _⟩ := h
        exact ⟨[], es, rfl, rfl, hq⟩
      | cons x pre =>
        simp at h
        obtain ⟨rfl, h⟩ := h
        obtain ⟨a, b, h1, h2, h3⟩ := split_filter p es pre e post h
        exact ⟨q :: a, b, by rw [h1]; rfl, by rw [List.filter_cons, if_pos hq, h2], h3⟩
    · rw [if_neg hq] at h
      obtain ⟨a, b, h1, h2, h3⟩ := split_filter p es pre e post h
      exact ⟨q :: a, b, by rw [h1]; rfl, by rw [List.filter_cons, if_neg hq, h2], h3⟩
theorem keep_rises (ok : ByteArray → Bool) (es : List Ent) (h : Rises es) : Rises (keepB ok es) := by
  refine ⟨h.1.sublist List.filter_sublist, fun pre e post he => ?_⟩
  obtain ⟨a, b, h1, h2, h3⟩ := split_filter _ es pre e post he
  rcases h.2 a e b h1 with h4 | ⟨f, hf, h5, h6⟩
  · exact .inl h4
  · by_cases hz : (parentB e.path).size = 0
    · exact .inl hz
    · right
      refine ⟨f, ?_, h5, h6⟩
      rw [← h2, List.mem_filter]
      refine ⟨hf, ?_⟩
      have hb := parent_below hz
      unfold stayB at h3 ⊢
      rw [Bool.or_eq_true] at h3 ⊢
      right
      unfold anyB
      rw [List.any_eq_true]
      rcases h3 with h3 | h3
      · exact ⟨e, by rw [h1]; simp, by rw [h5, hb, h3]; rfl⟩
      · unfold anyB at h3
        rw [List.any_eq_true] at h3
        obtain ⟨g, hg, hgb⟩ := h3
        rw [Bool.and_eq_true] at hgb
        exact ⟨g, hg, by rw [h5, below_trans hz hb hgb.1, hgb.2]; rfl⟩
end Go.Proofs.YthkbhcefckbcnaaGreatDoor

namespace Go.Proofs.YthkbhcefckbcnaaGreatDoor
open Go Go.RowKit

theorem info_ent : (Tryz.prog.info? 38).map (fun i => (i.zero, i.size, i.bytes)) = some (some (.agg #[.string ⟨#[]⟩, .int .i64 0, .int .i64 0, .string ⟨#[]⟩, .string ⟨#[]⟩]), 5, 64) := by kernel_rfl
/-- An entry's cells, from a place on. -/
structure EntC (W : World) (b q : Nat) (e : Ent) : Prop where
  c0 : W.cell? ⟨b, q, none⟩ = some (.string e.path)
  c1 : W.cell? ⟨b, q + 1, none⟩ = some (.int .i64 e.kind)
  c2 : W.cell? ⟨b, q + 2, none⟩ = some (.int .i64 e.mode)
  c3 : W.cell? ⟨b, q + 3, none⟩ = some (.string e.data)
  c4 : W.cell? ⟨b, q + 4, none⟩ = some (.string e.link)
theorem EntC.below {W W2 : World} {b q : Nat} {e : Ent} (h : EntC W b q e) (hb : Below W.heap.size W W2) : EntC W2 b q e := by
  have hl := World.block_lt_of_cell? W _ h.c0
  exact ⟨(hb.cell (p := ⟨b, q, none⟩) hl).trans h.c0, (hb.cell (p := ⟨b, q + 1, none⟩) hl).trans h.c1, (hb.cell (p := ⟨b, q + 2, none⟩) hl).trans h.c2, (hb.cell (p := ⟨b, q + 3, none⟩) hl).trans h.c3, (hb.cell (p := ⟨b, q + 4, none⟩) hl).trans h.c4⟩
/-- A list of entries. -/
def EntsAt (W : World) (v : Value) (es : List Ent) : Prop :=
  ∃ (a : Option Addr) (cap b o : Nat), v = .slice a es.length cap ∧ (es ≠ [] → a = some ⟨b, o, none⟩) ∧ es.length ≤ cap ∧ ∀ i e, es[i]? = some e → EntC W b (o + i * 5) e
theorem EntsAt.below {W W2 : World} {v : Value} {es : List Ent} (h : EntsAt W v es) (hb : Below W.heap.size W W2) : EntsAt W2 v es := by
  obtain ⟨a, cap, b, o, h1, h2, h3, h4⟩ := h
  exact ⟨a, cap, b, o, h1, h2, h3, fun i e he => (h4 i e he).below hb⟩
theorem ents_of_owns {W : World} {base : Nat} {v : Value} {es : List Ent} (h : W.ownsRow base 38 5 v es.length (ecells es)) : EntsAt W v es := by
  rcases h.2 with ⟨rfl, h0⟩ | ⟨g, cap, cur, rfl, hg, hgb, hcap, _⟩
  · have : es = [] := List.eq_nil_of_length_eq_zero h0
    subst this
    exact ⟨none, 0, 0, 0, rfl, fun h => absurd rfl h, Nat.le_refl _, fun i e he => by simp at he⟩
  · refine ⟨some ⟨g, 0, none⟩, cap, g, 0, rfl, fun _ => rfl, hcap, fun i e he => ?_⟩
    have hi := (List.getElem?_eq_some_iff.1 he).1
    have hc : ∀ j v, (ecs e)[j]? = some v → W.cell? ⟨g, 0 + i * 5 + j, none⟩ = some v := fun j v hj => by
      have hj2 : j < 5 := (List.getElem?_eq_some_iff.1 hj).1
      rw [Nat.zero_add, h.cellAt (i * 5 + j) (by omega)]
      exact ecells_get es i e he j v hj
    exact ⟨hc 0 _ rfl, hc 1 _ rfl, hc 2 _ rfl, hc 3 _ rfl, hc 4 _ rfl⟩
theorem ents_take {W : World} {a : Option Addr} {cap b o : Nat} {es : List Ent} (h2 : es ≠ [] → a = some ⟨b, o, none⟩) (h3 : es.length ≤ cap) (h4 : ∀ i e, es[i]? = some e → EntC W b (o + i * 5) e) (n : Nat) (hn : n ≤ es.length) : EntsAt W (.slice a n cap) (es.take n) := by
  have hl : (es.take n).length = n := by rw [List.length_take]; omega
  refine ⟨a, cap, b, o, by rw [hl], fun h => h2 (fun e => h (by rw [e]; simp)), by omega, fun i e he => ?_⟩
  have : i < n := by have := (List.getElem?_eq_some_iff.1 he).1; omega
  rw [List.getElem?_take_of_lt this] at he
  exact h4 i e he

theorem eqF_cons {P : Program} {w : World} (d : Nat) (f : Field) (fs : List Field) (xs ys : Array Value) (a b : Value) (r R : Bool) (hn : f.name ≠ "_") (ha : (part f.type xs f.offset).run P w = .ok a w) (hb : (part f.type ys f.offset).run P w = .ok b w)
    (hr : (Op.equalIn d f.type a b).run P w = .ok r w) (hR : (Op.eqFields d xs ys fs).run P w = .ok R w) : (Op.eqFields d xs ys (f :: fs)).run P w = .ok (r && R) w := by
  simp only [Op.eqFields, if_pos hn, Sem.run_bind, ha, hb, hr, Result.andThen_ok]
  cases r with
  | false => simp
  | true => simpa using hR
theorem eqF_nil {P : Program} {w : World} (d : Nat) (xs ys : Array Value) : (Op.eqFields d xs ys []).run P w = .ok true w := rfl
def eva (e : Ent) : Array Value := #[.string e.path, .int .i64 e.kind, .int .i64 e.mode, .string e.data, .string e.link]
def eqE (a b : Ent) : Bool := (a.path.toList == b.path.toList) && ((a.kind == b.kind) && ((a.mode == b.mode) && ((a.data.toList == b.data.toList) && ((a.link.toList == b.link.toList) && true))))
theorem eqE_self (a : Ent) : eqE a a = true := by unfold eqE; simp
set_option maxRecDepth 100000 in
theorem eq_ent (a b : Ent) (w : World) : (Op.equalIn 10000 38 (.agg (eva a)) (.agg (eva b))).run Tryz.prog w = .ok (eqE a b) w := by
  rw [run_equalIn_struct w 9999 38 (eva a) (eva b) (by kernel_rfl) (by kernel_rfl)]
  have hs : ∀ x y : ByteArray, (Op.equalIn 9999 9 (.string x) (.string y)).run Tryz.prog w = .ok (x.toList == y.toList) w := fun x y => run_equalIn_string w 9998 _ x y Tryz.underlying9
  have hi : ∀ x y : Int, (Op.equalIn 9999 3 (.int .i64 x) (.int .i64 y)).run Tryz.prog w = .ok (x == y) w := fun x y => run_equalIn_int w 9998 _ .i64 .i64 _ _ Tryz.underlying3
  have hk : ∀ x y : Int, (Op.equalIn 9999 36 (.int .i64 x) (.int .i64 y)).run Tryz.prog w = .ok (x == y) w := fun x y => run_equalIn_int w 9998 _ .i64 .i64 _ _ Tryz.underlying36
  have pt : ∀ (h : Ent) (k : Nat) (v : Value) (t : TypeId), (isAgg t).run Tryz.prog w = .ok false w → (eva h)[k]? = some v → (part t (eva h) k).run Tryz.prog w = .ok v w := fun h k v t ht hv => by simp [part, ht, hv]
  have aS := Tryz.isAgg9 w
  have ai := Tryz.isAgg3 w
  have ak := Tryz.isAgg36 w
  unfold eqE
  rw [show (Tryz.prog.fieldsOf 38) = _ from by unfold Program.fieldsOf; rw [Tryz.underlying38]]
  exact eqF_cons 9999 _ _ _ _ _ _ _ _ (by decide) (pt a 0 _ _ aS rfl) (pt b 0 _ _ aS rfl) (hs _ _) (eqF_cons 9999 _ _ _ _ _ _ _ _ (by decide) (pt a 1 _ _ ak rfl) (pt b 1 _ _ ak rfl) (hk _ _) (eqF_cons 9999 _ _ _ _ _ _ _ _ (by decide) (pt a 2 _ _ ai rfl) (pt b 2 _ _ ai rfl) (hi _ _) (eqF_cons 9999 _ _ _ _ _ _ _ _ (by decide) (pt a 3 _ _ aS rfl) (pt b 3 _ _ aS rfl) (hs _ _) (eqF_cons 9999 _ _ _ _ _ _ _ _ (by decide) (pt a 4 _ _ aS rfl) (pt b 4 _ _ aS rfl) (hs _ _) (eqF_nil _ _ _)))))
theorem eq_self (a : Ent) (w : World) : (Op.equalIn 10000 38 (.agg #[.string a.path, .int .i64 a.kind, .int .i64 a.mode, .string a.data, .string a.link]) (.agg #[.string a.path, .int .i64 a.kind, .int .i64 a.mode, .string a.data, .string a.link])).run Tryz.prog w = .ok true w := by
  have := eq_ent a a w
  rw [eqE_self] at this; exact this
theorem ent_new (W : World) (t : TypeId) (e : Ent) : EntC (W.alloc (.cells #[.string e.path, .int .i64 e.kind, .int .i64 e.mode, .string e.data, .string e.link] t)) W.heap.size 0 e := by
  have h : ∀ (j : Nat) (v : Value), (#[.string e.path, .int .i64 e.kind, .int .i64 e.mode, .string e.data, .string e.link] : Array Value)[j]? = some v → (W.alloc (.cells #[.string e.path, .int .i64 e.kind, .int .i64 e.mode, .string e.data, .string e.link] t)).cell? ⟨W.heap.size, j, none⟩ = some v := fun j v hv => by
    unfold World.cell?
    rw [World.alloc_heap_new]
    exact hv
  exact ⟨h 0 _ rfl, h 1 _ rfl, h 2 _ rfl, h 3 _ rfl, h 4 _ rfl⟩
theorem ent_cells {W : World} {b : Nat} {e : Ent} (h : EntC W b 0 e) : ∀ j u, (ecs e)[j]? = some u → W.cell? ((⟨b, 0, none⟩ : Addr).add j) = some u := by
  intro j u hj
  rw [Addr.add_mid, Nat.zero_add]
  rcases j with _ | _ | _ | _ | _ | j
  · cases hj; exact h.c0
  · cases hj; exact h.c1
  · cases hj; exact h.c2
  · cases hj; exact h.c3
  · cases hj; exact h.c4
  · simp [ecs] at hj
theorem ent_one (e : Ent) : ∀ u ∈ ecs e, u.oneCell' = true := by
  intro u hu
  simp [ecs] at hu
  rcases hu with rfl | rfl | rfl | rfl | rfl <;> rfl

set_option maxRecDepth 100000 in
set_option maxHeartbeats 2000000 in
theorem copy_p (v : Value) (es : List Ent) (w : World) (hv : EntsAt w v es) (hl : es.length ≤ 1073741824) : Calls Tryz.prog 15 #[v] w fun e w' => ∃ u, e = .returned u ∧ w'.ownsRow w.heap.size 38 5 u es.length (ecells es) ∧ Below w.heap.size w w' := by
  obtain ⟨i0, hi, hz0, hz1, hz2⟩ := info_parts info_ent
  obtain ⟨a, cap, b, o, rfl, ha, hcap, hc⟩ := hv
  go_enter Tryz.func15, Tryz.ntmps15
  go_wp2
  go_loopw [3, 4] (fun v i wr => ∃ k : Nat, i = .int .i64 k ∧ k ≤ es.length ∧ wr.ownsRow w.heap.size 38 5 v (es.take k).length (ecells (es.take k)) ∧ Below w.heap.size w wr) (fun _ i _ => es.length - (intOf i).toNat)
  case atStart => exact ⟨0, rfl, Nat.zero_le _, World.ownsRow_nil _ _ _ _, Below.refl _ _⟩
  case round =>
    obtain ⟨k, rfl, hk, hown, hB⟩ := hrel
    have hsz := hB.size
    by_cases hlt : k < es.length
    · have hlt' : (k : Int) < (es.length : Int) := by omega
      have hk0 : (0 : Int) ≤ (k : Int) := by omega
      obtain ⟨x, hx⟩ : ∃ x, es[k]? = some x := ⟨_, List.getElem?_eq_getElem hlt⟩
      obtain rfl := ha (fun e => by rw [e] at hlt; simp at hlt)
      obtain ⟨c0, c1, c2, c3, c4⟩ := (hc k x hx).below hB
      have hlk : (es.take k).length ≤ es.length := by rw [List.length_take]; omega
      have HX : Hid (es.take (k + 1) = es.take k ++ [x]) := by unfold Hid; rw [List.take_add_one, hx]; rfl
      clear hx hc ha
      go_wp2_with (at_builtin; refine wpList_append_own _ rfl _ _ 22 rfl w.heap.size 38 i0 (.agg #[.string ⟨#[]⟩, .int .i64 0, .int .i64 0, .string ⟨#[]⟩, .string ⟨#[]⟩]) 5 64 Tryz.underlying22 hi hz0 hz1 hz2 rfl (by decide) _ _ _ rfl (hown.alloc _) ⟨wr.heap.size, 0, none⟩ 1 1 (ecs x) rfl rfl (ent_cells (ent_new wr _ x)) (ent_one x) (by unfold maxLen; omega) (by omega) (by simp; omega) ?_; intro v1 w1 hown1 hgrow1 _)
      have hb1 : Below w.heap.size w w1 := (hB.alloc hsz _).grown hgrow1 (by simp; omega) (fun j hj => (own_ge hown j hj.symm).1)
      have hown2 : w1.ownsRow w.heap.size 38 5 v1 (es.take (k + 1)).length (ecells (es.take (k + 1))) := by
        rw [HX.out, ecells_append, List.length_append]; simpa [ecells] using hown1
      clear hown1 hgrow1 hown
      go_roundw
      case rel => exact ⟨k + 1, by go_num, by omega, hown2, hb1⟩
      case measure => simp [intOf]; omega
    · have hge : ¬ (k : Int) < (es.length : Int) := by omega
      have hall : es.take k = es := List.take_of_length_le (by omega)
      rw [hall] at hown
      go_wp2
      go_ret
      exact ⟨_, rfl, hown, hB⟩

set_option maxRecDepth 100000 in
set_option maxHeartbeats 2000000 in
theorem same_p (u v : Value) (es : List Ent) (w : World) (hu : EntsAt w u es) (hv : EntsAt w v es) (hl : es.length ≤ 1073741824) : Calls Tryz.prog 13 #[u, v] w fun e w' => e = .returned (.bool true) ∧ Below w.heap.size w w' := by
  obtain ⟨a, cap, b, o, rfl, ha, hcap, hc⟩ := hu
  obtain ⟨a2, cap2, b2, o2, rfl, ha2, hcap2, hc2⟩ := hv
  go_enter Tryz.func13, Tryz.ntmps13
  go_wp2
  go_loopw [5] (fun i wr => ∃ k q : Nat, i = .int .i64 k ∧ k ≤ es.length ∧ wr = w.drewN q) (fun i _ => es.length - (intOf i).toNat)
  case atStart => exact ⟨0, 0, rfl, Nat.zero_le _, rfl⟩
  case round =>
    obtain ⟨k, q, rfl, hk, rfl⟩ := hrel
    by_cases hlt : k < es.length
    · have hlt' : (k : Int) < (es.length : Int) := by omega
      have hk0 : (0 : Int) ≤ (k : Int) := by omega
      obtain ⟨x, hx⟩ : ∃ x, es[k]? = some x := ⟨_, List.getElem?_eq_getElem hlt⟩
      obtain rfl := ha (fun e => by rw [e] at hlt; simp at hlt)
      obtain rfl := ha2 (fun e => by rw [e] at hlt; simp at hlt)
      obtain ⟨c0, c1, c2, c3, c4⟩ := hc k x hx
      obtain ⟨d0, d1, d2, d3, d4⟩ := hc2 k x hx
      have heq := fun W => eq_self x W
      clear hx hc ha hc2 ha2
      go_wp2
      go_quiet (fail)
      go_wp2
      go_roundw
      case rel => exact ⟨k + 1, _, by go_num, by omega, rfl⟩
      case measure => simp [intOf]; omega
    · have hge : ¬ (k : Int) < (es.length : Int) := by omega
      go_wp2
      go_ret
      exact ⟨rfl, ⟨rfl, rfl, rfl, Nat.le_refl _, fun _ _ => rfl⟩⟩
end Go.Proofs.YthkbhcefckbcnaaGreatDoor

namespace Go.Proofs.YthkbhcefckbcnaaGreatDoor
open Go.RowKit

theorem below_p (a b : ByteArray) (w : World) : Calls Tryz.prog 65 #[.string a, .string b] w fun e w' => e = .returned (.bool (belowB a b)) ∧ w' = w := by
  cases h1 : a.toList.isEmpty
  · cases h2 : Lib.hasPrefix (un b) (un a)
    all_goals
      have H2 : Hid _ := h2
      clear h2
      go_enter Tryz.func65, Tryz.ntmps65
      go_wp2_with (first | (go_at_call 57; refine (Tryz.strings_CutPrefix _ _ _).mono ?_; rintro e w2 ⟨rfl, rfl⟩; rw [show Lib.hasPrefix b.data.toList a.data.toList = _ from H2.out]) | (go_at_call 103; refine (Tryz.strings_HasPrefix _ _ _).mono ?_; rintro e w2 ⟨rfl, rfl⟩))
      go_ret
      exact ⟨by simp [belowB, h1, H2.out]; try rfl, rfl⟩
  · go_enter Tryz.func65, Tryz.ntmps65
    go_wp2
    go_ret
    exact ⟨by simp [belowB, h1]; try rfl, rfl⟩
end Go.Proofs.YthkbhcefckbcnaaGreatDoor

namespace Go.Proofs.YthkbhcefckbcnaaGreatDoor
open Go Go.RowKit Go.Sort

theorem strs_enc (l : List (List UInt8)) : strs (l.map bs) = l.map encStr := by unfold strs; rw [List.map_map]; rfl
theorem strs_un (xs : List ByteArray) : strs xs = (xs.map un).map encStr := by
  unfold strs; rw [List.map_map]
  apply List.map_congr_left
  intro x _
  show Value.string x = Value.string (bs (un x))
  rw [bs_un]
def sortT (xs : List ByteArray) : List ByteArray := ((xs.map un).mergeSort fun x y => decide (x ≤ y)).map bs
theorem srtL_sortT (ok : ByteArray → Bool) (es : List Ent) : srtL ok es = sortT (inL ok es) := rfl
theorem sortT_length (xs : List ByteArray) : (sortT xs).length = xs.length := by unfold sortT; simp
theorem sort_own {W : World} {base : Nat} {v : Value} {xs : List ByteArray} (h : W.ownsRow base 9 1 v xs.length (strs xs)) (hl : xs.length ≤ 1099511627776) : Calls Tryz.prog 34 #[v] W fun e w' => e = .returned (.tuple #[]) ∧ w'.ownsRow base 9 1 v xs.length (strs (sortT xs)) ∧ W.grownBy w' v.ownBlock := by
  have h' := h
  rcases h.2 with ⟨rfl, h0⟩ | ⟨g, cap, cur, rfl, hg, hgb, h1, h2, h3, h4⟩
  · have hx : xs = [] := List.eq_nil_of_length_eq_zero h0
    subst hx
    refine (Tryz.sort_Strings_none none 0 W).mono ?_
    rintro e w' ⟨rfl, hw⟩
    have hgr : W.grownBy w' none := by
      first
        | (subst hw; exact World.grownBy_refl _ _)
        | (obtain ⟨n, rfl⟩ := hw; exact ⟨rfl, rfl, rfl, Nat.le_refl _, fun _ _ _ => rfl⟩)
        | exact hw
    refine ⟨rfl, ?_, hgr⟩
    have e0 : sortT [] = [] := by simp [sortT]
    rw [e0]
    exact World.ownsRow_nil _ _ _ _
  · have hH : Holds encStr W g 0 (xs.map un).toArray := holds_of_block hgb (by rw [List.length_map, ← strs_un]; simpa using h4)
    have hb : g < W.heap.size := (Array.getElem?_eq_some_iff.1 hgb).1
    have hc := Tryz.sort_Strings g 0 cap (xs.map un) W hH hb (by rw [List.length_map]; omega)
    rw [List.length_map] at hc
    refine hc.mono ?_
    rintro e w' ⟨rfl, n, os, rfl⟩
    refine ⟨rfl, ?_, ?_⟩
    · have := ownsRow_sorted (w := W) (base := base) (g := g) (cap := cap) (n := n) (e := 9) (os := os) (cur := cur) (ss := xs.map un) (ts := (xs.map un).mergeSort fun x y => decide (x ≤ y)) (by simp) hg hgb (by simpa using h1) h2 h3
      rw [List.length_map] at this
      unfold sortT
      rw [strs_enc]
      exact this
    · exact grownBy_sorted _
theorem row_get {W : World} {base g cap : Nat} {row : List ByteArray} (h : W.ownsRow base 9 1 (.slice (some ⟨g, 0, none⟩) row.length cap) row.length (strs row)) (i : Nat) (y : ByteArray) (hy : row[i]? = some y) : W.cell? ⟨g, i, none⟩ = some (.string y) := row_cell h i _ (by simp [strs, hy])
theorem search_p {W : World} {base : Nat} {v : Value} (row : List ByteArray) (x : ByteArray) (h : W.ownsRow base 9 1 v row.length (strs row)) (hs : (row.map un).Pairwise (fun a b => ¬ b < a)) (hl : row.length ≤ 1099511627776) : Calls Tryz.prog 64 #[v, .string x] W fun e w' => e = .returned (.int .i64 (row.countP (fun y => decide (un y < un x)) : Nat)) ∧ Below W.heap.size W w' := by
  rcases h.2 with ⟨rfl, h0⟩ | ⟨g, cap, cur, rfl, hg, hgb, h1, h2, h3, h4⟩
  · have hx : row = [] := List.eq_nil_of_length_eq_zero h0
    subst hx
    exact Tryz.sort_SearchStrings_none none 0 x W
  · have hc := Tryz.sort_SearchStrings g 0 cap row.toArray x W (fun i hi => by
      have hi2 : i < row.length := by simpa using hi
      rw [Nat.zero_add, getElem!_pos row.toArray i hi]
      exact row_get h i _ (by simp [hi2])) (Array.getElem?_eq_some_iff.1 hgb).1 (by simp; omega) (fun a b hab hb => by
      have hb2 : b < row.length := by simpa using hb
      have ha2 : a < row.toArray.size := by simp; omega
      rw [getElem!_pos row.toArray a ha2, getElem!_pos row.toArray b hb]
      intro hna
      have hna2 : ¬ un row[a] < un x := of_decide_eq_false (by rw [Bool.not_eq_true'] at hna; exact hna)
      have hnb : ¬ un row[b] < un x := fun hlt => by
        by_cases e : a = b
        · subst e; exact hna2 hlt
        · have hp := List.pairwise_iff_getElem.1 hs a b (by simp; omega) (by simp; omega) (by omega)
          simp at hp
          exact hna2 (by
            by_cases h5 : un row[a] < un x
            · exact h5
            · exact absurd (lt_le hlt h5) (by simpa using hp))
      rw [Bool.not_eq_true']; exact decide_eq_false hnb)
    have e : row.toArray.toList.countP (fun y => !!decide (y.data.toList < x.data.toList)) = row.countP (fun y => decide (un y < un x)) := by
      simp only [Bool.not_not]; rfl
    rw [e] at hc
    simpa using hc

set_option maxRecDepth 100000 in
set_option maxHeartbeats 2000000 in
theorem any_p {W : World} {base : Nat} {v : Value} (dir : ByteArray) (row : List ByteArray) (h : W.ownsRow base 9 1 v row.length (strs row)) (hs : (row.map un).Pairwise (fun a b => ¬ b < a)) (hl : row.length ≤ 1099511627776) (hd : dir.size ≤ 1099511627776) : Calls Tryz.prog 35 #[.string dir, v] W fun e w' => e = .returned (.bool (anyS dir row)) ∧ Below W.heap.size W w' := by
  have hS := search_p row (firstB dir) h hs hl
  have hle : row.countP (fun y => decide (un y < un (firstB dir))) ≤ row.length := List.countP_le_length
  have hany : anyS dir row = (row[lessN dir row]?).any fun y => belowB dir y := rfl
  have hln : row.countP (fun y => decide (un y < un (firstB dir))) = lessN dir row := rfl
  rw [hln] at hS hle
  obtain ⟨a, cap, rfl⟩ : ∃ o c, v = .slice o row.length c := by
    rcases h.2 with ⟨h, h0⟩ | ⟨g, cap', cur, h, _⟩
    · exact ⟨none, 0, by rw [h, h0]⟩
    · exact ⟨_, _, h⟩
  have HC : Hid (∀ i y W2, row[i]? = some y → Below W.heap.size W W2 → ∃ g, a = some ⟨g, 0, none⟩ ∧ W2.cell? ⟨g, i, none⟩ = some (.string y)) := fun i y W2 hy b => by
    rcases h.2 with ⟨_, h0⟩ | ⟨g, cap', cur, h5, _⟩
    · have := (List.getElem?_eq_some_iff.1 hy).1; omega
    · injection h5 with h6 h7 h8
      subst h6; subst h8
      exact ⟨g, rfl, row_get (own_below h b) i y hy⟩
  have HF : Hid (firstB dir = if dir.toList.isEmpty then dir else dir ++ ⟨#[47]⟩) := rfl
  generalize lessN dir row = m at *
  have HA : Hid _ := hany
  clear hany hln h hs
  have hm0 : (0 : Int) ≤ (m : Int) := by omega
  cases he : dir.toList.isEmpty with
  | true =>
    have hf : firstB dir = dir := by rw [HF.out, he]; rfl
    rw [hf] at hS
    clear HF hf
    cases hy : row[m]? with
    | none =>
      have hge : ¬ (m : Int) < (row.length : Int) := by have := List.getElem?_eq_none_iff.1 hy; omega
      have HR : Hid (anyS dir row = false) := by unfold Hid; rw [HA.out, hy]; rfl
      clear hy HA HC
      go_enter Tryz.func35, Tryz.ntmps35
      go_wp2_with (go_at_call 64; refine hS.mono ?_; rintro e w1 ⟨rfl, b1⟩)
      go_ret
      exact ⟨by rw [HR.out]; rfl, b1⟩
    | some y =>
      have hlt : (m : Int) < (row.length : Int) := by have := (List.getElem?_eq_some_iff.1 hy).1; omega
      have HR : Hid (anyS dir row = belowB dir y) := by unfold Hid; rw [HA.out, hy]; rfl
      obtain ⟨g, rfl, _⟩ := HC.out m y W hy (Below.refl _ _)
      have HC2 : Hid (∀ W2, Below W.heap.size W W2 → W2.cell? ⟨g, m, none⟩ = some (.string y)) := fun W2 b => by
        obtain ⟨g2, h1, h2⟩ := HC.out m y W2 hy b
        injection h1 with h1; injection h1 with h1; subst h1; exact h2
      clear hy HA HC
      go_enter Tryz.func35, Tryz.ntmps35
      go_wp2_with (first
        | (go_at_call 64; refine hS.mono ?_; rintro e w1 ⟨rfl, b1⟩; have c1 := HC2.out w1 b1)
        | (go_at_call 65; refine (below_p dir y _).mono ?_; rintro e w2 ⟨rfl, hw⟩; subst hw))
      go_ret
      exact ⟨by rw [HR.out]; rfl, b1⟩
  | false =>
    have hf : firstB dir = dir ++ ⟨#[47]⟩ := by rw [HF.out, he]; rfl
    rw [hf] at hS
    clear HF hf
    cases hy : row[m]? with
    | none =>
      have hge : ¬ (m : Int) < (row.length : Int) := by have := List.getElem?_eq_none_iff.1 hy; omega
      have HR : Hid (anyS dir row = false) := by unfold Hid; rw [HA.out, hy]; rfl
      clear hy HA HC
      go_enter Tryz.func35, Tryz.ntmps35
      go_wp2_with (go_at_call 64; refine hS.mono ?_; rintro e w1 ⟨rfl, b1⟩)
      go_ret
      exact ⟨by rw [HR.out]; rfl, b1⟩
    | some y =>
      have hlt : (m : Int) < (row.length : Int) := by have := (List.getElem?_eq_some_iff.1 hy).1; omega
      have HR : Hid (anyS dir row = belowB dir y) := by unfold Hid; rw [HA.out, hy]; rfl
      obtain ⟨g, rfl, _⟩ := HC.out m y W hy (Below.refl _ _)
      have HC2 : Hid (∀ W2, Below W.heap.size W W2 → W2.cell? ⟨g, m, none⟩ = some (.string y)) := fun W2 b => by
        obtain ⟨g2, h1, h2⟩ := HC.out m y W2 hy b
        injection h1 with h1; injection h1 with h1; subst h1; exact h2
      clear hy HA HC
      go_enter Tryz.func35, Tryz.ntmps35
      go_wp2_with (first
        | (go_at_call 64; refine hS.mono ?_; rintro e w1 ⟨rfl, b1⟩; have c1 := HC2.out w1 b1)
        | (go_at_call 65; refine (below_p dir y _).mono ?_; rintro e w2 ⟨rfl, hw⟩; subst hw))
      go_ret
      exact ⟨by rw [HR.out]; rfl, b1⟩
end Go.Proofs.YthkbhcefckbcnaaGreatDoor

namespace Go.Proofs.YthkbhcefckbcnaaGreatDoor
open Go.RowKit

theorem begins_r (s h : ByteArray) (w : World) : Calls Tryz.prog 62 #[.string s, .string h] w fun e w' => e = .returned (.bool (Lib.hasPrefix (un s) (un h))) ∧ w' = w := by
  by_cases c : h.size ≤ s.size
  · have c' : (h.size : Int) ≤ (s.size : Int) := by omega
    have e1 : Lib.hasPrefix (un s) (un h) = ((s.extract 0 h.size).toList == h.toList) := by
      rw [hasPrefix_take, toList_un, toList_un, un_extract, un_length, un_length]; simp [c]
    have E : Hid _ := e1
    clear e1
    go_enter Tryz.func62, Tryz.ntmps62
    go_wp2
    go_ret
    exact ⟨by rw [E.out]; rfl, rfl⟩
  · have c' : ¬ (h.size : Int) ≤ (s.size : Int) := by omega
    have e1 : Lib.hasPrefix (un s) (un h) = false := by
      rw [hasPrefix_take, un_length, un_length]; simp; omega
    have E : Hid _ := e1
    clear e1
    go_enter Tryz.func62, Tryz.ntmps62
    go_wp2
    go_ret
    exact ⟨by rw [E.out]; rfl, rfl⟩

theorem below_r (a b : ByteArray) (w : World) (ha : a.size < 4611686018427387904) : Calls Tryz.prog 32 #[.string a, .string b] w fun e w' => e = .returned (.bool (belowB a b)) ∧ w' = w := by
  cases h1 : a.toList.isEmpty
  · have E : Hid _ := belowB_r a b h1
    have e2 : un (a ++ ⟨#[47]⟩) = un a ++ [47] := un_append a ⟨#[47]⟩
    have E2 : Hid _ := e2
    clear e2
    go_enter Tryz.func32, Tryz.ntmps32
    go_wp2_with (go_at_call 62; refine (begins_r _ _ _).mono ?_; rintro e w2 ⟨rfl, hw⟩; subst hw)
    go_ret
    exact ⟨by rw [E.out, ← E2.out]; rfl, rfl⟩
  · go_enter Tryz.func32, Tryz.ntmps32
    go_wp2
    go_ret
    exact ⟨by simp [belowB, h1]; try rfl, rfl⟩
end Go.Proofs.YthkbhcefckbcnaaGreatDoor

namespace Go.Proofs.YthkbhcefckbcnaaGreatDoor
open Go Go.RowKit

/-- What a list's Out answers, in every world in which it stands. -/
def OutOK (G : World → Prop) (lv : Value) (ok : ByteArray → Bool) : Prop := ∀ W, G W → ∀ p : ByteArray, p.size ≤ 1048576 → Calls Tryz.prog 18 #[lv, .string p] W fun e w' => e = .returned (.bool (!ok p)) ∧ Below W.heap.size W w'
def KeptBy (G : World → Prop) : Prop := ∀ W W2, G W → Below W.heap.size W W2 → G W2
theorem any_next (ok : ByteArray → Bool) (es : List Ent) (dir : ByteArray) (k : Nat) (x : Ent) (hx : es[k]? = some x) (h0 : anyB ok (es.take k) dir = false) : anyB ok (es.take (k + 1)) dir = (belowB dir x.path && ok x.path) := by
  unfold anyB at h0 ⊢
  rw [List.take_add_one, hx, List.any_append, h0]
  simp
theorem any_hit (ok : ByteArray → Bool) (es : List Ent) (dir : ByteArray) (k : Nat) (x : Ent) (hx : es[k]? = some x) (h1 : belowB dir x.path = true) (h2 : ok x.path = true) : anyB ok es dir = true := by
  unfold anyB
  rw [List.any_eq_true]
  exact ⟨x, List.mem_of_getElem? hx, by rw [h1, h2]; rfl⟩
set_option maxRecDepth 100000 in
set_option maxHeartbeats 2000000 in
theorem bel_p {G : World → Prop} (HG : KeptBy G) (lv : Value) (ok : ByteArray → Bool) (HO : Hid (OutOK G lv ok)) (v : Value) (es : List Ent) (dir : ByteArray) (w : World) (hG : G w) (hv : EntsAt w v es) (hl : es.length ≤ 1073741824) (hz : ∀ e ∈ es, e.path.size ≤ 1048576) (hd : dir.size ≤ 1048576) : Calls Tryz.prog 19 #[lv, v, .string dir] w fun e w' => e = .returned (.bool (anyB ok es dir)) ∧ Below w.heap.size w w' := by
  obtain ⟨a, cap, b, o, rfl, ha, hcap, hc⟩ := hv
  go_enter Tryz.func19, Tryz.ntmps19
  go_wp2
  go_loopw [7] (fun i wr => ∃ k : Nat, i = .int .i64 k ∧ k ≤ es.length ∧ anyB ok (es.take k) dir = false ∧ Below w.heap.size w wr) (fun i _ => es.length - (intOf i).toNat)
  case atStart => exact ⟨0, rfl, Nat.zero_le _, rfl, Below.refl _ _⟩
  case round =>
    obtain ⟨k, rfl, hk, h0, hB⟩ := hrel
    by_cases hlt : k < es.length
    · have hlt' : (k : Int) < (es.length : Int) := by omega
      have hk0 : (0 : Int) ≤ (k : Int) := by omega
      obtain ⟨x, hx⟩ : ∃ x, es[k]? = some x := ⟨_, List.getElem?_eq_getElem hlt⟩
      obtain rfl := ha (fun e => by rw [e] at hlt; simp at hlt)
      obtain ⟨c0, _, _, _, _⟩ := (hc k x hx).below hB
      have hxz := hz x (List.mem_of_getElem? hx)
      have hBe := fun W => below_r dir x.path W (by omega)
      have hO := HO.out wr (HG _ _ hG hB) x.path hxz
      have HN : Hid _ := any_next ok es dir k x hx h0
      have HH : Hid (belowB dir x.path = true → ok x.path = true → anyB ok es dir = true) := any_hit ok es dir k x hx
      clear hx hc ha h0
      cases e1 : belowB dir x.path with
      | false =>
        rw [e1] at hBe
        go_wp2_with (go_at_call 32; refine (hBe _).mono ?_; rintro e w1 ⟨rfl, hw⟩; subst hw)
        go_roundw
        case rel => exact ⟨k + 1, by go_num, by omega, by rw [HN.out, e1]; rfl, hB⟩
        case measure => simp [intOf]; omega
      | true =>
        rw [e1] at hBe
        cases e2 : ok x.path with
        | false =>
          rw [e2] at hO
          go_wp2_with (first
            | (go_at_call 32; refine (hBe _).mono ?_; rintro e w1 ⟨rfl, hw⟩; subst hw)
            | (go_at_call 18; refine hO.mono ?_; rintro e w2 ⟨rfl, b2⟩))
          go_roundw
          case rel => exact ⟨k + 1, by go_num, by omega, by rw [HN.out, e1, e2]; rfl, hB.trans (b2.mono hB.size)⟩
          case measure => simp [intOf]; omega
        | true =>
          rw [e2] at hO
          have HE : Hid (anyB ok es dir = true) := HH.out e1 e2
          go_wp2_with (first
            | (go_at_call 32; refine (hBe _).mono ?_; rintro e w1 ⟨rfl, hw⟩; subst hw)
            | (go_at_call 18; refine hO.mono ?_; rintro e w2 ⟨rfl, b2⟩))
          go_ret
          exact ⟨by rw [HE.out]; rfl, hB.trans (b2.mono hB.size)⟩
    · have hge : ¬ (k : Int) < (es.length : Int) := by omega
      have HE : Hid (anyB ok es dir = false) := by rw [List.take_of_length_le (by omega)] at h0; exact h0
      clear h0
      go_wp2
      go_ret
      exact ⟨by rw [HE.out]; rfl, hB⟩
end Go.Proofs.YthkbhcefckbcnaaGreatDoor

namespace Go.Proofs.YthkbhcefckbcnaaGreatDoor
open Go Go.RowKit

def outF (ok : ByteArray → Bool) (es : List Ent) (k i : Nat) : Bool := decide (i < k) && !(ok (((es[i]?).map Ent.path).getD ⟨#[]⟩))
theorem outF_zero (ok : ByteArray → Bool) (es : List Ent) (i : Nat) : outF ok es 0 i = false := by simp [outF]
theorem outF_succ {ok : ByteArray → Bool} {es : List Ent} {k : Nat} {x : Ent} (hx : es[k]? = some x) (i : Nat) : outF ok es (k + 1) i = if i = k then !ok x.path else outF ok es k i := by
  unfold outF
  by_cases h : i = k
  · subst h; rw [if_pos rfl, hx]; simp
  · rw [if_neg h]
    by_cases h2 : i < k
    · have : i < k + 1 := by omega
      simp [h2, this]
    · have : ¬ i < k + 1 := by omega
      simp [h2, this]
theorem outF_at {ok : ByteArray → Bool} {es : List Ent} {k n : Nat} {x : Ent} (hx : es[k]? = some x) (hk : k < n) : outF ok es n k = !ok x.path := by
  unfold outF; rw [hx]; simp [hk]
theorem setBK {W : World} {g n k : Nat} {f : Nat → Bool} (h : Lies W g 4 (rowB n f)) (b : Bool) (hk : k < n) : Lies (W.setCell ⟨g, k, none⟩ (.bool b)) g 4 (rowB n (fun i => if i = k then b else f i)) := by
  rw [← rowB_set n f k b hk]; exact h.set _
theorem EntC.same {W W2 : World} {b q : Nat} {e : Ent} (h : EntC W b q e) (hb : W2.heap[b]? = W.heap[b]?) : EntC W2 b q e := by
  have hc : ∀ (j : Nat) (v : Value), W.cell? ⟨b, j, none⟩ = some v → W2.cell? ⟨b, j, none⟩ = some v := fun j v hv => by
    unfold World.cell? at hv ⊢
    rw [show W2.heap[(⟨b, j, none⟩ : Addr).block]? = W.heap[(⟨b, j, none⟩ : Addr).block]? from hb]
    exact hv
  exact ⟨hc _ _ h.c0, hc _ _ h.c1, hc _ _ h.c2, hc _ _ h.c3, hc _ _ h.c4⟩
theorem liesTurn {A B : World} {row : Option Nat} {g : Nat} {cur : Array Value} {t : TypeId} (h : Lies A g 4 cur) (hg : A.grownBy B row) (hn : ∀ j, row = some j → ∃ c2, A.heap[j]? = some (.cells c2 t (0, 0))) (ht : t ≠ 4) : Lies B g 4 cur :=
  (hg.block g h.lt (fun e => by
    obtain ⟨c2, h2⟩ := hn g e.symm
    have := h2.symm.trans (show A.heap[g]? = _ from h)
    simp at this
    exact ht this.2)).trans h
theorem grown_setK (W : World) (g k : Nat) (u : Value) : W.grownBy (W.setCell ⟨g, k, none⟩ u) (some g) :=
  ⟨rfl, rfl, rfl, by simp [World.setCell], fun j _ hj => Below.heap_setCell _ _ _ _ (fun e => hj (by rw [e]))⟩
/-- What the first loop holds. -/
structure KA (w W : World) (n : Nat) (F : Nat → Bool) (v : Value) (xs : List ByteArray) : Prop where
  row : Lies W w.heap.size 4 (rowB n F)
  inn : W.ownsRow w.heap.size 9 1 v xs.length (strs xs)
  bel : Below w.heap.size w W
theorem KA.below {w W W2 : World} {n : Nat} {F : Nat → Bool} {v : Value} {xs : List ByteArray} (h : KA w W n F v xs) (b : Below W.heap.size W W2) : KA w W2 n F v xs :=
  ⟨h.row.below b, own_below h.inn b, h.bel.trans (b.mono h.bel.size)⟩
theorem KA.set {w W : World} {n k : Nat} {F F2 : Nat → Bool} {v : Value} {xs : List ByteArray} (h : KA w W n F v xs) (b : Bool) (hk : k < n) (hF : ∀ i, F2 i = if i = k then b else F i) : KA w (W.setCell ⟨w.heap.size, k, none⟩ (.bool b)) n F2 v xs := by
  refine ⟨?_, ?_, h.bel.setCell (p := ⟨w.heap.size, k, none⟩) (Nat.le_refl _) _⟩
  · rw [show rowB n F2 = rowB n (fun i => if i = k then b else F i) from rowB_congr (fun i _ => hF i)]
    exact setBK h.row b hk
  · exact own_same h.inn (same_grown (grown_setK W w.heap.size k _) (fun j cur e hj => by
      cases e
      have := hj.symm.trans (show W.heap[w.heap.size]? = _ from h.row)
      simp at this))
theorem in_next (ok : ByteArray → Bool) (es : List Ent) (k : Nat) (x : Ent) (hx : es[k]? = some x) : inL ok (es.take (k + 1)) = inL ok (es.take k) ++ (if ok x.path then [x.path] else []) := by
  unfold inL
  rw [List.take_add_one, hx, List.map_append, List.filter_append]
  congr 1
  cases h : ok x.path <;> simp [h]
theorem in_length (ok : ByteArray → Bool) (es : List Ent) (k : Nat) : (inL ok (es.take k)).length ≤ es.length := by
  unfold inL
  have h1 := List.length_filter_le ok ((es.take k).map Ent.path)
  rw [List.length_map, List.length_take] at h1
  omega
/-- What the second loop holds. -/
structure KB (w W : World) (n : Nat) (F : Nat → Bool) (v : Value) (xs : List ByteArray) (u : Value) (ks : List Ent) : Prop where
  a : KA w W n F v xs
  kept : W.ownsRow w.heap.size 38 5 u ks.length (ecells ks)
theorem KB.below {w W W2 : World} {n : Nat} {F : Nat → Bool} {v u : Value} {xs : List ByteArray} {ks : List Ent} (h : KB w W n F v xs u ks) (b : Below W.heap.size W W2) : KB w W2 n F v xs u ks := ⟨h.a.below b, own_below h.kept b⟩
theorem KB.app {w W w1 : World} {n : Nat} {F : Nat → Bool} {v u v1 : Value} {xs : List ByteArray} {ks ks2 : List Ent} {x : Ent} {o : Obj} (h : KB w W n F v xs u ks) (hg : (W.alloc o).grownBy w1 u.ownBlock) (h1 : w1.ownsRow w.heap.size 38 5 v1 (ks.length + 1) (ecells ks ++ ecs x)) (he : ks2 = ks ++ [x]) : KB w w1 n F v xs v1 ks2 := by
  have hs := h.a.bel.size
  refine ⟨⟨liesTurn (h.a.row.alloc o) hg (fun j hj => (own_ge (h.kept.alloc o) j hj.symm).2) (by decide), own_same (h.a.inn.alloc o) (same_grown hg (fun j cur hj hh => ?_)), (h.a.bel.alloc hs _).grown hg (by simp; omega) (fun j hj => (own_ge h.kept j hj.symm).1)⟩, ?_⟩
  · obtain ⟨_, c2, h2⟩ := own_ge (h.kept.alloc o) j hj.symm
    rw [h2] at hh
    simp at hh
  · rw [he, ecells_append, List.length_append]
    have : ecells [x] = ecs x := by simp [ecells]
    rw [this]; exact h1

set_option maxRecDepth 100000 in
set_option maxHeartbeats 4000000 in
theorem keep_p {G : World → Prop} (HG : KeptBy G) (lv : Value) (ok : ByteArray → Bool) (HO : Hid (OutOK G lv ok)) (v : Value) (es : List Ent) (w : World) (hG : G w) (hv : EntsAt w v es) (hl : es.length ≤ 1048576) (hz : ∀ e ∈ es, e.path.size ≤ 1048576) : Calls Tryz.prog 12 #[lv, v] w fun e w' => ∃ u, e = .returned u ∧ w'.ownsRow w.heap.size 38 5 u (keepB ok es).length (ecells (keepB ok es)) ∧ Below w.heap.size w w' := by
  obtain ⟨i0, hi, hz0, hz1, hz2⟩ := info_parts info_ent
  obtain ⟨j0, hj, hy0, hy1, hy2⟩ := info_parts info_str
  obtain ⟨a, cap, b, o, rfl, ha, hcap, hc⟩ := hv
  have hmk : ∀ W, (Instr.makeSlice 66 (.int .i64 (es.length : Int)) (.int .i64 (es.length : Int))).run Tryz.prog W = .ok (.slice (some ⟨W.heap.size, 0, none⟩) es.length es.length) (W.alloc (.cells (rowB es.length fun _ => false) 4)) := fun W => make_bools es.length (by omega) W
  have HC : Hid (∀ W i e, es[i]? = some e → Below w.heap.size w W → EntC W b (o + i * 5) e) := fun W i e he bb => (hc i e he).below bb
  have HGW : Hid (∀ W, Below w.heap.size w W → G W) := fun W bb => HG _ _ hG bb
  have HKB : Hid (es.filter (keepS ok es) = keepB ok es) := by
    unfold Hid keepB
    exact congrArg (fun f => List.filter f es) (funext fun e => keepS_eq ok es e)
  clear hc HG
  go_enter Tryz.func12, Tryz.ntmps12
  go_wp2
  go_loopw [6, 7, 8, 17] (fun v _ _ i wr => ∃ k : Nat, i = .int .i64 k ∧ k ≤ es.length ∧ KA w wr es.length (outF ok es k) v (inL ok (es.take k))) (fun _ _ _ i _ => es.length - (intOf i).toNat)
  case atStart =>
    refine ⟨0, rfl, Nat.zero_le _, ?_, World.ownsRow_nil _ _ _ _, (Below.refl _ w).alloc (Nat.le_refl _) _⟩
    rw [show rowB es.length (outF ok es 0) = rowB es.length (fun _ => false) from rowB_congr (fun i _ => outF_zero ok es i)]
    exact Lies.new w _ _
  case round =>
    obtain ⟨k, rfl, hk, hK⟩ := hrel
    by_cases hlt : k < es.length
    · have hlt' : (k : Int) < (es.length : Int) := by omega
      have hk0 : (0 : Int) ≤ (k : Int) := by omega
      obtain ⟨x, hx⟩ : ∃ x, es[k]? = some x := ⟨_, List.getElem?_eq_getElem hlt⟩
      obtain rfl := ha (fun e => by rw [e] at hlt; simp at hlt)
      have hxz := hz x (List.mem_of_getElem? hx)
      obtain ⟨c0, c1, c2, c3, c4⟩ := HC.out wr k x hx hK.bel
      have HIN : Hid _ := in_next ok es k x hx
      have hil := in_length ok es k
      have HF : Hid (∀ i, outF ok es (k + 1) i = if i = k then !ok x.path else outF ok es k i) := fun i => outF_succ hx i
      have HKA : Hid _ := hK
      clear hx ha hK
      go_upto_region 6 with fail
      have E1 := ent_new wr 38 x
      have K1 := HKA.out.below ((Below.refl _ wr).alloc (Nat.le_refl _) (.cells #[.string x.path, .int .i64 x.kind, .int .i64 x.mode, .string x.data, .string x.link] 38))
      have hgs : w.heap.size ≤ wr.heap.size := HKA.out.bel.size
      have hne : w.heap.size < wr.heap.size := HKA.out.row.lt
      clear HKA c0 c1 c2 c3 c4
      generalize (wr.alloc (.cells #[.string x.path, .int .i64 x.kind, .int .i64 x.mode, .string x.data, .string x.link] 38)) = W1 at *
      generalize wr.heap.size = ge at *
      have hO := HO.out W1 (HGW.out W1 K1.bel) x.path hxz
      have e0 := E1.c0
      have HE1 : Hid _ := E1
      have HK1 : Hid _ := K1
      clear E1 K1
      cases hok : ok x.path with
      | false =>
        rw [hok] at hO
        have HF2 : Hid (∀ i, outF ok es (k + 1) i = if i = k then true else outF ok es k i) := fun i => by rw [HF.out i, hok]; rfl
        have HI2 : Hid (inL ok (es.take (k + 1)) = inL ok (es.take k)) := by unfold Hid; rw [HIN.out, hok]; simp
        clear hok HF HIN
        go_upto_region 7 with (go_at_call 18; refine hO.mono ?_; rintro e x1 ⟨rfl, b1⟩; have L1 := (HK1.out.below b1).row; have f1 := L1.frozen k; have d1 := L1.cell (rowB_get _ _ k hlt))
        have K2 : KA w (x1.setCell ⟨w.heap.size, k, none⟩ (.bool true)) es.length (outF ok es (k + 1)) u6 (inL ok (es.take (k + 1))) := by
          rw [HI2.out]; exact (HK1.out.below b1).set true hlt HF2.out
        have d2 := K2.row.cell (rowB_get _ _ k hlt)
        rw [HF2.out k, if_pos rfl] at d2
        have HK2 : Hid _ := K2
        clear K2 L1 f1 d1 b1 HK1 HE1 e0 hO
        generalize x1.setCell ⟨w.heap.size, k, none⟩ (.bool true) = W2 at *
        go_wp2
        go_roundw
        case rel => exact ⟨k + 1, by go_num, by omega, HK2.out⟩
        case measure => simp [intOf]; omega
      | true =>
        rw [hok] at hO
        have HF2 : Hid (∀ i, outF ok es (k + 1) i = if i = k then false else outF ok es k i) := fun i => by rw [HF.out i, hok]; rfl
        have HI2 : Hid (inL ok (es.take (k + 1)) = inL ok (es.take k) ++ [x.path]) := by unfold Hid; rw [HIN.out, hok]; simp
        clear hok HF HIN
        go_upto_region 7 with (go_at_call 18; refine hO.mono ?_; rintro e x1 ⟨rfl, b1⟩; have L1 := (HK1.out.below b1).row; have f1 := L1.frozen k; have d1 := L1.cell (rowB_get _ _ k hlt))
        have K2 : KA w (x1.setCell ⟨w.heap.size, k, none⟩ (.bool false)) es.length (outF ok es (k + 1)) u6 (inL ok (es.take k)) := (HK1.out.below b1).set false hlt HF2.out
        have e2 := ((HE1.out.below b1).same (W2 := x1.setCell ⟨w.heap.size, k, none⟩ (.bool false)) (Below.heap_setCell _ _ _ _ (by show ge ≠ w.heap.size; omega))).c0
        have d2 := K2.row.cell (rowB_get _ _ k hlt)
        rw [HF2.out k, if_pos rfl] at d2
        clear L1 f1 d1 b1 HK1 HE1 e0 hO
        generalize x1.setCell ⟨w.heap.size, k, none⟩ (.bool false) = W2 at *
        have hs2 := K2.bel.size
        go_wp2_with (at_builtin; refine wpList_append_own _ rfl _ _ 46 rfl w.heap.size 9 j0 (.string ⟨#[]⟩) 1 16 Tryz.underlying46 hj hy0 hy1 hy2 rfl (by decide) _ _ _ rfl (K2.inn.alloc _) ⟨W2.heap.size, 0, none⟩ 1 1 [.string x.path] rfl rfl (cell_one_new _ _ _) (by simp [Value.oneCell']) (by unfold maxLen; omega) (by omega) (by simp; omega) ?_; intro v1 w1 hown1 hgrow1 _)
        have hb1 : Below w.heap.size w w1 := (K2.bel.alloc hs2 _).grown hgrow1 (by simp; omega) (fun j hj => (own_ge K2.inn j hj.symm).1)
        have K3 : KA w w1 es.length (outF ok es (k + 1)) v1 (inL ok (es.take (k + 1))) := by
          refine ⟨liesTurn (K2.row.alloc _) hgrow1 (fun j hj => (own_ge (K2.inn.alloc _) j hj.symm).2) (by decide), ?_, hb1⟩
          rw [HI2.out]; simpa [strs] using hown1
        clear hown1 hgrow1 K2 d2 e2
        go_roundw
        case rel => exact ⟨k + 1, by go_num, by omega, K3⟩
        case measure => simp [intOf]; omega
    · have hge : ¬ (k : Int) < (es.length : Int) := by omega
      have hka : k = es.length := by omega
      rw [hka, List.take_of_length_le (Nat.le_refl _)] at hK
      have hil := in_length ok es es.length
      rw [List.take_of_length_le (Nat.le_refl _)] at hil
      have hS := sort_own hK.inn (by omega)
      have HK1 : Hid _ := hK
      clear hK hka
      go_wp2_with (go_at_call 34; refine hS.mono ?_; rintro e w2 ⟨rfl, ho2, hg2⟩)
      have K2 : KA w w2 es.length (outF ok es es.length) u6 (srtL ok es) := by
        refine ⟨liesTurn HK1.out.row hg2 (fun j hj => (own_ge HK1.out.inn j hj.symm).2) (by decide), ?_, HK1.out.bel.grown hg2 HK1.out.bel.size (fun j hj => (own_ge HK1.out.inn j hj.symm).1)⟩
        rw [srtL_sortT, sortT_length]; exact ho2
      have HSP : Hid _ := srt_pair ok es
      have hsl : (srtL ok es).length ≤ es.length := by rw [srt_length]; exact hil
      clear ho2 hg2 HK1 hS
      obtain ⟨oi, ci, rfl⟩ : ∃ oi ci, u6 = .slice oi (srtL ok es).length ci := by
        rcases K2.inn.2 with ⟨h, h0⟩ | ⟨g, cap', cur, h, _⟩
        · exact ⟨none, 0, by rw [h, h0]⟩
        · exact ⟨_, _, h⟩
      have HK2 : Hid _ := K2
      clear K2
      go_loopw [9, 10, 11, 44] (fun u _ _ i wr2 => ∃ k : Nat, i = .int .i64 k ∧ k ≤ es.length ∧ KB w wr2 es.length (outF ok es es.length) (.slice oi (srtL ok es).length ci) (srtL ok es) u ((es.take k).filter (keepS ok es))) (fun _ _ _ i _ => es.length - (intOf i).toNat)
      case atStart => exact ⟨0, rfl, Nat.zero_le _, HK2.out, World.ownsRow_nil _ _ _ _⟩
      case round =>
        obtain ⟨k, rfl, hk, hK⟩ := hrel
        by_cases hlt : k < es.length
        · have hlt' : (k : Int) < (es.length : Int) := by omega
          have hk0 : (0 : Int) ≤ (k : Int) := by omega
          obtain ⟨x, hx⟩ : ∃ x, es[k]? = some x := ⟨_, List.getElem?_eq_getElem hlt⟩
          obtain rfl := ha (fun e => by rw [e] at hlt; simp at hlt)
          have hxz := hz x (List.mem_of_getElem? hx)
          obtain ⟨c0, c1, c2, c3, c4⟩ := HC.out wr k x hx hK.a.bel
          have HTK : Hid (es.take (k + 1) = es.take k ++ [x]) := by unfold Hid; rw [List.take_add_one, hx]; rfl
          have HFK : Hid (outF ok es es.length k = !ok x.path) := outF_at hx hlt
          have hkl : ((es.take k).filter (keepS ok es)).length ≤ es.length := by
            have h1 := List.length_filter_le (keepS ok es) (es.take k)
            rw [List.length_take] at h1; omega
          have HKA : Hid _ := hK
          clear hx ha hK
          go_upto_region 15 with fail
          have E1 := ent_new wr 38 x
          have K1 := HKA.out.below ((Below.refl _ wr).alloc (Nat.le_refl _) (.cells #[.string x.path, .int .i64 x.kind, .int .i64 x.mode, .string x.data, .string x.link] 38))
          clear HKA c0 c1 c2 c3 c4
          generalize (wr.alloc (.cells #[.string x.path, .int .i64 x.kind, .int .i64 x.mode, .string x.data, .string x.link] 38)) = W1 at *
          generalize wr.heap.size = ge at *
          have d1 := K1.a.row.cell (rowB_get _ _ k hlt)
          rw [HFK.out] at d1
          have HAP : Hid (Calls Tryz.prog 35 #[.string x.path, .slice oi (srtL ok es).length ci] W1 fun e w' => e = .returned (.bool (anyS x.path (srtL ok es))) ∧ Below W1.heap.size W1 w') := any_p x.path (srtL ok es) K1.a.inn HSP.out (by omega) (by omega)
          have e0 := E1.c0
          have HKS : Hid (keepS ok es x = (ok x.path || anyS x.path (srtL ok es))) := rfl
          have HLF : Hid (∀ (W : World) (u : Value), keepS ok es x = false → KB w W es.length (outF ok es es.length) (.slice oi (srtL ok es).length ci) (srtL ok es) u ((es.take k).filter (keepS ok es)) → KB w W es.length (outF ok es es.length) (.slice oi (srtL ok es).length ci) (srtL ok es) u ((es.take (k + 1)).filter (keepS ok es))) := fun W u h1 h2 => by
            rw [HTK.out, List.filter_append, show [x].filter (keepS ok es) = [] by simp [h1], List.append_nil]; exact h2
          have HEQ : Hid (keepS ok es x = true → (es.take (k + 1)).filter (keepS ok es) = (es.take k).filter (keepS ok es) ++ [x]) := fun h1 => by
            rw [HTK.out, List.filter_append, show [x].filter (keepS ok es) = [x] by simp [h1]]
          cases hok : ok x.path with
          | true =>
            rw [hok] at d1
            have HE2 := HEQ.out (by rw [HKS.out, hok]; rfl)
            have HE3 : Hid _ := HE2
            obtain ⟨f0, f1, f2, f3, f4⟩ := E1
            clear hok HKS HLF HEQ HE2 HAP e0
            have hs2 := K1.a.bel.size
            go_wp2_with (at_builtin; refine wpList_append_own _ rfl _ _ 22 rfl w.heap.size 38 i0 (.agg #[.string ⟨#[]⟩, .int .i64 0, .int .i64 0, .string ⟨#[]⟩, .string ⟨#[]⟩]) 5 64 Tryz.underlying22 hi hz0 hz1 hz2 rfl (by decide) _ _ _ rfl (K1.kept.alloc _) ⟨W1.heap.size, 0, none⟩ 1 1 (ecs x) rfl rfl (ent_cells (ent_new W1 _ x)) (ent_one x) (by unfold maxLen; omega) (by omega) (by simp; omega) ?_; intro v1 w1 hown1 hgrow1 _)
            have K3 := KB.app K1 hgrow1 hown1 HE3.out
            clear hown1 hgrow1 K1 d1 f0 f1 f2 f3 f4
            go_roundw
            case rel => exact ⟨k + 1, by go_num, by omega, K3⟩
            case measure => simp [intOf]; omega
          | false =>
            rw [hok] at d1
            cases has : anyS x.path (srtL ok es) with
            | true =>
              have hAP := HAP.out
              rw [has] at hAP
              have HE2 := HEQ.out (by rw [HKS.out, hok, has]; rfl)
              have HE3 : Hid _ := HE2
              have HEE : Hid _ := E1
              clear hok has HKS HLF HEQ HE2 HAP
              go_upto_region 16 with (go_at_call 35; refine hAP.mono ?_; rintro e x1 ⟨rfl, b1⟩)
              obtain ⟨f0, f1, f2, f3, f4⟩ := HEE.out.below b1
              have K2 := K1.below b1
              have hs2 := K2.a.bel.size
              clear K1 hAP e0 d1
              go_wp2_with (at_builtin; refine wpList_append_own _ rfl _ _ 22 rfl w.heap.size 38 i0 (.agg #[.string ⟨#[]⟩, .int .i64 0, .int .i64 0, .string ⟨#[]⟩, .string ⟨#[]⟩]) 5 64 Tryz.underlying22 hi hz0 hz1 hz2 rfl (by decide) _ _ _ rfl (K2.kept.alloc _) ⟨x1.heap.size, 0, none⟩ 1 1 (ecs x) rfl rfl (ent_cells (ent_new x1 _ x)) (ent_one x) (by unfold maxLen; omega) (by omega) (by simp; omega) ?_; intro v1 w1 hown1 hgrow1 _)
              have K3 := KB.app K2 hgrow1 hown1 HE3.out
              clear hown1 hgrow1 K2 f0 f1 f2 f3 f4
              go_roundw
              case rel => exact ⟨k + 1, by go_num, by omega, K3⟩
              case measure => simp [intOf]; omega
            | false =>
              have hAP := HAP.out
              rw [has] at hAP
              have HL2 : Hid _ := HLF.out
              have HKF : Hid (keepS ok es x = false) := by unfold Hid; rw [HKS.out, hok, has]; rfl
              clear hok has HKS HLF HEQ HAP E1
              go_wp2_with (go_at_call 35; refine hAP.mono ?_; rintro e x1 ⟨rfl, b1⟩)
              have K3 := HL2.out x1 _ HKF.out (K1.below b1)
              clear K1 hAP e0 d1
              go_roundw
              case rel => exact ⟨k + 1, by go_num, by omega, K3⟩
              case measure => simp [intOf]; omega
        · have hge : ¬ (k : Int) < (es.length : Int) := by omega
          have hka : k = es.length := by omega
          rw [hka, List.take_of_length_le (Nat.le_refl _), HKB.out] at hK
          have HKK : Hid _ := hK
          clear hK hka
          go_wp2
          go_ret
          exact ⟨_, rfl, HKK.out.kept, HKK.out.a.bel⟩
end Go.Proofs.YthkbhcefckbcnaaGreatDoor

namespace Go.Proofs.YthkbhcefckbcnaaGreatDoor
open Go Go.RowKit Go.Shelf

theorem fine_patT {s : ByteArray} {ps : List Pc} (h : patOf s = some ps) : Short (ps ++ [none]) ∧ (ps ++ [none]).length ≤ 1099511627776 := by
  obtain ⟨h1, h2⟩ := pat_facts h
  refine ⟨fun qs hq => ?_, by simp; omega⟩
  rcases List.mem_append.1 hq with a | a
  · have := h2 qs a; omega
  · simp at a
theorem fine_lineT {line : ByteArray} {r : Rule} (h : lineRule line = some (some r)) : Short r.2 ∧ r.2.length ≤ 1099511627776 := by
  unfold lineRule at h
  split at h
  · cases h
  · split at h
    · rw [Option.map_eq_some_iff] at h
      obtain ⟨ps, hp, e⟩ := h
      cases e
      exact fine_patT hp
    · rw [Option.map_eq_some_iff] at h
      obtain ⟨ps, hp, e⟩ := h
      cases e
      exact fine_patT hp
theorem fine_addT {rs rs2 : List Rule} {line : ByteArray} (hf : Fine rs) (h : addLine rs line = .ok rs2) : Fine rs2 := by
  refine ⟨addLine_le h hf.1, ?_⟩
  unfold addLine at h
  split at h
  · cases h; exact hf.2
  · split at h <;> cases h
  · rename_i r hr
    split at h
    · cases h
    · cases h
      intro q hq
      rcases List.mem_append.1 hq with a | a
      · exact hf.2 q a
      · simp at a; subst a; exact fine_lineT hr
theorem fine_linesT : ∀ {ls : List (List UInt8)} {rs rs2 : List Rule} {k : Nat}, Fine rs → addLinesE rs ls k = .ok rs2 → Fine rs2
  | [], _, _, _, hf, h => by cases h; exact hf
  | x :: ls, rs, rs2, k, hf, h => by
    rw [addLinesE_cons] at h
    cases ha : addLine rs (bs x) with
    | error n => rw [ha] at h; cases h
    | ok r3 => rw [ha] at h; exact fine_linesT (fine_addT hf ha) h
theorem fine_parseT {s : ByteArray} {rs : List Rule} (h : parseE s = .ok rs) : Fine rs := fine_linesT (rs := []) ⟨by simp, fun r hr => by cases hr⟩ h
/-- What isn't out. -/
def okB (rs : List Rule) (p : ByteArray) : Bool := !outB rs (namesB p)
theorem out_okT (l : Nat) (rs : List Rule) (hf : Fine rs) : OutOK (fun W => ListIn W l rs) (.pointer (some ⟨l, 0, none⟩)) (okB rs) := fun W hW p hp => by
  have := out_p l rs p W hW hf (by omega)
  unfold okB; rw [Bool.not_not]; exact this
theorem kept_okT (l : Nat) (rs : List Rule) : KeptBy (fun W => ListIn W l rs) := fun _ _ h b => h.below b
theorem joinT {w w1 w2 : World} (h : Below w.heap.size w w1) (k : Below w1.heap.size w1 w2) : Below w.heap.size w w2 := h.trans (k.mono h.size)
end Go.Proofs.YthkbhcefckbcnaaGreatDoor

namespace Go.Proofs.YthkbhcefckbcnaaGreatDoor
open Go Go.RowKit

abbrev RowX := ByteArray × ByteArray × Int
def tabX : List RowX := [(⟨#[97, 42, 99]⟩, ⟨#[97, 98, 98, 99]⟩, 1), (⟨#[97, 42, 99]⟩, ⟨#[97, 99]⟩, 1), (⟨#[97, 42, 99]⟩, ⟨#[97, 98, 47, 99]⟩, 0), (⟨#[47, 97, 47, 47, 98, 47]⟩, ⟨#[97, 47, 98]⟩, 1), (⟨#[97]⟩, ⟨#[47, 97, 47]⟩, 1), (⟨#[42]⟩, ⟨#[]⟩, 0), (⟨#[42, 42, 47, 99]⟩, ⟨#[99]⟩, 1), (⟨#[42, 42, 47, 99]⟩, ⟨#[97, 47, 98, 47, 99]⟩, 1), (⟨#[97, 47, 42, 42, 47, 99]⟩, ⟨#[97, 47, 99]⟩, 1), (⟨#[97, 47, 42, 42]⟩, ⟨#[97]⟩, 1), (⟨#[42, 42]⟩, ⟨#[]⟩, 1), (⟨#[97, 42, 42, 99]⟩, ⟨#[97, 47, 99]⟩, 0), (⟨#[63]⟩, ⟨#[97, 98]⟩, 0), (⟨#[63, 98]⟩, ⟨#[97, 98]⟩, 1), (⟨#[91, 97, 45, 99, 93, 120]⟩, ⟨#[98, 120]⟩, 1), (⟨#[91, 33, 97, 45, 99, 93, 120]⟩, ⟨#[98, 120]⟩, 0), (⟨#[91, 93, 97, 93]⟩, ⟨#[93]⟩, 1), (⟨#[91, 97, 45, 93]⟩, ⟨#[45]⟩, 1), (⟨#[91, 92, 93, 97, 93]⟩, ⟨#[93]⟩, 1), (⟨#[91, 94, 93, 93]⟩, ⟨#[93]⟩, 0), (⟨#[91, 45, 45, 48, 93]⟩, ⟨#[46]⟩, 1), (⟨#[97, 93]⟩, ⟨#[97, 93]⟩, 1), (⟨#[92, 42]⟩, ⟨#[42]⟩, 1), (⟨#[92, 42]⟩, ⟨#[97]⟩, 0), (⟨#[91, 97, 98]⟩, ⟨#[97]⟩, 2), (⟨#[91, 98, 45, 97, 93]⟩, ⟨#[97]⟩, 2), (⟨#[97, 92]⟩, ⟨#[97]⟩, 2), (⟨#[47, 47]⟩, ⟨#[]⟩, 2), (⟨#[91, 97, 47, 98, 93]⟩, ⟨#[97]⟩, 2)]
def trow (r : RowX) : List Value := [.string r.1, .string r.2.1, .int .i64 r.2.2]
def tcells (l : List RowX) : List Value := l.flatMap trow
theorem tcells_cons (r : RowX) (l : List RowX) : tcells (r :: l) = trow r ++ tcells l := rfl
theorem tcells_get : ∀ (l : List RowX) (k : Nat) (r : RowX), l[k]? = some r → ∀ j v, (trow r)[j]? = some v → (tcells l)[k * 3 + j]? = some v
  | [], k, r, h, _, _, _ => by simp at h
  | q :: l, 0, r, h, j, v, hj => by
    have hq : q = r := by simpa using h
    subst hq
    have hl : j < (trow q).length := (List.getElem?_eq_some_iff.1 hj).1
    rw [tcells_cons, Nat.zero_mul, Nat.zero_add, List.getElem?_append_left hl]; exact hj
  | q :: l, k + 1, r, h, j, v, hj => by
    have ih := tcells_get l k r (by simpa using h) j v hj
    rw [tcells_cons, List.getElem?_append_right (by simp [trow]; omega)]
    rw [← ih]; congr 1; simp [trow]; omega
/-- What the table says is so. -/
def rowOK (r : RowX) : Bool := (matchB r.1 r.2.1 == (r.2.2 == 1)) && ((patOf r.1).isNone == (r.2.2 == 2)) && decide (r.1.size ≤ 100) && decide (r.2.1.size ≤ 100)
set_option maxRecDepth 100000 in
theorem tab_ok : tabX.all rowOK = true := by decide +kernel
theorem tab_at {k : Nat} {r : RowX} (h : tabX[k]? = some r) : matchB r.1 r.2.1 = (r.2.2 == 1) ∧ (patOf r.1).isNone = (r.2.2 == 2) ∧ r.1.size ≤ 100 ∧ r.2.1.size ≤ 100 := by
  have h1 := List.all_eq_true.1 tab_ok r (List.mem_of_getElem? h)
  unfold rowOK at h1
  simp only [Bool.and_eq_true, beq_iff_eq, decide_eq_true_eq] at h1
  exact ⟨h1.1.1.1, h1.1.1.2, h1.1.2, h1.2⟩
theorem tab_len : tabX.length = 29 := rfl
/- The lists of the examples. -/
def okR (s p : ByteArray) : Bool := match parseE s with | .ok rs => outB rs (namesB p) | .error _ => false
def isOK (s : ByteArray) : Bool := match parseE s with | .ok _ => true | .error _ => false
def isErr (s : ByteArray) (n : Int) (k : Nat) : Bool := match parseE s with | .ok _ => false | .error (a, b) => a == n && b == k
set_option maxRecDepth 100000 in
theorem ex_ok : (isOK ⟨#[35, 32, 97, 108, 108, 10, 42, 46, 111, 10, 33, 32, 32, 107, 101, 101, 112, 46, 111, 10, 98, 105, 110]⟩ && okR ⟨#[35, 32, 97, 108, 108, 10, 42, 46, 111, 10, 33, 32, 32, 107, 101, 101, 112, 46, 111, 10, 98, 105, 110]⟩ ⟨#[120, 46, 111]⟩ && !okR ⟨#[35, 32, 97, 108, 108, 10, 42, 46, 111, 10, 33, 32, 32, 107, 101, 101, 112, 46, 111, 10, 98, 105, 110]⟩ ⟨#[107, 101, 101, 112, 46, 111]⟩ && !okR ⟨#[35, 32, 97, 108, 108, 10, 42, 46, 111, 10, 33, 32, 32, 107, 101, 101, 112, 46, 111, 10, 98, 105, 110]⟩ ⟨#[100, 47, 120, 46, 111]⟩ && okR ⟨#[35, 32, 97, 108, 108, 10, 42, 46, 111, 10, 33, 32, 32, 107, 101, 101, 112, 46, 111, 10, 98, 105, 110]⟩ ⟨#[98, 105, 110, 47, 97, 47, 98]⟩ && isErr ⟨#[97, 10, 10, 91]⟩ 24 3 && isErr ⟨#[33]⟩ 24 1 && isOK ⟨#[100, 10, 33, 100, 47, 121]⟩ && okR ⟨#[100, 10, 33, 100, 47, 121]⟩ ⟨#[100]⟩ && okR ⟨#[100, 10, 33, 100, 47, 121]⟩ ⟨#[100, 47, 120, 46, 111]⟩ && !okR ⟨#[100, 10, 33, 100, 47, 121]⟩ ⟨#[100, 47, 121]⟩) = true := by decide +kernel
theorem ex_parts : ((((((((((isOK ⟨#[35, 32, 97, 108, 108, 10, 42, 46, 111, 10, 33, 32, 32, 107, 101, 101, 112, 46, 111, 10, 98, 105, 110]⟩ = true) ∧ okR ⟨#[35, 32, 97, 108, 108, 10, 42, 46, 111, 10, 33, 32, 32, 107, 101, 101, 112, 46, 111, 10, 98, 105, 110]⟩ ⟨#[120, 46, 111]⟩ = true) ∧ okR ⟨#[35, 32, 97, 108, 108, 10, 42, 46, 111, 10, 33, 32, 32, 107, 101, 101, 112, 46, 111, 10, 98, 105, 110]⟩ ⟨#[107, 101, 101, 112, 46, 111]⟩ = false) ∧ okR ⟨#[35, 32, 97, 108, 108, 10, 42, 46, 111, 10, 33, 32, 32, 107, 101, 101, 112, 46, 111, 10, 98, 105, 110]⟩ ⟨#[100, 47, 120, 46, 111]⟩ = false) ∧ okR ⟨#[35, 32, 97, 108, 108, 10, 42, 46, 111, 10, 33, 32, 32, 107, 101, 101, 112, 46, 111, 10, 98, 105, 110]⟩ ⟨#[98, 105, 110, 47, 97, 47, 98]⟩ = true) ∧ isErr ⟨#[97, 10, 10, 91]⟩ 24 3 = true) ∧ isErr ⟨#[33]⟩ 24 1 = true) ∧ isOK ⟨#[100, 10, 33, 100, 47, 121]⟩ = true) ∧ okR ⟨#[100, 10, 33, 100, 47, 121]⟩ ⟨#[100]⟩ = true) ∧ okR ⟨#[100, 10, 33, 100, 47, 121]⟩ ⟨#[100, 47, 120, 46, 111]⟩ = true) ∧ okR ⟨#[100, 10, 33, 100, 47, 121]⟩ ⟨#[100, 47, 121]⟩ = false := by
  have h := ex_ok
  simpa only [Bool.and_eq_true, Bool.not_eq_true'] using h
theorem list_of {s : ByteArray} (h : isOK s = true) : ∃ rs, parseE s = .ok rs := by
  unfold isOK at h
  cases hp : parseE s with
  | ok rs => exact ⟨rs, rfl⟩
  | error x => rw [hp] at h; cases h
theorem err_of {s : ByteArray} {n : Int} {k : Nat} (h : isErr s n k = true) : parseE s = .error (n, k) := by
  unfold isErr at h
  cases hp : parseE s with
  | ok rs => rw [hp] at h; cases h
  | error x =>
    obtain ⟨a, b⟩ := x
    rw [hp] at h
    simp only [Bool.and_eq_true, beq_iff_eq] at h
    rw [h.1, h.2]
theorem okR_of {s p : ByteArray} {rs : List Rule} (h : parseE s = .ok rs) : okR s p = outB rs (namesB p) := by unfold okR; rw [h]
end Go.Proofs.YthkbhcefckbcnaaGreatDoor

namespace Go.Proofs.YthkbhcefckbcnaaGreatDoor
open Go Go.RowKit

def ent3 : List Ent := [⟨⟨#[100]⟩, 1, 0, ⟨#[]⟩, ⟨#[]⟩⟩, ⟨⟨#[100, 47, 120, 46, 111]⟩, 2, 0, ⟨#[]⟩, ⟨#[]⟩⟩, ⟨⟨#[100, 47, 121]⟩, 2, 0, ⟨#[]⟩, ⟨#[]⟩⟩]
theorem below_1 : belowB ⟨#[100]⟩ ⟨#[100, 47, 121]⟩ = true := by simp only [belowB, toList_un]; decide +kernel
theorem below_2 : belowB ⟨#[100, 47, 120, 46, 111]⟩ ⟨#[100, 47, 121]⟩ = false := by simp only [belowB, toList_un]; decide +kernel
theorem keep3 {ok : ByteArray → Bool} (h1 : ok ⟨#[100]⟩ = false) (h2 : ok ⟨#[100, 47, 120, 46, 111]⟩ = false) (h3 : ok ⟨#[100, 47, 121]⟩ = true) : keepB ok ent3 = [⟨⟨#[100]⟩, 1, 0, ⟨#[]⟩, ⟨#[]⟩⟩, ⟨⟨#[100, 47, 121]⟩, 2, 0, ⟨#[]⟩, ⟨#[]⟩⟩] := by
  simp [keepB, stayB, anyB, ent3, h1, h2, h3, below_1, below_2]
theorem meta_a : Lib.containsAny (un ⟨#[97, 42, 98]⟩) [42, 63, 91] = true := by decide +kernel
theorem meta_b : Lib.containsAny (un ⟨#[97, 92, 98]⟩) [42, 63, 91] = false := by decide +kernel
theorem meta_c : Lib.containsAny (un ⟨#[]⟩) [42, 63, 91] = false := by decide +kernel
theorem ents_lies {W : World} {g : Nat} {es : List Ent} (h : Lies W g 38 (ecells es).toArray) : EntsAt W (.slice (some ⟨g, 0, none⟩) es.length es.length) es :=
  ⟨_, _, g, 0, rfl, fun _ => rfl, Nat.le_refl _, fun i e he => by
    have hc : ∀ j v, (ecs e)[j]? = some v → W.cell? ⟨g, 0 + i * 5 + j, none⟩ = some v := fun j v hj => by
      rw [Nat.zero_add]; exact h.cell (by rw [List.getElem?_toArray]; exact ecells_get es i e he j v hj)
    exact ⟨hc 0 _ rfl, hc 1 _ rfl, hc 2 _ rfl, hc 3 _ rfl, hc 4 _ rfl⟩⟩
structure TabSt (w W : World) (g : Nat) : Prop where
  tab : Lies W g 81 (tcells tabX).toArray
  bel : Below w.heap.size w W
theorem TabSt.below {w W W2 : World} {g : Nat} (h : TabSt w W g) (b : Below W.heap.size W W2) : TabSt w W2 g := ⟨h.tab.below b, h.bel.trans (b.mono h.bel.size)⟩
theorem TabSt.cells {w W : World} {g k : Nat} {r : RowX} (h : TabSt w W g) (hr : tabX[k]? = some r) : W.cell? ⟨g, k * 3, none⟩ = some (.string r.1) ∧ W.cell? ⟨g, k * 3 + 1, none⟩ = some (.string r.2.1) ∧ W.cell? ⟨g, k * 3 + 2, none⟩ = some (.int .i64 r.2.2) := by
  have hc : ∀ j v, (trow r)[j]? = some v → W.cell? ⟨g, k * 3 + j, none⟩ = some v := fun j v hj => h.tab.cell (by rw [List.getElem?_toArray]; exact tcells_get tabX k r hr j v hj)
  exact ⟨hc 0 _ rfl, hc 1 _ rfl, hc 2 _ rfl⟩

set_option maxRecDepth 100000 in
set_option maxHeartbeats 8000000 in
theorem shown_p (w : World) (hg : ErrType w) : Calls Tryz.prog 20 #[] w fun e w' => e = .returned (.bool true) ∧ Below w.heap.size w w' := by
  have HE : Hid (∀ W, Below w.heap.size w W → ErrType W) := fun W b => hg.below b
  clear hg
  go_enter Tryz.func20, Tryz.ntmps20
  go_upto_region 1 with fail
  go_cut [1] from 13 to 186 (fun s wx => s = .slice (some ⟨w.heap.size, 0, none⟩) 29 29 ∧ TabSt w wx w.heap.size)
  case first =>
    go_wp2
    go_meet
    exact ⟨rfl, Lies.new w _ (tcells tabX).toArray, (Below.refl _ w).alloc (Nat.le_refl _) _⟩
  case rest =>
    obtain ⟨rfl, T0⟩ := hcut
    have HT0 : Hid (TabSt w wc w.heap.size) := T0
    clear T0
    obtain ⟨⟨⟨⟨⟨⟨⟨⟨⟨⟨k1, k2⟩, k3⟩, k4⟩, k5⟩, k6⟩, k7⟩, k8⟩, k9⟩, k10⟩, k11⟩ := ex_parts
    obtain ⟨rs1, p1⟩ := list_of k1
    obtain ⟨rs4, p4⟩ := list_of k8
    have F1 := fine_parseT p1
    have F4 := fine_parseT p4
    have o1 : outB rs1 (namesB ⟨#[120, 46, 111]⟩) = true := by rw [← okR_of p1]; exact k2
    have o2 : outB rs1 (namesB ⟨#[107, 101, 101, 112, 46, 111]⟩) = false := by rw [← okR_of p1]; exact k3
    have o3 : outB rs1 (namesB ⟨#[100, 47, 120, 46, 111]⟩) = false := by rw [← okR_of p1]; exact k4
    have o4 : outB rs1 (namesB ⟨#[98, 105, 110, 47, 97, 47, 98]⟩) = true := by rw [← okR_of p1]; exact k5
    have K3 : keepB (okB rs4) ent3 = [⟨⟨#[100]⟩, 1, 0, ⟨#[]⟩, ⟨#[]⟩⟩, ⟨⟨#[100, 47, 121]⟩, 2, 0, ⟨#[]⟩, ⟨#[]⟩⟩] := keep3 (by unfold okB; rw [← okR_of p4, k9]; rfl) (by unfold okB; rw [← okR_of p4, k10]; rfl) (by unfold okB; rw [← okR_of p4, k11]; rfl)
    have Q1 : ∀ W, ErrType W → Calls Tryz.prog 7 #[.string ⟨#[35, 32, 97, 108, 108, 10, 42, 46, 111, 10, 33, 32, 32, 107, 101, 101, 112, 46, 111, 10, 98, 105, 110]⟩] W fun e w' => (e = .returned (.tuple #[.pointer (some ⟨W.heap.size, 0, none⟩), .nilIface]) ∧ ListIn w' W.heap.size rs1) ∧ Below W.heap.size W w' := fun W hW => by
      have := parse_l ⟨#[35, 32, 97, 108, 108, 10, 42, 46, 111, 10, 33, 32, 32, 107, 101, 101, 112, 46, 111, 10, 98, 105, 110]⟩ W hW (by decide)
      unfold ParsePost at this; rw [p1] at this; exact this
    have Q4 : ∀ W, ErrType W → Calls Tryz.prog 7 #[.string ⟨#[100, 10, 33, 100, 47, 121]⟩] W fun e w' => (e = .returned (.tuple #[.pointer (some ⟨W.heap.size, 0, none⟩), .nilIface]) ∧ ListIn w' W.heap.size rs4) ∧ Below W.heap.size W w' := fun W hW => by
      have := parse_l ⟨#[100, 10, 33, 100, 47, 121]⟩ W hW (by decide)
      unfold ParsePost at this; rw [p4] at this; exact this
    have Q2 : ∀ W, ErrType W → Calls Tryz.prog 7 #[.string ⟨#[97, 10, 10, 91]⟩] W fun e w' => e = .returned (.tuple #[.pointer none, fltV 24 3 0]) ∧ Below W.heap.size W w' := fun W hW => by
      have := parse_l ⟨#[97, 10, 10, 91]⟩ W hW (by decide)
      unfold ParsePost at this; rw [err_of k6] at this; exact this
    have Q3 : ∀ W, ErrType W → Calls Tryz.prog 7 #[.string ⟨#[33]⟩] W fun e w' => e = .returned (.tuple #[.pointer none, fltV 24 1 0]) ∧ Below W.heap.size W w' := fun W hW => by
      have := parse_l ⟨#[33]⟩ W hW (by decide)
      unfold ParsePost at this; rw [err_of k7] at this; exact this
    clear k1 k2 k3 k4 k5 k6 k7 k8 k9 k10 k11 p1 p4
    go_wp2
    go_loopw [2, 3, 4] (fun i _ _ wr => ∃ k : Nat, i = .int .i64 k ∧ k ≤ 29 ∧ Hid (TabSt w wr w.heap.size)) (fun i _ _ _ => 29 - (intOf i).toNat)
    case atStart => exact ⟨0, rfl, Nat.zero_le _, HT0⟩
    case round =>
      clear HT0
      obtain ⟨k, rfl, hk, HT⟩ := hrel
      by_cases hlt : k < 29
      · have hlt' : (k : Int) < 29 := by omega
        have hk0 : (0 : Int) ≤ (k : Int) := by omega
        obtain ⟨r, hr⟩ : ∃ r, tabX[k]? = some r := ⟨_, List.getElem?_eq_getElem hlt⟩
        obtain ⟨m1, m2, s1, s2⟩ := tab_at hr
        have HCS : Hid (∀ W, TabSt w W w.heap.size → (W.cell? ⟨w.heap.size, k * 3, none⟩ = some (.string r.1) ∧ W.cell? ⟨w.heap.size, k * 3 + 1, none⟩ = some (.string r.2.1) ∧ TabSt w W w.heap.size)) := fun W hW => ⟨(hW.cells hr).1, (hW.cells hr).2.1, hW⟩
        have HCV : Hid (∀ W, TabSt w W w.heap.size → W.cell? ⟨w.heap.size, k * 3 + 2, none⟩ = some (.int .i64 r.2.2)) := fun W hW => (hW.cells hr).2.2
        have HS0 : Hid (wr.drew.cell? ⟨w.heap.size, k * 3, none⟩ = some (.string r.1) ∧ wr.drew.cell? ⟨w.heap.size, k * 3 + 1, none⟩ = some (.string r.2.1) ∧ TabSt w wr.drew w.heap.size) := HCS.out wr.drew (TabSt.below (W2 := wr.drew) HT.out (show Below wr.heap.size wr wr.drew from ⟨rfl, rfl, rfl, Nat.le_refl _, fun _ _ => rfl⟩))
        have HKP : Hid (∀ W1 W2, Below W1.heap.size W1 W2 → TabSt w W1 w.heap.size → (W2.cell? ⟨w.heap.size, k * 3, none⟩ = some (.string r.1) ∧ W2.cell? ⟨w.heap.size, k * 3 + 1, none⟩ = some (.string r.2.1) ∧ TabSt w W2 w.heap.size)) := fun W1 W2 bb h => HCS.out W2 (h.below bb)
        have MP : ∀ W, Calls Tryz.prog 29 #[.string r.1, .string r.2.1] W fun e w' => e = .returned (.tuple #[.bool (r.2.2 == 1), if r.2.2 = 2 then .iface 56 (.int .i64 24) else .nilIface]) ∧ Below W.heap.size W w' := fun W => by
          have := match_p r.1 r.2.1 W (by omega) (by omega)
          rw [m1] at this
          unfold perr errP at this
          rw [m2] at this
          simpa using this
        clear hr m1 m2 HCS HT
        obtain ⟨v, hv⟩ : ∃ v, r.2.2 = v := ⟨_, rfl⟩
        rw [hv] at HCV MP
        clear hv
        by_cases h2 : v = 2
        · have e1 : (v == 1) = false := by simp [h2]
          have e2 : (v == 2) = true := by simp [h2]
          have e3 : (v != 2) = false := by simp [h2]
          rw [e1, if_pos h2] at MP
          clear h2
          go_wp2_with fail
          go_region_held3 (fun w' => w'.cell? ⟨w.heap.size, k * 3, none⟩ = some (.string r.1) ∧ w'.cell? ⟨w.heap.size, k * 3 + 1, none⟩ = some (.string r.2.1) ∧ TabSt w w' w.heap.size) (first | exact HS0.out | (go_split_ands; exact HKP.out _ _ b9 (by assumption))) (first | (go_at_call 29; with_reducible refine (MP _).mono ?_; rintro e w9 ⟨rfl, b9⟩))
          have HF9 : TabSt w w9 w.heap.size := by first | assumption | (go_split_ands; assumption)
          have cv := HCV.out w9 HF9
          have PL := plain_some 24 (by decide) (by decide) w9 (HE.out w9 HF9.bel)
          clear HS0 HKP MP HCV
          go_wp2_with fail
          refine PL.mono ?_
          rintro e x1 ⟨rfl, y1⟩
          have cv1 : x1.cell? ⟨w.heap.size, k * 3 + 2, none⟩ = some (.int .i64 v) := (y1.cell (p := ⟨w.heap.size, k * 3 + 2, none⟩) (World.block_lt_of_cell? w9 _ cv)).trans cv
          go_wp2
          go_roundw
          case rel => exact ⟨k + 1, by go_num, by omega, HF9.below y1⟩
          case measure => simp [intOf]; omega
        · have e2 : (v == 2) = false := by simp [h2]
          have e3 : (v != 2) = true := by simp [h2]
          rw [if_neg h2] at MP
          clear h2
          cases e1 : (v == 1) with
          | false =>
            rw [e1] at MP
            go_wp2_with fail
            go_region_held3 (fun w' => w'.cell? ⟨w.heap.size, k * 3, none⟩ = some (.string r.1) ∧ w'.cell? ⟨w.heap.size, k * 3 + 1, none⟩ = some (.string r.2.1) ∧ TabSt w w' w.heap.size) (first | exact HS0.out | (go_split_ands; exact HKP.out _ _ b9 (by assumption))) (first | (go_at_call 29; with_reducible refine (MP _).mono ?_; rintro e w9 ⟨rfl, b9⟩))
            have HF9 : TabSt w w9 w.heap.size := by first | assumption | (go_split_ands; assumption)
            have cv := HCV.out w9 HF9
            clear HS0 HKP MP HCV
            go_wp2
            go_roundw
            case rel => exact ⟨k + 1, by go_num, by omega, HF9⟩
            case measure => simp [intOf]; omega
          | true =>
            rw [e1] at MP
            go_wp2_with fail
            go_region_held3 (fun w' => w'.cell? ⟨w.heap.size, k * 3, none⟩ = some (.string r.1) ∧ w'.cell? ⟨w.heap.size, k * 3 + 1, none⟩ = some (.string r.2.1) ∧ TabSt w w' w.heap.size) (first | exact HS0.out | (go_split_ands; exact HKP.out _ _ b9 (by assumption))) (first | (go_at_call 29; with_reducible refine (MP _).mono ?_; rintro e w9 ⟨rfl, b9⟩))
            have HF9 : TabSt w w9 w.heap.size := by first | assumption | (go_split_ands; assumption)
            have cv := HCV.out w9 HF9
            clear HS0 HKP MP HCV
            go_wp2
            go_roundw
            case rel => exact ⟨k + 1, by go_num, by omega, HF9⟩
            case measure => simp [intOf]; omega
      · have hge : ¬ (k : Int) < 29 := by omega
        go_wp2_with fail
        refine (Q1 wr (HE.out wr HT.out.bel)).mono ?_
        rintro e x1 ⟨⟨rfl, L1⟩, y1⟩
        have A1 := joinT HT.out.bel y1
        have O1 := out_p _ rs1 ⟨#[120, 46, 111]⟩ x1 L1 F1 (by decide)
        rw [o1] at O1
        go_wp2_with fail
        refine O1.mono ?_
        rintro e x2 ⟨rfl, y2⟩
        have A2 := joinT A1 y2
        have O2 := out_p _ rs1 ⟨#[107, 101, 101, 112, 46, 111]⟩ x2 (L1.below y2) F1 (by decide)
        rw [o2] at O2
        go_wp2_with fail
        refine O2.mono ?_
        rintro e x3 ⟨rfl, y3⟩
        have A3 := joinT A2 y3
        have O3 := out_p _ rs1 ⟨#[100, 47, 120, 46, 111]⟩ x3 ((L1.below y2).below y3) F1 (by decide)
        rw [o3] at O3
        go_wp2_with fail
        refine O3.mono ?_
        rintro e x4 ⟨rfl, y4⟩
        have A4 := joinT A3 y4
        have O4 := out_p _ rs1 ⟨#[98, 105, 110, 47, 97, 47, 98]⟩ x4 (((L1.below y2).below y3).below y4) F1 (by decide)
        rw [o4] at O4
        go_wp2_with fail
        refine O4.mono ?_
        rintro e x5 ⟨rfl, y5⟩
        have A5 := joinT A4 y5
        clear O1 O2 O3 O4 L1 y1 y2 y3 y4 y5 A1 A2 A3 A4
        go_wp2_with fail
        refine (Q2 x5 (HE.out x5 A5)).mono ?_
        rintro e x6 ⟨rfl, y6⟩
        have A6 := joinT A5 y6
        go_wp2_with fail
        refine (Q3 x6 (HE.out x6 A6)).mono ?_
        rintro e x7 ⟨rfl, y7⟩
        have A7 := joinT A6 y7
        go_wp2_with fail
        refine (Q4 x7 (HE.out x7 A7)).mono ?_
        rintro e x8 ⟨⟨rfl, L8⟩, y8⟩
        have A8 := joinT A7 y8
        clear y6 y7 y8 A5 A6 A7
        go_wp2_with fail
        refine (at_p 24 3 0 (by decide) (by decide) x8 (HE.out x8 A8)).mono ?_
        rintro e x9 ⟨rfl, y9⟩
        have A9 := joinT A8 y9
        go_wp2_with fail
        refine (at_p 24 1 0 (by decide) (by decide) x9 (HE.out x9 A9)).mono ?_
        rintro e x10 ⟨rfl, y10⟩
        have A10 := joinT A9 y10
        have L10 := (L8.below y9).below y10
        clear L8 y9 y10 A8 A9
        go_upto_region 17 with fail
        have E3 : EntsAt (x10.alloc (.cells (ecells ent3).toArray 38)) (.slice (some ⟨x10.heap.size, 0, none⟩) 3 3) ent3 := ents_lies (Lies.new x10 _ _)
        have A11 : Below w.heap.size w (x10.alloc (.cells (ecells ent3).toArray 38)) := A10.alloc A10.size _
        have L11 : ListIn (x10.alloc (.cells (ecells ent3).toArray 38)) x7.heap.size rs4 := L10.below ((Below.refl _ x10).alloc (Nat.le_refl _) _)
        rw [show ((ecells ent3).toArray : Array Value) = #[.string ⟨#[100]⟩, .int .i64 1, .int .i64 0, .string ⟨#[]⟩, .string ⟨#[]⟩, .string ⟨#[100, 47, 120, 46, 111]⟩, .int .i64 2, .int .i64 0, .string ⟨#[]⟩, .string ⟨#[]⟩, .string ⟨#[100, 47, 121]⟩, .int .i64 2, .int .i64 0, .string ⟨#[]⟩, .string ⟨#[]⟩] from rfl] at E3 A11 L11
        generalize (x10.alloc (.cells #[.string ⟨#[100]⟩, .int .i64 1, .int .i64 0, .string ⟨#[]⟩, .string ⟨#[]⟩, .string ⟨#[100, 47, 120, 46, 111]⟩, .int .i64 2, .int .i64 0, .string ⟨#[]⟩, .string ⟨#[]⟩, .string ⟨#[100, 47, 121]⟩, .int .i64 2, .int .i64 0, .string ⟨#[]⟩, .string ⟨#[]⟩] 38)) = W11 at *
        generalize x10.heap.size = ge at *
        have KP := keep_p (kept_okT x7.heap.size rs4) (.pointer (some ⟨x7.heap.size, 0, none⟩)) (okB rs4) (out_okT x7.heap.size rs4 F4) _ ent3 W11 L11 E3 (by decide) (by decide)
        rw [K3] at KP
        clear L10 L11 E3
        go_wp2_with fail
        refine KP.mono ?_
        rintro e x12 ⟨u, rfl, ow, y12⟩
        have A12 := joinT A11 y12
        have EE := ents_of_owns ow
        obtain ⟨au, cu, bu, ou, rfl, ha, hcu, hcc⟩ := EE
        obtain rfl := ha (by simp)
        have HCC : Hid (∀ W, Below x12.heap.size x12 W → W.cell? ⟨bu, ou, none⟩ = some (.string ⟨#[100]⟩) ∧ W.cell? ⟨bu, ou + 5, none⟩ = some (.string ⟨#[100, 47, 121]⟩)) := fun W bb => by
          have h0 := ((hcc 0 _ rfl).below bb).c0
          have h1 := ((hcc 1 _ rfl).below bb).c0
          rw [Nat.zero_mul, Nat.add_zero] at h0
          rw [Nat.one_mul] at h1
          exact ⟨h0, h1⟩
        clear KP ow hcc ha
        have M1 := meta_p ⟨#[97, 42, 98]⟩ x12 (by decide)
        rw [meta_a] at M1
        go_wp2_with fail
        refine M1.mono ?_
        rintro e x13 ⟨rfl, y13⟩
        have M2 := meta_p ⟨#[97, 92, 98]⟩ x13 (by decide)
        rw [meta_b] at M2
        go_wp2_with fail
        refine M2.mono ?_
        rintro e x14 ⟨rfl, y14⟩
        have M3 := meta_p ⟨#[]⟩ x14 (by decide)
        rw [meta_c] at M3
        go_wp2_with fail
        refine M3.mono ?_
        rintro e x15 ⟨rfl, y15⟩
        have Y := joinT (joinT y13 y14) y15
        obtain ⟨c0, c1⟩ := HCC.out x15 Y
        clear M1 M2 M3 HCC
        go_wp2
        go_ret
        exact ⟨rfl, joinT A12 Y⟩
end Go.Proofs.YthkbhcefckbcnaaGreatDoor
