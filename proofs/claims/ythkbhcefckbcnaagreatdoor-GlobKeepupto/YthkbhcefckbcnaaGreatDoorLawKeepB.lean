/- GlobKeep, walked: the walk itself. -/
import Derived.Test.YthkbhcefckbcnaaGreatDoorSpec
import Derived.Test.YthkbhcefckbcnaaGreatDoorSplitM
import Derived.Test.YthkbhcefckbcnaaGreatDoorOwnM
import Derived.ChangeKeysEq
import Derived.Laws.StructEq
import Derived.Laws.OwnMore
import Derived.Laws.Tables
import Derived.Deep.MidRow
import Derived.Test.YthkbhcefckbcnaaGreatDoorRows
import Derived.Test.YthkbhcefckbcnaaGreatDoorPlain
import Derived.LaidHandle
import Derived.LaidLaws
import Derived.Stop.Joined
import Derived.Lib.LaidTab
import Derived.SliceStrings
import Derived.Deep.Slices
import Derived.Deep.Strs
import Derived.ChangeArms
import Derived.Test.YthkbhcefckbcnaaGreatDoorCut
import Derived.Test.YthkbhcefckbcnaaGreatDoorTakeN
import Derived.Sort.OwnSorted
import Derived.Test.YthkbhcefckbcnaaGreatDoorBoolRow
import Derived.Test.YthkbhcefckbcnaaGreatDoorRules
import Derived.Deep.QuietTactic
import Derived.BigQuiet
import Derived.Test.YthkbhcefckbcnaaGreatDoorSet
import Derived.Laws.IdiomStrings
import Derived.Laws.CopyOwn
import Derived.Deep.CutRange
import Derived.ArgAppend
import Derived.Deep.DeepAppendRoom
import Derived.Deep.RegionWith
import Derived.Maps.AppendAt
import Derived.Test.YthkbhcefckbcnaaGreatDoorLawOutB

namespace Go.Proofs.YthkbhcefckbcnaaGreatDoor
open Go

theorem compareBytes_self : ∀ l : List UInt8, Lib.compareBytes l l = 0
  | [] => rfl
  | c :: l => by simp [Lib.compareBytes, compareBytes_self l]
theorem compareBytes_zero : ∀ a b : List UInt8, Lib.compareBytes a b = 0 → a = b
  | [], [], _ => rfl
  | [], _ :: _, h => by simp [Lib.compareBytes] at h
  | _ :: _, [], h => by simp [Lib.compareBytes] at h
  | x :: a, y :: b, h => by
    unfold Lib.compareBytes at h
    by_cases h1 : x < y
    · simp [h1] at h
    · by_cases h2 : y < x
      · simp [h1, h2] at h
      · simp only [h1, h2, if_false] at h
        have : x = y := by
          have a1 : ¬ x.toNat < y.toNat := h1
          have a2 : ¬ y.toNat < x.toNat := h2
          exact UInt8.toNat_inj.1 (by omega)
        rw [this, compareBytes_zero a b h]
def cmpB (x y : ByteArray) : Int := Lib.compareBytes (un x) (un y)
theorem cmpB_self (x : ByteArray) : cmpB x x = 0 := compareBytes_self _
theorem cmpB_zero {x y : ByteArray} (h : cmpB x y = 0) : x = y := un_inj (compareBytes_zero _ _ h)
def compareP : List ByteArray → List ByteArray → Int
  | [], [] => 0
  | [], _ :: _ => -1
  | _ :: _, [] => 1
  | x :: xs, y :: ys => if cmpB x y = 0 then compareP xs ys else cmpB x y
theorem compareP_same : ∀ (pre xs ys : List ByteArray), compareP (pre ++ xs) (pre ++ ys) = compareP xs ys
  | [], _, _ => rfl
  | x :: pre, xs, ys => by simp [compareP, cmpB_self, compareP_same pre xs ys]
def compareN (a b : ByteArray) : Int := compareP (piecesB a) (piecesB b)
end Go.Proofs.YthkbhcefckbcnaaGreatDoor

namespace Go.Proofs.YthkbhcefckbcnaaGreatDoor
open Go

/-- Does p lie below dir? -/
def belowB (dir p : ByteArray) : Bool := if dir.toList.isEmpty then !p.toList.isEmpty else (Lib.hasPrefix (un p) (un dir) && Lib.hasPrefix (Lib.trimPrefix (un p) (un dir)) [47])
theorem hasPrefix_take (l h : List UInt8) : Lib.hasPrefix l h = (decide (h.length ≤ l.length) && (l.take h.length == h)) := by
  unfold Lib.hasPrefix
  rw [Bool.eq_iff_iff]
  simp only [List.isPrefixOf_iff_prefix, Bool.and_eq_true, decide_eq_true_eq, beq_iff_eq]
  constructor
  · rintro ⟨t, rfl⟩; simp
  · rintro ⟨_, h2⟩; exact ⟨l.drop h.length, by have h3 := List.take_append_drop h.length l; rw [h2] at h3; exact h3⟩
theorem belowB_r (a b : ByteArray) (h : a.toList.isEmpty = false) : belowB a b = Lib.hasPrefix (un b) (un a ++ [47]) := by
  unfold belowB
  rw [h]
  simp only [Bool.false_eq_true, if_false, Lib.trimPrefix]
  rw [Bool.eq_iff_iff]
  constructor
  · intro hh
    rw [Bool.and_eq_true] at hh
    obtain ⟨h1, h2⟩ := hh
    rw [if_pos h1] at h2
    unfold Lib.hasPrefix at *
    rw [List.isPrefixOf_iff_prefix] at *
    obtain ⟨t, ht⟩ := h1
    obtain ⟨u, hu⟩ := h2
    rw [← ht] at hu
    simp at hu
    exact ⟨u, by rw [← ht, ← hu]; simp⟩
  · intro hh
    have h1 : Lib.hasPrefix (un b) (un a) = true := by
      unfold Lib.hasPrefix at *
      rw [List.isPrefixOf_iff_prefix] at *
      obtain ⟨u, hu⟩ := hh
      exact ⟨47 :: u, by rw [← hu]; simp⟩
    rw [h1, if_pos rfl]
    unfold Lib.hasPrefix at *
    simp only [Bool.true_and]
    rw [List.isPrefixOf_iff_prefix] at *
    obtain ⟨u, hu⟩ := hh
    exact ⟨u, by rw [← hu]; simp⟩
end Go.Proofs.YthkbhcefckbcnaaGreatDoor

namespace Go.Proofs.YthkbhcefckbcnaaGreatDoor

theorem cb_range : ∀ a b : List UInt8, Lib.compareBytes a b = -1 ∨ Lib.compareBytes a b = 0 ∨ Lib.compareBytes a b = 1
  | [], [] => by simp [Lib.compareBytes]
  | [], _ :: _ => by simp [Lib.compareBytes]
  | _ :: _, [] => by simp [Lib.compareBytes]
  | x :: a, y :: b => by
    have ih := cb_range a b
    unfold Lib.compareBytes
    by_cases h1 : x < y
    · simp [h1]
    · by_cases h2 : y < x
      · simp [h1, h2]
      · simpa [h1, h2] using ih
theorem cb_neg : ∀ a b : List UInt8, Lib.compareBytes a b = - Lib.compareBytes b a
  | [], [] => by simp [Lib.compareBytes]
  | [], _ :: _ => by simp [Lib.compareBytes]
  | _ :: _, [] => by simp [Lib.compareBytes]
  | x :: a, y :: b => by
    have ih := cb_neg a b
    unfold Lib.compareBytes
    by_cases h1 : x < y
    · have h2 : ¬ y < x := fun h => by have a1 : x.toNat < y.toNat := h1; have a2 : y.toNat < x.toNat := h; omega
      simp [h1, h2]
    · by_cases h2 : y < x
      · simp [h1, h2]
      · simpa [h1, h2] using ih
theorem cb_trans : ∀ a b c : List UInt8, Lib.compareBytes a b = -1 → Lib.compareBytes b c = -1 → Lib.compareBytes a c = -1
  | [], [], _, h, _ => by simp [Lib.compareBytes] at h
  | [], _ :: _, [], _, h => by simp [Lib.compareBytes] at h
  | [], _ :: _, _ :: _, _, _ => by simp [Lib.compareBytes]
  | _ :: _, [], _, h, _ => by simp [Lib.compareBytes] at h
  | _ :: _, _ :: _, [], _, h => by simp [Lib.compareBytes] at h
  | x :: a, y :: b, z :: c, h, k => by
    unfold Lib.compareBytes at h k ⊢
    by_cases h1 : x.toNat < y.toNat
    · by_cases k1 : y.toNat < z.toNat
      · have : x < z := show x.toNat < z.toNat by omega
        simp [this]
      · by_cases k2 : z.toNat < y.toNat
        · have n1 : ¬ y < z := k1
          have n2 : z < y := k2
          simp [n1, n2] at k
        · have : x < z := show x.toNat < z.toNat by omega
          simp [this]
    · by_cases h2 : y.toNat < x.toNat
      · have n1 : ¬ x < y := h1
        have n2 : y < x := h2
        simp [n1, n2] at h
      · have n1 : ¬ x < y := h1
        have n2 : ¬ y < x := h2
        simp only [n1, n2, if_false] at h
        by_cases k1 : y.toNat < z.toNat
        · have : x < z := show x.toNat < z.toNat by omega
          simp [this]
        · by_cases k2 : z.toNat < y.toNat
          · have m1 : ¬ y < z := k1
            have m2 : z < y := k2
            simp [m1, m2] at k
          · have m1 : ¬ y < z := k1
            have m2 : ¬ z < y := k2
            simp only [m1, m2, if_false] at k
            have o1 : ¬ x < z := show ¬ x.toNat < z.toNat by omega
            have o2 : ¬ z < x := show ¬ z.toNat < x.toNat by omega
            simp only [o1, o2, if_false]
            exact cb_trans a b c h k

theorem cmpB_range (x y : ByteArray) : cmpB x y = -1 ∨ cmpB x y = 0 ∨ cmpB x y = 1 := cb_range _ _
theorem cmpB_neg (x y : ByteArray) : cmpB x y = - cmpB y x := cb_neg _ _
theorem cp_range : ∀ a b : List ByteArray, compareP a b = -1 ∨ compareP a b = 0 ∨ compareP a b = 1
  | [], [] => by simp [compareP]
  | [], _ :: _ => by simp [compareP]
  | _ :: _, [] => by simp [compareP]
  | x :: a, y :: b => by
    unfold compareP
    split
    · exact cp_range a b
    · exact cmpB_range x y
theorem cp_neg : ∀ a b : List ByteArray, compareP a b = - compareP b a
  | [], [] => by simp [compareP]
  | [], _ :: _ => by simp [compareP]
  | _ :: _, [] => by simp [compareP]
  | x :: a, y :: b => by
    have e := cmpB_neg x y
    unfold compareP
    by_cases h : cmpB x y = 0
    · rw [if_pos h, if_pos (by omega)]; exact cp_neg a b
    · rw [if_neg h, if_neg (by omega)]; exact e
theorem cp_zero : ∀ a b : List ByteArray, compareP a b = 0 → a = b
  | [], [], _ => rfl
  | [], _ :: _, h => by simp [compareP] at h
  | _ :: _, [], h => by simp [compareP] at h
  | x :: a, y :: b, h => by
    unfold compareP at h
    by_cases e : cmpB x y = 0
    · rw [if_pos e] at h; rw [cmpB_zero e, cp_zero a b h]
    · rw [if_neg e] at h; exact absurd h e
theorem cp_self (a : List ByteArray) : compareP a a = 0 := by have := cp_neg a a; omega
theorem cmpB_trans {x y z : ByteArray} (h : cmpB x y = -1) (k : cmpB y z = -1) : cmpB x z = -1 := cb_trans _ _ _ h k
theorem cp_trans : ∀ a b c : List ByteArray, compareP a b = -1 → compareP b c = -1 → compareP a c = -1
  | [], [], _, h, _ => by simp [compareP] at h
  | [], _ :: _, [], _, h => by simp [compareP] at h
  | [], _ :: _, _ :: _, _, _ => by simp [compareP]
  | _ :: _, [], _, h, _ => by simp [compareP] at h
  | _ :: _, _ :: _, [], _, h => by simp [compareP] at h
  | x :: a, y :: b, z :: c, h, k => by
    unfold compareP at h k ⊢
    by_cases e1 : cmpB x y = 0
    · rw [if_pos e1] at h
      obtain rfl := cmpB_zero e1
      by_cases e2 : cmpB x z = 0
      · rw [if_pos e2] at k ⊢; exact cp_trans a b c h k
      · rw [if_neg e2] at k ⊢; exact k
    · rw [if_neg e1] at h
      by_cases e2 : cmpB y z = 0
      · obtain rfl := cmpB_zero e2
        rw [if_neg e1]; exact h
      · rw [if_neg e2] at k
        have t := cmpB_trans h k
        rw [if_neg (by omega)]; exact t
/-- What stands between a list and one that begins with it begins with it too. -/
theorem cp_between : ∀ (a b t : List ByteArray), compareP a b = -1 → compareP b (a ++ t) = -1 → ∃ u, u ≠ [] ∧ b = a ++ u
  | [], [], _, h, _ => by simp [compareP] at h
  | [], y :: b, _, _, _ => ⟨y :: b, by simp, rfl⟩
  | _ :: _, [], _, h, _ => by simp [compareP] at h
  | x :: a, y :: b, t, h, k => by
    rw [List.cons_append] at k
    unfold compareP at h k
    have e := cmpB_neg x y
    by_cases e1 : cmpB x y = 0
    · rw [if_pos e1] at h
      rw [if_pos (by omega)] at k
      obtain ⟨u, hu, hb⟩ := cp_between a b t h k
      exact ⟨u, hu, by rw [hb, cmpB_zero e1]; rfl⟩
    · rw [if_neg e1] at h
      rw [if_neg (by omega)] at k
      omega

/- Pieces, put together again. -/
def glue : List (List UInt8) → List UInt8
  | [] => []
  | [x] => x
  | x :: y :: r => x ++ 47 :: glue (y :: r)
theorem glue_cons (x : List UInt8) (r : List (List UInt8)) (h : r ≠ []) : glue (x :: r) = x ++ 47 :: glue r := by
  cases r with
  | nil => exact absurd rfl h
  | cons y r => rfl
theorem glue_cut : ∀ l : List UInt8, glue (cutL l) = l
  | [] => rfl
  | c :: l => by
    have ih := glue_cut l
    rw [cutL_cons]
    by_cases hc : (c == 47) = true
    · rw [if_pos hc, glue_cons _ _ (cutL_ne l), ih]; simp at hc; simp [hc]
    · rw [if_neg hc]
      cases h : cutL l with
      | nil => exact absurd h (cutL_ne l)
      | cons p r =>
        rw [h] at ih
        cases r with
        | nil => simpa [glue] using ih
        | cons q r => simpa [glue] using ih
theorem glue_append (a b : List (List UInt8)) (ha : a ≠ []) (hb : b ≠ []) : glue (a ++ b) = glue a ++ 47 :: glue b := by
  induction a with
  | nil => exact absurd rfl ha
  | cons x r ih =>
    cases r with
    | nil => rw [List.singleton_append, glue_cons x b hb]; rfl
    | cons y r => rw [List.cons_append, glue_cons x _ (by simp), ih (by simp), glue_cons x (y :: r) (by simp)]; simp
theorem cut_append : ∀ (a b : List UInt8), cutL (a ++ 47 :: b) = cutL a ++ cutL b
  | [], b => by simp [cutL]
  | c :: a, b => by
    have ih := cut_append a b
    rw [List.cons_append, cutL_cons, cutL_cons, ih]
    by_cases hc : (c == 47) = true
    · rw [if_pos hc, if_pos hc]; rfl
    · rw [if_neg hc, if_neg hc]
      cases h : cutL a with
      | nil => exact absurd h (cutL_ne a)
      | cons p r => simp
theorem cut_inj {a b : List UInt8} (h : cutL a = cutL b) : a = b := by rw [← glue_cut a, ← glue_cut b, h]
theorem pieces_inj {a b : ByteArray} (h : piecesB a = piecesB b) : a = b := by
  have h1 : ((piecesB a).map un) = ((piecesB b).map un) := by rw [h]
  unfold piecesB at h1
  rw [List.map_map, List.map_map] at h1
  have e : ∀ l : List (List UInt8), l.map (un ∘ bs) = l := fun l => by
    induction l with
    | nil => rfl
    | cons x l ih => simp [un_bs, ih]
  rw [e, e] at h1
  exact un_inj (cut_inj h1)

theorem below_iff {a c : ByteArray} (ha : a.toList.isEmpty = false) : belowB a c = true ↔ ∃ t, un c = un a ++ 47 :: t := by
  rw [belowB_r a c ha]
  unfold Lib.hasPrefix
  rw [List.isPrefixOf_iff_prefix]
  constructor
  · rintro ⟨t, ht⟩; exact ⟨t, by rw [← ht]; simp⟩
  · rintro ⟨t, ht⟩; exact ⟨t, by rw [ht]; simp⟩
theorem below_pieces {a c : ByteArray} (ha : a.toList.isEmpty = false) (h : belowB a c = true) : ∃ t, t ≠ [] ∧ piecesB c = piecesB a ++ t := by
  obtain ⟨t, ht⟩ := (below_iff ha).1 h
  refine ⟨(cutL t).map bs, by simp [cutL_ne], ?_⟩
  unfold piecesB; rw [ht, cut_append]; simp
theorem pieces_below {a b : ByteArray} (ha : a.toList.isEmpty = false) {u : List ByteArray} (hu : u ≠ []) (h : piecesB b = piecesB a ++ u) : belowB a b = true := by
  rw [below_iff ha]
  have h1 : ((piecesB b).map un) = ((piecesB a).map un) ++ u.map un := by rw [h]; simp
  unfold piecesB at h1
  rw [List.map_map, List.map_map] at h1
  have e : ∀ l : List (List UInt8), l.map (un ∘ bs) = l := fun l => by
    induction l with
    | nil => rfl
    | cons x l ih => simp [un_bs, ih]
  rw [e, e] at h1
  have h2 := congrArg glue h1
  rw [glue_cut, glue_append _ _ (cutL_ne _) (by simpa using hu), glue_cut] at h2
  exact ⟨_, h2⟩

theorem order_range (a b : ByteArray) : -1 ≤ compareN a b ∧ compareN a b ≤ 1 := by rcases cp_range (piecesB a) (piecesB b) with h | h | h <;> (unfold compareN; omega)
theorem order_neg (a b : ByteArray) : compareN a b = - compareN b a := cp_neg _ _
theorem order_zero {a b : ByteArray} (h : compareN a b = 0) : a = b := pieces_inj (cp_zero _ _ h)
theorem order_self (a : ByteArray) : compareN a a = 0 := cp_self _
theorem order_trans {a b c : ByteArray} (h : compareN a b < 0) (k : compareN b c < 0) : compareN a c < 0 := by
  have h1 := order_range a b
  have h2 := order_range b c
  have := cp_trans (piecesB a) (piecesB b) (piecesB c) (show compareN a b = -1 by omega) (show compareN b c = -1 by omega)
  show compareP _ _ < 0; omega
theorem order_below {a c : ByteArray} (ha : a.toList.isEmpty = false) (h : belowB a c = true) : compareN a c = -1 := by
  obtain ⟨t, ht, e⟩ := below_pieces ha h
  have e2 := compareP_same (piecesB a) [] t
  rw [List.append_nil] at e2
  unfold compareN; rw [e, e2]
  cases t with
  | nil => exact absurd rfl ht
  | cons _ _ => rfl
theorem order_between {a b c : ByteArray} (ha : a.toList.isEmpty = false) (h : belowB a c = true) (h1 : compareN a b < 0) (h2 : compareN b c < 0) : belowB a b = true := by
  obtain ⟨t, _, e⟩ := below_pieces ha h
  have r1 := order_range a b
  have r2 := order_range b c
  have k1 : compareP (piecesB a) (piecesB b) = -1 := by show compareN a b = -1; omega
  have k2 : compareP (piecesB b) (piecesB a ++ t) = -1 := by rw [← e]; show compareN b c = -1; omega
  obtain ⟨u, hu, hb⟩ := cp_between _ _ _ k1 k2
  exact pieces_below ha hu hb
end Go.Proofs.YthkbhcefckbcnaaGreatDoor

namespace Go.Proofs.YthkbhcefckbcnaaGreatDoor
open Go

/-- An entry. -/
structure Ent where
  path : ByteArray
  kind : Int
  mode : Int
  data : ByteArray
  link : ByteArray
def ecs (e : Ent) : List Value := [.string e.path, .int .i64 e.kind, .int .i64 e.mode, .string e.data, .string e.link]
def ecells (es : List Ent) : List Value := es.flatMap ecs
theorem ecells_cons (e : Ent) (es : List Ent) : ecells (e :: es) = ecs e ++ ecells es := rfl
theorem ecells_length (es : List Ent) : (ecells es).length = es.length * 5 := by
  induction es with
  | nil => rfl
  | cons e es ih => rw [ecells_cons, List.length_append, ih]; simp [ecs]; omega
theorem ecells_append (a b : List Ent) : ecells (a ++ b) = ecells a ++ ecells b := by simp [ecells]
theorem ecells_get : ∀ (es : List Ent) (k : Nat) (e : Ent), es[k]? = some e → ∀ j v, (ecs e)[j]? = some v → (ecells es)[k * 5 + j]? = some v
  | [], k, e, h, _, _, _ => by simp at h
  | q :: es, 0, e, h, j, v, hj => by
    have hq : q = e := by simpa using h
    subst hq
    have hl : j < (ecs q).length := (List.getElem?_eq_some_iff.1 hj).1
    rw [ecells_cons, Nat.zero_mul, Nat.zero_add, List.getElem?_append_left hl]; exact hj
  | q :: es, k + 1, e, h, j, v, hj => by
    have ih := ecells_get es k e (by simpa using h) j v hj
    rw [ecells_cons, List.getElem?_append_right (by simp [ecs]; omega)]
    rw [← ih]; congr 1; simp [ecs]; omega

/-- Is one of the entries that aren't out below a path? -/
def anyB (ok : ByteArray → Bool) (es : List Ent) (dir : ByteArray) : Bool := es.any fun f => belowB dir f.path && ok f.path
def stayB (ok : ByteArray → Bool) (es : List Ent) (e : Ent) : Bool := ok e.path || anyB ok es e.path
/-- What stays. -/
def keepB (ok : ByteArray → Bool) (es : List Ent) : List Ent := es.filter (stayB ok es)

/- The program's way: the texts that aren't out in their order, and a search. -/
theorem pre_between : ∀ {f y x : List UInt8}, ¬ y < f → ¬ x < y → f <+: x → f <+: y
  | [], _, _, _, _, _ => List.nil_prefix
  | a :: f, [], _, h, _, _ => absurd (List.Lex.nil) h
  | a :: f, b :: y, x, h1, h2, hp => by
    obtain ⟨t, rfl⟩ := hp
    rw [List.cons_append] at h2
    rw [List.cons_lt_cons_iff] at h1 h2
    have hab : a = b := by
      have e1 : ¬ b < a := fun h => h1 (.inl h)
      have e2 : ¬ a < b := fun h => h2 (.inl h)
      have e1' : ¬ b.toNat < a.toNat := e1
      have e2' : ¬ a.toNat < b.toNat := e2
      exact UInt8.toNat_inj.1 (by omega)
    subst hab
    have := pre_between (fun h => h1 (.inr ⟨rfl, h⟩)) (fun h => h2 (.inr ⟨rfl, h⟩)) (List.prefix_append f t)
    exact (List.cons_prefix_cons).2 ⟨rfl, this⟩
theorem lt_not_pre : ∀ {f y : List UInt8}, y < f → ¬ f <+: y
  | [], y, h, _ => absurd h (List.not_lt_nil y)
  | a :: f, [], _, hp => by obtain ⟨t, ht⟩ := hp; simp at ht
  | a :: f, b :: y, h, hp => by
    obtain ⟨rfl, h2⟩ := (List.cons_prefix_cons).1 hp
    rw [List.cons_lt_cons_iff] at h
    rcases h with h | ⟨_, h⟩
    · exact absurd (show a.toNat < a.toNat from h) (by omega)
    · exact lt_not_pre h h2
theorem lt_le : ∀ {y f t : List UInt8}, y < f → ¬ t < f → y < t
  | y, [], t, h, _ => absurd h (List.not_lt_nil y)
  | [], b :: f, [], _, h2 => absurd List.Lex.nil h2
  | [], b :: f, c :: t, _, _ => List.Lex.nil
  | a :: y, b :: f, [], _, h2 => absurd List.Lex.nil h2
  | a :: y, b :: f, c :: t, h1, h2 => by
    rw [List.cons_lt_cons_iff] at h1 h2 ⊢
    have e2 : ¬ c.toNat < b.toNat := fun h => h2 (.inl h)
    rcases h1 with h1 | ⟨rfl, h1⟩
    · have e1 : a.toNat < b.toNat := h1
      exact .inl (show a.toNat < c.toNat by omega)
    · by_cases hac : a = c
      · subst hac
        exact .inr ⟨rfl, lt_le h1 (fun h => h2 (.inr ⟨rfl, h⟩))⟩
      · have e3 : a.toNat ≠ c.toNat := fun h => hac (UInt8.toNat_inj.1 h)
        exact .inl (show a.toNat < c.toNat by omega)
theorem search_any (f : List UInt8) : ∀ ts : List (List UInt8), ts.Pairwise (fun a b => ¬ b < a) → ((ts[ts.countP fun y => decide (y < f)]?).any fun y => f.isPrefixOf y) = ts.any fun y => f.isPrefixOf y
  | [], _ => rfl
  | t :: ts, h => by
    obtain ⟨h1, h2⟩ := List.pairwise_cons.1 h
    by_cases hl : t < f
    · have hd : decide (t < f) = true := decide_eq_true hl
      rw [List.countP_cons_of_pos (by simpa using hl), List.getElem?_cons_succ, search_any f ts h2, List.any_cons]
      have : f.isPrefixOf t = false := by
        rw [Bool.eq_false_iff]; intro hp; exact lt_not_pre hl (List.isPrefixOf_iff_prefix.1 hp)
      rw [this, Bool.false_or]
    · have hge : ∀ y ∈ ts, ¬ y < f := fun y hy hyf => by
        have := h1 y hy
        exact this (lt_le hyf hl)
      have hc : (t :: ts).countP (fun y => decide (y < f)) = 0 := by
        rw [List.countP_eq_zero]
        intro y hy
        rcases List.mem_cons.1 hy with rfl | hy
        · simpa using hl
        · simpa using hge y hy
      rw [hc, List.getElem?_cons_zero, Option.any_some, List.any_cons]
      cases hp : f.isPrefixOf t with
      | true => rfl
      | false =>
        rw [Bool.false_or]
        symm
        rw [List.any_eq_false]
        intro y hy hpy
        have := pre_between hl (h1 y hy) (List.isPrefixOf_iff_prefix.1 hpy)
        rw [← List.isPrefixOf_iff_prefix] at this
        rw [hp] at this; cases this
def firstB (dir : ByteArray) : ByteArray := if dir.toList.isEmpty then dir else dir ++ ⟨#[47]⟩
def lessN (dir : ByteArray) (row : List ByteArray) : Nat := row.countP fun y => decide (un y < un (firstB dir))
def anyS (dir : ByteArray) (row : List ByteArray) : Bool := (row[lessN dir row]?).any fun y => belowB dir y
theorem anyS_eq (dir : ByteArray) (row : List ByteArray) (hs : (row.map un).Pairwise (fun a b => ¬ b < a)) (h0 : dir.size = 0 → ∀ y ∈ row, y.size ≠ 0) : anyS dir row = row.any (belowB dir) := by
  unfold anyS lessN firstB
  cases he : dir.toList.isEmpty with
  | true =>
    have hz : dir.size = 0 := (isEmpty_iff _).1 he
    have hud : un dir = [] := by rw [← List.length_eq_zero_iff, un_length]; exact hz
    have hc : row.countP (fun y => decide (un y < un (if true = true then dir else dir ++ ⟨#[47]⟩))) = 0 := by
      rw [List.countP_eq_zero]; intro y _; simp [hud]
    rw [hc]
    have hb : ∀ y ∈ row, belowB dir y = true := fun y hy => by
      unfold belowB; rw [he, if_pos rfl]
      have := h0 hz y hy
      rw [(isEmpty_false y).2 (by omega)]; rfl
    cases row with
    | nil => rfl
    | cons y row => simp [hb y (by simp)]
  | false =>
    have hf : un (if false = true then dir else dir ++ ⟨#[47]⟩) = un dir ++ [47] := by
      rw [if_neg (by decide), un_append]; rfl
    rw [hf]
    have hb : ∀ y, belowB dir y = (un dir ++ [47]).isPrefixOf (un y) := fun y => by rw [belowB_r dir y he]; rfl
    have h := search_any (un dir ++ [47]) (row.map un) hs
    rw [List.countP_map, List.any_map, List.getElem?_map] at h
    have hb2 : belowB dir = fun y => (un dir ++ [47]).isPrefixOf (un y) := funext hb
    rw [hb2]
    rw [Option.any_map] at h
    exact h
/-- The texts that aren't out. -/
def inL (ok : ByteArray → Bool) (es : List Ent) : List ByteArray := (es.map Ent.path).filter ok
/-- They in their order. -/
def srtL (ok : ByteArray → Bool) (es : List Ent) : List ByteArray := (((inL ok es).map un).mergeSort fun x y => decide (x ≤ y)).map bs
theorem srt_un (l : List (List UInt8)) : (l.map bs).map un = l := by
  rw [List.map_map]; induction l with | nil => rfl | cons x l ih => simp [un_bs, ih]
theorem srt_pair (ok : ByteArray → Bool) (es : List Ent) : ((srtL ok es).map un).Pairwise (fun a b => ¬ b < a) := by
  unfold srtL
  rw [srt_un]
  have h := List.pairwise_mergeSort (le := fun x y : List UInt8 => decide (x ≤ y)) (fun a b c h1 h2 => decide_eq_true (List.le_trans (of_decide_eq_true h1) (of_decide_eq_true h2))) (fun a b => by
    rcases List.le_total a b with h | h
    · simp [h]
    · simp [h]) ((inL ok es).map un)
  exact h.imp fun {a b} hh => List.not_lt.2 (of_decide_eq_true hh)
theorem srt_mem (ok : ByteArray → Bool) (es : List Ent) (y : ByteArray) : y ∈ srtL ok es ↔ y ∈ inL ok es := by
  unfold srtL
  rw [List.mem_map]
  constructor
  · rintro ⟨x, hx, rfl⟩
    rw [List.mem_mergeSort, List.mem_map] at hx
    obtain ⟨z, hz, rfl⟩ := hx
    rw [bs_un]; exact hz
  · intro h
    exact ⟨un y, by rw [List.mem_mergeSort]; exact List.mem_map_of_mem h, bs_un y⟩
theorem srt_length (ok : ByteArray → Bool) (es : List Ent) : (srtL ok es).length = (inL ok es).length := by unfold srtL; simp
theorem in_mem (ok : ByteArray → Bool) (es : List Ent) (y : ByteArray) : y ∈ inL ok es ↔ ∃ f ∈ es, f.path = y ∧ ok y = true := by
  unfold inL; rw [List.mem_filter, List.mem_map]
  constructor
  · rintro ⟨⟨f, h1, rfl⟩, h2⟩; exact ⟨f, h1, rfl, h2⟩
  · rintro ⟨f, h1, rfl, h2⟩; exact ⟨⟨f, h1, rfl⟩, h2⟩
/-- The program's test is the document's. -/
theorem anyS_stay (ok : ByteArray → Bool) (es : List Ent) (dir : ByteArray) (hd : ok dir = false) : anyS dir (srtL ok es) = anyB ok es dir := by
  rw [anyS_eq dir _ (srt_pair ok es) (fun hz y hy hy0 => by
    obtain ⟨f, _, _, h⟩ := (in_mem ok es y).1 ((srt_mem ok es y).1 hy)
    have e : y = dir := un_inj (by
      have h1 : un y = [] := by rw [← List.length_eq_zero_iff, un_length]; exact hy0
      have h2 : un dir = [] := by rw [← List.length_eq_zero_iff, un_length]; exact hz
      rw [h1, h2])
    rw [e, hd] at h; cases h)]
  rw [Bool.eq_iff_iff, List.any_eq_true]
  unfold anyB
  rw [List.any_eq_true]
  constructor
  · rintro ⟨y, hy, hb⟩
    obtain ⟨f, h1, h2, h3⟩ := (in_mem ok es y).1 ((srt_mem ok es y).1 hy)
    exact ⟨f, h1, by rw [h2, hb, h3]; rfl⟩
  · rintro ⟨f, h1, h2⟩
    rw [Bool.and_eq_true] at h2
    exact ⟨f.path, (srt_mem ok es _).2 ((in_mem ok es _).2 ⟨f, h1, rfl, h2.2⟩), h2.1⟩
def keepS (ok : ByteArray → Bool) (es : List Ent) (e : Ent) : Bool := ok e.path || anyS e.path (srtL ok es)
theorem keepS_eq (ok : ByteArray → Bool) (es : List Ent) (e : Ent) : keepS ok es e = stayB ok es e := by
  unfold keepS stayB
  cases h : ok e.path with
  | true => rfl
  | false => rw [anyS_stay ok es _ h]

/- What stays stays once more. -/
theorem keep_again (ok : ByteArray → Bool) (es : List Ent) : keepB ok (keepB ok es) = keepB ok es := by
  unfold keepB
  rw [List.filter_eq_self]
  intro e he
  have h2 := (List.mem_filter.1 he).2
  unfold stayB at h2 ⊢
  rw [Bool.or_eq_true] at h2 ⊢
  rcases h2 with h | h
  · exact .inl h
  · right
    unfold anyB at h
    rw [List.any_eq_true] at h
    obtain ⟨f, hf, hb⟩ := h
    have hb2 := hb
    rw [Bool.and_eq_true] at hb2
    exact List.any_eq_true.2 ⟨f, List.mem_filter.2 ⟨hf, by rw [hb2.2]; rfl⟩, hb⟩
theorem filter_at (p : Ent → Bool) : ∀ (es : List Ent) (i : Nat) (e : Ent), es[i]? = some e → p e = true → (es.filter p)[((es.take i).filter p).length]? = some e
  | [], i, e, h, _ => by simp at h
  | q :: es, 0, e, h, hp => by
    have hq : q = e := by simpa using h
    subst hq
    simp [hp]
  | q :: es, i + 1, e, h, hp => by
    have ih := filter_at p es i e (by simpa using h) hp
    rw [List.take_succ_cons, List.filter_cons, List.filter_cons]
    cases p q with
    | true => simpa using ih
    | false => simpa using ih
theorem filter_take_succ (p : Ent → Bool) (es : List Ent) (i : Nat) (e : Ent) (h : es[i]? = some e) : ((es.take (i + 1)).filter p).length = ((es.take i).filter p).length + (if p e then 1 else 0) := by
  rw [List.take_add_one, h, List.filter_append, List.length_append]
  cases hp : p e <;> simp [hp]

/- Entries that rise, each behind its directory. -/
def parOK (l : List Ent) (e : Ent) : Prop := (parentB e.path).size = 0 ∨ ∃ f ∈ l, f.path = parentB e.path ∧ f.kind = 1
def ahead1 (l : List Ent) (e : Ent) : Prop := ∀ d, l.getLast? = some d → compareN d.path e.path < 0
def Rises (es : List Ent) : Prop := es.Pairwise (fun a b => compareN a.path b.path < 0) ∧ ∀ pre e post, es = pre ++ e :: post → parOK pre e
theorem rises_nil : Rises [] := ⟨List.Pairwise.nil, fun pre e post h => by simp at h⟩
theorem rises_pre {a b : List Ent} (h : Rises (a ++ b)) : Rises a := ⟨(List.pairwise_append.1 h.1).1, fun pre e post he => h.2 pre e (post ++ b) (by rw [he]; simp)⟩
theorem rises_snoc {l : List Ent} {e : Ent} (h : Rises l) (h1 : ahead1 l e) (h2 : parOK l e) : Rises (l ++ [e]) := by
  refine ⟨List.pairwise_append.2 ⟨h.1, List.pairwise_singleton _ _, fun a ha b hb => ?_⟩, fun pre x post he => ?_⟩
  · obtain rfl : b = e := by simpa using hb
    rcases List.eq_nil_or_concat l with rfl | ⟨l', d, rfl⟩
    · cases ha
    · have hd := h1 d (by simp)
      rw [List.concat_eq_append, List.mem_append] at ha
      rcases ha with ha | ha
      · have := (List.pairwise_append.1 (by rw [← List.concat_eq_append]; exact h.1)).2.2 a ha d (by simp)
        exact order_trans this hd
      · obtain rfl : a = d := by simpa using ha
        exact hd
  · rcases List.eq_nil_or_concat post with rfl | ⟨p', d, rfl⟩
    · have := List.append_inj' he (by simp)
      obtain ⟨rfl, h3⟩ := this
      have h4 : x = e := by simpa using h3.symm
      rw [h4]; exact h2
    · rw [List.concat_eq_append] at he
      have e2 : l ++ [e] = (pre ++ x :: p') ++ [d] := by rw [he]; simp
      have := List.append_inj' e2 (by simp)
      exact h.2 pre x p' this.1
theorem rises_last {l : List Ent} {e : Ent} (h : Rises (l ++ [e])) : ahead1 l e ∧ parOK l e := by
  refine ⟨fun d hd => ?_, h.2 l e [] rfl⟩
  exact (List.pairwise_append.1 h.1).2.2 d (List.mem_of_getLast? hd) e (by simp)

theorem parent_below {p : ByteArray} (h : (parentB p).size ≠ 0) : belowB (parentB p) p = true := by
  have hne : (parentB p).toList.isEmpty = false := (isEmpty_false _).2 (by omega)
  rw [below_iff hne]
  unfold parentB at h ⊢
  by_cases hl : Lib.lastIndexByte p 47 < 0
  · rw [if_pos hl] at h; exact absurd rfl h
  · rw [if_neg hl]
    rcases Lib.lastIdx_spec p 47 p.size with ⟨h2, hn⟩ | ⟨i, hi, h2, hc, hn⟩
    · have e : Lib.lastIndexByte p 47 = -1 := h2
      omega
    · have e : Lib.lastIndexByte p 47 = i := h2
      rw [e, un_extract]
      have hc2 : p.data[i]! = p[i] := getElem!_pos p.data i hi
      rw [hc2] at hc
      have hget : (un p)[i]? = some 47 := by rw [un_getElem? p i hi]; congr 1; exact UInt8.toNat_inj.1 (by show p[i].toNat = 47; omega)
      have hlt : i < (un p).length := by rw [un_length]; exact hi
      have hdrop : (un p).drop i = 47 :: (un p).drop (i + 1) := by
        rw [List.drop_eq_getElem_cons hlt]
        rw [List.getElem?_eq_getElem hlt] at hget
        rw [Option.some.inj hget]
      refine ⟨(un p).drop (i + 1), ?_⟩
      rw [← hdrop]
      simp
theorem below_trans {a b c : ByteArray} (ha : a.size ≠ 0) (h1 : belowB a b = true) (h2 : belowB b c = true) : belowB a c = true := by
  have hae : a.toList.isEmpty = false := (isEmpty_false _).2 (by omega)
  obtain ⟨t, ht⟩ := (below_iff hae).1 h1
  have hbe : b.toList.isEmpty = false := (isEmpty_false _).2 (by rw [← un_length, ht]; simp; omega)
  obtain ⟨u, hu⟩ := (below_iff hbe).1 h2
  exact (below_iff hae).2 ⟨t ++ 47 :: u, by rw [hu, ht]; simp⟩
theorem split_filter (p : Ent → Bool) : ∀ (es pre : List Ent) (e : Ent) (post : List Ent), es.filter p = pre ++ e :: post → ∃ a b, es = a ++ e :: b ∧ a.filter p = pre ∧ p e = true
  | [], pre, e, post, h => by simp at h
  | q :: es, pre, e, post, h => by
    rw [List.filter_cons] at h
    by_cases hq : p q = true
    · rw [if_pos hq] at h
      cases pre with
      | nil =>
        simp at h
        obtain ⟨rfl, _⟩ := h
        exact ⟨[], es, rfl, rfl, hq⟩
      | cons x pre =>
        simp at h
        obtain ⟨rfl, h⟩ := h
        obtain ⟨a, b, h1, h2, h3⟩ := split_filter p es pre e post h
        exact ⟨q :: a, b, by rw [h1]; rfl, by rw [List.filter_cons, if_pos hq, h2], h3⟩
    · rw [if_neg hq] at h
      obtain ⟨a, b, h1, h2, h3⟩ := split_filter p es pre e post h
      exact ⟨q :: a, b, by rw [h1]; rfl, by rw [List.filter_cons, if_neg hq, h2], h3⟩
theorem keep_rises (ok : ByteArray → Bool) (es : List Ent) (h : Rises es) : Rises (keepB ok es) := by
  refine ⟨h.1.sublist List.filter_sublist, fun pre e post he => ?_⟩
  obtain ⟨a, b, h1, h2, h3⟩ := split_filter _ es pre e post he
  rcases h.2 a e b h1 with h4 | ⟨f, hf, h5, h6⟩
  · exact .inl h4
  · by_cases hz : (parentB e.path).size = 0
    · exact .inl hz
    · right
      refine ⟨f, ?_, h5, h6⟩
      rw [← h2, List.mem_filter]
      refine ⟨hf, ?_⟩
      have hb := parent_below hz
      unfold stayB at h3 ⊢
      rw [Bool.or_eq_true] at h3 ⊢
      right
      unfold anyB
      rw [List.any_eq_true]
      rcases h3 with h3 | h3
      · exact ⟨e, by rw [h1]; simp, by rw [h5, hb, h3]; rfl⟩
      · unfold anyB at h3
        rw [List.any_eq_true] at h3
        obtain ⟨g, hg, hgb⟩ := h3
        rw [Bool.and_eq_true] at hgb
        exact ⟨g, hg, by rw [h5, below_trans hz hb hgb.1, hgb.2]; rfl⟩
end Go.Proofs.YthkbhcefckbcnaaGreatDoor

namespace Go.Proofs.YthkbhcefckbcnaaGreatDoor
open Go Go.RowKit

theorem info_ent : (Tryz.prog.info? 38).map (fun i => (i.zero, i.size, i.bytes)) = some (some (.agg #[.string ⟨#[]⟩, .int .i64 0, .int .i64 0, .string ⟨#[]⟩, .string ⟨#[]⟩]), 5, 64) := by kernel_rfl
/-- An entry's cells, from a place on. -/
structure EntC (W : World) (b q : Nat) (e : Ent) : Prop where
  c0 : W.cell? ⟨b, q, none⟩ = some (.string e.path)
  c1 : W.cell? ⟨b, q + 1, none⟩ = some (.int .i64 e.kind)
  c2 : W.cell? ⟨b, q + 2, none⟩ = some (.int .i64 e.mode)
  c3 : W.cell? ⟨b, q + 3, none⟩ = some (.string e.data)
  c4 : W.cell? ⟨b, q + 4, none⟩ = some (.string e.link)
theorem EntC.below {W W2 : World} {b q : Nat} {e : Ent} (h : EntC W b q e) (hb : Below W.heap.size W W2) : EntC W2 b q e := by
  have hl := World.block_lt_of_cell? W _ h.c0
  exact ⟨(hb.cell (p := ⟨b, q, none⟩) hl).trans h.c0, (hb.cell (p := ⟨b, q + 1, none⟩) hl).trans h.c1, (hb.cell (p := ⟨b, q + 2, none⟩) hl).trans h.c2, (hb.cell (p := ⟨b, q + 3, none⟩) hl).trans h.c3, (hb.cell (p := ⟨b, q + 4, none⟩) hl).trans h.c4⟩
/-- A list of entries. -/
def EntsAt (W : World) (v : Value) (es : List Ent) : Prop :=
  ∃ (a : Option Addr) (cap b o : Nat), v = .slice a es.length cap ∧ (es ≠ [] → a = some ⟨b, o, none⟩) ∧ es.length ≤ cap ∧ ∀ i e, es[i]? = some e → EntC W b (o + i * 5) e
theorem EntsAt.below {W W2 : World} {v : Value} {es : List Ent} (h : EntsAt W v es) (hb : Below W.heap.size W W2) : EntsAt W2 v es := by
  obtain ⟨a, cap, b, o, h1, h2, h3, h4⟩ := h
  exact ⟨a, cap, b, o, h1, h2, h3, fun i e he => (h4 i e he).below hb⟩
theorem ents_of_owns {W : World} {base : Nat} {v : Value} {es : List Ent} (h : W.ownsRow base 38 5 v es.length (ecells es)) : EntsAt W v es := by
  rcases h.2 with ⟨rfl, h0⟩ | ⟨g, cap, cur, rfl, hg, hgb, hcap, _⟩
  · have : es = [] := List.eq_nil_of_length_eq_zero h0
    subst this
    exact ⟨none, 0, 0, 0, rfl, fun h => absurd rfl h, Nat.le_refl _, fun i e he => by simp at he⟩
  · refine ⟨some ⟨g, 0, none⟩, cap, g, 0, rfl, fun _ => rfl, hcap, fun i e he => ?_⟩
    have hi := (List.getElem?_eq_some_iff.1 he).1
    have hc : ∀ j v, (ecs e)[j]? = some v → W.cell? ⟨g, 0 + i * 5 + j, none⟩ = some v := fun j v hj => by
      have hj2 : j < 5 := (List.getElem?_eq_some_iff.1 hj).1
      rw [Nat.zero_add, h.cellAt (i * 5 + j) (by omega)]
      exact ecells_get es i e he j v hj
    exact ⟨hc 0 _ rfl, hc 1 _ rfl, hc 2 _ rfl, hc 3 _ rfl, hc 4 _ rfl⟩
theorem ents_take {W : World} {a : Option Addr} {cap b o : Nat} {es : List Ent} (h2 : es ≠ [] → a = some ⟨b, o, none⟩) (h3 : es.length ≤ cap) (h4 : ∀ i e, es[i]? = some e → EntC W b (o + i * 5) e) (n : Nat) (hn : n ≤ es.length) : EntsAt W (.slice a n cap) (es.take n) := by
  have hl : (es.take n).length = n := by rw [List.length_take]; omega
  refine ⟨a, cap, b, o, by rw [hl], fun h => h2 (fun e => h (by rw [e]; simp)), by omega, fun i e he => ?_⟩
  have : i < n := by have := (List.getElem?_eq_some_iff.1 he).1; omega
  rw [List.getElem?_take_of_lt this] at he
  exact h4 i e he

theorem eqF_cons {P : Program} {w : World} (d : Nat) (f : Field) (fs : List Field) (xs ys : Array Value) (a b : Value) (r R : Bool) (hn : f.name ≠ "_") (ha : (part f.type xs f.offset).run P w = .ok a w) (hb : (part f.type ys f.offset).run P w = .ok b w)
    (hr : (Op.equalIn d f.type a b).run P w = .ok r w) (hR : (Op.eqFields d xs ys fs).run P w = .ok R w) : (Op.eqFields d xs ys (f :: fs)).run P w = .ok (r && R) w := by
  simp only [Op.eqFields, if_pos hn, Sem.run_bind, ha, hb, hr, Result.andThen_ok]
  cases r with
  | false => simp
  | true => simpa using hR
theorem eqF_nil {P : Program} {w : World} (d : Nat) (xs ys : Array Value) : (Op.eqFields d xs ys []).run P w = .ok true w := rfl
def eva (e : Ent) : Array Value := #[.string e.path, .int .i64 e.kind, .int .i64 e.mode, .string e.data, .string e.link]
def eqE (a b : Ent) : Bool := (a.path.toList == b.path.toList) && ((a.kind == b.kind) && ((a.mode == b.mode) && ((a.data.toList == b.data.toList) && ((a.link.toList == b.link.toList) && true))))
theorem eqE_self (a : Ent) : eqE a a = true := by unfold eqE; simp
set_option maxRecDepth 100000 in
theorem eq_ent (a b : Ent) (w : World) : (Op.equalIn 10000 38 (.agg (eva a)) (.agg (eva b))).run Tryz.prog w = .ok (eqE a b) w := by
  rw [run_equalIn_struct w 9999 38 (eva a) (eva b) (by kernel_rfl) (by kernel_rfl)]
  have hs : ∀ x y : ByteArray, (Op.equalIn 9999 9 (.string x) (.string y)).run Tryz.prog w = .ok (x.toList == y.toList) w := fun x y => run_equalIn_string w 9998 _ x y Tryz.underlying9
  have hi : ∀ x y : Int, (Op.equalIn 9999 3 (.int .i64 x) (.int .i64 y)).run Tryz.prog w = .ok (x == y) w := fun x y => run_equalIn_int w 9998 _ .i64 .i64 _ _ Tryz.underlying3
  have hk : ∀ x y : Int, (Op.equalIn 9999 36 (.int .i64 x) (.int .i64 y)).run Tryz.prog w = .ok (x == y) w := fun x y => run_equalIn_int w 9998 _ .i64 .i64 _ _ Tryz.underlying36
  have pt : ∀ (h : Ent) (k : Nat) (v : Value) (t : TypeId), (isAgg t).run Tryz.prog w = .ok false w → (eva h)[k]? = some v → (part t (eva h) k).run Tryz.prog w = .ok v w := fun h k v t ht hv => by simp [part, ht, hv]
  have aS := Tryz.isAgg9 w
  have ai := Tryz.isAgg3 w
  have ak := Tryz.isAgg36 w
  unfold eqE
  rw [show (Tryz.prog.fieldsOf 38) = _ from by unfold Program.fieldsOf; rw [Tryz.underlying38]]
  exact eqF_cons 9999 _ _ _ _ _ _ _ _ (by decide) (pt a 0 _ _ aS rfl) (pt b 0 _ _ aS rfl) (hs _ _) (eqF_cons 9999 _ _ _ _ _ _ _ _ (by decide) (pt a 1 _ _ ak rfl) (pt b 1 _ _ ak rfl) (hk _ _) (eqF_cons 9999 _ _ _ _ _ _ _ _ (by decide) (pt a 2 _ _ ai rfl) (pt b 2 _ _ ai rfl) (hi _ _) (eqF_cons 9999 _ _ _ _ _ _ _ _ (by decide) (pt a 3 _ _ aS rfl) (pt b 3 _ _ aS rfl) (hs _ _) (eqF_cons 9999 _ _ _ _ _ _ _ _ (by decide) (pt a 4 _ _ aS rfl) (pt b 4 _ _ aS rfl) (hs _ _) (eqF_nil _ _ _)))))
theorem eq_self (a : Ent) (w : World) : (Op.equalIn 10000 38 (.agg #[.string a.path, .int .i64 a.kind, .int .i64 a.mode, .string a.data, .string a.link]) (.agg #[.string a.path, .int .i64 a.kind, .int .i64 a.mode, .string a.data, .string a.link])).run Tryz.prog w = .ok true w := by
  have := eq_ent a a w
  rw [eqE_self] at this; exact this
theorem ent_new (W : World) (t : TypeId) (e : Ent) : EntC (W.alloc (.cells #[.string e.path, .int .i64 e.kind, .int .i64 e.mode, .string e.data, .string e.link] t)) W.heap.size 0 e := by
  have h : ∀ (j : Nat) (v : Value), (#[.string e.path, .int .i64 e.kind, .int .i64 e.mode, .string e.data, .string e.link] : Array Value)[j]? = some v → (W.alloc (.cells #[.string e.path, .int .i64 e.kind, .int .i64 e.mode, .string e.data, .string e.link] t)).cell? ⟨W.heap.size, j, none⟩ = some v := fun j v hv => by
    unfold World.cell?
    rw [World.alloc_heap_new]
    exact hv
  exact ⟨h 0 _ rfl, h 1 _ rfl, h 2 _ rfl, h 3 _ rfl, h 4 _ rfl⟩
theorem ent_cells {W : World} {b : Nat} {e : Ent} (h : EntC W b 0 e) : ∀ j u, (ecs e)[j]? = some u → W.cell? ((⟨b, 0, none⟩ : Addr).add j) = some u := by
  intro j u hj
  rw [Addr.add_mid, Nat.zero_add]
  rcases j with _ | _ | _ | _ | _ | j
  · cases hj; exact h.c0
  · cases hj; exact h.c1
  · cases hj; exact h.c2
  · cases hj; exact h.c3
  · cases hj; exact h.c4
  · simp [ecs] at hj
theorem ent_one (e : Ent) : ∀ u ∈ ecs e, u.oneCell' = true := by
  intro u hu
  simp [ecs] at hu
  rcases hu with rfl | rfl | rfl | rfl | rfl <;> rfl

set_option maxRecDepth 100000 in
set_option maxHeartbeats 2000000 in
theorem copy_p (v : Value) (es : List Ent) (w : World) (hv : EntsAt w v es) (hl : es.length ≤ 1073741824) : Calls Tryz.prog 15 #[v] w fun e w' => ∃ u, e = .returned u ∧ w'.ownsRow w.heap.size 38 5 u es.length (ecells es) ∧ Below w.heap.size w w' := by
  obtain ⟨i0, hi, hz0, hz1, hz2⟩ := info_parts info_ent
  obtain ⟨a, cap, b, o, rfl, ha, hcap, hc⟩ := hv
  go_enter Tryz.func15, Tryz.ntmps15
  go_wp2
  go_loopw [3, 4] (fun v i wr => ∃ k : Nat, i = .int .i64 k ∧ k ≤ es.length ∧ wr.ownsRow w.heap.size 38 5 v (es.take k).length (ecells (es.take k)) ∧ Below w.heap.size w wr) (fun _ i _ => es.length - (intOf i).toNat)
  case atStart => exact ⟨0, rfl, Nat.zero_le _, World.ownsRow_nil _ _ _ _, Below.refl _ _⟩
  case round =>
    obtain ⟨k, rfl, hk, hown, hB⟩ := hrel
    have hsz := hB.size
    by_cases hlt : k < es.length
    · have hlt' : (k : Int) < (es.length : Int) := by omega
      have hk0 : (0 : Int) ≤ (k : Int) := by omega
      obtain ⟨x, hx⟩ : ∃ x, es[k]? = some x := ⟨_, List.getElem?_eq_getElem hlt⟩
      obtain rfl := ha (fun e => by rw [e] at hlt; simp at hlt)
      obtain ⟨c0, c1, c2, c3, c4⟩ := (hc k x hx).below hB
      have hlk : (es.take k).length ≤ es.length := by rw [List.length_take]; omega
      have HX : Hid (es.take (k + 1) = es.take k ++ [x]) := by unfold Hid; rw [List.take_add_one, hx]; rfl
      clear hx hc ha
      go_wp2_with (at_builtin; refine wpList_append_own _ rfl _ _ 22 rfl w.heap.size 38 i0 (.agg #[.string ⟨#[]⟩, .int .i64 0, .int .i64 0, .string ⟨#[]⟩, .string ⟨#[]⟩]) 5 64 Tryz.underlying22 hi hz0 hz1 hz2 rfl (by decide) _ _ _ rfl (hown.alloc _) ⟨wr.heap.size, 0, none⟩ 1 1 (ecs x) rfl rfl (ent_cells (ent_new wr _ x)) (ent_one x) (by unfold maxLen; omega) (by omega) (by simp; omega) ?_; intro v1 w1 hown1 hgrow1 _)
      have hb1 : Below w.heap.size w w1 := (hB.alloc hsz _).grown hgrow1 (by simp; omega) (fun j hj => (own_ge hown j hj.symm).1)
      have hown2 : w1.ownsRow w.heap.size 38 5 v1 (es.take (k + 1)).length (ecells (es.take (k + 1))) := by
        rw [HX.out, ecells_append, List.length_append]; simpa [ecells] using hown1
      clear hown1 hgrow1 hown
      go_roundw
      case rel => exact ⟨k + 1, by go_num, by omega, hown2, hb1⟩
      case measure => simp [intOf]; omega
    · have hge : ¬ (k : Int) < (es.length : Int) := by omega
      have hall : es.take k = es := List.take_of_length_le (by omega)
      rw [hall] at hown
      go_wp2
      go_ret
      exact ⟨_, rfl, hown, hB⟩

set_option maxRecDepth 100000 in
set_option maxHeartbeats 2000000 in
theorem same_p (u v : Value) (es : List Ent) (w : World) (hu : EntsAt w u es) (hv : EntsAt w v es) (hl : es.length ≤ 1073741824) : Calls Tryz.prog 13 #[u, v] w fun e w' => e = .returned (.bool true) ∧ Below w.heap.size w w' := by
  obtain ⟨a, cap, b, o, rfl, ha, hcap, hc⟩ := hu
  obtain ⟨a2, cap2, b2, o2, rfl, ha2, hcap2, hc2⟩ := hv
  go_enter Tryz.func13, Tryz.ntmps13
  go_wp2
  go_loopw [5] (fun i wr => ∃ k q : Nat, i = .int .i64 k ∧ k ≤ es.length ∧ wr = w.drewN q) (fun i _ => es.length - (intOf i).toNat)
  case atStart => exact ⟨0, 0, rfl, Nat.zero_le _, rfl⟩
  case round =>
    obtain ⟨k, q, rfl, hk, rfl⟩ := hrel
    by_cases hlt : k < es.length
    · have hlt' : (k : Int) < (es.length : Int) := by omega
      have hk0 : (0 : Int) ≤ (k : Int) := by omega
      obtain ⟨x, hx⟩ : ∃ x, es[k]? = some x := ⟨_, List.getElem?_eq_getElem hlt⟩
      obtain rfl := ha (fun e => by rw [e] at hlt; simp at hlt)
      obtain rfl := ha2 (fun e => by rw [e] at hlt; simp at hlt)
      obtain ⟨c0, c1, c2, c3, c4⟩ := hc k x hx
      obtain ⟨d0, d1, d2, d3, d4⟩ := hc2 k x hx
      have heq := fun W => eq_self x W
      clear hx hc ha hc2 ha2
      go_wp2
      go_quiet (fail)
      go_wp2
      go_roundw
      case rel => exact ⟨k + 1, _, by go_num, by omega, rfl⟩
      case measure => simp [intOf]; omega
    · have hge : ¬ (k : Int) < (es.length : Int) := by omega
      go_wp2
      go_ret
      exact ⟨rfl, ⟨rfl, rfl, rfl, Nat.le_refl _, fun _ _ => rfl⟩⟩
end Go.Proofs.YthkbhcefckbcnaaGreatDoor

namespace Go.Proofs.YthkbhcefckbcnaaGreatDoor
open Go.ChangeShapes Go.WideShapes Go.RowKit

theorem own : ownKnob Tryz.prog.godebug = none := by kernel_rfl
theorem l_et : Tryz.prog.globalNamed "errors.errorType" = some 0 := by kernel_rfl
theorem l_rt : (Tryz.prog.cutTypes.find? (·.1 == "internal/reflectlite.rtype")).map (·.2) = some 140 := by kernel_rfl
theorem l_oneRow : ((List.range 249).filter fun t => Tryz.prog.rowNamed t [101, 114, 114, 111, 114]) = [28] := by kernel_rfl
theorem l_size : Tryz.prog.types.size = 249 := by kernel_rfl

abbrev listedU : List (String × DataW Unit) := [("unicode/utf8.acceptRanges", Rows.laid_unicode_utf8_acceptRanges), ("errors.errorType", Rows.laid_errors_errorType), ("unicode/utf8.first", Rows.laid_unicode_utf8_first)]
set_option maxRecDepth 100000 in
theorem handle_of_laidU {W : World} (h : laidMetH Tryz.prog listedU W) : ErrType W := by
  have h2 : laidMet Tryz.prog [("unicode/utf8.acceptRanges", Rows.laid_unicode_utf8_acceptRanges), ("unicode/utf8.first", Rows.laid_unicode_utf8_first)] W ∧ handlesMet Tryz.prog [("errors.errorType", Rows.laid_errors_errorType)] W := h
  obtain ⟨name, u, ty, e1, e2, e3, e4, e5⟩ := h2.2 _ (List.mem_singleton.2 rfl)
  have en : name = [101, 114, 114, 111, 114] := (Option.some.inj e1).symm
  subst en
  obtain rfl := Option.some.inj (l_rt.symm.trans e2)
  have hm : ty ∈ (List.range 249).filter fun t => Tryz.prog.rowNamed t [101, 114, 114, 111, 114] := List.mem_filter.2 ⟨List.mem_range.2 (by rw [← l_size]; exact e3), e4⟩
  rw [l_oneRow] at hm
  obtain rfl := List.mem_singleton.1 hm
  have hh : typeHandle Tryz.prog 28 = .pointer (some ⟨4, 28, none⟩) := by kernel_rfl
  rw [hh] at e5
  have h3 := World.var?_cell l_et e5 0
  unfold ErrType
  simpa using h3
def numsOf : DataW Unit → List Value
  | .lit (.int k n) => [.int k n]
  | .agg ds => ds.flatMap fun
    | .lit (.int k n) => [Value.int k n]
    | .agg es => es.map fun
      | .lit (.int k n) => Value.int k n
      | _ => .int .i64 0
    | _ => []
  | _ => []
noncomputable def laidWorldU (os : Os) : World :=
  (((World.holding Tryz.prog os ⟨#[], #[], []⟩).setRow 3 (numsOf Rows.laid_unicode_utf8_acceptRanges).toArray).setRow 2 (numsOf Rows.laid_unicode_utf8_first).toArray).setRow 0 #[.iface 140 (.agg #[.pointer (some ⟨4, 28, none⟩)])]
end Go.Proofs.YthkbhcefckbcnaaGreatDoor

namespace Go.Proofs.YthkbhcefckbcnaaGreatDoor
open Go.ChangeShapes Go.WideShapes Go.RowKit

theorem ent_size : Tryz.prog.cellsOf 38 = 5 := by kernel_rfl
theorem bulk_mem {H : Type} : ∀ {ds : List (DataW H)} {d : DataW H}, d ∈ ds → Rows.uptoBulk d ≤ Rows.uptoBulkAll ds
  | [], _, h => by cases h
  | y :: ds, d, h => by
    rw [Rows.uptoBulkAll]
    rcases List.mem_cons.1 h with rfl | h
    · omega
    · have := bulk_mem h; omega
theorem bulk_len {H : Type} : ∀ {ds : List (DataW H)}, (∀ d ∈ ds, 1 ≤ Rows.uptoBulk d) → ds.length ≤ Rows.uptoBulkAll ds
  | [], _ => by simp
  | y :: ds, h => by
    rw [Rows.uptoBulkAll, List.length_cons]
    have h1 := h y (by simp)
    have h2 := bulk_len (ds := ds) (fun d hd => h d (by simp [hd]))
    omega
set_option maxRecDepth 100000 in
/-- One entry's cells and datum. -/
theorem open_one {H : Type} {enc : TypeId × Value → H} {W : World} {n : Nat} {cs : List Value} {x : DataW H × List MemPlace} (hlen : cs.length = 5) (hf : DataW.trod enc Tryz.prog W 0 (fun _ => true) true n 38 cs = some x) :
    ∃ e : Ent, cs = ecs e ∧ x.1 = .agg [.lit (.string e.path.data.toList), .lit (.int .i64 e.kind), .lit (.int .i64 e.mode), .lit (.string e.data.data.toList), .lit (.string e.link.data.toList)] := by
  obtain ⟨xs, n, _, hx, hl, hlen2, hff⟩ := DataW.trod_struct Tryz.underlying38 hf
  obtain ⟨v0, v1, v2, v3, v4, hvs⟩ : ∃ v0 v1 v2 v3 v4, cs = [v0, v1, v2, v3, v4] := by
    match cs, hlen with
    | [v0, v1, v2, v3, v4], _ => exact ⟨v0, v1, v2, v3, v4, rfl⟩
  obtain ⟨y0, y1, y2, y3, y4, hys⟩ : ∃ y0 y1 y2 y3 y4, xs = [y0, y1, y2, y3, y4] := by
    match xs, hlen2 with
    | [y0, y1, y2, y3, y4], _ => exact ⟨y0, y1, y2, y3, y4, rfl⟩
  subst hys
  subst hvs
  have m0 : Tryz.prog.cellsOf 36 = 1 := by kernel_rfl
  have m1 : Tryz.prog.cellsOf 3 = 1 := by kernel_rfl
  have m2 : Tryz.prog.cellsOf 9 = 1 := by kernel_rfl
  have g0 : DataW.trod enc Tryz.prog W 0 (fun _ => true) true n 9 [v0] = some y0 := by
    have e : DataW.trod enc Tryz.prog W 0 (fun _ => true) true n 9 ((([v0, v1, v2, v3, v4] : List Value).drop 0).take (Tryz.prog.cellsOf 9)) = some y0 := hff 0 _ rfl
    rw [m2] at e
    exact e
  have g1 : DataW.trod enc Tryz.prog W 0 (fun _ => true) true n 36 [v1] = some y1 := by
    have e : DataW.trod enc Tryz.prog W 0 (fun _ => true) true n 36 ((([v0, v1, v2, v3, v4] : List Value).drop 1).take (Tryz.prog.cellsOf 36)) = some y1 := hff 1 _ rfl
    rw [m0] at e
    exact e
  have g2 : DataW.trod enc Tryz.prog W 0 (fun _ => true) true n 3 [v2] = some y2 := by
    have e : DataW.trod enc Tryz.prog W 0 (fun _ => true) true n 3 ((([v0, v1, v2, v3, v4] : List Value).drop 2).take (Tryz.prog.cellsOf 3)) = some y2 := hff 2 _ rfl
    rw [m1] at e
    exact e
  have g3 : DataW.trod enc Tryz.prog W 0 (fun _ => true) true n 9 [v3] = some y3 := by
    have e : DataW.trod enc Tryz.prog W 0 (fun _ => true) true n 9 ((([v0, v1, v2, v3, v4] : List Value).drop 3).take (Tryz.prog.cellsOf 9)) = some y3 := hff 3 _ rfl
    rw [m2] at e
    exact e
  have g4 : DataW.trod enc Tryz.prog W 0 (fun _ => true) true n 9 [v4] = some y4 := by
    have e : DataW.trod enc Tryz.prog W 0 (fun _ => true) true n 9 ((([v0, v1, v2, v3, v4] : List Value).drop 4).take (Tryz.prog.cellsOf 9)) = some y4 := hff 4 _ rfl
    rw [m2] at e
    exact e
  clear hff
  obtain ⟨s0, a0, b0, _⟩ := DataW.trod_string Tryz.underlying9 g0
  obtain rfl := (List.cons.inj a0).1
  subst b0
  obtain ⟨i1, a1, b1, w1⟩ := DataW.trod_int Tryz.underlying36 g1
  obtain rfl := (List.cons.inj a1).1
  subst b1
  obtain ⟨i2, a2, b2, w2⟩ := DataW.trod_int Tryz.underlying3 g2
  obtain rfl := (List.cons.inj a2).1
  subst b2
  obtain ⟨s3, a3, b3, _⟩ := DataW.trod_string Tryz.underlying9 g3
  obtain rfl := (List.cons.inj a3).1
  subst b3
  obtain ⟨s4, a4, b4, _⟩ := DataW.trod_string Tryz.underlying9 g4
  obtain rfl := (List.cons.inj a4).1
  subst b4
  exact ⟨⟨s0, i1, i2, s3, s4⟩, rfl, congrArg Prod.fst hx⟩
set_option maxRecDepth 100000 in
theorem open_ents {H : Type} {enc : TypeId × Value → H} {W : World} {b0 : Nat} {v : Value} {d : DataW H} {p : List MemPlace}
    (hv : Value.okWide Tryz.prog W .any b0 22 v) (h : DataW.Trod enc Tryz.prog W 0 (fun _ => true) true 22 v d p) : ∃ l : List Ent, EntsAt W v l ∧ l.length ≤ Rows.uptoBulk d ∧ ∀ x ∈ l, x.path.size ≤ Rows.uptoBulk d := by
  obtain ⟨a0, len0, cap0, rfl⟩ := okWide_slice Tryz.underlying22 hv
  obtain ⟨fuel, hf⟩ := h
  rcases Go.Deep.open_slice Tryz.underlying22 hf with ⟨hcs, hx⟩ | ⟨a, len, cap, m, n, D, Pl, hcs, _, hl, hm, hmm, hx, hall⟩
  · have e : Value.slice a0 len0 cap0 = .slice none 0 0 := by simpa [Value.cells] using hcs
    rw [e]
    exact ⟨[], ⟨none, 0, 0, 0, rfl, fun h => absurd rfl h, Nat.le_refl _, fun i x h => by simp at h⟩, by simp, fun x h => by cases h⟩
  · have e : Value.slice a0 len0 cap0 = .slice (some a) len cap := by simpa [Value.cells] using hcs
    rw [e]
    rw [if_pos rfl] at hmm
    have e2 : d = .slice ((List.range len).map D) ((List.range (m - len)).map fun j => D (len + j)) := congrArg Prod.fst hx
    have each : ∀ i, i < len → ∃ x : Ent, (∀ j v, (ecs x)[j]? = some v → W.cell? (a.add (i * 5 + j)) = some v) ∧ D i = .agg [.lit (.string x.path.data.toList), .lit (.int .i64 x.kind), .lit (.int .i64 x.mode), .lit (.string x.data.data.toList), .lit (.string x.link.data.toList)] := by
      intro i hi
      obtain ⟨cs', h1, h2⟩ := hall i (by omega)
      rw [ent_size] at h1
      obtain ⟨_, hlen, hcell⟩ := World.cells?_some h1
      obtain ⟨x, hxe, hxd⟩ := open_one hlen h2
      refine ⟨x, fun j v hj => ?_, hxd⟩
      have hj5 : j < 5 := (List.getElem?_eq_some_iff.1 hj).1
      have c := hcell j (by omega)
      rw [Go.Deep.add_add] at c
      rw [c]
      subst hxe
      first | exact hj | (rw [← hj]; simp) | simpa using hj
    obtain ⟨f, hfx⟩ : ∃ f : Nat → Ent, ∀ i, i < len → (∀ j v, (ecs (f i))[j]? = some v → W.cell? (a.add (i * 5 + j)) = some v) ∧ D i = .agg [.lit (.string (f i).path.data.toList), .lit (.int .i64 (f i).kind), .lit (.int .i64 (f i).mode), .lit (.string (f i).data.data.toList), .lit (.string (f i).link.data.toList)] :=
      ⟨fun i => if h : i < len then Classical.choose (each i h) else ⟨⟨#[]⟩, 0, 0, ⟨#[]⟩, ⟨#[]⟩⟩, fun i hi => by simp only [dif_pos hi]; exact Classical.choose_spec (each i hi)⟩
    have hD : ∀ i, i < len → (f i).path.size + 2 ≤ Rows.uptoBulk (D i) := fun i hi => by
      rw [(hfx i hi).2]
      have hs : (f i).path.data.toList.length = (f i).path.size := un_length _
      simp only [Rows.uptoBulk, Rows.uptoBulkAll, hs]
      omega
    have hmem : ∀ i, i < len → D i ∈ (List.range len).map D := fun i hi => List.mem_map_of_mem (List.mem_range.2 hi)
    have hbk : Rows.uptoBulkAll ((List.range len).map D) ≤ Rows.uptoBulk d := by rw [e2]; simp only [Rows.uptoBulk]; omega
    refine ⟨(List.range len).map f, ?_, ?_, ?_⟩
    · by_cases h0 : len = 0
      · subst h0
        exact ⟨some a, cap, 0, 0, by simp, fun h => absurd rfl h, by simp, fun i x h => by simp at h⟩
      · obtain ⟨b, off, spot⟩ := a
        have hc0 := (hfx 0 (by omega)).1 0 _ rfl
        have hspot : spot = none := by simpa [Addr.add] using World.cell?_spot hc0
        subst hspot
        refine ⟨some ⟨b, off, none⟩, cap, b, off, by simp, fun _ => rfl, by simpa using hl, fun i x hi => ?_⟩
        have h1 : i < len := by have := (List.getElem?_eq_some_iff.1 hi).1; simpa using this
        have hx2 : x = f i := by simpa [h1] using hi.symm
        subst hx2
        have hc : ∀ j v, (ecs (f i))[j]? = some v → W.cell? ⟨b, off + i * 5 + j, none⟩ = some v := fun j v hj => by
          have := (hfx i h1).1 j v hj
          rw [Addr.add_mid] at this
          rw [Nat.add_assoc]; exact this
        exact ⟨hc 0 _ rfl, hc 1 _ rfl, hc 2 _ rfl, hc 3 _ rfl, hc 4 _ rfl⟩
    · have := bulk_len (ds := (List.range len).map D) (fun y hy => by
        obtain ⟨i, hi, rfl⟩ := List.mem_map.1 hy
        have := hD i (List.mem_range.1 hi); omega)
      rw [List.length_map] at this ⊢
      omega
    · intro x hx3
      obtain ⟨i, hi, rfl⟩ := List.mem_map.1 hx3
      have h1 := hD i (List.mem_range.1 hi)
      have h2 := bulk_mem (hmem i (List.mem_range.1 hi))
      omega
end Go.Proofs.YthkbhcefckbcnaaGreatDoor

namespace Go.Proofs.YthkbhcefckbcnaaGreatDoor
open Go.RowKit

theorem below_p (a b : ByteArray) (w : World) : Calls Tryz.prog 65 #[.string a, .string b] w fun e w' => e = .returned (.bool (belowB a b)) ∧ w' = w := by
  cases h1 : a.toList.isEmpty
  · cases h2 : Lib.hasPrefix (un b) (un a)
    all_goals
      have H2 : Hid _ := h2
      clear h2
      go_enter Tryz.func65, Tryz.ntmps65
      go_wp2_with (first | (go_at_call 57; refine (Tryz.strings_CutPrefix _ _ _).mono ?_; rintro e w2 ⟨rfl, rfl⟩; rw [show Lib.hasPrefix b.data.toList a.data.toList = _ from H2.out]) | (go_at_call 103; refine (Tryz.strings_HasPrefix _ _ _).mono ?_; rintro e w2 ⟨rfl, rfl⟩))
      go_ret
      exact ⟨by simp [belowB, h1, H2.out]; try rfl, rfl⟩
  · go_enter Tryz.func65, Tryz.ntmps65
    go_wp2
    go_ret
    exact ⟨by simp [belowB, h1]; try rfl, rfl⟩
end Go.Proofs.YthkbhcefckbcnaaGreatDoor

namespace Go.Proofs.YthkbhcefckbcnaaGreatDoor
open Go Go.RowKit Go.Sort

theorem strs_enc (l : List (List UInt8)) : strs (l.map bs) = l.map encStr := by unfold strs; rw [List.map_map]; rfl
theorem strs_un (xs : List ByteArray) : strs xs = (xs.map un).map encStr := by
  unfold strs; rw [List.map_map]
  apply List.map_congr_left
  intro x _
  show Value.string x = Value.string (bs (un x))
  rw [bs_un]
def sortT (xs : List ByteArray) : List ByteArray := ((xs.map un).mergeSort fun x y => decide (x ≤ y)).map bs
theorem srtL_sortT (ok : ByteArray → Bool) (es : List Ent) : srtL ok es = sortT (inL ok es) := rfl
theorem sortT_length (xs : List ByteArray) : (sortT xs).length = xs.length := by unfold sortT; simp
theorem sort_own {W : World} {base : Nat} {v : Value} {xs : List ByteArray} (h : W.ownsRow base 9 1 v xs.length (strs xs)) (hl : xs.length ≤ 1099511627776) : Calls Tryz.prog 34 #[v] W fun e w' => e = .returned (.tuple #[]) ∧ w'.ownsRow base 9 1 v xs.length (strs (sortT xs)) ∧ W.grownBy w' v.ownBlock := by
  have h' := h
  rcases h.2 with ⟨rfl, h0⟩ | ⟨g, cap, cur, rfl, hg, hgb, h1, h2, h3, h4⟩
  · have hx : xs = [] := List.eq_nil_of_length_eq_zero h0
    subst hx
    refine (Tryz.sort_Strings_none none 0 W).mono ?_
    rintro e w' ⟨rfl, hw⟩
    have hgr : W.grownBy w' none := by
      first
        | (subst hw; exact World.grownBy_refl _ _)
        | (obtain ⟨n, rfl⟩ := hw; exact ⟨rfl, rfl, rfl, Nat.le_refl _, fun _ _ _ => rfl⟩)
        | exact hw
    refine ⟨rfl, ?_, hgr⟩
    have e0 : sortT [] = [] := by simp [sortT]
    rw [e0]
    exact World.ownsRow_nil _ _ _ _
  · have hH : Holds encStr W g 0 (xs.map un).toArray := holds_of_block hgb (by rw [List.length_map, ← strs_un]; simpa using h4)
    have hb : g < W.heap.size := (Array.getElem?_eq_some_iff.1 hgb).1
    have hc := Tryz.sort_Strings g 0 cap (xs.map un) W hH hb (by rw [List.length_map]; omega)
    rw [List.length_map] at hc
    refine hc.mono ?_
    rintro e w' ⟨rfl, n, os, rfl⟩
    refine ⟨rfl, ?_, ?_⟩
    · have := ownsRow_sorted (w := W) (base := base) (g := g) (cap := cap) (n := n) (e := 9) (os := os) (cur := cur) (ss := xs.map un) (ts := (xs.map un).mergeSort fun x y => decide (x ≤ y)) (by simp) hg hgb (by simpa using h1) h2 h3
      rw [List.length_map] at this
      unfold sortT
      rw [strs_enc]
      exact this
    · exact grownBy_sorted _
theorem row_get {W : World} {base g cap : Nat} {row : List ByteArray} (h : W.ownsRow base 9 1 (.slice (some ⟨g, 0, none⟩) row.length cap) row.length (strs row)) (i : Nat) (y : ByteArray) (hy : row[i]? = some y) : W.cell? ⟨g, i, none⟩ = some (.string y) := row_cell h i _ (by simp [strs, hy])
theorem search_p {W : World} {base : Nat} {v : Value} (row : List ByteArray) (x : ByteArray) (h : W.ownsRow base 9 1 v row.length (strs row)) (hs : (row.map un).Pairwise (fun a b => ¬ b < a)) (hl : row.length ≤ 1099511627776) : Calls Tryz.prog 64 #[v, .string x] W fun e w' => e = .returned (.int .i64 (row.countP (fun y => decide (un y < un x)) : Nat)) ∧ Below W.heap.size W w' := by
  rcases h.2 with ⟨rfl, h0⟩ | ⟨g, cap, cur, rfl, hg, hgb, h1, h2, h3, h4⟩
  · have hx : row = [] := List.eq_nil_of_length_eq_zero h0
    subst hx
    exact Tryz.sort_SearchStrings_none none 0 x W
  · have hc := Tryz.sort_SearchStrings g 0 cap row.toArray x W (fun i hi => by
      have hi2 : i < row.length := by simpa using hi
      rw [Nat.zero_add, getElem!_pos row.toArray i hi]
      exact row_get h i _ (by simp [hi2])) (Array.getElem?_eq_some_iff.1 hgb).1 (by simp; omega) (fun a b hab hb => by
      have hb2 : b < row.length := by simpa using hb
      have ha2 : a < row.toArray.size := by simp; omega
      rw [getElem!_pos row.toArray a ha2, getElem!_pos row.toArray b hb]
      intro hna
      have hna2 : ¬ un row[a] < un x := of_decide_eq_false (by rw [Bool.not_eq_true'] at hna; exact hna)
      have hnb : ¬ un row[b] < un x := fun hlt => by
        by_cases e : a = b
        · subst e; exact hna2 hlt
        · have hp := List.pairwise_iff_getElem.1 hs a b (by simp; omega) (by simp; omega) (by omega)
          simp at hp
          exact hna2 (by
            by_cases h5 : un row[a] < un x
            · exact h5
            · exact absurd (lt_le hlt h5) (by simpa using hp))
      rw [Bool.not_eq_true']; exact decide_eq_false hnb)
    have e : row.toArray.toList.countP (fun y => !!decide (y.data.toList < x.data.toList)) = row.countP (fun y => decide (un y < un x)) := by
      simp only [Bool.not_not]; rfl
    rw [e] at hc
    simpa using hc

set_option maxRecDepth 100000 in
set_option maxHeartbeats 2000000 in
theorem any_p {W : World} {base : Nat} {v : Value} (dir : ByteArray) (row : List ByteArray) (h : W.ownsRow base 9 1 v row.length (strs row)) (hs : (row.map un).Pairwise (fun a b => ¬ b < a)) (hl : row.length ≤ 1099511627776) (hd : dir.size ≤ 1099511627776) : Calls Tryz.prog 35 #[.string dir, v] W fun e w' => e = .returned (.bool (anyS dir row)) ∧ Below W.heap.size W w' := by
  have hS := search_p row (firstB dir) h hs hl
  have hle : row.countP (fun y => decide (un y < un (firstB dir))) ≤ row.length := List.countP_le_length
  have hany : anyS dir row = (row[lessN dir row]?).any fun y => belowB dir y := rfl
  have hln : row.countP (fun y => decide (un y < un (firstB dir))) = lessN dir row := rfl
  rw [hln] at hS hle
  obtain ⟨a, cap, rfl⟩ : ∃ o c, v = .slice o row.length c := by
    rcases h.2 with ⟨h, h0⟩ | ⟨g, cap', cur, h, _⟩
    · exact ⟨none, 0, by rw [h, h0]⟩
    · exact ⟨_, _, h⟩
  have HC : Hid (∀ i y W2, row[i]? = some y → Below W.heap.size W W2 → ∃ g, a = some ⟨g, 0, none⟩ ∧ W2.cell? ⟨g, i, none⟩ = some (.string y)) := fun i y W2 hy b => by
    rcases h.2 with ⟨_, h0⟩ | ⟨g, cap', cur, h5, _⟩
    · have := (List.getElem?_eq_some_iff.1 hy).1; omega
    · injection h5 with h6 h7 h8
      subst h6; subst h8
      exact ⟨g, rfl, row_get (own_below h b) i y hy⟩
  have HF : Hid (firstB dir = if dir.toList.isEmpty then dir else dir ++ ⟨#[47]⟩) := rfl
  generalize lessN dir row = m at *
  have HA : Hid _ := hany
  clear hany hln h hs
  have hm0 : (0 : Int) ≤ (m : Int) := by omega
  cases he : dir.toList.isEmpty with
  | true =>
    have hf : firstB dir = dir := by rw [HF.out, he]; rfl
    rw [hf] at hS
    clear HF hf
    cases hy : row[m]? with
    | none =>
      have hge : ¬ (m : Int) < (row.length : Int) := by have := List.getElem?_eq_none_iff.1 hy; omega
      have HR : Hid (anyS dir row = false) := by unfold Hid; rw [HA.out, hy]; rfl
      clear hy HA HC
      go_enter Tryz.func35, Tryz.ntmps35
      go_wp2_with (go_at_call 64; refine hS.mono ?_; rintro e w1 ⟨rfl, b1⟩)
      go_ret
      exact ⟨by rw [HR.out]; rfl, b1⟩
    | some y =>
      have hlt : (m : Int) < (row.length : Int) := by have := (List.getElem?_eq_some_iff.1 hy).1; omega
      have HR : Hid (anyS dir row = belowB dir y) := by unfold Hid; rw [HA.out, hy]; rfl
      obtain ⟨g, rfl, _⟩ := HC.out m y W hy (Below.refl _ _)
      have HC2 : Hid (∀ W2, Below W.heap.size W W2 → W2.cell? ⟨g, m, none⟩ = some (.string y)) := fun W2 b => by
        obtain ⟨g2, h1, h2⟩ := HC.out m y W2 hy b
        injection h1 with h1; injection h1 with h1; subst h1; exact h2
      clear hy HA HC
      go_enter Tryz.func35, Tryz.ntmps35
      go_wp2_with (first
        | (go_at_call 64; refine hS.mono ?_; rintro e w1 ⟨rfl, b1⟩; have c1 := HC2.out w1 b1)
        | (go_at_call 65; refine (below_p dir y _).mono ?_; rintro e w2 ⟨rfl, hw⟩; subst hw))
      go_ret
      exact ⟨by rw [HR.out]; rfl, b1⟩
  | false =>
    have hf : firstB dir = dir ++ ⟨#[47]⟩ := by rw [HF.out, he]; rfl
    rw [hf] at hS
    clear HF hf
    cases hy : row[m]? with
    | none =>
      have hge : ¬ (m : Int) < (row.length : Int) := by have := List.getElem?_eq_none_iff.1 hy; omega
      have HR : Hid (anyS dir row = false) := by unfold Hid; rw [HA.out, hy]; rfl
      clear hy HA HC
      go_enter Tryz.func35, Tryz.ntmps35
      go_wp2_with (go_at_call 64; refine hS.mono ?_; rintro e w1 ⟨rfl, b1⟩)
      go_ret
      exact ⟨by rw [HR.out]; rfl, b1⟩
    | some y =>
      have hlt : (m : Int) < (row.length : Int) := by have := (List.getElem?_eq_some_iff.1 hy).1; omega
      have HR : Hid (anyS dir row = belowB dir y) := by unfold Hid; rw [HA.out, hy]; rfl
      obtain ⟨g, rfl, _⟩ := HC.out m y W hy (Below.refl _ _)
      have HC2 : Hid (∀ W2, Below W.heap.size W W2 → W2.cell? ⟨g, m, none⟩ = some (.string y)) := fun W2 b => by
        obtain ⟨g2, h1, h2⟩ := HC.out m y W2 hy b
        injection h1 with h1; injection h1 with h1; subst h1; exact h2
      clear hy HA HC
      go_enter Tryz.func35, Tryz.ntmps35
      go_wp2_with (first
        | (go_at_call 64; refine hS.mono ?_; rintro e w1 ⟨rfl, b1⟩; have c1 := HC2.out w1 b1)
        | (go_at_call 65; refine (below_p dir y _).mono ?_; rintro e w2 ⟨rfl, hw⟩; subst hw))
      go_ret
      exact ⟨by rw [HR.out]; rfl, b1⟩
end Go.Proofs.YthkbhcefckbcnaaGreatDoor

namespace Go.Proofs.YthkbhcefckbcnaaGreatDoor
open Go.RowKit

theorem begins_r (s h : ByteArray) (w : World) : Calls Tryz.prog 62 #[.string s, .string h] w fun e w' => e = .returned (.bool (Lib.hasPrefix (un s) (un h))) ∧ w' = w := by
  by_cases c : h.size ≤ s.size
  · have c' : (h.size : Int) ≤ (s.size : Int) := by omega
    have e1 : Lib.hasPrefix (un s) (un h) = ((s.extract 0 h.size).toList == h.toList) := by
      rw [hasPrefix_take, toList_un, toList_un, un_extract, un_length, un_length]; simp [c]
    have E : Hid _ := e1
    clear e1
    go_enter Tryz.func62, Tryz.ntmps62
    go_wp2
    go_ret
    exact ⟨by rw [E.out]; rfl, rfl⟩
  · have c' : ¬ (h.size : Int) ≤ (s.size : Int) := by omega
    have e1 : Lib.hasPrefix (un s) (un h) = false := by
      rw [hasPrefix_take, un_length, un_length]; simp; omega
    have E : Hid _ := e1
    clear e1
    go_enter Tryz.func62, Tryz.ntmps62
    go_wp2
    go_ret
    exact ⟨by rw [E.out]; rfl, rfl⟩

theorem below_r (a b : ByteArray) (w : World) (ha : a.size < 4611686018427387904) : Calls Tryz.prog 32 #[.string a, .string b] w fun e w' => e = .returned (.bool (belowB a b)) ∧ w' = w := by
  cases h1 : a.toList.isEmpty
  · have E : Hid _ := belowB_r a b h1
    have e2 : un (a ++ ⟨#[47]⟩) = un a ++ [47] := un_append a ⟨#[47]⟩
    have E2 : Hid _ := e2
    clear e2
    go_enter Tryz.func32, Tryz.ntmps32
    go_wp2_with (go_at_call 62; refine (begins_r _ _ _).mono ?_; rintro e w2 ⟨rfl, hw⟩; subst hw)
    go_ret
    exact ⟨by rw [E.out, ← E2.out]; rfl, rfl⟩
  · go_enter Tryz.func32, Tryz.ntmps32
    go_wp2
    go_ret
    exact ⟨by simp [belowB, h1]; try rfl, rfl⟩
end Go.Proofs.YthkbhcefckbcnaaGreatDoor

namespace Go.Proofs.YthkbhcefckbcnaaGreatDoor
open Go Go.RowKit

/-- What a list's Out answers, in every world in which it stands. -/
def OutOK (G : World → Prop) (lv : Value) (ok : ByteArray → Bool) : Prop := ∀ W, G W → ∀ p : ByteArray, p.size ≤ 1048576 → Calls Tryz.prog 18 #[lv, .string p] W fun e w' => e = .returned (.bool (!ok p)) ∧ Below W.heap.size W w'
def KeptBy (G : World → Prop) : Prop := ∀ W W2, G W → Below W.heap.size W W2 → G W2
theorem any_next (ok : ByteArray → Bool) (es : List Ent) (dir : ByteArray) (k : Nat) (x : Ent) (hx : es[k]? = some x) (h0 : anyB ok (es.take k) dir = false) : anyB ok (es.take (k + 1)) dir = (belowB dir x.path && ok x.path) := by
  unfold anyB at h0 ⊢
  rw [List.take_add_one, hx, List.any_append, h0]
  simp
theorem any_hit (ok : ByteArray → Bool) (es : List Ent) (dir : ByteArray) (k : Nat) (x : Ent) (hx : es[k]? = some x) (h1 : belowB dir x.path = true) (h2 : ok x.path = true) : anyB ok es dir = true := by
  unfold anyB
  rw [List.any_eq_true]
  exact ⟨x, List.mem_of_getElem? hx, by rw [h1, h2]; rfl⟩
set_option maxRecDepth 100000 in
set_option maxHeartbeats 2000000 in
theorem bel_p {G : World → Prop} (HG : KeptBy G) (lv : Value) (ok : ByteArray → Bool) (HO : Hid (OutOK G lv ok)) (v : Value) (es : List Ent) (dir : ByteArray) (w : World) (hG : G w) (hv : EntsAt w v es) (hl : es.length ≤ 1073741824) (hz : ∀ e ∈ es, e.path.size ≤ 1048576) (hd : dir.size ≤ 1048576) : Calls Tryz.prog 19 #[lv, v, .string dir] w fun e w' => e = .returned (.bool (anyB ok es dir)) ∧ Below w.heap.size w w' := by
  obtain ⟨a, cap, b, o, rfl, ha, hcap, hc⟩ := hv
  go_enter Tryz.func19, Tryz.ntmps19
  go_wp2
  go_loopw [7] (fun i wr => ∃ k : Nat, i = .int .i64 k ∧ k ≤ es.length ∧ anyB ok (es.take k) dir = false ∧ Below w.heap.size w wr) (fun i _ => es.length - (intOf i).toNat)
  case atStart => exact ⟨0, rfl, Nat.zero_le _, rfl, Below.refl _ _⟩
  case round =>
    obtain ⟨k, rfl, hk, h0, hB⟩ := hrel
    by_cases hlt : k < es.length
    · have hlt' : (k : Int) < (es.length : Int) := by omega
      have hk0 : (0 : Int) ≤ (k : Int) := by omega
      obtain ⟨x, hx⟩ : ∃ x, es[k]? = some x := ⟨_, List.getElem?_eq_getElem hlt⟩
      obtain rfl := ha (fun e => by rw [e] at hlt; simp at hlt)
      obtain ⟨c0, _, _, _, _⟩ := (hc k x hx).below hB
      have hxz := hz x (List.mem_of_getElem? hx)
      have hBe := fun W => below_r dir x.path W (by omega)
      have hO := HO.out wr (HG _ _ hG hB) x.path hxz
      have HN : Hid _ := any_next ok es dir k x hx h0
      have HH : Hid (belowB dir x.path = true → ok x.path = true → anyB ok es dir = true) := any_hit ok es dir k x hx
      clear hx hc ha h0
      cases e1 : belowB dir x.path with
      | false =>
        rw [e1] at hBe
        go_wp2_with (go_at_call 32; refine (hBe _).mono ?_; rintro e w1 ⟨rfl, hw⟩; subst hw)
        go_roundw
        case rel => exact ⟨k + 1, by go_num, by omega, by rw [HN.out, e1]; rfl, hB⟩
        case measure => simp [intOf]; omega
      | true =>
        rw [e1] at hBe
        cases e2 : ok x.path with
        | false =>
          rw [e2] at hO
          go_wp2_with (first
            | (go_at_call 32; refine (hBe _).mono ?_; rintro e w1 ⟨rfl, hw⟩; subst hw)
            | (go_at_call 18; refine hO.mono ?_; rintro e w2 ⟨rfl, b2⟩))
          go_roundw
          case rel => exact ⟨k + 1, by go_num, by omega, by rw [HN.out, e1, e2]; rfl, hB.trans (b2.mono hB.size)⟩
          case measure => simp [intOf]; omega
        | true =>
          rw [e2] at hO
          have HE : Hid (anyB ok es dir = true) := HH.out e1 e2
          go_wp2_with (first
            | (go_at_call 32; refine (hBe _).mono ?_; rintro e w1 ⟨rfl, hw⟩; subst hw)
            | (go_at_call 18; refine hO.mono ?_; rintro e w2 ⟨rfl, b2⟩))
          go_ret
          exact ⟨by rw [HE.out]; rfl, hB.trans (b2.mono hB.size)⟩
    · have hge : ¬ (k : Int) < (es.length : Int) := by omega
      have HE : Hid (anyB ok es dir = false) := by rw [List.take_of_length_le (by omega)] at h0; exact h0
      clear h0
      go_wp2
      go_ret
      exact ⟨by rw [HE.out]; rfl, hB⟩
end Go.Proofs.YthkbhcefckbcnaaGreatDoor

namespace Go.Proofs.YthkbhcefckbcnaaGreatDoor
open Go Go.RowKit

def outF (ok : ByteArray → Bool) (es : List Ent) (k i : Nat) : Bool := decide (i < k) && !(ok (((es[i]?).map Ent.path).getD ⟨#[]⟩))
theorem outF_zero (ok : ByteArray → Bool) (es : List Ent) (i : Nat) : outF ok es 0 i = false := by simp [outF]
theorem outF_succ {ok : ByteArray → Bool} {es : List Ent} {k : Nat} {x : Ent} (hx : es[k]? = some x) (i : Nat) : outF ok es (k + 1) i = if i = k then !ok x.path else outF ok es k i := by
  unfold outF
  by_cases h : i = k
  · subst h; rw [if_pos rfl, hx]; simp
  · rw [if_neg h]
    by_cases h2 : i < k
    · have : i < k + 1 := by omega
      simp [h2, this]
    · have : ¬ i < k + 1 := by omega
      simp [h2, this]
theorem outF_at {ok : ByteArray → Bool} {es : List Ent} {k n : Nat} {x : Ent} (hx : es[k]? = some x) (hk : k < n) : outF ok es n k = !ok x.path := by
  unfold outF; rw [hx]; simp [hk]
theorem setBK {W : World} {g n k : Nat} {f : Nat → Bool} (h : Lies W g 4 (rowB n f)) (b : Bool) (hk : k < n) : Lies (W.setCell ⟨g, k, none⟩ (.bool b)) g 4 (rowB n (fun i => if i = k then b else f i)) := by
  rw [← rowB_set n f k b hk]; exact h.set _
theorem EntC.same {W W2 : World} {b q : Nat} {e : Ent} (h : EntC W b q e) (hb : W2.heap[b]? = W.heap[b]?) : EntC W2 b q e := by
  have hc : ∀ (j : Nat) (v : Value), W.cell? ⟨b, j, none⟩ = some v → W2.cell? ⟨b, j, none⟩ = some v := fun j v hv => by
    unfold World.cell? at hv ⊢
    rw [show W2.heap[(⟨b, j, none⟩ : Addr).block]? = W.heap[(⟨b, j, none⟩ : Addr).block]? from hb]
    exact hv
  exact ⟨hc _ _ h.c0, hc _ _ h.c1, hc _ _ h.c2, hc _ _ h.c3, hc _ _ h.c4⟩
theorem liesTurn {A B : World} {row : Option Nat} {g : Nat} {cur : Array Value} {t : TypeId} (h : Lies A g 4 cur) (hg : A.grownBy B row) (hn : ∀ j, row = some j → ∃ c2, A.heap[j]? = some (.cells c2 t (0, 0))) (ht : t ≠ 4) : Lies B g 4 cur :=
  (hg.block g h.lt (fun e => by
    obtain ⟨c2, h2⟩ := hn g e.symm
    have := h2.symm.trans (show A.heap[g]? = _ from h)
    simp at this
    exact ht this.2)).trans h
theorem grown_setK (W : World) (g k : Nat) (u : Value) : W.grownBy (W.setCell ⟨g, k, none⟩ u) (some g) :=
  ⟨rfl, rfl, rfl, by simp [World.setCell], fun j _ hj => Below.heap_setCell _ _ _ _ (fun e => hj (by rw [e]))⟩
/-- What the first loop holds. -/
structure KA (w W : World) (n : Nat) (F : Nat → Bool) (v : Value) (xs : List ByteArray) : Prop where
  row : Lies W w.heap.size 4 (rowB n F)
  inn : W.ownsRow w.heap.size 9 1 v xs.length (strs xs)
  bel : Below w.heap.size w W
theorem KA.below {w W W2 : World} {n : Nat} {F : Nat → Bool} {v : Value} {xs : List ByteArray} (h : KA w W n F v xs) (b : Below W.heap.size W W2) : KA w W2 n F v xs :=
  ⟨h.row.below b, own_below h.inn b, h.bel.trans (b.mono h.bel.size)⟩
theorem KA.set {w W : World} {n k : Nat} {F F2 : Nat → Bool} {v : Value} {xs : List ByteArray} (h : KA w W n F v xs) (b : Bool) (hk : k < n) (hF : ∀ i, F2 i = if i = k then b else F i) : KA w (W.setCell ⟨w.heap.size, k, none⟩ (.bool b)) n F2 v xs := by
  refine ⟨?_, ?_, h.bel.setCell (p := ⟨w.heap.size, k, none⟩) (Nat.le_refl _) _⟩
  · rw [show rowB n F2 = rowB n (fun i => if i = k then b else F i) from rowB_congr (fun i _ => hF i)]
    exact setBK h.row b hk
  · exact own_same h.inn (same_grown (grown_setK W w.heap.size k _) (fun j cur e hj => by
      cases e
      have := hj.symm.trans (show W.heap[w.heap.size]? = _ from h.row)
      simp at this))
theorem in_next (ok : ByteArray → Bool) (es : List Ent) (k : Nat) (x : Ent) (hx : es[k]? = some x) : inL ok (es.take (k + 1)) = inL ok (es.take k) ++ (if ok x.path then [x.path] else []) := by
  unfold inL
  rw [List.take_add_one, hx, List.map_append, List.filter_append]
  congr 1
  cases h : ok x.path <;> simp [h]
theorem in_length (ok : ByteArray → Bool) (es : List Ent) (k : Nat) : (inL ok (es.take k)).length ≤ es.length := by
  unfold inL
  have h1 := List.length_filter_le ok ((es.take k).map Ent.path)
  rw [List.length_map, List.length_take] at h1
  omega
/-- What the second loop holds. -/
structure KB (w W : World) (n : Nat) (F : Nat → Bool) (v : Value) (xs : List ByteArray) (u : Value) (ks : List Ent) : Prop where
  a : KA w W n F v xs
  kept : W.ownsRow w.heap.size 38 5 u ks.length (ecells ks)
theorem KB.below {w W W2 : World} {n : Nat} {F : Nat → Bool} {v u : Value} {xs : List ByteArray} {ks : List Ent} (h : KB w W n F v xs u ks) (b : Below W.heap.size W W2) : KB w W2 n F v xs u ks := ⟨h.a.below b, own_below h.kept b⟩
theorem KB.app {w W w1 : World} {n : Nat} {F : Nat → Bool} {v u v1 : Value} {xs : List ByteArray} {ks ks2 : List Ent} {x : Ent} {o : Obj} (h : KB w W n F v xs u ks) (hg : (W.alloc o).grownBy w1 u.ownBlock) (h1 : w1.ownsRow w.heap.size 38 5 v1 (ks.length + 1) (ecells ks ++ ecs x)) (he : ks2 = ks ++ [x]) : KB w w1 n F v xs v1 ks2 := by
  have hs := h.a.bel.size
  refine ⟨⟨liesTurn (h.a.row.alloc o) hg (fun j hj => (own_ge (h.kept.alloc o) j hj.symm).2) (by decide), own_same (h.a.inn.alloc o) (same_grown hg (fun j cur hj hh => ?_)), (h.a.bel.alloc hs _).grown hg (by simp; omega) (fun j hj => (own_ge h.kept j hj.symm).1)⟩, ?_⟩
  · obtain ⟨_, c2, h2⟩ := own_ge (h.kept.alloc o) j hj.symm
    rw [h2] at hh
    simp at hh
  · rw [he, ecells_append, List.length_append]
    have : ecells [x] = ecs x := by simp [ecells]
    rw [this]; exact h1

set_option maxRecDepth 100000 in
set_option maxHeartbeats 4000000 in
theorem keep_p {G : World → Prop} (HG : KeptBy G) (lv : Value) (ok : ByteArray → Bool) (HO : Hid (OutOK G lv ok)) (v : Value) (es : List Ent) (w : World) (hG : G w) (hv : EntsAt w v es) (hl : es.length ≤ 1048576) (hz : ∀ e ∈ es, e.path.size ≤ 1048576) : Calls Tryz.prog 12 #[lv, v] w fun e w' => ∃ u, e = .returned u ∧ w'.ownsRow w.heap.size 38 5 u (keepB ok es).length (ecells (keepB ok es)) ∧ Below w.heap.size w w' := by
  obtain ⟨i0, hi, hz0, hz1, hz2⟩ := info_parts info_ent
  obtain ⟨j0, hj, hy0, hy1, hy2⟩ := info_parts info_str
  obtain ⟨a, cap, b, o, rfl, ha, hcap, hc⟩ := hv
  have hmk : ∀ W, (Instr.makeSlice 66 (.int .i64 (es.length : Int)) (.int .i64 (es.length : Int))).run Tryz.prog W = .ok (.slice (some ⟨W.heap.size, 0, none⟩) es.length es.length) (W.alloc (.cells (rowB es.length fun _ => false) 4)) := fun W => make_bools es.length (by omega) W
  have HC : Hid (∀ W i e, es[i]? = some e → Below w.heap.size w W → EntC W b (o + i * 5) e) := fun W i e he bb => (hc i e he).below bb
  have HGW : Hid (∀ W, Below w.heap.size w W → G W) := fun W bb => HG _ _ hG bb
  have HKB : Hid (es.filter (keepS ok es) = keepB ok es) := by
    unfold Hid keepB
    exact congrArg (fun f => List.filter f es) (funext fun e => keepS_eq ok es e)
  clear hc HG
  go_enter Tryz.func12, Tryz.ntmps12
  go_wp2
  go_loopw [6, 7, 8, 17] (fun v _ _ i wr => ∃ k : Nat, i = .int .i64 k ∧ k ≤ es.length ∧ KA w wr es.length (outF ok es k) v (inL ok (es.take k))) (fun _ _ _ i _ => es.length - (intOf i).toNat)
  case atStart =>
    refine ⟨0, rfl, Nat.zero_le _, ?_, World.ownsRow_nil _ _ _ _, (Below.refl _ w).alloc (Nat.le_refl _) _⟩
    rw [show rowB es.length (outF ok es 0) = rowB es.length (fun _ => false) from rowB_congr (fun i _ => outF_zero ok es i)]
    exact Lies.new w _ _
  case round =>
    obtain ⟨k, rfl, hk, hK⟩ := hrel
    by_cases hlt : k < es.length
    · have hlt' : (k : Int) < (es.length : Int) := by omega
      have hk0 : (0 : Int) ≤ (k : Int) := by omega
      obtain ⟨x, hx⟩ : ∃ x, es[k]? = some x := ⟨_, List.getElem?_eq_getElem hlt⟩
      obtain rfl := ha (fun e => by rw [e] at hlt; simp at hlt)
      have hxz := hz x (List.mem_of_getElem? hx)
      obtain ⟨c0, c1, c2, c3, c4⟩ := HC.out wr k x hx hK.bel
      have HIN : Hid _ := in_next ok es k x hx
      have hil := in_length ok es k
      have HF : Hid (∀ i, outF ok es (k + 1) i = if i = k then !ok x.path else outF ok es k i) := fun i => outF_succ hx i
      have HKA : Hid _ := hK
      clear hx ha hK
      go_upto_region 6 with fail
      have E1 := ent_new wr 38 x
      have K1 := HKA.out.below ((Below.refl _ wr).alloc (Nat.le_refl _) (.cells #[.string x.path, .int .i64 x.kind, .int .i64 x.mode, .string x.data, .string x.link] 38))
      have hgs : w.heap.size ≤ wr.heap.size := HKA.out.bel.size
      have hne : w.heap.size < wr.heap.size := HKA.out.row.lt
      clear HKA c0 c1 c2 c3 c4
      generalize (wr.alloc (.cells #[.string x.path, .int .i64 x.kind, .int .i64 x.mode, .string x.data, .string x.link] 38)) = W1 at *
      generalize wr.heap.size = ge at *
      have hO := HO.out W1 (HGW.out W1 K1.bel) x.path hxz
      have e0 := E1.c0
      have HE1 : Hid _ := E1
      have HK1 : Hid _ := K1
      clear E1 K1
      cases hok : ok x.path with
      | false =>
        rw [hok] at hO
        have HF2 : Hid (∀ i, outF ok es (k + 1) i = if i = k then true else outF ok es k i) := fun i => by rw [HF.out i, hok]; rfl
        have HI2 : Hid (inL ok (es.take (k + 1)) = inL ok (es.take k)) := by unfold Hid; rw [HIN.out, hok]; simp
        clear hok HF HIN
        go_upto_region 7 with (go_at_call 18; refine hO.mono ?_; rintro e x1 ⟨rfl, b1⟩; have L1 := (HK1.out.below b1).row; have f1 := L1.frozen k; have d1 := L1.cell (rowB_get _ _ k hlt))
        have K2 : KA w (x1.setCell ⟨w.heap.size, k, none⟩ (.bool true)) es.length (outF ok es (k + 1)) u6 (inL ok (es.take (k + 1))) := by
          rw [HI2.out]; exact (HK1.out.below b1).set true hlt HF2.out
        have d2 := K2.row.cell (rowB_get _ _ k hlt)
        rw [HF2.out k, if_pos rfl] at d2
        have HK2 : Hid _ := K2
        clear K2 L1 f1 d1 b1 HK1 HE1 e0 hO
        generalize x1.setCell ⟨w.heap.size, k, none⟩ (.bool true) = W2 at *
        go_wp2
        go_roundw
        case rel => exact ⟨k + 1, by go_num, by omega, HK2.out⟩
        case measure => simp [intOf]; omega
      | true =>
        rw [hok] at hO
        have HF2 : Hid (∀ i, outF ok es (k + 1) i = if i = k then false else outF ok es k i) := fun i => by rw [HF.out i, hok]; rfl
        have HI2 : Hid (inL ok (es.take (k + 1)) = inL ok (es.take k) ++ [x.path]) := by unfold Hid; rw [HIN.out, hok]; simp
        clear hok HF HIN
        go_upto_region 7 with (go_at_call 18; refine hO.mono ?_; rintro e x1 ⟨rfl, b1⟩; have L1 := (HK1.out.below b1).row; have f1 := L1.frozen k; have d1 := L1.cell (rowB_get _ _ k hlt))
        have K2 : KA w (x1.setCell ⟨w.heap.size, k, none⟩ (.bool false)) es.length (outF ok es (k + 1)) u6 (inL ok (es.take k)) := (HK1.out.below b1).set false hlt HF2.out
        have e2 := ((HE1.out.below b1).same (W2 := x1.setCell ⟨w.heap.size, k, none⟩ (.bool false)) (Below.heap_setCell _ _ _ _ (by show ge ≠ w.heap.size; omega))).c0
        have d2 := K2.row.cell (rowB_get _ _ k hlt)
        rw [HF2.out k, if_pos rfl] at d2
        clear L1 f1 d1 b1 HK1 HE1 e0 hO
        generalize x1.setCell ⟨w.heap.size, k, none⟩ (.bool false) = W2 at *
        have hs2 := K2.bel.size
        go_wp2_with (at_builtin; refine wpList_append_own _ rfl _ _ 46 rfl w.heap.size 9 j0 (.string ⟨#[]⟩) 1 16 Tryz.underlying46 hj hy0 hy1 hy2 rfl (by decide) _ _ _ rfl (K2.inn.alloc _) ⟨W2.heap.size, 0, none⟩ 1 1 [.string x.path] rfl rfl (cell_one_new _ _ _) (by simp [Value.oneCell']) (by unfold maxLen; omega) (by omega) (by simp; omega) ?_; intro v1 w1 hown1 hgrow1 _)
        have hb1 : Below w.heap.size w w1 := (K2.bel.alloc hs2 _).grown hgrow1 (by simp; omega) (fun j hj => (own_ge K2.inn j hj.symm).1)
        have K3 : KA w w1 es.length (outF ok es (k + 1)) v1 (inL ok (es.take (k + 1))) := by
          refine ⟨liesTurn (K2.row.alloc _) hgrow1 (fun j hj => (own_ge (K2.inn.alloc _) j hj.symm).2) (by decide), ?_, hb1⟩
          rw [HI2.out]; simpa [strs] using hown1
        clear hown1 hgrow1 K2 d2 e2
        go_roundw
        case rel => exact ⟨k + 1, by go_num, by omega, K3⟩
        case measure => simp [intOf]; omega
    · have hge : ¬ (k : Int) < (es.length : Int) := by omega
      have hka : k = es.length := by omega
      rw [hka, List.take_of_length_le (Nat.le_refl _)] at hK
      have hil := in_length ok es es.length
      rw [List.take_of_length_le (Nat.le_refl _)] at hil
      have hS := sort_own hK.inn (by omega)
      have HK1 : Hid _ := hK
      clear hK hka
      go_wp2_with (go_at_call 34; refine hS.mono ?_; rintro e w2 ⟨rfl, ho2, hg2⟩)
      have K2 : KA w w2 es.length (outF ok es es.length) u6 (srtL ok es) := by
        refine ⟨liesTurn HK1.out.row hg2 (fun j hj => (own_ge HK1.out.inn j hj.symm).2) (by decide), ?_, HK1.out.bel.grown hg2 HK1.out.bel.size (fun j hj => (own_ge HK1.out.inn j hj.symm).1)⟩
        rw [srtL_sortT, sortT_length]; exact ho2
      have HSP : Hid _ := srt_pair ok es
      have hsl : (srtL ok es).length ≤ es.length := by rw [srt_length]; exact hil
      clear ho2 hg2 HK1 hS
      obtain ⟨oi, ci, rfl⟩ : ∃ oi ci, u6 = .slice oi (srtL ok es).length ci := by
        rcases K2.inn.2 with ⟨h, h0⟩ | ⟨g, cap', cur, h, _⟩
        · exact ⟨none, 0, by rw [h, h0]⟩
        · exact ⟨_, _, h⟩
      have HK2 : Hid _ := K2
      clear K2
      go_loopw [9, 10, 11, 44] (fun u _ _ i wr2 => ∃ k : Nat, i = .int .i64 k ∧ k ≤ es.length ∧ KB w wr2 es.length (outF ok es es.length) (.slice oi (srtL ok es).length ci) (srtL ok es) u ((es.take k).filter (keepS ok es))) (fun _ _ _ i _ => es.length - (intOf i).toNat)
      case atStart => exact ⟨0, rfl, Nat.zero_le _, HK2.out, World.ownsRow_nil _ _ _ _⟩
      case round =>
        obtain ⟨k, rfl, hk, hK⟩ := hrel
        by_cases hlt : k < es.length
        · have hlt' : (k : Int) < (es.length : Int) := by omega
          have hk0 : (0 : Int) ≤ (k : Int) := by omega
          obtain ⟨x, hx⟩ : ∃ x, es[k]? = some x := ⟨_, List.getElem?_eq_getElem hlt⟩
          obtain rfl := ha (fun e => by rw [e] at hlt; simp at hlt)
          have hxz := hz x (List.mem_of_getElem? hx)
          obtain ⟨c0, c1, c2, c3, c4⟩ := HC.out wr k x hx hK.a.bel
          have HTK : Hid (es.take (k + 1) = es.take k ++ [x]) := by unfold Hid; rw [List.take_add_one, hx]; rfl
          have HFK : Hid (outF ok es es.length k = !ok x.path) := outF_at hx hlt
          have hkl : ((es.take k).filter (keepS ok es)).length ≤ es.length := by
            have h1 := List.length_filter_le (keepS ok es) (es.take k)
            rw [List.length_take] at h1; omega
          have HKA : Hid _ := hK
          clear hx ha hK
          go_upto_region 15 with fail
          have E1 := ent_new wr 38 x
          have K1 := HKA.out.below ((Below.refl _ wr).alloc (Nat.le_refl _) (.cells #[.string x.path, .int .i64 x.kind, .int .i64 x.mode, .string x.data, .string x.link] 38))
          clear HKA c0 c1 c2 c3 c4
          generalize (wr.alloc (.cells #[.string x.path, .int .i64 x.kind, .int .i64 x.mode, .string x.data, .string x.link] 38)) = W1 at *
          generalize wr.heap.size = ge at *
          have d1 := K1.a.row.cell (rowB_get _ _ k hlt)
          rw [HFK.out] at d1
          have HAP : Hid (Calls Tryz.prog 35 #[.string x.path, .slice oi (srtL ok es).length ci] W1 fun e w' => e = .returned (.bool (anyS x.path (srtL ok es))) ∧ Below W1.heap.size W1 w') := any_p x.path (srtL ok es) K1.a.inn HSP.out (by omega) (by omega)
          have e0 := E1.c0
          have HKS : Hid (keepS ok es x = (ok x.path || anyS x.path (srtL ok es))) := rfl
          have HLF : Hid (∀ (W : World) (u : Value), keepS ok es x = false → KB w W es.length (outF ok es es.length) (.slice oi (srtL ok es).length ci) (srtL ok es) u ((es.take k).filter (keepS ok es)) → KB w W es.length (outF ok es es.length) (.slice oi (srtL ok es).length ci) (srtL ok es) u ((es.take (k + 1)).filter (keepS ok es))) := fun W u h1 h2 => by
            rw [HTK.out, List.filter_append, show [x].filter (keepS ok es) = [] by simp [h1], List.append_nil]; exact h2
          have HEQ : Hid (keepS ok es x = true → (es.take (k + 1)).filter (keepS ok es) = (es.take k).filter (keepS ok es) ++ [x]) := fun h1 => by
            rw [HTK.out, List.filter_append, show [x].filter (keepS ok es) = [x] by simp [h1]]
          cases hok : ok x.path with
          | true =>
            rw [hok] at d1
            have HE2 := HEQ.out (by rw [HKS.out, hok]; rfl)
            have HE3 : Hid _ := HE2
            obtain ⟨f0, f1, f2, f3, f4⟩ := E1
            clear hok HKS HLF HEQ HE2 HAP e0
            have hs2 := K1.a.bel.size
            go_wp2_with (at_builtin; refine wpList_append_own _ rfl _ _ 22 rfl w.heap.size 38 i0 (.agg #[.string ⟨#[]⟩, .int .i64 0, .int .i64 0, .string ⟨#[]⟩, .string ⟨#[]⟩]) 5 64 Tryz.underlying22 hi hz0 hz1 hz2 rfl (by decide) _ _ _ rfl (K1.kept.alloc _) ⟨W1.heap.size, 0, none⟩ 1 1 (ecs x) rfl rfl (ent_cells (ent_new W1 _ x)) (ent_one x) (by unfold maxLen; omega) (by omega) (by simp; omega) ?_; intro v1 w1 hown1 hgrow1 _)
            have K3 := KB.app K1 hgrow1 hown1 HE3.out
            clear hown1 hgrow1 K1 d1 f0 f1 f2 f3 f4
            go_roundw
            case rel => exact ⟨k + 1, by go_num, by omega, K3⟩
            case measure => simp [intOf]; omega
          | false =>
            rw [hok] at d1
            cases has : anyS x.path (srtL ok es) with
            | true =>
              have hAP := HAP.out
              rw [has] at hAP
              have HE2 := HEQ.out (by rw [HKS.out, hok, has]; rfl)
              have HE3 : Hid _ := HE2
              have HEE : Hid _ := E1
              clear hok has HKS HLF HEQ HE2 HAP
              go_upto_region 16 with (go_at_call 35; refine hAP.mono ?_; rintro e x1 ⟨rfl, b1⟩)
              obtain ⟨f0, f1, f2, f3, f4⟩ := HEE.out.below b1
              have K2 := K1.below b1
              have hs2 := K2.a.bel.size
              clear K1 hAP e0 d1
              go_wp2_with (at_builtin; refine wpList_append_own _ rfl _ _ 22 rfl w.heap.size 38 i0 (.agg #[.string ⟨#[]⟩, .int .i64 0, .int .i64 0, .string ⟨#[]⟩, .string ⟨#[]⟩]) 5 64 Tryz.underlying22 hi hz0 hz1 hz2 rfl (by decide) _ _ _ rfl (K2.kept.alloc _) ⟨x1.heap.size, 0, none⟩ 1 1 (ecs x) rfl rfl (ent_cells (ent_new x1 _ x)) (ent_one x) (by unfold maxLen; omega) (by omega) (by simp; omega) ?_; intro v1 w1 hown1 hgrow1 _)
              have K3 := KB.app K2 hgrow1 hown1 HE3.out
              clear hown1 hgrow1 K2 f0 f1 f2 f3 f4
              go_roundw
              case rel => exact ⟨k + 1, by go_num, by omega, K3⟩
              case measure => simp [intOf]; omega
            | false =>
              have hAP := HAP.out
              rw [has] at hAP
              have HL2 : Hid _ := HLF.out
              have HKF : Hid (keepS ok es x = false) := by unfold Hid; rw [HKS.out, hok, has]; rfl
              clear hok has HKS HLF HEQ HAP E1
              go_wp2_with (go_at_call 35; refine hAP.mono ?_; rintro e x1 ⟨rfl, b1⟩)
              have K3 := HL2.out x1 _ HKF.out (K1.below b1)
              clear K1 hAP e0 d1
              go_roundw
              case rel => exact ⟨k + 1, by go_num, by omega, K3⟩
              case measure => simp [intOf]; omega
        · have hge : ¬ (k : Int) < (es.length : Int) := by omega
          have hka : k = es.length := by omega
          rw [hka, List.take_of_length_le (Nat.le_refl _), HKB.out] at hK
          have HKK : Hid _ := hK
          clear hK hka
          go_wp2
          go_ret
          exact ⟨_, rfl, HKK.out.kept, HKK.out.a.bel⟩
end Go.Proofs.YthkbhcefckbcnaaGreatDoor

namespace Go.Proofs.YthkbhcefckbcnaaGreatDoor
open Go Go.RowKit

/-- What the document's Out answers, in every world in which the rules stand. -/
def OutRK (G : World → Prop) (rv : Value) (ok : ByteArray → Bool) : Prop := ∀ W, G W → ∀ p : ByteArray, p.size ≤ 1048576 → Calls Tryz.prog 31 #[rv, .string p] W fun e w' => e = .returned (.bool (!ok p)) ∧ Below W.heap.size W w'
def inF (ok : ByteArray → Bool) (es : List Ent) (k i : Nat) : Bool := outF (fun p => !ok p) es k i
theorem inF_succ {ok : ByteArray → Bool} {es : List Ent} {k : Nat} {x : Ent} (hx : es[k]? = some x) (i : Nat) : inF ok es (k + 1) i = if i = k then ok x.path else inF ok es k i := by
  unfold inF; rw [outF_succ hx i, Bool.not_not]
theorem inF_at {ok : ByteArray → Bool} {es : List Ent} {k n : Nat} {x : Ent} (hx : es[k]? = some x) (hk : k < n) : inF ok es n k = ok x.path := by
  unfold inF; rw [outF_at hx hk, Bool.not_not]
/-- What the loops hold. -/
structure KR (w W : World) (n : Nat) (F : Nat → Bool) (u : Value) (ks : List Ent) : Prop where
  row : Lies W w.heap.size 4 (rowB n F)
  kept : W.ownsRow w.heap.size 38 5 u ks.length (ecells ks)
  bel : Below w.heap.size w W
theorem KR.below {w W W2 : World} {n : Nat} {F : Nat → Bool} {u : Value} {ks : List Ent} (h : KR w W n F u ks) (b : Below W.heap.size W W2) : KR w W2 n F u ks := ⟨h.row.below b, own_below h.kept b, h.bel.trans (b.mono h.bel.size)⟩
theorem KR.set {w W : World} {n k : Nat} {F F2 : Nat → Bool} (h : KR w W n F (.slice none 0 0) []) (b : Bool) (hk : k < n) (hF : ∀ i, F2 i = if i = k then b else F i) : KR w (W.setCell ⟨w.heap.size, k, none⟩ (.bool b)) n F2 (.slice none 0 0) [] := by
  refine ⟨?_, World.ownsRow_nil _ _ _ _, h.bel.setCell (p := ⟨w.heap.size, k, none⟩) (Nat.le_refl _) _⟩
  rw [show rowB n F2 = rowB n (fun i => if i = k then b else F i) from rowB_congr (fun i _ => hF i)]
  exact setBK h.row b hk
theorem KR.app {w W w1 : World} {n : Nat} {F : Nat → Bool} {u v1 : Value} {ks ks2 : List Ent} {x : Ent} {o : Obj} (h : KR w W n F u ks) (hg : (W.alloc o).grownBy w1 u.ownBlock) (h1 : w1.ownsRow w.heap.size 38 5 v1 (ks.length + 1) (ecells ks ++ ecs x)) (he : ks2 = ks ++ [x]) : KR w w1 n F v1 ks2 := by
  have hs := h.bel.size
  refine ⟨liesTurn (h.row.alloc o) hg (fun j hj => (own_ge (h.kept.alloc o) j hj.symm).2) (by decide), ?_, (h.bel.alloc hs _).grown hg (by simp; omega) (fun j hj => (own_ge h.kept j hj.symm).1)⟩
  rw [he, ecells_append, List.length_append]
  have : ecells [x] = ecs x := by simp [ecells]
  rw [this]; exact h1
theorem stay_mono {ok : ByteArray → Bool} {es : List Ent} {x : Ent} {m : Nat} (h : (ok x.path || anyB ok (es.take m) x.path) = true) : stayB ok es x = true := by
  unfold stayB
  rw [Bool.or_eq_true] at h ⊢
  rcases h with h | h
  · exact .inl h
  · right
    unfold anyB at h ⊢
    rw [List.any_eq_true] at h ⊢
    obtain ⟨f, hf, h2⟩ := h
    exact ⟨f, List.mem_of_mem_take hf, h2⟩
set_option maxRecDepth 100000 in
set_option maxHeartbeats 4000000 in
theorem keep_r {G : World → Prop} (HG : KeptBy G) (rv : Value) (ok : ByteArray → Bool) (HO : Hid (OutRK G rv ok)) (v : Value) (es : List Ent) (w : World) (hG : G w) (hv : EntsAt w v es) (hl : es.length ≤ 1048576) (hz : ∀ e ∈ es, e.path.size ≤ 1048576) : Calls Tryz.prog 10 #[rv, v] w fun e w' => ∃ u, e = .returned u ∧ w'.ownsRow w.heap.size 38 5 u (keepB ok es).length (ecells (keepB ok es)) ∧ Below w.heap.size w w' := by
  obtain ⟨i0, hi, hz0, hz1, hz2⟩ := info_parts info_ent
  obtain ⟨a, cap, b, o, rfl, ha, hcap, hc⟩ := hv
  have hmk : ∀ W, (Instr.makeSlice 66 (.int .i64 (es.length : Int)) (.int .i64 (es.length : Int))).run Tryz.prog W = .ok (.slice (some ⟨W.heap.size, 0, none⟩) es.length es.length) (W.alloc (.cells (rowB es.length fun _ => false) 4)) := fun W => make_bools es.length (by omega) W
  have HC : Hid (∀ W i e, es[i]? = some e → Below w.heap.size w W → EntC W b (o + i * 5) e) := fun W i e he bb => (hc i e he).below bb
  have HGW : Hid (∀ W, Below w.heap.size w W → G W) := fun W bb => HG _ _ hG bb
  clear hc HG
  go_enter Tryz.func10, Tryz.ntmps10
  go_wp2
  go_loopw [6] (fun i wr => ∃ k : Nat, i = .int .i64 k ∧ k ≤ es.length ∧ KR w wr es.length (inF ok es k) (.slice none 0 0) []) (fun i _ => es.length - (intOf i).toNat)
  case atStart =>
    refine ⟨0, rfl, Nat.zero_le _, ?_, World.ownsRow_nil _ _ _ _, (Below.refl _ w).alloc (Nat.le_refl _) _⟩
    rw [show rowB es.length (inF ok es 0) = rowB es.length (fun _ => false) from rowB_congr (fun i _ => outF_zero _ es i)]
    exact Lies.new w _ _
  case round =>
    obtain ⟨k, rfl, hk, hK⟩ := hrel
    by_cases hlt : k < es.length
    · have hlt' : (k : Int) < (es.length : Int) := by omega
      have hk0 : (0 : Int) ≤ (k : Int) := by omega
      obtain ⟨x, hx⟩ : ∃ x, es[k]? = some x := ⟨_, List.getElem?_eq_getElem hlt⟩
      obtain rfl := ha (fun e => by rw [e] at hlt; simp at hlt)
      have hxz := hz x (List.mem_of_getElem? hx)
      obtain ⟨c0, _, _, _, _⟩ := HC.out wr k x hx hK.bel
      have HF : Hid (∀ i, inF ok es (k + 1) i = if i = k then ok x.path else inF ok es k i) := fun i => inF_succ hx i
      have hO := HO.out wr (HGW.out wr hK.bel) x.path hxz
      have HKA : Hid _ := hK
      clear hx ha hK
      go_wp2_with (go_at_call 31; refine hO.mono ?_; rintro e x1 ⟨rfl, b1⟩; have L1 := (HKA.out.below b1).row; have f1 := L1.frozen k; have d1 := L1.cell (rowB_get _ _ k hlt))
      have K2 : KR w (x1.setCell ⟨w.heap.size, k, none⟩ (.bool (ok x.path))) es.length (inF ok es (k + 1)) (.slice none 0 0) [] := (HKA.out.below b1).set (ok x.path) hlt HF.out
      clear L1 f1 d1
      go_roundw
      case rel => exact ⟨k + 1, by go_num, by omega, by first | exact K2 | (rw [Bool.not_not]; exact K2) | simpa using K2⟩
      case measure => simp [intOf]; omega
    · have hge : ¬ (k : Int) < (es.length : Int) := by omega
      have hka : k = es.length := by omega
      rw [hka] at hK
      have HK1 : Hid _ := hK
      clear hK hka
      go_wp2
      go_loopw [7, 8, 9, 10] (fun u i _ _ wr => ∃ k : Nat, i = .int .i64 k ∧ k ≤ es.length ∧ KR w wr es.length (inF ok es es.length) u ((es.take k).filter (stayB ok es))) (fun _ i _ _ _ => es.length - (intOf i).toNat)
      case atStart => exact ⟨0, rfl, Nat.zero_le _, HK1.out⟩
      case round =>
        obtain ⟨k, rfl, hk, hK⟩ := hrel
        by_cases hlt : k < es.length
        · have hlt' : (k : Int) < (es.length : Int) := by omega
          have hk0 : (0 : Int) ≤ (k : Int) := by omega
          obtain ⟨x, hx⟩ : ∃ x, es[k]? = some x := ⟨_, List.getElem?_eq_getElem hlt⟩
          obtain rfl := ha (fun e => by rw [e] at hlt; simp at hlt)
          have hxz := hz x (List.mem_of_getElem? hx)
          have HTK : Hid (es.take (k + 1) = es.take k ++ [x]) := by unfold Hid; rw [List.take_add_one, hx]; rfl
          have HFK : Hid (inF ok es es.length k = ok x.path) := inF_at hx hlt
          have hkl : ((es.take k).filter (stayB ok es)).length ≤ es.length := by
            have h1 := List.length_filter_le (stayB ok es) (es.take k)
            rw [List.length_take] at h1; omega
          have HXE : Hid (∀ W, Below w.heap.size w W → EntC W b (o + k * 5) x) := fun W bb => HC.out W k x hx bb
          have HLF : Hid (∀ (W : World) (u : Value), stayB ok es x = false → KR w W es.length (inF ok es es.length) u ((es.take k).filter (stayB ok es)) → KR w W es.length (inF ok es es.length) u ((es.take (k + 1)).filter (stayB ok es))) := fun W u h1 h2 => by
            rw [HTK.out, List.filter_append, show [x].filter (stayB ok es) = [] by simp [h1], List.append_nil]; exact h2
          have HEQ : Hid (stayB ok es x = true → (es.take (k + 1)).filter (stayB ok es) = (es.take k).filter (stayB ok es) ++ [x]) := fun h1 => by
            rw [HTK.out, List.filter_append, show [x].filter (stayB ok es) = [x] by simp [h1]]
          have d0 := hK.row.cell (rowB_get _ _ k hlt)
          rw [HFK.out] at d0
          have HKA : Hid (KR w wr es.length (inF ok es es.length) u7 ((es.take k).filter (stayB ok es))) := hK
          clear hx hK
          go_wp2
          go_loopw [9, 10] (fun st kk wr2 => ∃ m : Nat, kk = .int .i64 m ∧ m ≤ es.length ∧ st = .bool (ok x.path || anyB ok (es.take m) x.path) ∧ KR w wr2 es.length (inF ok es es.length) u7 ((es.take k).filter (stayB ok es))) (fun _ kk _ => es.length - (intOf kk).toNat)
          case atStart => exact ⟨0, rfl, Nat.zero_le _, by simp [anyB], HKA.out⟩
          case round =>
            clear d0 HKA
            obtain ⟨m, rfl, hm, rfl, K1⟩ := hrel
            have hm0 : (0 : Int) ≤ (m : Int) := by omega
            have hs2 := K1.bel.size
            cases hst : (ok x.path || anyB ok (es.take m) x.path) with
            | true =>
              have HE3 : Hid ((es.take (k + 1)).filter (stayB ok es) = (es.take k).filter (stayB ok es) ++ [x]) := HEQ.out (stay_mono hst)
              obtain ⟨f0, f1, f2, f3, f4⟩ := HXE.out wr K1.bel
              clear HEQ HLF
              by_cases hmn : m < es.length
              · have hmn' : (m : Int) < (es.length : Int) := by omega
                go_wp2_with (at_builtin; refine wpList_append_own _ rfl _ _ 22 rfl w.heap.size 38 i0 (.agg #[.string ⟨#[]⟩, .int .i64 0, .int .i64 0, .string ⟨#[]⟩, .string ⟨#[]⟩]) 5 64 Tryz.underlying22 hi hz0 hz1 hz2 rfl (by decide) _ _ _ rfl (K1.kept.alloc _) ⟨wr.heap.size, 0, none⟩ 1 1 (ecs x) rfl rfl (ent_cells (ent_new wr _ x)) (ent_one x) (by unfold maxLen; omega) (by omega) (by simp; omega) ?_; intro v1 w2 hown1 hgrow1 _)
                have K3 := KR.app K1 hgrow1 hown1 HE3.out
                clear hown1 hgrow1 K1 f0 f1 f2 f3 f4
                go_roundw
                case rel => exact ⟨k + 1, by go_num, by omega, K3⟩
                case measure => simp [intOf]; omega
              · have hmn' : ¬ (m : Int) < (es.length : Int) := by omega
                go_wp2_with (at_builtin; refine wpList_append_own _ rfl _ _ 22 rfl w.heap.size 38 i0 (.agg #[.string ⟨#[]⟩, .int .i64 0, .int .i64 0, .string ⟨#[]⟩, .string ⟨#[]⟩]) 5 64 Tryz.underlying22 hi hz0 hz1 hz2 rfl (by decide) _ _ _ rfl (K1.kept.alloc _) ⟨wr.heap.size, 0, none⟩ 1 1 (ecs x) rfl rfl (ent_cells (ent_new wr _ x)) (ent_one x) (by unfold maxLen; omega) (by omega) (by simp; omega) ?_; intro v1 w2 hown1 hgrow1 _)
                have K3 := KR.app K1 hgrow1 hown1 HE3.out
                clear hown1 hgrow1 K1 f0 f1 f2 f3 f4
                go_roundw
                case rel => exact ⟨k + 1, by go_num, by omega, K3⟩
                case measure => simp [intOf]; omega
            | false =>
              rw [Bool.or_eq_false_iff] at hst
              by_cases hmn : m < es.length
              · have hmn' : (m : Int) < (es.length : Int) := by omega
                obtain ⟨y, hy⟩ : ∃ y, es[m]? = some y := ⟨_, List.getElem?_eq_getElem hmn⟩
                have HN : Hid (anyB ok (es.take (m + 1)) x.path = (belowB x.path y.path && ok y.path)) := any_next ok es x.path m y hy hst.2
                have HX0 : Hid (ok x.path = false) := hst.1
                have dm := K1.row.cell (rowB_get _ _ m hmn)
                rw [inF_at hy hmn] at dm
                have cx := (HXE.out wr K1.bel).c0
                have cy := (HC.out wr m y hy K1.bel).c0
                have hyz := hz y (List.mem_of_getElem? hy)
                clear hy hst
                cases hoy : ok y.path with
                | false =>
                  rw [hoy] at dm
                  go_wp2
                  go_quiet (fail)
                  go_wp2
                  go_roundw
                  case rel => exact ⟨m + 1, by go_num, by omega, by first | (rw [HN.out, hoy, HX0.out]; simp; done) | simp [HN.out, hoy, HX0.out], K1.below ⟨rfl, rfl, rfl, Nat.le_refl _, fun _ _ => rfl⟩⟩
                  case measure => simp [intOf]; omega
                | true =>
                  rw [hoy] at dm
                  go_wp2
                  go_quiet ((go_at_call 32; exact Calls.quiet_of_same (below_r x.path y.path _ (by omega))))
                  go_wp2
                  go_roundw
                  case rel => exact ⟨m + 1, by go_num, by omega, by first | (rw [HN.out, hoy, HX0.out]; simp; done) | simp [HN.out, hoy, HX0.out], K1.below ⟨rfl, rfl, rfl, Nat.le_refl _, fun _ _ => rfl⟩⟩
                  case measure => simp [intOf]; omega
              · have hmn' : ¬ (m : Int) < (es.length : Int) := by omega
                have K3 := HLF.out wr u7 (by
                  rw [List.take_of_length_le (by omega)] at hst
                  unfold stayB; rw [hst.1, hst.2]; rfl) K1
                clear hst
                go_wp2
                go_roundw
                case rel => exact ⟨k + 1, by go_num, by omega, K3⟩
                case measure => simp [intOf]; omega
        · have hge : ¬ (k : Int) < (es.length : Int) := by omega
          have hka : k = es.length := by omega
          rw [hka, List.take_of_length_le (Nat.le_refl _)] at hK
          have HKK : Hid (KR w wr es.length (inF ok es es.length) u7 (keepB ok es)) := hK
          clear hK hka
          go_wp2
          go_ret
          exact ⟨_, rfl, HKK.out.kept, HKK.out.bel⟩
end Go.Proofs.YthkbhcefckbcnaaGreatDoor

namespace Go.Proofs.YthkbhcefckbcnaaGreatDoor
open Go Go.RowKit

def mkb8 (x : Int) : UInt8 := UInt8.ofNat (x % 256).toNat
theorem mkb8_int (x : Int) : ((mkb8 x).toNat : Int) = x % 256 := by
  unfold mkb8
  rw [UInt8.toNat_ofNat']; omega
def mkTx (k i : Int) : ByteArray := bs [35, mkb8 k, mkb8 (k / 256), mkb8 i, mkb8 (i / 256)]
set_option maxRecDepth 100000 in
theorem mkTx_conv (k i : Int) (w : World) : (convert 84 9 (.slice (some ⟨w.heap.size, 0, none⟩) 5 5)).run Tryz.prog (w.alloc (.cells #[.int .u8 35, .int .u8 (k % 256), .int .u8 (k / 256 % 256), .int .u8 (i % 256), .int .u8 (i / 256 % 256)] 5)) = .ok (.string (mkTx k i)) (w.alloc (.cells #[.int .u8 35, .int .u8 (k % 256), .int .u8 (k / 256 % 256), .int .u8 (i % 256), .int .u8 (i / 256 % 256)] 5)) := by
  refine run_convert_bytes_back _ 84 9 5 ⟨w.heap.size, 0, none⟩ 5 [35, mkb8 k, mkb8 (k / 256), mkb8 i, mkb8 (i / 256)] Tryz.underlying84 Tryz.underlying5 Tryz.underlying9 ?_
  intro j hj
  simp only [← mkb8_int]
  have hc := fun v (h : (#[.int .u8 35, .int .u8 ((mkb8 k).toNat : Int), .int .u8 ((mkb8 (k / 256)).toNat : Int), .int .u8 ((mkb8 i).toNat : Int), .int .u8 ((mkb8 (i / 256)).toNat : Int)] : Array Value)[j]? = some v) => (Lies.new w 5 #[.int .u8 35, .int .u8 ((mkb8 k).toNat : Int), .int .u8 ((mkb8 (k / 256)).toNat : Int), .int .u8 ((mkb8 i).toNat : Int), .int .u8 ((mkb8 (i / 256)).toNat : Int)]).cell h
  have e : (⟨w.heap.size, 0, none⟩ : Addr).add j = ⟨w.heap.size, j, none⟩ := by rw [Addr.add_mid, Nat.zero_add]
  rw [e]
  refine hc _ ?_
  rcases j with _ | _ | _ | _ | _ | j
  · rfl
  · rfl
  · rfl
  · rfl
  · rfl
  · simp at hj; omega
set_option maxRecDepth 100000 in
set_option maxHeartbeats 2000000 in
theorem mkTx_p (k i : Int) (w : World) : Calls Tryz.prog 66 #[.int .i64 k, .int .i64 i] w fun e w' => e = .returned (.string (mkTx k i)) ∧ Below w.heap.size w w' := by
  have hcv := mkTx_conv k i w
  go_enter Tryz.func66, Tryz.ntmps66
  go_wp2
  go_ret
  exact ⟨rfl, (Below.refl _ w).alloc (Nat.le_refl _) _⟩
theorem own_below0 {W W2 : World} {base e size n : Nat} {v : Value} {xs : List Value} (h : W.ownsRow base e size v n xs) (hb : Below W.heap.size W W2) : W2.ownsRow base e size v n xs := by
  refine ⟨h.1, ?_⟩
  rcases h.2 with hn | ⟨g, cap, cur, rfl, hg, hgg, rest⟩
  · exact .inl hn
  · exact .inr ⟨g, cap, cur, rfl, hg, (hb.block g (Array.getElem?_eq_some_iff.1 hgg).1).trans hgg, rest⟩
/-- A mark. -/
def markE (k i : Int) : Ent := ⟨mkTx k i, 0, -7 - k, ⟨#[]⟩, ⟨#[]⟩⟩
def evs (e : Ent) : Array Value := #[.string e.path, .int .i64 e.kind, .int .i64 e.mode, .string e.data, .string e.link]
theorem evs_size (e : Ent) : (Tryz.prog.info? 38).map (·.size) = some (evs e).size := by
  show _ = some 5
  kernel_rfl
set_option maxRecDepth 100000 in
set_option maxHeartbeats 2000000 in
theorem markE_p (k i : Int) (h0 : 0 ≤ k) (h1 : k ≤ 1000000) (w : World) : Calls Tryz.prog 37 #[.int .i64 k, .int .i64 i] w fun e w' => e = .returned (.agg #[.string (markE k i).path, .int .i64 (markE k i).kind, .int .i64 (markE k i).mode, .string (markE k i).data, .string (markE k i).link]) ∧ Below w.heap.size w w' := by
  have b0 : Below w.heap.size w (w.alloc (.cells #[.string ⟨#[]⟩, .int .i64 0, .int .i64 0, .string ⟨#[]⟩, .string ⟨#[]⟩] 38)) := (Below.refl _ w).alloc (Nat.le_refl _) _
  have L0 := Lies.new w 38 #[.string ⟨#[]⟩, .int .i64 0, .int .i64 0, .string ⟨#[]⟩, .string ⟨#[]⟩]
  have hw : IntKind.i64.wrap (-7 - k) = -7 - k := by
    simp only [IntKind.wrap, IntKind.bits, IntKind.signed]
    simp
    omega
  have hinf : (Tryz.prog.info? 38).map (·.size) = some 5 := by kernel_rfl
  have hone : (#[.string (mkTx k i), .int .i64 0, .int .i64 (-7 - k), .string ⟨#[]⟩, .string ⟨#[]⟩] : Array Value).all (·.oneCell') = true := by simp [Value.oneCell']
  go_enter Tryz.func37, Tryz.ntmps37
  go_wp2_with (first
    | (go_at_call 66; refine (mkTx_p k i _).mono ?_; rintro e w1 ⟨rfl, b1⟩; have L1 := L0.below b1)
    | (refine wpList_store_row rfl 38 (.tmp 4) (.tmp 10) rfl w.heap.size #[.string (mkTx k i), .int .i64 0, .int .i64 (-7 - k), .string ⟨#[]⟩, .string ⟨#[]⟩] rfl rfl 38 #[.string ⟨#[]⟩, .int .i64 0, .int .i64 0, .string ⟨#[]⟩, .string ⟨#[]⟩] L1 hinf rfl hone ?_))
  dsimp only [Act.put]
  refine bodyPost_ret (results_cell_row rfl _ _ w.heap.size 38 #[.string (mkTx k i), .int .i64 0, .int .i64 (-7 - k), .string ⟨#[]⟩, .string ⟨#[]⟩] (0, 0) _ rfl (setRow_heap w1 w.heap.size _ _ _ (0, 0) L1) Tryz.underlying38 rfl hinf) rfl ?_
  exact ⟨rfl, below_setRow (b0.trans (b1.mono b0.size)) (Nat.le_refl _) _⟩
def marksE (n : Nat) : List Ent := List.map (fun i : Nat => markE 90 (i : Int)) (List.range n)
theorem marksE_succ (n : Nat) : marksE (n + 1) = marksE n ++ [markE 90 n] := by simp [marksE, List.range_succ]
theorem marksE_length (n : Nat) : (marksE n).length = n := by simp [marksE]
theorem marksE_get (n i : Nat) (h : i < n) : (marksE n)[i]? = some (markE 90 i) := by simp [marksE, h]

set_option maxHeartbeats 4000000 in
set_option maxRecDepth 100000 in
theorem fullE_p (es : List Ent) (v : Value) (w : World) (hv : EntsAt w v es) (hl : es.length ≤ 1073741824) : Calls Tryz.prog 33 #[v] w fun e w' => ∃ u, e = .returned u ∧ w'.ownsRow w.heap.size 38 5 u (es.length + 16) (ecells (es ++ marksE 16)) ∧ Below w.heap.size w w' := by
  obtain ⟨i0, hi, hz0, hz1, hz2⟩ := info_parts info_ent
  obtain ⟨a, cap, b, o, rfl, ha, hcap, hc⟩ := hv
  go_enter Tryz.func33, Tryz.ntmps33
  go_wp2
  go_loopw [3, 4] (fun v i wr => ∃ k : Nat, i = .int .i64 k ∧ k ≤ es.length ∧ wr.ownsRow w.heap.size 38 5 v (es.take k).length (ecells (es.take k)) ∧ Below w.heap.size w wr) (fun _ i _ => es.length - (intOf i).toNat)
  case atStart => exact ⟨0, rfl, Nat.zero_le _, World.ownsRow_nil _ _ _ _, Below.refl _ _⟩
  case round =>
    obtain ⟨k, rfl, hk, hown, hB⟩ := hrel
    have hsz := hB.size
    by_cases hlt : k < es.length
    · have hlt' : (k : Int) < (es.length : Int) := by omega
      have hk0 : (0 : Int) ≤ (k : Int) := by omega
      obtain ⟨x, hx⟩ : ∃ x, es[k]? = some x := ⟨_, List.getElem?_eq_getElem hlt⟩
      obtain rfl := ha (fun e => by rw [e] at hlt; simp at hlt)
      obtain ⟨c0, c1, c2, c3, c4⟩ := (hc k x hx).below hB
      have hlk : (es.take k).length ≤ es.length := by rw [List.length_take]; omega
      have HX : Hid (es.take (k + 1) = es.take k ++ [x]) := by unfold Hid; rw [List.take_add_one, hx]; rfl
      clear hx hc ha
      go_wp2_with (at_builtin; refine wpList_append_own _ rfl _ _ 22 rfl w.heap.size 38 i0 (.agg #[.string ⟨#[]⟩, .int .i64 0, .int .i64 0, .string ⟨#[]⟩, .string ⟨#[]⟩]) 5 64 Tryz.underlying22 hi hz0 hz1 hz2 rfl (by decide) _ _ _ rfl (hown.alloc _) ⟨wr.heap.size, 0, none⟩ 1 1 (ecs x) rfl rfl (ent_cells (ent_new wr _ x)) (ent_one x) (by unfold maxLen; omega) (by omega) (by simp; omega) ?_; intro v1 w1 hown1 hgrow1 _)
      have hb1 : Below w.heap.size w w1 := (hB.alloc hsz _).grown hgrow1 (by simp; omega) (fun j hj => (own_ge hown j hj.symm).1)
      have hown2 : w1.ownsRow w.heap.size 38 5 v1 (es.take (k + 1)).length (ecells (es.take (k + 1))) := by
        rw [HX.out, ecells_append, List.length_append]; simpa [ecells] using hown1
      clear hown1 hgrow1 hown
      go_roundw
      case rel => exact ⟨k + 1, by go_num, by omega, hown2, hb1⟩
      case measure => simp [intOf]; omega
    · have hge : ¬ (k : Int) < (es.length : Int) := by omega
      have hall : es.take k = es := List.take_of_length_le (by omega)
      rw [hall] at hown
      clear ha hc
      go_wp2_with fail
      go_loopw [3, 5] (fun v i wr => ∃ m : Nat, i = .int .i64 m ∧ m ≤ 16 ∧ wr.ownsRow w.heap.size 38 5 v (es ++ marksE m).length (ecells (es ++ marksE m)) ∧ Below w.heap.size w wr) (fun _ i _ => 16 - (intOf i).toNat)
      case atStart => exact ⟨0, rfl, Nat.zero_le _, by rw [show marksE 0 = [] from rfl, List.append_nil]; exact hown, hB⟩
      case round =>
        clear hown hB hsz
        obtain ⟨m, rfl, hm, hown, hB⟩ := hrel
        by_cases hlt : m < 16
        · have hlt' : (m : Int) < 16 := by omega
          have hM := fun W => markE_p 90 m (by decide) (by decide) W
          have HX : Hid (es ++ marksE (m + 1) = (es ++ marksE m) ++ [markE 90 m]) := by unfold Hid; rw [marksE_succ, ← List.append_assoc]
          have hln : (es ++ marksE m).length ≤ 1073741840 := by rw [List.length_append, marksE_length]; omega
          generalize markE 90 (m : Int) = x at *
          go_wp2_with (first
            | (go_at_call 37; refine (hM _).mono ?_; rintro e w1 ⟨rfl, b1⟩; have hown1 := own_below0 hown b1; have hB1 := hB.trans (b1.mono hB.size); have hs1 := hB1.size)
            | (at_builtin; refine wpList_append_own _ rfl _ _ 22 rfl w.heap.size 38 i0 (.agg #[.string ⟨#[]⟩, .int .i64 0, .int .i64 0, .string ⟨#[]⟩, .string ⟨#[]⟩]) 5 64 Tryz.underlying22 hi hz0 hz1 hz2 rfl (by decide) _ _ _ rfl (hown1.alloc _) ⟨w1.heap.size, 0, none⟩ 1 1 (ecs x) rfl rfl (ent_cells (ent_new w1 _ x)) (ent_one x) (by unfold maxLen; omega) (by omega) (by simp; omega) ?_; intro v1 w2 hown2 hgrow2 _))
          have hb2 : Below w.heap.size w w2 := (hB1.alloc hs1 _).grown hgrow2 (by simp; omega) (fun j hj => (own_ge hown1 j hj.symm).1)
          have hown3 : w2.ownsRow w.heap.size 38 5 v1 (es ++ marksE (m + 1)).length (ecells (es ++ marksE (m + 1))) := by
            rw [HX.out, ecells_append, List.length_append]; simpa [ecells] using hown2
          clear hown1 hgrow2 hown2 hown
          go_roundw
          case rel => exact ⟨m + 1, by go_num, by omega, hown3, hb2⟩
          case measure => simp [intOf]; omega
        · have hge2 : ¬ (m : Int) < 16 := by omega
          have hm16 : m = 16 := by omega
          rw [hm16, List.length_append, marksE_length] at hown
          have HW : Hid _ := hown
          clear hown hm16
          go_wp2
          go_ret
          exact ⟨_, rfl, HW.out, hB⟩
/-- A list that was lent: the entries, and sixteen marks behind them. -/
def LentE (w : World) (v : Value) (es : List Ent) : Prop :=
  ∃ g cap, v = .slice (some ⟨g, 0, none⟩) es.length cap ∧ es.length + 16 ≤ cap ∧ cap ≤ maxLen ∧ ∀ j x, (es ++ marksE 16)[j]? = some x → EntC w g (j * 5) x
theorem LentE.below {w w' : World} {v : Value} {es : List Ent} (h : LentE w v es) (hb : Below w.heap.size w w') : LentE w' v es := by
  obtain ⟨g, cap, rfl, hc, hm, h3⟩ := h
  exact ⟨g, cap, rfl, hc, hm, fun j x hx => (h3 j x hx).below hb⟩
theorem LentE.ents {w : World} {v : Value} {es : List Ent} (h : LentE w v es) : EntsAt w v es := by
  obtain ⟨g, cap, rfl, hc, _, h3⟩ := h
  refine ⟨_, cap, g, 0, rfl, fun _ => rfl, by omega, fun i x hx => ?_⟩
  rw [Nat.zero_add]
  exact h3 i x (by rw [List.getElem?_append_left (List.getElem?_eq_some_iff.1 hx).1]; exact hx)
set_option maxHeartbeats 2000000 in
set_option maxRecDepth 100000 in
theorem lentE_p (es : List Ent) (v : Value) (w : World) (hv : EntsAt w v es) (hl : es.length ≤ 1073741824) : Calls Tryz.prog 11 #[v] w fun e w' => ∃ u, e = .returned u ∧ LentE w' u es ∧ w'.ownsRow w.heap.size 38 5 u es.length (ecells es) ∧ Below w.heap.size w w' := by
  have hF := fullE_p es v w hv hl
  obtain ⟨a, cap0, b, o, rfl, ha, _, hc⟩ := hv
  clear hc ha
  go_enter Tryz.func11, Tryz.ntmps11
  go_wp2_with fail
  refine hF.mono ?_
  rintro e w1 ⟨u, rfl, hown, b1⟩
  have hown2 : w1.ownsRow w.heap.size 38 5 u (es ++ marksE 16).length (ecells (es ++ marksE 16)) := by rw [List.length_append, marksE_length]; exact hown
  obtain ⟨a3, cap3, b3, o3, h31, h32, h33, h34⟩ := ents_of_owns hown2
  rcases hown.2 with ⟨_, h0⟩ | ⟨g, cap, cur, rfl, hgb, hgg, hcap, hmax, hcs, htk⟩
  · omega
  have hne : es ++ marksE 16 ≠ [] := fun e => by have := congrArg List.length e; rw [List.length_append, marksE_length] at this; simp at this
  have e3 := h32 hne
  rw [e3] at h31
  injection h31 with h311 h312 h313
  injection h311 with h311
  injection h311 with h3a h3b
  subst h3a; subst h3b; subst h313
  clear h312
  have HI : Hid (LentE w1 (.slice (some ⟨g, 0, none⟩) es.length cap) es) := ⟨g, cap, rfl, hcap, hmax, fun j x hx => by have := h34 j x hx; rw [Nat.zero_add] at this; exact this⟩
  have HO : Hid (w1.ownsRow w.heap.size 38 5 (.slice (some ⟨g, 0, none⟩) es.length cap) es.length (ecells es)) := by
    refine ⟨ecells_length es, .inr ⟨g, cap, cur, rfl, hgb, hgg, by omega, hmax, hcs, ?_⟩⟩
    have h5 : cur.toList.take (es.length * 5) = (cur.toList.take ((es.length + 16) * 5)).take (es.length * 5) := by rw [List.take_take, Nat.min_eq_left (by omega)]
    rw [h5, htk, ecells_append, List.take_append_of_le_length (by rw [ecells_length]; exact Nat.le_refl _), List.take_of_length_le (by rw [ecells_length]; exact Nat.le_refl _)]
  clear hown hown2 h34 h32 hgg htk
  unfold maxLen at hmax
  have d1 : (0 : Int) ≤ (es.length : Int) := by omega
  have d2 : (es.length : Int) ≤ (cap : Int) := by omega
  go_wp2
  go_ret
  exact ⟨_, rfl, HI.out, HO.out, b1⟩
end Go.Proofs.YthkbhcefckbcnaaGreatDoor

namespace Go.Proofs.YthkbhcefckbcnaaGreatDoor
open Go Go.RowKit

theorem kept_at {w : World} {g k : Nat} {es : List Ent} {x : Ent} (hG : ∀ j x, (es ++ marksE 16)[j]? = some x → EntC w g (j * 5) x) (hx : (es ++ marksE 16)[k]? = some x) : EntC w g (k * 5) x := hG k x hx
theorem mark_at {es : List Ent} {k : Nat} {x : Ent} (hx : (es ++ marksE 16)[k]? = some x) (hk : ¬ k < es.length) (h2 : k < es.length + 16) : x = markE 90 ((k : Int) - (es.length : Int)) := by
  rw [List.getElem?_append_right (by omega), marksE_get _ _ (by omega)] at hx
  have e9 : ((k - es.length : Nat) : Int) = (k : Int) - (es.length : Int) := by omega
  rw [← Option.some.inj hx, e9]
set_option maxHeartbeats 2000000 in
set_option maxRecDepth 100000 in
theorem keptfullE_p (es : List Ent) (g cap : Nat) (v : Value) (w : World) (hv : EntsAt w v es) (hl : es.length ≤ 1073741824) (hG : ∀ j x, (es ++ marksE 16)[j]? = some x → EntC w g (j * 5) x) : Calls Tryz.prog 36 #[.slice (some ⟨g, 0, none⟩) (es.length + 16) cap, v] w fun e w' => e = .returned (.bool true) ∧ Below w.heap.size w w' := by
  obtain ⟨a, cap2, b, o, rfl, ha, hcap, hc⟩ := hv
  have HC : Hid (∀ W i e, es[i]? = some e → Below w.heap.size w W → EntC W b (o + i * 5) e) := fun W i e he bb => (hc i e he).below bb
  have HGC : Hid (∀ W j x, (es ++ marksE 16)[j]? = some x → Below w.heap.size w W → EntC W g (j * 5) x) := fun W j x hx bb => (hG j x hx).below bb
  have hinf : (Tryz.prog.info? 38).map (·.size) = some 5 := by kernel_rfl
  clear hc hG
  go_enter Tryz.func36, Tryz.ntmps36
  go_wp2_with fail
  go_loopw [5, 6] (fun n _ wr => ∃ k : Nat, k ≤ es.length + 16 ∧ n = .int .i64 k ∧ Below w.heap.size w wr) (fun n _ _ => es.length + 16 - (intOf n).toNat)
  case atStart => exact ⟨0, Nat.zero_le _, rfl, Below.refl _ _⟩
  case round =>
    obtain ⟨k, hk, rfl, hB⟩ := hrel
    by_cases hlt : k < es.length + 16
    · have hlt' : (k : Int) < (es.length : Int) + 16 := by omega
      have hk0 : (0 : Int) ≤ (k : Int) := by omega
      obtain ⟨x, hx⟩ : ∃ x, (es ++ marksE 16)[k]? = some x := ⟨_, List.getElem?_eq_getElem (by rw [List.length_append, marksE_length]; exact hlt)⟩
      have HX : Hid _ := hx
      have hM := fun W => markE_p 90 ((k : Int) - (es.length : Int)) (by decide) (by decide) W
      have HMA : Hid (¬ k < es.length → markE 90 ((k : Int) - (es.length : Int)) = x) := fun h => (mark_at hx h hlt).symm
      have heq := fun W => eq_self x W
      by_cases hin : k < es.length
      · have hin' : (k : Int) < (es.length : Int) := by omega
        have hx2 : es[k]? = some x := by rwa [List.getElem?_append_left hin] at hx
        obtain rfl := ha (fun e => by rw [e] at hin; simp at hin)
        clear HMA hx
        generalize markE 90 ((k : Int) - (es.length : Int)) = y at *
        go_upto_region 7 with (go_at_call 37; refine (hM _).mono ?_; rintro e w1 ⟨rfl, b1⟩)
        have B1 := hB.trans (b1.mono hB.size)
        have L2 := Lies.new w1 38 #[.string y.path, .int .i64 y.kind, .int .i64 y.mode, .string y.data, .string y.link]
        have B2 : Below w.heap.size w (w1.alloc (.cells #[.string y.path, .int .i64 y.kind, .int .i64 y.mode, .string y.data, .string y.link] 38)) := B1.alloc B1.size _
        have hge : w.heap.size ≤ w1.heap.size := B1.size
        clear b1 hM B1
        generalize (w1.alloc (.cells #[.string y.path, .int .i64 y.kind, .int .i64 y.mode, .string y.data, .string y.link] 38)) = W2 at *
        generalize w1.heap.size = ge at *
        obtain ⟨c0, c1, c2, c3, c4⟩ := HC.out W2 k x hx2 B2
        have hone : (#[.string x.path, .int .i64 x.kind, .int .i64 x.mode, .string x.data, .string x.link] : Array Value).all (·.oneCell') = true := by simp [Value.oneCell']
        clear hx2
        go_upto_region 9 with (first | (refine wpList_store_row rfl 38 (.tmp 6) (.tmp 31) rfl ge #[.string x.path, .int .i64 x.kind, .int .i64 x.mode, .string x.data, .string x.link] rfl rfl 38 #[.string y.path, .int .i64 y.kind, .int .i64 y.mode, .string y.data, .string y.link] L2 hinf rfl hone ?_))
        have L3 : Lies (W2.setRow ge #[.string x.path, .int .i64 x.kind, .int .i64 x.mode, .string x.data, .string x.link]) ge 38 #[.string x.path, .int .i64 x.kind, .int .i64 x.mode, .string x.data, .string x.link] := setRow_heap W2 ge _ _ _ (0, 0) L2
        have B3 : Below w.heap.size w (W2.setRow ge #[.string x.path, .int .i64 x.kind, .int .i64 x.mode, .string x.data, .string x.link]) := below_setRow B2 hge _
        clear c0 c1 c2 c3 c4 L2
        generalize (W2.setRow ge #[.string x.path, .int .i64 x.kind, .int .i64 x.mode, .string x.data, .string x.link]) = W3 at *
        obtain ⟨d0, d1, d2, d3, d4⟩ := HGC.out W3 k x HX.out B3
        have f0 := L3.cell (i := 0) rfl
        have f1 := L3.cell (i := 1) rfl
        have f2 := L3.cell (i := 2) rfl
        have f3 := L3.cell (i := 3) rfl
        have f4 := L3.cell (i := 4) rfl
        clear L3
        go_wp2
        go_quiet (fail)
        go_wp2
        go_roundw
        case rel => exact ⟨k + 1, by omega, by go_num, B3.trans ⟨rfl, rfl, rfl, Nat.le_refl _, fun _ _ => rfl⟩⟩
        case measure => simp [intOf]; omega
      · have hin' : ¬ (k : Int) < (es.length : Int) := by omega
        have hy := HMA.out hin
        rw [hy] at hM
        clear HMA hx hy
        go_upto_region 7 with (go_at_call 37; refine (hM _).mono ?_; rintro e w1 ⟨rfl, b1⟩)
        have B1 := hB.trans (b1.mono hB.size)
        have L3 := Lies.new w1 38 #[.string x.path, .int .i64 x.kind, .int .i64 x.mode, .string x.data, .string x.link]
        have B3 : Below w.heap.size w (w1.alloc (.cells #[.string x.path, .int .i64 x.kind, .int .i64 x.mode, .string x.data, .string x.link] 38)) := B1.alloc B1.size _
        clear b1 hM B1
        generalize (w1.alloc (.cells #[.string x.path, .int .i64 x.kind, .int .i64 x.mode, .string x.data, .string x.link] 38)) = W3 at *
        generalize w1.heap.size = ge at *
        obtain ⟨d0, d1, d2, d3, d4⟩ := HGC.out W3 k x HX.out B3
        have f0 := L3.cell (i := 0) rfl
        have f1 := L3.cell (i := 1) rfl
        have f2 := L3.cell (i := 2) rfl
        have f3 := L3.cell (i := 3) rfl
        have f4 := L3.cell (i := 4) rfl
        clear L3
        go_wp2
        go_quiet (fail)
        go_wp2
        go_roundw
        case rel => exact ⟨k + 1, by omega, by go_num, B3.trans ⟨rfl, rfl, rfl, Nat.le_refl _, fun _ _ => rfl⟩⟩
        case measure => simp [intOf]; omega
    · have hge : ¬ (k : Int) < (es.length : Int) + 16 := by omega
      go_wp2
      go_ret
      exact ⟨rfl, hB⟩
set_option maxHeartbeats 2000000 in
set_option maxRecDepth 100000 in
theorem keptE_p (es : List Ent) (u v : Value) (w : World) (hu : LentE w u es) (hv : EntsAt w v es) (hl : es.length ≤ 1073741824) : Calls Tryz.prog 14 #[u, v] w fun e w' => e = .returned (.bool true) ∧ Below w.heap.size w w' := by
  obtain ⟨g, cap, rfl, hcap, _, hG⟩ := hu
  have hK := keptfullE_p es g cap v w hv hl hG
  obtain ⟨a, cap2, b, o, rfl, ha, _, hc⟩ := hv
  clear hc hG ha
  have d1 : (0 : Int) ≤ (es.length : Int) + 16 := by omega
  have d2 : (es.length : Int) + 16 ≤ (cap : Int) := by omega
  go_enter Tryz.func14, Tryz.ntmps14
  go_wp2_with fail
  refine hK.mono ?_
  rintro e w1 ⟨rfl, b1⟩
  go_wp2
  go_ret
  exact ⟨rfl, b1⟩
end Go.Proofs.YthkbhcefckbcnaaGreatDoor

namespace Go.Proofs.YthkbhcefckbcnaaGreatDoor
open Go Go.RowKit

/-- An append that grows has a row of its own and leaves all else; one with room stays in its row. -/
theorem wpList_append_keepG {P : Program} (w : World) {ops : Array Oper} {rest : List Oper} {o : Oper} {a : Act} {Q : Exit → Act → World → Prop} (hgd : o.guard = none) (s x : Operand) (t : TypeId)
    (ho : o.op = .call { callee := .builtin .append, args := #[s, x], argTypes := #[t, t] })
    (base : Nat) (e : TypeId) (i : TypeInfo) (z : Value) (sz bytes : Nat) (ht : P.underlying t = some (.slice e)) (hi : P.info? e = some i) (hz : i.zero = some z)
    (hsize : i.size = sz) (hby : i.bytes = bytes) (hzs : z.cells.size = sz) (hsz0 : 0 < sz)
    (v : Value) (n : Nat) (xs : List Value) (hs : a.eval s = v) (hown : w.ownsRow base e sz v n xs)
    (ad : Addr) (c : Nat) (ys : List Value) (hyl : ys.length = 1 * sz) (hx : a.eval x = .slice (some ad) 1 c) (hnews : ∀ j u, ys[j]? = some u → w.cell? (ad.add j) = some u) (h1' : ∀ u ∈ ys, u.oneCell' = true)
    (h63 : n + 1 ≤ maxLen) (hbytes : (n + 1) * bytes ≤ 140737488355328) (hbase : base ≤ w.heap.size)
    (h : ∀ v' w', w'.ownsRow base e sz v' (n + 1) (xs ++ ys) → (v'.ownBlock = v.ownBlock ∧ w.grownBy w' v.ownBlock ∨ (∃ b, w.heap.size ≤ b ∧ v'.ownBlock = some b) ∧ w.grownBy w' none) → wpList P ops Q rest (a.put o.dst v') w') : wpList P ops Q (o :: rest) a w := by
  have fresh : ∀ v' w', w'.ownsRow w.heap.size e sz v' (n + 1) (xs ++ ys) → w.grownBy w' none → wpList P ops Q rest (a.put o.dst v') w' := by
    intro v' w' ho hg
    rcases ho.2 with ⟨_, h0⟩ | ⟨g, cap, cur, rfl, hb, rest⟩
    · omega
    · exact h _ _ ⟨ho.1, .inr ⟨g, cap, cur, rfl, Nat.le_trans hbase hb, rest⟩⟩ (.inr ⟨⟨g, hb, rfl⟩, hg⟩)
  have hown0 := hown
  rcases hown.2 with ⟨rfl, rfl⟩ | ⟨g, cap, cur, rfl, hb, hg, hnc, hcm, hcs, htake⟩
  · obtain rfl : xs = [] := List.eq_nil_of_length_eq_zero (by simpa using hown.1)
    exact wpList_append_grows w hgd s x t ho e i z sz bytes ht hi hz hsize hby hzs hsz0 none 0 0 [] hs (fun _ => ⟨rfl, rfl⟩) (by simp) (fun b hb => nomatch hb) ad 1 c ys hx hyl hnews h1' (by omega) h63 hbytes fresh
  · by_cases hroom : n + 1 ≤ cap
    · exact wpList_append_own_spare w hgd s x t ho base e i sz ht hi hsize g n cap xs hs hown0 ad 1 c ys hx hyl hnews h1' hroom (fun w' h2 h3 => h _ _ h2 (.inl ⟨rfl, h3⟩))
    · exact wpList_append_grows w hgd s x t ho e i z sz bytes ht hi hz hsize hby hzs hsz0 (some ⟨g, 0, none⟩) n cap xs hs (fun h => nomatch h) hown0.1 (fun b hb => by cases hb; exact hown0.cells rfl) ad 1 c ys hx hyl hnews h1' (by omega) h63 hbytes fresh

theorem own_eq {W W2 : World} {base e size n : Nat} {v : Value} {xs : List Value} (h : W.ownsRow base e size v n xs) (hb : ∀ b, v.ownBlock = some b → W2.heap[b]? = W.heap[b]?) : W2.ownsRow base e size v n xs := by
  refine ⟨h.1, ?_⟩
  rcases h.2 with hn | ⟨g, cap, cur, rfl, hg, hgg, rest⟩
  · exact .inl hn
  · exact .inr ⟨g, cap, cur, rfl, hg, (hb g rfl).trans hgg, rest⟩
theorem own_setG {W : World} {base e sz n g cap i : Nat} {xs : List Value} (h : W.ownsRow base e sz (.slice (some ⟨g, 0, none⟩) n cap) n xs) (x : Value) : (W.setCell ⟨g, i, none⟩ x).ownsRow base e sz (.slice (some ⟨g, 0, none⟩) n cap) n (xs.set i x) := by
  refine ⟨by rw [List.length_set]; exact h.1, ?_⟩
  rcases h.2 with ⟨hv, _⟩ | ⟨g', cap', cur, hv, hb, hg, h1, h2, h3, h4⟩
  · cases hv
  · cases hv
    refine .inr ⟨g, cap, cur.setIfInBounds i x, rfl, hb, Lies.set hg x, h1, h2, by rw [Array.size_setIfInBounds]; exact h3, ?_⟩
    rw [Array.toList_setIfInBounds, ← h4, List.take_set]
theorem set_otherG {W : World} {g i b : Nat} (x : Value) (h : g ≠ b) : (W.setCell ⟨g, i, none⟩ x).heap[b]? = W.heap[b]? := by
  show (W.heap.modify g _)[b]? = _
  rw [Array.getElem?_modify, if_neg h]
theorem own_lt {w : World} {B e sz n : Nat} {u : Value} {xs : List Value} (h : w.ownsRow B e sz u n xs) : ∀ b, u.ownBlock = some b → B ≤ b ∧ b < w.heap.size := fun b hb => by
  rcases h.2 with ⟨rfl, _⟩ | ⟨g, cap, cur, rfl, hg, hgg, _⟩
  · cases hb
  · cases hb; exact ⟨hg, (Array.getElem?_eq_some_iff.1 hgg).1⟩
theorem own_shapeG {w : World} {B e sz n : Nat} {u : Value} {xs : List Value} (h : w.ownsRow B e sz u n xs) : ∃ a c, u = .slice a n c ∧ (a = none → c = 0 ∧ n = 0) ∧ (∀ b, a = some b → ∃ g, b = ⟨g, 0, none⟩) ∧ n ≤ c ∧ c ≤ maxLen := by
  rcases h.2 with ⟨rfl, rfl⟩ | ⟨g, cap, cur, rfl, _, _, h1, hc, _⟩
  · exact ⟨none, 0, rfl, fun _ => ⟨rfl, rfl⟩, (fun b hb => nomatch hb), Nat.le_refl _, Nat.zero_le _⟩
  · exact ⟨_, _, rfl, (fun e => nomatch e), fun b hb => by cases hb; exact ⟨g, rfl⟩, h1, hc⟩
theorem own_frozenG {w : World} {B e sz n g c : Nat} {xs : List Value} (h : w.ownsRow B e sz (.slice (some ⟨g, 0, none⟩) n c) n xs) (i : Nat) : w.frozen? ⟨g, i, none⟩ = false := by
  rcases h.2 with ⟨hv, _⟩ | ⟨g', cap, cur, hv, _, hg, _⟩
  · cases hv
  · cases hv; exact Lies.frozen hg i
theorem own_baseG {w : World} {B B' e sz n : Nat} {u : Value} {xs : List Value} (h : w.ownsRow B' e sz u n xs) (hb : B ≤ B') : w.ownsRow B e sz u n xs := by
  refine ⟨h.1, ?_⟩
  rcases h.2 with h1 | ⟨g, cap, cur, h1, h2, h3⟩
  · exact .inl h1
  · exact .inr ⟨g, cap, cur, h1, Nat.le_trans hb h2, h3⟩
theorem grown_belowG {w w' : World} {B e sz n : Nat} {v v' : Value} {xs : List Value} (hg : v'.ownBlock = v.ownBlock ∧ w.grownBy w' v.ownBlock ∨ (∃ b, w.heap.size ≤ b ∧ v'.ownBlock = some b) ∧ w.grownBy w' none) (h : w.ownsRow B e sz v n xs) (hB : B ≤ w.heap.size) : Below B w w' := by
  rcases hg with ⟨_, hg⟩ | ⟨_, hg⟩
  · exact ⟨hg.os, hg.tape, hg.output, hg.size, fun k hk => hg.block k (by omega) (fun e => by have := (own_lt h k e.symm).1; omega)⟩
  · exact ⟨hg.os, hg.tape, hg.output, hg.size, fun k hk => hg.block k (by omega) (fun e => nomatch e)⟩

/- Elements: each of sz cells, as enc lays them; mk k i: the mark of the place i of the list k. -/
section elements
variable {α : Type} (enc : α → List Value) (sz t : Nat) (mk : Nat → Nat → α)
def cellsG (xs : List α) : List Value := xs.flatMap enc
theorem cellsG_cons (x : α) (xs : List α) : cellsG enc (x :: xs) = enc x ++ cellsG enc xs := rfl
theorem cellsG_append (a b : List α) : cellsG enc (a ++ b) = cellsG enc a ++ cellsG enc b := by simp [cellsG]
theorem cellsG_one (x : α) : cellsG enc [x] = enc x := by simp [cellsG]
theorem cellsG_length (hsz : ∀ x, (enc x).length = sz) (xs : List α) : (cellsG enc xs).length = xs.length * sz := by
  induction xs with
  | nil => simp [cellsG]
  | cons x xs ih => rw [cellsG_cons, List.length_append, ih, hsz, List.length_cons, Nat.succ_mul]; omega
theorem cellsG_get (hsz : ∀ x, (enc x).length = sz) : ∀ (xs : List α) (k : Nat) (x : α), xs[k]? = some x → ∀ j v, (enc x)[j]? = some v → (cellsG enc xs)[k * sz + j]? = some v
  | [], k, x, h, _, _, _ => by simp at h
  | q :: xs, 0, x, h, j, v, hj => by
    have hq : q = x := by simpa using h
    subst hq
    have hl : j < (enc q).length := (List.getElem?_eq_some_iff.1 hj).1
    rw [cellsG_cons, Nat.zero_mul, Nat.zero_add, List.getElem?_append_left hl]; exact hj
  | q :: xs, k + 1, x, h, j, v, hj => by
    have ih := cellsG_get hsz xs k x (by simpa using h) j v hj
    rw [cellsG_cons, List.getElem?_append_right (by rw [hsz, Nat.succ_mul]; omega)]
    rw [← ih]; congr 1; rw [hsz, Nat.succ_mul]; omega
/-- A list of elements lies at v. -/
def ListG (W : World) (v : Value) (xs : List α) : Prop :=
  ∃ (a : Option Addr) (cap b o : Nat), v = .slice a xs.length cap ∧ (xs ≠ [] → a = some ⟨b, o, none⟩) ∧ ∀ i x, xs[i]? = some x → ∀ j u, (enc x)[j]? = some u → W.cell? ⟨b, o + i * sz + j, none⟩ = some u
variable {enc sz t mk}
theorem ListG.same {W W2 : World} {v : Value} {xs : List α} (h : ListG enc sz W v xs) (hb : ∀ b, v.ownBlock = some b → W2.heap[b]? = W.heap[b]?) : ListG enc sz W2 v xs := by
  obtain ⟨a, c, b, o, rfl, ha, hc⟩ := h
  refine ⟨a, c, b, o, rfl, ha, fun i x hx j u hu => ?_⟩
  have he := ha (fun e => by rw [e] at hx; simp at hx)
  subst he
  exact (World.cell?_of_block (a := ⟨b, o + i * sz + j, none⟩) (hb b rfl)).trans (hc i x hx j u hu)
theorem ListG.own (hsz : ∀ x, (enc x).length = sz) {W : World} {B : Nat} {v : Value} {xs : List α} (h : W.ownsRow B t sz v xs.length (cellsG enc xs)) : ListG enc sz W v xs := by
  rcases h.2 with ⟨rfl, h0⟩ | ⟨g, cap, cur, rfl, hg, hgb, hcap, hm, hs, htk⟩
  · have : xs = [] := List.eq_nil_of_length_eq_zero h0
    subst this
    exact ⟨none, 0, 0, 0, rfl, fun h => absurd rfl h, fun i e he => by simp at he⟩
  · refine ⟨some ⟨g, 0, none⟩, cap, g, 0, rfl, fun _ => rfl, fun i x hx j u hu => ?_⟩
    have hj : j < sz := by have := (List.getElem?_eq_some_iff.1 hu).1; rwa [hsz] at this
    have := h.cells (g := g) rfl (i * sz + j) u (cellsG_get enc sz hsz xs i x hx j u hu)
    rw [Addr.add_mid] at this
    rw [Nat.zero_add]
    rw [Nat.zero_add] at this
    exact this

def marksG (mk : Nat → Nat → α) (k n : Nat) : List α := (List.range n).map (mk k)
theorem marksG_succ (k n : Nat) : marksG mk k (n + 1) = marksG mk k n ++ [mk k n] := by simp [marksG, List.range_succ]
theorem marksG_length (k n : Nat) : (marksG mk k n).length = n := by simp [marksG]
theorem marksG_get (k n i : Nat) (h : i < n) : (marksG mk k n)[i]? = some (mk k i) := by simp [marksG, h]

/-- The lists stand apart from each other and from the row that holds them. -/
structure HandedG (g : Nat) (us : List Value) : Prop where
  apart : ∀ (i j : Nat) (u v : Value), us[i]? = some u → us[j]? = some v → i ≠ j → u.ownBlock = none ∨ u.ownBlock ≠ v.ownBlock
  gap : ∀ (i : Nat) (u : Value), us[i]? = some u → u.ownBlock ≠ some g
def rowG (mk : Nat → Nat → α) (k i j : Nat) (xs : List α) : List α := if j < k then marksG mk j xs.length else if j = k then marksG mk k i ++ xs.drop i else xs
theorem rowG_length (k i j : Nat) (xs : List α) (hi : i ≤ xs.length) : (rowG mk k i j xs).length = xs.length := by
  unfold rowG
  split
  · rw [marksG_length]
  · split
    · rw [List.length_append, marksG_length, List.length_drop]; omega
    · rfl
/-- The lists ahead of the k-th are marked, and so are its first i elements. -/
def RwsG (enc : α → List Value) (sz t : Nat) (mk : Nat → Nat → α) (w : World) (B : Nat) (us : List Value) (xss : List (List α)) (k i : Nat) : Prop := ∀ (j : Nat) (u : Value) (xs : List α), us[j]? = some u → xss[j]? = some xs → w.ownsRow B t sz u xs.length (cellsG enc (rowG mk k i j xs))
theorem RwsG.below {w w' : World} {B : Nat} {us : List Value} {xss : List (List α)} {k i : Nat} (h : RwsG enc sz t mk w B us xss k i) (hb : Below w.heap.size w w') : RwsG enc sz t mk w' B us xss k i := fun j u xs h1 h2 => own_below (h j u xs h1 h2) hb
/-- One element of the k-th list is marked: w' is w but for the row of that list. -/
theorem RwsG.mark {w w' : World} {B g : Nat} {us : List Value} {xss : List (List α)} {k i : Nat} {u : Value} {xs : List α} (h : RwsG enc sz t mk w B us xss k i) (hA : HandedG g us) (hu : us[k]? = some u) (hx : xss[k]? = some xs)
    (hown : w'.ownsRow B t sz u xs.length (cellsG enc (rowG mk k (i + 1) k xs))) (hoth : ∀ b, u.ownBlock ≠ some b → w'.heap[b]? = w.heap[b]?) : RwsG enc sz t mk w' B us xss k (i + 1) := by
  intro j v ys hv hy
  by_cases hj : j = k
  · subst hj
    rw [hu] at hv
    rw [hx] at hy
    cases hv
    cases hy
    exact hown
  · have e : rowG mk k (i + 1) j ys = rowG mk k i j ys := by unfold rowG; simp [hj]
    rw [e]
    refine own_eq (h j v ys hv hy) (fun b hb => hoth b (fun e => ?_))
    rcases hA.apart j k v u hv hu hj with h1 | h1
    · rw [hb] at h1; cases h1
    · exact h1 (hb.trans e.symm)
theorem RwsG.next {w : World} {B : Nat} {us : List Value} {xss : List (List α)} {k : Nat} {xs : List α} (h : RwsG enc sz t mk w B us xss k xs.length) (hx : xss[k]? = some xs) : RwsG enc sz t mk w B us xss (k + 1) 0 := by
  intro j u ys hu hy
  have h2 := h j u ys hu hy
  have e : rowG mk k xs.length j ys = rowG mk (k + 1) 0 j ys := by
    unfold rowG
    by_cases h1 : j < k
    · rw [if_pos h1, if_pos (by omega)]
    · rw [if_neg h1]
      by_cases h2 : j = k
      · subst h2
        rw [hx] at hy
        cases hy
        rw [if_pos rfl, if_pos (by omega), List.drop_of_length_le (Nat.le_refl _), List.append_nil]
      · rw [if_neg h2, if_neg (by omega)]
        by_cases h3 : j = k + 1
        · rw [if_pos h3]; rfl
        · rw [if_neg h3]
  rw [← e]
  exact h2
theorem RwsG.start {w : World} {B : Nat} {us : List Value} {xss : List (List α)} (h : ∀ (j : Nat) (u : Value) (xs : List α), us[j]? = some u → xss[j]? = some xs → w.ownsRow B t sz u xs.length (cellsG enc xs)) : RwsG enc sz t mk w B us xss 0 0 := by
  intro j u xs h1 h2
  have e : rowG mk 0 0 j xs = xs := by
    unfold rowG
    rw [if_neg (by omega)]
    by_cases h : j = 0
    · rw [if_pos h]; rfl
    · rw [if_neg h]
  rw [e]; exact h j u xs h1 h2
theorem RwsG.done {w : World} {B n : Nat} {us : List Value} {xss : List (List α)} (h : RwsG enc sz t mk w B us xss n 0) (hn : n = us.length) (j : Nat) (u : Value) (xs : List α) (h1 : us[j]? = some u) (h2 : xss[j]? = some xs) : w.ownsRow B t sz u xs.length (cellsG enc (marksG mk j xs.length)) := by
  have h3 := h j u xs h1 h2
  have hj := (List.getElem?_eq_some_iff.1 h1).1
  unfold rowG at h3
  rw [if_pos (by omega)] at h3
  exact h3

/-- The first k lists have marks appended, behind the world w1. -/
structure GrewG (enc : α → List Value) (sz ts : Nat) (mk : Nat → Nat → α) (w1 wr : World) (us : List Value) (xss : List (List α)) (k : Nat) (vs : List Value) (gv : Value) : Prop where
  len : vs.length = k
  size : w1.heap.size ≤ wr.heap.size
  same : ∀ b, b < w1.heap.size → (∀ (j : Nat) (u : Value), j < k → us[j]? = some u → u.ownBlock ≠ some b) → wr.heap[b]? = w1.heap[b]?
  old : ∀ (j : Nat) (u : Value) (xs : List α), j < k → us[j]? = some u → xss[j]? = some xs → ListG enc sz wr u (marksG mk j xs.length)
  new : ∀ (j : Nat) (v : Value) (xs : List α), vs[j]? = some v → xss[j]? = some xs → ListG enc sz wr v (marksG mk j (xs.length + 64))
  row : wr.ownsRow w1.heap.size ts 1 gv k vs
  gap : ∀ (j : Nat) (v : Value), vs[j]? = some v → v.ownBlock ≠ gv.ownBlock
  blk : ∀ (j : Nat) (v u : Value), vs[j]? = some v → us[j]? = some u → v.ownBlock = u.ownBlock ∨ ∃ b, w1.heap.size ≤ b ∧ v.ownBlock = some b
/-- Of the k-th list, i marks are appended, behind the world w. -/
structure GrowsG (enc : α → List Value) (sz t : Nat) (mk : Nat → Nat → α) (w wr : World) (B k n i : Nat) (u v : Value) : Prop where
  size : w.heap.size ≤ wr.heap.size
  same : ∀ b, b < w.heap.size → u.ownBlock ≠ some b → wr.heap[b]? = w.heap[b]?
  old : ListG enc sz wr u (marksG mk k n)
  new : wr.ownsRow B t sz v (n + i) (cellsG enc (marksG mk k (n + i)))
  blk : v.ownBlock = u.ownBlock ∨ ∃ b, w.heap.size ≤ b ∧ v.ownBlock = some b
theorem GrowsG.below {w wr wr' : World} {B k n i : Nat} {u v : Value} (h : GrowsG enc sz t mk w wr B k n i u v) (hu : ∀ b, u.ownBlock = some b → b < w.heap.size) (hb : Below wr.heap.size wr wr') : GrowsG enc sz t mk w wr' B k n i u v :=
  ⟨Nat.le_trans h.size hb.size, fun b h1 h2 => (hb.block b (Nat.lt_of_lt_of_le h1 h.size)).trans (h.same b h1 h2), h.old.same (fun b h1 => hb.block b (Nat.lt_of_lt_of_le (hu b h1) h.size)), own_below h.new hb, h.blk⟩
theorem GrowsG.step (hsz : ∀ x, (enc x).length = sz) {w wr wr' : World} {B k n i : Nat} {u v v' : Value} (h : GrowsG enc sz t mk w wr B k n i u v) (hu : ∀ b, u.ownBlock = some b → b < w.heap.size) (hn : u.ownBlock = none → n = 0) (hv0 : ∃ a c, u = .slice a n c ∧ ∀ b, a = some b → ∃ g, b = ⟨g, 0, none⟩)
    (hown : wr'.ownsRow B t sz v' (n + i + 1) (cellsG enc (marksG mk k (n + i)) ++ enc (mk k (n + i)))) (hg : v'.ownBlock = v.ownBlock ∧ wr.grownBy wr' v.ownBlock ∨ (∃ b, wr.heap.size ≤ b ∧ v'.ownBlock = some b) ∧ wr.grownBy wr' none) :
    GrowsG enc sz t mk w wr' B k n (i + 1) u v' := by
  have e : cellsG enc (marksG mk k (n + i)) ++ enc (mk k (n + i)) = cellsG enc (marksG mk k (n + (i + 1))) := by
    rw [← Nat.add_assoc, marksG_succ, cellsG_append, cellsG_one]
  rw [e] at hown
  have hsz2 : wr.heap.size ≤ wr'.heap.size := by rcases hg with ⟨_, h1⟩ | ⟨_, h1⟩ <;> exact h1.size
  refine ⟨Nat.le_trans h.size hsz2, fun b h1 h2 => ?_, ?_, hown, ?_⟩
  · rcases hg with ⟨_, hg⟩ | ⟨_, hg⟩
    · refine (hg.block b (Nat.lt_of_lt_of_le h1 h.size) ?_).trans (h.same b h1 h2)
      rcases h.blk with h3 | ⟨b3, h3, h4⟩
      · rw [h3]; exact fun e => h2 e.symm
      · rw [h4]; intro e; cases e; omega
    · exact (hg.block b (Nat.lt_of_lt_of_le h1 h.size) (fun e => nomatch e)).trans (h.same b h1 h2)
  · rcases hg with ⟨hv, hg⟩ | ⟨_, hg⟩
    · rcases h.blk with h3 | ⟨b3, h3, h4⟩
      · obtain ⟨a, c, rfl, hb⟩ := hv0
        cases a with
        | none =>
          have hn0 := hn rfl
          subst hn0
          exact ⟨none, c, 0, 0, rfl, fun h => absurd rfl h, fun i x hx => by simp [marksG] at hx⟩
        | some ad =>
          obtain ⟨g, rfl⟩ := hb ad rfl
          refine ⟨some ⟨g, 0, none⟩, c, g, 0, by rw [marksG_length], fun _ => rfl, fun j x hx q y hy => ?_⟩
          have hjn : j < n := by have := (List.getElem?_eq_some_iff.1 hx).1; rwa [marksG_length] at this
          have hvb : v'.ownBlock = some g := by rw [hv, h3]; rfl
          have hx2 : (marksG mk k (n + (i + 1)))[j]? = some x := by
            rw [marksG_get _ _ _ hjn] at hx
            rw [marksG_get _ _ _ (by omega)]; exact hx
          have hc := hown.cells hvb (j * sz + q) y (cellsG_get enc sz hsz _ j x hx2 q y hy)
          rw [Addr.add_mid] at hc
          rw [Nat.zero_add]
          rw [Nat.zero_add] at hc
          exact hc
      · refine h.old.same (fun b hb => hg.block b (Nat.lt_of_lt_of_le (hu b hb) h.size) ?_)
        rw [h4]; intro e; cases e; have := hu _ hb; omega
    · exact h.old.same (fun b hb => hg.block b (Nat.lt_of_lt_of_le (hu b hb) h.size) (fun e => nomatch e))
  · rcases hg with ⟨hv, _⟩ | ⟨⟨b, h1, h2⟩, _⟩
    · rw [hv]; exact h.blk
    · exact .inr ⟨b, Nat.le_trans h.size h1, h2⟩
/-- Where a list with an element lies. -/
theorem ListG.blk (hsz : ∀ x, (enc x).length = sz) (h0 : 0 < sz) {W : World} {v : Value} {xs : List α} (h : ListG enc sz W v xs) (hn : 0 < xs.length) : ∃ b, v.ownBlock = some b ∧ b < W.heap.size := by
  obtain ⟨a, c, b, o, rfl, ha, hc⟩ := h
  have he := ha (fun e => by rw [e] at hn; simp at hn)
  subst he
  obtain ⟨x, hx⟩ : ∃ x, xs[0]? = some x := ⟨_, List.getElem?_eq_getElem hn⟩
  obtain ⟨u, hu⟩ : ∃ u, (enc x)[0]? = some u := ⟨_, List.getElem?_eq_getElem (by rw [hsz]; exact h0)⟩
  exact ⟨b, rfl, World.block_lt_of_cell? W _ (hc 0 x hx 0 u hu)⟩
/-- The k-th list is done: the next. -/
theorem GrewG.step (hsz : ∀ x, (enc x).length = sz) (h0 : 0 < sz) {ts : Nat} {w1 wr wr' wr2 : World} {B g k n : Nat} {us vs : List Value} {xss : List (List α)} {gv gv' u v : Value} {xs : List α} (h : GrewG enc sz ts mk w1 wr us xss k vs gv) (hA : HandedG g us) (hu : us[k]? = some u) (hx : xss[k]? = some xs) (hn : n = xs.length)
    (hlt : ∀ (j : Nat) (u : Value), us[j]? = some u → ∀ b, u.ownBlock = some b → b < w1.heap.size)
    (hG : GrowsG enc sz t mk wr wr' B k n 64 u v)
    (hown : wr2.ownsRow w1.heap.size ts 1 gv' (k + 1) (vs ++ [v])) (hg : gv'.ownBlock = gv.ownBlock ∧ wr'.grownBy wr2 gv.ownBlock ∨ (∃ b, wr'.heap.size ≤ b ∧ gv'.ownBlock = some b) ∧ wr'.grownBy wr2 none) :
    GrewG enc sz ts mk w1 wr2 us xss (k + 1) (vs ++ [v]) gv' := by
  subst hn
  have hul := hlt k u hu
  have hsz3 : wr'.heap.size ≤ wr2.heap.size := by rcases hg with ⟨_, h1⟩ | ⟨_, h1⟩ <;> exact h1.size
  have hvs : v.ownBlock ≠ none := by
    intro e
    rcases hG.new.2 with ⟨_, h0⟩ | ⟨g', cap, cur, rfl, _⟩
    · omega
    · cases e
  have hgv : ∀ b, gv.ownBlock = some b → w1.heap.size ≤ b ∧ b < wr.heap.size := fun b hb => own_lt h.row b hb
  have hvg : v.ownBlock ≠ gv.ownBlock := by
    rcases hG.blk with h1 | ⟨b, h1, h2⟩
    · intro e
      cases hb : v.ownBlock with
      | none => exact hvs hb
      | some b =>
        have := hul b (by rw [← h1]; exact hb)
        have := hgv b (by rw [← e]; exact hb)
        omega
    · intro e
      have := hgv b (by rw [← e]; exact h2)
      omega
  have hk : ∀ b, b < wr'.heap.size → gv.ownBlock ≠ some b → wr2.heap[b]? = wr'.heap[b]? := by
    intro b h1 h2
    rcases hg with ⟨_, hg⟩ | ⟨_, hg⟩
    · exact hg.block b h1 (fun e => h2 e.symm)
    · exact hg.block b h1 (fun e => nomatch e)
  have hvlt : ∀ b, v.ownBlock = some b → b < wr'.heap.size := fun b hb => (own_lt hG.new b hb).2
  have hvsl : ∀ (j : Nat) (v0 : Value), vs[j]? = some v0 → ∃ b, v0.ownBlock = some b ∧ b < wr.heap.size ∧ u.ownBlock ≠ some b := by
    intro j v0 hv0
    have hjk : j < k := by have := (List.getElem?_eq_some_iff.1 hv0).1; rw [h.len] at this; exact this
    obtain ⟨uj, huj⟩ : ∃ uj, us[j]? = some uj := ⟨_, List.getElem?_eq_getElem (by have := (List.getElem?_eq_some_iff.1 hu).1; omega)⟩
    obtain ⟨xj, hxj⟩ : ∃ xj, xss[j]? = some xj := ⟨_, List.getElem?_eq_getElem (by have := (List.getElem?_eq_some_iff.1 hx).1; omega)⟩
    obtain ⟨b, hb, hbl⟩ := (h.new j v0 xj hv0 hxj).blk hsz h0 (by rw [marksG_length]; omega)
    refine ⟨b, hb, hbl, ?_⟩
    rcases h.blk j _ uj hv0 huj with h1 | ⟨b1, h1, h2⟩
    · intro e
      rcases hA.apart j k uj u huj hu (by omega) with h5 | h5
      · rw [← h1, hb] at h5; cases h5
      · exact h5 (by rw [← h1, hb, e])
    · intro e
      have := hul _ e
      rw [hb] at h2
      cases h2
      omega
  refine ⟨by rw [List.length_append, h.len]; rfl, Nat.le_trans h.size (Nat.le_trans hG.size hsz3), fun b h1 h2 => ?_, fun j u' xs' h1 h2 h3 => ?_, fun j v' xs' h1 h2 => ?_, hown, fun j v' h1 => ?_, fun j v' u' h1 h2 => ?_⟩
  · have hb1 : b < wr.heap.size := Nat.lt_of_lt_of_le h1 h.size
    rw [hk b (Nat.lt_of_lt_of_le hb1 hG.size) (fun e => by have := (hgv b e).1; omega), hG.same b hb1 (h2 k u (by omega) hu)]
    exact h.same b h1 (fun j u' h3 h4 => h2 j u' (by omega) h4)
  · by_cases hj : j = k
    · subst hj
      rw [hu] at h2
      rw [hx] at h3
      cases h2
      cases h3
      exact hG.old.same (fun b hb => hk b (Nat.lt_of_lt_of_le (Nat.lt_of_lt_of_le (hul b hb) h.size) hG.size) (fun e => by have := (hgv b e).1; have := hul b hb; omega))
    · have hl := hlt j u' h2
      refine (h.old j u' xs' (by omega) h2 h3).same (fun b hb => ?_)
      have hb1 : b < wr.heap.size := Nat.lt_of_lt_of_le (hl b hb) h.size
      rw [hk b (Nat.lt_of_lt_of_le hb1 hG.size) (fun e => by have := (hgv b e).1; have := hl b hb; omega)]
      refine hG.same b hb1 (fun e => ?_)
      rcases hA.apart j k u' u h2 hu hj with h5 | h5
      · rw [hb] at h5; cases h5
      · exact h5 (hb.trans e.symm)
  · by_cases hj : j < vs.length
    · rw [List.getElem?_append_left hj] at h1
      refine (h.new j v' xs' h1 h2).same (fun b hb => ?_)
      obtain ⟨b2, hb2, h5, h6⟩ := hvsl j v' h1
      rw [hb] at hb2
      cases hb2
      rw [hk b (Nat.lt_of_lt_of_le h5 hG.size) (fun e => h.gap j v' h1 (by rw [hb, e]))]
      exact hG.same b h5 h6
    · have hjk : j = k := by
        have := (List.getElem?_eq_some_iff.1 h1).1
        rw [List.length_append, List.length_singleton] at this
        have := h.len
        omega
      subst hjk
      rw [List.getElem?_append_right (by omega), show j - vs.length = 0 by have := h.len; omega] at h1
      rw [hx] at h2
      cases h1
      cases h2
      have hT : ListG enc sz wr' v (marksG mk j (xs.length + 64)) := ListG.own (t := t) (B := B) hsz (by rw [marksG_length]; exact hG.new)
      exact hT.same (fun b hb => hk b (hvlt b hb) (fun e => hvg (by rw [hb, e])))
  · have hg2 : ∀ b, gv'.ownBlock = some b → gv.ownBlock = some b ∨ wr'.heap.size ≤ b := by
      intro b hb
      rcases hg with ⟨h5, _⟩ | ⟨⟨b5, h5, h6⟩, _⟩
      · exact .inl (by rw [← h5]; exact hb)
      · rw [hb] at h6; cases h6; exact .inr h5
    intro e
    by_cases hj : j < vs.length
    · rw [List.getElem?_append_left hj] at h1
      obtain ⟨b, hb, h5, _⟩ := hvsl j v' h1
      rcases hg2 b (by rw [← e]; exact hb) with h6 | h6
      · exact h.gap j v' h1 (by rw [hb, h6])
      · have := hG.size
        omega
    · rw [List.getElem?_append_right (by omega)] at h1
      have hv' : v' = v := by
        cases hd : j - vs.length with
        | zero => rw [hd] at h1; cases h1; rfl
        | succ m => rw [hd] at h1; cases h1
      subst hv'
      cases hb : v'.ownBlock with
      | none => exact hvs hb
      | some b =>
        rcases hg2 b (by rw [← e]; exact hb) with h5 | h5
        · exact hvg (by rw [hb, h5])
        · have := hvlt b hb
          omega
  · by_cases hj : j < vs.length
    · rw [List.getElem?_append_left hj] at h1
      exact h.blk j v' u' h1 h2
    · have hjk : j = k := by
        have := (List.getElem?_eq_some_iff.1 h1).1
        rw [List.length_append, List.length_singleton] at this
        have := h.len
        omega
      subst hjk
      rw [List.getElem?_append_right (by omega), show j - vs.length = 0 by have := h.len; omega] at h1
      rw [hu] at h2
      cases h1
      cases h2
      rcases hG.blk with h5 | ⟨b, h5, h6⟩
      · exact .inl h5
      · exact .inr ⟨b, Nat.le_trans h.size h5, h6⟩
end elements
end Go.Proofs.YthkbhcefckbcnaaGreatDoor

namespace Go.Proofs.YthkbhcefckbcnaaGreatDoor
open Go Go.RowKit

def mkE (k i : Nat) : Ent := markE (k : Int) (i : Int)
theorem ecs_len (x : Ent) : (ecs x).length = 5 := rfl
theorem cellsG_ecs (xs : List Ent) : cellsG ecs xs = ecells xs := rfl
theorem sl_infoE : (Tryz.prog.info? 22).map (fun i => (i.zero, i.size, i.bytes)) = some (some (.slice none 0 0), 1, 24) := by kernel_rfl
theorem set_app (A L : List Value) (n j : Nat) (c : Value) (hn : A.length = n) : (A ++ L).set (n + j) c = A ++ L.set j c := by
  subst hn
  rw [List.set_append_right _ _ (by omega)]
  congr 2; omega
theorem set5 (A C : List Value) (n : Nat) (hn : A.length = n) (b0 b1 b2 b3 b4 c0 c1 c2 c3 c4 : Value) : (((((A ++ ([b0, b1, b2, b3, b4] ++ C)).set n c0).set (n + 1) c1).set (n + 2) c2).set (n + 3) c3).set (n + 4) c4 = A ++ ([c0, c1, c2, c3, c4] ++ C) := by
  have h0 := set_app A ([b0, b1, b2, b3, b4] ++ C) n 0 c0 hn
  rw [Nat.add_zero] at h0
  rw [h0, set_app _ _ _ _ _ hn, set_app _ _ _ _ _ hn, set_app _ _ _ _ _ hn, set_app _ _ _ _ _ hn]
  rfl
/-- A list's element is marked. -/
theorem mark_own {w : World} {B gk cap k i : Nat} {xs : List Ent} {us : List Value} {xss : List (List Ent)} {g : Nat} (h : RwsG ecs 5 38 mkE w B us xss k i) (hA : HandedG g us) (hu : us[k]? = some (.slice (some ⟨gk, 0, none⟩) xs.length cap)) (hx : xss[k]? = some xs) (hi : i < xs.length) :
    RwsG ecs 5 38 mkE (((((w.setCell ⟨gk, i * 5, none⟩ (.string (mkE k i).path)).setCell ⟨gk, i * 5 + 1, none⟩ (.int .i64 (mkE k i).kind)).setCell ⟨gk, i * 5 + 2, none⟩ (.int .i64 (mkE k i).mode)).setCell ⟨gk, i * 5 + 3, none⟩ (.string (mkE k i).data)).setCell ⟨gk, i * 5 + 4, none⟩ (.string (mkE k i).link)) B us xss k (i + 1) := by
  refine h.mark hA hu hx ?_ ?_
  · have h2 := own_setG (i := i * 5 + 4) (own_setG (i := i * 5 + 3) (own_setG (i := i * 5 + 2) (own_setG (i := i * 5 + 1) (own_setG (i := i * 5) (h k _ _ hu hx) (.string (mkE k i).path)) (.int .i64 (mkE k i).kind)) (.int .i64 (mkE k i).mode)) (.string (mkE k i).data)) (.string (mkE k i).link)
    obtain ⟨x, hxi⟩ : ∃ x, xs[i]? = some x := ⟨_, List.getElem?_eq_getElem hi⟩
    have e1 : rowG mkE k i k xs = marksG mkE k i ++ (x :: xs.drop (i + 1)) := by
      unfold rowG
      rw [if_neg (Nat.lt_irrefl k), if_pos rfl, List.drop_eq_getElem_cons hi]
      rw [List.getElem?_eq_getElem hi] at hxi
      rw [Option.some.inj hxi]
    have e2 : rowG mkE k (i + 1) k xs = marksG mkE k i ++ (mkE k i :: xs.drop (i + 1)) := by
      unfold rowG
      rw [if_neg (Nat.lt_irrefl k), if_pos rfl, marksG_succ, List.append_assoc]; rfl
    rw [e1] at h2
    rw [e2]
    have hl : (cellsG ecs (marksG mkE k i)).length = i * 5 := by rw [cellsG_length ecs 5 ecs_len, marksG_length]
    rw [cellsG_append, cellsG_cons, show ecs x = [.string x.path, .int .i64 x.kind, .int .i64 x.mode, .string x.data, .string x.link] from rfl, set5 _ _ _ hl] at h2
    rw [cellsG_append, cellsG_cons]
    exact h2
  · intro b hb
    have hne : gk ≠ b := fun e => hb (by rw [e]; rfl)
    rw [set_otherG _ hne, set_otherG _ hne, set_otherG _ hne, set_otherG _ hne, set_otherG _ hne]
theorem entG {W W2 : World} {b q : Nat} {e : Ent} (h : ∀ j u, (ecs e)[j]? = some u → W.cell? ⟨b, q + j, none⟩ = some u) (hb : Below W.heap.size W W2) : EntC W2 b q e := EntC.below ⟨h 0 _ rfl, h 1 _ rfl, h 2 _ rfl, h 3 _ rfl, h 4 _ rfl⟩ hb
/-- What none of the lists has stays as it was. -/
def OthE (us : List Value) (w wr : World) : Prop := ∀ b, b < w.heap.size → (∀ (j : Nat) (u : Value), us[j]? = some u → u.ownBlock ≠ some b) → wr.heap[b]? = w.heap[b]?
theorem OthE.below {us : List Value} {w wr w2 : World} (h : OthE us w wr) (hs : w.heap.size ≤ wr.heap.size) (hb : Below wr.heap.size wr w2) : OthE us w w2 := fun b h1 h2 => (hb.block b (by omega)).trans (h b h1 h2)
theorem OthE.set {us : List Value} {w wr : World} {gk i k : Nat} {u : Value} (h : OthE us w wr) (x : Value) (hu : us[k]? = some u) (hg : u.ownBlock = some gk) : OthE us w (wr.setCell ⟨gk, i, none⟩ x) := fun b h1 h2 => (set_otherG x (fun e => h2 k u hu (by rw [hg, e]))).trans (h b h1 h2)
theorem lies_other {W : World} {B g i : Nat} {t : TypeId} {cur : Array Value} (h : Lies W B t cur) (u : Value) (hne : g ≠ B) : Lies (W.setCell ⟨g, i, none⟩ u) B t cur := (set_otherG u hne).trans h

set_option maxRecDepth 100000 in
set_option maxHeartbeats 8000000 in
theorem apartE_p (B g c : Nat) (us : List Value) (xss : List (List Ent)) (w : World) (hl : us.length = xss.length) (hm : us.length ≤ 1000) (hB : B ≤ w.heap.size) (hL : Lies w g 22 us.toArray)
    (hA : HandedG g us) (hR : RwsG ecs 5 38 mkE w B us xss 0 0) (hz : ∀ xs ∈ xss, xs.length ≤ 1073741824) :
    Calls Tryz.prog 16 #[.slice (some ⟨g, 0, none⟩) us.length c] w fun e w' => e = .returned (.bool true) ∧ OthE us w w' ∧ Below B w w' := by
  obtain ⟨i0, hi, z0, z1, z2⟩ := info_parts info_ent
  obtain ⟨j0, hj, y0, y1, y2⟩ := info_parts sl_infoE
  have HL0 : Hid (Lies w g 22 us.toArray) := hL
  have HR0 : Hid (RwsG ecs 5 38 mkE w B us xss 0 0) := hR
  have HA : Hid (HandedG g us) := hA
  have HZ : Hid (∀ xs ∈ xss, xs.length ≤ 1073741824) := hz
  have HLL : Hid (us.length = xss.length) := hl
  clear hL hR hA hz hl
  go_enter Tryz.func16, Tryz.ntmps16
  go_wp2
  go_loopw [3, 4] (fun n _ wr => ∃ k : Nat, k ≤ us.length ∧ n = .int .i64 k ∧ Hid (Lies wr g 22 us.toArray) ∧ Hid (RwsG ecs 5 38 mkE wr B us xss k 0) ∧ Hid (OthE us w wr) ∧ Below B w wr) (fun n _ _ => us.length - (intOf n).toNat)
  case atStart => exact ⟨0, Nat.zero_le _, rfl, HL0, HR0, fun _ _ _ => rfl, Below.refl _ _⟩
  case round =>
    clear HL0 HR0
    obtain ⟨k, hk, rfl, HL, HR, HOT, hB1⟩ := hrel
    by_cases hlt : k < us.length
    · obtain ⟨u, hu⟩ : ∃ u, us[k]? = some u := ⟨_, List.getElem?_eq_getElem hlt⟩
      obtain ⟨xs, hx⟩ : ∃ xs, xss[k]? = some xs := ⟨_, List.getElem?_eq_getElem (by rw [← HLL.out]; exact hlt)⟩
      have hzx := HZ.out xs (List.mem_of_getElem? hx)
      obtain ⟨a, cu, rfl, hac, hab, _, _⟩ := own_shapeG (HR.out k u xs hu hx)
      have hcell := HL.out.cell (i := k) (by simpa using hu)
      have HU : Hid (us[k]? = some (.slice a xs.length cu)) := hu
      have HX : Hid (xss[k]? = some xs) := hx
      clear hu hx
      have d1 : (0 : Int) ≤ (k : Int) := by omega
      have d2 : (k : Int) < (us.length : Int) := by omega
      go_wp2
      go_loopw [4] (fun n wr2 => ∃ i : Nat, i ≤ xs.length ∧ n = .int .i64 i ∧ Hid (Lies wr2 g 22 us.toArray) ∧ Hid (RwsG ecs 5 38 mkE wr2 B us xss k i) ∧ Hid (OthE us w wr2) ∧ Below B w wr2) (fun n _ => xs.length - (intOf n).toNat)
      case atStart => exact ⟨0, Nat.zero_le _, rfl, HL, HR, HOT, hB1⟩
      case round =>
        clear HL HR hB1 hcell HOT
        obtain ⟨i, hi2, rfl, HL, HR, HOT, hB1⟩ := hrel
        have hcell := HL.out.cell (i := k) (by simpa using HU.out)
        by_cases hin : i < xs.length
        · cases a with
          | none => exact absurd (hac rfl).2 (by omega)
          | some ad =>
            obtain ⟨gk, rfl⟩ := hab ad rfl
            have e1 : (0 : Int) ≤ (i : Int) := by omega
            have e2 : (i : Int) < (xs.length : Int) := by omega
            have hM : Calls Tryz.prog 37 #[.int .i64 (k : Int), .int .i64 (i : Int)] wr.drew fun e w' => e = .returned (.agg #[.string (mkE k i).path, .int .i64 (mkE k i).kind, .int .i64 (mkE k i).mode, .string (mkE k i).data, .string (mkE k i).link]) ∧ Below wr.drew.heap.size wr.drew w' := markE_p (k : Int) (i : Int) (by omega) (by omega) wr.drew
            have hrow := HR.out k _ xs HU.out HX.out
            have hrl : (cellsG ecs (rowG mkE k i k xs)).length = xs.length * 5 := by rw [cellsG_length ecs 5 ecs_len, rowG_length _ _ _ _ hi2]
            have HF : Hid (∀ w2, Below wr.drew.heap.size wr.drew w2 → w2.cell? ⟨g, k, none⟩ = some (.slice (some ⟨gk, 0, none⟩) xs.length cu) ∧ ∃ y0 y1 y2 y3 y4, (w2.cell? ⟨gk, i * 5, none⟩ = some y0 ∧ w2.frozen? ⟨gk, i * 5, none⟩ = false) ∧ (w2.cell? ⟨gk, i * 5 + 1, none⟩ = some y1 ∧ w2.frozen? ⟨gk, i * 5 + 1, none⟩ = false) ∧ (w2.cell? ⟨gk, i * 5 + 2, none⟩ = some y2 ∧ w2.frozen? ⟨gk, i * 5 + 2, none⟩ = false) ∧ (w2.cell? ⟨gk, i * 5 + 3, none⟩ = some y3 ∧ w2.frozen? ⟨gk, i * 5 + 3, none⟩ = false) ∧ (w2.cell? ⟨gk, i * 5 + 4, none⟩ = some y4 ∧ w2.frozen? ⟨gk, i * 5 + 4, none⟩ = false)) := by
              intro w2 b2
              have b3 : Below wr.heap.size wr w2 := (show Below wr.heap.size wr wr.drew from ⟨rfl, rfl, rfl, Nat.le_refl _, fun _ _ => rfl⟩).trans b2
              have r2 := own_below hrow b3
              have hat : ∀ j, j < 5 → ∃ y, w2.cell? ⟨gk, i * 5 + j, none⟩ = some y := fun j hj => by
                obtain ⟨y, hy⟩ : ∃ y, (cellsG ecs (rowG mkE k i k xs))[i * 5 + j]? = some y := ⟨_, List.getElem?_eq_getElem (by rw [hrl]; omega)⟩
                exact ⟨y, by have := r2.cells (g := gk) rfl (i * 5 + j) y hy; rw [Addr.add_mid, Nat.zero_add] at this; exact this⟩
              obtain ⟨y0, h0⟩ := hat 0 (by decide)
              obtain ⟨y1, h1⟩ := hat 1 (by decide)
              obtain ⟨y2, h2⟩ := hat 2 (by decide)
              obtain ⟨y3, h3⟩ := hat 3 (by decide)
              obtain ⟨y4, h4⟩ := hat 4 (by decide)
              exact ⟨(HL.out.below b3).cell (i := k) (by simpa using HU.out), y0, y1, y2, y3, y4, ⟨h0, own_frozenG r2 _⟩, ⟨h1, own_frozenG r2 _⟩, ⟨h2, own_frozenG r2 _⟩, ⟨h3, own_frozenG r2 _⟩, ⟨h4, own_frozenG r2 _⟩⟩
            have hBg := (own_lt hrow gk rfl).1
            have hne : gk ≠ g := fun e => HA.out.gap k _ HU.out (by rw [e]; rfl)
            have HMK : Hid (∀ w2, Below wr.heap.size wr w2 → RwsG ecs 5 38 mkE (((((w2.setCell ⟨gk, i * 5, none⟩ (.string (mkE k i).path)).setCell ⟨gk, i * 5 + 1, none⟩ (.int .i64 (mkE k i).kind)).setCell ⟨gk, i * 5 + 2, none⟩ (.int .i64 (mkE k i).mode)).setCell ⟨gk, i * 5 + 3, none⟩ (.string (mkE k i).data)).setCell ⟨gk, i * 5 + 4, none⟩ (.string (mkE k i).link)) B us xss k (i + 1)) := fun w2 b3 => mark_own (HR.out.below b3) HA.out HU.out HX.out hin
            clear hrow hrl
            generalize mkE k i = mx at *
            go_wp2
            go_region_with (first | (go_at_call 37; refine hM.mono ?_; rintro e w2 ⟨rfl, b2⟩; obtain ⟨k0, y0', y1', y2', y3', y4', ⟨p0, q0⟩, ⟨p1, q1⟩, ⟨p2, q2⟩, ⟨p3, q3⟩, ⟨p4, q4⟩⟩ := HF.out w2 b2))
            all_goals go_wp2
            all_goals
              have b3 : Below wr.heap.size wr w2 := (show Below wr.heap.size wr wr.drew from ⟨rfl, rfl, rfl, Nat.le_refl _, fun _ _ => rfl⟩).trans b2
              have hs1 := hB1.size
              go_roundw
              case rel => exact ⟨i + 1, by omega, by go_num, lies_other (lies_other (lies_other (lies_other (lies_other (HL.out.below b3) _ hne) _ hne) _ hne) _ hne) _ hne, HMK.out w2 b3, ((((((HOT.out.below hs1 b3).set _ HU.out rfl).set _ HU.out rfl).set _ HU.out rfl).set _ HU.out rfl).set _ HU.out rfl), (((((hB1.trans (b3.mono (by omega))).setCell (p := ⟨gk, i * 5, none⟩) hBg _).setCell (p := ⟨gk, i * 5 + 1, none⟩) hBg _).setCell (p := ⟨gk, i * 5 + 2, none⟩) hBg _).setCell (p := ⟨gk, i * 5 + 3, none⟩) hBg _).setCell (p := ⟨gk, i * 5 + 4, none⟩) hBg _⟩
              case measure => simp [intOf]; omega
        · obtain rfl : i = xs.length := by omega
          have HR2 : Hid (RwsG ecs 5 38 mkE wr B us xss (k + 1) 0) := HR.out.next HX.out
          go_wp2
          go_roundw
          case rel => exact ⟨k + 1, by omega, by go_num, HL, HR2, HOT, hB1⟩
          case measure => simp [intOf]; omega
    · obtain rfl : k = us.length := by omega
      have HD : Hid (∀ (j : Nat) (u : Value) (xs : List Ent), us[j]? = some u → xss[j]? = some xs → wr.ownsRow B 38 5 u xs.length (cellsG ecs (marksG mkE j xs.length))) := fun j u xs h1 h2 => HR.out.done rfl j u xs h1 h2
      clear HR
      go_wp2
      obtain ⟨w1, hw1⟩ : ∃ w1, w1 = wr := ⟨_, rfl⟩
      subst hw1
      have hBw : B ≤ w1.heap.size := by have := hB1.size; omega
      go_loopw [5, 6, 7, 8] (fun gv n _ _ wr2 => ∃ (k : Nat) (vs : List Value), k ≤ us.length ∧ n = .int .i64 k ∧ Hid (GrewG ecs 5 22 mkE w1 wr2 us xss k vs gv) ∧ Below B w wr2) (fun _ n _ _ _ => us.length - (intOf n).toNat)
      case atStart => exact ⟨0, [], Nat.zero_le _, rfl, ⟨rfl, Nat.le_refl _, fun _ _ _ => rfl, fun j _ _ h => absurd h (Nat.not_lt_zero j), fun j v xs h => by simp at h, World.ownsRow_nil _ _ _ _, fun j v h => by simp at h, fun j v u h => by simp at h⟩, hB1⟩
      case round =>
        obtain ⟨k, vs, hk, rfl, HG, hB2⟩ := hrel
        by_cases hlt : k < us.length
        · obtain ⟨u, hu⟩ : ∃ u, us[k]? = some u := ⟨_, List.getElem?_eq_getElem hlt⟩
          obtain ⟨xs, hx⟩ : ∃ xs, xss[k]? = some xs := ⟨_, List.getElem?_eq_getElem (by rw [← HLL.out]; exact hlt)⟩
          have hzx := HZ.out xs (List.mem_of_getElem? hx)
          have hul : ∀ b, u.ownBlock = some b → b < w1.heap.size := fun b hb => (own_lt (HD.out k u xs hu hx) b hb).2
          have hown2 : wr.ownsRow B 38 5 u xs.length (cellsG ecs (marksG mkE k xs.length)) := own_eq (HD.out k u xs hu hx) (fun b hb => HG.out.same b (hul b hb) (fun j u' hj hu' e => by
            rcases HA.out.apart j k u' u hu' hu (by omega) with h | h
            · rw [e] at h; cases h
            · exact h (e.trans hb.symm)))
          have hgl : Lies wr g 22 us.toArray := (HG.out.same g HL.out.lt (fun j u' _ hu' => HA.out.gap j u' hu')).trans HL.out
          have hcell := hgl.cell (i := k) (by simpa using hu)
          have hsz2 := HG.out.size
          have HUL : Hid (∀ b, u.ownBlock = some b → b < wr.heap.size) := fun b hb => Nat.lt_of_lt_of_le (hul b hb) hsz2
          have HUL1 : Hid (∀ b, u.ownBlock = some b → b < w1.heap.size) := hul
          have HUG : Hid (u.ownBlock ≠ some g) := HA.out.gap k u hu
          have HGL : Hid (Lies wr g 22 us.toArray) := hgl
          obtain ⟨a, cu, rfl, hac, hab, _, _⟩ := own_shapeG hown2
          have HU : Hid (us[k]? = some (.slice a xs.length cu)) := hu
          have HX : Hid (xss[k]? = some xs) := hx
          clear hu hx hul hgl
          have d1 : (0 : Int) ≤ (k : Int) := by omega
          have d2 : (k : Int) < (us.length : Int) := by omega
          go_wp2
          obtain ⟨w2, hw2⟩ : ∃ w2, w2 = wr := ⟨_, rfl⟩
          subst hw2
          go_loopw [7, 8] (fun v n wr3 => ∃ i : Nat, i ≤ 64 ∧ n = .int .i64 i ∧ Hid (GrowsG ecs 5 38 mkE w2 wr3 B k xs.length i (.slice a xs.length cu) v) ∧ Below B w wr3) (fun _ n _ => 64 - (intOf n).toNat)
          case atStart => exact ⟨0, by omega, rfl, ⟨Nat.le_refl _, fun _ _ _ => rfl, ListG.own (t := 38) (B := B) ecs_len (by rw [marksG_length]; exact hown2), hown2, .inl rfl⟩, hB2⟩
          case round =>
            clear hcell
            obtain ⟨i, hi2, rfl, HS, hB3⟩ := hrel
            have hcell : wr.cell? ⟨g, k, none⟩ = some (.slice a xs.length cu) := Lies.cell (t := 22) (cur := us.toArray) ((HS.out.same g HGL.out.lt HUG.out).trans HGL.out) (by simpa using HU.out)
            by_cases hin : i < 64
            · have e1 : (0 : Int) ≤ (i : Int) := by omega
              have e2 : (i : Int) < 64 := by omega
              have hM : ∀ W, Calls Tryz.prog 37 #[.int .i64 (k : Int), .int .i64 ((xs.length : Int) + (i : Int))] W fun e w' => e = .returned (.agg #[.string (mkE k (xs.length + i)).path, .int .i64 (mkE k (xs.length + i)).kind, .int .i64 (mkE k (xs.length + i)).mode, .string (mkE k (xs.length + i)).data, .string (mkE k (xs.length + i)).link]) ∧ Below W.heap.size W w' := fun W => by
                have := markE_p (k : Int) ((xs.length : Int) + (i : Int)) (by omega) (by omega) W
                unfold mkE
                rw [show ((xs.length + i : Nat) : Int) = (xs.length : Int) + (i : Int) by omega]
                exact this
              obtain ⟨x, hxm⟩ : ∃ x, mkE k (xs.length + i) = x := ⟨_, rfl⟩
              have HXM : Hid (mkE k (xs.length + i) = x) := hxm
              rw [hxm] at hM
              clear hxm
              go_wp2_with fail
              refine (hM wr).mono ?_
              rintro e w3 ⟨rfl, b3⟩
              have hB4 : Below B w w3 := hB3.trans (b3.mono (by have := hB3.size; omega))
              have hs4 := hB4.size
              have HS3 := HS.out.below HUL.out b3
              have HS4 : Hid (GrowsG ecs 5 38 mkE w2 (w3.alloc (.cells #[.string x.path, .int .i64 x.kind, .int .i64 x.mode, .string x.data, .string x.link] 38)) B k xs.length i (.slice a xs.length cu) u7) := HS3.below HUL.out ((Below.refl _ w3).alloc (Nat.le_refl _) _)
              clear HS3 HS hM
              go_wp2_with (at_builtin; refine wpList_append_keepG _ rfl _ _ 22 rfl B 38 i0 (.agg #[.string ⟨#[]⟩, .int .i64 0, .int .i64 0, .string ⟨#[]⟩, .string ⟨#[]⟩]) 5 64 Tryz.underlying22 hi z0 z1 z2 rfl (by decide) _ _ _ rfl HS4.out.new ⟨w3.heap.size, 0, none⟩ 1 (ecs x) rfl rfl (ent_cells (ent_new w3 _ x)) (ent_one x) ?c3 ?c4 ?c5 ?_)
              case c3 => unfold maxLen; omega
              case c4 => omega
              case c5 => simp; omega
              intro v' w4 hown' hg
              rw [show w3.heap.size + 1 = (w3.alloc (.cells #[.string x.path, .int .i64 x.kind, .int .i64 x.mode, .string x.data, .string x.link] 38)).heap.size from (World.size_alloc _ _).symm] at hg
              have hgs := grown_belowG hg HS4.out.new (by simp; omega)
              have HS5 : Hid (GrowsG ecs 5 38 mkE w2 w4 B k xs.length (i + 1) (.slice a xs.length cu) v') := HS4.out.step ecs_len HUL.out (fun e => by cases a with | none => exact (hac rfl).2 | some _ => cases e) ⟨a, cu, rfl, hab⟩ (by rw [HXM.out]; exact hown') hg
              clear hown' hg HS4
              go_wp2
              go_roundw
              case rel => exact ⟨i + 1, by omega, by go_num, HS5, (hB4.alloc (by omega) _).trans hgs⟩
              case measure => simp [intOf]; omega
            · obtain rfl : i = 64 := by omega
              obtain ⟨av, cv, rfl, _⟩ := own_shapeG HS.out.new
              have hgo : wr.ownsRow w1.heap.size 22 1 u5 k vs := own_eq HG.out.row (fun b hb => HS.out.same b (own_lt HG.out.row b hb).2 (fun e => by have h1 := (own_lt HG.out.row b hb).1; have h2 := HUL1.out b e; omega))
              go_wp2_with (at_builtin; refine wpList_append_keepG _ rfl _ _ 40 rfl w1.heap.size 22 j0 (.slice none 0 0) 1 24 Tryz.underlying40 hj y0 y1 y2 rfl (by decide) _ _ _ rfl (hgo.alloc _) ⟨wr.heap.size, 0, none⟩ 1 [.slice av (xs.length + 64) cv] rfl rfl (cell_one_new _ _ _) (by simp [Value.oneCell']) ?c3 ?c4 ?c5 ?_)
              case c3 => unfold maxLen; omega
              case c4 => omega
              case c5 => have := HG.out.size; have := HS.out.size; simp; omega
              intro gv' w4 hown' hg
              rw [show wr.heap.size + 1 = (wr.alloc (.cells #[.slice av (xs.length + 64) cv] 22)).heap.size from (World.size_alloc _ _).symm] at hg
              have hs3 := hB3.size
              have hgs := grown_belowG hg ((own_baseG hgo hBw).alloc _) (by simp; omega)
              have HS5 : Hid (GrewG ecs 5 22 mkE w1 w4 us xss (k + 1) (vs ++ [.slice av (xs.length + 64) cv]) gv') := HG.out.step (t := 38) (B := B) ecs_len (by decide) HA.out HU.out HX.out rfl (fun j u hu b hb => by
                obtain ⟨xj, hxj⟩ : ∃ xj, xss[j]? = some xj := ⟨_, List.getElem?_eq_getElem (by rw [← HLL.out]; exact (List.getElem?_eq_some_iff.1 hu).1)⟩
                exact (own_lt (HD.out j u xj hu hxj) b hb).2) (HS.out.below HUL.out ((Below.refl _ wr).alloc (Nat.le_refl _) _)) hown' hg
              clear hown' hg hgo
              go_wp2
              go_roundw
              case rel => exact ⟨k + 1, _, by omega, by go_num, HS5, (hB3.alloc (by omega) _).trans hgs⟩
              case measure => simp [intOf]; omega
        · obtain rfl : k = us.length := by omega
          obtain ⟨w2, hw2⟩ : ∃ w2, w2 = wr := ⟨_, rfl⟩
          subst hw2
          have hsz2 := HG.out.size
          have hsw1 := hB1.size
          have HO2 : Hid (OthE us w w2) := fun b h1 h2 => (HG.out.same b (by omega) (fun j u' _ hu' => h2 j u' hu')).trans (HOT.out b h1 h2)
          have HGL : Hid (Lies w2 g 22 us.toArray) := (HG.out.same g HL.out.lt (fun j u' _ hu' => HA.out.gap j u' hu')).trans HL.out
          go_wp2
          go_loopw [9, 10, 11] (fun n _ _ wr => ∃ k : Nat, k ≤ us.length ∧ n = .int .i64 k ∧ Below w2.heap.size w2 wr) (fun n _ _ _ => us.length - (intOf n).toNat)
          case atStart => exact ⟨0, Nat.zero_le _, rfl, Below.refl _ _⟩
          case round =>
            obtain ⟨k, hk, rfl, hb⟩ := hrel
            by_cases hlt : k < us.length
            · obtain ⟨u, hu⟩ : ∃ u, us[k]? = some u := ⟨_, List.getElem?_eq_getElem hlt⟩
              obtain ⟨v, hv⟩ : ∃ v, vs[k]? = some v := ⟨_, List.getElem?_eq_getElem (by rw [HG.out.len]; exact hlt)⟩
              obtain ⟨xs, hx⟩ : ∃ xs, xss[k]? = some xs := ⟨_, List.getElem?_eq_getElem (by rw [← HLL.out]; exact hlt)⟩
              have hzx := HZ.out xs (List.mem_of_getElem? hx)
              obtain ⟨a, ca, bu, ou, hua, ha1, ha2⟩ := HG.out.old k u xs hlt hu hx
              obtain ⟨av, cv, bv, ov, hva, hv1, hv2⟩ := HG.out.new k v xs hv hx
              rw [marksG_length] at hua hva
              subst hua
              subst hva
              have HUA : Hid (∀ i, i < xs.length → ∀ W, Below w2.heap.size w2 W → a = some ⟨bu, ou, none⟩ ∧ EntC W bu (ou + i * 5) (mkE k i)) := fun i h W bb => ⟨ha1 (fun e => by have := congrArg List.length e; rw [marksG_length, List.length_nil] at this; omega), entG (ha2 i _ (marksG_get k xs.length i h)) bb⟩
              have HVA : Hid (∀ i, i < xs.length + 64 → ∀ W, Below w2.heap.size w2 W → av = some ⟨bv, ov, none⟩ ∧ EntC W bv (ov + i * 5) (mkE k i)) := fun i h W bb => ⟨hv1 (fun e => by have := congrArg List.length e; rw [marksG_length, List.length_nil] at this; omega), entG (hv2 i _ (marksG_get k (xs.length + 64) i h)) bb⟩
              have hrow := HG.out.row
              rcases hrow.2 with ⟨_, h0⟩ | ⟨gg, cg, cur, hgv, _, _, _, hcg, _⟩
              · omega
              subst hgv
              have HC : Hid (∀ wr, Below w2.heap.size w2 wr → wr.cell? ⟨g, k, none⟩ = some (.slice a xs.length ca) ∧ wr.cell? ⟨gg, k, none⟩ = some (.slice av (xs.length + 64) cv)) := fun wr hb => ⟨(HGL.out.below hb).cell (by simpa using hu), row_cell (own_below hrow hb) k _ hv⟩
              obtain ⟨q1, q2⟩ := HC.out wr hb
              unfold maxLen at hcg
              clear hrow hu hv hx ha2 hv2 ha1 hv1
              have d1 : (0 : Int) ≤ (k : Int) := by omega
              have d2 : (k : Int) < (us.length : Int) := by omega
              go_wp2
              go_loopw [10, 11] (fun n _ wr => ∃ i : Nat, i ≤ xs.length + 64 ∧ n = .int .i64 i ∧ Below w2.heap.size w2 wr) (fun n _ _ => xs.length + 64 - (intOf n).toNat)
              case atStart => exact ⟨0, Nat.zero_le _, rfl, hb⟩
              case round =>
                clear q1 q2 hb
                obtain ⟨i, hi2, rfl, hb⟩ := hrel
                obtain ⟨q1, q2⟩ := HC.out wr hb
                by_cases hin : i < xs.length + 64
                · obtain ⟨rfl, _⟩ := HVA.out i hin wr hb
                  have e1 : (0 : Int) ≤ (i : Int) := by omega
                  have e2 : (i : Int) < (xs.length : Int) + 64 := by omega
                  have hM : ∀ W, Calls Tryz.prog 37 #[.int .i64 (k : Int), .int .i64 (i : Int)] W fun e w' => e = .returned (.agg #[.string (mkE k i).path, .int .i64 (mkE k i).kind, .int .i64 (mkE k i).mode, .string (mkE k i).data, .string (mkE k i).link]) ∧ Below W.heap.size W w' := fun W => markE_p (k : Int) (i : Int) (by omega) (by omega) W
                  have HV2 : Hid (∀ W, Below w2.heap.size w2 W → EntC W bv (ov + i * 5) (mkE k i)) := fun W bb => (HVA.out i hin W bb).2
                  have HU2 : Hid (i < xs.length → ∀ W, Below w2.heap.size w2 W → a = some ⟨bu, ou, none⟩ ∧ EntC W bu (ou + i * 5) (mkE k i)) := fun h => HUA.out i h
                  generalize mkE k i = x at *
                  have heq := fun W => eq_self x W
                  go_upto_region 25 with (go_at_call 37; refine (hM _).mono ?_; rintro e w3 ⟨rfl, b3⟩)
                  have hb3 : Below w2.heap.size w2 w3 := hb.trans (b3.mono hb.size)
                  have L3 := Lies.new w3 38 #[.string x.path, .int .i64 x.kind, .int .i64 x.mode, .string x.data, .string x.link]
                  have hb4 : Below w2.heap.size w2 (w3.alloc (.cells #[.string x.path, .int .i64 x.kind, .int .i64 x.mode, .string x.data, .string x.link] 38)) := hb3.alloc hb3.size _
                  clear q1 q2 hb b3 hM hb3
                  generalize (w3.alloc (.cells #[.string x.path, .int .i64 x.kind, .int .i64 x.mode, .string x.data, .string x.link] 38)) = W4 at *
                  generalize w3.heap.size = ge at *
                  obtain ⟨p1, p2⟩ := HC.out W4 hb4
                  obtain ⟨g0, g1, g2, g3, g4⟩ := HV2.out W4 hb4
                  have f0 := L3.cell (i := 0) rfl
                  have f1 := L3.cell (i := 1) rfl
                  have f2 := L3.cell (i := 2) rfl
                  have f3 := L3.cell (i := 3) rfl
                  have f4 := L3.cell (i := 4) rfl
                  clear L3
                  by_cases hin2 : i < xs.length
                  · obtain ⟨rfl, h0, h1, h2, h3, h4⟩ := HU2.out hin2 W4 hb4
                    have e3 : (i : Int) < (xs.length : Int) := by omega
                    go_wp2
                    go_quiet (fail)
                    go_wp2
                    go_roundw
                    case rel => exact ⟨i + 1, by omega, by go_num, hb4.trans ⟨rfl, rfl, rfl, Nat.le_refl _, fun _ _ => rfl⟩⟩
                    case measure => simp [intOf]; omega
                  · have e3 : decide ((i : Int) < (xs.length : Int)) = false := by simp; omega
                    have e3' : decide (i < xs.length) = false := by simp; omega
                    go_wp2
                    go_quiet (fail)
                    go_wp2
                    go_roundw
                    case rel => exact ⟨i + 1, by omega, by go_num, hb4.trans ⟨rfl, rfl, rfl, Nat.le_refl _, fun _ _ => rfl⟩⟩
                    case measure => simp [intOf]; omega
                · obtain rfl : i = xs.length + 64 := by omega
                  go_wp2
                  go_roundw
                  case rel => exact ⟨k + 1, by omega, by go_num, hb⟩
                  case measure => simp [intOf]; omega
            · obtain rfl : k = us.length := by omega
              go_wp2
              go_ret
              exact ⟨rfl, HO2.out.below (by omega) hb, hB2.trans (hb.mono (by have := hB2.size; omega))⟩
end Go.Proofs.YthkbhcefckbcnaaGreatDoor

namespace Go.Proofs.YthkbhcefckbcnaaGreatDoor
open Go Go.RowKit

theorem keep_lenK (ok : ByteArray → Bool) (es : List Ent) : (keepB ok es).length ≤ es.length := List.length_filter_le _ _
/-- Both sides' rules stand. -/
def BothOK (s : ByteArray) (rv pv : Value) (W : World) : Prop := DocOK s 0 rv W ∧ PtrOK s 0 pv W
theorem both_kept (s : ByteArray) (rv pv : Value) : KeptBy (BothOK s rv pv) := fun _ _ h b => ⟨h.1.below b, h.2.below b⟩
def okS (s p : ByteArray) : Bool := !outS s p
theorem both_out (s : ByteArray) (rv pv : Value) : OutOK (BothOK s rv pv) pv (okS s) := fun W hW p hp => by
  unfold okS; rw [Bool.not_not]; exact out_c rfl hW.2 p hp
theorem both_ref (s : ByteArray) (rv pv : Value) : OutRK (BothOK s rv pv) rv (okS s) := fun W hW p hp => by
  unfold okS; rw [Bool.not_not]; exact out_d rfl hW.1 p hp
def Cut300 (w1 : World) (s : Value) (wx : World) : Prop := ∃ es2 : List Ent, EntsAt w1 s es2 ∧ es2.length ≤ 300 ∧ (∀ e ∈ es2, e.path.size ≤ 1048576) ∧ w1 = wx
/-- A list of one's own. -/
def Own (W : World) (B : Nat) (v : Value) (es : List Ent) : Prop := W.ownsRow B 38 5 v es.length (ecells es)
theorem Own.below {W W2 : World} {B : Nat} {v : Value} {es : List Ent} (h : Own W B v es) (b : Below W.heap.size W W2) : Own W2 B v es := own_below h b
theorem Own.ents {W : World} {B : Nat} {v : Value} {es : List Ent} (h : Own W B v es) : EntsAt W v es := ents_of_owns h
/-- Where a list lies: from lo on, ahead of hi. -/
def Lo (v : Value) (lo hi : Nat) : Prop := ∀ b, v.ownBlock = some b → lo ≤ b ∧ b < hi
theorem Own.lo {W : World} {B : Nat} {v : Value} {es : List Ent} (h : Own W B v es) : Lo v B W.heap.size := fun b hb => own_lt h b hb
theorem Lo.mono {v : Value} {lo hi lo2 hi2 : Nat} (h : Lo v lo hi) (h1 : lo2 ≤ lo) (h2 : hi ≤ hi2) : Lo v lo2 hi2 := fun b hb => by have := h b hb; omega
theorem handed_five {a b c d f : Value} {g n0 n1 n2 n3 n4 n5 : Nat} (ha : Lo a n0 n1) (hb : Lo b n1 n2) (hc : Lo c n2 n3) (hd : Lo d n3 n4) (hf : Lo f n4 n5) (h12 : n1 ≤ n2) (h23 : n2 ≤ n3) (h34 : n3 ≤ n4) (h45 : n4 ≤ n5) (hg : n5 ≤ g) : HandedG g [a, b, c, d, f] := by
  have hp : [a, b, c, d, f].Pairwise (fun u v => ∀ x y, u.ownBlock = some x → v.ownBlock = some y → x < y) := by
    simp only [List.pairwise_cons, List.mem_cons, List.not_mem_nil, or_false, forall_eq_or_imp, forall_eq, false_imp_iff, implies_true, List.Pairwise.nil, and_true]
    refine ⟨⟨?_, ?_, ?_, ?_⟩, ⟨?_, ?_, ?_⟩, ⟨?_, ?_⟩, ?_⟩
    · intro x y h1 h2; have := ha x h1; have := hb y h2; omega
    · intro x y h1 h2; have := ha x h1; have := hc y h2; omega
    · intro x y h1 h2; have := ha x h1; have := hd y h2; omega
    · intro x y h1 h2; have := ha x h1; have := hf y h2; omega
    · intro x y h1 h2; have := hb x h1; have := hc y h2; omega
    · intro x y h1 h2; have := hb x h1; have := hd y h2; omega
    · intro x y h1 h2; have := hb x h1; have := hf y h2; omega
    · intro x y h1 h2; have := hc x h1; have := hd y h2; omega
    · intro x y h1 h2; have := hc x h1; have := hf y h2; omega
    · intro x y h1 h2; have := hd x h1; have := hf y h2; omega
  refine ⟨fun i j u v hu hv hne => ?_, fun i u hu e => ?_⟩
  · cases hub : u.ownBlock with
    | none => exact .inl rfl
    | some x =>
      right
      intro e
      have hi := (List.getElem?_eq_some_iff.1 hu)
      have hj := (List.getElem?_eq_some_iff.1 hv)
      rcases Nat.lt_or_gt_of_ne hne with h | h
      · have := List.pairwise_iff_getElem.1 hp i j hi.1 hj.1 h x x (by rw [hi.2]; exact hub) (by rw [hj.2]; exact e.symm)
        omega
      · have := List.pairwise_iff_getElem.1 hp j i hj.1 hi.1 h x x (by rw [hj.2]; exact e.symm) (by rw [hi.2]; exact hub)
        omega
  · have hm := List.mem_of_getElem? hu
    simp only [List.mem_cons, List.not_mem_nil, or_false] at hm
    rcases hm with rfl | rfl | rfl | rfl | rfl
    · have := ha g e; omega
    · have := hb g e; omega
    · have := hc g e; omega
    · have := hd g e; omega
    · have := hf g e; omega
/-- What is written over. -/
def overE : Ent := ⟨⟨#[119, 114, 105, 116, 116, 101, 110, 47, 111, 118, 101, 114]⟩, 2, 0, ⟨#[]⟩, ⟨#[]⟩⟩
def overL (es : List Ent) (k : Nat) : List Ent := List.replicate k overE ++ es.drop k
theorem overL_length (es : List Ent) (k : Nat) (h : k ≤ es.length) : (overL es k).length = es.length := by unfold overL; rw [List.length_append, List.length_replicate, List.length_drop]; omega
theorem over_step {w : World} {B gk cap k : Nat} {es : List Ent} (h : w.ownsRow B 38 5 (.slice (some ⟨gk, 0, none⟩) es.length cap) es.length (ecells (overL es k))) (hk : k < es.length) :
    (((((w.setCell ⟨gk, k * 5, none⟩ (.string overE.path)).setCell ⟨gk, k * 5 + 1, none⟩ (.int .i64 overE.kind)).setCell ⟨gk, k * 5 + 2, none⟩ (.int .i64 overE.mode)).setCell ⟨gk, k * 5 + 3, none⟩ (.string overE.data)).setCell ⟨gk, k * 5 + 4, none⟩ (.string overE.link)).ownsRow B 38 5 (.slice (some ⟨gk, 0, none⟩) es.length cap) es.length (ecells (overL es (k + 1))) := by
  have h2 := own_setG (i := k * 5 + 4) (own_setG (i := k * 5 + 3) (own_setG (i := k * 5 + 2) (own_setG (i := k * 5 + 1) (own_setG (i := k * 5) h (.string overE.path)) (.int .i64 overE.kind)) (.int .i64 overE.mode)) (.string overE.data)) (.string overE.link)
  obtain ⟨x, hxi⟩ : ∃ x, es[k]? = some x := ⟨_, List.getElem?_eq_getElem hk⟩
  have e1 : overL es k = List.replicate k overE ++ (x :: es.drop (k + 1)) := by
    unfold overL
    rw [List.drop_eq_getElem_cons hk]
    rw [List.getElem?_eq_getElem hk] at hxi
    rw [Option.some.inj hxi]
  have e2 : overL es (k + 1) = List.replicate k overE ++ (overE :: es.drop (k + 1)) := by
    unfold overL
    rw [List.replicate_succ', List.append_assoc]; rfl
  rw [e1] at h2
  rw [e2]
  have hl : (ecells (List.replicate k overE)).length = k * 5 := by rw [ecells_length, List.length_replicate]
  rw [ecells_append, ecells_cons, show ecs x = [.string x.path, .int .i64 x.kind, .int .i64 x.mode, .string x.data, .string x.link] from rfl, set5 _ _ _ hl] at h2
  rw [ecells_append, ecells_cons]
  exact h2
theorem five_other {W : World} {gk b k : Nat} (h : gk ≠ b) (v0 v1 v2 v3 v4 : Value) : (((((W.setCell ⟨gk, k * 5, none⟩ v0).setCell ⟨gk, k * 5 + 1, none⟩ v1).setCell ⟨gk, k * 5 + 2, none⟩ v2).setCell ⟨gk, k * 5 + 3, none⟩ v3).setCell ⟨gk, k * 5 + 4, none⟩ v4).heap[b]? = W.heap[b]? := by
  rw [set_otherG _ h, set_otherG _ h, set_otherG _ h, set_otherG _ h, set_otherG _ h]
end Go.Proofs.YthkbhcefckbcnaaGreatDoor

namespace Go.Proofs.YthkbhcefckbcnaaGreatDoor
open Go Go.RowKit

theorem own_sh {W : World} {B : Nat} {v : Value} {es : List Ent} (h : W.ownsRow B 38 5 v es.length (ecells es)) : ∃ a c, v = .slice a es.length c := by
  obtain ⟨a, c, h1, _⟩ := own_shapeG h
  exact ⟨a, c, h1⟩
/-- While the list that was lent is written over. -/
structure OvSt (w16 wr : World) (B gl cap : Nat) (ts : List Ent) (k : Nat) : Prop where
  own : wr.ownsRow B 38 5 (.slice (some ⟨gl, 0, none⟩) ts.length cap) ts.length (ecells (overL ts k))
  oth : ∀ b, gl ≠ b → wr.heap[b]? = w16.heap[b]?
  bel : Below gl w16 wr
  size : wr.heap.size = w16.heap.size
theorem OvSt.step {w16 wr : World} {B gl cap : Nat} {ts : List Ent} {k : Nat} (h : OvSt w16 wr B gl cap ts k) (hk : k < ts.length) : OvSt w16 (((((wr.setCell ⟨gl, k * 5, none⟩ (.string overE.path)).setCell ⟨gl, k * 5 + 1, none⟩ (.int .i64 overE.kind)).setCell ⟨gl, k * 5 + 2, none⟩ (.int .i64 overE.mode)).setCell ⟨gl, k * 5 + 3, none⟩ (.string overE.data)).setCell ⟨gl, k * 5 + 4, none⟩ (.string overE.link)) B gl cap ts (k + 1) :=
  ⟨over_step h.own hk, fun b hb => (five_other hb _ _ _ _ _).trans (h.oth b hb), ((((h.bel.setCell (p := ⟨gl, k * 5, none⟩) (Nat.le_refl _) _).setCell (p := ⟨gl, k * 5 + 1, none⟩) (Nat.le_refl _) _).setCell (p := ⟨gl, k * 5 + 2, none⟩) (Nat.le_refl _) _).setCell (p := ⟨gl, k * 5 + 3, none⟩) (Nat.le_refl _) _).setCell (p := ⟨gl, k * 5 + 4, none⟩) (Nat.le_refl _) _, by simp [World.setCell, h.size]⟩
theorem OvSt.cells {w16 wr : World} {B gl cap : Nat} {ts : List Ent} {k : Nat} (h : OvSt w16 wr B gl cap ts k) (hk : k < ts.length) : ∃ y0 y1 y2 y3 y4, (wr.cell? ⟨gl, k * 5, none⟩ = some y0 ∧ wr.frozen? ⟨gl, k * 5, none⟩ = false) ∧ (wr.cell? ⟨gl, k * 5 + 1, none⟩ = some y1 ∧ wr.frozen? ⟨gl, k * 5 + 1, none⟩ = false) ∧ (wr.cell? ⟨gl, k * 5 + 2, none⟩ = some y2 ∧ wr.frozen? ⟨gl, k * 5 + 2, none⟩ = false) ∧ (wr.cell? ⟨gl, k * 5 + 3, none⟩ = some y3 ∧ wr.frozen? ⟨gl, k * 5 + 3, none⟩ = false) ∧ (wr.cell? ⟨gl, k * 5 + 4, none⟩ = some y4 ∧ wr.frozen? ⟨gl, k * 5 + 4, none⟩ = false) := by
  have hat : ∀ j, j < 5 → ∃ y, wr.cell? ⟨gl, k * 5 + j, none⟩ = some y := fun j hj => by
    obtain ⟨y, hy⟩ : ∃ y, (ecells (overL ts k))[k * 5 + j]? = some y := ⟨_, List.getElem?_eq_getElem (by rw [ecells_length, overL_length _ _ (by omega)]; omega)⟩
    exact ⟨y, by have := h.own.cells (g := gl) rfl (k * 5 + j) y hy; rw [Addr.add_mid, Nat.zero_add] at this; exact this⟩
  obtain ⟨y0, h0⟩ := hat 0 (by decide)
  obtain ⟨y1, h1⟩ := hat 1 (by decide)
  obtain ⟨y2, h2⟩ := hat 2 (by decide)
  obtain ⟨y3, h3⟩ := hat 3 (by decide)
  obtain ⟨y4, h4⟩ := hat 4 (by decide)
  exact ⟨y0, y1, y2, y3, y4, ⟨h0, own_frozenG h.own _⟩, ⟨h1, own_frozenG h.own _⟩, ⟨h2, own_frozenG h.own _⟩, ⟨h3, own_frozenG h.own _⟩, ⟨h4, own_frozenG h.own _⟩⟩
theorem OvSt.keep {w16 wr : World} {B B2 gl cap lo hi : Nat} {ts es : List Ent} {k : Nat} {v : Value} (h : OvSt w16 wr B gl cap ts k) (ho : Own w16 B2 v es) (hlo : Lo v lo hi) (hn : ¬ (lo ≤ gl ∧ gl < hi)) : Own wr B2 v es :=
  own_eq ho (fun b hb => h.oth b (fun e => hn (by have := hlo b hb; rw [← e] at this; exact this)))

theorem five_not {a b c d f : Value} {x : Nat} (ha : a.ownBlock ≠ some x) (hb : b.ownBlock ≠ some x) (hc : c.ownBlock ≠ some x) (hd : d.ownBlock ≠ some x) (hf : f.ownBlock ≠ some x) : ∀ (j : Nat) (u : Value), [a, b, c, d, f][j]? = some u → u.ownBlock ≠ some x := fun j u hu => by
  have hm := List.mem_of_getElem? hu
  simp only [List.mem_cons, List.not_mem_nil, or_false] at hm
  rcases hm with rfl | rfl | rfl | rfl | rfl
  · exact ha
  · exact hb
  · exact hc
  · exact hd
  · exact hf
theorem five_start {W : World} {B : Nat} {a b c d f : Value} {la lb lc ld lf : List Ent} (ha : W.ownsRow B 38 5 a la.length (ecells la)) (hb : W.ownsRow B 38 5 b lb.length (ecells lb)) (hc : W.ownsRow B 38 5 c lc.length (ecells lc)) (hd : W.ownsRow B 38 5 d ld.length (ecells ld)) (hf : W.ownsRow B 38 5 f lf.length (ecells lf)) :
    ∀ (j : Nat) (u : Value) (xs : List Ent), [a, b, c, d, f][j]? = some u → [la, lb, lc, ld, lf][j]? = some xs → W.ownsRow B 38 5 u xs.length (cellsG ecs xs) := fun j u xs hu hx => by
  rcases j with _ | _ | _ | _ | _ | j
  · cases hu; cases hx; exact ha
  · cases hu; cases hx; exact hb
  · cases hu; cases hx; exact hc
  · cases hu; cases hx; exact hd
  · cases hu; cases hx; exact hf
  · simp at hu

set_option maxRecDepth 100000 in
set_option maxHeartbeats 8000000 in
theorem globkeep_law (text : ByteArray) (es us : List Ent) (v1 v2 : Value) (w : World) (hg : ErrType w) (ht : text.size ≤ 1048576) (hv1 : EntsAt w v1 es) (hv2 : EntsAt w v2 us) (hz1 : ∀ e ∈ es, e.path.size ≤ 1048576) (hz2 : ∀ e ∈ us, e.path.size ≤ 1048576) : Calls Tryz.prog 3 #[.string text, v1, v2] w fun e w' => e = .returned (.bool true) ∧ Below w.heap.size w w' := by
  obtain ⟨n, line, n0, n32, PR1, PL1⟩ := parsed text ht
  have NU := fun W => num_both n line n0 n32 W
  obtain ⟨a1, cap1, bb1, o1, rfl, ha1, hcap1, hc1⟩ := hv1
  obtain ⟨a2, cap2, bb2, o2, rfl, ha2, hcap2, hc2⟩ := hv2
  have HV1 : Hid (EntsAt w (.slice a1 es.length cap1) es) := ⟨a1, cap1, bb1, o1, rfl, ha1, hcap1, hc1⟩
  have HV2 : Hid (EntsAt w (.slice a2 us.length cap2) us) := ⟨a2, cap2, bb2, o2, rfl, ha2, hcap2, hc2⟩
  have HT1 : Hid (∀ W, Below w.heap.size w W → 300 ≤ es.length → EntsAt W (.slice a1 300 cap1) (es.take 300)) := fun W bb h => ents_take ha1 hcap1 (fun i e he => (hc1 i e he).below bb) 300 h
  have HT2 : Hid (∀ W, Below w.heap.size w W → 300 ≤ us.length → EntsAt W (.slice a2 300 cap2) (us.take 300)) := fun W bb h => ents_take ha2 hcap2 (fun i e he => (hc2 i e he).below bb) 300 h
  clear ht ha1 hc1 ha2 hc2
  generalize errF n line = E1 at *
  go_enter Tryz.func3, Tryz.ntmps3
  go_upto_region 3 with (first
    | (go_at_call 6; with_reducible refine (PR1 _).mono ?_; rintro e w1 ⟨rv, rfl, D1, b1⟩)
    | (go_at_call 7; with_reducible refine (PL1 _ (hg.below b1)).mono ?_; rintro e w2 ⟨pv, rfl, P2, b2⟩))
  have B2 := below_join b1 b2
  have D2 := D1.below b2
  clear D1 b1 b2 PR1 PL1
  have hnn : (n != n) = false := by simp
  by_cases hn : n = 0
  · have hnx : (n != 0) = false := by simp [hn]
    obtain ⟨l1, rfl⟩ : ∃ l1, pv = .pointer (some ⟨l1, 0, none⟩) := by obtain ⟨_, q, _, h, _⟩ := P2.1 hn; exact ⟨q, h⟩
    have HBO : BothOK text rv (.pointer (some ⟨l1, 0, none⟩)) w2 := ⟨by rw [hn] at D2; exact D2, by rw [hn] at P2; exact P2⟩
    clear D2 P2 hn
    have HG := both_kept text rv (.pointer (some ⟨l1, 0, none⟩))
    have HO : Hid (OutOK (BothOK text rv (.pointer (some ⟨l1, 0, none⟩))) (.pointer (some ⟨l1, 0, none⟩)) (okS text)) := both_out text rv _
    have HR : Hid (OutRK (BothOK text rv (.pointer (some ⟨l1, 0, none⟩))) rv (okS text)) := both_ref text rv _
    generalize okS text = ok at *
    generalize BothOK text rv (.pointer (some ⟨l1, 0, none⟩)) = G at *
    go_upto_if 50 with (go_at_call 8; with_reducible refine (NU _).mono ?_; rintro e w3 ⟨rfl, b3⟩)
    have B3 := below_join B2 b3
    have G3 := HG _ _ HBO b3
    clear B2 b3 HBO NU
    go_cut [1] from 23 to 150 (fun s wx => Cut300 w3 s wx)
    case first =>
      by_cases h300 : 300 < es.length
      · have h300' : (300 : Int) < (es.length : Int) := by omega
        have hc300 : (300 : Int) ≤ (cap1 : Int) := by omega
        go_wp2
        go_meet
        exact ⟨es.take 300, HT1.out w3 B3 (by omega), by rw [List.length_take]; omega, fun e he => hz1 e (List.mem_of_mem_take he), rfl⟩
      · have h300' : ¬ (300 : Int) < (es.length : Int) := by omega
        go_wp2
        go_meet
        exact ⟨es, HV1.out.below B3, by omega, hz1, rfl⟩
    case rest =>
      obtain ⟨ts, hvt, hlt, hzt, rfl⟩ := hcut
      clear HT1 HV1 hz1 hcap1
      go_upto_if 55 with fail
      go_cut [2] from 23 to 150 (fun s wx => Cut300 w3 s wx)
      case first =>
        by_cases h300 : 300 < us.length
        · have h300' : (300 : Int) < (us.length : Int) := by omega
          have hc300 : (300 : Int) ≤ (cap2 : Int) := by omega
          go_wp2
          go_meet
          exact ⟨us.take 300, HT2.out w3 B3 (by omega), by rw [List.length_take]; omega, fun e he => hz2 e (List.mem_of_mem_take he), rfl⟩
        · have h300' : ¬ (300 : Int) < (us.length : Int) := by omega
          go_wp2
          go_meet
          exact ⟨us, HV2.out.below B3, by omega, hz2, rfl⟩
      case rest =>
        obtain ⟨xs, hvx, hlx, hzx, rfl⟩ := hcut
        clear HT2 HV2 hz2 hcap2
        have hkt := keep_lenK ok ts
        have hkx := keep_lenK ok xs
        have HVT : Hid (EntsAt w3 u1 ts) := hvt
        have HVX : Hid (EntsAt w3 u2 xs) := hvx
        clear hvt hvx
        have cW := keep_r HG rv ok HR u1 ts w3 G3 HVT.out (by omega) hzt
        go_upto_region 12 with (go_at_call 10; with_reducible refine cW.mono ?_; rintro e w4 ⟨vw, rfl, ow, b4⟩)
        clear cW
        have cL := lentE_p ts u1 w4 (HVT.out.below b4) (by omega)
        go_upto_region 13 with (go_at_call 11; with_reducible refine cL.mono ?_; rintro e w5 ⟨vl, rfl, hle, ol, b5⟩)
        clear cL
        obtain ⟨gl, capl, rfl, hcl, hml, hEC⟩ := hle
        have HLE : Hid (LentE w5 (.slice (some ⟨gl, 0, none⟩) ts.length capl) ts) := ⟨gl, capl, rfl, hcl, hml, hEC⟩
        clear hEC
        have cA := keep_p HG (.pointer (some ⟨l1, 0, none⟩)) ok HO _ ts w5 (HG _ _ (HG _ _ G3 b4) b5) (ents_of_owns ol) (by omega) hzt
        go_upto_region 14 with (go_at_call 12; with_reducible refine cA.mono ?_; rintro e w6 ⟨va, rfl, oa, b6⟩)
        clear cA
        have b46 := below_join b5 b6
        have cB := keep_p HG (.pointer (some ⟨l1, 0, none⟩)) ok HO _ ts w6 (HG _ _ (HG _ _ G3 b4) b46) ((ents_of_owns ol).below b6) (by omega) hzt
        go_upto_region 15 with (go_at_call 12; with_reducible refine cB.mono ?_; rintro e w7 ⟨vb, rfl, ob, b7⟩)
        clear cB
        have b47 := below_join b46 b7
        have cLu := lentE_p xs u2 w7 ((HVX.out.below b4).below b47) (by omega)
        go_upto_region 16 with (first
          | (go_at_call 11; (with_reducible refine cLu.mono ?_); (rintro e w8 ⟨vlu, rfl, hleu, olu, b8⟩); (have b48 := below_join b47 b8); (have cC := keep_p HG (.pointer (some ⟨l1, 0, none⟩)) ok HO vlu xs w8 (HG _ _ (HG _ _ G3 b4) b48) (ents_of_owns olu) (by omega) hzx))
          | (go_at_call 12; with_reducible refine cC.mono ?_; rintro e w9 ⟨vc, rfl, oc, b9⟩))
        clear cLu cC olu hleu
        have b49 := below_join b48 b9
        have b79 := below_join b8 b9
        have cD := keep_p HG (.pointer (some ⟨l1, 0, none⟩)) ok HO _ ts w9 (HG _ _ (HG _ _ G3 b4) b49) (((ents_of_owns ol).below b6).below (below_join b7 b79)) (by omega) hzt
        go_upto_region 17 with (go_at_call 12; with_reducible refine cD.mono ?_; rintro e w10 ⟨vd, rfl, od, b10⟩)
        clear cD
        have C9 := b10
        have C8 := below_join b9 C9
        have C7 := below_join b8 C8
        have C6 := below_join b7 C7
        have C5 := below_join b6 C6
        have C4 := below_join b5 C5
        have C3 := below_join b4 C4
        have OW : Hid (Own w10 w3.heap.size vw (keepB ok ts)) := Own.below ow C4
        have OA : Hid (Own w10 w5.heap.size va (keepB ok ts)) := Own.below oa C6
        have OB : Hid (Own w10 w6.heap.size vb (keepB ok ts)) := Own.below ob C7
        have OC : Hid (Own w10 w8.heap.size vc (keepB ok xs)) := Own.below oc C9
        have OD : Hid (Own w10 w9.heap.size vd (keepB ok ts)) := od
        have OL : Hid (Own w10 w4.heap.size (.slice (some ⟨gl, 0, none⟩) ts.length capl) ts) := Own.below ol C5
        have RW : Hid (Lo vw w3.heap.size w4.heap.size) := Own.lo ow
        have RA : Hid (Lo va w5.heap.size w6.heap.size) := Own.lo oa
        have RB : Hid (Lo vb w6.heap.size w7.heap.size) := Own.lo ob
        have RC : Hid (Lo vc w8.heap.size w9.heap.size) := Own.lo oc
        have RD : Hid (Lo vd w9.heap.size w10.heap.size) := Own.lo od
        have RL := Own.lo ol gl rfl
        have HL10 : Hid (LentE w10 (.slice (some ⟨gl, 0, none⟩) ts.length capl) ts) := HLE.out.below C5
        have HT10 : Hid (EntsAt w10 u1 ts) := HVT.out.below C3
        have HX10 : Hid (EntsAt w10 u2 xs) := HVX.out.below C3
        have G10 := HG _ _ G3 C3
        have B10 := below_join B3 C3
        have z3 := b4.size
        have z4 := b5.size
        have z5 := b6.size
        have z6 := b7.size
        have z7 := b8.size
        have z8 := b9.size
        have z9 := b10.size
        have zw := B3.size
        obtain ⟨aw, cw, rfl⟩ := own_sh ow
        obtain ⟨aa, ca, rfl⟩ := own_sh oa
        obtain ⟨ab, cb, rfl⟩ := own_sh ob
        obtain ⟨ac, cc, rfl⟩ := own_sh oc
        obtain ⟨ad, cd, rfl⟩ := own_sh od
        have HB34 : Hid (Below w3.heap.size w3 w10) := C3
        clear ow oa ob oc od ol b4 b5 b6 b7 b8 b9 b10 b46 b47 b48 b49 b79 C3 C4 C5 C6 C7 C8 C9 HLE HVT HVX
        have S1 := same_p _ _ (keepB ok ts) w10 OA.out.ents OW.out.ents (by omega)
        go_upto_region 19 with (first
          | (go_at_call 13; with_reducible refine S1.mono ?_; rintro e w11 ⟨rfl, b11⟩; have S2 := same_p _ _ (keepB ok ts) w11 (OB.out.ents.below b11) (OW.out.ents.below b11) (by omega))
          | (go_at_call 13; with_reducible refine S2.mono ?_; rintro e w12 ⟨rfl, b12⟩; have S3 := same_p _ _ (keepB ok ts) w12 (OD.out.ents.below (below_join b11 b12)) (OW.out.ents.below (below_join b11 b12)) (by omega))
          | (go_at_call 13; with_reducible refine S3.mono ?_; rintro e w13 ⟨rfl, b13⟩; have S4 := keptE_p ts _ u1 w13 (HL10.out.below (below_join (below_join b11 b12) b13)) (HT10.out.below (below_join (below_join b11 b12) b13)) (by omega))
          | (go_at_call 14; with_reducible refine S4.mono ?_; rintro e w14 ⟨rfl, b14⟩))
        have c14 := below_join (below_join (below_join b11 b12) b13) b14
        clear S1 S2 S3 S4 b11 b12 b13 b14
        have cO := keep_r HG rv ok HR u2 xs w14 (HG _ _ G10 c14) (HX10.out.below c14) (by omega) hzx
        go_upto_region 20 with (go_at_call 10; with_reducible refine cO.mono ?_; rintro e w15 ⟨vo, rfl, oo, b15⟩)
        clear cO
        have c15 := below_join c14 b15
        have S5 := same_p _ vo (keepB ok xs) w15 (OC.out.ents.below c15) (ents_of_owns oo) (by omega)
        go_upto_region 22 with (go_at_call 13; with_reducible refine S5.mono ?_; rintro e w16 ⟨rfl, b16⟩)
        have c16 := below_join c15 b16
        have z16 := c16.size
        clear S5 oo b15 b16 c14 c15
        have HC16 : Hid (Below w10.heap.size w10 w16) := c16
        have B16 := below_join B10 c16
        have G16 := HG _ _ G10 c16
        have HB316 : Hid (Below w3.heap.size w3 w16) := HB34.out.trans (c16.mono (by omega))
        clear c16 B10 G10 HB34 HL10 HT10 HX10
        go_wp2
        go_loopw [19] (fun i wr => ∃ k : Nat, i = .int .i64 k ∧ k ≤ ts.length ∧ OvSt w16 wr w4.heap.size gl capl ts k) (fun i _ => ts.length - (intOf i).toNat)
        case atStart => exact ⟨0, rfl, Nat.zero_le _, ⟨Own.below OL.out HC16.out, fun _ _ => rfl, Below.refl _ _, rfl⟩⟩
        case round =>
          obtain ⟨k, rfl, hk, hS⟩ := hrel
          by_cases hkt2 : k < ts.length
          · have hlt' : (k : Int) < (ts.length : Int) := by omega
            have hk0 : (0 : Int) ≤ (k : Int) := by omega
            obtain ⟨y0, y1, y2, y3, y4, ⟨p0, q0⟩, ⟨p1, q1⟩, ⟨p2, q2⟩, ⟨p3, q3⟩, ⟨p4, q4⟩⟩ := hS.cells hkt2
            have HS2 : Hid _ := hS.step hkt2
            clear hS
            go_wp2
            go_roundw
            case rel => exact ⟨k + 1, by go_num, by omega, HS2.out⟩
            case measure => simp [intOf]; omega
          · have hge : ¬ (k : Int) < (ts.length : Int) := by omega
            have hke : k = ts.length := by omega
            rw [hke] at hS
            clear hke
            have hlen : (List.replicate ts.length overE).length = ts.length := List.length_replicate
            have HOV : Hid (overL ts ts.length = List.replicate ts.length overE) := by unfold Hid overL; rw [List.drop_length, List.append_nil]
            have hzo : ∀ e ∈ List.replicate ts.length overE, e.path.size ≤ 1048576 := fun e he => by rw [List.eq_of_mem_replicate he]; decide
            have OL17 : Own wr w4.heap.size (.slice (some ⟨gl, 0, none⟩) ts.length capl) (List.replicate ts.length overE) := by
              have h9 := hS.own
              rw [HOV.out] at h9
              unfold Own; rw [hlen]; exact h9
            have OW17 := hS.keep (OW.out.below HC16.out) RW.out (by omega)
            have OA17 := hS.keep (OA.out.below HC16.out) RA.out (by omega)
            have OB17 := hS.keep (OB.out.below HC16.out) RB.out (by omega)
            have OC17 := hS.keep (OC.out.below HC16.out) RC.out (by omega)
            have OD17 := hS.keep (OD.out.below HC16.out) RD.out (by omega)
            have B17 : Below w.heap.size w wr := B16.trans (hS.bel.mono (by omega))
            have G17 : G wr := HG w3 wr G3 (HB316.out.trans (hS.bel.mono (by omega)))
            have s17 := hS.size
            clear hS OW OA OB OC OD OL HC16 HOV G16 B16 G3 HB316
            have hle3 : (List.replicate ts.length overE).length ≤ 300 := by omega
            clear hlen
            generalize List.replicate ts.length overE = ov at *
            have hko := keep_lenK ok ov
            have cP := copy_p _ ov wr OL17.ents (by omega)
            go_upto_region 27 with (go_at_call 15; with_reducible refine cP.mono ?_; rintro e w18 ⟨vq, rfl, oq, b18⟩)
            clear cP
            have cF := keep_p HG (.pointer (some ⟨l1, 0, none⟩)) ok HO _ ov w18 (HG _ _ G17 b18) (OL17.ents.below b18) (by omega) hzo
            go_upto_region 28 with (go_at_call 12; with_reducible refine cF.mono ?_; rintro e w19 ⟨vf, rfl, of_, b19⟩)
            clear cF
            have c19 := below_join b18 b19
            have cG := keep_r HG rv ok HR vq ov w19 (HG _ _ G17 c19) ((ents_of_owns oq).below b19) (by omega) hzo
            go_upto_region 29 with (go_at_call 10; with_reducible refine cG.mono ?_; rintro e w20 ⟨vg, rfl, og, b20⟩)
            clear cG
            have c20 := below_join c19 b20
            have T1 := same_p vf vg (keepB ok ov) w20 ((ents_of_owns of_).below b20) (ents_of_owns og) (by omega)
            go_upto_region 31 with (first
              | (go_at_call 13; with_reducible refine T1.mono ?_; rintro e w21 ⟨rfl, b21⟩; have T2 := same_p _ _ (keepB ok ts) w21 ((OA17.ents.below c20).below b21) ((OW17.ents.below c20).below b21) (by omega))
              | (go_at_call 13; with_reducible refine T2.mono ?_; rintro e w22 ⟨rfl, b22⟩; have T3 := same_p _ _ (keepB ok ts) w22 (((OB17.ents.below c20).below b21).below b22) (((OW17.ents.below c20).below b21).below b22) (by omega))
              | (go_at_call 13; with_reducible refine T3.mono ?_; rintro e w23 ⟨rfl, b23⟩))
            have d22 := b23
            have d21 := below_join b22 d22
            have d20 := below_join b21 d21
            have d19 := below_join b20 d20
            have d18 := below_join b19 d19
            have d17 := below_join b18 d18
            have PA := OA17.below d17
            have PB := OB17.below d17
            have PC := OC17.below d17
            have PD := OD17.below d17
            have PL := OL17.below d17
            have PF : Own w23 w18.heap.size vf (keepB ok ov) := Own.below of_ d19
            have PQ : Own w23 wr.heap.size vq ov := Own.below oq d18
            have RF : Lo vf w18.heap.size w19.heap.size := Own.lo of_
            have RQ : Lo vq wr.heap.size w18.heap.size := Own.lo oq
            have y17 := b18.size
            have y18 := b19.size
            have y19 := d19.size
            have B23 := below_join B17 d17
            have y23 := B23.size
            obtain ⟨af, cf, rfl⟩ := own_sh of_
            obtain ⟨aq, cq, rfl⟩ := own_sh oq
            clear T1 T2 T3 b18 b19 b20 b21 b22 b23 c19 c20 d17 d18 d19 d20 d21 d22 OA17 OB17 OC17 OD17 OL17 OW17 of_ oq og
            have hH := handed_five (g := w23.heap.size) RA.out (RB.out.mono (Nat.le_refl _) z7) RC.out (RD.out.mono (Nat.le_refl _) (show w10.heap.size ≤ w18.heap.size by omega)) RF (by omega) (by omega) (by omega) (by omega) (by omega)
            have AP : Calls Tryz.prog 16 #[.slice (some ⟨w23.heap.size, 0, none⟩) 5 5] (w23.alloc (.cells #[.slice aa (keepB ok ts).length ca, .slice ab (keepB ok ts).length cb, .slice ac (keepB ok xs).length cc, .slice ad (keepB ok ts).length cd, .slice af (keepB ok ov).length cf] 22)) fun e w' => e = .returned (.bool true) ∧ OthE [.slice aa (keepB ok ts).length ca, .slice ab (keepB ok ts).length cb, .slice ac (keepB ok xs).length cc, .slice ad (keepB ok ts).length cd, .slice af (keepB ok ov).length cf] (w23.alloc (.cells #[.slice aa (keepB ok ts).length ca, .slice ab (keepB ok ts).length cb, .slice ac (keepB ok xs).length cc, .slice ad (keepB ok ts).length cd, .slice af (keepB ok ov).length cf] 22)) w' ∧ Below w.heap.size (w23.alloc (.cells #[.slice aa (keepB ok ts).length ca, .slice ab (keepB ok ts).length cb, .slice ac (keepB ok xs).length cc, .slice ad (keepB ok ts).length cd, .slice af (keepB ok ov).length cf] 22)) w' :=
              apartE_p w.heap.size w23.heap.size 5 [.slice aa (keepB ok ts).length ca, .slice ab (keepB ok ts).length cb, .slice ac (keepB ok xs).length cc, .slice ad (keepB ok ts).length cd, .slice af (keepB ok ov).length cf] [keepB ok ts, keepB ok ts, keepB ok xs, keepB ok ts, keepB ok ov] _ rfl (by simp) (by simp; omega) (Lies.new w23 _ _) hH
                (RwsG.start (five_start (own_baseG (PA.alloc _) (by omega)) (own_baseG (PB.alloc _) (by omega)) (own_baseG (PC.alloc _) (by omega)) (own_baseG (PD.alloc _) (by omega)) (own_baseG (PF.alloc _) (by omega))))
                (fun q hq => by
                  simp only [List.mem_cons, List.not_mem_nil, or_false] at hq
                  rcases hq with rfl | rfl | rfl | rfl | rfl <;> omega)
            have HPL : Hid (∀ W, OthE [.slice aa (keepB ok ts).length ca, .slice ab (keepB ok ts).length cb, .slice ac (keepB ok xs).length cc, .slice ad (keepB ok ts).length cd, .slice af (keepB ok ov).length cf] (w23.alloc (.cells #[.slice aa (keepB ok ts).length ca, .slice ab (keepB ok ts).length cb, .slice ac (keepB ok xs).length cc, .slice ad (keepB ok ts).length cd, .slice af (keepB ok ov).length cf] 22)) W → Own W w4.heap.size (.slice (some ⟨gl, 0, none⟩) ts.length capl) ov ∧ Own W wr.heap.size (.slice aq ov.length cq) ov) := fun W hW =>
              ⟨own_eq (PL.alloc _) (fun b hb => hW b (by have e : gl = b := Option.some.inj hb; simp; omega) (five_not (fun e => by have := RA.out b e; have e2 : gl = b := Option.some.inj hb; omega) (fun e => by have := RB.out b e; have e2 : gl = b := Option.some.inj hb; omega) (fun e => by have := RC.out b e; have e2 : gl = b := Option.some.inj hb; omega) (fun e => by have := RD.out b e; have e2 : gl = b := Option.some.inj hb; omega) (fun e => by have := RF b e; have e2 : gl = b := Option.some.inj hb; omega))),
               own_eq (PQ.alloc _) (fun b hb => hW b (by have := RQ b hb; simp; omega) (five_not (fun e => by have := RA.out b e; have := RQ b hb; omega) (fun e => by have := RB.out b e; have := RQ b hb; omega) (fun e => by have := RC.out b e; have := RQ b hb; omega) (fun e => by have := RD.out b e; have := RQ b hb; omega) (fun e => by have := RF b e; have := RQ b hb; omega)))⟩
            have B24 : Below w.heap.size w (w23.alloc (.cells #[.slice aa (keepB ok ts).length ca, .slice ab (keepB ok ts).length cb, .slice ac (keepB ok xs).length cc, .slice ad (keepB ok ts).length cd, .slice af (keepB ok ov).length cf] 22)) := B23.alloc y23 _
            clear hH PA PB PC PD PL PF PQ
            go_wp2_with (first
              | (go_at_call 16; with_reducible refine AP.mono ?_; rintro e w25 ⟨rfl, ot, b25⟩; have T4 := same_p _ _ ov w25 (HPL.out w25 ot).1.ents (HPL.out w25 ot).2.ents (by omega))
              | (go_at_call 13; with_reducible refine T4.mono ?_; rintro e w26 ⟨rfl, b26⟩))
            go_ret
            exact ⟨rfl, below_join (B24.trans b25) b26⟩
  · have hnx : (n != 0) = true := by simp [hn]
    obtain rfl := P2.2 hn
    clear hn D2 P2
    go_wp2_with (first
      | (go_at_call 8; with_reducible refine (NU _).mono ?_; rintro e w3 ⟨rfl, b3⟩)
      | (go_at_call 9; refine (works2_p w3 (hg.below (below_join B2 b3))).mono ?_; rintro e w4 ⟨rfl, b4⟩))
    go_ret
    exact ⟨rfl, below_join (below_join B2 b3) b4⟩
end Go.Proofs.YthkbhcefckbcnaaGreatDoor
