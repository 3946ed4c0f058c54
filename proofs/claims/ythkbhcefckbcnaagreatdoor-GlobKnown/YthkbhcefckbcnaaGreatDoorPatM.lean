/- What a pattern says, in plain functions on bytes: its parts, its sets, its pieces. Nothing of a program. -/
import Derived.Test.YthkbhcefckbcnaaGreatDoorTakeM
import Derived.Test.YthkbhcefckbcnaaGreatDoorPieces
namespace Go.Proofs.YthkbhcefckbcnaaGreatDoor

abbrev BSet := UInt8 → Bool
/-- A taker: of any things, or of one that is in a set. -/
abbrev Taker (β : Type) := Option (β → Bool)
def isMany {β : Type} (ts : List (Taker β)) (i : Nat) : Bool := match ts[i]? with | some none => true | _ => false
def isTaken {β : Type} (ts : List (Taker β)) (xs : List β) (i k : Nat) : Bool := match ts[i]?, xs[k]? with | some (some f), some x => f x | _, _ => false
/-- Do takers take things, all of them? -/
def takeI {β : Type} (ts : List (Taker β)) (xs : List β) : Bool := takenB (isMany ts) (isTaken ts xs) ts.length xs.length
/-- The same, from the front on. -/
def takeL {β : Type} : List (Taker β) → List β → Bool
  | [], xs => xs.isEmpty
  | none :: ts, xs => (List.range (xs.length + 1)).any (fun i => takeL ts (xs.drop i))
  | some _ :: _, [] => false
  | some f :: ts, x :: xs => f x && takeL ts xs
theorem takeL_many {β : Type} (ts : List (Taker β)) (xs : List β) : takeL (none :: ts) xs = true ↔ ∃ i, i ≤ xs.length ∧ takeL ts (xs.drop i) = true := by
  simp [takeL, Nat.lt_succ_iff]
theorem rest_takeL {β : Type} (ts : List (Taker β)) (xs : List β) : ∀ (r k j : Nat), ts.length - k = r → k ≤ ts.length → j ≤ xs.length →
    (Rest (isMany ts) (isTaken ts xs) ts.length xs.length k j ↔ takeL (ts.drop k) (xs.drop j) = true)
  | 0, k, j, hr, hk, hj => by
    obtain rfl : k = ts.length := by omega
    rw [rest_end, List.drop_length]
    simp only [takeL, List.isEmpty_iff, List.drop_eq_nil_iff]; omega
  | r + 1, k, j, hr, hk, hj => by
    have hlt : k < ts.length := by omega
    rw [List.drop_eq_getElem_cons hlt]
    cases ht : ts[k] with
    | none =>
      have hm : isMany ts k = true := by simp [isMany, List.getElem?_eq_getElem hlt, ht]
      rw [rest_many hlt hm, takeL_many]
      constructor
      · rintro ⟨i, h1, h2, h3⟩
        refine ⟨i - j, by simp; omega, ?_⟩
        rw [List.drop_drop, show j + (i - j) = i by omega]
        exact (rest_takeL ts xs r (k + 1) i (by omega) (by omega) h2).1 h3
      · rintro ⟨i, h1, h2⟩
        simp at h1
        rw [List.drop_drop] at h2
        exact ⟨j + i, by omega, by omega, (rest_takeL ts xs r (k + 1) (j + i) (by omega) (by omega) (by omega)).2 h2⟩
    | some f =>
      have hm : isMany ts k = false := by simp [isMany, List.getElem?_eq_getElem hlt, ht]
      rw [rest_one hlt hm]
      by_cases hj2 : j < xs.length
      · rw [List.drop_eq_getElem_cons hj2]
        simp only [takeL, Bool.and_eq_true]
        rw [rest_takeL ts xs r (k + 1) (j + 1) (by omega) (by omega) (by omega)]
        simp [isTaken, List.getElem?_eq_getElem hlt, ht, hj2]
      · obtain rfl : j = xs.length := by omega
        simp [takeL]
theorem takeI_eq {β : Type} (ts : List (Taker β)) (xs : List β) : takeI ts xs = takeL ts xs := by
  have h := takenB_rest (isMany ts) (isTaken ts xs) ts.length xs.length
  rw [rest_takeL ts xs _ 0 0 rfl (Nat.zero_le _) (Nat.zero_le _)] at h
  simp only [List.drop_zero] at h
  unfold takeI
  cases h1 : takeL ts xs
  · cases h2 : takenB (isMany ts) (isTaken ts xs) ts.length xs.length
    · rfl
    · rw [h1, h2] at h; simp at h
  · rw [h1] at h; exact h.2 rfl

def rByte : List UInt8 → Option (UInt8 × List UInt8)
  | [] => none
  | c :: l => if c == 92 then (match l with | [] => none | d :: r => some (d, r)) else some (c, l)
/-- Does a - stand here, and behind it a byte that is no ]? -/
def isSpan : List UInt8 → Bool
  | a :: b :: _ => a == 45 && b != 93
  | _ => false
def rRange (l : List UInt8) : Option (UInt8 × UInt8 × List UInt8) :=
  match rByte l with
  | none => none
  | some (lo, r) => if isSpan r then (match rByte (r.drop 1) with | none => none | some (hi, r2) => if hi < lo then none else some (lo, hi, r2)) else some (lo, lo, r)
def addS (s : BSet) (lo hi : UInt8) : BSet := fun b => s b || (decide (lo ≤ b) && decide (b ≤ hi))
def setGo : Nat → Bool → BSet → List UInt8 → Option (BSet × List UInt8)
  | _, _, _, [] => none
  | 0, _, _, _ :: _ => none
  | f + 1, first, acc, c :: l => if c == 93 && !first then some (acc, l) else match rRange (c :: l) with | none => none | some (lo, hi, r) => setGo f false (addS acc lo hi) r
def isTurned : List UInt8 → Bool
  | c :: _ => c == 33 || c == 94
  | [] => false
def rSet (l : List UInt8) : Option (BSet × List UInt8) :=
  if isTurned l then (match setGo l.length true (fun _ => false) (l.drop 1) with | none => none | some (s, r) => some (fun b => !s b, r))
  else setGo l.length true (fun _ => false) l
def rPart : List UInt8 → Option (Taker UInt8 × List UInt8)
  | [] => none
  | c :: r => if c == 42 then some (none, r) else if c == 63 then some (some fun _ => true, r)
    else if c == 91 then (match rSet r with | none => none | some (s, r2) => some (some s, r2))
    else match rByte (c :: r) with | none => none | some (b, r2) => some (some fun x => x == b, r2)
def partsGo : Nat → List UInt8 → Option (List (Taker UInt8))
  | _, [] => some []
  | 0, _ :: _ => none
  | f + 1, c :: l => match rPart (c :: l) with | none => none | some (p, r) => (partsGo f r).map (p :: ·)
def partsOf (l : List UInt8) : Option (List (Taker UInt8)) := partsGo l.length l

theorem rByte_lt {l r : List UInt8} {b : UInt8} (h : rByte l = some (b, r)) : r.length < l.length := by
  cases l with
  | nil => simp [rByte] at h
  | cons c l =>
    simp only [rByte] at h
    split at h
    · cases l with
      | nil => simp at h
      | cons d l => simp at h; obtain ⟨_, rfl⟩ := h; simp; omega
    · simp at h; obtain ⟨_, rfl⟩ := h; simp
theorem rRange_lt {l r : List UInt8} {lo hi : UInt8} (h : rRange l = some (lo, hi, r)) : r.length < l.length := by
  unfold rRange at h
  cases hb : rByte l with
  | none => simp [hb] at h
  | some x =>
    obtain ⟨a, r1⟩ := x
    have h1 := rByte_lt hb
    simp only [hb] at h
    split at h
    · cases hc : rByte (r1.drop 1) with
      | none => simp only [hc] at h; cases h
      | some y =>
        obtain ⟨d, r2⟩ := y
        have h2 := rByte_lt hc
        simp only [hc] at h
        split at h
        · simp at h
        · simp at h; obtain ⟨_, _, rfl⟩ := h; simp at h2; omega
    · simp at h; obtain ⟨_, _, rfl⟩ := h; exact h1
theorem setGo_nil (f : Nat) (b : Bool) (s : BSet) : setGo f b s [] = none := by cases f <;> rfl
theorem setGo_lt : ∀ {f : Nat} {first : Bool} {acc s : BSet} {l r : List UInt8}, setGo f first acc l = some (s, r) → r.length < l.length
  | 0, _, _, _, [], _, h => by simp [setGo] at h
  | 0, _, _, _, _ :: _, _, h => by simp [setGo] at h
  | f + 1, _, _, _, [], _, h => by simp [setGo] at h
  | f + 1, first, acc, s, c :: l, r, h => by
    simp only [setGo] at h
    split at h
    · simp at h; obtain ⟨_, rfl⟩ := h; simp
    · cases hr : rRange (c :: l) with
      | none => simp [hr] at h
      | some y =>
        obtain ⟨lo, hi, r1⟩ := y
        simp only [hr] at h
        have h1 := rRange_lt hr
        have h2 := setGo_lt h
        omega
/-- More steps than bytes change nothing. -/
theorem setGo_fuel : ∀ {f g : Nat} {first : Bool} {acc : BSet} {l : List UInt8}, l.length ≤ f → l.length ≤ g → setGo f first acc l = setGo g first acc l
  | f, g, _, _, [], _, _ => by rw [setGo_nil, setGo_nil]
  | 0, _, _, _, _ :: _, h, _ => by simp at h
  | _, 0, _, _, _ :: _, _, h => by simp at h
  | f + 1, g + 1, first, acc, c :: l, hf, hg => by
    simp only [setGo]
    split
    · rfl
    · cases hr : rRange (c :: l) with
      | none => rfl
      | some y =>
        obtain ⟨lo, hi, r1⟩ := y
        have h1 := rRange_lt hr
        simp only [List.length_cons] at hf hg h1
        exact setGo_fuel (by omega) (by omega)
def setRest (first : Bool) (acc : BSet) (l : List UInt8) : Option (BSet × List UInt8) := setGo l.length first acc l
theorem setRest_nil (first : Bool) (acc : BSet) : setRest first acc [] = none := rfl
theorem setRest_end {first : Bool} (acc : BSet) {c : UInt8} {l : List UInt8} (h : (c == 93 && !first) = true) : setRest first acc (c :: l) = some (acc, l) := by
  simp only [setRest, List.length_cons, setGo, h, if_true]
theorem setRest_wrong {first : Bool} (acc : BSet) {c : UInt8} {l : List UInt8} (h : (c == 93 && !first) = false) (hr : rRange (c :: l) = none) : setRest first acc (c :: l) = none := by
  simp only [setRest, List.length_cons, setGo, h, hr]; rfl
theorem setRest_on {first : Bool} (acc : BSet) {c : UInt8} {l r : List UInt8} {lo hi : UInt8} (h : (c == 93 && !first) = false) (hr : rRange (c :: l) = some (lo, hi, r)) : setRest first acc (c :: l) = setRest false (addS acc lo hi) r := by
  have h1 := rRange_lt hr
  simp only [setRest, List.length_cons, setGo, h, hr]
  simp only [List.length_cons] at h1
  exact setGo_fuel (by omega) (Nat.le_refl _)
theorem rSet_eq (l : List UInt8) : rSet l = if isTurned l then (match setRest true (fun _ => false) (l.drop 1) with | none => none | some (s, r) => some (fun b => !s b, r)) else setRest true (fun _ => false) l := by
  unfold rSet setRest
  rw [setGo_fuel (f := l.length) (g := (l.drop 1).length) (by simp) (Nat.le_refl _)]
theorem rSet_lt {l r : List UInt8} {s : BSet} (h : rSet l = some (s, r)) : r.length < l.length := by
  unfold rSet at h
  split at h
  · cases hs : setGo l.length true (fun _ => false) (l.drop 1) with
    | none => simp only [hs] at h; cases h
    | some y =>
      obtain ⟨s1, r1⟩ := y
      have h1 := setGo_lt hs
      simp only [hs, Option.some.injEq, Prod.mk.injEq] at h; obtain ⟨_, rfl⟩ := h; simp at h1; omega
  · exact setGo_lt h
theorem rPart_lt {l r : List UInt8} {p : Taker UInt8} (h : rPart l = some (p, r)) : r.length < l.length := by
  cases l with
  | nil => simp [rPart] at h
  | cons c l =>
    simp only [rPart] at h
    split at h
    · simp at h; obtain ⟨_, rfl⟩ := h; simp
    · split at h
      · simp at h; obtain ⟨_, rfl⟩ := h; simp
      · split at h
        · cases hs : rSet l with
          | none => simp [hs] at h
          | some y => obtain ⟨s1, r1⟩ := y; have h1 := rSet_lt hs; simp [hs] at h; obtain ⟨_, rfl⟩ := h; simp; omega
        · cases hs : rByte (c :: l) with
          | none => simp [hs] at h
          | some y => obtain ⟨s1, r1⟩ := y; have h1 := rByte_lt hs; simp [hs] at h; obtain ⟨_, rfl⟩ := h; exact h1
theorem partsGo_nil (f : Nat) : partsGo f [] = some [] := by cases f <;> rfl
theorem partsGo_fuel : ∀ {f g : Nat} {l : List UInt8}, l.length ≤ f → l.length ≤ g → partsGo f l = partsGo g l
  | f, g, [], _, _ => by rw [partsGo_nil, partsGo_nil]
  | 0, _, _ :: _, h, _ => by simp at h
  | _, 0, _ :: _, _, h => by simp at h
  | f + 1, g + 1, c :: l, hf, hg => by
    simp only [partsGo]
    cases hr : rPart (c :: l) with
    | none => rfl
    | some y =>
      obtain ⟨p, r1⟩ := y
      have h1 := rPart_lt hr
      simp only [List.length_cons] at hf hg h1
      simp only []
      rw [partsGo_fuel (f := f) (g := g) (by omega) (by omega)]
theorem partsOf_nil : partsOf [] = some [] := rfl
theorem partsOf_wrong {l : List UInt8} (hl : l ≠ []) (h : rPart l = none) : partsOf l = none := by
  cases l with
  | nil => exact (hl rfl).elim
  | cons c l => simp only [partsOf, List.length_cons, partsGo, h]
theorem partsOf_on {l r : List UInt8} {p : Taker UInt8} (h : rPart l = some (p, r)) : partsOf l = (partsOf r).map (p :: ·) := by
  have h1 := rPart_lt h
  cases l with
  | nil => simp [rPart] at h
  | cons c l =>
    simp only [List.length_cons] at h1
    simp only [partsOf, List.length_cons, partsGo, h]
    rw [partsGo_fuel (f := l.length) (g := r.length) (by omega) (Nat.le_refl _)]

/-- A piece of a pattern: many names, or one that its parts take. -/
abbrev Pc := Option (List (Taker UInt8))
def isStars (x : ByteArray) : Bool := x.toList == [42, 42]
def pieceOf (x : ByteArray) : Option Pc := if isStars x then some none else (partsOf (un x)).map some
def pcTaker : Pc → Taker ByteArray
  | none => none
  | some ps => some fun x => takeI ps (un x)
def allOf : List ByteArray → Option (List Pc)
  | [] => some []
  | x :: xs => match pieceOf x with | none => none | some p => (allOf xs).map (p :: ·)
/-- A pattern's pieces; none: it is wrong. -/
def patOf (s : ByteArray) : Option (List Pc) := if s.size ≤ 1020 ∧ namesB s ≠ [] then allOf (namesB s) else none
def takeP (ps : List Pc) (xs : List ByteArray) : Bool := takeI (ps.map pcTaker) xs
def matchB (pat p : ByteArray) : Bool := match patOf pat with | none => false | some ps => takeP ps (namesB p)
def metaB (s : ByteArray) : Bool := (un s).any fun b => b == 42 || b == 63 || b == 91
end Go.Proofs.YthkbhcefckbcnaaGreatDoor
