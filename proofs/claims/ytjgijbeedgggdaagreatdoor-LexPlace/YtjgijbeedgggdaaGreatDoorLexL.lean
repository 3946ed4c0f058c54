/- The lines of a build file with their documents, purely: as the document has them. -/
import Derived.Test.YtjgijbeedgggdaaGreatDoorLexC
namespace Go.Proofs.YtjgijbeedgggdaaGreatDoor
open Go

def lowB (b : UInt8) : UInt8 := if 65 ≤ b ∧ b ≤ 90 then b + 32 else b
/-- Does a word stand at i, capital or small letters alike? -/
def saysL (x : Ln) (i : Nat) (w : Ln) : Bool := decide (i + w.length ≤ x.length) && ((x.drop i).take w.length).map lowB == w
def pastL (x : Ln) (i : Nat) : Nat := i + ((x.drop i).takeWhile isBl).length
def escW : Ln := [101, 115, 99, 97, 112, 101]
def copyW : Ln := [99, 111, 112, 121]
/-- Where a directive's = is. -/
def dirAt (x : Ln) : Option Nat :=
  if x[hd x]? = some 35 ∧ saysL x (pastL x (hd x + 1)) escW = true ∧ x[pastL x (pastL x (hd x + 1) + 6)]? = some 61 then some (pastL x (pastL x (hd x + 1) + 6)) else none
def trimL (x : Ln) : Ln := (x.take (en x)).drop (hd x)
abbrev Flt := Nat × Nat × Nat
/-- How many directives there are, and the escape; or the error, its line, its byte. -/
def dirsL : List Ln → Except Flt (Nat × UInt8)
  | [] => .ok (0, 92)
  | x :: r => match dirAt x with
    | none => .ok (0, 92)
    | some a =>
      if trimL (x.drop (a + 1)) = [92] ∨ trimL (x.drop (a + 1)) = [96] then
        match r with
        | [] => .ok (1, (trimL (x.drop (a + 1))).headD 92)
        | y :: _ => if (dirAt y).isSome = true then .error (11, 2, hd y + 1) else .ok (1, (trimL (x.drop (a + 1))).headD 92)
      else .error (4, 1, a + 1)
def copiesL (x : Ln) : Bool := saysL x (hd x) copyW && (match x[hd x + 4]? with
  | some b => isBl b
  | none => false)
def nameL (x : Ln) : Bool := decide (1 ≤ x.length) && decide (x.length ≤ 96) && x.all fun b => (decide (97 ≤ lowB b) && decide (lowB b ≤ 122)) || (decide (48 ≤ lowB b) && decide (lowB b ≤ 57)) || lowB b == 95
/-- What a word that begins with << says: name, quoted, tabs left out. -/
def openL (raw : Ln) : Ln × Bool × Bool :=
  let s := raw.drop 2
  let tabs := s[0]? == some 45
  let s := if tabs = true then s.drop 1 else s
  let q := decide (2 ≤ s.length) && (s[0]? == some 34 || s[0]? == some 39) && s[s.length - 1]? == s[0]?
  (if q = true then (s.take (s.length - 1)).drop 1 else s, q, tabs)
def bareL (tabs : Bool) (x : Ln) : Ln := if tabs = true then x.dropWhile (· == 9) else x
/-- A document's text, and the line behind its end. -/
def bodyG (name : Ln) (tabs : Bool) : List Ln → Nat → Option (Ln × Nat)
  | [], _ => none
  | x :: r, i => if bareL tabs x = name then some ([], i + 1) else (bodyG name tabs r (i + 1)).map fun p => (bareL tabs x ++ 10 :: p.1, p.2)
structure Dc where
  name : Ln
  raw : Bool
  line : Nat
  text : Ln
structure LL where
  line : Nat
  text : Ln
  marks : List Mk
  docs : List Dc
def placeG : List Mk → Nat → Nat × Nat → Nat × Nat
  | [], _, p => p
  | q :: r, k, p => placeG r k (if q.pos ≤ k then (q.line, q.col + (k - q.pos)) else p)
/-- The place of a byte of an l-line. -/
def placeL (line : Nat) (text : Ln) (marks : List Mk) (k : Nat) : Nat × Nat := placeG marks (min k text.length) (line, min k text.length + 1)
def docsG (f : List Ln) (line : Nat) (text : Ln) (marks : List Mk) : List (Nat × Nat) → Nat → Except Flt (List Dc × Nat)
  | [], i => .ok ([], i)
  | w :: r, i =>
    let raw := (text.take w.2).drop w.1
    if raw.take 2 = [60, 60] then
      let o := openL raw
      if nameL o.1 = true then
        match bodyG o.1 o.2.2 (f.drop i) i with
        | none => .error (26, placeL line text marks w.1)
        | some (t, j) => match docsG f line text marks r j with
          | .error x => .error x
          | .ok (ds, k) => .ok (⟨o.1, o.2.1, i + 1, t⟩ :: ds, k)
      else .error (26, placeL line text marks w.1)
    else docsG f line text marks r i
def docsL (e : UInt8) (f : List Ln) (line : Nat) (text : Ln) (marks : List Mk) (i : Nat) : Except Flt (List Dc × Nat) :=
  if copiesL text = true then
    match splitR e text with
    | .error q => .error (18, placeL line text marks q)
    | .ok ws => docsG f line text marks (ws.drop 1) i
  else .ok ([], i)
/-- The l-lines from the i-th line of the file on. -/
def linesG (e : UInt8) (f : List Ln) : Nat → Nat → Except Flt (List LL)
  | 0, _ => .ok []
  | fu + 1, i => match f[i]? with
    | none => .ok []
    | some x =>
      if noth x = true then linesG e f fu (i + 1)
      else
        let J := joinG e (f.drop i) i (hd x) 0 false
        if hd J.2.1 = J.2.1.length then linesG e f fu J.2.2
        else match docsL e f (i + 1) J.2.1 J.1 J.2.2 with
          | .error x => .error x
          | .ok (ds, j) => match linesG e f fu j with
            | .error x => .error x
            | .ok ls => .ok (⟨i + 1, J.2.1, J.1, ds⟩ :: ls)

theorem placeG_skip (k : Nat) : ∀ (post : List Mk) (p : Nat × Nat), (∀ q ∈ post, k < q.pos) → placeG post k p = p
  | [], _, _ => rfl
  | q :: r, p, h => by
    unfold placeG
    rw [if_neg (by have := h q List.mem_cons_self; omega)]
    exact placeG_skip k r p (fun x hx => h x (List.mem_cons_of_mem _ hx))
theorem placeG_at (k : Nat) (q : Mk) (post : List Mk) (h1 : q.pos ≤ k) (h2 : ∀ p ∈ post, k < p.pos) : ∀ (pre : List Mk) (p : Nat × Nat), placeG (pre ++ q :: post) k p = (q.line, q.col + (k - q.pos))
  | [], p => by
    show placeG post k (if q.pos ≤ k then _ else p) = _
    rw [if_pos h1, placeG_skip k post _ h2]
  | a :: pre, p => placeG_at k q post h1 h2 pre _
theorem bodyG_le (name : Ln) (tabs : Bool) : ∀ (l : List Ln) (i : Nat) (t : Ln) (j : Nat), bodyG name tabs l i = some (t, j) → i < j ∧ j ≤ i + l.length
  | [], i, t, j, h => by cases h
  | x :: r, i, t, j, h => by
    unfold bodyG at h
    split at h
    · cases h; exact ⟨by omega, by simp⟩
    · cases hb : bodyG name tabs r (i + 1) with
      | none => rw [hb] at h; cases h
      | some p =>
        rw [hb] at h
        obtain ⟨a, b⟩ := p
        cases h
        have := bodyG_le name tabs r (i + 1) a b hb
        exact ⟨by omega, by rw [List.length_cons]; omega⟩
theorem docsG_le (f : List Ln) (line : Nat) (text : Ln) (marks : List Mk) : ∀ (ws : List (Nat × Nat)) (i : Nat) (ds : List Dc) (j : Nat), docsG f line text marks ws i = .ok (ds, j) → i ≤ j
  | [], i, ds, j, h => by cases h; exact Nat.le_refl _
  | w :: r, i, ds, j, h => by
    unfold docsG at h
    simp only at h
    split at h
    · split at h
      · split at h
        · cases h
        · rename_i t k hb
          split at h
          · cases h
          · rename_i ds' k' hd
            cases h
            have h1 := (bodyG_le _ _ _ _ _ _ hb).1
            have h2 := docsG_le f line text marks r k ds' j hd
            omega
      · cases h
    · exact docsG_le f line text marks r i ds j h
theorem docsL_le (e : UInt8) (f : List Ln) (line : Nat) (text : Ln) (marks : List Mk) (i : Nat) (ds : List Dc) (j : Nat) (h : docsL e f line text marks i = .ok (ds, j)) : i ≤ j := by
  unfold docsL at h
  split at h
  · split at h
    · cases h
    · exact docsG_le f line text marks _ i ds j h
  · cases h; exact Nat.le_refl _
/-- What P14.3 says of one l-line. -/
structure Plc (f : List Ln) (x : LL) : Prop where
  low : 1 ≤ x.line
  rise : x.marks.Pairwise (fun a b => a.line < b.line)
  first : ∀ q ∈ x.marks, x.line ≤ q.line
  place : ∀ k, k < x.text.length → ∃ y, 1 ≤ (placeL x.line x.text x.marks k).1 ∧ 1 ≤ (placeL x.line x.text x.marks k).2 ∧ f[(placeL x.line x.text x.marks k).1 - 1]? = some y ∧ (placeL x.line x.text x.marks k).2 ≤ y.length ∧ y[(placeL x.line x.text x.marks k).2 - 1]? = x.text[k]?
theorem join_plc (e : UInt8) (f : List Ln) (i fr : Nat) (ds : List Dc) : Plc f ⟨i + 1, (joinG e (f.drop i) i fr 0 false).2.1, (joinG e (f.drop i) i fr 0 false).1, ds⟩ := by
  obtain ⟨a1, a2, a3, a4⟩ := join_marks e (f.drop i) i fr 0 false
  refine ⟨by simp, a2, fun q hq => (a1 q hq).2.1, fun k hk => ?_⟩
  simp only at hk ⊢
  obtain ⟨pre, post, q, y, c1, c2, c3, c4, c5, c6, c7, c8⟩ := join_place e f (f.drop i) i fr 0 false rfl k hk
  rw [Nat.zero_add] at c2 c3 c7 c8
  have hp : placeL (i + 1) (joinG e (f.drop i) i fr 0 false).2.1 (joinG e (f.drop i) i fr 0 false).1 k = (q.line, q.col + (k - q.pos)) := by
    unfold placeL
    rw [Nat.min_eq_left (by omega), c1]
    exact placeG_at k q post c2 c3 pre _
  rw [hp]
  simp only
  refine ⟨y, c4, by omega, c6, by omega, ?_⟩
  rw [show q.col + (k - q.pos) - 1 = q.col - 1 + (k - q.pos) by omega]
  exact c7
theorem join_more (e : UInt8) (x : Ln) (r : List Ln) (i fr n : Nat) : i < (joinG e (x :: r) i fr n false).2.2 := by
  unfold joinG
  rw [if_neg (by simp)]
  split
  · have := (join_marks e r (i + 1) 0 (n + (segN e fr x).length) true).2.2.1
    simp only; omega
  · simp
/-- The l-lines rise, and each byte stands where it is told. -/
theorem lines_plc (e : UInt8) (f : List Ln) : ∀ (fu i : Nat) (ls : List LL), linesG e f fu i = .ok ls → (∀ x ∈ ls, Plc f x ∧ i < x.line) ∧ ls.Pairwise (fun a b => a.line < b.line)
  | 0, i, ls, h => by cases h; simp
  | fu + 1, i, ls, h => by
    unfold linesG at h
    cases hx : f[i]? with
    | none => rw [hx] at h; cases h; simp
    | some x =>
      rw [hx] at h
      simp only at h
      split at h
      · obtain ⟨b1, b2⟩ := lines_plc e f fu (i + 1) ls h
        exact ⟨fun y hy => ⟨(b1 y hy).1, by have := (b1 y hy).2; omega⟩, b2⟩
      · have hdr : f.drop i = x :: f.drop (i + 1) := by
          obtain ⟨hi, hxi⟩ := List.getElem?_eq_some_iff.1 hx
          rw [List.drop_eq_getElem_cons hi, hxi]
        have hmore := join_more e x (f.drop (i + 1)) i (hd x) 0
        rw [← hdr] at hmore
        split at h
        · obtain ⟨b1, b2⟩ := lines_plc e f fu _ ls h
          exact ⟨fun y hy => ⟨(b1 y hy).1, by have := (b1 y hy).2; omega⟩, b2⟩
        · split at h
          · cases h
          · rename_i ds j hds
            split at h
            · cases h
            · rename_i ls' hls
              cases h
              have hj := docsL_le _ _ _ _ _ _ _ _ hds
              obtain ⟨b1, b2⟩ := lines_plc e f fu j ls' hls
              refine ⟨fun y hy => ?_, List.pairwise_cons.2 ⟨fun y hy => ?_, b2⟩⟩
              · rcases List.mem_cons.1 hy with rfl | hy
                · exact ⟨join_plc e f i (hd x) ds, by simp⟩
                · exact ⟨(b1 y hy).1, by have := (b1 y hy).2; omega⟩
              · have := (b1 y hy).2
                simp only; omega
end Go.Proofs.YtjgijbeedgggdaaGreatDoor
