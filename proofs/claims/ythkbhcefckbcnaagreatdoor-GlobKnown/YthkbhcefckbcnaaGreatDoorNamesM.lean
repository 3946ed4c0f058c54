/- Texts put together, quoted, cut again: what their names are; what a quoted pattern, and ** ahead of one or behind it, takes. Nothing of a program. -/
import Derived.Test.YthkbhcefckbcnaaGreatDoorPatM
import Derived.Test.YthkbhcefckbcnaaGreatDoorOwnM
namespace Go.Proofs.YthkbhcefckbcnaaGreatDoor

def namesL (l : List UInt8) : List (List UInt8) := (cutL l).filter (fun x => !x.isEmpty)
theorem namesB_eq (s : ByteArray) : namesB s = (namesL (un s)).map bs := by
  unfold namesB namesL piecesB
  rw [List.filter_map]
  congr 1
  apply List.filter_congr
  intro x _
  simp [full, toList_un, un_bs]
theorem un_names (s : ByteArray) : (namesB s).map un = namesL (un s) := by rw [namesB_eq, List.map_map]; simp [Function.comp_def, un_bs]
theorem cutL_append (a b : List UInt8) : cutL (a ++ 47 :: b) = cutL a ++ cutL b := by
  induction a with
  | nil => simp [cutL]
  | cons c a ih =>
    rw [List.cons_append, cutL_cons, cutL_cons, ih]
    split
    · simp
    · cases h : cutL a with
      | nil => exact absurd h (cutL_ne a)
      | cons p r => simp
theorem namesL_append (a b : List UInt8) : namesL (a ++ 47 :: b) = namesL a ++ namesL b := by simp [namesL, cutL_append]
theorem cutL_free (l x : List UInt8) (h : x ∈ cutL l) : (47 : UInt8) ∉ x := by
  induction l generalizing x with
  | nil => simp [cutL] at h; subst h; simp
  | cons c l ih =>
    rw [cutL_cons] at h
    split at h
    · rcases List.mem_cons.1 h with rfl | h
      · simp
      · exact ih x h
    · rename_i hc
      cases hl : cutL l with
      | nil => exact absurd hl (cutL_ne l)
      | cons p r =>
        rw [hl] at h ih
        simp only [List.headD_cons, List.tail_cons] at h
        rcases List.mem_cons.1 h with rfl | h
        · intro hm
          rcases List.mem_cons.1 hm with e | hm
          · exact hc (by rw [← e]; rfl)
          · exact ih p (List.mem_cons_self ..) hm
        · exact ih x (List.mem_cons_of_mem _ h)
theorem cutL_one (l : List UInt8) (h : (47 : UInt8) ∉ l) : cutL l = [l] := by
  induction l with
  | nil => rfl
  | cons c l ih =>
    have hc : ¬ (c == 47) = true := fun e => h (by rw [← (beq_iff_eq.1 e)]; exact List.mem_cons_self ..)
    rw [cutL_cons, if_neg hc, ih (fun hm => h (List.mem_cons_of_mem _ hm))]; rfl
/-- A name: no slash in it, and not empty. -/
def GoodL (x : List UInt8) : Prop := (47 : UInt8) ∉ x ∧ x ≠ []
theorem namesL_good (l x : List UInt8) (h : x ∈ namesL l) : GoodL x := by
  unfold namesL at h
  rw [List.mem_filter] at h
  exact ⟨cutL_free l x h.1, by intro e; subst e; simp at h⟩
theorem namesL_one (x : List UInt8) (h : GoodL x) : namesL x = [x] := by
  unfold namesL; rw [cutL_one x h.1]; simp [h.2]
theorem namesL_nil : namesL [] = [] := rfl
theorem namesL_join : ∀ xs : List (List UInt8), (∀ x ∈ xs, GoodL x) → namesL (Lib.join xs [47]) = xs
  | [], _ => rfl
  | [x], h => by rw [Lib.join_one]; exact namesL_one x (h x (List.mem_cons_self ..))
  | x :: y :: xs, h => by
    have e : Lib.join (x :: y :: xs) [47] = x ++ 47 :: Lib.join (y :: xs) [47] := by simp [Lib.join, List.intercalate]
    rw [e, namesL_append, namesL_one x (h x (List.mem_cons_self ..)), namesL_join (y :: xs) (fun z hz => h z (List.mem_cons_of_mem _ hz))]; rfl
def GoodB (x : ByteArray) : Prop := GoodL (un x)
theorem namesB_good (s x : ByteArray) (h : x ∈ namesB s) : GoodB x := by
  have h2 : un x ∈ (namesB s).map un := List.mem_map_of_mem h
  rw [un_names] at h2
  exact namesL_good _ _ h2
theorem map_bs_un (xs : List ByteArray) : (xs.map un).map bs = xs := by rw [List.map_map]; simp [Function.comp_def, bs_un]
theorem namesB_join (xs : List ByteArray) (h : ∀ x ∈ xs, GoodB x) : namesB (bs (joinL xs)) = xs := by
  rw [namesB_eq, un_bs]
  unfold joinL
  rw [namesL_join _ (by intro x hx; obtain ⟨y, hy, rfl⟩ := List.mem_map.1 hx; exact h y hy), map_bs_un]
theorem namesB_append (a b : ByteArray) : namesB (a ++ ⟨#[47]⟩ ++ b) = namesB a ++ namesB b := by
  rw [namesB_eq, namesB_eq, namesB_eq, un_append, un_append]
  have e : un ⟨#[47]⟩ = [47] := rfl
  rw [e, List.append_assoc, show [47] ++ un b = 47 :: un b from rfl, namesL_append, List.map_append]

/- What many, behind all, takes: all that begins with what the others take. -/
theorem takeL_behind {β : Type} (ts : List (Taker β)) (xs : List β) : takeL (ts ++ [none]) xs = true ↔ ∃ i, i ≤ xs.length ∧ takeL ts (xs.take i) = true := by
  induction ts generalizing xs with
  | nil =>
    rw [List.nil_append, takeL_many]
    constructor
    · rintro _; exact ⟨0, Nat.zero_le _, by simp [takeL]⟩
    · rintro _; exact ⟨xs.length, Nat.le_refl _, by simp [takeL]⟩
  | cons t ts ih =>
    cases t with
    | none =>
      rw [List.cons_append, takeL_many]
      constructor
      · rintro ⟨i, h1, h2⟩
        obtain ⟨j, h3, h4⟩ := (ih _).1 h2
        simp at h3
        refine ⟨i + j, by omega, (takeL_many _ _).2 ⟨i, by simp; omega, ?_⟩⟩
        rw [List.drop_take]; rw [show i + j - i = j by omega]; exact h4
      · rintro ⟨i, h1, h2⟩
        obtain ⟨j, h3, h4⟩ := (takeL_many _ _).1 h2
        simp at h3
        refine ⟨j, by omega, (ih _).2 ⟨i - j, by simp; omega, ?_⟩⟩
        rw [List.drop_take] at h4; exact h4
    | some f =>
      cases xs with
      | nil => simp [takeL]
      | cons x xs =>
        rw [List.cons_append]
        simp only [takeL, Bool.and_eq_true]
        rw [ih]
        constructor
        · rintro ⟨h1, i, h2, h3⟩; exact ⟨i + 1, by simp; omega, by simp [takeL, h1, h3]⟩
        · rintro ⟨i, h2, h3⟩
          cases i with
          | zero => simp [takeL] at h3
          | succ i => simp [takeL] at h3; exact ⟨h3.1, i, by simp at h2; omega, h3.2⟩

theorem allOf_append (a b : List ByteArray) : allOf (a ++ b) = match allOf a, allOf b with | some x, some y => some (x ++ y) | _, _ => none := by
  induction a with
  | nil => cases h : allOf b <;> simp [allOf, h]
  | cons x a ih =>
    simp only [List.cons_append, allOf, ih]
    cases pieceOf x with
    | none => cases allOf b <;> rfl
    | some p => cases allOf a <;> cases allOf b <;> rfl
theorem allOf_length : ∀ {a : List ByteArray} {ps : List Pc}, allOf a = some ps → ps.length = a.length
  | [], ps, h => by simp [allOf] at h; subst h; rfl
  | x :: a, ps, h => by
    simp only [allOf] at h
    cases hp : pieceOf x with
    | none => simp [hp] at h
    | some p =>
      simp only [hp, Option.map_eq_some_iff] at h
      obtain ⟨q, hq, rfl⟩ := h
      simp [allOf_length hq]
def starsB : ByteArray := ⟨#[42, 42]⟩
theorem names_stars : namesB starsB = [starsB] := by
  rw [namesB_eq, show namesL (un starsB) = [[42, 42]] by rfl]; rfl
theorem piece_stars : pieceOf starsB = some none := by unfold pieceOf isStars; rw [toList_un]; rfl
theorem pat_ahead (pat : ByteArray) (ps : List Pc) (hs : pat.size ≤ 1000) (h : patOf pat = some ps) : patOf (⟨#[42, 42, 47]⟩ ++ pat) = some (none :: ps) := by
  have e : (⟨#[42, 42, 47]⟩ : ByteArray) ++ pat = starsB ++ ⟨#[47]⟩ ++ pat := by apply un_inj; simp only [un_append]; rfl
  unfold patOf at h ⊢
  rw [e, namesB_append, names_stars]
  split at h
  · rw [if_pos ⟨by rw [ByteArray.size_append, ByteArray.size_append]; show 2 + 1 + pat.size ≤ 1020; omega, by simp⟩]
    rw [List.singleton_append]
    simp only [allOf, piece_stars, h]; rfl
  · cases h
theorem pat_behind (pat : ByteArray) (ps : List Pc) (hs : pat.size ≤ 1000) (h : patOf pat = some ps) : patOf (pat ++ ⟨#[47, 42, 42]⟩) = some (ps ++ [none]) := by
  have e : pat ++ (⟨#[47, 42, 42]⟩ : ByteArray) = pat ++ ⟨#[47]⟩ ++ starsB := by apply un_inj; simp only [un_append, List.append_assoc]; rfl
  unfold patOf at h ⊢
  rw [e, namesB_append, names_stars]
  split at h
  · rw [if_pos ⟨by rw [ByteArray.size_append, ByteArray.size_append]; show pat.size + 1 + 2 ≤ 1020; omega, by simp⟩]
    rw [allOf_append, h]; simp only [allOf, piece_stars]; rfl
  · cases h
theorem takeP_ahead (ps : List Pc) (xs : List ByteArray) : takeP (none :: ps) xs = true ↔ ∃ i, i ≤ xs.length ∧ takeP ps (xs.drop i) = true := by
  unfold takeP
  rw [takeI_eq, List.map_cons, show pcTaker none = none from rfl, takeL_many]
  constructor
  · rintro ⟨i, h1, h2⟩; exact ⟨i, h1, by rw [takeI_eq]; exact h2⟩
  · rintro ⟨i, h1, h2⟩; exact ⟨i, h1, by rw [takeI_eq] at h2; exact h2⟩
theorem takeP_behind (ps : List Pc) (xs : List ByteArray) : takeP (ps ++ [none]) xs = true ↔ ∃ i, i ≤ xs.length ∧ takeP ps (xs.take i) = true := by
  unfold takeP
  rw [takeI_eq, List.map_append, show [none].map pcTaker = [none] from rfl, takeL_behind]
  constructor
  · rintro ⟨i, h1, h2⟩; exact ⟨i, h1, by rw [takeI_eq]; exact h2⟩
  · rintro ⟨i, h1, h2⟩; exact ⟨i, h1, by rw [takeI_eq] at h2; exact h2⟩

/- Quoted. -/
def quoteL (l : List UInt8) : List UInt8 := l.flatMap fun b => if b == 47 then [47] else [92, b]
theorem quoteL_cons (b : UInt8) (l : List UInt8) : quoteL (b :: l) = (if b == 47 then [47] else [92, b]) ++ quoteL l := rfl
theorem quoteL_snoc (l : List UInt8) (b : UInt8) : quoteL (l ++ [b]) = quoteL l ++ (if b == 47 then [47] else [92, b]) := by simp [quoteL]
theorem quoteL_length (l : List UInt8) : (quoteL l).length ≤ 2 * l.length := by
  induction l with
  | nil => simp [quoteL]
  | cons b l ih => rw [quoteL_cons]; split <;> simp <;> omega
theorem cutL_quote (l : List UInt8) : cutL (quoteL l) = (cutL l).map quoteL := by
  induction l with
  | nil => rfl
  | cons b l ih =>
    rw [quoteL_cons, cutL_cons]
    split
    · rename_i h; rw [List.singleton_append, cutL_cons, if_pos (by decide), ih]; rfl
    · rename_i h
      rw [show [92, b] ++ quoteL l = 92 :: b :: quoteL l from rfl, cutL_cons, if_neg (by decide), cutL_cons, if_neg h, ih]
      cases hc : cutL l with
      | nil => exact absurd hc (cutL_ne l)
      | cons p r => simp [quoteL_cons, h]
theorem namesL_quote (l : List UInt8) : namesL (quoteL l) = (namesL l).map quoteL := by
  unfold namesL
  rw [cutL_quote, List.filter_map]
  congr 1
  apply List.filter_congr
  intro x _
  cases x with
  | nil => rfl
  | cons b x => simp only [Function.comp, quoteL_cons]; split <;> rfl
def oneOf (b : UInt8) : Taker UInt8 := some fun x => x == b
theorem parts_quote : ∀ (x : List UInt8), (47 : UInt8) ∉ x → partsOf (quoteL x) = some (x.map oneOf)
  | [], _ => rfl
  | b :: x, h => by
    have hb : ¬ (b == 47) = true := fun e => h (by rw [← (beq_iff_eq.1 e)]; exact List.mem_cons_self ..)
    have hr : rPart (quoteL (b :: x)) = some (oneOf b, quoteL x) := by
      rw [quoteL_cons, if_neg hb]; rfl
    rw [partsOf_on hr, parts_quote x (fun hm => h (List.mem_cons_of_mem _ hm))]; rfl
theorem takeL_ones : ∀ (x y : List UInt8), takeL (x.map oneOf) y = (y == x)
  | [], [] => rfl
  | [], _ :: _ => rfl
  | _ :: _, [] => rfl
  | b :: x, c :: y => by simp only [List.map_cons, oneOf, takeL]; rw [takeL_ones x y]; rfl
theorem piece_quote (x : List UInt8) (h : GoodL x) : pieceOf (bs (quoteL x)) = some (some (x.map oneOf)) := by
  unfold pieceOf
  have hs : isStars (bs (quoteL x)) = false := by
    unfold isStars; rw [toList_un, un_bs]
    cases x with
    | nil => exact (h.2 rfl).elim
    | cons b x =>
      have hb : ¬ (b == 47) = true := fun e => h.1 (by rw [← (beq_iff_eq.1 e)]; exact List.mem_cons_self ..)
      rw [quoteL_cons, if_neg hb]
      rfl
  rw [hs, un_bs, parts_quote x h.1]; rfl
theorem all_quote : ∀ xs : List (List UInt8), (∀ x ∈ xs, GoodL x) → allOf ((xs.map quoteL).map bs) = some (xs.map fun x => some (x.map oneOf))
  | [], _ => rfl
  | x :: xs, h => by
    simp only [List.map_cons, allOf, piece_quote x (h x (List.mem_cons_self ..)), all_quote xs (fun z hz => h z (List.mem_cons_of_mem _ hz))]; rfl
theorem pat_quote (p : ByteArray) (hs : p.size ≤ 510) : patOf (bs (quoteL (un p))) = if namesB p = [] then none else some ((namesL (un p)).map fun x => some (x.map oneOf)) := by
  have e : namesB (bs (quoteL (un p))) = ((namesL (un p)).map quoteL).map bs := by rw [namesB_eq, un_bs, namesL_quote]
  have hz : (bs (quoteL (un p))).size ≤ 1020 := by rw [size_bs]; have := quoteL_length (un p); rw [un_length] at this; omega
  unfold patOf
  rw [e]
  have hn : namesB p = [] ↔ namesL (un p) = [] := by rw [namesB_eq, List.map_eq_nil_iff]
  by_cases h : namesB p = []
  · rw [if_pos h, if_neg (fun h2 => h2.2 (by rw [hn.1 h]; rfl))]
  · rw [if_neg h, if_pos ⟨hz, by simp; exact fun e => h (hn.2 e)⟩]
    exact all_quote _ (fun x hx => namesL_good _ _ hx)
theorem takeL_names : ∀ (xs : List (List UInt8)) (ys : List ByteArray), takeL ((xs.map fun x => some (x.map oneOf)).map pcTaker) ys = (ys.map un == xs)
  | [], [] => rfl
  | [], _ :: _ => rfl
  | _ :: _, [] => rfl
  | x :: xs, y :: ys => by
    simp only [List.map_cons, pcTaker, takeL]
    rw [takeL_names xs ys, takeI_eq, takeL_ones]; rfl
theorem match_quote (p q : ByteArray) (hs : p.size ≤ 510) (hn : namesB p ≠ []) : matchB (bs (quoteL (un p))) q = (namesL (un q) == namesL (un p)) := by
  unfold matchB
  rw [pat_quote p hs, if_neg hn]
  simp only [takeP, takeI_eq]
  rw [takeL_names, un_names]
end Go.Proofs.YthkbhcefckbcnaaGreatDoor
