/- Pieces: a text's length in decimal digits, a colon, the text; how they are found again. Nothing of a program. -/
import Derived.Test.YtodgcmhkojkpcaaGreatDoorBytes
import Derived.Lib.ItoaNum
import Derived.Lib.ItoaMem
namespace Go.Proofs.YtodgcmhkojkpcaaGreatDoor

/-- A decimal digit? -/
def isDig (c : UInt8) : Bool := decide (48 ≤ c.toNat) && decide (c.toNat ≤ 57)
theorem isDig_iff (c : UInt8) : isDig c = true ↔ 48 ≤ c.toNat ∧ c.toNat ≤ 57 := by simp [isDig]
/-- The number that digits tell. -/
def numV (ds : List UInt8) : Nat := ds.foldl (fun a c => a * 10 + (c.toNat - 48)) 0
theorem numV_snoc (ds : List UInt8) (c : UInt8) : numV (ds ++ [c]) = numV ds * 10 + (c.toNat - 48) := by simp [numV]
abbrev dec (n : Nat) : List UInt8 := Lib.decDigits n
theorem dig_toNat (k : Nat) (h : k < 10) : (UInt8.ofNat (48 + k)).toNat = 48 + k := by
  rw [UInt8.toNat_ofNat', Nat.mod_eq_of_lt (by omega)]
theorem dec_small {n : Nat} (h : n < 10) : dec n = [UInt8.ofNat (48 + n)] := Lib.decDigits_one h
theorem dec_big {n : Nat} (h : ¬ n < 10) : dec n = dec (n / 10) ++ [UInt8.ofNat (48 + n % 10)] := by unfold dec; rw [Lib.decDigits, dif_neg h]
theorem dec_dig (n : Nat) : ∀ c ∈ dec n, isDig c = true := by
  induction n using Nat.strongRecOn with
  | ind n ih =>
    intro c hc
    by_cases h : n < 10
    · rw [dec_small h] at hc
      rw [List.mem_singleton.1 hc, isDig_iff, dig_toNat n h]; omega
    · rw [dec_big h] at hc
      rcases List.mem_append.1 hc with h1 | h1
      · exact ih (n / 10) (by omega) c h1
      · rw [List.mem_singleton.1 h1, isDig_iff, dig_toNat _ (by omega)]; omega
theorem numV_dec (n : Nat) : numV (dec n) = n := by
  induction n using Nat.strongRecOn with
  | ind n ih =>
    by_cases h : n < 10
    · rw [dec_small h]; simp [numV]; rw [Nat.mod_eq_of_lt (by omega)]; omega
    · rw [dec_big h, numV_snoc, ih (n / 10) (by omega), dig_toNat _ (by omega)]; omega
theorem dec_ne (n : Nat) : dec n ≠ [] := by
  by_cases h : n < 10
  · rw [dec_small h]; simp
  · rw [dec_big h]; simp
theorem dec_length (n : Nat) : ∀ k, n < 10 ^ (k + 1) → (dec n).length ≤ k + 1 := by
  induction n using Nat.strongRecOn with
  | ind n ih =>
    intro k hk
    by_cases h : n < 10
    · rw [dec_small h]; simp
    · rw [dec_big h]
      cases k with
      | zero => omega
      | succ k =>
        have := ih (n / 10) (by omega) k (by rw [Nat.pow_succ] at hk; omega)
        simp; omega
/-- No nought ahead of another digit. -/
def slim (ds : List UInt8) : Prop := ds ≠ [] ∧ (1 < ds.length → ds[0]? ≠ some 48)
theorem dec_zero : dec 0 = [48] := by rw [dec_small (by omega)]; rfl
theorem dec_lean (n : Nat) : slim (dec n) := by
  refine ⟨dec_ne n, ?_⟩
  induction n using Nat.strongRecOn with
  | ind n ih =>
    intro h1
    by_cases h : n < 10
    · rw [dec_small h] at h1; simp at h1
    · have hn := dec_ne (n / 10)
      rw [dec_big h, List.getElem?_append_left (by have := List.length_pos_iff.2 hn; omega)]
      by_cases h2 : 1 < (dec (n / 10)).length
      · exact ih (n / 10) (by omega) h2
      · by_cases h3 : n / 10 < 10
        · rw [dec_small h3]
          intro e
          have e2 : UInt8.ofNat (48 + n / 10) = 48 := Option.some.inj e
          have := congrArg UInt8.toNat e2
          rw [dig_toNat _ h3] at this
          have e3 : (48 : UInt8).toNat = 48 := rfl
          omega
        · rw [dec_big h3] at h2
          have := List.length_pos_iff.2 (dec_ne (n / 10 / 10))
          simp at h2; simp [h2] at this
theorem dec_numV : ∀ (k : Nat) (ds : List UInt8), ds.length = k → (∀ c ∈ ds, isDig c = true) → slim ds → dec (numV ds) = ds := by
  intro k
  induction k with
  | zero => intro ds h0 _ hl; exact absurd (List.length_eq_zero_iff.1 h0) hl.1
  | succ k ih =>
    intro ds hk hd hl
    obtain ⟨es, c, rfl⟩ : ∃ es c, ds = es ++ [c] := ⟨ds.dropLast, ds.getLast hl.1, (List.dropLast_concat_getLast hl.1).symm⟩
    have hc := (isDig_iff c).1 (hd c (by simp))
    have hcn : UInt8.ofNat (48 + (c.toNat - 48)) = c := by rw [show 48 + (c.toNat - 48) = c.toNat by omega]; simp
    rw [numV_snoc]
    by_cases he : es = []
    · subst he
      rw [show numV [] = 0 from rfl, Nat.zero_mul, Nat.zero_add, dec_small (by omega), hcn]; rfl
    · have hpos : 0 < es.length := List.length_pos_iff.2 he
      have h0 : es[0]? ≠ some 48 := by
        have := hl.2 (by simp; omega)
        rwa [List.getElem?_append_left hpos] at this
      have hes := ih es (by simp at hk; omega) (fun x hx => hd x (by simp [hx])) ⟨he, fun _ => h0⟩
      have h1 : numV es ≠ 0 := by
        intro e
        rw [e, dec_zero] at hes
        rw [← hes] at h0; simp at h0
      rw [dec_big (by omega), show (numV es * 10 + (c.toNat - 48)) / 10 = numV es by omega, hes, show (numV es * 10 + (c.toNat - 48)) % 10 = c.toNat - 48 by omega, hcn]

/-- A piece. -/
def pieceOf (t : List UInt8) : List UInt8 := dec t.length ++ 58 :: t
/-- Pieces, one behind the other. -/
def laidL (ts : List (List UInt8)) : List UInt8 := ts.flatMap pieceOf
theorem laidL_cons (t : List UInt8) (ts : List (List UInt8)) : laidL (t :: ts) = pieceOf t ++ laidL ts := rfl
theorem laidL_append (a b : List (List UInt8)) : laidL (a ++ b) = laidL a ++ laidL b := by simp [laidL]
theorem laidL_snoc (a : List (List UInt8)) (t : List UInt8) : laidL (a ++ [t]) = laidL a ++ pieceOf t := by simp [laidL]

/-- The digits with which a text begins, ten at most. -/
def digits (l : List UInt8) : List UInt8 := (l.take 10).takeWhile isDig
theorem digits_pre (l : List UInt8) : l = digits l ++ l.drop (digits l).length := by
  have h : digits l <+: l := (List.takeWhile_prefix _).trans (List.take_prefix _ _)
  obtain ⟨t, ht⟩ := h
  conv => lhs; rw [← ht]
  rw [← ht, List.drop_left' (by rw [ht])]
theorem takeWhile_dig (c : UInt8) : ∀ l : List UInt8, c ∈ l.takeWhile isDig → isDig c = true
  | [], h => by simp at h
  | x :: xs, h => by
    rw [List.takeWhile_cons] at h
    split at h
    · rename_i hx
      rcases List.mem_cons.1 h with rfl | h2
      · exact hx
      · exact takeWhile_dig c xs h2
    · simp at h
theorem digits_dig (l : List UInt8) : ∀ c ∈ digits l, isDig c = true := fun c hc => takeWhile_dig c _ hc
theorem digits_length (l : List UInt8) : (digits l).length ≤ 10 := Nat.le_trans ((List.takeWhile_prefix _).length_le) (by simp; omega)
/-- A piece's length, and what stands behind its colon. -/
def lengthL (l : List UInt8) : Option (Nat × List UInt8) :=
  if digits l = [] ∨ (1 < (digits l).length ∧ l[0]? = some 48) ∨ l[(digits l).length]? ≠ some 58 then none else some (numV (digits l), l.drop ((digits l).length + 1))
/-- The first piece's text, and what stands behind it. -/
def pieceL (l : List UInt8) : Option (List UInt8 × List UInt8) :=
  match lengthL l with
  | none => none
  | some (n, r) => if r.length < n then none else some (r.take n, r.drop n)
theorem digits_zero (l : List UInt8) (h : digits l ≠ []) : l[0]? = (digits l)[0]? := by
  have hp := List.length_pos_iff.2 h
  conv => lhs; rw [digits_pre l]
  rw [List.getElem?_append_left hp]
theorem pieceL_some {l t r : List UInt8} (h : pieceL l = some (t, r)) : l = pieceOf t ++ r := by
  unfold pieceL lengthL at h
  split at h
  · cases h
  · rename_i n r0 h0
    split at h0
    · cases h0
    · rename_i hc
      cases h0
      split at h
      · cases h
      · rename_i hn
        cases h
        have hc1 : digits l ≠ [] := fun e => hc (.inl e)
        have hc2 : ¬ (1 < (digits l).length ∧ l[0]? = some 48) := fun e => hc (.inr (.inl e))
        have hc3 : l[(digits l).length]? = some 58 := Decidable.byContradiction fun e => hc (.inr (.inr e))
        have hl : slim (digits l) := ⟨hc1, fun h e => hc2 ⟨h, by rw [digits_zero l hc1]; exact e⟩⟩
        have hd := dec_numV _ (digits l) rfl (digits_dig l) hl
        have hlen : ((l.drop ((digits l).length + 1)).take (numV (digits l))).length = numV (digits l) := by rw [List.length_take]; omega
        have hlt : (digits l).length < l.length := (List.getElem?_eq_some_iff.1 hc3).1
        unfold pieceOf
        rw [hlen, hd, List.append_assoc, List.cons_append, List.take_append_drop]
        conv => lhs; rw [digits_pre l]
        rw [List.drop_eq_getElem_cons hlt]
        have := (List.getElem?_eq_some_iff.1 hc3).2
        rw [this]
theorem takeWhile_all (p : UInt8 → Bool) : ∀ (a b : List UInt8), (∀ c ∈ a, p c = true) → (∀ c, b[0]? = some c → p c = false) → (a ++ b).takeWhile p = a
  | [], [], _, _ => rfl
  | [], y :: b, _, h => by simp [h y rfl]
  | x :: a, b, h1, h2 => by
    rw [List.cons_append, List.takeWhile_cons, if_pos (h1 x (by simp)), takeWhile_all p a b (fun c hc => h1 c (by simp [hc])) h2]
theorem digits_dec (n : Nat) (h : n < 10000000000) (b : List UInt8) (hb : ∀ c, b[0]? = some c → isDig c = false) : digits (dec n ++ b) = dec n := by
  have hl : (dec n).length ≤ 10 := dec_length n 9 (by simpa using h)
  unfold digits
  rw [List.take_append, List.take_of_length_le hl]
  apply takeWhile_all
  · exact dec_dig n
  · intro c hc
    cases h2 : b.take (10 - (dec n).length) with
    | nil => rw [h2] at hc; simp at hc
    | cons y ys =>
      rw [h2] at hc
      simp at hc
      subst hc
      apply hb
      have := congrArg (fun l => l[0]?) h2
      rw [List.getElem?_take] at this
      split at this
      · simpa using this
      · simp at this
theorem pieceL_of (t r : List UInt8) (h : t.length < 10000000000) : pieceL (pieceOf t ++ r) = some (t, r) := by
  have hd : digits (dec t.length ++ (58 :: (t ++ r))) = dec t.length := digits_dec t.length h _ (fun c hc => by simp at hc; subst hc; rfl)
  have e : pieceOf t ++ r = dec t.length ++ (58 :: (t ++ r)) := by simp [pieceOf]
  have hl := dec_lean t.length
  unfold pieceL lengthL
  rw [e, hd, if_neg]
  · rw [numV_dec, List.drop_append, List.drop_of_length_le (by omega), show (dec t.length).length + 1 - (dec t.length).length = 1 by omega]
    simp
  · rintro (h1 | ⟨h1, h2⟩ | h1)
    · exact hl.1 h1
    · rw [List.getElem?_append_left (by omega)] at h2
      exact hl.2 h1 h2
    · rw [List.getElem?_append_right (Nat.le_refl _)] at h1
      simp at h1
theorem pieceOf_ne (t : List UInt8) : pieceOf t ≠ [] := by simp [pieceOf]
/-- What is laid is found, and nothing else: the lists begin alike. -/
theorem laid_split : ∀ (a b : List (List UInt8)) (r : List UInt8), (∀ t ∈ a, t.length < 10000000000) → (∀ t ∈ b, t.length < 10000000000) → laidL a = laidL b ++ r → (r = [] → a = b) ∧ (r ≠ [] → ∃ t r', pieceL r = some (t, r'))
  | [], [], r, _, _, h => by
    have : r = [] := by simpa [laidL] using h.symm
    exact ⟨fun _ => rfl, fun h2 => absurd this h2⟩
  | [], y :: b, r, _, _, h => by
    exfalso
    have : pieceOf y = [] := by
      rw [laidL_cons] at h
      have := congrArg List.length h
      simp [laidL] at this
      exact List.length_eq_zero_iff.1 (by omega)
    exact pieceOf_ne y this
  | x :: a, [], r, ha, _, h => by
    rw [laidL_cons] at h
    have h2 : r = pieceOf x ++ laidL a := by simpa [laidL] using h.symm
    refine ⟨fun e => ?_, fun _ => ⟨x, laidL a, by rw [h2]; exact pieceL_of x _ (ha x (by simp))⟩⟩
    rw [e] at h2
    exact absurd (List.append_eq_nil_iff.1 h2.symm).1 (pieceOf_ne x)
  | x :: a, y :: b, r, ha, hb, h => by
    rw [laidL_cons, laidL_cons, List.append_assoc] at h
    have h1 := pieceL_of x (laidL a) (ha x (by simp))
    rw [h, pieceL_of y _ (hb y (by simp))] at h1
    have e := Option.some.inj h1
    have e1 : y = x := congrArg Prod.fst e
    have e2 : laidL b ++ r = laidL a := congrArg Prod.snd e
    obtain ⟨i1, i2⟩ := laid_split a b r (fun t ht => ha t (by simp [ht])) (fun t ht => hb t (by simp [ht])) e2.symm
    exact ⟨fun hr => by rw [e1, i1 hr], i2⟩
end Go.Proofs.YtodgcmhkojkpcaaGreatDoor
