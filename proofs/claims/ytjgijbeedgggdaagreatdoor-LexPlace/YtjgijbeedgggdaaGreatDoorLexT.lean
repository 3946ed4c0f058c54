/- P14.5, purely: a line, and the same line in two. -/
import Derived.Test.YtjgijbeedgggdaaGreatDoorLexL
namespace Go.Proofs.YtjgijbeedgggdaaGreatDoor
open Go

theorem hd_zero (x : Ln) (b : UInt8) (h : x[0]? = some b) (hb : isBl b = false) : hd x = 0 := by
  cases x with
  | nil => simp at h
  | cons c x =>
    simp at h; subst h
    unfold hd
    rw [List.takeWhile_cons_of_neg (by rw [hb]; decide)]; rfl
theorem en_snoc (x : Ln) (b : UInt8) (hb : isBl b = false) : en (x ++ [b]) = x.length + 1 := by
  unfold en
  rw [List.reverse_append]
  show (([b] ++ x.reverse).dropWhile isBl).length = _
  rw [List.singleton_append, List.dropWhile_cons_of_neg (by rw [hb]; decide)]
  simp
theorem dropWhile_append_of (p : UInt8 → Bool) (a b : Ln) (h : ∃ c ∈ a, p c = false) : (a ++ b).dropWhile p = a.dropWhile p ++ b := by
  induction a with
  | nil => obtain ⟨c, hc, _⟩ := h; cases hc
  | cons x a ih =>
    by_cases hx : p x = true
    · rw [List.cons_append, List.dropWhile_cons_of_pos hx, List.dropWhile_cons_of_pos hx]
      obtain ⟨c, hc, hp⟩ := h
      rcases List.mem_cons.1 hc with rfl | hc
      · rw [hx] at hp; cases hp
      · exact ih ⟨c, hc, hp⟩
    · rw [List.cons_append, List.dropWhile_cons_of_neg hx, List.dropWhile_cons_of_neg hx]; rfl
theorem en_append (a b : Ln) (h : ∃ c ∈ b, isBl c = false) : en (a ++ b) = a.length + en b := by
  unfold en
  rw [List.reverse_append, dropWhile_append_of _ _ _ (by obtain ⟨c, hc, hp⟩ := h; exact ⟨c, List.mem_reverse.2 hc, hp⟩), List.length_append, List.length_reverse]
  omega
theorem dropWhile_nil (p : UInt8 → Bool) (l : Ln) (h : l.dropWhile p = []) : ∀ x ∈ l, p x = true := by
  induction l with
  | nil => intro x hx; cases hx
  | cons b l ih =>
    by_cases hb : p b = true
    · rw [List.dropWhile_cons_of_pos hb] at h
      intro x hx
      rcases List.mem_cons.1 hx with rfl | hx
      · exact hb
      · exact ih h x hx
    · rw [List.dropWhile_cons_of_neg hb] at h; cases h
theorem en_pos (x : Ln) (h : ∃ c ∈ x, isBl c = false) : 0 < en x := by
  unfold en
  rcases Nat.eq_zero_or_pos (x.reverse.dropWhile isBl).length with h0 | h0
  · exfalso
    have h1 := List.eq_nil_of_length_eq_zero h0
    replace h1 := dropWhile_nil _ _ h1
    obtain ⟨c, hc, hp⟩ := h
    have := h1 c (List.mem_reverse.2 hc)
    rw [hp] at this; cases this
  · exact h0
/-- What P14.5 asks of a text. -/
structure Single (s : Ln) : Prop where
  first : ∃ b, s[0]? = some b ∧ isBl b = false ∧ b ≠ 35
  no10 : 10 ∉ s
  no13 : 13 ∉ s
  last : s[en s - 1]? ≠ some 92
  noOpen : ∀ i : Nat, s[i]? = some (60 : UInt8) → s[i + 1]? ≠ some (60 : UInt8)
theorem dir_none (x : Ln) (b : UInt8) (h : x[0]? = some b) (hb : isBl b = false) (h35 : b ≠ 35) : dirAt x = none := by
  unfold dirAt
  rw [if_neg]
  intro hc
  rw [hd_zero x b h hb, h] at hc
  exact h35 (Option.some.inj hc.1)
theorem noth_not (x : Ln) (b : UInt8) (h : x[0]? = some b) (hb : isBl b = false) (h35 : b ≠ 35) : noth x = false := by
  unfold noth
  rw [hd_zero x b h hb, h]
  simp [h35]
theorem trimR_no (x : Ln) (h : 13 ∉ x) : trimR x = x := by
  unfold trimR
  have : x.reverse.dropWhile (· == 13) = x.reverse := by
    cases hr : x.reverse with
    | nil => rfl
    | cons b l =>
      have hb : b ∈ x := by rw [← List.mem_reverse, hr]; exact List.mem_cons_self
      exact List.dropWhile_cons_of_neg (by simp; exact fun e => h (by rw [← e]; exact hb))
  rw [this, List.reverse_reverse]
theorem segs_last (acc x : Ln) (h : 10 ∉ x) (hne : acc ++ x ≠ []) : segsG acc x = [acc ++ x] := by
  induction x generalizing acc with
  | nil =>
    unfold segsG
    rw [List.append_nil] at hne ⊢
    rw [if_neg hne]
  | cons b x ih =>
    have hb : b ≠ 10 := fun e => h (by rw [e]; exact List.mem_cons_self)
    unfold segsG
    rw [if_neg hb, ih (acc ++ [b]) (fun hm => h (List.mem_cons_of_mem _ hm)) (by simp)]
    simp
theorem cut_one (s : Ln) (h : Single s) : cutL s = [s] := by
  obtain ⟨b, hb, _⟩ := h.first
  unfold cutL
  rw [segs_last [] s h.no10 (fun e => by rw [List.nil_append] at e; rw [e] at hb; simp at hb)]
  simp [trimR_no s h.no13]
theorem cut_two (s : Ln) (h : Single s) (k : Nat) (hk : k < s.length) : cutL (s.take k ++ [92, 10] ++ s.drop k) = [s.take k ++ [92], s.drop k] := by
  have e : s.take k ++ [92, 10] ++ s.drop k = (s.take k ++ [92]) ++ 10 :: s.drop k := by simp
  have h1 : 10 ∉ s.take k ++ [92] := by
    simp
    exact fun hm => h.no10 (List.mem_of_mem_take hm)
  unfold cutL
  rw [e, segs_line [] _ _ h1, segs_last [] (s.drop k) (fun hm => h.no10 (List.mem_of_mem_drop hm)) (by simp; omega)]
  simp only [List.nil_append, List.map_cons, List.map_nil]
  rw [trimR_no _ (by simp; exact fun hm => h.no13 (List.mem_of_mem_take hm)), trimR_no _ (fun hm => h.no13 (List.mem_of_mem_drop hm))]
/-- No word begins a document. -/
theorem docs_none (f : List Ln) (line : Nat) (text : Ln) (marks : List Mk) (h : ∀ i : Nat, text[i]? = some (60 : UInt8) → text[i + 1]? ≠ some (60 : UInt8)) : ∀ (ws : List (Nat × Nat)) (i : Nat), docsG f line text marks ws i = .ok ([], i)
  | [], i => rfl
  | w :: r, i => by
    unfold docsG
    simp only
    rw [if_neg]
    · exact docs_none f line text marks h r i
    · intro hc
      have h0 : (((text.take w.2).drop w.1).take 2)[0]? = some 60 := by rw [hc]; rfl
      have h1 : (((text.take w.2).drop w.1).take 2)[1]? = some 60 := by rw [hc]; rfl
      rw [List.getElem?_take, if_pos (by omega), List.getElem?_drop, List.getElem?_take] at h0 h1
      split at h0
      · split at h1
        · exact h (w.1 + 0) h0 (by rw [show w.1 + 0 + 1 = w.1 + 1 by omega]; exact h1)
        · cases h1
      · cases h0
theorem join_single (s : Ln) (h : Single s) (r : List Ln) (i n : Nat) : joinG 92 (s :: r) i 0 n false = ([⟨n, i + 1, 1⟩], s, i + 1) := by
  obtain ⟨b, hb, hbl, _⟩ := h.first
  have hlen : 0 < s.length := by
    cases s with
    | nil => simp at hb
    | cons _ _ => simp
  have hg : goesOn 92 0 s = false := by
    unfold goesOn
    have := h.last
    simp [this]
  unfold joinG
  rw [if_neg (by simp), if_neg (by rw [hg]; decide)]
  have hed : edN 92 0 s = s.length := by unfold edN; rw [hg]; rfl
  unfold mksN segN
  rw [hed, if_pos hlen, List.take_length]; rfl
theorem join_split2 (s : Ln) (h : Single s) (k : Nat) (b : UInt8) (hk : s[k]? = some b) (hb : isBl b = false) (h35 : b ≠ 35) : ∃ ms, joinG 92 [s.take k ++ [92], s.drop k] 0 0 0 false = (ms, s, 2) := by
  have hkl := (List.getElem?_eq_some_iff.1 hk).1
  have hen : en (s.take k ++ [92]) = k + 1 := by rw [en_snoc _ _ (by decide), List.length_take]; omega
  have hg : goesOn 92 0 (s.take k ++ [92]) = true := by
    unfold goesOn
    rw [hen]
    simp
    rw [List.getElem?_append_right (by simp; omega), List.length_take, Nat.min_eq_left (by omega)]
    simp
  have hd0 : (s.drop k)[0]? = some b := by rw [List.getElem?_drop]; simpa using hk
  have hn : noth (s.drop k) = false := noth_not _ b hd0 hb h35
  have hex : ∃ c ∈ s.drop k, isBl c = false := ⟨b, List.mem_of_getElem? hd0, hb⟩
  have hg2 : goesOn 92 0 (s.drop k) = false := by
    have he : en s = k + en (s.drop k) := by
      have := en_append (s.take k) (s.drop k) hex
      rw [List.take_append_drop, List.length_take, Nat.min_eq_left (by omega)] at this
      exact this
    have hp := en_pos _ hex
    unfold goesOn
    have hl := h.last
    rw [he, show k + en (s.drop k) - 1 = k + (en (s.drop k) - 1) by omega, ← List.getElem?_drop] at hl
    rw [Bool.and_eq_false_iff]
    right
    rw [beq_eq_false_iff_ne]
    exact hl
  have hseg : segN 92 0 (s.take k ++ [92]) = s.take k := by
    unfold segN edN
    rw [hg, if_pos rfl, hen, Nat.add_sub_cancel, List.drop_zero, List.take_append_of_le_length (by rw [List.length_take]; omega), List.take_take, Nat.min_self]
  have hseg2 : segN 92 0 (s.drop k) = s.drop k := by
    unfold segN edN
    rw [hg2, if_neg (by decide), List.take_length]; rfl
  unfold joinG
  rw [if_neg (by simp), if_pos hg]
  unfold joinG
  rw [if_neg (by rw [hn]; simp), if_neg (by rw [hg2]; decide), hseg, hseg2, List.take_append_drop]
  exact ⟨_, rfl⟩
end Go.Proofs.YtjgijbeedgggdaaGreatDoor
