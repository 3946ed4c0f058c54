/- What is clean, without a program: it stays so, and two texts one behind the other are cleaned one by one. -/
import Derived.Test.YtlbckjdlfdiceabDoorClean
import Derived.Test.YtlbckjdlfdiceabDoorOrdM
namespace Go.Proofs.YtlbckjdlfdiceabDoor

/-- A name that leads neither nowhere nor up, with no slash in it. -/
def Plainly (x : ByteArray) : Prop := full x = true ∧ (x.toList == [46]) = false ∧ (x.toList == [46, 46]) = false ∧ (47 : UInt8) ∉ un x
theorem cutL_noslash : ∀ (l : List UInt8), ∀ p ∈ cutL l, (47 : UInt8) ∉ p
  | [], p, hp => by simp [cutL] at hp; simp [hp]
  | c :: l, p, hp => by
    have ih := cutL_noslash l
    rw [cutL_cons] at hp
    by_cases hc : (c == 47) = true
    · rw [if_pos hc] at hp
      rcases List.mem_cons.1 hp with rfl | h
      · simp
      · exact ih p h
    · rw [if_neg hc] at hp
      cases h : cutL l with
      | nil => exact absurd h (cutL_ne l)
      | cons q r =>
        rw [h] at hp ih
        rcases List.mem_cons.1 hp with rfl | h2
        · have := ih q (by simp)
          have h3 : (47 : UInt8) ≠ c := fun e => hc (by simp [e])
          simp [this, h3]
        · exact ih p (by simpa using Or.inr h2)
theorem names_noslash (s : ByteArray) : ∀ x ∈ namesB s, full x = true ∧ (47 : UInt8) ∉ un x := fun x hx => by
  unfold namesB at hx
  obtain ⟨h1, h2⟩ := List.mem_filter.1 hx
  unfold piecesB at h1
  obtain ⟨p, hp, rfl⟩ := List.mem_map.1 h1
  exact ⟨h2, by rw [un_bs]; exact cutL_noslash _ p hp⟩
theorem cleanL_plain (xs : List ByteArray) (hx : ∀ x ∈ xs, full x = true ∧ (47 : UInt8) ∉ un x) : ∀ x ∈ cleanL xs, Plainly x := by
  have h : ∀ (xs k : List ByteArray), (∀ x ∈ xs, full x = true ∧ (47 : UInt8) ∉ un x) → (∀ x ∈ k, Plainly x) → ∀ x ∈ xs.foldl cleanStep k, Plainly x := by
    intro xs
    induction xs with
    | nil => intro k _ hk; simpa using hk
    | cons y ys ih =>
      intro k hxs hk
      refine ih _ (fun x hx => hxs x (by simp [hx])) (fun x hx => ?_)
      unfold cleanStep at hx
      by_cases c1 : (y.toList == [46]) = true
      · rw [if_pos c1] at hx; exact hk x hx
      · rw [if_neg c1] at hx
        by_cases c2 : (y.toList == [46, 46]) = true
        · rw [if_pos c2] at hx; exact hk x (List.dropLast_subset _ hx)
        · rw [if_neg c2] at hx
          rcases List.mem_append.1 hx with h1 | h1
          · exact hk x h1
          · obtain rfl : x = y := by simpa using h1
            exact ⟨(hxs x (by simp)).1, by simpa using c1, by simpa using c2, (hxs x (by simp)).2⟩
  exact h xs [] hx (fun x hx => by cases hx)
theorem cleanL_id (xs k : List ByteArray) (hx : ∀ x ∈ xs, Plainly x) : xs.foldl cleanStep k = k ++ xs := by
  induction xs generalizing k with
  | nil => simp
  | cons y ys ih =>
    have hy := hx y (by simp)
    have e : cleanStep k y = k ++ [y] := by unfold cleanStep; rw [hy.2.1, hy.2.2.1]; rfl
    rw [List.foldl_cons, e, ih _ (fun x h => hx x (by simp [h]))]; simp
theorem cut_single : ∀ l : List UInt8, (47 : UInt8) ∉ l → cutL l = [l]
  | [], _ => rfl
  | c :: l, h => by
    have h1 : ¬ (c == 47) = true := fun e => h (by simp at e; simp [e])
    rw [cutL_cons, if_neg h1, cut_single l (fun e => h (by simp [e]))]; rfl
theorem joinL_glue : ∀ xs : List ByteArray, joinL xs = glue (xs.map un)
  | [] => rfl
  | [x] => by simp [joinL, Lib.join, glue]
  | x :: y :: r => by
    have ih := joinL_glue (y :: r)
    have e : joinL (x :: y :: r) = un x ++ ([47] ++ joinL (y :: r)) := by simp [joinL, Lib.join]
    rw [e, ih]; simp [glue]
theorem cut_glue : ∀ xs : List (List UInt8), xs ≠ [] → (∀ x ∈ xs, (47 : UInt8) ∉ x) → cutL (glue xs) = xs
  | [], h, _ => absurd rfl h
  | [x], _, h => cut_single x (h x (by simp))
  | x :: y :: r, _, h => by
    have ih := cut_glue (y :: r) (by simp) (fun z hz => h z (by simp at hz; simp [hz]))
    show cutL (x ++ 47 :: glue (y :: r)) = _
    rw [cut_append, ih, cut_single x (h x (by simp))]; rfl
theorem map_bs_un (xs : List ByteArray) : (xs.map un).map bs = xs := by
  induction xs with
  | nil => rfl
  | cons x xs ih => simp [bs_un] at ih ⊢; exact ih
theorem names_join (xs : List ByteArray) (hx : ∀ x ∈ xs, Plainly x) : namesB (bs (joinL xs)) = xs := by
  unfold namesB piecesB
  rw [un_bs, joinL_glue]
  by_cases h : xs = []
  · subst h
    show ([([] : List UInt8)].map bs).filter full = []
    have e : full (bs []) = false := by unfold full; rw [toList_un, un_bs]; rfl
    simp [e]
  · rw [cut_glue _ (by simpa using h) (fun x h1 => by obtain ⟨y, hy, rfl⟩ := List.mem_map.1 h1; exact (hx y hy).2.2.2), map_bs_un]
    exact List.filter_eq_self.2 (fun x h1 => (hx x h1).1)
theorem clean_plain (s : ByteArray) : ∀ x ∈ cleanL (namesB s), Plainly x := cleanL_plain _ (names_noslash s)
theorem names_clean (s : ByteArray) : namesB (cleanB s) = cleanL (namesB s) := names_join _ (clean_plain s)
theorem clean_clean (s : ByteArray) : cleanB (cleanB s) = cleanB s := by
  unfold cleanB; rw [show bs (joinL (cleanL (namesB s))) = cleanB s from rfl, names_clean]
  congr 2
  have := cleanL_id (cleanL (namesB s)) [] (clean_plain s)
  simpa [cleanL] using this
theorem names_append (s t : ByteArray) : namesB (s ++ ⟨#[47]⟩ ++ t) = namesB s ++ namesB t := by
  unfold namesB piecesB
  have e : un (s ++ (⟨#[47]⟩ : ByteArray) ++ t) = un s ++ 47 :: un t := by rw [un_append, un_append]; show un s ++ [47] ++ un t = _; simp
  rw [e, cut_append]; simp
theorem clean_append (s t : ByteArray) : cleanB (s ++ ⟨#[47]⟩ ++ t) = cleanB (cleanB s ++ ⟨#[47]⟩ ++ t) := by
  have h : cleanL (namesB (s ++ ⟨#[47]⟩ ++ t)) = cleanL (namesB (cleanB s ++ ⟨#[47]⟩ ++ t)) := by
    rw [names_append, names_append, names_clean]
    unfold cleanL
    rw [List.foldl_append, List.foldl_append]
    have e : List.foldl cleanStep [] (List.foldl cleanStep [] (namesB s)) = List.foldl cleanStep [] (namesB s) := cleanL_id (cleanL (namesB s)) [] (clean_plain s)
    rw [e]
  show bs (joinL (cleanL (namesB (s ++ ⟨#[47]⟩ ++ t)))) = bs (joinL (cleanL (namesB (cleanB s ++ ⟨#[47]⟩ ++ t))))
  rw [h]
theorem joinL_size : ∀ xs : List ByteArray, xs ≠ [] → (joinL xs).length + 1 = wt xs
  | [], h => absurd rfl h
  | [x], _ => by simp [joinL, Lib.join, wt, un_length]
  | x :: y :: r, _ => by
    have ih := joinL_size (y :: r) (by simp)
    have e : joinL (x :: y :: r) = un x ++ ([47] ++ joinL (y :: r)) := by simp [joinL, Lib.join]
    rw [e]; simp only [List.length_append, un_length, wt] at ih ⊢; simp; omega
/-- How long a clean text is, by its names. -/
theorem clean_size (s : ByteArray) : (cleanL (namesB s) = [] ∧ cleanB s = ⟨#[]⟩) ∨ wt (cleanL (namesB s)) = (cleanB s).size + 1 := by
  by_cases h : cleanL (namesB s) = []
  · exact .inl ⟨h, by unfold cleanB; rw [h]; rfl⟩
  · exact .inr (by unfold cleanB; rw [size_bs]; exact (joinL_size _ h).symm)
end Go.Proofs.YtlbckjdlfdiceabDoor
