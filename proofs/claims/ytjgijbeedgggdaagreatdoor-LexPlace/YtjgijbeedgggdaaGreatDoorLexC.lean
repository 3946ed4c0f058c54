/- Files cut into lines, and lines put together again: purely. -/
import Derived.Test.YtjgijbeedgggdaaGreatDoorLexM
namespace Go.Proofs.YtjgijbeedgggdaaGreatDoor
open Go

/-- Without the bytes 0D at the end. -/
def trimR (x : Ln) : Ln := (x.reverse.dropWhile (· == 13)).reverse
def segsG : Ln → Ln → List Ln
  | acc, [] => if acc = [] then [] else [acc]
  | acc, b :: s => if b = 10 then acc :: segsG [] s else segsG (acc ++ [b]) s
def cutL (s : Ln) : List Ln := (segsG [] s).map trimR
def fileL (g : List Ln) : Ln := g.flatMap (· ++ [10])

theorem segs_line (acc x s : Ln) (h : 10 ∉ x) : segsG acc (x ++ 10 :: s) = (acc ++ x) :: segsG [] s := by
  induction x generalizing acc with
  | nil => simp [segsG]
  | cons b x ih =>
    have hb : b ≠ 10 := fun e => h (by rw [e]; exact List.mem_cons_self)
    rw [List.cons_append, segsG, if_neg hb, ih (acc ++ [b]) (fun hm => h (List.mem_cons_of_mem _ hm))]
    simp
theorem segs_file (g : List Ln) (s : Ln) (h : ∀ x ∈ g, 10 ∉ x) : segsG [] (fileL g ++ s) = g ++ segsG [] s := by
  induction g with
  | nil => rfl
  | cons x g ih =>
    have e : fileL (x :: g) ++ s = x ++ 10 :: (fileL g ++ s) := by simp [fileL]
    rw [e, segs_line [] x _ (h x List.mem_cons_self), ih (fun y hy => h y (List.mem_cons_of_mem _ hy))]
    rfl
theorem cut_file (g : List Ln) (s : Ln) (h : ∀ x ∈ g, 10 ∉ x ∧ trimR x = x) : cutL (fileL g ++ s) = g ++ cutL s := by
  unfold cutL
  rw [segs_file g s (fun x hx => (h x hx).1), List.map_append]
  congr 1
  rw [List.map_congr_left (g := id) (fun x hx => (h x hx).2), List.map_id]
theorem segs_no (acc s : Ln) (ha : 10 ∉ acc) : ∀ x ∈ segsG acc s, 10 ∉ x := by
  induction s generalizing acc with
  | nil =>
    intro x hx
    unfold segsG at hx
    split at hx
    · cases hx
    · simp at hx; subst hx; exact ha
  | cons b s ih =>
    intro x hx
    unfold segsG at hx
    split at hx
    · rcases List.mem_cons.1 hx with h | h
      · rw [h]; exact ha
      · exact ih [] (by simp) x h
    · rename_i hb
      exact ih (acc ++ [b]) (by simp [ha]; exact fun e => hb e.symm) x hx
theorem trimR_mem (x : Ln) (b : UInt8) (h : b ∈ trimR x) : b ∈ x := by
  unfold trimR at h
  rw [List.mem_reverse] at h
  have := (List.dropWhile_sublist (fun c : UInt8 => c == 13) (l := x.reverse)).subset h
  rwa [List.mem_reverse] at this
theorem dropWhile_idem (p : UInt8 → Bool) (l : Ln) : (l.dropWhile p).dropWhile p = l.dropWhile p := by
  induction l with
  | nil => rfl
  | cons b l ih =>
    by_cases h : p b = true
    · rw [List.dropWhile_cons_of_pos h]; exact ih
    · rw [List.dropWhile_cons_of_neg h, List.dropWhile_cons_of_neg h]
theorem trimR_idem (x : Ln) : trimR (trimR x) = trimR x := by
  unfold trimR
  rw [List.reverse_reverse, dropWhile_idem]
theorem cut_lines (s : Ln) : ∀ x ∈ cutL s, 10 ∉ x ∧ trimR x = x := by
  intro x hx
  unfold cutL at hx
  obtain ⟨y, hy, rfl⟩ := List.mem_map.1 hx
  exact ⟨fun h => segs_no [] s (by simp) y hy (trimR_mem y 10 h), trimR_idem y⟩
/-- A file that ends with a line's end, and no byte 0D in it, is its lines again. -/
theorem file_cut (s : Ln) (h13 : 13 ∉ s) (hl : s = [] ∨ s.getLast? = some 10) : fileL (cutL s) = s := by
  have htr : ∀ x : Ln, 13 ∉ x → trimR x = x := fun x hx => by
    unfold trimR
    have : x.reverse.dropWhile (· == 13) = x.reverse := by
      cases hr : x.reverse with
      | nil => rfl
      | cons b l =>
        have hb : b ∈ x := by rw [← List.mem_reverse, hr]; exact List.mem_cons_self
        exact List.dropWhile_cons_of_neg (by simp; exact fun e => hx (by rw [← e]; exact hb))
    rw [this, List.reverse_reverse]
  have hmem : ∀ (acc t : Ln), 13 ∉ acc → 13 ∉ t → ∀ x ∈ segsG acc t, 13 ∉ x := by
    intro acc t
    induction t generalizing acc with
    | nil =>
      intro ha _ x hx
      unfold segsG at hx
      split at hx
      · cases hx
      · simp at hx; subst hx; exact ha
    | cons b t ih =>
      intro ha ht x hx
      unfold segsG at hx
      split at hx
      · rcases List.mem_cons.1 hx with h | h
        · rw [h]; exact ha
        · exact ih [] (by simp) (fun h => ht (List.mem_cons_of_mem _ h)) x h
      · exact ih (acc ++ [b]) (by simp [ha]; exact fun e => ht (by rw [e]; exact List.mem_cons_self)) (fun h => ht (List.mem_cons_of_mem _ h)) x hx
  have hcut : cutL s = segsG [] s := by
    unfold cutL
    rw [List.map_congr_left (g := id) (fun x hx => htr x (hmem [] s (by simp) h13 x hx)), List.map_id]
  have hjoin : ∀ (acc t : Ln), (acc ++ t = [] ∨ (acc ++ t).getLast? = some 10) → (t = [] → acc = []) → fileL (segsG acc t) = acc ++ t := by
    intro acc t
    induction t generalizing acc with
    | nil =>
      intro _ h2
      rw [h2 rfl]; rfl
    | cons b t ih =>
      intro h1 _
      unfold segsG
      by_cases hb : b = 10
      · subst hb
        rw [if_pos rfl]
        have : fileL (acc :: segsG [] t) = acc ++ 10 :: fileL (segsG [] t) := by simp [fileL]
        rw [this]
        cases t with
        | nil => rfl
        | cons c t =>
          rw [ih [] (by
            right
            rcases h1 with h | h
            · simp at h
            · rw [List.getLast?_append] at h
              simpa using h) (fun h => by cases h)]
          rfl
      · rw [if_neg hb, ih (acc ++ [b]) (by rw [List.append_assoc]; exact h1) (fun ht => by
          subst ht
          rcases h1 with h | h
          · simp at h
          · simp at h; exact absurd h hb)]
        simp
  rw [hcut]
  exact hjoin [] s hl (fun _ => rfl)
end Go.Proofs.YtjgijbeedgggdaaGreatDoor
