/- What TreeStays asks, without a program: the list of a tree is one; what is put and taken. -/
import Derived.Test.YtpnngdandpncdaaGreatDoorTakeX
namespace Go.Proofs.YtpnngdandpncdaaGreatDoor
open Go Go.RowKit

theorem TreeOf.one {W : World} {tb base : Nat} {F : Pic} {L : List Ent} (h : TreeOf W tb base F L) {pre r : List Ent} {e : Ent} (hL : L = pre ++ e :: r) : oneN pre e = 0 := by
  have heL : e ∈ L := by rw [hL]; simp
  have hpre : ∀ x ∈ pre, x ∈ L := fun x hx => by rw [hL]; simp [hx]
  have ho := h.says.order
  rw [hL] at ho
  obtain ⟨ho1, ho2, ho3⟩ := List.pairwise_append.1 ho
  have hlt : ∀ x ∈ pre, ltE x e := fun x hx => ho3 x hx e (by simp)
  have hw := h.right e heL
  have hck := wrong_check hw
  have hoo : ooN (lastP pre) e.path = 0 := by
    rcases List.eq_nil_or_concat pre with rfl | ⟨l, d, rfl⟩
    · exact oo_start hck
    · have hd : lastP (l.concat d) = d.path := by simp [lastP]
      have hde := hlt d (by simp)
      unfold ltE at hde
      rw [hd]
      unfold ooN
      rw [if_neg (by omega), if_neg (by omega)]
  have hup : upN pre e.path = 0 := by
    unfold upN
    by_cases hz : (parentB e.path).size = 0
    · rw [if_pos hz]
    · rw [if_neg hz]
      obtain ⟨x, hx, _⟩ := h.says.at' e heL
      have hsp := names_split hck
      obtain ⟨u, hu⟩ : ∃ u, F (namesP (parentB e.path)) = some u := by
        cases hq : F (namesP (parentB e.path)) with
        | some u => exact ⟨u, rfl⟩
        | none =>
          have := h.says.gone _ (un (lastB e.path)) hq
          rw [hsp, hx] at this; cases this
      have huk : u.e.kind = 1 := by
        by_cases hk : u.e.kind = 1
        · exact hk
        · have hm := (h.at'.kinds _ u hu).2 hk
          have := h.at'.tree.leaf _ u (un (lastB e.path)) hu hm
          rw [hsp, hx] at this; cases this
      obtain ⟨hu1, hu2⟩ := h.says.of' _ u (names_ne hz) hu
      have hup : u.e.path = parentB e.path := names_inj (h.says.full _ hu1) hz hu2
      have hlu : ltE u.e e := lt_below (y := un (lastB e.path)) (t := []) (h.says.full _ hu1) (h.says.full _ heL) (by rw [hu2, ← hsp])
      have hin : u.e ∈ pre := by
        rw [hL] at hu1
        rcases List.mem_append.1 hu1 with h1 | h1
        · exact h1
        · rcases List.mem_cons.1 h1 with h1 | h1
          · rw [h1] at hlu; exact absurd hlu (ltE_self _)
          · exact absurd ((List.pairwise_cons.1 ho2).1 _ h1) (ltE_asymm hlu)
      cases hf : pre.find? (pathIs (parentB e.path)) with
      | none => exact absurd (pathIs_iff.2 hup) (by simpa using List.find?_eq_none.1 hf _ hin)
      | some y =>
        have hy1 := List.mem_of_find?_eq_some hf
        have hy2 : y.path = parentB e.path := pathIs_iff.1 (List.find?_some hf)
        obtain ⟨z, hz1, hz2⟩ := h.says.at' y (hpre y hy1)
        rw [hy2, hu] at hz1
        cases hz1
        simp [← hz2, huk]
  have hmany : manyN pre e = 0 := by
    unfold manyN
    rw [put_end hlt]
    have h1 := h.few
    have h2 := h.light
    rw [hL] at h1 h2
    have h3 : bytesL (pre ++ e :: r) = bytesL pre + (e.data.size + bytesL r) := by simp [bytesL]
    rw [h3] at h2
    simp at h1
    simp only
    rw [if_neg (by omega)]
  unfold oneN putN
  rw [if_neg (show ¬ (wrongN e ≠ 0) by simpa using hw), if_neg (show ¬ (ooN (lastP pre) e.path ≠ 0) by simpa using hoo), if_neg (show ¬ (upN pre e.path ≠ 0) by simpa using hup), hmany]
theorem TreeOf.check {W : World} {tb base : Nat} {F : Pic} {L : List Ent} (h : TreeOf W tb base F L) : (checkGo [] L).1 = 0 := by
  have main : ∀ r pre, L = pre ++ r → (checkGo pre r).1 = 0 := by
    intro r
    induction r with
    | nil => intro pre _; rfl
    | cons e r ih =>
      intro pre hL
      unfold checkGo
      rw [if_neg (show ¬ (oneN pre e ≠ 0) by simpa using h.one hL)]
      exact ih _ (by rw [hL]; simp)
  exact main L [] rfl
def notP (p : ByteArray) (e : Ent) : Bool := !pathIs p e
theorem but_laid {L : List Ent} (h : L.Pairwise ltE) (e : Ent) : (laidL L e).filter (notP e.path) = L.filter (notP e.path) := by
  refine srt_ext _ _ ((laid_order h e).sublist List.filter_sublist) (h.sublist List.filter_sublist) (fun x => ?_)
  have hn : notP e.path x = true ↔ x.path ≠ e.path := by
    unfold notP
    rw [Bool.not_eq_true', ← Bool.not_eq_true, pathIs_iff]
  rw [List.mem_filter, List.mem_filter, laid_mem, hn]
  constructor
  · rintro ⟨rfl | ⟨h1, h2⟩, h3⟩
    · exact absurd rfl h3
    · exact ⟨h1, h3⟩
  · rintro ⟨h1, h2⟩
    exact ⟨.inr ⟨h1, h2⟩, h2⟩
theorem find_laid {L : List Ent} {e : Ent} : (laidL L e).find? (pathIs e.path) = some e := by
  unfold laidL
  rw [List.find?_append, List.find?_eq_none.2 (fun x hx => by
    have h1 := (List.mem_filter.1 hx).2
    simp at h1
    intro hp
    rw [pathIs_iff.1 hp, order_self] at h1; omega)]
  have : pathIs e.path e = true := pathIs_iff.2 rfl
  simp [List.find?, this]
/-- What stays, by the statement's words. -/
def keptB (p : ByteArray) (e : Ent) : Bool := !pathIs p e && !belowB p e.path
theorem prefix_below {p q : ByteArray} (hp : p.size ≠ 0) (hq : q.size ≠ 0) : (namesP p).isPrefixOf (namesP q) = (un q == un p || belowB p q) := by
  have hpe : p.toList.isEmpty = false := (isEmpty_false p).2 (by omega)
  rw [Bool.eq_iff_iff, List.isPrefixOf_iff_prefix, Bool.or_eq_true, beq_iff_eq]
  constructor
  · rintro ⟨t, ht⟩
    cases t with
    | nil => left; rw [List.append_nil] at ht; rw [names_inj hp hq ht]
    | cons y t =>
      right
      refine pieces_below hpe (u := (y :: t).map bs) (by simp) ?_
      rw [pieces_names hp, pieces_names hq, ← ht, List.map_append]
  · rintro (h | h)
    · rw [un_inj h]; exact List.prefix_refl _
    · obtain ⟨t, ht⟩ := (below_iff hpe).1 h
      unfold namesP
      rw [if_neg hp, if_neg hq, ht, cut_append]
      exact List.prefix_append _ _
theorem kept_gone {F : Pic} {L : List Ent} (h : Says F L) {p : ByteArray} (hp : p.size ≠ 0) : L.filter (keptB p) = goneL L (namesP p) := by
  unfold goneL
  refine List.filter_congr (fun e he => ?_)
  unfold keptB pathIs
  rw [prefix_below hp (h.full e he)]
  simp
end Go.Proofs.YtpnngdandpncdaaGreatDoor
