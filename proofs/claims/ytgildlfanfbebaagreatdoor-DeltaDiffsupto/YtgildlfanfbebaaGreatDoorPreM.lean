/- Entries in their order; what lies below some names; what a picture says of a list of entries. -/
import Derived.Test.YtgildlfanfbebaaGreatDoorAtW
namespace Go.Proofs.YtgildlfanfbebaaGreatDoor
open Go Go.RowKit

def ltE (a b : Ent) : Prop := compareN a.path b.path < 0
theorem ltE_self (a : Ent) : ¬ ltE a a := by unfold ltE; rw [order_self]; omega
theorem ltE_asymm {a b : Ent} (h : ltE a b) : ¬ ltE b a := by
  unfold ltE at *; have := order_neg a.path b.path; omega
/-- Two lists in order with the same members are the same. -/
theorem srt_ext : ∀ (a b : List Ent), a.Pairwise ltE → b.Pairwise ltE → (∀ e, e ∈ a ↔ e ∈ b) → a = b
  | [], [], _, _, _ => rfl
  | [], y :: b, _, _, h => by have := (h y).2 (by simp); simp at this
  | x :: a, [], _, _, h => by have := (h x).1 (by simp); simp at this
  | x :: a, y :: b, ha, hb, h => by
    obtain ⟨ha1, ha2⟩ := List.pairwise_cons.1 ha
    obtain ⟨hb1, hb2⟩ := List.pairwise_cons.1 hb
    have hxy : x = y := by
      rcases List.mem_cons.1 ((h x).1 (by simp)) with e | hx
      · exact e
      · rcases List.mem_cons.1 ((h y).2 (by simp)) with e | hy
        · exact e.symm
        · exact absurd (ha1 y hy) (ltE_asymm (hb1 x hx))
    subst hxy
    rw [srt_ext a b ha2 hb2 (fun e => ?_)]
    constructor
    · intro he
      rcases List.mem_cons.1 ((h e).1 (by simp [he])) with rfl | h2
      · exact absurd (ha1 _ he) (ltE_self _)
      · exact h2
    · intro he
      rcases List.mem_cons.1 ((h e).2 (by simp [he])) with rfl | h2
      · exact absurd (hb1 _ he) (ltE_self _)
      · exact h2

/-- ms lies below ns. -/
def subN (ns ms : List (List UInt8)) : Bool := ns.isPrefixOf ms && decide (ns.length < ms.length)
theorem subN_iff {ns ms : List (List UInt8)} : subN ns ms = true ↔ ∃ y t, ms = ns ++ y :: t := by
  unfold subN
  rw [Bool.and_eq_true, List.isPrefixOf_iff_prefix, decide_eq_true_eq]
  constructor
  · rintro ⟨⟨t, rfl⟩, h⟩
    cases t with
    | nil => simp at h
    | cons y t => exact ⟨y, t, rfl⟩
  · rintro ⟨y, t, rfl⟩
    exact ⟨⟨_, rfl⟩, by simp⟩
def underL (L : List Ent) (ns : List (List UInt8)) : List Ent := L.filter fun e => subN ns (namesP e.path)
theorem mem_under {L : List Ent} {ns : List (List UInt8)} {e : Ent} : e ∈ underL L ns ↔ e ∈ L ∧ ∃ y t, namesP e.path = ns ++ y :: t := by
  unfold underL; rw [List.mem_filter, subN_iff]

theorem pieces_names {p : ByteArray} (h : p.size ≠ 0) : piecesB p = (namesP p).map bs := by unfold piecesB namesP; rw [if_neg h]
theorem names_ne {p : ByteArray} (h : p.size ≠ 0) : namesP p ≠ [] := by unfold namesP; rw [if_neg h]; exact cutL_ne _
theorem names_inj {p q : ByteArray} (hp : p.size ≠ 0) (hq : q.size ≠ 0) (h : namesP p = namesP q) : p = q := pieces_inj (by rw [pieces_names hp, pieces_names hq, h])
theorem lt_compare : ∀ {y z : List UInt8}, y < z → Lib.compareBytes y z = -1
  | y, [], h => absurd h (List.not_lt_nil y)
  | [], c :: z, _ => by simp [Lib.compareBytes]
  | a :: y, c :: z, h => by
    rw [List.cons_lt_cons_iff] at h
    unfold Lib.compareBytes
    rcases h with h | ⟨rfl, h⟩
    · simp [h]
    · have n1 : ¬ a < a := fun h => by have : a.toNat < a.toNat := h; omega
      simp only [n1, if_false]
      exact lt_compare h
theorem lt_below {a b : Ent} (ha : a.path.size ≠ 0) (hb : b.path.size ≠ 0) {y : List UInt8} {t : List (List UInt8)} (h : namesP b.path = namesP a.path ++ y :: t) : ltE a b := by
  unfold ltE compareN
  rw [pieces_names ha, pieces_names hb, h, List.map_append]
  have := compareP_same ((namesP a.path).map bs) [] ((y :: t).map bs)
  rw [List.append_nil] at this
  rw [this]; simp [compareP]
theorem lt_beside {a b : Ent} (ha : a.path.size ≠ 0) (hb : b.path.size ≠ 0) {ns s t : List (List UInt8)} {y z : List UInt8} (h1 : namesP a.path = ns ++ y :: s) (h2 : namesP b.path = ns ++ z :: t) (h : y < z) : ltE a b := by
  unfold ltE compareN
  rw [pieces_names ha, pieces_names hb, h1, h2, List.map_append, List.map_append, compareP_same]
  have hc : cmpB (bs y) (bs z) = -1 := by unfold cmpB; rw [un_bs, un_bs]; exact lt_compare h
  simp [compareP, hc]

/-- A picture says just what the list says. -/
structure Says (F : Pic) (L : List Ent) : Prop where
  root : ∃ rt, F [] = some rt ∧ rt.e.kind = 1 ∧ rt.e.data.size = 0
  of' : ∀ ns x, ns ≠ [] → F ns = some x → x.e ∈ L ∧ namesP x.e.path = ns
  at' : ∀ e ∈ L, ∃ x, F (namesP e.path) = some x ∧ x.e = e
  full : ∀ e ∈ L, e.path.size ≠ 0
  order : L.Pairwise ltE
  gone : ∀ ns y, F ns = none → F (ns ++ [y]) = none
def entAt (F : Pic) (ns : List (List UInt8)) : Ent := match F ns with | some x => x.e | none => ⟨⟨#[]⟩, 0, 0, ⟨#[]⟩, ⟨#[]⟩⟩
theorem Says.gone_all {F : Pic} {L : List Ent} (h : Says F L) {ns : List (List UInt8)} (h0 : F ns = none) : ∀ ys, F (ns ++ ys) = none := by
  intro ys
  induction ys generalizing ns with
  | nil => simpa using h0
  | cons y ys ih => rw [show ns ++ y :: ys = (ns ++ [y]) ++ ys by simp]; exact ih (h.gone ns y h0)
/-- What lies below: child by child. -/
theorem Says.flat {F : Pic} {L : List Ent} (h : Says F L) (ns : List (List UInt8)) (ys : List (List UInt8)) (hy : ys.Pairwise (· < ·)) (hm : ∀ y, y ∈ ys ↔ F (ns ++ [y]) ≠ none) :
    underL L ns = ys.flatMap fun y => entAt F (ns ++ [y]) :: underL L (ns ++ [y]) := by
  have he : ∀ y ∈ ys, entAt F (ns ++ [y]) ∈ L ∧ namesP (entAt F (ns ++ [y])).path = ns ++ [y] := fun y hyy => by
    have h1 := (hm y).1 hyy
    cases hx : F (ns ++ [y]) with
    | none => exact absurd hx h1
    | some x =>
      have := h.of' (ns ++ [y]) x (by simp) hx
      simpa [entAt, hx] using this
  have hin : ∀ y ∈ ys, ∀ e ∈ entAt F (ns ++ [y]) :: underL L (ns ++ [y]), e ∈ L ∧ ∃ t, namesP e.path = ns ++ y :: t := fun y hyy e hee => by
    rcases List.mem_cons.1 hee with rfl | hee
    · exact ⟨(he y hyy).1, [], by rw [(he y hyy).2]⟩
    · obtain ⟨h1, z, t, h2⟩ := mem_under.1 hee
      exact ⟨h1, z :: t, by rw [h2]; simp⟩
  refine srt_ext _ _ (h.order.sublist List.filter_sublist) (List.pairwise_flatMap.2 ⟨fun y hyy => ?_, ?_⟩) (fun e => ?_)
  · refine List.pairwise_cons.2 ⟨fun b hb => ?_, h.order.sublist List.filter_sublist⟩
    obtain ⟨h1, z, t, h2⟩ := mem_under.1 hb
    exact lt_below (h.full _ (he y hyy).1) (h.full _ h1) (by rw [(he y hyy).2, h2])
  · refine hy.imp_of_mem fun {y z} hyy hzz hlt a ha b hb => ?_
    obtain ⟨a1, s, a2⟩ := hin y hyy a ha
    obtain ⟨b1, t, b2⟩ := hin z hzz b hb
    exact lt_beside (h.full _ a1) (h.full _ b1) a2 b2 hlt
  · rw [mem_under, List.mem_flatMap]
    constructor
    · rintro ⟨h1, y, t, h2⟩
      obtain ⟨x, hx, rfl⟩ := h.at' e h1
      have hyy : y ∈ ys := (hm y).2 (fun h0 => by
        have := h.gone_all h0 t
        rw [h2, show ns ++ y :: t = (ns ++ [y]) ++ t by simp, this] at hx
        cases hx)
      refine ⟨y, hyy, ?_⟩
      cases t with
      | nil =>
        rw [h2] at hx
        simp [entAt, hx]
      | cons z t => exact List.mem_cons.2 (.inr (mem_under.2 ⟨h1, z, t, by rw [h2]; simp⟩))
    · rintro ⟨y, hyy, hee⟩
      obtain ⟨h1, t, h2⟩ := hin y hyy e hee
      exact ⟨h1, y, t, h2⟩
theorem Says.all {F : Pic} {L : List Ent} (h : Says F L) : underL L [] = L := by
  unfold underL
  rw [List.filter_eq_self]
  intro e he
  rw [subN_iff]
  have := names_ne (h.full e he)
  cases hn : namesP e.path with
  | nil => exact absurd hn this
  | cons y t => exact ⟨y, t, rfl⟩
end Go.Proofs.YtgildlfanfbebaaGreatDoor
