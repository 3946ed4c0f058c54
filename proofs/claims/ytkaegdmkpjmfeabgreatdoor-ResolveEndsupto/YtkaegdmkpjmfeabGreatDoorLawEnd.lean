/- ResolveEnds: a trail is as long as it may be, and stays within the tree. -/
import Derived.Test.YtkaegdmkpjmfeabGreatDoorTakeX
import Derived.Test.YtkaegdmkpjmfeabGreatDoorTrailW
import Derived.Test.YtkaegdmkpjmfeabGreatDoorOwnM
import Derived.Test.YtkaegdmkpjmfeabGreatDoorCheck
import Derived.Test.YtkaegdmkpjmfeabGreatDoorSplitM
import Derived.OwnWalk
import Derived.Test.YtkaegdmkpjmfeabGreatDoorPieces
import Derived.Test.YtkaegdmkpjmfeabGreatDoorWorksR

namespace Go.Proofs.YtkaegdmkpjmfeabGreatDoor
open Go Go.RowKit

theorem TreeOf.one {W : World} {tb base : Nat} {F : Pic} {L : List Ent} (h : TreeOf W tb base F L) {pre r : List Ent} {e : Ent} (hL : L = pre ++ e :: r) : oneN pre e = 0 := by
  have heL : e ∈ L := by rw [hL]; simp
  have hpre : ∀ x ∈ pre, x ∈ L := fun x hx => by rw [hL]; simp [hx]
  have ho := h.says.order
  rw [hL] at ho
  obtain ⟨ho1, ho2, ho3⟩ := List.pairwise_append.1 ho
  have hlt : ∀ x ∈ pre, ltE x e := fun x hx => ho3 x hx e (by simp)
  have hw := h.right e heL
  have hck := wrong_check hw
  have hoo : ooN (lastP pre) e.path = 0 := by
    rcases List.eq_nil_or_concat pre with rfl | ⟨l, d, rfl⟩
    · exact oo_start hck
    · have hd : lastP (l.concat d) = d.path := by simp [lastP]
      have hde := hlt d (by simp)
      unfold ltE at hde
      rw [hd]
      unfold ooN
      rw [if_neg (by omega), if_neg (by omega)]
  have hup : upN pre e.path = 0 := by
    unfold upN
    by_cases hz : (parentB e.path).size = 0
    · rw [if_pos hz]
    · rw [if_neg hz]
      obtain ⟨x, hx, _⟩ := h.says.at' e heL
      have hsp := names_split hck
      obtain ⟨u, hu⟩ : ∃ u, F (namesP (parentB e.path)) = some u := by
        cases hq : F (namesP (parentB e.path)) with
        | some u => exact ⟨u, rfl⟩
        | none =>
          have := h.says.gone _ (un (lastB e.path)) hq
          rw [hsp, hx] at this; cases this
      have huk : u.e.kind = 1 := by
        by_cases hk : u.e.kind = 1
        · exact hk
        · have hm := (h.at'.kinds _ u hu).2 hk
          have := h.at'.tree.leaf _ u (un (lastB e.path)) hu hm
          rw [hsp, hx] at this; cases this
      obtain ⟨hu1, hu2⟩ := h.says.of' _ u (names_ne hz) hu
      have hup : u.e.path = parentB e.path := names_inj (h.says.full _ hu1) hz hu2
      have hlu : ltE u.e e := lt_below (y := un (lastB e.path)) (t := []) (h.says.full _ hu1) (h.says.full _ heL) (by rw [hu2, ← hsp])
      have hin : u.e ∈ pre := by
        rw [hL] at hu1
        rcases List.mem_append.1 hu1 with h1 | h1
        · exact h1
        · rcases List.mem_cons.1 h1 with h1 | h1
          · rw [h1] at hlu; exact absurd hlu (ltE_self _)
          · exact absurd ((List.pairwise_cons.1 ho2).1 _ h1) (ltE_asymm hlu)
      cases hf : pre.find? (pathIs (parentB e.path)) with
      | none => exact absurd (pathIs_iff.2 hup) (by simpa using List.find?_eq_none.1 hf _ hin)
      | some y =>
        have hy1 := List.mem_of_find?_eq_some hf
        have hy2 : y.path = parentB e.path := pathIs_iff.1 (List.find?_some hf)
        obtain ⟨z, hz1, hz2⟩ := h.says.at' y (hpre y hy1)
        rw [hy2, hu] at hz1
        cases hz1
        simp [← hz2, huk]
  have hmany : manyN pre e = 0 := by
    unfold manyN
    rw [put_end hlt]
    have h1 := h.few
    have h2 := h.light
    rw [hL] at h1 h2
    have h3 : bytesL (pre ++ e :: r) = bytesL pre + (e.data.size + bytesL r) := by simp [bytesL]
    rw [h3] at h2
    simp at h1
    simp only
    rw [if_neg (by omega)]
  unfold oneN putN
  rw [if_neg (show ¬ (wrongN e ≠ 0) by simpa using hw), if_neg (show ¬ (ooN (lastP pre) e.path ≠ 0) by simpa using hoo), if_neg (show ¬ (upN pre e.path ≠ 0) by simpa using hup), hmany]
theorem TreeOf.check {W : World} {tb base : Nat} {F : Pic} {L : List Ent} (h : TreeOf W tb base F L) : (checkGo [] L).1 = 0 := by
  have main : ∀ r pre, L = pre ++ r → (checkGo pre r).1 = 0 := by
    intro r
    induction r with
    | nil => intro pre _; rfl
    | cons e r ih =>
      intro pre hL
      unfold checkGo
      rw [if_neg (show ¬ (oneN pre e ≠ 0) by simpa using h.one hL)]
      exact ih _ (by rw [hL]; simp)
  exact main L [] rfl
def notP (p : ByteArray) (e : Ent) : Bool := !pathIs p e
theorem but_laid {L : List Ent} (h : L.Pairwise ltE) (e : Ent) : (laidL L e).filter (notP e.path) = L.filter (notP e.path) := by
  refine srt_ext _ _ ((laid_order h e).sublist List.filter_sublist) (h.sublist List.filter_sublist) (fun x => ?_)
  have hn : notP e.path x = true ↔ x.path ≠ e.path := by
    unfold notP
    rw [Bool.not_eq_true', ← Bool.not_eq_true, pathIs_iff]
  rw [List.mem_filter, List.mem_filter, laid_mem, hn]
  constructor
  · rintro ⟨rfl | ⟨h1, h2⟩, h3⟩
    · exact absurd rfl h3
    · exact ⟨h1, h3⟩
  · rintro ⟨h1, h2⟩
    exact ⟨.inr ⟨h1, h2⟩, h2⟩
theorem find_laid {L : List Ent} {e : Ent} : (laidL L e).find? (pathIs e.path) = some e := by
  unfold laidL
  rw [List.find?_append, List.find?_eq_none.2 (fun x hx => by
    have h1 := (List.mem_filter.1 hx).2
    simp at h1
    intro hp
    rw [pathIs_iff.1 hp, order_self] at h1; omega)]
  have : pathIs e.path e = true := pathIs_iff.2 rfl
  simp [List.find?, this]
/-- What stays, by the statement's words. -/
def keptB (p : ByteArray) (e : Ent) : Bool := !pathIs p e && !belowB p e.path
theorem prefix_below {p q : ByteArray} (hp : p.size ≠ 0) (hq : q.size ≠ 0) : (namesP p).isPrefixOf (namesP q) = (un q == un p || belowB p q) := by
  have hpe : p.toList.isEmpty = false := (isEmpty_false p).2 (by omega)
  rw [Bool.eq_iff_iff, List.isPrefixOf_iff_prefix, Bool.or_eq_true, beq_iff_eq]
  constructor
  · rintro ⟨t, ht⟩
    cases t with
    | nil => left; rw [List.append_nil] at ht; rw [names_inj hp hq ht]
    | cons y t =>
      right
      refine pieces_below hpe (u := (y :: t).map bs) (by simp) ?_
      rw [pieces_names hp, pieces_names hq, ← ht, List.map_append]
  · rintro (h | h)
    · rw [un_inj h]; exact List.prefix_refl _
    · obtain ⟨t, ht⟩ := (below_iff hpe).1 h
      unfold namesP
      rw [if_neg hp, if_neg hq, ht, cut_append]
      exact List.prefix_append _ _
theorem kept_gone {F : Pic} {L : List Ent} (h : Says F L) {p : ByteArray} (hp : p.size ≠ 0) : L.filter (keptB p) = goneL L (namesP p) := by
  unfold goneL
  refine List.filter_congr (fun e he => ?_)
  unfold keptB pathIs
  rw [prefix_below hp (h.full e he)]
  simp
end Go.Proofs.YtkaegdmkpjmfeabGreatDoor

namespace Go.Proofs.YtkaegdmkpjmfeabGreatDoor
open Go Go.RowKit

variable {W : World} {tb base : Nat} {F : Pic} {L : List Ent}
theorem get_of_mem (h : TreeOf W tb base F L) {e : Ent} (he : e ∈ L) : getE L e.path = some e := by
  have hf := h.says.full e he
  unfold getE
  rw [if_neg hf]
  rcases h.says.at_text hf with ⟨h1, _⟩ | ⟨x, h1, h2⟩
  · obtain ⟨x, hx, _⟩ := h.says.at' e he
    rw [hx] at h1; cases h1
  · obtain ⟨y, hy, hye⟩ := h.says.at' e he
    rw [hy] at h1; cases h1
    rw [h2, hye]
theorem kind_range {e : Ent} (h : wrongN e = 0) : e.kind = 1 ∨ e.kind = 2 ∨ e.kind = 3 := by
  unfold wrongN at h
  split at h
  · omega
  · rename_i hh; omega
/-- What stands above an entry is a directory. -/
theorem tree_parent (h : TreeOf W tb base F L) {e : Ent} (he : e ∈ L) : (parentB e.path).size = 0 ∨ ∃ u ∈ L, u.path = parentB e.path ∧ u.kind = 1 := by
  by_cases hz : (parentB e.path).size = 0
  · exact .inl hz
  · right
    obtain ⟨x, hx, _⟩ := h.says.at' e he
    have hsp := names_split (wrong_check (h.right e he))
    obtain ⟨u, hu⟩ : ∃ u, F (namesP (parentB e.path)) = some u := by
      cases hq : F (namesP (parentB e.path)) with
      | some u => exact ⟨u, rfl⟩
      | none =>
        have := h.says.gone _ (un (lastB e.path)) hq
        rw [hsp, hx] at this; cases this
    have huk : u.e.kind = 1 := by
      by_cases hk : u.e.kind = 1
      · exact hk
      · have hm := (h.at'.kinds _ u hu).2 hk
        have := h.at'.tree.leaf _ u (un (lastB e.path)) hu hm
        rw [hsp, hx] at this; cases this
    obtain ⟨hu1, hu2⟩ := h.says.of' _ u (names_ne hz) hu
    exact ⟨u.e, hu1, names_inj (h.says.full _ hu1) hz hu2, huk⟩
theorem size_zero {p : ByteArray} (h : p.size = 0) : p = ⟨#[]⟩ := un_inj (by
  have : (un p).length = 0 := by rw [un_length]; exact h
  rw [List.eq_nil_of_length_eq_zero this]; rfl)
theorem parent_root : parentB ⟨#[]⟩ = ⟨#[]⟩ := size_zero (Nat.le_zero.1 (parentB_size ⟨#[]⟩))
/-- Where the walk stands. -/
def Inv (L : List Ent) (m : Mn) (st : St) : Prop := st.L = L ∧ (st.here = ⟨#[]⟩ ∨ ∃ e, getE L st.here = some e ∧ (st.left ≠ [] → e.kind = 1) ∧ (e.kind = 3 → m.stay = true))
theorem inv_step (h : TreeOf W tb base F L) {m : Mn} {st : St} {c : ByteArray} {rest : List ByteArray} (hm : m.ab = 0) (hi : Inv L m st) (hl : st.left = c :: rest) (h0 : (stepN m st c rest).1 = 0) : Inv L m (stepN m st c rest).2 := by
  obtain ⟨hL, hh⟩ := hi
  have hne : st.left ≠ [] := by rw [hl]; simp
  have hdir : st.here = ⟨#[]⟩ ∨ ∃ e ∈ L, e.path = st.here ∧ e.kind = 1 := by
    rcases hh with hh | ⟨e, he, h1, _⟩
    · exact .inl hh
    · obtain ⟨m1, m2, _⟩ := get_mem he
      exact .inr ⟨e, m1, m2, h1 hne⟩
  unfold stepN at h0 ⊢
  split
  · refine ⟨hL, ?_⟩
    rcases hh with hh | ⟨e, he, h1, h2⟩
    · exact .inl hh
    · exact .inr ⟨e, he, fun _ => h1 hne, h2⟩
  · rename_i n1
    rw [if_neg n1] at h0
    split
    · refine ⟨hL, ?_⟩
      rcases hdir with hh | ⟨e, he, hp, hk⟩
      · left; show parentB st.here = _; rw [hh]; exact parent_root
      · rcases tree_parent h he with hz | ⟨u, hu, hup, huk⟩
        · left; show parentB st.here = _; rw [← hp]; exact size_zero hz
        · right
          refine ⟨u, ?_, fun _ => huk, fun hk3 => by omega⟩
          show getE L (parentB st.here) = _
          rw [← hp, ← hup]; exact get_of_mem h hu
    · rename_i n2
      rw [if_neg n2] at h0
      rw [hL] at h0 ⊢
      cases hg : getE L (joinB st.here c) with
      | none =>
        rw [hg] at h0
        simp only [absN, hm] at h0
        omega
      | some e =>
        rw [hg] at h0
        simp only at h0 ⊢
        obtain ⟨he, _, _⟩ := get_mem hg
        have hkr := kind_range (h.right e he)
        unfold thereN at h0 ⊢
        by_cases h3 : isFile m e rest = true
        · rw [if_pos h3] at h0; simp at h0
        · rw [if_neg h3] at h0 ⊢
          by_cases h4 : isLink m e rest = true
          · rw [if_pos h4] at h0 ⊢
            unfold linkS at h0 ⊢
            by_cases h5 : st.hops = 40
            · rw [if_pos h5] at h0; simp at h0
            · rw [if_neg h5]
              refine ⟨hL, ?_⟩
              by_cases hs : slashed e.link = true
              · left; show (if slashed e.link then _ else _) = _; rw [if_pos hs]
              · rw [show (if slashed e.link then (⟨#[]⟩ : ByteArray) else st.here) = st.here from if_neg hs]
                rcases hdir with hh | ⟨d, hd, hp, hk⟩
                · exact .inl hh
                · exact .inr ⟨d, by show getE L st.here = _; rw [← hp]; exact get_of_mem h hd, fun _ => hk, fun hk3 => by omega⟩
          · rw [if_neg h4]
            refine ⟨hL, .inr ⟨e, hg, fun hr => ?_, fun hk3 => ?_⟩⟩
            · have hr' : rest.isEmpty = false := by cases rest with | nil => exact absurd rfl hr | cons a b => rfl
              rcases hkr with hk | hk | hk
              · exact hk
              · exact absurd (by unfold isFile; rw [hk, hr']; simp) h3
              · exact absurd (by unfold isLink; rw [hk, hr']; simp) h4
            · cases hst : m.stay with
              | true => rfl
              | false => exact absurd (by unfold isLink; rw [hk3, hst]; simp) h4
theorem inv_go (h : TreeOf W tb base F L) {m : Mn} (hm : m.ab = 0) : ∀ (f : Nat) (st : St), Inv L m st → (goF m f st).1 = 0 → Inv L m (goF m f st).2.1
  | 0, st, hi, _ => hi
  | f + 1, st, hi, h0 => by
    cases hl : st.left with
    | nil => rw [goF_nil hl]; exact hi
    | cons c rest =>
      by_cases hs : (stepN m st c rest).1 = 0
      · rw [goF_ok hl hs] at h0 ⊢
        exact inv_go h hm f _ (inv_step h hm hi hl hs) h0
      · rw [goF_err hl hs] at h0
        exact absurd h0 hs
/-- The walk ends with all its pieces taken. -/
theorem go_left {m : Mn} {B : Nat} : ∀ (f : Nat) (st : St), Good B st → Right st.L → msr st < f → (goF m f st).1 = 0 → (goF m f st).2.1.left = []
  | 0, st, _, _, h, _ => by omega
  | f + 1, st, hg, hr, hf, h0 => by
    cases hl : st.left with
    | nil => rw [goF_nil hl]; exact hl
    | cons c rest =>
      by_cases hs : (stepN m st c rest).1 = 0
      · rw [goF_ok hl hs] at h0 ⊢
        obtain ⟨q1, q2⟩ := step_good hg hl hr hs
        have := (step_msr m st c rest hl (right_short hr) hg.hh hs).1
        exact go_left f _ q1 q2 (by omega) h0
      · rw [goF_err hl hs] at h0
        exact absurd h0 hs
theorem step_errs {m : Mn} {st : St} {c : ByteArray} {rest : List ByteArray} (hm : m.ab = 0) (h0 : (stepN m st c rest).1 ≠ 0) : (stepN m st c rest).1 = 10 ∨ (stepN m st c rest).1 = 13 ∨ (stepN m st c rest).1 = 12 := by
  unfold stepN at h0 ⊢
  split
  · rename_i h1; rw [if_pos h1] at h0; exact absurd rfl h0
  · rename_i h1
    rw [if_neg h1] at h0
    split
    · rename_i h2; rw [if_pos h2] at h0; exact absurd rfl h0
    · rename_i h2
      rw [if_neg h2] at h0
      cases hg : getE st.L (joinB st.here c) with
      | none => simp only [absN, hm]; exact .inl trivial
      | some e =>
        rw [hg] at h0
        simp only at h0 ⊢
        unfold thereN at h0 ⊢
        by_cases h3 : isFile m e rest = true
        · rw [if_pos h3]; exact .inr (.inl rfl)
        · rw [if_neg h3] at h0 ⊢
          by_cases h4 : isLink m e rest = true
          · rw [if_pos h4] at h0 ⊢
            unfold linkS at h0 ⊢
            by_cases h5 : st.hops = 40
            · rw [if_pos h5]; exact .inr (.inr rfl)
            · rw [if_neg h5] at h0; exact absurd rfl h0
          · rw [if_neg h4] at h0; exact absurd rfl h0
theorem go_errs {m : Mn} (hm : m.ab = 0) : ∀ (f : Nat) (st : St), (goF m f st).1 ≠ 0 → (goF m f st).1 = 10 ∨ (goF m f st).1 = 13 ∨ (goF m f st).1 = 12
  | 0, st, h => absurd rfl h
  | f + 1, st, h => by
    cases hl : st.left with
    | nil => rw [goF_nil hl] at h; exact absurd rfl h
    | cons c rest =>
      by_cases hs : (stepN m st c rest).1 = 0
      · rw [goF_ok hl hs] at h ⊢
        exact go_errs hm f _ h
      · rw [goF_err hl hs]
        exact step_errs hm hs
theorem name_facts {x : ByteArray} (h : nameN x = 0) : x.size ≠ 0 ∧ x ≠ dotB ∧ x ≠ ddB := by
  refine ⟨name_full h, fun e => ?_, fun e => ?_⟩
  · subst e
    unfold nameN at h
    simp only [toList_un] at h
    revert h; decide +kernel
  · subst e
    unfold nameN at h
    simp only [toList_un] at h
    revert h; decide +kernel
/-- A name behind a path. -/
theorem names_join {q y : ByteArray} (hy : (47 : UInt8) ∉ un y) (h0 : y.size ≠ 0) : namesP (joinB q y) = namesP q ++ [un y] ∧ (joinB q y).size ≠ 0 := by
  unfold joinB
  by_cases hq : q.size = 0
  · rw [if_pos ((isEmpty_iff q).2 hq)]
    refine ⟨?_, h0⟩
    unfold namesP
    rw [if_neg h0, if_pos hq, cut_noslash hy]; rfl
  · have hqe : q.toList.isEmpty = false := (isEmpty_false q).2 (by omega)
    rw [if_neg (by rw [hqe]; simp)]
    have hsz : (q ++ ⟨#[47]⟩ ++ y).size ≠ 0 := by rw [ByteArray.size_append, ByteArray.size_append]; omega
    refine ⟨?_, hsz⟩
    unfold namesP
    rw [if_neg hsz, if_neg hq, un_append, un_append, show un (ByteArray.mk #[47]) = [47] from rfl, List.append_assoc, show [47] ++ un y = 47 :: un y from rfl, cut_append, cut_noslash hy]
theorem cut_mem_noslash (l : List UInt8) : ∀ x ∈ cutL l, (47 : UInt8) ∉ x := by
  induction l with
  | nil => simp [cutL]
  | cons c l ih =>
    intro x hx
    unfold cutL at hx
    split at hx
    · rcases List.mem_cons.1 hx with rfl | hx
      · simp
      · exact ih x hx
    · rename_i hc
      have hne := cutL_ne l
      rcases hcl : cutL l with _ | ⟨y, ys⟩
      · exact absurd hcl hne
      · rw [hcl] at hx ih
        simp only [List.headD_cons, List.tail_cons] at hx
        rcases List.mem_cons.1 hx with rfl | hx
        · intro hm
          rcases List.mem_cons.1 hm with h1 | h1
          · exact hc (by rw [← h1]; rfl)
          · exact ih y (by simp) h1
        · exact ih x (by simp [hx])
/-- A path lies at these names. -/
def AtN (F : Pic) (ns : List (List UInt8)) (q : ByteArray) : Prop := namesP q = ns ∧ (q = ⟨#[]⟩ ∨ ∃ x, F ns = some x ∧ x.e.path = q)
/-- Down the names of a tree one comes to what lies there. -/
theorem way_down (h : TreeOf W tb base F L) {m : Mn} {z : Nd} (hops : Nat) (made : List ByteArray) : ∀ (rest : List ByteArray) (ns : List (List UInt8)) (q : ByteArray) (f : Nat), namesP q = ns → F (ns ++ rest.map un) = some z → (∀ y ∈ rest, (47 : UInt8) ∉ un y ∧ y.size ≠ 0 ∧ y ≠ dotB ∧ y ≠ ddB) → (z.e.kind = 2 → m.dirs = false) → (z.e.kind = 3 → m.stay = true) → rest.length < f →
    ∃ p tr, goF m f { L := L, here := q, left := rest, hops := hops, made := made } = (0, { L := L, here := p, left := [], hops := hops, made := made }, tr) ∧ namesP p = ns ++ rest.map un ∧ (rest ≠ [] → p.size ≠ 0) ∧ (rest = [] → p = q)
  | [], ns, q, f, hq, hz, _, _, _, _ => ⟨q, [], goF_nil rfl, by simpa using hq, fun h => absurd rfl h, fun _ => rfl⟩
  | y :: rest, ns, q, 0, _, _, _, _, _, hf => by simp at hf
  | y :: rest, ns, q, f + 1, hq, hz, hy, hfile, hlink, hf => by
    obtain ⟨y1, y2, y3, y4⟩ := hy y (by simp)
    obtain ⟨j1, j2⟩ := names_join (q := q) y1 y2
    rw [hq] at j1
    have hz' : F ((ns ++ [un y]) ++ rest.map un) = some z := by simpa using hz
    obtain ⟨x, hx⟩ : ∃ x, F (ns ++ [un y]) = some x := h.at'.tree.ahead hz'
    obtain ⟨x1, x2⟩ := h.says.of' _ x (by simp) hx
    have hp : x.e.path = joinB q y := names_inj (h.says.full _ x1) j2 (by rw [x2, j1])
    have hg : getE L (joinB q y) = some x.e := by rw [← hp]; exact get_of_mem h x1
    have hst : stepN m { L := L, here := q, left := y :: rest, hops := hops, made := made } y rest = (0, { L := L, here := joinB q y, left := rest, hops := hops, made := made }) := by
      unfold stepN
      rw [if_neg y3, if_neg y4]
      simp only [hg]
      have hkind : rest ≠ [] → x.e.kind = 1 := fun hr => by
        by_cases hk : x.e.kind = 1
        · exact hk
        · have hm := (h.at'.kinds _ x hx).2 hk
          rcases rest with _ | ⟨y', r'⟩
          · exact absurd rfl hr
          · have := h.at'.tree.leaf _ x (un y') hx hm
            have h2 := h.at'.tree.gone_all this (r'.map un)
            rw [show (ns ++ [un y] ++ [un y']) ++ r'.map un = (ns ++ [un y]) ++ (y' :: r').map un by simp] at h2
            rw [h2] at hz'; cases hz'
      have hxz : rest = [] → x = z := fun hr => by
        subst hr
        rw [List.map_nil, List.append_nil, hx] at hz'
        exact Option.some.inj hz'
      unfold thereN
      have f1 : isFile m x.e rest = false := by
        unfold isFile
        rcases rest with _ | ⟨y', r'⟩
        · by_cases hk : x.e.kind = 2
          · have := hxz rfl
            subst this
            rw [hfile hk]; simp
          · rw [show (x.e.kind == 2) = false by simpa using hk]; rfl
        · rw [hkind (by simp)]; rfl
      have f2 : isLink m x.e rest = false := by
        unfold isLink
        rcases rest with _ | ⟨y', r'⟩
        · by_cases hk : x.e.kind = 3
          · have := hxz rfl
            subst this
            rw [hlink hk]; simp
          · rw [show (x.e.kind == 3) = false by simpa using hk]; rfl
        · rw [hkind (by simp)]; rfl
      rw [if_neg (by rw [f1]; simp), if_neg (by rw [f2]; simp)]
    obtain ⟨p, tr, g1, g2, g3, g4⟩ := way_down h hops made rest (ns ++ [un y]) (joinB q y) f j1 hz' (fun v hv => hy v (by simp [hv])) hfile hlink (by simp at hf; omega)
    refine ⟨p, joinB q y :: tr, ?_, by rw [g2]; simp, fun _ => ?_, fun h => by cases h⟩
    · rw [goF_ok (c := y) (rest := rest) rfl (by rw [hst]), hst, g1]
    · by_cases hr : rest = []
      · rw [g4 hr]; exact j2
      · exact g3 hr
/-- A path of the tree leads to itself. -/
theorem find_self (h : TreeOf W tb base F L) {e : Ent} (he : e ∈ L) {stay : Bool} (hs : e.kind = 3 → stay = true) : (goN ⟨0, false, stay⟩ (start L e.path)).1 = 0 ∧ (goN ⟨0, false, stay⟩ (start L e.path)).2.1.here = e.path := by
  obtain ⟨z, hz, hze⟩ := h.says.at' e he
  obtain ⟨c1, c2, c3⟩ := check_facts (wrong_check (h.right e he))
  have hnm : namesB e.path = (namesP e.path).map bs := by
    unfold namesB
    rw [← pieces_names c1]
    refine List.filter_eq_self.2 (fun x hx => ?_)
    unfold full
    rw [(isEmpty_false x).2 (by have := name_full (c3 x hx); omega)]; rfl
  have hun : (namesB e.path).map un = namesP e.path := by rw [hnm, List.map_map]; simp [Function.comp_def, un_bs]
  obtain ⟨p, tr, g1, g2, g3, _⟩ := way_down (m := ⟨0, false, stay⟩) h 0 [] (namesB e.path) [] ⟨#[]⟩ (msr (start L e.path) + 1) rfl (by rw [hun]; exact hz)
    (fun y hy => by
      have hy' : y ∈ piecesB e.path := (List.mem_filter.1 hy).1
      obtain ⟨n1, n2, n3⟩ := name_facts (c3 y hy')
      refine ⟨?_, n1, n2, n3⟩
      unfold piecesB at hy'
      obtain ⟨l, hl, rfl⟩ := List.mem_map.1 hy'
      rw [un_bs]
      exact cut_mem_noslash _ l hl) (fun _ => rfl) (fun hk => hs (by rw [← hze]; exact hk)) (by
      show (namesB e.path).length < (namesB e.path).length + 200 * (40 - 0) + 1; omega)
  have : goN ⟨0, false, stay⟩ (start L e.path) = _ := g1
  rw [this]
  refine ⟨rfl, ?_⟩
  have hp : p.size ≠ 0 := g3 (fun e0 => by
    have := names_ne c1
    rw [← hun, e0] at this
    exact this rfl)
  exact names_inj hp c1 (by rw [g2, hun]; rfl)
theorem find_root (L : List Ent) (stay : Bool) : (goN ⟨0, false, stay⟩ (start L ⟨#[]⟩)).1 = 0 ∧ (goN ⟨0, false, stay⟩ (start L ⟨#[]⟩)).2.1.here = ⟨#[]⟩ := by
  have hn : (start L ⟨#[]⟩).left = [] := by
    show namesB ⟨#[]⟩ = []
    simp only [namesB]; decide +kernel
  unfold goN
  rw [goF_nil hn]
  exact ⟨rfl, rfl⟩
end Go.Proofs.YtkaegdmkpjmfeabGreatDoor

namespace Go.Proofs.YtkaegdmkpjmfeabGreatDoor
open Go Go.RowKit

variable {W : World} {tb base : Nat} {F : Pic} {L : List Ent}
theorem names_two (a b : ByteArray) : namesB (a ++ ⟨#[47]⟩ ++ b) = namesB a ++ namesB b := by
  unfold namesB piecesB
  rw [un_append, un_append, show un (ByteArray.mk #[47]) = [47] from rfl, List.append_assoc, show [47] ++ un b = 47 :: un b from rfl, cut_append, List.map_append, List.filter_append]
/-- A walk with more pieces behind. -/
def St.more (st : St) (B : List ByteArray) : St := { st with left := st.left ++ B }
theorem step_both {stay : Bool} {st : St} {c : ByteArray} {r B : List ByteArray} (hB : B ≠ []) (hl : st.left = c :: r) (h0 : (stepN ⟨0, false, stay⟩ (st.more B) c (r ++ B)).1 = 0) :
    (stepN ⟨0, false, false⟩ st c r).1 = 0 ∧ stepN ⟨0, false, stay⟩ (st.more B) c (r ++ B) = (0, (stepN ⟨0, false, false⟩ st c r).2.more B) := by
  have hrB : (r ++ B).isEmpty = false := by
    cases B with
    | nil => exact absurd rfl hB
    | cons x xs => cases r <;> rfl
  unfold stepN at h0 ⊢
  by_cases h1 : c = dotB
  · rw [if_pos h1, if_pos h1]; exact ⟨rfl, rfl⟩
  · rw [if_neg h1] at h0 ⊢
    rw [if_neg h1]
    by_cases h2 : c = ddB
    · rw [if_pos h2, if_pos h2]; exact ⟨rfl, rfl⟩
    · rw [if_neg h2] at h0 ⊢
      rw [if_neg h2]
      have e1 : (st.more B).L = st.L := rfl
      have e2 : (st.more B).here = st.here := rfl
      rw [e1, e2] at h0 ⊢
      cases hg : getE st.L (joinB st.here c) with
      | none => rw [hg] at h0; simp [absN] at h0
      | some e =>
        rw [hg] at h0
        simp only at h0 ⊢
        unfold thereN at h0 ⊢
        have f1 : isFile ⟨0, false, stay⟩ e (r ++ B) = (e.kind == 2) := by unfold isFile; rw [hrB]; simp
        have f2 : isLink ⟨0, false, stay⟩ e (r ++ B) = (e.kind == 3) := by unfold isLink; rw [hrB]; simp
        have f3 : isLink ⟨0, false, false⟩ e r = (e.kind == 3) := by unfold isLink; simp
        rw [f1, f2] at h0 ⊢
        rw [f3]
        cases k2 : (e.kind == 2) with
        | true => rw [k2] at h0; simp at h0
        | false =>
          have f4 : isFile ⟨0, false, false⟩ e r = false := by unfold isFile; rw [k2]; rfl
          rw [k2] at h0
          rw [f4]
          simp only [Bool.false_eq_true, if_false] at h0 ⊢
          cases k3 : (e.kind == 3) with
          | true =>
            rw [k3] at h0
            simp only [if_true] at h0 ⊢
            unfold linkS at h0 ⊢
            have e3 : (st.more B).hops = st.hops := rfl
            rw [e3] at h0 ⊢
            by_cases h5 : st.hops = 40
            · rw [if_pos h5] at h0; simp at h0
            · rw [if_neg h5, if_neg h5]
              refine ⟨rfl, ?_⟩
              simp [St.more]
          | false => simp only [Bool.false_eq_true, if_false]; refine ⟨?_, ?_⟩ <;> first | rfl | trivial
theorem list_cases {α : Type} (l : List α) : l = [] ∨ ∃ c r, l = c :: r := by
  cases l with
  | nil => exact .inl rfl
  | cons c r => exact .inr ⟨c, r, rfl⟩
theorem split_walk (hT : TreeOf W tb base F L) {stay : Bool} {B : List ByteArray} (hB : B ≠ []) (X : Nat) : ∀ (f : Nat) (st : St), st.L = L → st.made = [] → st.hops ≤ 40 → Inv L ⟨0, false, stay⟩ (st.more B) → msr (st.more B) + 1 + X ≤ f → (goF ⟨0, false, stay⟩ f (st.more B)).1 = 0 →
    ∃ (p : ByteArray) (h : Nat) (tr : Nat → List ByteArray) (g : Nat), Inv L ⟨0, false, stay⟩ { L := L, here := p, left := B, hops := h, made := [] } ∧ (∀ f', msr st < f' → goF ⟨0, false, false⟩ f' st = (0, { L := L, here := p, left := [], hops := h, made := [] }, tr f')) ∧ X + 1 ≤ g ∧ h ≤ 40 ∧ goF ⟨0, false, stay⟩ g { L := L, here := p, left := B, hops := h, made := [] } = (0, (goF ⟨0, false, stay⟩ f (st.more B)).2.1, (goF ⟨0, false, stay⟩ g { L := L, here := p, left := B, hops := h, made := [] }).2.2)
  | 0, st, _, _, _, _, hf, _ => by omega
  | f + 1, st, hL, hM, hh, hi, hf, h0 => by
    rcases list_cases st.left with hl | ⟨c, r, hl⟩
    · have e : st.more B = { L := L, here := st.here, left := B, hops := st.hops, made := [] } := by
        unfold St.more; rw [hl, hL, hM]; rfl
      refine ⟨st.here, st.hops, fun _ => [], f + 1, by rw [← e]; exact hi, fun f' _ => ?_, by omega, hh, ?_⟩
      · rw [goF_nil hl]
        obtain ⟨sL, sh, sl, so, sm⟩ := st
        simp only at hl hL hM
        subst hl hL hM
        rfl
      · rw [← e]
        rw [show goF ⟨0, false, stay⟩ (f + 1) (st.more B) = ((goF ⟨0, false, stay⟩ (f + 1) (st.more B)).1, (goF ⟨0, false, stay⟩ (f + 1) (st.more B)).2.1, (goF ⟨0, false, stay⟩ (f + 1) (st.more B)).2.2) from rfl, h0]
    · have hml : (st.more B).left = c :: (r ++ B) := by unfold St.more; rw [hl]; rfl
      by_cases hs : (stepN ⟨0, false, stay⟩ (st.more B) c (r ++ B)).1 = 0
      · obtain ⟨s1, s2⟩ := step_both hB hl hs
        have hk := step_keeps (m := ⟨0, false, false⟩) rfl s1
        have hm1 := (step_msr _ (st.more B) c (r ++ B) hml (right_short (by show Right st.L; rw [hL]; exact hT.right)) hh hs).1
        have hm2 := step_msr ⟨0, false, false⟩ st c r hl (right_short (by rw [hL]; exact hT.right)) hh s1
        have hi2 := inv_step hT rfl hi hml hs
        rw [s2] at hm1 hi2
        rw [goF_ok hml hs, s2] at h0 ⊢
        obtain ⟨p, h, tr, g, q0, q1, q2, q3, q4⟩ := split_walk hT hB X f _ (hk.1.trans hL) (hk.2.trans hM) hm2.2 hi2 (by simp only at hm1; omega) h0
        refine ⟨p, h, fun f' => (stepN ⟨0, false, false⟩ st c r).2.here :: tr (f' - 1), g, q0, fun f' hf' => ?_, q2, q3, q4⟩
        obtain ⟨f', rfl⟩ : ∃ k, f' = k + 1 := ⟨f' - 1, by omega⟩
        rw [goF_ok hl s1, q1 f' (by omega)]
        rfl
      · rw [goF_err hml hs] at h0
        exact absurd h0 hs
/-- With fewer links behind it a walk goes as well. -/
theorem fewer {stay : Bool} : ∀ (f : Nat) (st : St) (h' : Nat), h' ≤ st.hops → st.hops ≤ 40 → (goF ⟨0, false, stay⟩ f st).1 = 0 → (goF ⟨0, false, stay⟩ f { st with hops := h' }).1 = 0 ∧ (goF ⟨0, false, stay⟩ f { st with hops := h' }).2.1.here = (goF ⟨0, false, stay⟩ f st).2.1.here
  | 0, st, h', _, _, _ => ⟨rfl, rfl⟩
  | f + 1, st, h', hle, h40, h0 => by
    rcases list_cases st.left with hl | ⟨c, r, hl⟩
    · rw [goF_nil hl, goF_nil (st := { st with hops := h' }) hl]; exact ⟨rfl, rfl⟩
    · by_cases hs : (stepN ⟨0, false, stay⟩ st c r).1 = 0
      · have key : ∃ h2, h2 ≤ (stepN ⟨0, false, stay⟩ st c r).2.hops ∧ (stepN ⟨0, false, stay⟩ st c r).2.hops ≤ 40 ∧ stepN ⟨0, false, stay⟩ { st with hops := h' } c r = (0, { (stepN ⟨0, false, stay⟩ st c r).2 with hops := h2 }) := by
          unfold stepN at hs ⊢
          by_cases h1 : c = dotB
          · rw [if_pos h1, if_pos h1]; exact ⟨h', hle, h40, rfl⟩
          · rw [if_neg h1] at hs ⊢
            rw [if_neg h1]
            by_cases h2 : c = ddB
            · rw [if_pos h2, if_pos h2]; exact ⟨h', hle, h40, rfl⟩
            · rw [if_neg h2] at hs ⊢
              rw [if_neg h2]
              simp only at hs ⊢
              cases hg : getE st.L (joinB st.here c) with
              | none => rw [hg] at hs; simp [absN] at hs
              | some e =>
                rw [hg] at hs
                simp only at hs ⊢
                unfold thereN at hs ⊢
                by_cases h3 : isFile ⟨0, false, stay⟩ e r = true
                · rw [if_pos h3] at hs; simp at hs
                · rw [if_neg h3] at hs ⊢
                  rw [if_neg h3]
                  by_cases h4 : isLink ⟨0, false, stay⟩ e r = true
                  · rw [if_pos h4] at hs ⊢
                    rw [if_pos h4]
                    unfold linkS at hs ⊢
                    by_cases h5 : st.hops = 40
                    · rw [if_pos h5] at hs; simp at hs
                    · rw [if_neg h5, if_neg (show ¬ h' = 40 by omega)]
                      exact ⟨h' + 1, by show h' + 1 ≤ st.hops + 1; omega, by show st.hops + 1 ≤ 40; omega, rfl⟩
                  · rw [if_neg h4, if_neg h4]; exact ⟨h', hle, h40, rfl⟩
        obtain ⟨h2, k1, k2, k3⟩ := key
        rw [goF_ok hl hs] at h0 ⊢
        rw [goF_ok (st := { st with hops := h' }) hl (by rw [k3]), k3]
        exact fewer f _ h2 k1 k2 h0
      · rw [goF_err hl hs] at h0
        exact absurd h0 hs
/-- Down the names of a directory of the tree, and on. -/
theorem way_on (h : TreeOf W tb base F L) {m : Mn} {z : Nd} (B : List ByteArray) (hB : B ≠ []) (hops : Nat) (f : Nat) : ∀ (rest : List ByteArray) (ns : List (List UInt8)) (q : ByteArray), namesP q = ns → F (ns ++ rest.map un) = some z → z.e.kind = 1 → (∀ y ∈ rest, (47 : UInt8) ∉ un y ∧ y.size ≠ 0 ∧ y ≠ dotB ∧ y ≠ ddB) →
    ∃ p tr, goF m (f + rest.length) { L := L, here := q, left := rest ++ B, hops := hops, made := [] } = ((goF m f { L := L, here := p, left := B, hops := hops, made := [] }).1, (goF m f { L := L, here := p, left := B, hops := hops, made := [] }).2.1, tr) ∧ namesP p = ns ++ rest.map un ∧ (rest ≠ [] → p.size ≠ 0) ∧ (rest = [] → p = q)
  | [], ns, q, hq, hz, _, _ => ⟨q, _, rfl, by simpa using hq, fun h => absurd rfl h, fun _ => rfl⟩
  | y :: rest, ns, q, hq, hz, hzk, hy => by
    obtain ⟨y1, y2, y3, y4⟩ := hy y (by simp)
    obtain ⟨j1, j2⟩ := names_join (q := q) y1 y2
    rw [hq] at j1
    have hz' : F ((ns ++ [un y]) ++ rest.map un) = some z := by simpa using hz
    obtain ⟨x, hx⟩ : ∃ x, F (ns ++ [un y]) = some x := h.at'.tree.ahead hz'
    obtain ⟨x1, x2⟩ := h.says.of' _ x (by simp) hx
    have hp : x.e.path = joinB q y := names_inj (h.says.full _ x1) j2 (by rw [x2, j1])
    have hg : getE L (joinB q y) = some x.e := by rw [← hp]; exact get_of_mem h x1
    have hxk : x.e.kind = 1 := by
      rcases rest with _ | ⟨y', r'⟩
      · rw [List.map_nil, List.append_nil, hx] at hz'
        rw [Option.some.inj hz']; exact hzk
      · by_cases hk : x.e.kind = 1
        · exact hk
        · have hm := (h.at'.kinds _ x hx).2 hk
          have := h.at'.tree.leaf _ x (un y') hx hm
          have h2 := h.at'.tree.gone_all this (r'.map un)
          rw [show (ns ++ [un y] ++ [un y']) ++ r'.map un = (ns ++ [un y]) ++ (y' :: r').map un by simp] at h2
          rw [h2] at hz'; cases hz'
    have hst : stepN m { L := L, here := q, left := y :: (rest ++ B), hops := hops, made := [] } y (rest ++ B) = (0, { L := L, here := joinB q y, left := rest ++ B, hops := hops, made := [] }) := by
      unfold stepN
      rw [if_neg y3, if_neg y4]
      simp only [hg]
      unfold thereN isFile isLink
      rw [hxk]
      rfl
    obtain ⟨p, tr, g1, g2, g3, g4⟩ := way_on h B hB hops f rest (ns ++ [un y]) (joinB q y) j1 hz' hzk (fun v hv => hy v (by simp [hv]))
    refine ⟨p, joinB q y :: tr, ?_, by rw [g2]; simp, fun _ => ?_, fun h => by cases h⟩
    · rw [show f + (y :: rest).length = (f + rest.length) + 1 by simp; omega, List.cons_append, goF_ok (c := y) (rest := rest ++ B) rfl (by rw [hst]), hst, g1]
    · by_cases hr : rest = []
      · rw [g4 hr]; exact j2
      · exact g3 hr
theorem names_good {e : Ent} (hw : wrongN e = 0) : (namesB e.path).map un = namesP e.path ∧ ∀ y ∈ namesB e.path, (47 : UInt8) ∉ un y ∧ y.size ≠ 0 ∧ y ≠ dotB ∧ y ≠ ddB := by
  obtain ⟨c1, c2, c3⟩ := check_facts (wrong_check hw)
  have hnm : namesB e.path = (namesP e.path).map bs := by
    unfold namesB
    rw [← pieces_names c1]
    refine List.filter_eq_self.2 (fun x hx => ?_)
    unfold full
    rw [(isEmpty_false x).2 (by have := name_full (c3 x hx); omega)]; rfl
  refine ⟨by rw [hnm, List.map_map]; simp [Function.comp_def, un_bs], fun y hy => ?_⟩
  have hy' : y ∈ piecesB e.path := (List.mem_filter.1 hy).1
  obtain ⟨n1, n2, n3⟩ := name_facts (c3 y hy')
  refine ⟨?_, n1, n2, n3⟩
  unfold piecesB at hy'
  obtain ⟨l, hl, rfl⟩ := List.mem_map.1 hy'
  rw [un_bs]
  exact cut_mem_noslash _ l hl
/-- THE WAY GOES ON. -/
theorem goes_on (h : TreeOf W tb base F L) {stay : Bool} {a b : ByteArray} (hb : namesB b ≠ []) (h0 : (goN ⟨0, false, stay⟩ (start L (a ++ ⟨#[47]⟩ ++ b))).1 = 0) :
    ∃ p, (goN ⟨0, false, false⟩ (start L a)).1 = 0 ∧ (goN ⟨0, false, false⟩ (start L a)).2.1.here = p ∧ p.size ≤ 255 ∧ (goN ⟨0, false, stay⟩ (start L (p ++ ⟨#[47]⟩ ++ b))).1 = 0 ∧ (goN ⟨0, false, stay⟩ (start L (p ++ ⟨#[47]⟩ ++ b))).2.1.here = (goN ⟨0, false, stay⟩ (start L (a ++ ⟨#[47]⟩ ++ b))).2.1.here := by
  have e1 : start L (a ++ ⟨#[47]⟩ ++ b) = (start L a).more (namesB b) := by unfold start St.more; rw [names_two]
  have hbig := goF_more (m := ⟨0, false, stay⟩) (msr (start L (a ++ ⟨#[47]⟩ ++ b)) + 1) (msr (start L (a ++ ⟨#[47]⟩ ++ b)) + 1 + ((namesB b).length + 8001)) _ (start_good L (a ++ ⟨#[47]⟩ ++ b)) h.right (by omega) (by omega)
  have h0' := h0
  unfold goN at h0
  rw [hbig, e1] at h0
  obtain ⟨p, hp, tr, g, q0, q1, q2, q3, q4⟩ := split_walk h hb ((namesB b).length + 8001) _ (start L a) rfl rfl (Nat.zero_le _) ⟨rfl, .inl rfl⟩ (Nat.le_refl _) h0
  have hA : goN ⟨0, false, false⟩ (start L a) = _ := q1 (msr (start L a) + 1) (by omega)
  have hpd : p = ⟨#[]⟩ ∨ ∃ e ∈ L, e.path = p ∧ e.kind = 1 := by
    obtain ⟨_, hh | ⟨e, he, hk, _⟩⟩ := q0
    · exact .inl hh
    · obtain ⟨m1, m2, _⟩ := get_mem he
      exact .inr ⟨e, m1, m2, hk hb⟩
  have hps : p.size ≤ 255 := by
    rcases hpd with rfl | ⟨e, he, rfl, _⟩
    · exact Nat.zero_le _
    · exact wrong_path (h.right e he)
  have hE : (goF ⟨0, false, stay⟩ (msr (start L (p ++ ⟨#[47]⟩ ++ b)) + 1) (start L (p ++ ⟨#[47]⟩ ++ b))).1 = (goF ⟨0, false, stay⟩ ((namesB b).length + 8001) { L := L, here := p, left := namesB b, hops := 0, made := [] }).1 ∧ (goF ⟨0, false, stay⟩ (msr (start L (p ++ ⟨#[47]⟩ ++ b)) + 1) (start L (p ++ ⟨#[47]⟩ ++ b))).2.1 = (goF ⟨0, false, stay⟩ ((namesB b).length + 8001) { L := L, here := p, left := namesB b, hops := 0, made := [] }).2.1 := by
    have e2 : start L (p ++ ⟨#[47]⟩ ++ b) = { L := L, here := ⟨#[]⟩, left := namesB p ++ namesB b, hops := 0, made := [] } := by unfold start; rw [names_two]
    have e3 : msr (start L (p ++ ⟨#[47]⟩ ++ b)) + 1 = ((namesB b).length + 8001) + (namesB p).length := by rw [e2]; unfold msr; simp; omega
    rw [e3, e2]
    rcases hpd with rfl | ⟨e, he, rfl, hk⟩
    · have hn : namesB ⟨#[]⟩ = [] := by simp only [namesB]; decide +kernel
      rw [hn]; exact ⟨rfl, rfl⟩
    · obtain ⟨z, hz, hze⟩ := h.says.at' e he
      obtain ⟨n1, n2⟩ := names_good (h.right e he)
      obtain ⟨p2, tr2, w1, w2, w3, _⟩ := way_on (m := ⟨0, false, stay⟩) h (namesB b) hb 0 ((namesB b).length + 8001) (namesB e.path) [] ⟨#[]⟩ rfl (by rw [n1]; exact hz) (by rw [hze]; exact hk) n2
      have hp2 : p2 = e.path := names_inj (w3 (fun e0 => by
        have := names_ne (h.says.full e he)
        rw [← n1, e0] at this
        exact this rfl)) (h.says.full e he) (by rw [w2, n1]; rfl)
      rw [w1, hp2]
      exact ⟨rfl, rfl⟩
  obtain ⟨u1, u2⟩ := fewer g { L := L, here := p, left := namesB b, hops := hp, made := [] } 0 (Nat.zero_le _) q3 (by rw [q4])
  have hG : Good (max b.size 100) { L := L, here := p, left := namesB b, hops := 0, made := [] } := ⟨Nat.le_max_right _ _, hps, fun c hc => Nat.le_trans (names_sz b c hc) (Nat.le_max_left _ _), by
    have := names_len b
    have := Nat.le_max_left b.size 100
    show (namesB b).length ≤ _
    simp; omega, Nat.zero_le _⟩
  have hmore := goF_more (m := ⟨0, false, stay⟩) g ((namesB b).length + 8001) _ hG h.right (by show (namesB b).length + 200 * (40 - 0) < g; omega) (by show (namesB b).length + 200 * (40 - 0) < _; omega)
  refine ⟨p, by rw [hA], by rw [hA], hps, ?_, ?_⟩
  · unfold goN
    rw [hE.1, ← hmore]; exact u1
  · unfold goN
    rw [hE.2, ← hmore]
    refine u2.trans ?_
    rw [q4, hbig, e1]
end Go.Proofs.YtkaegdmkpjmfeabGreatDoor

namespace Go.Proofs.YtkaegdmkpjmfeabGreatDoor
open Go Go.RowKit

variable {W : World} {tb base : Nat} {F : Pic} {L : List Ent}
def cntL (l : List (List UInt8)) : Nat := (l.filter fun x => !x.isEmpty).length
theorem cnt_cut (l : List UInt8) : 2 * cntL (cutL l).tail + ((cutL l).headD []).length ≤ l.length ∧ 2 * cntL (cutL l) ≤ l.length + 1 := by
  have second : ∀ l : List UInt8, 2 * cntL (cutL l).tail + ((cutL l).headD []).length ≤ l.length → 2 * cntL (cutL l) ≤ l.length + 1 := fun l h => by
    rcases hc : cutL l with _ | ⟨y, ys⟩
    · exact absurd hc (cutL_ne l)
    · rw [hc] at h
      simp only [List.tail_cons, List.headD_cons] at h
      unfold cntL at h ⊢
      rw [List.filter_cons]
      split
      · rename_i hy
        have : y.length ≠ 0 := fun e => by rw [List.eq_nil_of_length_eq_zero e] at hy; simp at hy
        simp; omega
      · omega
  refine ⟨?_, ?_⟩
  · induction l with
    | nil => simp [cutL, cntL]
    | cons c l ih =>
      have ih2 := second l ih
      unfold cutL
      split
      · simp only [List.tail_cons, List.headD_cons, List.length_nil, List.length_cons]; omega
      · simp only [List.tail_cons, List.headD_cons, List.length_cons]; omega
  · refine second l ?_
    induction l with
    | nil => simp [cutL, cntL]
    | cons c l ih =>
      have ih2 := second l ih
      unfold cutL
      split
      · simp only [List.tail_cons, List.headD_cons, List.length_nil, List.length_cons]; omega
      · simp only [List.tail_cons, List.headD_cons, List.length_cons]; omega
theorem names_half (s : ByteArray) : 2 * (namesB s).length ≤ s.size + 1 := by
  have h := (cnt_cut (un s)).2
  rw [un_length] at h
  have e : (namesB s).length = cntL (cutL (un s)) := by
    unfold namesB piecesB cntL
    rw [List.filter_map, List.length_map]
    congr 1
    refine List.filter_congr (fun x _ => ?_)
    show full (bs x) = _
    unfold full
    rw [toList_un, un_bs]
  omega
theorem trail_len {m : Mn} : ∀ (f : Nat) (st : St), Right st.L → m.ab = 0 → st.hops ≤ 40 → (goF m f st).2.2.length ≤ st.left.length + 50 * (40 - st.hops)
  | 0, st, _, _, _ => Nat.zero_le _
  | f + 1, st, hr, hm, hh => by
    rcases list_cases st.left with hl | ⟨c, rest, hl⟩
    · rw [goF_nil hl]; exact Nat.zero_le _
    · by_cases hs : (stepN m st c rest).1 = 0
      · rw [goF_ok hl hs]
        have hk := step_keeps hm hs
        rcases step_more m st c rest hs with ⟨h1, h2⟩ | ⟨e, hg, hk3, h40, hst⟩
        · have ih := trail_len f (stepN m st c rest).2 (by rw [hk.1]; exact hr) hm (by rw [h1]; exact hh)
          rw [h1, h2] at ih
          rw [hl]; simp; omega
        · have ih := trail_len f (stepN m st c rest).2 (by rw [hk.1]; exact hr) hm (by rw [hst]; show st.hops + 1 ≤ 40; omega)
          obtain ⟨he, _, _⟩ := get_mem hg
          have h1 := (wrong_link (hr e he) (link_kind hk3)).1
          have h2 := names_half e.link
          rw [hst] at ih ⊢
          simp only [List.length_append] at ih
          rw [hl]; simp; omega
      · rw [goF_err hl hs]; exact Nat.zero_le _
theorem trail_last {m : Mn} : ∀ (f : Nat) (st : St), (goF m f st).1 = 0 → (st.here :: (goF m f st).2.2).getLast? = some (goF m f st).2.1.here
  | 0, st, _ => rfl
  | f + 1, st, h0 => by
    rcases list_cases st.left with hl | ⟨c, rest, hl⟩
    · rw [goF_nil hl]; rfl
    · by_cases hs : (stepN m st c rest).1 = 0
      · rw [goF_ok hl hs] at h0 ⊢
        have ih := trail_last f _ h0
        rw [List.getLast?_cons_cons]; exact ih
      · rw [goF_err hl hs] at h0; exact absurd h0 hs
def kindQ (L : List Ent) (p : ByteArray) : Int := match getE L p with | none => 0 | some e => e.kind
theorem trail_kinds (h : TreeOf W tb base F L) {B : Nat} : ∀ (f : Nat) (st : St), Inv L ⟨0, false, false⟩ st → Good B st → msr st < f → (goF ⟨0, false, false⟩ f st).1 = 0 → ∀ i q, (goF ⟨0, false, false⟩ f st).2.2[i]? = some q → q.size = 0 ∨ kindQ L q = 1 ∨ (kindQ L q = 2 ∧ i + 1 = (goF ⟨0, false, false⟩ f st).2.2.length)
  | 0, st, _, _, hf, _ => by omega
  | f + 1, st, hi, hg, hf, h0 => by
    intro i q hq
    rcases list_cases st.left with hl | ⟨c, rest, hl⟩
    · rw [goF_nil hl] at hq; simp at hq
    · have hR : Right st.L := by rw [hi.1]; exact h.right
      by_cases hs : (stepN ⟨0, false, false⟩ st c rest).1 = 0
      · rw [goF_ok hl hs] at h0 hq ⊢
        have hi2 := inv_step h rfl hi hl hs
        obtain ⟨hg2, _⟩ := step_good hg hl hR hs
        have hm := (step_msr ⟨0, false, false⟩ st c rest hl (right_short hR) hg.hh hs).1
        cases i with
        | zero =>
          simp at hq
          subst hq
          obtain ⟨_, hh | ⟨e, he, hk1, hk3⟩⟩ := hi2
          · left; rw [hh]; rfl
          · right
            have hke : kindQ L (stepN ⟨0, false, false⟩ st c rest).2.here = e.kind := by unfold kindQ; rw [he]
            rcases kind_range (h.right e (get_mem he).1) with hk | hk | hk
            · left; rw [hke]; exact hk
            · right
              refine ⟨by rw [hke]; exact hk, ?_⟩
              have hle : (stepN ⟨0, false, false⟩ st c rest).2.left = [] := by
                rcases list_cases (stepN ⟨0, false, false⟩ st c rest).2.left with h1 | ⟨a, b, h1⟩
                · exact h1
                · have := hk1 (by rw [h1]; simp); omega
              rw [goF_nil hle]; rfl
            · exact absurd (hk3 hk) (by simp)
        | succ i =>
          rw [List.getElem?_cons_succ] at hq
          rcases trail_kinds h f _ hi2 hg2 (by omega) h0 i q hq with h1 | h1 | ⟨h1, h2⟩
          · exact .inl h1
          · exact .inr (.inl h1)
          · exact .inr (.inr ⟨h1, by simp; omega⟩)
      · rw [goF_err hl hs] at h0; exact absurd h0 hs
end Go.Proofs.YtkaegdmkpjmfeabGreatDoor

namespace Go.Proofs.YtkaegdmkpjmfeabGreatDoor
open Go Go.RowKit

/-- No slash from f on ahead of k. -/
def noSl (s : ByteArray) (f k : Nat) : Prop := ∀ j : Nat, f ≤ j → j < k → (un s)[j]? ≠ some 47
theorem indexByte_eq (c : UInt8) : ∀ (l : List UInt8) (i : Nat), l[i]? = some c → (∀ j : Nat, j < i → l[j]? ≠ some c) → Lib.indexByte l c = i
  | [], i, h, _ => by simp at h
  | b :: l, 0, h, _ => by
    have e : b = c := by simpa using h
    unfold Lib.indexByte; simp [e]
  | b :: l, i + 1, h, hn => by
    have h0 : b ≠ c := fun e => hn 0 (by omega) (by simp [e])
    have ih := indexByte_eq c l i (by simpa using h) (fun j hj => by simpa using hn (j + 1) (by omega))
    unfold Lib.indexByte
    rw [if_neg (by simpa using h0), ih, if_neg (by simp)]; omega
theorem indexByte_none (c : UInt8) : ∀ l : List UInt8, (∀ j : Nat, l[j]? ≠ some c) → Lib.indexByte l c = -1
  | [], _ => rfl
  | b :: l, hn => by
    have h0 : b ≠ c := fun e => hn 0 (by simp [e])
    have ih := indexByte_none c l (fun j => by simpa using hn (j + 1))
    unfold Lib.indexByte
    rw [if_neg (by simpa using h0), ih]; rfl
theorem pieces_at (s : ByteArray) (f k : Nat) (hf : f ≤ k) (hk : k < s.size) (hc : (un s)[k]? = some 47) (hn : noSl s f k) :
    piecesB (s.extract f s.size) = s.extract f k :: piecesB (s.extract (k + 1) s.size) := by
  have hi : ix (s.extract f s.size) = ((k - f : Nat) : Int) := indexByte_eq 47 _ _ (by rw [un_extract_get, show f + (k - f) = k by omega]; exact hc) (fun j hj => by rw [un_extract_get]; exact hn _ (by omega) (by omega))
  rw [piecesB_hit _ _ hi, size_extract' _ _ _ (Nat.le_refl _)]
  congr 1
  · refine un_inj ?_
    rw [un_extract, un_extract, un_extract]
    simp only [List.drop_zero, List.take_drop]
    rw [show f + (k - f) = k by omega, List.take_take, Nat.min_eq_left (by omega)]
  · congr 1
    refine un_inj ?_
    rw [un_extract, un_extract, un_extract]
    rw [List.take_of_length_le (l := un s) (by rw [un_length]; omega), List.take_of_length_le (by simp [un_length]), List.drop_drop]
    congr 1; omega
theorem pieces_end (s : ByteArray) (f : Nat) (hn : noSl s f s.size) : piecesB (s.extract f s.size) = [s.extract f s.size] := by
  refine piecesB_miss _ (indexByte_none 47 _ (fun j => ?_))
  rw [un_extract_get]
  by_cases h : f + j < s.size
  · exact hn _ (by omega) h
  · rw [un_none _ _ (by omega)]; simp
theorem noSl_nil (s : ByteArray) (k : Nat) : noSl s k k := fun j h1 h2 => by omega
theorem noSl_succ {s : ByteArray} {f k : Nat} (h : noSl s f k) (hc : (un s)[k]? ≠ some 47) : noSl s f (k + 1) := fun j h1 h2 => by
  rcases Nat.lt_succ_iff_lt_or_eq.1 h2 with h3 | h3
  · exact h j h1 h3
  · rw [h3]; exact hc
theorem extract_all (s : ByteArray) : s.extract 0 s.size = s := un_inj (by rw [un_extract, List.take_of_length_le (by rw [un_length]; omega)]; rfl)

set_option maxRecDepth 100000 in
set_option maxHeartbeats 2000000 in
theorem cut_r (s : ByteArray) (w : World) (hs : s.size ≤ 1099511627776) : Calls Tryz.prog 15 #[.string s] w fun e w' => ∃ v, e = .returned v ∧ w'.ownsRow w.heap.size 9 1 v (piecesB s).length (strs (piecesB s)) ∧ Below w.heap.size w w' := by
  obtain ⟨i0, hi, hz0, hz1, hz2⟩ := info_parts info_str
  have hpl := piecesB_length s
  go_enter Tryz.func15, Tryz.ntmps15
  go_wp2
  go_loopw [3, 4, 5] (fun v fr i wr => ∃ (k f : Nat) (ps : List ByteArray), i = .int .i64 k ∧ fr = .int .i64 f ∧ f ≤ k ∧ wr.ownsRow w.heap.size 9 1 v ps.length (strs ps) ∧ Below w.heap.size w wr ∧
      ((k ≤ s.size ∧ noSl s f k ∧ piecesB s = ps ++ piecesB (s.extract f s.size)) ∨ (k = s.size + 1 ∧ piecesB s = ps))) (fun _ _ i _ => s.size + 1 - (intOf i).toNat)
  case atStart => exact ⟨0, 0, [], rfl, rfl, Nat.le_refl _, World.ownsRow_nil _ _ _ _, Below.refl _ _, .inl ⟨Nat.zero_le _, noSl_nil _ _, by rw [extract_all]; rfl⟩⟩
  case round =>
    obtain ⟨k, f, ps, rfl, rfl, hfk, hown, hB, ⟨hk, hn, hp⟩ | ⟨rfl, hp⟩⟩ := hrel
    · have hsz := hB.size
      have hpsl : ps.length < (piecesB s).length := by
        rw [hp, List.length_append]; have := List.length_pos_iff.2 (piecesB_ne (s.extract f s.size)); omega
      by_cases hlt : k < s.size
      · have hget := un_getElem? s k hlt
        have hne : ((k : Int) == (s.size : Int)) = false := by simp; omega
        by_cases hc : s[k].toNat = 47
        · have hc2 : (un s)[k]? = some 47 := by rw [hget]; congr 1; exact UInt8.toNat_inj.1 hc
          have Hp : Hid (piecesB s = ps ++ [s.extract f k] ++ piecesB (s.extract (k + 1) s.size)) := by unfold Hid; rw [hp, pieces_at s f k hfk hlt hc2 hn]; simp
          clear hget hc2 hn hp
          go_wp2_with (at_builtin; refine wpList_append_own _ rfl _ _ 28 rfl w.heap.size 9 i0 (.string ⟨#[]⟩) 1 16 Tryz.underlying28 hi hz0 hz1 hz2 rfl (by decide) _ _ _ rfl (hown.alloc _) ⟨wr.heap.size, 0, none⟩ 1 1 [.string (s.extract f k)] rfl rfl (cell_one_new _ _ _) (by simp [Value.oneCell']) (by unfold maxLen; omega) (by omega) (by simp; omega) ?_; intro v1 w1 hown1 hgrow1 _)
          have hb1 : Below w.heap.size w w1 := (hB.alloc hsz _).grown hgrow1 (by simp; omega) (fun j hj => (own_ge hown j hj.symm).1)
          exact ⟨⟨k + 1, k + 1, ps ++ [s.extract f k], by go_num, by go_num, Nat.le_refl _, by simpa [strs] using hown1, hb1, .inl ⟨by omega, noSl_nil _ _, Hp.out⟩⟩, by simp [intOf]; omega⟩
        · have hc2 : (un s)[k]? ≠ some 47 := by rw [hget]; intro e; exact hc (by rw [Option.some.inj e]; rfl)
          have Hn : Hid _ := noSl_succ hn hc2
          have Hp : Hid _ := hp
          clear hget hc2 hn hp
          go_wp2
          first
            | exact ⟨⟨k + 1, f, ps, by go_num, rfl, by omega, hown, hB, .inl ⟨by omega, Hn.out, Hp.out⟩⟩, by simp [intOf]; omega⟩
            | (go_roundw
               case rel => exact ⟨k + 1, f, ps, by go_num, rfl, by omega, hown, hB, .inl ⟨by omega, Hn.out, Hp.out⟩⟩
               case measure => simp [intOf]; omega)
      · obtain rfl : k = s.size := by omega
        have Hp : Hid (piecesB s = ps ++ [s.extract f s.size]) := by unfold Hid; rw [hp, pieces_end s f hn]
        have hee : ((s.size : Int) == (s.size : Int)) = true := by simp
        clear hn hp
        go_wp2_with (at_builtin; refine wpList_append_own _ rfl _ _ 28 rfl w.heap.size 9 i0 (.string ⟨#[]⟩) 1 16 Tryz.underlying28 hi hz0 hz1 hz2 rfl (by decide) _ _ _ rfl (hown.alloc _) ⟨wr.heap.size, 0, none⟩ 1 1 [.string (s.extract f s.size)] rfl rfl (cell_one_new _ _ _) (by simp [Value.oneCell']) (by unfold maxLen; omega) (by omega) (by simp; omega) ?_; intro v1 w1 hown1 hgrow1 _)
        have hb1 : Below w.heap.size w w1 := (hB.alloc hsz _).grown hgrow1 (by simp; omega) (fun j hj => (own_ge hown j hj.symm).1)
        exact ⟨⟨s.size + 1, s.size + 1, ps ++ [s.extract f s.size], by go_num, by go_num, Nat.le_refl _, by simpa [strs] using hown1, hb1, .inr ⟨rfl, Hp.out⟩⟩, by simp [intOf]⟩
    · have Hp : Hid _ := hp
      clear hp
      go_wp2
      go_ret
      exact ⟨_, rfl, by rw [Hp.out]; exact hown, hB⟩

/-- Block g holds the texts xs, from its beginning on. -/
def Row (w : World) (g : Nat) (xs : List ByteArray) : Prop := ∀ (j : Nat) z, xs[j]? = some z → w.cell? ⟨g, j, none⟩ = some (.string z)
theorem Row.below {w w2 : World} {g : Nat} {xs : List ByteArray} (h : Row w g xs) (hg : g < w.heap.size) (hb : Below w.heap.size w w2) : Row w2 g xs := fun j z hz => (hb.cell (p := ⟨g, j, none⟩) hg).trans (h j z hz)
theorem row_of_owns {w : World} {base g cap n : Nat} {xs : List ByteArray} (h : w.ownsRow base 9 1 (.slice (some ⟨g, 0, none⟩) n cap) xs.length (strs xs)) : Row w g xs := fun j z hz => by
  have h := h.cells (g := g) rfl j (.string z) (by simp [strs, hz])
  rcases j with _ | j <;> simpa [Addr.add] using h
theorem cut_row (s : ByteArray) (w : World) (hs : s.size ≤ 1099511627776) : Calls Tryz.prog 15 #[.string s] w fun e w' => ∃ g cap, e = .returned (.slice (some ⟨g, 0, none⟩) (piecesB s).length cap) ∧ Row w' g (piecesB s) ∧ g < w'.heap.size ∧ w.heap.size ≤ g ∧ Below w.heap.size w w' := by
  refine (cut_r s w hs).mono ?_
  rintro e w2 ⟨v, rfl, hown, hb⟩
  rcases hown.2 with ⟨_, h0⟩ | ⟨g, cap, cur, rfl, hg, hgb, _⟩
  · exact absurd (List.eq_nil_of_length_eq_zero h0) (piecesB_ne s)
  · exact ⟨g, cap, rfl, row_of_owns hown, (Array.getElem?_eq_some_iff.1 hgb).1, hg, hb⟩
end Go.Proofs.YtkaegdmkpjmfeabGreatDoor

namespace Go.Proofs.YtkaegdmkpjmfeabGreatDoor
open Go Go.RowKit

theorem owns_le {w : World} {b b2 e size n : Nat} {v : Value} {xs : List Value} (h : w.ownsRow b e size v n xs) (hb : b2 ≤ b) : w.ownsRow b2 e size v n xs := by
  refine ⟨h.1, ?_⟩
  rcases h.2 with hn | ⟨g, cap, cur, rfl, hg, rest⟩
  · exact .inl hn
  · exact .inr ⟨g, cap, cur, rfl, by omega, rest⟩
theorem take_succ_filter (xs : List ByteArray) (k : Nat) (x : ByteArray) (h : xs[k]? = some x) : (xs.take (k + 1)).filter full = (xs.take k).filter full ++ (if full x then [x] else []) := by
  rw [List.take_add_one, h, List.filter_append]; simp [List.filter_cons]

set_option maxRecDepth 100000 in
set_option maxHeartbeats 2000000 in
theorem pieces_r (s : ByteArray) (w : World) (hs : s.size ≤ 1099511627776) : Calls Tryz.prog 6 #[.string s] w fun e w' => ∃ v, e = .returned v ∧ w'.ownsRow w.heap.size 9 1 v (namesB s).length (strs (namesB s)) ∧ Below w.heap.size w w' := by
  obtain ⟨i0, hi, hz0, hz1, hz2⟩ := info_parts info_str
  have hpl := piecesB_length s
  go_enter Tryz.func6, Tryz.ntmps6
  go_wp2_with (go_at_call 15; refine (cut_row s _ hs).mono ?_; rintro e w1 ⟨g, cap, rfl, hrow, hgl, _, hb1⟩)
  have HR : Hid _ := hrow
  clear hrow
  go_loopw [3, 5] (fun v i wr => ∃ k : Nat, k ≤ (piecesB s).length ∧ i = .int .i64 k ∧ wr.ownsRow w1.heap.size 9 1 v (((piecesB s).take k).filter full).length (strs (((piecesB s).take k).filter full)) ∧ Below w1.heap.size w1 wr) (fun _ i _ => (piecesB s).length - (intOf i).toNat)
  case atStart => exact ⟨0, Nat.zero_le _, rfl, World.ownsRow_nil _ _ _ _, Below.refl _ _⟩
  case round =>
    obtain ⟨k, hk, rfl, hown, hB⟩ := hrel
    have hsz := hB.size
    by_cases hlt : k < (piecesB s).length
    · obtain ⟨x, hx⟩ : ∃ x, (piecesB s)[k]? = some x := ⟨_, List.getElem?_eq_getElem hlt⟩
      have hcell : wr.cell? ⟨g, k, none⟩ = some (.string x) := (hB.cell (p := ⟨g, k, none⟩) hgl).trans (HR.out k x hx)
      have hfl : (((piecesB s).take k).filter full).length ≤ k := Nat.le_trans (List.length_filter_le _ _) (by simp; omega)
      have ht := take_succ_filter (piecesB s) k x hx
      cases he : x.toList.isEmpty
      · have HT : Hid (((piecesB s).take (k + 1)).filter full = ((piecesB s).take k).filter full ++ [x]) := by unfold Hid; rw [ht]; simp [full, he]
        clear ht hx
        go_wp2_with (at_builtin; refine wpList_append_own _ rfl _ _ 28 rfl w1.heap.size 9 i0 (.string ⟨#[]⟩) 1 16 Tryz.underlying28 hi hz0 hz1 hz2 rfl (by decide) _ _ _ rfl (hown.alloc _) ⟨wr.heap.size, 0, none⟩ 1 1 [.string x] rfl rfl (cell_one_new _ _ _) (by simp [Value.oneCell']) (by unfold maxLen; omega) (by omega) (by simp; omega) ?_; intro v1 w2 hown1 hgrow1 _)
        have hb2 : Below w1.heap.size w1 w2 := (hB.alloc hsz _).grown hgrow1 (by simp; omega) (fun j hj => (own_ge hown j hj.symm).1)
        exact ⟨⟨k + 1, by omega, by go_num, by rw [HT.out]; simpa [strs] using hown1, hb2⟩, by simp [intOf]; omega⟩
      · have HT : Hid (((piecesB s).take (k + 1)).filter full = ((piecesB s).take k).filter full) := by unfold Hid; rw [ht]; simp [full, he]
        clear ht hx
        go_wp2
        first
          | exact ⟨⟨k + 1, by omega, by go_num, by rw [HT.out]; exact hown, hB⟩, by simp [intOf]; omega⟩
          | (go_roundw
             case rel => exact ⟨k + 1, by omega, by go_num, by rw [HT.out]; exact hown, hB⟩
             case measure => simp [intOf]; omega)
    · obtain rfl : k = (piecesB s).length := by omega
      have HT : Hid (((piecesB s).take (piecesB s).length).filter full = namesB s) := by unfold Hid namesB; rw [List.take_length]
      go_wp2
      go_ret
      exact ⟨_, rfl, by rw [← HT.out]; exact owns_le hown hb1.size, hb1.trans (hB.mono hb1.size)⟩

end Go.Proofs.YtkaegdmkpjmfeabGreatDoor

namespace Go.Proofs.YtkaegdmkpjmfeabGreatDoor
open Go Go.RowKit

theorem tree_of2 {v : Value} {es : List Ent} {w : World} (hg : ErrType w) (hv : EntsAt w v es) (hl : es.length ≤ 1073741824) (hp : ∀ e ∈ es, e.path.size < 1152921504606846976) (hc : (checkGo [] es).1 = 0) : ∃ W tb tbase F, TreeOf W tb tbase F es := by
  obtain ⟨e, w', fr, ⟨_, tb, F, _, hT⟩, _⟩ := of_t v es w hg hv (by omega) hp hc []
  exact ⟨w', tb, _, F, hT⟩
set_option maxRecDepth 100000 in
set_option maxHeartbeats 4000000 in
theorem end_no (v : Value) (es : List Ent) (way : ByteArray) (w : World) (hg : ErrType w) (hv : EntsAt w v es) (hl : es.length ≤ 1073741824) (hp : ∀ e ∈ es, e.path.size < 1152921504606846976) (hc : (checkGo [] es).1 ≠ 0) :
    Calls Tryz.prog 4 #[v, .string way] w fun e w' => e = .returned (.bool true) ∧ Below w.heap.size w w' := by
  have hO := ofl_no v es w hg hv hl hp hc
  clear hc
  go_enter Tryz.func4, Tryz.ntmps4
  go_wp2_with (first | (go_at_call 5; refine hO.mono ?_; rintro e w1 ⟨hb1, rfl⟩) | (go_at_call 7; refine (works_r _ (hg.below hb1)).mono ?_; rintro e w2 ⟨rfl, hb2⟩))
  go_ret
  exact ⟨rfl, below_join hb1 hb2⟩
set_option maxRecDepth 100000 in
set_option maxHeartbeats 4000000 in
theorem end_err (v : Value) (es : List Ent) (way : ByteArray) (n : Int) (w : World) (hg : ErrType w) (hv : EntsAt w v es) (hl : es.length ≤ 1073741824) (hp : ∀ e ∈ es, e.path.size < 1152921504606846976) (hw : way.size ≤ 1073741824) (hc : (checkGo [] es).1 = 0) (h0 : (goN ⟨0, false, false⟩ (start es way)).1 = n) (hn1 : 1 ≤ n) (hn2 : n ≤ 32) :
    Calls Tryz.prog 4 #[v, .string way] w fun e w' => e = .returned (.bool true) ∧ Below w.heap.size w w' := by
  have hO := ofl_ok v es w hg hv hl hp hc
  have hnz : n ≠ 0 := by omega
  have HR : Hid (ansB (findR es way true) = ⟨#[]⟩ ∧ errE (findR es way true).1 = .iface 55 (.int .i64 n)) := ⟨if_neg (by show ¬ (goN ⟨0, false, false⟩ (start es way)).1 = 0; rw [h0]; exact hnz), by show errE (goN ⟨0, false, false⟩ (start es way)).1 = _; rw [h0]; exact errE_some hnz⟩
  have HT : Hid (∀ (tb tbase : Nat) (F : Pic) (W : World), TreeOf W tb tbase F es → Calls Tryz.prog 9 #[.pointer (some ⟨tb, 0, none⟩), .string way] W fun e w' => e = .returned (.tuple #[.slice none 0 0, .iface 55 (.int .i64 n)]) ∧ Below W.heap.size W w') := fun tb tbase F W hT => by
    have := trail_err way es W hT (by omega) (by rw [h0]; exact hnz)
    rw [h0] at this
    exact this
  clear hc h0 hnz
  go_enter Tryz.func4, Tryz.ntmps4
  go_wp2_with fail
  refine hO.mono ?_
  rintro e w1 ⟨hb1, tb, tbase, F, rfl, _, hT1⟩
  clear hO hv
  go_wp2_with fail
  refine (find_p true way es _ hT1 (by omega)).mono ?_
  rintro e w2 ⟨rfl, hb2'⟩
  rw [HR.out.1, HR.out.2]
  have hb2 := below_join hb1 hb2'
  have hT2 := hT1.below hb2'
  clear hb1 hb2' hT1
  go_wp2_with fail
  refine (HT.out _ _ _ _ hT2).mono ?_
  rintro e w3 ⟨rfl, hb3'⟩
  have hb3 := below_join hb2 hb3'
  clear hb2 hb3' hT2
  go_wp2_with (first | (go_at_call 11; refine (num_some n hn1 hn2 _).mono ?_; rintro e w4 ⟨rfl, hw4⟩; replace hw4 := hw4.symm; subst hw4) | (go_at_call 10; refine (plain_some n hn1 hn2 _ (hg.below hb3)).mono ?_; rintro e w5 ⟨rfl, hb5'⟩; have hb5 := below_join hb3 hb5') | (go_at_call 7; refine (works_r _ (hg.below hb5)).mono ?_; rintro e w6 ⟨rfl, hb6⟩))
  go_ret
  exact ⟨rfl, below_join hb5 hb6⟩
theorem texts_cell {W : World} {base g cap : Nat} {ts : List ByteArray} (h : W.ownsRow base 9 1 (.slice (some ⟨g, 0, none⟩) ts.length cap) ts.length (tvs ts)) {i : Nat} {x : ByteArray} (hx : ts[i]? = some x) : W.cell? ⟨g, i, none⟩ = some (.string x) := by
  rw [h.cellAt i (by have := (List.getElem?_eq_some_iff.1 hx).1; omega)]
  simp [tvs, hx]
set_option maxRecDepth 100000 in
set_option maxHeartbeats 8000000 in
theorem end_ok (v : Value) (es : List Ent) (way p : ByteArray) (ts : List ByteArray) (w : World) (hg : ErrType w) (hv : EntsAt w v es) (hl : es.length ≤ 1073741824) (hp : ∀ e ∈ es, e.path.size < 1152921504606846976) (hw : way.size ≤ 1073741824) (hc : (checkGo [] es).1 = 0) (h0 : (goN ⟨0, false, false⟩ (start es way)).1 = 0) (ha : ansB (findR es way true) = p) (hts : trailL es way = ts)
    (hf : ts[0]? = some ⟨#[]⟩) (hlast : ts[ts.length - 1]? = some p) (hln : ts.length ≤ 1 + (namesB way).length + 2000)
    (hk : ∀ i q, ts[i]? = some q → q.size ≤ 255 ∧ (q.size = 0 ∨ kindN es q = 1 ∨ (kindN es q = 2 ∧ i + 1 = ts.length))) :
    Calls Tryz.prog 4 #[v, .string way] w fun e w' => e = .returned (.bool true) ∧ Below w.heap.size w w' := by
  have hO := ofl_ok v es w hg hv hl hp hc
  have HR : Hid (ansB (findR es way true) = p ∧ errE (findR es way true).1 = .nilIface) := ⟨ha, by show errE (goN ⟨0, false, false⟩ (start es way)).1 = _; rw [h0]; rfl⟩
  have HT : Hid (∀ (tb tbase : Nat) (F : Pic) (W : World), TreeOf W tb tbase F es → Calls Tryz.prog 9 #[.pointer (some ⟨tb, 0, none⟩), .string way] W fun e w' => ∃ v, e = .returned (.tuple #[v, .nilIface]) ∧ w'.ownsRow W.heap.size 9 1 v ts.length (tvs ts) ∧ Below W.heap.size W w') := fun tb tbase F W hT => by
    have := trail_ok way es W hT (by omega) h0
    rw [hts] at this
    exact this
  have hP := fun W => pieces_r way W (by omega)
  have hnl := names_len way
  have ht0 := (List.getElem?_eq_some_iff.1 hf).1
  generalize (namesB way).length = nw at *
  clear hc h0 ha hts
  go_enter Tryz.func4, Tryz.ntmps4
  go_wp2_with fail
  refine hO.mono ?_
  rintro e w1 ⟨hb1, tb, tbase, F, rfl, _, hT1⟩
  clear hO hv
  go_wp2_with fail
  refine (find_p true way es _ hT1 (by omega)).mono ?_
  rintro e w2 ⟨rfl, hb2'⟩
  rw [HR.out.1, HR.out.2]
  have hb2 := below_join hb1 hb2'
  have hT2 := hT1.below hb2'
  clear hb1 hb2' hT1
  go_wp2_with fail
  refine (HT.out _ _ _ _ hT2).mono ?_
  rintro e w3 ⟨v3, rfl, hrow3, hb3'⟩
  have hb3 := below_join hb2 hb3'
  have hT3 := hT2.below hb3'
  obtain ⟨g, cap, rfl⟩ : ∃ g cap, v3 = .slice (some ⟨g, 0, none⟩) ts.length cap := by
    rcases hrow3.2 with ⟨_, h⟩ | ⟨g, cap, cur, rfl, _⟩
    · omega
    · exact ⟨g, cap, rfl⟩
  have hgl := (hrow3.lt g rfl).2
  have HC : Hid (∀ W, Below w3.heap.size w3 W → ∀ i x, ts[i]? = some x → W.cell? ⟨g, i, none⟩ = some (.string x)) := fun W hb i x hx => (hb.cell (p := ⟨g, i, none⟩) hgl).trans (texts_cell hrow3 hx)
  clear hb2 hb3' hT2 hrow3 HT HR
  have hne1 : ¬ (ts.length : Int) < 1 := by omega
  go_wp2_with fail
  refine (hP _).mono ?_
  rintro e w4 ⟨u4, rfl, hu4, hb4'⟩
  obtain ⟨q1, q2, rfl⟩ := row_form hu4
  have hb4 := below_join hb3 hb4'
  have hT4 := hT3.below hb4'
  have k0 := HC.out w4 hb4' 0 _ hf
  have k1 := HC.out w4 hb4' _ _ hlast
  have i1 : (ts.length : Int) - 1 = ((ts.length - 1 : Nat) : Int) := by omega
  have i2 : ¬ (1 + (nw : Int) + 2000) < (ts.length : Int) := by omega
  have i3 : (0 : Int) ≤ ((ts.length - 1 : Nat) : Int) := by omega
  have i4 : ((ts.length - 1 : Nat) : Int) < (ts.length : Int) := by omega
  have i5 : (0 : Int) < (ts.length : Int) := by omega
  clear hu4 hP hT3
  go_wp2
  have HB34 : Hid (Below w3.heap.size w3 w4) := hb4'
  have HHK : Hid (∀ i q, ts[i]? = some q → q.size ≤ 255 ∧ (q.size = 0 ∨ kindN es q = 1 ∨ (kindN es q = 2 ∧ i + 1 = ts.length))) := hk
  have hlen : ts.length ≤ 1099511627776 := by omega
  clear hk k0 k1 i1 i2 i3 i4 i5 hb4' hf hlast hln
  go_loopw [11, 12] (fun i _ wr => ∃ k : Nat, i = .int .i64 k ∧ k ≤ ts.length ∧ Below w4.heap.size w4 wr) (fun i _ _ => ts.length - (intOf i).toNat)
  case atStart => exact ⟨0, rfl, Nat.zero_le _, Below.refl _ _⟩
  case round =>
    obtain ⟨k, rfl, hkl, hB⟩ := hrel
    have hBw := below_join hb4 hB
    by_cases hlt : k < ts.length
    · have hlt' : (k : Int) < (ts.length : Int) := by omega
      have hk0 : (0 : Int) ≤ (k : Int) := by omega
      obtain ⟨q, hq⟩ : ∃ q, ts[k]? = some q := ⟨_, List.getElem?_eq_getElem hlt⟩
      have hcell := HC.out wr (below_join HB34.out hB) k q hq
      obtain ⟨hqs, hcase⟩ := HHK.out k q hq
      have hKp := kind_p q es wr (hT4.below hB) (by omega)
      by_cases hz : q.size = 0
      · have he : q.toList.isEmpty = true := (isEmpty_iff q).2 hz
        rw [show kindN es q = 0 by unfold kindN getE; rw [if_pos hz]] at hKp
        have hKp2 : ∀ W, Below wr.heap.size wr W → W.cell? ⟨g, k, none⟩ = some (.string q) := fun W hb => HC.out W (below_join HB34.out (below_join hB hb)) k q hq
        clear hcase hz hq
        go_wp2_with (go_at_call 12; refine hKp.mono ?_; rintro e w5 ⟨rfl, hb5⟩; have hc5 := hKp2 _ hb5)
        go_roundw
        case rel => exact ⟨k + 1, by go_num, by omega, below_join hB hb5⟩
        case measure => simp [intOf]; omega
      · have he : q.toList.isEmpty = false := (isEmpty_false q).2 (by omega)
        have hKp2 : ∀ W, Below wr.heap.size wr W → W.cell? ⟨g, k, none⟩ = some (.string q) := fun W hb => HC.out W (below_join HB34.out (below_join hB hb)) k q hq
        rcases hcase with h1 | h1 | ⟨h1, h2⟩
        · exact absurd h1 hz
        · rw [h1] at hKp
          clear hz hq h1
          go_wp2_with (go_at_call 12; refine hKp.mono ?_; rintro e w5 ⟨rfl, hb5⟩; have hc5 := hKp2 _ hb5)
          go_roundw
          case rel => exact ⟨k + 1, by go_num, by omega, below_join hB hb5⟩
          case measure => simp [intOf]; omega
        · rw [h1] at hKp
          have hno : ¬ (k : Int) + 1 < (ts.length : Int) := by omega
          clear hz hq h1
          go_wp2_with (go_at_call 12; refine hKp.mono ?_; rintro e w5 ⟨rfl, hb5⟩; have hc5 := hKp2 _ hb5)
          go_roundw
          case rel => exact ⟨k + 1, by go_num, by omega, below_join hB hb5⟩
          case measure => simp [intOf]; omega
    · have hge : ¬ (k : Int) < (ts.length : Int) := by omega
      go_wp2_with (go_at_call 7; refine (works_r _ (hg.below hBw)).mono ?_; rintro e w6 ⟨rfl, hb6⟩)
      go_ret
      exact ⟨rfl, below_join hBw hb6⟩
theorem resolveends_law (v : Value) (es : List Ent) (way : ByteArray) (w : World) (hg : ErrType w) (hv : EntsAt w v es) (hl : es.length ≤ 1073741824) (hp : ∀ e ∈ es, e.path.size < 1152921504606846976) (hw : way.size ≤ 1073741824) :
    Calls Tryz.prog 4 #[v, .string way] w fun e w' => e = .returned (.bool true) ∧ Below w.heap.size w w' := by
  by_cases hc : (checkGo [] es).1 = 0
  · obtain ⟨W, tb, tbase, F, hT⟩ := tree_of2 hg hv hl hp hc
    by_cases h0 : (goN ⟨0, false, false⟩ (start es way)).1 = 0
    · have hlen := trail_len (m := ⟨0, false, false⟩) (msr (start es way) + 1) (start es way) hT.right rfl (Nat.zero_le _)
      have hlast := trail_last (m := ⟨0, false, false⟩) (msr (start es way) + 1) (start es way) h0
      have hkinds := trail_kinds hT (msr (start es way) + 1) (start es way) ⟨rfl, .inl rfl⟩ (start_good es way) (Nat.lt_succ_self _) h0
      have hans : ansB (findR es way true) = (goN ⟨0, false, false⟩ (start es way)).2.1.here := if_pos h0
      refine end_ok v es way _ _ w hg hv hl hp hw hc h0 rfl rfl rfl ?_ ?_ ?_
      · rw [hans]
        have : (trailL es way).getLast? = some (goN ⟨0, false, false⟩ (start es way)).2.1.here := hlast
        rw [List.getLast?_eq_getElem?] at this
        exact this
      · have : (goN ⟨0, false, false⟩ (start es way)).2.2.length ≤ (namesB way).length + 50 * (40 - 0) := hlen
        show (⟨#[]⟩ :: (goN ⟨0, false, false⟩ (start es way)).2.2).length ≤ _
        simp; omega
      · intro i q hq
        cases i with
        | zero =>
          have : q = ⟨#[]⟩ := by
            have e : (trailL es way)[0]? = some ⟨#[]⟩ := rfl
            rw [e] at hq; exact (Option.some.inj hq).symm
          subst this
          exact ⟨by decide, .inl rfl⟩
        | succ i =>
          have hq' : (goN ⟨0, false, false⟩ (start es way)).2.2[i]? = some q := hq
          have hkq : kindN es q = kindQ es q := rfl
          have hsz : q.size ≤ 255 := by
            rcases hkinds i q hq' with h1 | h1 | ⟨h1, _⟩
            · omega
            · unfold kindQ at h1
              cases hge : getE es q with
              | none => rw [hge] at h1; simp at h1
              | some e =>
                obtain ⟨m1, m2, _⟩ := get_mem hge
                rw [← m2]; exact wrong_path (hT.right e m1)
            · unfold kindQ at h1
              cases hge : getE es q with
              | none => rw [hge] at h1; simp at h1
              | some e =>
                obtain ⟨m1, m2, _⟩ := get_mem hge
                rw [← m2]; exact wrong_path (hT.right e m1)
          refine ⟨hsz, ?_⟩
          rcases hkinds i q hq' with h1 | h1 | ⟨h1, h2⟩
          · exact .inl h1
          · exact .inr (.inl h1)
          · refine .inr (.inr ⟨h1, ?_⟩)
            show i + 1 + 1 = (⟨#[]⟩ :: (goN ⟨0, false, false⟩ (start es way)).2.2).length
            rw [List.length_cons]
            have : i + 1 = (goN ⟨0, false, false⟩ (start es way)).2.2.length := h2
            omega
    · rcases go_errs rfl _ _ h0 with h1 | h1 | h1
      · exact end_err v es way 10 w hg hv hl hp hw hc h1 (by decide) (by decide)
      · exact end_err v es way 13 w hg hv hl hp hw hc h1 (by decide) (by decide)
      · exact end_err v es way 12 w hg hv hl hp hw hc h1 (by decide) (by decide)
  · exact end_no v es way w hg hv hl hp hc
end Go.Proofs.YtkaegdmkpjmfeabGreatDoor
