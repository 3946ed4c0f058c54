/- ResolveTrail: where a way comes by, as the document says; every list with memory of its own; the tree stays. -/
import Derived.Test.YtkaegdmkpjmfeaaGreatDoorTakeX
import Derived.Test.YtkaegdmkpjmfeaaGreatDoorTrailW
import Derived.Test.YtkaegdmkpjmfeaaGreatDoorTxC
import Derived.Test.YtkaegdmkpjmfeaaGreatDoorWorksR
import Derived.Test.YtkaegdmkpjmfeaaGreatDoorRefK

namespace Go.Proofs.YtkaegdmkpjmfeaaGreatDoor
open Go Go.RowKit

theorem TreeOf.one {W : World} {tb base : Nat} {F : Pic} {L : List Ent} (h : TreeOf W tb base F L) {pre r : List Ent} {e : Ent} (hL : L = pre ++ e :: r) : oneN pre e = 0 := by
  have heL : e ∈ L := by rw [hL]; simp
  have hpre : ∀ x ∈ pre, x ∈ L := fun x hx => by rw [hL]; simp [hx]
  have ho := h.says.order
  rw [hL] at ho
  obtain ⟨ho1, ho2, ho3⟩ := List.pairwise_append.1 ho
  have hlt : ∀ x ∈ pre, ltE x e := fun x hx => ho3 x hx e (by simp)
  have hw := h.right e heL
  have hck := wrong_check hw
  have hoo : ooN (lastP pre) e.path = 0 := by
    rcases List.eq_nil_or_concat pre with rfl | ⟨l, d, rfl⟩
    · exact oo_start hck
    · have hd : lastP (l.concat d) = d.path := by simp [lastP]
      have hde := hlt d (by simp)
      unfold ltE at hde
      rw [hd]
      unfold ooN
      rw [if_neg (by omega), if_neg (by omega)]
  have hup : upN pre e.path = 0 := by
    unfold upN
    by_cases hz : (parentB e.path).size = 0
    · rw [if_pos hz]
    · rw [if_neg hz]
      obtain ⟨x, hx, _⟩ := h.says.at' e heL
      have hsp := names_split hck
      obtain ⟨u, hu⟩ : ∃ u, F (namesP (parentB e.path)) = some u := by
        cases hq : F (namesP (parentB e.path)) with
        | some u => exact ⟨u, rfl⟩
        | none =>
          have := h.says.gone _ (un (lastB e.path)) hq
          rw [hsp, hx] at this; cases this
      have huk : u.e.kind = 1 := by
        by_cases hk : u.e.kind = 1
        · exact hk
        · have hm := (h.at'.kinds _ u hu).2 hk
          have := h.at'.tree.leaf _ u (un (lastB e.path)) hu hm
          rw [hsp, hx] at this; cases this
      obtain ⟨hu1, hu2⟩ := h.says.of' _ u (names_ne hz) hu
      have hup : u.e.path = parentB e.path := names_inj (h.says.full _ hu1) hz hu2
      have hlu : ltE u.e e := lt_below (y := un (lastB e.path)) (t := []) (h.says.full _ hu1) (h.says.full _ heL) (by rw [hu2, ← hsp])
      have hin : u.e ∈ pre := by
        rw [hL] at hu1
        rcases List.mem_append.1 hu1 with h1 | h1
        · exact h1
        · rcases List.mem_cons.1 h1 with h1 | h1
          · rw [h1] at hlu; exact absurd hlu (ltE_self _)
          · exact absurd ((List.pairwise_cons.1 ho2).1 _ h1) (ltE_asymm hlu)
      cases hf : pre.find? (pathIs (parentB e.path)) with
      | none => exact absurd (pathIs_iff.2 hup) (by simpa using List.find?_eq_none.1 hf _ hin)
      | some y =>
        have hy1 := List.mem_of_find?_eq_some hf
        have hy2 : y.path = parentB e.path := pathIs_iff.1 (List.find?_some hf)
        obtain ⟨z, hz1, hz2⟩ := h.says.at' y (hpre y hy1)
        rw [hy2, hu] at hz1
        cases hz1
        simp [← hz2, huk]
  have hmany : manyN pre e = 0 := by
    unfold manyN
    rw [put_end hlt]
    have h1 := h.few
    have h2 := h.light
    rw [hL] at h1 h2
    have h3 : bytesL (pre ++ e :: r) = bytesL pre + (e.data.size + bytesL r) := by simp [bytesL]
    rw [h3] at h2
    simp at h1
    simp only
    rw [if_neg (by omega)]
  unfold oneN putN
  rw [if_neg (show ¬ (wrongN e ≠ 0) by simpa using hw), if_neg (show ¬ (ooN (lastP pre) e.path ≠ 0) by simpa using hoo), if_neg (show ¬ (upN pre e.path ≠ 0) by simpa using hup), hmany]
theorem TreeOf.check {W : World} {tb base : Nat} {F : Pic} {L : List Ent} (h : TreeOf W tb base F L) : (checkGo [] L).1 = 0 := by
  have main : ∀ r pre, L = pre ++ r → (checkGo pre r).1 = 0 := by
    intro r
    induction r with
    | nil => intro pre _; rfl
    | cons e r ih =>
      intro pre hL
      unfold checkGo
      rw [if_neg (show ¬ (oneN pre e ≠ 0) by simpa using h.one hL)]
      exact ih _ (by rw [hL]; simp)
  exact main L [] rfl
def notP (p : ByteArray) (e : Ent) : Bool := !pathIs p e
theorem but_laid {L : List Ent} (h : L.Pairwise ltE) (e : Ent) : (laidL L e).filter (notP e.path) = L.filter (notP e.path) := by
  refine srt_ext _ _ ((laid_order h e).sublist List.filter_sublist) (h.sublist List.filter_sublist) (fun x => ?_)
  have hn : notP e.path x = true ↔ x.path ≠ e.path := by
    unfold notP
    rw [Bool.not_eq_true', ← Bool.not_eq_true, pathIs_iff]
  rw [List.mem_filter, List.mem_filter, laid_mem, hn]
  constructor
  · rintro ⟨rfl | ⟨h1, h2⟩, h3⟩
    · exact absurd rfl h3
    · exact ⟨h1, h3⟩
  · rintro ⟨h1, h2⟩
    exact ⟨.inr ⟨h1, h2⟩, h2⟩
theorem find_laid {L : List Ent} {e : Ent} : (laidL L e).find? (pathIs e.path) = some e := by
  unfold laidL
  rw [List.find?_append, List.find?_eq_none.2 (fun x hx => by
    have h1 := (List.mem_filter.1 hx).2
    simp at h1
    intro hp
    rw [pathIs_iff.1 hp, order_self] at h1; omega)]
  have : pathIs e.path e = true := pathIs_iff.2 rfl
  simp [List.find?, this]
/-- What stays, by the statement's words. -/
def keptB (p : ByteArray) (e : Ent) : Bool := !pathIs p e && !belowB p e.path
theorem prefix_below {p q : ByteArray} (hp : p.size ≠ 0) (hq : q.size ≠ 0) : (namesP p).isPrefixOf (namesP q) = (un q == un p || belowB p q) := by
  have hpe : p.toList.isEmpty = false := (isEmpty_false p).2 (by omega)
  rw [Bool.eq_iff_iff, List.isPrefixOf_iff_prefix, Bool.or_eq_true, beq_iff_eq]
  constructor
  · rintro ⟨t, ht⟩
    cases t with
    | nil => left; rw [List.append_nil] at ht; rw [names_inj hp hq ht]
    | cons y t =>
      right
      refine pieces_below hpe (u := (y :: t).map bs) (by simp) ?_
      rw [pieces_names hp, pieces_names hq, ← ht, List.map_append]
  · rintro (h | h)
    · rw [un_inj h]; exact List.prefix_refl _
    · obtain ⟨t, ht⟩ := (below_iff hpe).1 h
      unfold namesP
      rw [if_neg hp, if_neg hq, ht, cut_append]
      exact List.prefix_append _ _
theorem kept_gone {F : Pic} {L : List Ent} (h : Says F L) {p : ByteArray} (hp : p.size ≠ 0) : L.filter (keptB p) = goneL L (namesP p) := by
  unfold goneL
  refine List.filter_congr (fun e he => ?_)
  unfold keptB pathIs
  rw [prefix_below hp (h.full e he)]
  simp
end Go.Proofs.YtkaegdmkpjmfeaaGreatDoor

namespace Go.Proofs.YtkaegdmkpjmfeaaGreatDoor
open Go Go.RowKit

variable {W : World} {tb base : Nat} {F : Pic} {L : List Ent}
theorem get_of_mem (h : TreeOf W tb base F L) {e : Ent} (he : e ∈ L) : getE L e.path = some e := by
  have hf := h.says.full e he
  unfold getE
  rw [if_neg hf]
  rcases h.says.at_text hf with ⟨h1, _⟩ | ⟨x, h1, h2⟩
  · obtain ⟨x, hx, _⟩ := h.says.at' e he
    rw [hx] at h1; cases h1
  · obtain ⟨y, hy, hye⟩ := h.says.at' e he
    rw [hy] at h1; cases h1
    rw [h2, hye]
theorem kind_range {e : Ent} (h : wrongN e = 0) : e.kind = 1 ∨ e.kind = 2 ∨ e.kind = 3 := by
  unfold wrongN at h
  split at h
  · omega
  · rename_i hh; omega
/-- What stands above an entry is a directory. -/
theorem tree_parent (h : TreeOf W tb base F L) {e : Ent} (he : e ∈ L) : (parentB e.path).size = 0 ∨ ∃ u ∈ L, u.path = parentB e.path ∧ u.kind = 1 := by
  by_cases hz : (parentB e.path).size = 0
  · exact .inl hz
  · right
    obtain ⟨x, hx, _⟩ := h.says.at' e he
    have hsp := names_split (wrong_check (h.right e he))
    obtain ⟨u, hu⟩ : ∃ u, F (namesP (parentB e.path)) = some u := by
      cases hq : F (namesP (parentB e.path)) with
      | some u => exact ⟨u, rfl⟩
      | none =>
        have := h.says.gone _ (un (lastB e.path)) hq
        rw [hsp, hx] at this; cases this
    have huk : u.e.kind = 1 := by
      by_cases hk : u.e.kind = 1
      · exact hk
      · have hm := (h.at'.kinds _ u hu).2 hk
        have := h.at'.tree.leaf _ u (un (lastB e.path)) hu hm
        rw [hsp, hx] at this; cases this
    obtain ⟨hu1, hu2⟩ := h.says.of' _ u (names_ne hz) hu
    exact ⟨u.e, hu1, names_inj (h.says.full _ hu1) hz hu2, huk⟩
theorem size_zero {p : ByteArray} (h : p.size = 0) : p = ⟨#[]⟩ := un_inj (by
  have : (un p).length = 0 := by rw [un_length]; exact h
  rw [List.eq_nil_of_length_eq_zero this]; rfl)
theorem parent_root : parentB ⟨#[]⟩ = ⟨#[]⟩ := size_zero (Nat.le_zero.1 (parentB_size ⟨#[]⟩))
/-- Where the walk stands. -/
def Inv (L : List Ent) (m : Mn) (st : St) : Prop := st.L = L ∧ (st.here = ⟨#[]⟩ ∨ ∃ e, getE L st.here = some e ∧ (st.left ≠ [] → e.kind = 1) ∧ (e.kind = 3 → m.stay = true))
theorem inv_step (h : TreeOf W tb base F L) {m : Mn} {st : St} {c : ByteArray} {rest : List ByteArray} (hm : m.ab = 0) (hi : Inv L m st) (hl : st.left = c :: rest) (h0 : (stepN m st c rest).1 = 0) : Inv L m (stepN m st c rest).2 := by
  obtain ⟨hL, hh⟩ := hi
  have hne : st.left ≠ [] := by rw [hl]; simp
  have hdir : st.here = ⟨#[]⟩ ∨ ∃ e ∈ L, e.path = st.here ∧ e.kind = 1 := by
    rcases hh with hh | ⟨e, he, h1, _⟩
    · exact .inl hh
    · obtain ⟨m1, m2, _⟩ := get_mem he
      exact .inr ⟨e, m1, m2, h1 hne⟩
  unfold stepN at h0 ⊢
  split
  · refine ⟨hL, ?_⟩
    rcases hh with hh | ⟨e, he, h1, h2⟩
    · exact .inl hh
    · exact .inr ⟨e, he, fun _ => h1 hne, h2⟩
  · rename_i n1
    rw [if_neg n1] at h0
    split
    · refine ⟨hL, ?_⟩
      rcases hdir with hh | ⟨e, he, hp, hk⟩
      · left; show parentB st.here = _; rw [hh]; exact parent_root
      · rcases tree_parent h he with hz | ⟨u, hu, hup, huk⟩
        · left; show parentB st.here = _; rw [← hp]; exact size_zero hz
        · right
          refine ⟨u, ?_, fun _ => huk, fun hk3 => by omega⟩
          show getE L (parentB st.here) = _
          rw [← hp, ← hup]; exact get_of_mem h hu
    · rename_i n2
      rw [if_neg n2] at h0
      rw [hL] at h0 ⊢
      cases hg : getE L (joinB st.here c) with
      | none =>
        rw [hg] at h0
        simp only [absN, hm] at h0
        omega
      | some e =>
        rw [hg] at h0
        simp only at h0 ⊢
        obtain ⟨he, _, _⟩ := get_mem hg
        have hkr := kind_range (h.right e he)
        unfold thereN at h0 ⊢
        by_cases h3 : isFile m e rest = true
        · rw [if_pos h3] at h0; simp at h0
        · rw [if_neg h3] at h0 ⊢
          by_cases h4 : isLink m e rest = true
          · rw [if_pos h4] at h0 ⊢
            unfold linkS at h0 ⊢
            by_cases h5 : st.hops = 40
            · rw [if_pos h5] at h0; simp at h0
            · rw [if_neg h5]
              refine ⟨hL, ?_⟩
              by_cases hs : slashed e.link = true
              · left; show (if slashed e.link then _ else _) = _; rw [if_pos hs]
              · rw [show (if slashed e.link then (⟨#[]⟩ : ByteArray) else st.here) = st.here from if_neg hs]
                rcases hdir with hh | ⟨d, hd, hp, hk⟩
                · exact .inl hh
                · exact .inr ⟨d, by show getE L st.here = _; rw [← hp]; exact get_of_mem h hd, fun _ => hk, fun hk3 => by omega⟩
          · rw [if_neg h4]
            refine ⟨hL, .inr ⟨e, hg, fun hr => ?_, fun hk3 => ?_⟩⟩
            · have hr' : rest.isEmpty = false := by cases rest with | nil => exact absurd rfl hr | cons a b => rfl
              rcases hkr with hk | hk | hk
              · exact hk
              · exact absurd (by unfold isFile; rw [hk, hr']; simp) h3
              · exact absurd (by unfold isLink; rw [hk, hr']; simp) h4
            · cases hst : m.stay with
              | true => rfl
              | false => exact absurd (by unfold isLink; rw [hk3, hst]; simp) h4
theorem inv_go (h : TreeOf W tb base F L) {m : Mn} (hm : m.ab = 0) : ∀ (f : Nat) (st : St), Inv L m st → (goF m f st).1 = 0 → Inv L m (goF m f st).2.1
  | 0, st, hi, _ => hi
  | f + 1, st, hi, h0 => by
    cases hl : st.left with
    | nil => rw [goF_nil hl]; exact hi
    | cons c rest =>
      by_cases hs : (stepN m st c rest).1 = 0
      · rw [goF_ok hl hs] at h0 ⊢
        exact inv_go h hm f _ (inv_step h hm hi hl hs) h0
      · rw [goF_err hl hs] at h0
        exact absurd h0 hs
/-- The walk ends with all its pieces taken. -/
theorem go_left {m : Mn} {B : Nat} : ∀ (f : Nat) (st : St), Good B st → Right st.L → msr st < f → (goF m f st).1 = 0 → (goF m f st).2.1.left = []
  | 0, st, _, _, h, _ => by omega
  | f + 1, st, hg, hr, hf, h0 => by
    cases hl : st.left with
    | nil => rw [goF_nil hl]; exact hl
    | cons c rest =>
      by_cases hs : (stepN m st c rest).1 = 0
      · rw [goF_ok hl hs] at h0 ⊢
        obtain ⟨q1, q2⟩ := step_good hg hl hr hs
        have := (step_msr m st c rest hl (right_short hr) hg.hh hs).1
        exact go_left f _ q1 q2 (by omega) h0
      · rw [goF_err hl hs] at h0
        exact absurd h0 hs
theorem step_errs {m : Mn} {st : St} {c : ByteArray} {rest : List ByteArray} (hm : m.ab = 0) (h0 : (stepN m st c rest).1 ≠ 0) : (stepN m st c rest).1 = 10 ∨ (stepN m st c rest).1 = 13 ∨ (stepN m st c rest).1 = 12 := by
  unfold stepN at h0 ⊢
  split
  · rename_i h1; rw [if_pos h1] at h0; exact absurd rfl h0
  · rename_i h1
    rw [if_neg h1] at h0
    split
    · rename_i h2; rw [if_pos h2] at h0; exact absurd rfl h0
    · rename_i h2
      rw [if_neg h2] at h0
      cases hg : getE st.L (joinB st.here c) with
      | none => simp only [absN, hm]; exact .inl trivial
      | some e =>
        rw [hg] at h0
        simp only at h0 ⊢
        unfold thereN at h0 ⊢
        by_cases h3 : isFile m e rest = true
        · rw [if_pos h3]; exact .inr (.inl rfl)
        · rw [if_neg h3] at h0 ⊢
          by_cases h4 : isLink m e rest = true
          · rw [if_pos h4] at h0 ⊢
            unfold linkS at h0 ⊢
            by_cases h5 : st.hops = 40
            · rw [if_pos h5]; exact .inr (.inr rfl)
            · rw [if_neg h5] at h0; exact absurd rfl h0
          · rw [if_neg h4] at h0; exact absurd rfl h0
theorem go_errs {m : Mn} (hm : m.ab = 0) : ∀ (f : Nat) (st : St), (goF m f st).1 ≠ 0 → (goF m f st).1 = 10 ∨ (goF m f st).1 = 13 ∨ (goF m f st).1 = 12
  | 0, st, h => absurd rfl h
  | f + 1, st, h => by
    cases hl : st.left with
    | nil => rw [goF_nil hl] at h; exact absurd rfl h
    | cons c rest =>
      by_cases hs : (stepN m st c rest).1 = 0
      · rw [goF_ok hl hs] at h ⊢
        exact go_errs hm f _ h
      · rw [goF_err hl hs]
        exact step_errs hm hs
theorem name_facts {x : ByteArray} (h : nameN x = 0) : x.size ≠ 0 ∧ x ≠ dotB ∧ x ≠ ddB := by
  refine ⟨name_full h, fun e => ?_, fun e => ?_⟩
  · subst e
    unfold nameN at h
    simp only [toList_un] at h
    revert h; decide +kernel
  · subst e
    unfold nameN at h
    simp only [toList_un] at h
    revert h; decide +kernel
/-- A name behind a path. -/
theorem names_join {q y : ByteArray} (hy : (47 : UInt8) ∉ un y) (h0 : y.size ≠ 0) : namesP (joinB q y) = namesP q ++ [un y] ∧ (joinB q y).size ≠ 0 := by
  unfold joinB
  by_cases hq : q.size = 0
  · rw [if_pos ((isEmpty_iff q).2 hq)]
    refine ⟨?_, h0⟩
    unfold namesP
    rw [if_neg h0, if_pos hq, cut_noslash hy]; rfl
  · have hqe : q.toList.isEmpty = false := (isEmpty_false q).2 (by omega)
    rw [if_neg (by rw [hqe]; simp)]
    have hsz : (q ++ ⟨#[47]⟩ ++ y).size ≠ 0 := by rw [ByteArray.size_append, ByteArray.size_append]; omega
    refine ⟨?_, hsz⟩
    unfold namesP
    rw [if_neg hsz, if_neg hq, un_append, un_append, show un (ByteArray.mk #[47]) = [47] from rfl, List.append_assoc, show [47] ++ un y = 47 :: un y from rfl, cut_append, cut_noslash hy]
theorem cut_mem_noslash (l : List UInt8) : ∀ x ∈ cutL l, (47 : UInt8) ∉ x := by
  induction l with
  | nil => simp [cutL]
  | cons c l ih =>
    intro x hx
    unfold cutL at hx
    split at hx
    · rcases List.mem_cons.1 hx with rfl | hx
      · simp
      · exact ih x hx
    · rename_i hc
      have hne := cutL_ne l
      rcases hcl : cutL l with _ | ⟨y, ys⟩
      · exact absurd hcl hne
      · rw [hcl] at hx ih
        simp only [List.headD_cons, List.tail_cons] at hx
        rcases List.mem_cons.1 hx with rfl | hx
        · intro hm
          rcases List.mem_cons.1 hm with h1 | h1
          · exact hc (by rw [← h1]; rfl)
          · exact ih y (by simp) h1
        · exact ih x (by simp [hx])
/-- A path lies at these names. -/
def AtN (F : Pic) (ns : List (List UInt8)) (q : ByteArray) : Prop := namesP q = ns ∧ (q = ⟨#[]⟩ ∨ ∃ x, F ns = some x ∧ x.e.path = q)
/-- Down the names of a tree one comes to what lies there. -/
theorem way_down (h : TreeOf W tb base F L) {m : Mn} {z : Nd} (hops : Nat) (made : List ByteArray) : ∀ (rest : List ByteArray) (ns : List (List UInt8)) (q : ByteArray) (f : Nat), namesP q = ns → F (ns ++ rest.map un) = some z → (∀ y ∈ rest, (47 : UInt8) ∉ un y ∧ y.size ≠ 0 ∧ y ≠ dotB ∧ y ≠ ddB) → (z.e.kind = 2 → m.dirs = false) → (z.e.kind = 3 → m.stay = true) → rest.length < f →
    ∃ p tr, goF m f { L := L, here := q, left := rest, hops := hops, made := made } = (0, { L := L, here := p, left := [], hops := hops, made := made }, tr) ∧ namesP p = ns ++ rest.map un ∧ (rest ≠ [] → p.size ≠ 0) ∧ (rest = [] → p = q)
  | [], ns, q, f, hq, hz, _, _, _, _ => ⟨q, [], goF_nil rfl, by simpa using hq, fun h => absurd rfl h, fun _ => rfl⟩
  | y :: rest, ns, q, 0, _, _, _, _, _, hf => by simp at hf
  | y :: rest, ns, q, f + 1, hq, hz, hy, hfile, hlink, hf => by
    obtain ⟨y1, y2, y3, y4⟩ := hy y (by simp)
    obtain ⟨j1, j2⟩ := names_join (q := q) y1 y2
    rw [hq] at j1
    have hz' : F ((ns ++ [un y]) ++ rest.map un) = some z := by simpa using hz
    obtain ⟨x, hx⟩ : ∃ x, F (ns ++ [un y]) = some x := h.at'.tree.ahead hz'
    obtain ⟨x1, x2⟩ := h.says.of' _ x (by simp) hx
    have hp : x.e.path = joinB q y := names_inj (h.says.full _ x1) j2 (by rw [x2, j1])
    have hg : getE L (joinB q y) = some x.e := by rw [← hp]; exact get_of_mem h x1
    have hst : stepN m { L := L, here := q, left := y :: rest, hops := hops, made := made } y rest = (0, { L := L, here := joinB q y, left := rest, hops := hops, made := made }) := by
      unfold stepN
      rw [if_neg y3, if_neg y4]
      simp only [hg]
      have hkind : rest ≠ [] → x.e.kind = 1 := fun hr => by
        by_cases hk : x.e.kind = 1
        · exact hk
        · have hm := (h.at'.kinds _ x hx).2 hk
          rcases rest with _ | ⟨y', r'⟩
          · exact absurd rfl hr
          · have := h.at'.tree.leaf _ x (un y') hx hm
            have h2 := h.at'.tree.gone_all this (r'.map un)
            rw [show (ns ++ [un y] ++ [un y']) ++ r'.map un = (ns ++ [un y]) ++ (y' :: r').map un by simp] at h2
            rw [h2] at hz'; cases hz'
      have hxz : rest = [] → x = z := fun hr => by
        subst hr
        rw [List.map_nil, List.append_nil, hx] at hz'
        exact Option.some.inj hz'
      unfold thereN
      have f1 : isFile m x.e rest = false := by
        unfold isFile
        rcases rest with _ | ⟨y', r'⟩
        · by_cases hk : x.e.kind = 2
          · have := hxz rfl
            subst this
            rw [hfile hk]; simp
          · rw [show (x.e.kind == 2) = false by simpa using hk]; rfl
        · rw [hkind (by simp)]; rfl
      have f2 : isLink m x.e rest = false := by
        unfold isLink
        rcases rest with _ | ⟨y', r'⟩
        · by_cases hk : x.e.kind = 3
          · have := hxz rfl
            subst this
            rw [hlink hk]; simp
          · rw [show (x.e.kind == 3) = false by simpa using hk]; rfl
        · rw [hkind (by simp)]; rfl
      rw [if_neg (by rw [f1]; simp), if_neg (by rw [f2]; simp)]
    obtain ⟨p, tr, g1, g2, g3, g4⟩ := way_down h hops made rest (ns ++ [un y]) (joinB q y) f j1 hz' (fun v hv => hy v (by simp [hv])) hfile hlink (by simp at hf; omega)
    refine ⟨p, joinB q y :: tr, ?_, by rw [g2]; simp, fun _ => ?_, fun h => by cases h⟩
    · rw [goF_ok (c := y) (rest := rest) rfl (by rw [hst]), hst, g1]
    · by_cases hr : rest = []
      · rw [g4 hr]; exact j2
      · exact g3 hr
/-- A path of the tree leads to itself. -/
theorem find_self (h : TreeOf W tb base F L) {e : Ent} (he : e ∈ L) {stay : Bool} (hs : e.kind = 3 → stay = true) : (goN ⟨0, false, stay⟩ (start L e.path)).1 = 0 ∧ (goN ⟨0, false, stay⟩ (start L e.path)).2.1.here = e.path := by
  obtain ⟨z, hz, hze⟩ := h.says.at' e he
  obtain ⟨c1, c2, c3⟩ := check_facts (wrong_check (h.right e he))
  have hnm : namesB e.path = (namesP e.path).map bs := by
    unfold namesB
    rw [← pieces_names c1]
    refine List.filter_eq_self.2 (fun x hx => ?_)
    unfold full
    rw [(isEmpty_false x).2 (by have := name_full (c3 x hx); omega)]; rfl
  have hun : (namesB e.path).map un = namesP e.path := by rw [hnm, List.map_map]; simp [Function.comp_def, un_bs]
  obtain ⟨p, tr, g1, g2, g3, _⟩ := way_down (m := ⟨0, false, stay⟩) h 0 [] (namesB e.path) [] ⟨#[]⟩ (msr (start L e.path) + 1) rfl (by rw [hun]; exact hz)
    (fun y hy => by
      have hy' : y ∈ piecesB e.path := (List.mem_filter.1 hy).1
      obtain ⟨n1, n2, n3⟩ := name_facts (c3 y hy')
      refine ⟨?_, n1, n2, n3⟩
      unfold piecesB at hy'
      obtain ⟨l, hl, rfl⟩ := List.mem_map.1 hy'
      rw [un_bs]
      exact cut_mem_noslash _ l hl) (fun _ => rfl) (fun hk => hs (by rw [← hze]; exact hk)) (by
      show (namesB e.path).length < (namesB e.path).length + 200 * (40 - 0) + 1; omega)
  have : goN ⟨0, false, stay⟩ (start L e.path) = _ := g1
  rw [this]
  refine ⟨rfl, ?_⟩
  have hp : p.size ≠ 0 := g3 (fun e0 => by
    have := names_ne c1
    rw [← hun, e0] at this
    exact this rfl)
  exact names_inj hp c1 (by rw [g2, hun]; rfl)
theorem find_root (L : List Ent) (stay : Bool) : (goN ⟨0, false, stay⟩ (start L ⟨#[]⟩)).1 = 0 ∧ (goN ⟨0, false, stay⟩ (start L ⟨#[]⟩)).2.1.here = ⟨#[]⟩ := by
  have hn : (start L ⟨#[]⟩).left = [] := by
    show namesB ⟨#[]⟩ = []
    simp only [namesB]; decide +kernel
  unfold goN
  rw [goF_nil hn]
  exact ⟨rfl, rfl⟩
end Go.Proofs.YtkaegdmkpjmfeaaGreatDoor

namespace Go.Proofs.YtkaegdmkpjmfeaaGreatDoor.Tx
open Go Go.RowKit
set_option maxHeartbeats 2000000 in
theorem same_p (l m : List ByteArray) (u v : Value) (w : World) (h1 : TextsAt w u l) (h2 : TextsAt w v m) (hz : l.length ≤ 1099511627776) (he : l = m) : Calls Tryz.prog 18 #[u, v] w fun e w' => e = .returned (.bool true) ∧ Below w.heap.size w w' := by
  subst he
  obtain ⟨a, c, rfl, _, hc⟩ := h1
  obtain ⟨a2, c2, rfl, _, hc2⟩ := h2
  have HC : Hid _ := hc
  have HC2 : Hid _ := hc2
  clear hc hc2
  go_enter Tryz.func18, Tryz.ntmps18
  go_wp2
  go_loopw [5] (fun n wr => ∃ (k d : Nat), k ≤ l.length ∧ n = .int .i64 k ∧ wr = w.drewN d) (fun n _ => l.length - (intOf n).toNat)
  case atStart => exact ⟨0, 0, Nat.zero_le _, rfl, rfl⟩
  case round =>
    obtain ⟨k, d, hk, rfl, rfl⟩ := hrel
    by_cases hlt : k < l.length
    · obtain ⟨x, hx⟩ : ∃ x, l[k]? = some x := ⟨_, List.getElem?_eq_getElem hlt⟩
      obtain ⟨b, o, rfl, hcell⟩ := HC.out k x hx
      obtain ⟨b2, o2, rfl, hcell2⟩ := HC2.out k x hx
      have d1 : (0 : Int) ≤ (k : Int) := by omega
      have d2 : (k : Int) < (l.length : Int) := by omega
      have d3 : (x.toList == x.toList) = true := by simp
      go_wp2
      go_region
      go_wp2
      go_roundw
      case rel => exact ⟨k + 1, d + 1, by omega, by go_num, rfl⟩
      case measure => simp [intOf]; omega
    · obtain rfl : k = l.length := by omega
      go_wp2
      go_ret
      exact ⟨rfl, below_drawn (Below.refl _ _) d⟩

end Go.Proofs.YtkaegdmkpjmfeaaGreatDoor.Tx

namespace Go.Proofs.YtkaegdmkpjmfeaaGreatDoor
open Go Go.RowKit

theorem tree_of3 {v : Value} {es : List Ent} {w : World} (hg : ErrType w) (hv : EntsAt w v es) (hl : es.length ≤ 1073741824) (hp : ∀ e ∈ es, e.path.size < 1152921504606846976) (hc : (checkGo [] es).1 = 0) : ∃ W tb tbase F, TreeOf W tb tbase F es := by
  obtain ⟨e, w', fr, ⟨_, tb, F, _, hT⟩, _⟩ := of_t v es w hg hv (by omega) hp hc []
  exact ⟨w', tb, _, F, hT⟩
theorem plain_any (n : Int) (hn : n = 0 ∨ (1 ≤ n ∧ n ≤ 32)) (w : World) (hg : ErrType w) : Calls Tryz.prog 13 #[errE n, .int .i64 n] w fun e w' => e = .returned (.bool true) ∧ Below w.heap.size w w' := by
  rcases hn with rfl | ⟨h1, h2⟩
  · exact plain_nil w
  · rw [errE_some (by omega)]; exact plain_some n h1 h2 w hg
theorem go_nums {L : List Ent} {way : ByteArray} {last : Bool} : (findR L way last).1 = 0 ∨ (1 ≤ (findR L way last).1 ∧ (findR L way last).1 ≤ 32) := by
  by_cases h : (findR L way last).1 = 0
  · exact .inl h
  · right
    rcases go_errs rfl _ _ h with h1 | h1 | h1
    · have : (findR L way last).1 = 10 := h1
      omega
    · have : (findR L way last).1 = 13 := h1
      omega
    · have : (findR L way last).1 = 12 := h1
      omega
set_option maxRecDepth 100000 in
set_option maxHeartbeats 4000000 in
theorem rfind_no (v : Value) (es : List Ent) (way : ByteArray) (w : World) (hg : ErrType w) (hv : EntsAt w v es) (hl : es.length ≤ 1073741824) (hp : ∀ e ∈ es, e.path.size < 1152921504606846976) (hc : (checkGo [] es).1 ≠ 0) :
    Calls Tryz.prog 3 #[v, .string way] w fun e w' => e = .returned (.bool true) ∧ Below w.heap.size w w' := by
  have hO := ofl_no v es w hg hv hl hp hc
  clear hc
  go_enter Tryz.func3, Tryz.ntmps3
  go_wp2_with (first | (go_at_call 9; refine hO.mono ?_; rintro e w1 ⟨hb1, rfl⟩) | (go_at_call 10; refine (works_r _ (hg.below hb1)).mono ?_; rintro e w2 ⟨rfl, hb2⟩))
  go_ret
  exact ⟨rfl, below_join hb1 hb2⟩
set_option maxRecDepth 100000 in
set_option maxHeartbeats 8000000 in
theorem rfind_ok (v : Value) (es : List Ent) (way p q : ByteArray) (m n : Int) (w : World) (hg : ErrType w) (hv : EntsAt w v es) (hl : es.length ≤ 1073741824) (hp : ∀ e ∈ es, e.path.size < 1152921504606846976) (hw : way.size ≤ 1073741824) (hc : (checkGo [] es).1 = 0) (hR : Right es)
    (h1 : ansB (findR es way true) = p ∧ (findR es way true).1 = m) (h2 : ansB (findR es way false) = q ∧ (findR es way false).1 = n) (hm : m = 0 ∨ (1 ≤ m ∧ m ≤ 32)) (hn : n = 0 ∨ (1 ≤ n ∧ n ≤ 32)) :
    Calls Tryz.prog 3 #[v, .string way] w fun e w' => e = .returned (.bool true) ∧ Below w.heap.size w w' := by
  have hO := ofl_ok v es w hg hv hl hp hc
  have H1 : Hid (ansB (findR es way true) = p ∧ (findR es way true).1 = m) := h1
  have H2 : Hid (ansB (findR es way false) = q ∧ (findR es way false).1 = n) := h2
  have HV : Hid (∀ W, Below w.heap.size w W → EntsAt W v es) := fun W hb => hv.below hb
  have HM : Hid (m = 0 ∨ (1 ≤ m ∧ m ≤ 32)) := hm
  have HN : Hid (n = 0 ∨ (1 ≤ n ∧ n ≤ 32)) := hn
  obtain ⟨a, cap, b, o, rfl, _⟩ := hv
  clear hc h1 h2 hm hn
  go_enter Tryz.func3, Tryz.ntmps3
  go_wp2_with fail
  refine hO.mono ?_
  rintro e w1 ⟨hb1, tb, tbase, F, rfl, _, hT1⟩
  clear hO
  go_wp2_with fail
  have hD1 := find_d true way es a cap w1 (HV.out w1 hb1) hl hR hw
  rw [H1.out.1, H1.out.2] at hD1
  with_reducible refine hD1.mono ?_
  rintro e w2 ⟨rfl, hb2'⟩
  have hb2 := below_join hb1 hb2'
  have hT2 := hT1.below hb2'
  clear hD1 hb1 hb2' hT1
  go_wp2_with fail
  have hD2 := find_d false way es a cap w2 (HV.out w2 hb2) hl hR hw
  rw [H2.out.1, H2.out.2] at hD2
  with_reducible refine hD2.mono ?_
  rintro e w3 ⟨rfl, hb3'⟩
  have hb3 := below_join hb2 hb3'
  have hT3 := hT2.below hb3'
  clear hD2 hb2 hb3' hT2
  go_wp2_with fail
  have hF1 := find_p true way es w3 hT3 (by omega)
  rw [H1.out.1, H1.out.2] at hF1
  with_reducible refine hF1.mono ?_
  rintro e w4 ⟨rfl, hb4'⟩
  have hb4 := below_join hb3 hb4'
  have hT4 := hT3.below hb4'
  clear hF1 hb3 hb4' hT3
  go_wp2_with fail
  have hF2 := find_p false way es w4 hT4 (by omega)
  rw [H2.out.1, H2.out.2] at hF2
  with_reducible refine hF2.mono ?_
  rintro e w5 ⟨rfl, hb5'⟩
  have hb5 := below_join hb4 hb5'
  have hT5 := hT4.below hb5'
  clear hF2 hb4 hb5' hT4
  generalize hem : errE m = em
  generalize hen : errE n = en
  go_wp2_with fail
  rw [← hem]
  with_reducible refine (plain_any m HM.out _ (hg.below hb5)).mono ?_
  rintro e w6 ⟨rfl, hb6'⟩
  rw [hem]
  have hb6 := below_join hb5 hb6'
  have hT6 := hT5.below hb6'
  clear hb5 hb6' hT5
  go_wp2_with fail
  rw [← hen]
  with_reducible refine (plain_any n HN.out _ (hg.below hb6)).mono ?_
  rintro e w7 ⟨rfl, hb7'⟩
  rw [hen]
  have hb7 := below_join hb6 hb7'
  have hT7 := hT6.below hb7'
  clear hb6 hb7' hT6
  go_wp2_with fail
  with_reducible refine (list_p tb tbase F es _ hT7).mono ?_
  rintro e w8 ⟨u, rfl, hu, hb8'⟩
  have hb8 := below_join hb7 hb8'
  have hU := ents_of_owns hu
  have HU : Hid (EntsAt w8 u es) := hU
  clear hb7 hb8' hT7 hu hU
  go_wp2_with fail
  with_reducible refine (same_p u _ es _ HU.out (HV.out _ hb8) (by omega)).mono ?_
  rintro e w9 ⟨rfl, hb9'⟩
  have hb9 := below_join hb8 hb9'
  clear hb8 hb9' HU
  go_wp2_with (go_at_call 10; refine (works_r _ (hg.below hb9)).mono ?_; rintro e w10 ⟨rfl, hb10⟩)
  go_ret
  exact ⟨rfl, below_join hb9 hb10⟩
theorem resolvefind_law (v : Value) (es : List Ent) (way : ByteArray) (w : World) (hg : ErrType w) (hv : EntsAt w v es) (hl : es.length ≤ 1073741824) (hp : ∀ e ∈ es, e.path.size < 1152921504606846976) (hw : way.size ≤ 1073741824) :
    Calls Tryz.prog 3 #[v, .string way] w fun e w' => e = .returned (.bool true) ∧ Below w.heap.size w w' := by
  by_cases hc : (checkGo [] es).1 = 0
  · obtain ⟨W, tb, tbase, F, hT⟩ := tree_of3 hg hv hl hp hc
    exact rfind_ok v es way _ _ _ _ w hg hv hl hp hw hc hT.right ⟨rfl, rfl⟩ ⟨rfl, rfl⟩ go_nums go_nums
  · exact rfind_no v es way w hg hv hl hp hc
end Go.Proofs.YtkaegdmkpjmfeaaGreatDoor

namespace Go.Proofs.YtkaegdmkpjmfeaaGreatDoor
open Go Go.RowKit

/-- What Trail answers: its number, its texts. -/
def cdT (L : List Ent) (way : ByteArray) : Int := (goN ⟨0, false, false⟩ (start L way)).1
def tl (L : List Ent) (way : ByteArray) : List ByteArray := if cdT L way = 0 then trailL L way else []
theorem goF_few (m : Mn) : ∀ (f : Nat) (st : St), (goF m f st).2.2.length ≤ f
  | 0, st => by unfold goF; simp
  | f + 1, st => by
    cases h : st.left with
    | nil => rw [goF_nil h]; simp
    | cons c rest =>
      by_cases h0 : (stepN m st c rest).1 = 0
      · rw [goF_ok h h0]
        have := goF_few m f (stepN m st c rest).2
        simp only [List.length_cons]; omega
      · rw [goF_err h h0]; simp
theorem tl_few (L : List Ent) (way : ByteArray) (hw : way.size ≤ 1073741824) : (tl L way).length ≤ 1099511627776 := by
  unfold tl
  by_cases h : cdT L way = 0
  · rw [if_pos h]
    unfold trailL
    have h1 := goF_few ⟨0, false, false⟩ (msr (start L way) + 1) (start L way)
    have h2 : msr (start L way) ≤ way.size + 1 + 8000 := by
      have := names_len way
      unfold msr
      show (namesB way).length + 200 * (40 - 0) ≤ _
      omega
    rw [List.length_cons]
    unfold goN
    omega
  · rw [if_neg h]; simp
theorem cd_nums {L : List Ent} {way : ByteArray} : cdT L way = 0 ∨ (1 ≤ cdT L way ∧ cdT L way ≤ 32) := go_nums (last := true)
theorem tr_p (way : ByteArray) (L : List Ent) (w : World) {tb tbase : Nat} {F : Pic} (h : TreeOf w tb tbase F L) (hw : way.size ≤ 1099511627776) :
    Calls Tryz.prog 17 #[.pointer (some ⟨tb, 0, none⟩), .string way] w fun e w' => ∃ a c, e = .returned (.tuple #[.slice a (tl L way).length c, errE (cdT L way)]) ∧ w'.ownsRow w.heap.size 9 1 (.slice a (tl L way).length c) (tl L way).length (Tx.strs (tl L way)) ∧ Below w.heap.size w w' := by
  by_cases h0 : cdT L way = 0
  · refine (trail_ok way L w h hw h0).mono ?_
    rintro e w' ⟨v, rfl, ho, hb⟩
    obtain ⟨a, c, rfl, _⟩ := Tx.own_shape ho
    have e1 : tl L way = trailL L way := if_pos h0
    rw [e1, h0]
    exact ⟨a, c, rfl, ho, hb⟩
  · refine (trail_err way L w h hw h0).mono ?_
    rintro e w' ⟨rfl, hb⟩
    have e1 : tl L way = [] := if_neg h0
    rw [e1, errE_some h0]
    exact ⟨none, 0, rfl, World.ownsRow_nil _ _ _ _, hb⟩
theorem td_p (way : ByteArray) (L : List Ent) (a1 : Option Addr) (c1 : Nat) (w : World) (hEv : EntsAt w (.slice a1 L.length c1) L) (hLl : L.length ≤ 1073741824) (hR : Right L) (hw : way.size ≤ 1073741824) :
    Calls Tryz.prog 16 #[.slice a1 L.length c1, .string way] w fun e w' => ∃ a c, e = .returned (.tuple #[.slice a (tl L way).length c, .int .i64 (cdT L way)]) ∧ w'.ownsRow w.heap.size 9 1 (.slice a (tl L way).length c) (tl L way).length (Tx.strs (tl L way)) ∧ Below w.heap.size w w' := by
  refine (trail_d way L a1 c1 w hEv hLl hR hw).mono ?_
  rintro e w' ⟨v, rfl, _, hn, ho, hb⟩
  by_cases h0 : cdT L way = 0
  · have ho := ho h0
    obtain ⟨a, c, rfl, _⟩ := Tx.own_shape ho
    have e1 : tl L way = trailL L way := if_pos h0
    rw [e1]
    exact ⟨a, c, rfl, ho, hb⟩
  · have e1 : tl L way = [] := if_neg h0
    rw [e1, hn h0]
    exact ⟨none, 0, rfl, World.ownsRow_nil _ _ _ _, hb⟩
set_option maxRecDepth 100000 in
set_option maxHeartbeats 4000000 in
theorem rtrail_no (v : Value) (es : List Ent) (way other : ByteArray) (w : World) (hg : ErrType w) (hv : EntsAt w v es) (hl : es.length ≤ 1073741824) (hp : ∀ e ∈ es, e.path.size < 1152921504606846976) (hc : (checkGo [] es).1 ≠ 0) :
    Calls Tryz.prog 4 #[v, .string way, .string other] w fun e w' => e = .returned (.bool true) ∧ Below w.heap.size w w' := by
  have hO := ofl_no v es w hg hv hl hp hc
  clear hc
  go_enter Tryz.func4, Tryz.ntmps4
  go_wp2_with (first | (go_at_call 9; refine hO.mono ?_; rintro e w1 ⟨hb1, rfl⟩) | (go_at_call 10; refine (works_r _ (hg.below hb1)).mono ?_; rintro e w2 ⟨rfl, hb2⟩))
  go_ret
  exact ⟨rfl, below_join hb1 hb2⟩
/-- What stands while the answers are held against each other. -/
structure Tr (w w3 W : World) (tb tbase : Nat) (F : Pic) (es : List Ent) (l m : List ByteArray) (x y a b c d : Value) : Prop where
  base : w.heap.size ≤ w3.heap.size
  all : Below w.heap.size w W
  few : Below w3.heap.size w3 W
  tree : TreeOf w3 tb tbase F es
  rx : Tx.TextsAt W x l
  ry : Tx.TextsAt W y m
  ra : W.ownsRow w3.heap.size 9 1 a l.length (Tx.strs l)
  rb : W.ownsRow w3.heap.size 9 1 b l.length (Tx.strs l)
  rc : W.ownsRow w3.heap.size 9 1 c m.length (Tx.strs m)
  rd : W.ownsRow w3.heap.size 9 1 d l.length (Tx.strs l)
  ab : a.ownBlock = none ∨ b.ownBlock = none ∨ a.ownBlock ≠ b.ownBlock
  ac : a.ownBlock = none ∨ c.ownBlock = none ∨ a.ownBlock ≠ c.ownBlock
  ad : a.ownBlock = none ∨ d.ownBlock = none ∨ a.ownBlock ≠ d.ownBlock
  bc : b.ownBlock = none ∨ c.ownBlock = none ∨ b.ownBlock ≠ c.ownBlock
  bd : b.ownBlock = none ∨ d.ownBlock = none ∨ b.ownBlock ≠ d.ownBlock
  cd : c.ownBlock = none ∨ d.ownBlock = none ∨ c.ownBlock ≠ d.ownBlock
theorem Tr.below {w w3 W W' : World} {tb tbase : Nat} {F : Pic} {es : List Ent} {l m : List ByteArray} {x y a b c d : Value} (h : Tr w w3 W tb tbase F es l m x y a b c d) (hb : Below W.heap.size W W') : Tr w w3 W' tb tbase F es l m x y a b c d :=
  ⟨h.base, below_join h.all hb, below_join h.few hb, h.tree, h.rx.below hb, h.ry.below hb, Tx.own_below h.ra hb, Tx.own_below h.rb hb, Tx.own_below h.rc hb, Tx.own_below h.rd hb, h.ab, h.ac, h.ad, h.bc, h.bd, h.cd⟩
theorem apart_of {A B : World} {n m s t : Nat} {u v : Value} {xs ys : List Value} (h : A.ownsRow s 9 1 u n xs) (k : B.ownsRow t 9 1 v m ys) (hs : A.heap.size ≤ t) : u.ownBlock = none ∨ v.ownBlock = none ∨ u.ownBlock ≠ v.ownBlock := by
  cases hu : u.ownBlock with
  | none => exact .inl rfl
  | some p =>
    right
    cases hv : v.ownBlock with
    | none => exact .inl rfl
    | some q =>
      right
      have h1 := h.lt p hu
      have h2 := k.lt q hv
      intro e
      cases e
      omega
theorem two_apart {u v : Value} (h : u.ownBlock = none ∨ v.ownBlock = none ∨ u.ownBlock ≠ v.ownBlock) : (u.ownBlock = none ∨ u.ownBlock ≠ v.ownBlock) ∧ (v.ownBlock = none ∨ v.ownBlock ≠ u.ownBlock) := by
  rcases h with h | h | h
  · refine ⟨.inl h, ?_⟩
    cases hv : v.ownBlock with
    | none => exact .inl rfl
    | some q => exact .inr (by rw [h]; exact fun e => nomatch e)
  · refine ⟨?_, .inl h⟩
    cases hv : u.ownBlock with
    | none => exact .inl rfl
    | some q => exact .inr (by rw [h]; exact fun e => nomatch e)
  · exact ⟨.inr h, .inr (fun e => h e.symm)⟩
theorem Tr.handed {w w3 W : World} {tb tbase : Nat} {F : Pic} {es : List Ent} {l m : List ByteArray} {x y a b c d : Value} (h : Tr w w3 W tb tbase F es l m x y a b c d) : Tx.Handed W.heap.size [a, b, c, d] := by
  refine ⟨fun i j u v hu hv hij => ?_, fun i u hu e => ?_⟩
  · rcases i with _ | _ | _ | _ | i <;> rcases j with _ | _ | _ | _ | j <;> simp at hu hv hij <;> subst hu <;> subst hv
    · exact (two_apart h.ab).1
    · exact (two_apart h.ac).1
    · exact (two_apart h.ad).1
    · exact (two_apart h.ab).2
    · exact (two_apart h.bc).1
    · exact (two_apart h.bd).1
    · exact (two_apart h.ac).2
    · exact (two_apart h.bc).2
    · exact (two_apart h.cd).1
    · exact (two_apart h.ad).2
    · exact (two_apart h.bd).2
    · exact (two_apart h.cd).2
  · rcases i with _ | _ | _ | _ | i <;> simp at hu <;> subst hu
    · have := (h.ra.lt _ e).2; omega
    · have := (h.rb.lt _ e).2; omega
    · have := (h.rc.lt _ e).2; omega
    · have := (h.rd.lt _ e).2; omega
theorem Tr.apart {w w3 W : World} {tb tbase : Nat} {F : Pic} {es : List Ent} {l m : List ByteArray} {x y a b c d : Value} (h : Tr w w3 W tb tbase F es l m x y a b c d) (hl : l.length ≤ 1099511627776) (hm : m.length ≤ 1099511627776) :
    Calls Tryz.prog 19 #[.slice (some ⟨W.heap.size, 0, none⟩) 4 4] (W.alloc (.cells #[a, b, c, d] 37)) fun e w' => e = .returned (.bool true) ∧ Below w.heap.size w w' ∧ TreeOf w' tb tbase F es := by
  have hsz := h.few.size
  have hb := (Below.refl W.heap.size W).alloc (Nat.le_refl _) (.cells #[a, b, c, d] 37)
  have h' := h.below hb
  have hz : ∀ xs ∈ [l, l, m, l], xs.length ≤ 1099511627776 := by
    intro xs hx
    simp at hx
    rcases hx with rfl | rfl | rfl <;> assumption
  refine (Tx.apart_p w3.heap.size W.heap.size 4 [a, b, c, d] [l, l, m, l] (W.alloc (.cells #[a, b, c, d] 37)) rfl (by simp) h'.few.size (Tx.Lies.new W 37 #[a, b, c, d]) h.handed (Tx.Rws.start (fun j u xs h1 h2 => ?_)) hz).mono ?_
  · rcases j with _ | _ | _ | _ | j <;> simp at h1 h2 <;> subst h1 <;> subst h2
    · exact h'.ra
    · exact h'.rb
    · exact h'.rc
    · exact h'.rd
  · rintro e w' ⟨rfl, hb'⟩
    exact ⟨rfl, h'.all.trans (hb'.mono h.base), h.tree.below (h'.few.trans hb')⟩
set_option maxRecDepth 100000 in
set_option maxHeartbeats 8000000 in
theorem rtrail_ok (v : Value) (es : List Ent) (way other : ByteArray) (l k : List ByteArray) (n m : Int) (w : World) (hg : ErrType w) (hv : EntsAt w v es) (hl : es.length ≤ 1073741824) (hp : ∀ e ∈ es, e.path.size < 1152921504606846976) (hw : way.size ≤ 1073741824) (hw2 : other.size ≤ 1073741824) (hc : (checkGo [] es).1 = 0) (hR : Right es)
    (h1 : tl es way = l ∧ cdT es way = n) (h2 : tl es other = k ∧ cdT es other = m) (hn : n = 0 ∨ (1 ≤ n ∧ n ≤ 32)) (hm : m = 0 ∨ (1 ≤ m ∧ m ≤ 32)) (hll : l.length ≤ 1099511627776) (hkl : k.length ≤ 1099511627776) :
    Calls Tryz.prog 4 #[v, .string way, .string other] w fun e w' => e = .returned (.bool true) ∧ Below w.heap.size w w' := by
  have hO := ofl_ok v es w hg hv hl hp hc
  have H1 : Hid (tl es way = l ∧ cdT es way = n) := h1
  have H2 : Hid (tl es other = k ∧ cdT es other = m) := h2
  have HV : Hid (∀ W, Below w.heap.size w W → EntsAt W v es) := fun W hb => hv.below hb
  have HN : Hid (n = 0 ∨ (1 ≤ n ∧ n ≤ 32)) := hn
  have HM : Hid (m = 0 ∨ (1 ≤ m ∧ m ≤ 32)) := hm
  have HZ : Hid (l.length ≤ 1099511627776 ∧ k.length ≤ 1099511627776) := ⟨hll, hkl⟩
  obtain ⟨a0, cap0, b0, o0, rfl, _⟩ := hv
  clear hc h1 h2 hm hn hll hkl
  go_enter Tryz.func4, Tryz.ntmps4
  go_wp2_with fail
  refine hO.mono ?_
  rintro e w1 ⟨hb1, tb, tbase, F, rfl, _, hT1⟩
  clear hO
  go_wp2_with fail
  have hD1 := td_p way es a0 cap0 w1 (HV.out w1 hb1) hl hR hw
  rw [H1.out.1, H1.out.2] at hD1
  with_reducible refine hD1.mono ?_
  rintro e w2 ⟨xa, xc, rfl, hx, hb2'⟩
  have hb2 := below_join hb1 hb2'
  have hT2 := hT1.below hb2'
  have HX : Hid _ := hx
  clear hD1 hb1 hb2' hT1 hx
  go_wp2_with fail
  have hD2 := td_p other es a0 cap0 w2 (HV.out w2 hb2) hl hR hw2
  rw [H2.out.1, H2.out.2] at hD2
  with_reducible refine hD2.mono ?_
  rintro e w3 ⟨ya, yc, rfl, hy, hb3'⟩
  have hb3 := below_join hb2 hb3'
  have hT3 := hT2.below hb3'
  have HX3 : Hid _ := Tx.own_below HX.out hb3'
  have HY3 : Hid _ := hy
  clear hD2 hb2 hb3' hT2 hy HX
  go_wp2_with fail
  have hF4 := tr_p way es w3 hT3 (by omega)
  rw [H1.out.1, H1.out.2] at hF4
  with_reducible refine hF4.mono ?_
  rintro e w4 ⟨aa, ac, rfl, ha, hb4⟩
  have hT4 := hT3.below hb4
  have HA : Hid _ := ha
  clear hF4 ha
  go_wp2_with fail
  have hF5 := tr_p way es w4 hT4 (by omega)
  rw [H1.out.1, H1.out.2] at hF5
  with_reducible refine hF5.mono ?_
  rintro e w5 ⟨ba, bc, rfl, hbb, hb5⟩
  have hT5 := hT4.below hb5
  have HB : Hid _ := hbb
  clear hF5 hbb hT4
  go_wp2_with fail
  have hF6 := tr_p other es w5 hT5 (by omega)
  rw [H2.out.1, H2.out.2] at hF6
  with_reducible refine hF6.mono ?_
  rintro e w6 ⟨ca, cc, rfl, hcc, hb6⟩
  have hT6 := hT5.below hb6
  have HC : Hid _ := hcc
  clear hF6 hcc hT5
  go_wp2_with fail
  have hF7 := tr_p way es w6 hT6 (by omega)
  rw [H1.out.1, H1.out.2] at hF7
  with_reducible refine hF7.mono ?_
  rintro e w7 ⟨da, dc, rfl, hdd, hb7⟩
  have hTr : Tr w w3 w7 tb tbase F es l k (.slice xa l.length xc) (.slice ya k.length yc) (.slice aa l.length ac) (.slice ba l.length bc) (.slice ca k.length cc) (.slice da l.length dc) := by
    have b37 := below_join (below_join (below_join hb4 hb5) hb6) hb7
    have s3 := hb4.size
    have s4 := hb5.size
    have s5 := hb6.size
    have s6 := hb7.size
    exact ⟨hb3.size, below_join hb3 b37, b37, hT3, (Tx.TextsAt.own HX3.out).below b37, (Tx.TextsAt.own HY3.out).below b37,
      Tx.own_below HA.out (below_join (below_join hb5 hb6) hb7), Tx.own_base (Tx.own_below HB.out (below_join hb6 hb7)) (by omega), Tx.own_base (Tx.own_below HC.out hb7) (by omega), Tx.own_base hdd (by omega),
      apart_of HA.out HB.out (by omega), apart_of HA.out HC.out (by omega), apart_of HA.out hdd (by omega), apart_of HB.out HC.out (by omega), apart_of HB.out hdd (by omega), apart_of HC.out hdd (by omega)⟩
  have HT7 : Hid _ := hTr
  clear hF7 hdd hT6 HA HB HC HX3 HY3 hb3 hb4 hb5 hb6 hb7 hT3 hTr hw hw2
  generalize hen : errE n = en
  generalize hem : errE m = em
  go_wp2_with fail
  rw [← hen]
  with_reducible refine (plain_any n HN.out _ (hg.below HT7.out.all)).mono ?_
  rintro e w8 ⟨rfl, hb8⟩
  rw [hen]
  have HT8 : Hid _ := HT7.out.below hb8
  clear HT7 hb8
  go_wp2_with fail
  rw [← hen]
  with_reducible refine (plain_any n HN.out _ (hg.below HT8.out.all)).mono ?_
  rintro e w9 ⟨rfl, hb9⟩
  rw [hen]
  have HT9 : Hid _ := HT8.out.below hb9
  clear HT8 hb9
  go_wp2_with fail
  rw [← hem]
  with_reducible refine (plain_any m HM.out _ (hg.below HT9.out.all)).mono ?_
  rintro e w10 ⟨rfl, hb10⟩
  rw [hem]
  have HT10 : Hid _ := HT9.out.below hb10
  clear HT9 hb10
  go_wp2_with fail
  rw [← hen]
  with_reducible refine (plain_any n HN.out _ (hg.below HT10.out.all)).mono ?_
  rintro e w11 ⟨rfl, hb11⟩
  rw [hen]
  have HT11 : Hid _ := HT10.out.below hb11
  clear HT10 hb11
  go_wp2_with fail
  with_reducible refine (Tx.same_p l l _ _ _ (Tx.TextsAt.own HT11.out.ra) HT11.out.rx HZ.out.1 rfl).mono ?_
  rintro e w12 ⟨rfl, hb12⟩
  have HT12 : Hid _ := HT11.out.below hb12
  clear HT11 hb12
  go_wp2_with fail
  with_reducible refine (Tx.same_p l l _ _ _ (Tx.TextsAt.own HT12.out.rb) HT12.out.rx HZ.out.1 rfl).mono ?_
  rintro e w13 ⟨rfl, hb13⟩
  have HT13 : Hid _ := HT12.out.below hb13
  clear HT12 hb13
  go_wp2_with fail
  with_reducible refine (Tx.same_p k k _ _ _ (Tx.TextsAt.own HT13.out.rc) HT13.out.ry HZ.out.2 rfl).mono ?_
  rintro e w14 ⟨rfl, hb14⟩
  have HT14 : Hid _ := HT13.out.below hb14
  clear HT13 hb14
  go_wp2_with fail
  with_reducible refine (Tx.same_p l l _ _ _ (Tx.TextsAt.own HT14.out.rd) HT14.out.rx HZ.out.1 rfl).mono ?_
  rintro e w15 ⟨rfl, hb15⟩
  have HT15 : Hid _ := HT14.out.below hb15
  clear HT14 hb15
  go_wp2_with fail
  with_reducible refine (list_p tb tbase F es _ (HT15.out.tree.below HT15.out.few)).mono ?_
  rintro e w16 ⟨u, rfl, hu, hb16⟩
  have HU : Hid (EntsAt w16 u es) := ents_of_owns hu
  have HT16 : Hid _ := HT15.out.below hb16
  clear HT15 hb16 hu
  go_wp2_with fail
  with_reducible refine (same_p u _ es _ HU.out (HV.out _ HT16.out.all) (by omega)).mono ?_
  rintro e w17 ⟨rfl, hb17⟩
  have HT17 : Hid _ := HT16.out.below hb17
  clear HT16 hb17 HU
  go_wp2_with fail
  with_reducible refine (HT17.out.apart HZ.out.1 HZ.out.2).mono ?_
  rintro e w18 ⟨rfl, hb18, hT18⟩
  clear HT17
  go_wp2_with fail
  with_reducible refine (list_p tb tbase F es _ hT18).mono ?_
  rintro e w19 ⟨u2, rfl, hu2, hb19'⟩
  have HU2 : Hid (EntsAt w19 u2 es) := ents_of_owns hu2
  have hb19 := below_join hb18 hb19'
  clear hT18 hb18 hb19' hu2
  go_wp2_with fail
  with_reducible refine (same_p u2 _ es _ HU2.out (HV.out _ hb19) (by omega)).mono ?_
  rintro e w20 ⟨rfl, hb20'⟩
  have hb20 := below_join hb19 hb20'
  clear hb19 hb20' HU2
  go_wp2_with (go_at_call 10; refine (works_r _ (hg.below hb20)).mono ?_; rintro e w21 ⟨rfl, hb21⟩)
  go_ret
  exact ⟨rfl, below_join hb20 hb21⟩
theorem resolvetrail_law (v : Value) (es : List Ent) (way other : ByteArray) (w : World) (hg : ErrType w) (hv : EntsAt w v es) (hl : es.length ≤ 1073741824) (hp : ∀ e ∈ es, e.path.size < 1152921504606846976) (hw : way.size ≤ 1073741824) (hw2 : other.size ≤ 1073741824) :
    Calls Tryz.prog 4 #[v, .string way, .string other] w fun e w' => e = .returned (.bool true) ∧ Below w.heap.size w w' := by
  by_cases hc : (checkGo [] es).1 = 0
  · obtain ⟨W, tb, tbase, F, hT⟩ := tree_of3 hg hv hl hp hc
    exact rtrail_ok v es way other _ _ _ _ w hg hv hl hp hw hw2 hc hT.right ⟨rfl, rfl⟩ ⟨rfl, rfl⟩ cd_nums cd_nums (tl_few es way hw) (tl_few es other hw2)
  · exact rtrail_no v es way other w hg hv hl hp hc
end Go.Proofs.YtkaegdmkpjmfeaaGreatDoor
