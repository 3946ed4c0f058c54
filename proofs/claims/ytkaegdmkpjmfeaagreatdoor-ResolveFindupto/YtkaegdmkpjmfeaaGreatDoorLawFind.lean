/- ResolveFind: what the document answers, both ways; the tree stays. -/
import Derived.Test.YtkaegdmkpjmfeaaGreatDoorTakeX
import Derived.Test.YtkaegdmkpjmfeaaGreatDoorLeadW
import Derived.Test.YtkaegdmkpjmfeaaGreatDoorWorksR
import Derived.Test.YtkaegdmkpjmfeaaGreatDoorRefK

namespace Go.Proofs.YtkaegdmkpjmfeaaGreatDoor
open Go Go.RowKit

theorem TreeOf.one {W : World} {tb base : Nat} {F : Pic} {L : List Ent} (h : TreeOf W tb base F L) {pre r : List Ent} {e : Ent} (hL : L = pre ++ e :: r) : oneN pre e = 0 := by
  have heL : e ∈ L := by rw [hL]; simp
  have hpre : ∀ x ∈ pre, x ∈ L := fun x hx => by rw [hL]; simp [hx]
  have ho := h.says.order
  rw [hL] at ho
  obtain ⟨ho1, ho2, ho3⟩ := List.pairwise_append.1 ho
  have hlt : ∀ x ∈ pre, ltE x e := fun x hx => ho3 x hx e (by simp)
  have hw := h.right e heL
  have hck := wrong_check hw
  have hoo : ooN (lastP pre) e.path = 0 := by
    rcases List.eq_nil_or_concat pre with rfl | ⟨l, d, rfl⟩
    · exact oo_start hck
    · have hd : lastP (l.concat d) = d.path := by simp [lastP]
      have hde := hlt d (by simp)
      unfold ltE at hde
      rw [hd]
      unfold ooN
      rw [if_neg (by omega), if_neg (by omega)]
  have hup : upN pre e.path = 0 := by
    unfold upN
    by_cases hz : (parentB e.path).size = 0
    · rw [if_pos hz]
    · rw [if_neg hz]
      obtain ⟨x, hx, _⟩ := h.says.at' e heL
      have hsp := names_split hck
      obtain ⟨u, hu⟩ : ∃ u, F (namesP (parentB e.path)) = some u := by
        cases hq : F (namesP (parentB e.path)) with
        | some u => exact ⟨u, rfl⟩
        | none =>
          have := h.says.gone _ (un (lastB e.path)) hq
          rw [hsp, hx] at this; cases this
      have huk : u.e.kind = 1 := by
        by_cases hk : u.e.kind = 1
        · exact hk
        · have hm := (h.at'.kinds _ u hu).2 hk
          have := h.at'.tree.leaf _ u (un (lastB e.path)) hu hm
          rw [hsp, hx] at this; cases this
      obtain ⟨hu1, hu2⟩ := h.says.of' _ u (names_ne hz) hu
      have hup : u.e.path = parentB e.path := names_inj (h.says.full _ hu1) hz hu2
      have hlu : ltE u.e e := lt_below (y := un (lastB e.path)) (t := []) (h.says.full _ hu1) (h.says.full _ heL) (by rw [hu2, ← hsp])
      have hin : u.e ∈ pre := by
        rw [hL] at hu1
        rcases List.mem_append.1 hu1 with h1 | h1
        · exact h1
        · rcases List.mem_cons.1 h1 with h1 | h1
          · rw [h1] at hlu; exact absurd hlu (ltE_self _)
          · exact absurd ((List.pairwise_cons.1 ho2).1 _ h1) (ltE_asymm hlu)
      cases hf : pre.find? (pathIs (parentB e.path)) with
      | none => exact absurd (pathIs_iff.2 hup) (by simpa using List.find?_eq_none.1 hf _ hin)
      | some y =>
        have hy1 := List.mem_of_find?_eq_some hf
        have hy2 : y.path = parentB e.path := pathIs_iff.1 (List.find?_some hf)
        obtain ⟨z, hz1, hz2⟩ := h.says.at' y (hpre y hy1)
        rw [hy2, hu] at hz1
        cases hz1
        simp [← hz2, huk]
  have hmany : manyN pre e = 0 := by
    unfold manyN
    rw [put_end hlt]
    have h1 := h.few
    have h2 := h.light
    rw [hL] at h1 h2
    have h3 : bytesL (pre ++ e :: r) = bytesL pre + (e.data.size + bytesL r) := by simp [bytesL]
    rw [h3] at h2
    simp at h1
    simp only
    rw [if_neg (by omega)]
  unfold oneN putN
  rw [if_neg (show ¬ (wrongN e ≠ 0) by simpa using hw), if_neg (show ¬ (ooN (lastP pre) e.path ≠ 0) by simpa using hoo), if_neg (show ¬ (upN pre e.path ≠ 0) by simpa using hup), hmany]
theorem TreeOf.check {W : World} {tb base : Nat} {F : Pic} {L : List Ent} (h : TreeOf W tb base F L) : (checkGo [] L).1 = 0 := by
  have main : ∀ r pre, L = pre ++ r → (checkGo pre r).1 = 0 := by
    intro r
    induction r with
    | nil => intro pre _; rfl
    | cons e r ih =>
      intro pre hL
      unfold checkGo
      rw [if_neg (show ¬ (oneN pre e ≠ 0) by simpa using h.one hL)]
      exact ih _ (by rw [hL]; simp)
  exact main L [] rfl
def notP (p : ByteArray) (e : Ent) : Bool := !pathIs p e
theorem but_laid {L : List Ent} (h : L.Pairwise ltE) (e : Ent) : (laidL L e).filter (notP e.path) = L.filter (notP e.path) := by
  refine srt_ext _ _ ((laid_order h e).sublist List.filter_sublist) (h.sublist List.filter_sublist) (fun x => ?_)
  have hn : notP e.path x = true ↔ x.path ≠ e.path := by
    unfold notP
    rw [Bool.not_eq_true', ← Bool.not_eq_true, pathIs_iff]
  rw [List.mem_filter, List.mem_filter, laid_mem, hn]
  constructor
  · rintro ⟨rfl | ⟨h1, h2⟩, h3⟩
    · exact absurd rfl h3
    · exact ⟨h1, h3⟩
  · rintro ⟨h1, h2⟩
    exact ⟨.inr ⟨h1, h2⟩, h2⟩
theorem find_laid {L : List Ent} {e : Ent} : (laidL L e).find? (pathIs e.path) = some e := by
  unfold laidL
  rw [List.find?_append, List.find?_eq_none.2 (fun x hx => by
    have h1 := (List.mem_filter.1 hx).2
    simp at h1
    intro hp
    rw [pathIs_iff.1 hp, order_self] at h1; omega)]
  have : pathIs e.path e = true := pathIs_iff.2 rfl
  simp [List.find?, this]
/-- What stays, by the statement's words. -/
def keptB (p : ByteArray) (e : Ent) : Bool := !pathIs p e && !belowB p e.path
theorem prefix_below {p q : ByteArray} (hp : p.size ≠ 0) (hq : q.size ≠ 0) : (namesP p).isPrefixOf (namesP q) = (un q == un p || belowB p q) := by
  have hpe : p.toList.isEmpty = false := (isEmpty_false p).2 (by omega)
  rw [Bool.eq_iff_iff, List.isPrefixOf_iff_prefix, Bool.or_eq_true, beq_iff_eq]
  constructor
  · rintro ⟨t, ht⟩
    cases t with
    | nil => left; rw [List.append_nil] at ht; rw [names_inj hp hq ht]
    | cons y t =>
      right
      refine pieces_below hpe (u := (y :: t).map bs) (by simp) ?_
      rw [pieces_names hp, pieces_names hq, ← ht, List.map_append]
  · rintro (h | h)
    · rw [un_inj h]; exact List.prefix_refl _
    · obtain ⟨t, ht⟩ := (below_iff hpe).1 h
      unfold namesP
      rw [if_neg hp, if_neg hq, ht, cut_append]
      exact List.prefix_append _ _
theorem kept_gone {F : Pic} {L : List Ent} (h : Says F L) {p : ByteArray} (hp : p.size ≠ 0) : L.filter (keptB p) = goneL L (namesP p) := by
  unfold goneL
  refine List.filter_congr (fun e he => ?_)
  unfold keptB pathIs
  rw [prefix_below hp (h.full e he)]
  simp
end Go.Proofs.YtkaegdmkpjmfeaaGreatDoor

namespace Go.Proofs.YtkaegdmkpjmfeaaGreatDoor
open Go Go.RowKit

variable {W : World} {tb base : Nat} {F : Pic} {L : List Ent}
theorem get_of_mem (h : TreeOf W tb base F L) {e : Ent} (he : e ∈ L) : getE L e.path = some e := by
  have hf := h.says.full e he
  unfold getE
  rw [if_neg hf]
  rcases h.says.at_text hf with ⟨h1, _⟩ | ⟨x, h1, h2⟩
  · obtain ⟨x, hx, _⟩ := h.says.at' e he
    rw [hx] at h1; cases h1
  · obtain ⟨y, hy, hye⟩ := h.says.at' e he
    rw [hy] at h1; cases h1
    rw [h2, hye]
theorem kind_range {e : Ent} (h : wrongN e = 0) : e.kind = 1 ∨ e.kind = 2 ∨ e.kind = 3 := by
  unfold wrongN at h
  split at h
  · omega
  · rename_i hh; omega
/-- What stands above an entry is a directory. -/
theorem tree_parent (h : TreeOf W tb base F L) {e : Ent} (he : e ∈ L) : (parentB e.path).size = 0 ∨ ∃ u ∈ L, u.path = parentB e.path ∧ u.kind = 1 := by
  by_cases hz : (parentB e.path).size = 0
  · exact .inl hz
  · right
    obtain ⟨x, hx, _⟩ := h.says.at' e he
    have hsp := names_split (wrong_check (h.right e he))
    obtain ⟨u, hu⟩ : ∃ u, F (namesP (parentB e.path)) = some u := by
      cases hq : F (namesP (parentB e.path)) with
      | some u => exact ⟨u, rfl⟩
      | none =>
        have := h.says.gone _ (un (lastB e.path)) hq
        rw [hsp, hx] at this; cases this
    have huk : u.e.kind = 1 := by
      by_cases hk : u.e.kind = 1
      · exact hk
      · have hm := (h.at'.kinds _ u hu).2 hk
        have := h.at'.tree.leaf _ u (un (lastB e.path)) hu hm
        rw [hsp, hx] at this; cases this
    obtain ⟨hu1, hu2⟩ := h.says.of' _ u (names_ne hz) hu
    exact ⟨u.e, hu1, names_inj (h.says.full _ hu1) hz hu2, huk⟩
theorem size_zero {p : ByteArray} (h : p.size = 0) : p = ⟨#[]⟩ := un_inj (by
  have : (un p).length = 0 := by rw [un_length]; exact h
  rw [List.eq_nil_of_length_eq_zero this]; rfl)
theorem parent_root : parentB ⟨#[]⟩ = ⟨#[]⟩ := size_zero (Nat.le_zero.1 (parentB_size ⟨#[]⟩))
/-- Where the walk stands. -/
def Inv (L : List Ent) (m : Mn) (st : St) : Prop := st.L = L ∧ (st.here = ⟨#[]⟩ ∨ ∃ e, getE L st.here = some e ∧ (st.left ≠ [] → e.kind = 1) ∧ (e.kind = 3 → m.stay = true))
theorem inv_step (h : TreeOf W tb base F L) {m : Mn} {st : St} {c : ByteArray} {rest : List ByteArray} (hm : m.ab = 0) (hi : Inv L m st) (hl : st.left = c :: rest) (h0 : (stepN m st c rest).1 = 0) : Inv L m (stepN m st c rest).2 := by
  obtain ⟨hL, hh⟩ := hi
  have hne : st.left ≠ [] := by rw [hl]; simp
  have hdir : st.here = ⟨#[]⟩ ∨ ∃ e ∈ L, e.path = st.here ∧ e.kind = 1 := by
    rcases hh with hh | ⟨e, he, h1, _⟩
    · exact .inl hh
    · obtain ⟨m1, m2, _⟩ := get_mem he
      exact .inr ⟨e, m1, m2, h1 hne⟩
  unfold stepN at h0 ⊢
  split
  · refine ⟨hL, ?_⟩
    rcases hh with hh | ⟨e, he, h1, h2⟩
    · exact .inl hh
    · exact .inr ⟨e, he, fun _ => h1 hne, h2⟩
  · rename_i n1
    rw [if_neg n1] at h0
    split
    · refine ⟨hL, ?_⟩
      rcases hdir with hh | ⟨e, he, hp, hk⟩
      · left; show parentB st.here = _; rw [hh]; exact parent_root
      · rcases tree_parent h he with hz | ⟨u, hu, hup, huk⟩
        · left; show parentB st.here = _; rw [← hp]; exact size_zero hz
        · right
          refine ⟨u, ?_, fun _ => huk, fun hk3 => by omega⟩
          show getE L (parentB st.here) = _
          rw [← hp, ← hup]; exact get_of_mem h hu
    · rename_i n2
      rw [if_neg n2] at h0
      rw [hL] at h0 ⊢
      cases hg : getE L (joinB st.here c) with
      | none =>
        rw [hg] at h0
        simp only [absN, hm] at h0
        omega
      | some e =>
        rw [hg] at h0
        simp only at h0 ⊢
        obtain ⟨he, _, _⟩ := get_mem hg
        have hkr := kind_range (h.right e he)
        unfold thereN at h0 ⊢
        by_cases h3 : isFile m e rest = true
        · rw [if_pos h3] at h0; simp at h0
        · rw [if_neg h3] at h0 ⊢
          by_cases h4 : isLink m e rest = true
          · rw [if_pos h4] at h0 ⊢
            unfold linkS at h0 ⊢
            by_cases h5 : st.hops = 40
            · rw [if_pos h5] at h0; simp at h0
            · rw [if_neg h5]
              refine ⟨hL, ?_⟩
              by_cases hs : slashed e.link = true
              · left; show (if slashed e.link then _ else _) = _; rw [if_pos hs]
              · rw [show (if slashed e.link then (⟨#[]⟩ : ByteArray) else st.here) = st.here from if_neg hs]
                rcases hdir with hh | ⟨d, hd, hp, hk⟩
                · exact .inl hh
                · exact .inr ⟨d, by show getE L st.here = _; rw [← hp]; exact get_of_mem h hd, fun _ => hk, fun hk3 => by omega⟩
          · rw [if_neg h4]
            refine ⟨hL, .inr ⟨e, hg, fun hr => ?_, fun hk3 => ?_⟩⟩
            · have hr' : rest.isEmpty = false := by cases rest with | nil => exact absurd rfl hr | cons a b => rfl
              rcases hkr with hk | hk | hk
              · exact hk
              · exact absurd (by unfold isFile; rw [hk, hr']; simp) h3
              · exact absurd (by unfold isLink; rw [hk, hr']; simp) h4
            · cases hst : m.stay with
              | true => rfl
              | false => exact absurd (by unfold isLink; rw [hk3, hst]; simp) h4
theorem inv_go (h : TreeOf W tb base F L) {m : Mn} (hm : m.ab = 0) : ∀ (f : Nat) (st : St), Inv L m st → (goF m f st).1 = 0 → Inv L m (goF m f st).2.1
  | 0, st, hi, _ => hi
  | f + 1, st, hi, h0 => by
    cases hl : st.left with
    | nil => rw [goF_nil hl]; exact hi
    | cons c rest =>
      by_cases hs : (stepN m st c rest).1 = 0
      · rw [goF_ok hl hs] at h0 ⊢
        exact inv_go h hm f _ (inv_step h hm hi hl hs) h0
      · rw [goF_err hl hs] at h0
        exact absurd h0 hs
/-- The walk ends with all its pieces taken. -/
theorem go_left {m : Mn} {B : Nat} : ∀ (f : Nat) (st : St), Good B st → Right st.L → msr st < f → (goF m f st).1 = 0 → (goF m f st).2.1.left = []
  | 0, st, _, _, h, _ => by omega
  | f + 1, st, hg, hr, hf, h0 => by
    cases hl : st.left with
    | nil => rw [goF_nil hl]; exact hl
    | cons c rest =>
      by_cases hs : (stepN m st c rest).1 = 0
      · rw [goF_ok hl hs] at h0 ⊢
        obtain ⟨q1, q2⟩ := step_good hg hl hr hs
        have := (step_msr m st c rest hl (right_short hr) hg.hh hs).1
        exact go_left f _ q1 q2 (by omega) h0
      · rw [goF_err hl hs] at h0
        exact absurd h0 hs
theorem step_errs {m : Mn} {st : St} {c : ByteArray} {rest : List ByteArray} (hm : m.ab = 0) (h0 : (stepN m st c rest).1 ≠ 0) : (stepN m st c rest).1 = 10 ∨ (stepN m st c rest).1 = 13 ∨ (stepN m st c rest).1 = 12 := by
  unfold stepN at h0 ⊢
  split
  · rename_i h1; rw [if_pos h1] at h0; exact absurd rfl h0
  · rename_i h1
    rw [if_neg h1] at h0
    split
    · rename_i h2; rw [if_pos h2] at h0; exact absurd rfl h0
    · rename_i h2
      rw [if_neg h2] at h0
      cases hg : getE st.L (joinB st.here c) with
      | none => simp only [absN, hm]; exact .inl trivial
      | some e =>
        rw [hg] at h0
        simp only at h0 ⊢
        unfold thereN at h0 ⊢
        by_cases h3 : isFile m e rest = true
        · rw [if_pos h3]; exact .inr (.inl rfl)
        · rw [if_neg h3] at h0 ⊢
          by_cases h4 : isLink m e rest = true
          · rw [if_pos h4] at h0 ⊢
            unfold linkS at h0 ⊢
            by_cases h5 : st.hops = 40
            · rw [if_pos h5]; exact .inr (.inr rfl)
            · rw [if_neg h5] at h0; exact absurd rfl h0
          · rw [if_neg h4] at h0; exact absurd rfl h0
theorem go_errs {m : Mn} (hm : m.ab = 0) : ∀ (f : Nat) (st : St), (goF m f st).1 ≠ 0 → (goF m f st).1 = 10 ∨ (goF m f st).1 = 13 ∨ (goF m f st).1 = 12
  | 0, st, h => absurd rfl h
  | f + 1, st, h => by
    cases hl : st.left with
    | nil => rw [goF_nil hl] at h; exact absurd rfl h
    | cons c rest =>
      by_cases hs : (stepN m st c rest).1 = 0
      · rw [goF_ok hl hs] at h ⊢
        exact go_errs hm f _ h
      · rw [goF_err hl hs]
        exact step_errs hm hs
theorem name_facts {x : ByteArray} (h : nameN x = 0) : x.size ≠ 0 ∧ x ≠ dotB ∧ x ≠ ddB := by
  refine ⟨name_full h, fun e => ?_, fun e => ?_⟩
  · subst e
    unfold nameN at h
    simp only [toList_un] at h
    revert h; decide +kernel
  · subst e
    unfold nameN at h
    simp only [toList_un] at h
    revert h; decide +kernel
/-- A name behind a path. -/
theorem names_join {q y : ByteArray} (hy : (47 : UInt8) ∉ un y) (h0 : y.size ≠ 0) : namesP (joinB q y) = namesP q ++ [un y] ∧ (joinB q y).size ≠ 0 := by
  unfold joinB
  by_cases hq : q.size = 0
  · rw [if_pos ((isEmpty_iff q).2 hq)]
    refine ⟨?_, h0⟩
    unfold namesP
    rw [if_neg h0, if_pos hq, cut_noslash hy]; rfl
  · have hqe : q.toList.isEmpty = false := (isEmpty_false q).2 (by omega)
    rw [if_neg (by rw [hqe]; simp)]
    have hsz : (q ++ ⟨#[47]⟩ ++ y).size ≠ 0 := by rw [ByteArray.size_append, ByteArray.size_append]; omega
    refine ⟨?_, hsz⟩
    unfold namesP
    rw [if_neg hsz, if_neg hq, un_append, un_append, show un (ByteArray.mk #[47]) = [47] from rfl, List.append_assoc, show [47] ++ un y = 47 :: un y from rfl, cut_append, cut_noslash hy]
theorem cut_mem_noslash (l : List UInt8) : ∀ x ∈ cutL l, (47 : UInt8) ∉ x := by
  induction l with
  | nil => simp [cutL]
  | cons c l ih =>
    intro x hx
    unfold cutL at hx
    split at hx
    · rcases List.mem_cons.1 hx with rfl | hx
      · simp
      · exact ih x hx
    · rename_i hc
      have hne := cutL_ne l
      rcases hcl : cutL l with _ | ⟨y, ys⟩
      · exact absurd hcl hne
      · rw [hcl] at hx ih
        simp only [List.headD_cons, List.tail_cons] at hx
        rcases List.mem_cons.1 hx with rfl | hx
        · intro hm
          rcases List.mem_cons.1 hm with h1 | h1
          · exact hc (by rw [← h1]; rfl)
          · exact ih y (by simp) h1
        · exact ih x (by simp [hx])
/-- A path lies at these names. -/
def AtN (F : Pic) (ns : List (List UInt8)) (q : ByteArray) : Prop := namesP q = ns ∧ (q = ⟨#[]⟩ ∨ ∃ x, F ns = some x ∧ x.e.path = q)
/-- Down the names of a tree one comes to what lies there. -/
theorem way_down (h : TreeOf W tb base F L) {m : Mn} {z : Nd} (hops : Nat) (made : List ByteArray) : ∀ (rest : List ByteArray) (ns : List (List UInt8)) (q : ByteArray) (f : Nat), namesP q = ns → F (ns ++ rest.map un) = some z → (∀ y ∈ rest, (47 : UInt8) ∉ un y ∧ y.size ≠ 0 ∧ y ≠ dotB ∧ y ≠ ddB) → (z.e.kind = 2 → m.dirs = false) → (z.e.kind = 3 → m.stay = true) → rest.length < f →
    ∃ p tr, goF m f { L := L, here := q, left := rest, hops := hops, made := made } = (0, { L := L, here := p, left := [], hops := hops, made := made }, tr) ∧ namesP p = ns ++ rest.map un ∧ (rest ≠ [] → p.size ≠ 0) ∧ (rest = [] → p = q)
  | [], ns, q, f, hq, hz, _, _, _, _ => ⟨q, [], goF_nil rfl, by simpa using hq, fun h => absurd rfl h, fun _ => rfl⟩
  | y :: rest, ns, q, 0, _, _, _, _, _, hf => by simp at hf
  | y :: rest, ns, q, f + 1, hq, hz, hy, hfile, hlink, hf => by
    obtain ⟨y1, y2, y3, y4⟩ := hy y (by simp)
    obtain ⟨j1, j2⟩ := names_join (q := q) y1 y2
    rw [hq] at j1
    have hz' : F ((ns ++ [un y]) ++ rest.map un) = some z := by simpa using hz
    obtain ⟨x, hx⟩ : ∃ x, F (ns ++ [un y]) = some x := h.at'.tree.ahead hz'
    obtain ⟨x1, x2⟩ := h.says.of' _ x (by simp) hx
    have hp : x.e.path = joinB q y := names_inj (h.says.full _ x1) j2 (by rw [x2, j1])
    have hg : getE L (joinB q y) = some x.e := by rw [← hp]; exact get_of_mem h x1
    have hst : stepN m { L := L, here := q, left := y :: rest, hops := hops, made := made } y rest = (0, { L := L, here := joinB q y, left := rest, hops := hops, made := made }) := by
      unfold stepN
      rw [if_neg y3, if_neg y4]
      simp only [hg]
      have hkind : rest ≠ [] → x.e.kind = 1 := fun hr => by
        by_cases hk : x.e.kind = 1
        · exact hk
        · have hm := (h.at'.kinds _ x hx).2 hk
          rcases rest with _ | ⟨y', r'⟩
          · exact absurd rfl hr
          · have := h.at'.tree.leaf _ x (un y') hx hm
            have h2 := h.at'.tree.gone_all this (r'.map un)
            rw [show (ns ++ [un y] ++ [un y']) ++ r'.map un = (ns ++ [un y]) ++ (y' :: r').map un by simp] at h2
            rw [h2] at hz'; cases hz'
      have hxz : rest = [] → x = z := fun hr => by
        subst hr
        rw [List.map_nil, List.append_nil, hx] at hz'
        exact Option.some.inj hz'
      unfold thereN
      have f1 : isFile m x.e rest = false := by
        unfold isFile
        rcases rest with _ | ⟨y', r'⟩
        · by_cases hk : x.e.kind = 2
          · have := hxz rfl
            subst this
            rw [hfile hk]; simp
          · rw [show (x.e.kind == 2) = false by simpa using hk]; rfl
        · rw [hkind (by simp)]; rfl
      have f2 : isLink m x.e rest = false := by
        unfold isLink
        rcases rest with _ | ⟨y', r'⟩
        · by_cases hk : x.e.kind = 3
          · have := hxz rfl
            subst this
            rw [hlink hk]; simp
          · rw [show (x.e.kind == 3) = false by simpa using hk]; rfl
        · rw [hkind (by simp)]; rfl
      rw [if_neg (by rw [f1]; simp), if_neg (by rw [f2]; simp)]
    obtain ⟨p, tr, g1, g2, g3, g4⟩ := way_down h hops made rest (ns ++ [un y]) (joinB q y) f j1 hz' (fun v hv => hy v (by simp [hv])) hfile hlink (by simp at hf; omega)
    refine ⟨p, joinB q y :: tr, ?_, by rw [g2]; simp, fun _ => ?_, fun h => by cases h⟩
    · rw [goF_ok (c := y) (rest := rest) rfl (by rw [hst]), hst, g1]
    · by_cases hr : rest = []
      · rw [g4 hr]; exact j2
      · exact g3 hr
/-- A path of the tree leads to itself. -/
theorem find_self (h : TreeOf W tb base F L) {e : Ent} (he : e ∈ L) {stay : Bool} (hs : e.kind = 3 → stay = true) : (goN ⟨0, false, stay⟩ (start L e.path)).1 = 0 ∧ (goN ⟨0, false, stay⟩ (start L e.path)).2.1.here = e.path := by
  obtain ⟨z, hz, hze⟩ := h.says.at' e he
  obtain ⟨c1, c2, c3⟩ := check_facts (wrong_check (h.right e he))
  have hnm : namesB e.path = (namesP e.path).map bs := by
    unfold namesB
    rw [← pieces_names c1]
    refine List.filter_eq_self.2 (fun x hx => ?_)
    unfold full
    rw [(isEmpty_false x).2 (by have := name_full (c3 x hx); omega)]; rfl
  have hun : (namesB e.path).map un = namesP e.path := by rw [hnm, List.map_map]; simp [Function.comp_def, un_bs]
  obtain ⟨p, tr, g1, g2, g3, _⟩ := way_down (m := ⟨0, false, stay⟩) h 0 [] (namesB e.path) [] ⟨#[]⟩ (msr (start L e.path) + 1) rfl (by rw [hun]; exact hz)
    (fun y hy => by
      have hy' : y ∈ piecesB e.path := (List.mem_filter.1 hy).1
      obtain ⟨n1, n2, n3⟩ := name_facts (c3 y hy')
      refine ⟨?_, n1, n2, n3⟩
      unfold piecesB at hy'
      obtain ⟨l, hl, rfl⟩ := List.mem_map.1 hy'
      rw [un_bs]
      exact cut_mem_noslash _ l hl) (fun _ => rfl) (fun hk => hs (by rw [← hze]; exact hk)) (by
      show (namesB e.path).length < (namesB e.path).length + 200 * (40 - 0) + 1; omega)
  have : goN ⟨0, false, stay⟩ (start L e.path) = _ := g1
  rw [this]
  refine ⟨rfl, ?_⟩
  have hp : p.size ≠ 0 := g3 (fun e0 => by
    have := names_ne c1
    rw [← hun, e0] at this
    exact this rfl)
  exact names_inj hp c1 (by rw [g2, hun]; rfl)
theorem find_root (L : List Ent) (stay : Bool) : (goN ⟨0, false, stay⟩ (start L ⟨#[]⟩)).1 = 0 ∧ (goN ⟨0, false, stay⟩ (start L ⟨#[]⟩)).2.1.here = ⟨#[]⟩ := by
  have hn : (start L ⟨#[]⟩).left = [] := by
    show namesB ⟨#[]⟩ = []
    simp only [namesB]; decide +kernel
  unfold goN
  rw [goF_nil hn]
  exact ⟨rfl, rfl⟩
end Go.Proofs.YtkaegdmkpjmfeaaGreatDoor

namespace Go.Proofs.YtkaegdmkpjmfeaaGreatDoor
open Go Go.RowKit

theorem tree_of3 {v : Value} {es : List Ent} {w : World} (hg : ErrType w) (hv : EntsAt w v es) (hl : es.length ≤ 1073741824) (hp : ∀ e ∈ es, e.path.size < 1152921504606846976) (hc : (checkGo [] es).1 = 0) : ∃ W tb tbase F, TreeOf W tb tbase F es := by
  obtain ⟨e, w', fr, ⟨_, tb, F, _, hT⟩, _⟩ := of_t v es w hg hv (by omega) hp hc []
  exact ⟨w', tb, _, F, hT⟩
theorem plain_any (n : Int) (hn : n = 0 ∨ (1 ≤ n ∧ n ≤ 32)) (w : World) (hg : ErrType w) : Calls Tryz.prog 13 #[errE n, .int .i64 n] w fun e w' => e = .returned (.bool true) ∧ Below w.heap.size w w' := by
  rcases hn with rfl | ⟨h1, h2⟩
  · exact plain_nil w
  · rw [errE_some (by omega)]; exact plain_some n h1 h2 w hg
theorem go_nums {L : List Ent} {way : ByteArray} {last : Bool} : (findR L way last).1 = 0 ∨ (1 ≤ (findR L way last).1 ∧ (findR L way last).1 ≤ 32) := by
  by_cases h : (findR L way last).1 = 0
  · exact .inl h
  · right
    rcases go_errs rfl _ _ h with h1 | h1 | h1
    · have : (findR L way last).1 = 10 := h1
      omega
    · have : (findR L way last).1 = 13 := h1
      omega
    · have : (findR L way last).1 = 12 := h1
      omega
set_option maxRecDepth 100000 in
set_option maxHeartbeats 4000000 in
theorem rfind_no (v : Value) (es : List Ent) (way : ByteArray) (w : World) (hg : ErrType w) (hv : EntsAt w v es) (hl : es.length ≤ 1073741824) (hp : ∀ e ∈ es, e.path.size < 1152921504606846976) (hc : (checkGo [] es).1 ≠ 0) :
    Calls Tryz.prog 3 #[v, .string way] w fun e w' => e = .returned (.bool true) ∧ Below w.heap.size w w' := by
  have hO := ofl_no v es w hg hv hl hp hc
  clear hc
  go_enter Tryz.func3, Tryz.ntmps3
  go_wp2_with (first | (go_at_call 9; refine hO.mono ?_; rintro e w1 ⟨hb1, rfl⟩) | (go_at_call 10; refine (works_r _ (hg.below hb1)).mono ?_; rintro e w2 ⟨rfl, hb2⟩))
  go_ret
  exact ⟨rfl, below_join hb1 hb2⟩
set_option maxRecDepth 100000 in
set_option maxHeartbeats 8000000 in
theorem rfind_ok (v : Value) (es : List Ent) (way p q : ByteArray) (m n : Int) (w : World) (hg : ErrType w) (hv : EntsAt w v es) (hl : es.length ≤ 1073741824) (hp : ∀ e ∈ es, e.path.size < 1152921504606846976) (hw : way.size ≤ 1073741824) (hc : (checkGo [] es).1 = 0) (hR : Right es)
    (h1 : ansB (findR es way true) = p ∧ (findR es way true).1 = m) (h2 : ansB (findR es way false) = q ∧ (findR es way false).1 = n) (hm : m = 0 ∨ (1 ≤ m ∧ m ≤ 32)) (hn : n = 0 ∨ (1 ≤ n ∧ n ≤ 32)) :
    Calls Tryz.prog 3 #[v, .string way] w fun e w' => e = .returned (.bool true) ∧ Below w.heap.size w w' := by
  have hO := ofl_ok v es w hg hv hl hp hc
  have H1 : Hid (ansB (findR es way true) = p ∧ (findR es way true).1 = m) := h1
  have H2 : Hid (ansB (findR es way false) = q ∧ (findR es way false).1 = n) := h2
  have HV : Hid (∀ W, Below w.heap.size w W → EntsAt W v es) := fun W hb => hv.below hb
  have HM : Hid (m = 0 ∨ (1 ≤ m ∧ m ≤ 32)) := hm
  have HN : Hid (n = 0 ∨ (1 ≤ n ∧ n ≤ 32)) := hn
  obtain ⟨a, cap, b, o, rfl, _⟩ := hv
  clear hc h1 h2 hm hn
  go_enter Tryz.func3, Tryz.ntmps3
  go_wp2_with fail
  refine hO.mono ?_
  rintro e w1 ⟨hb1, tb, tbase, F, rfl, _, hT1⟩
  clear hO
  go_wp2_with fail
  have hD1 := find_d true way es a cap w1 (HV.out w1 hb1) hl hR hw
  rw [H1.out.1, H1.out.2] at hD1
  with_reducible refine hD1.mono ?_
  rintro e w2 ⟨rfl, hb2'⟩
  have hb2 := below_join hb1 hb2'
  have hT2 := hT1.below hb2'
  clear hD1 hb1 hb2' hT1
  go_wp2_with fail
  have hD2 := find_d false way es a cap w2 (HV.out w2 hb2) hl hR hw
  rw [H2.out.1, H2.out.2] at hD2
  with_reducible refine hD2.mono ?_
  rintro e w3 ⟨rfl, hb3'⟩
  have hb3 := below_join hb2 hb3'
  have hT3 := hT2.below hb3'
  clear hD2 hb2 hb3' hT2
  go_wp2_with fail
  have hF1 := find_p true way es w3 hT3 (by omega)
  rw [H1.out.1, H1.out.2] at hF1
  with_reducible refine hF1.mono ?_
  rintro e w4 ⟨rfl, hb4'⟩
  have hb4 := below_join hb3 hb4'
  have hT4 := hT3.below hb4'
  clear hF1 hb3 hb4' hT3
  go_wp2_with fail
  have hF2 := find_p false way es w4 hT4 (by omega)
  rw [H2.out.1, H2.out.2] at hF2
  with_reducible refine hF2.mono ?_
  rintro e w5 ⟨rfl, hb5'⟩
  have hb5 := below_join hb4 hb5'
  have hT5 := hT4.below hb5'
  clear hF2 hb4 hb5' hT4
  generalize hem : errE m = em
  generalize hen : errE n = en
  go_wp2_with fail
  rw [← hem]
  with_reducible refine (plain_any m HM.out _ (hg.below hb5)).mono ?_
  rintro e w6 ⟨rfl, hb6'⟩
  rw [hem]
  have hb6 := below_join hb5 hb6'
  have hT6 := hT5.below hb6'
  clear hb5 hb6' hT5
  go_wp2_with fail
  rw [← hen]
  with_reducible refine (plain_any n HN.out _ (hg.below hb6)).mono ?_
  rintro e w7 ⟨rfl, hb7'⟩
  rw [hen]
  have hb7 := below_join hb6 hb7'
  have hT7 := hT6.below hb7'
  clear hb6 hb7' hT6
  go_wp2_with fail
  with_reducible refine (list_p tb tbase F es _ hT7).mono ?_
  rintro e w8 ⟨u, rfl, hu, hb8'⟩
  have hb8 := below_join hb7 hb8'
  have hU := ents_of_owns hu
  have HU : Hid (EntsAt w8 u es) := hU
  clear hb7 hb8' hT7 hu hU
  go_wp2_with fail
  with_reducible refine (same_p u _ es _ HU.out (HV.out _ hb8) (by omega)).mono ?_
  rintro e w9 ⟨rfl, hb9'⟩
  have hb9 := below_join hb8 hb9'
  clear hb8 hb9' HU
  go_wp2_with (go_at_call 10; refine (works_r _ (hg.below hb9)).mono ?_; rintro e w10 ⟨rfl, hb10⟩)
  go_ret
  exact ⟨rfl, below_join hb9 hb10⟩
theorem resolvefind_law (v : Value) (es : List Ent) (way : ByteArray) (w : World) (hg : ErrType w) (hv : EntsAt w v es) (hl : es.length ≤ 1073741824) (hp : ∀ e ∈ es, e.path.size < 1152921504606846976) (hw : way.size ≤ 1073741824) :
    Calls Tryz.prog 3 #[v, .string way] w fun e w' => e = .returned (.bool true) ∧ Below w.heap.size w w' := by
  by_cases hc : (checkGo [] es).1 = 0
  · obtain ⟨W, tb, tbase, F, hT⟩ := tree_of3 hg hv hl hp hc
    exact rfind_ok v es way _ _ _ _ w hg hv hl hp hw hc hT.right ⟨rfl, rfl⟩ ⟨rfl, rfl⟩ go_nums go_nums
  · exact rfind_no v es way w hg hv hl hp hc
end Go.Proofs.YtkaegdmkpjmfeaaGreatDoor
