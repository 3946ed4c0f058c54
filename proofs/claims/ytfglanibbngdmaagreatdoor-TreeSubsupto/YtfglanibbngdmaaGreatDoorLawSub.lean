/- TreeSubs: what lies below a directory, held against the document's answer. -/
import Derived.Test.YtfglanibbngdmaaGreatDoorTakeX
import Derived.Test.YtfglanibbngdmaaGreatDoorStr
import Derived.Test.YtfglanibbngdmaaGreatDoorEntW
import Derived.Test.YtfglanibbngdmaaGreatDoorSet
import Derived.Laws.IdiomStrings
import Derived.Laws.CopyOwn
import Derived.Test.YtfglanibbngdmaaGreatDoorRefCk
import Derived.Deep.CutRange
import Derived.Test.YtfglanibbngdmaaGreatDoorWorksT
import Derived.ArgAppend
import Derived.Deep.DeepAppendRoom
import Derived.Deep.MidRow
import Derived.Laws.OwnMore
import Derived.Deep.RegionWith
import Derived.Maps.AppendAt

namespace Go.Proofs.YtfglanibbngdmaaGreatDoor
open Go Go.RowKit

theorem TreeOf.one {W : World} {tb base : Nat} {F : Pic} {L : List Ent} (h : TreeOf W tb base F L) {pre r : List Ent} {e : Ent} (hL : L = pre ++ e :: r) : oneN pre e = 0 := by
  have heL : e ∈ L := by rw [hL]; simp
  have hpre : ∀ x ∈ pre, x ∈ L := fun x hx => by rw [hL]; simp [hx]
  have ho := h.says.order
  rw [hL] at ho
  obtain ⟨ho1, ho2, ho3⟩ := List.pairwise_append.1 ho
  have hlt : ∀ x ∈ pre, ltE x e := fun x hx => ho3 x hx e (by simp)
  have hw := h.right e heL
  have hck := wrong_check hw
  have hoo : ooN (lastP pre) e.path = 0 := by
    rcases List.eq_nil_or_concat pre with rfl | ⟨l, d, rfl⟩
    · exact oo_start hck
    · have hd : lastP (l.concat d) = d.path := by simp [lastP]
      have hde := hlt d (by simp)
      unfold ltE at hde
      rw [hd]
      unfold ooN
      rw [if_neg (by omega), if_neg (by omega)]
  have hup : upN pre e.path = 0 := by
    unfold upN
    by_cases hz : (parentB e.path).size = 0
    · rw [if_pos hz]
    · rw [if_neg hz]
      obtain ⟨x, hx, _⟩ := h.says.at' e heL
      have hsp := names_split hck
      obtain ⟨u, hu⟩ : ∃ u, F (namesP (parentB e.path)) = some u := by
        cases hq : F (namesP (parentB e.path)) with
        | some u => exact ⟨u, rfl⟩
        | none =>
          have := h.says.gone _ (un (lastB e.path)) hq
          rw [hsp, hx] at this; cases this
      have huk : u.e.kind = 1 := by
        by_cases hk : u.e.kind = 1
        · exact hk
        · have hm := (h.at'.kinds _ u hu).2 hk
          have := h.at'.tree.leaf _ u (un (lastB e.path)) hu hm
          rw [hsp, hx] at this; cases this
      obtain ⟨hu1, hu2⟩ := h.says.of' _ u (names_ne hz) hu
      have hup : u.e.path = parentB e.path := names_inj (h.says.full _ hu1) hz hu2
      have hlu : ltE u.e e := lt_below (y := un (lastB e.path)) (t := []) (h.says.full _ hu1) (h.says.full _ heL) (by rw [hu2, ← hsp])
      have hin : u.e ∈ pre := by
        rw [hL] at hu1
        rcases List.mem_append.1 hu1 with h1 | h1
        · exact h1
        · rcases List.mem_cons.1 h1 with h1 | h1
          · rw [h1] at hlu; exact absurd hlu (ltE_self _)
          · exact absurd ((List.pairwise_cons.1 ho2).1 _ h1) (ltE_asymm hlu)
      cases hf : pre.find? (pathIs (parentB e.path)) with
      | none => exact absurd (pathIs_iff.2 hup) (by simpa using List.find?_eq_none.1 hf _ hin)
      | some y =>
        have hy1 := List.mem_of_find?_eq_some hf
        have hy2 : y.path = parentB e.path := pathIs_iff.1 (List.find?_some hf)
        obtain ⟨z, hz1, hz2⟩ := h.says.at' y (hpre y hy1)
        rw [hy2, hu] at hz1
        cases hz1
        simp [← hz2, huk]
  have hmany : manyN pre e = 0 := by
    unfold manyN
    rw [put_end hlt]
    have h1 := h.few
    have h2 := h.light
    rw [hL] at h1 h2
    have h3 : bytesL (pre ++ e :: r) = bytesL pre + (e.data.size + bytesL r) := by simp [bytesL]
    rw [h3] at h2
    simp at h1
    simp only
    rw [if_neg (by omega)]
  unfold oneN putN
  rw [if_neg (show ¬ (wrongN e ≠ 0) by simpa using hw), if_neg (show ¬ (ooN (lastP pre) e.path ≠ 0) by simpa using hoo), if_neg (show ¬ (upN pre e.path ≠ 0) by simpa using hup), hmany]
theorem TreeOf.check {W : World} {tb base : Nat} {F : Pic} {L : List Ent} (h : TreeOf W tb base F L) : (checkGo [] L).1 = 0 := by
  have main : ∀ r pre, L = pre ++ r → (checkGo pre r).1 = 0 := by
    intro r
    induction r with
    | nil => intro pre _; rfl
    | cons e r ih =>
      intro pre hL
      unfold checkGo
      rw [if_neg (show ¬ (oneN pre e ≠ 0) by simpa using h.one hL)]
      exact ih _ (by rw [hL]; simp)
  exact main L [] rfl
def notP (p : ByteArray) (e : Ent) : Bool := !pathIs p e
theorem but_laid {L : List Ent} (h : L.Pairwise ltE) (e : Ent) : (laidL L e).filter (notP e.path) = L.filter (notP e.path) := by
  refine srt_ext _ _ ((laid_order h e).sublist List.filter_sublist) (h.sublist List.filter_sublist) (fun x => ?_)
  have hn : notP e.path x = true ↔ x.path ≠ e.path := by
    unfold notP
    rw [Bool.not_eq_true', ← Bool.not_eq_true, pathIs_iff]
  rw [List.mem_filter, List.mem_filter, laid_mem, hn]
  constructor
  · rintro ⟨rfl | ⟨h1, h2⟩, h3⟩
    · exact absurd rfl h3
    · exact ⟨h1, h3⟩
  · rintro ⟨h1, h2⟩
    exact ⟨.inr ⟨h1, h2⟩, h2⟩
theorem find_laid {L : List Ent} {e : Ent} : (laidL L e).find? (pathIs e.path) = some e := by
  unfold laidL
  rw [List.find?_append, List.find?_eq_none.2 (fun x hx => by
    have h1 := (List.mem_filter.1 hx).2
    simp at h1
    intro hp
    rw [pathIs_iff.1 hp, order_self] at h1; omega)]
  have : pathIs e.path e = true := pathIs_iff.2 rfl
  simp [List.find?, this]
/-- What stays, by the statement's words. -/
def keptB (p : ByteArray) (e : Ent) : Bool := !pathIs p e && !belowB p e.path
theorem prefix_below {p q : ByteArray} (hp : p.size ≠ 0) (hq : q.size ≠ 0) : (namesP p).isPrefixOf (namesP q) = (un q == un p || belowB p q) := by
  have hpe : p.toList.isEmpty = false := (isEmpty_false p).2 (by omega)
  rw [Bool.eq_iff_iff, List.isPrefixOf_iff_prefix, Bool.or_eq_true, beq_iff_eq]
  constructor
  · rintro ⟨t, ht⟩
    cases t with
    | nil => left; rw [List.append_nil] at ht; rw [names_inj hp hq ht]
    | cons y t =>
      right
      refine pieces_below hpe (u := (y :: t).map bs) (by simp) ?_
      rw [pieces_names hp, pieces_names hq, ← ht, List.map_append]
  · rintro (h | h)
    · rw [un_inj h]; exact List.prefix_refl _
    · obtain ⟨t, ht⟩ := (below_iff hpe).1 h
      unfold namesP
      rw [if_neg hp, if_neg hq, ht, cut_append]
      exact List.prefix_append _ _
theorem kept_gone {F : Pic} {L : List Ent} (h : Says F L) {p : ByteArray} (hp : p.size ≠ 0) : L.filter (keptB p) = goneL L (namesP p) := by
  unfold goneL
  refine List.filter_congr (fun e he => ?_)
  unfold keptB pathIs
  rw [prefix_below hp (h.full e he)]
  simp
end Go.Proofs.YtfglanibbngdmaaGreatDoor

namespace Go.Proofs.YtfglanibbngdmaaGreatDoor
open Go Go.RowKit

/-- How much of a path stands ahead of what lies below a directory. -/
def aheadN (p : ByteArray) : Nat := (joinB p ⟨#[]⟩).size
theorem ahead_eq (p : ByteArray) : aheadN p = if p.size = 0 then 0 else p.size + 1 := by
  unfold aheadN joinB
  by_cases h : p.size = 0
  · rw [if_pos h, if_pos ((isEmpty_iff p).2 h)]; rfl
  · rw [if_neg h, if_neg (by rw [(isEmpty_false p).2 (by omega)]; simp), ByteArray.size_append, ByteArray.size_append]; rfl
theorem ahead_le (p : ByteArray) : aheadN p ≤ p.size + 1 := by rw [ahead_eq]; split <;> omega
def cutE (n : Nat) (e : Ent) : Ent := ⟨e.path.extract n e.path.size, e.kind, e.mode, e.data, e.link⟩
def subL (p : ByteArray) (L : List Ent) : List Ent := (underL L (namesP p)).map (cutE (aheadN p))
def IsTree (L : List Ent) : Prop := ∃ W tb base F, TreeOf W tb base F L
theorem slash_one {a c b d : List UInt8} (hb : (47 : UInt8) ∉ b) (hd : (47 : UInt8) ∉ d) (h : a ++ 47 :: b = c ++ 47 :: d) : a = c ∧ b = d := by
  rcases List.append_eq_append_iff.1 h with ⟨u, h1, h2⟩ | ⟨u, h1, h2⟩
  · cases u with
    | nil => simp at h1 h2; exact ⟨h1.symm, h2⟩
    | cons x u => simp at h2; exact absurd (by rw [h2.2]; simp) hb
  · cases u with
    | nil => simp at h1 h2; exact ⟨h1, h2.symm⟩
    | cons x u => simp at h2; exact absurd (by rw [h2.2]; simp) hd
theorem last_cut {p t q : ByteArray} (hq : un q = un p ++ 47 :: un t) : (parentB q = p ∧ lastB q = t ∧ (47 : UInt8) ∉ un t ∧ parentB t = ⟨#[]⟩ ∧ lastB t = t) ∨ (un (parentB q) = un p ++ 47 :: un (parentB t) ∧ lastB q = lastB t ∧ un t = un (parentB t) ++ 47 :: un (lastB t)) := by
  rcases last_split q with ⟨h1, _⟩ | ⟨h1, h2⟩
  · exact absurd (by rw [hq]; simp) h1
  · rcases last_split t with ⟨t1, t2, t3⟩ | ⟨t1, t2⟩
    · obtain ⟨e1, e2⟩ := slash_one h2 t1 (h1.symm.trans hq)
      exact .inl ⟨un_inj e1, un_inj e2, t1, t2, t3⟩
    · have h3 : un q = (un p ++ 47 :: un (parentB t)) ++ 47 :: un (lastB t) := (hq.trans (congrArg (fun l => un p ++ 47 :: l) t1)).trans (by simp)
      obtain ⟨e1, e2⟩ := slash_one h2 t2 (h1.symm.trans h3)
      exact .inr ⟨e1, un_inj e2, t1⟩
theorem un_join {a b : ByteArray} (h : a.size ≠ 0) : un (joinB a b) = un a ++ 47 :: un b := by
  unfold joinB
  rw [if_neg (by rw [(isEmpty_false a).2 (by omega)]; simp), un_append, un_append]
  show un a ++ [47] ++ un b = _
  simp
theorem join_nil (b : ByteArray) : joinB ⟨#[]⟩ b = b := by unfold joinB; rw [if_pos ((isEmpty_iff _).2 rfl)]
theorem size_un0 {s : ByteArray} (h : s.size = 0) : un s = [] := by rw [← List.length_eq_zero_iff, un_length]; exact h
theorem white_cut {p t q : ByteArray} (hp : p.size ≠ 0) (ht : (un t)[0]? ≠ some 47) (hq : un q = un p ++ 47 :: un t) : un (whiteoutB q) = un p ++ 47 :: un (whiteoutB t) ∧ (un (whiteoutB t))[0]? ≠ some 47 := by
  unfold whiteoutB
  rcases last_cut hq with ⟨h1, h2, h3, h4, h5⟩ | ⟨h1, h2, h3⟩
  · rw [h1, h2, h4, h5, un_join hp, join_nil, un_append]
    refine ⟨rfl, ?_⟩
    show ([46, 119, 104, 46] ++ un t)[0]? ≠ some 47
    simp
  · have hpt : (parentB t).size ≠ 0 := fun h0 => ht (by rw [h3, size_un0 h0]; rfl)
    have hpq : (parentB q).size ≠ 0 := fun h0 => by rw [size_un0 h0] at h1; simp at h1
    rw [h2, un_join hpt, un_join hpq, h1]
    refine ⟨by simp, ?_⟩
    rw [h3] at ht
    have hl : 0 < (un (parentB t)).length := by rw [un_length]; omega
    rw [List.getElem?_append_left hl] at ht ⊢
    exact ht
theorem split_small (q : ByteArray) (h : q.size ≤ 100) : splitP q = (⟨#[]⟩, q, 0) := by unfold splitP; rw [if_pos h]
theorem split_fits (q : ByteArray) (h : 100 < q.size) (h0 : (un q)[0]? ≠ some 47) (i : Nat) (hi : good q i) (h155 : i ≤ 155) :
    ∃ j, 1 ≤ j ∧ j ≤ 155 ∧ good q j ∧ splitP q = (q.extract 0 j, q.extract (j + 1) q.size, 0) := by
  rcases split_cases q h with ⟨_, e⟩ | ⟨k, hg, hk, e⟩
  · exact absurd hi (e i)
  · have h1 : k ≤ i := by
      rcases Nat.lt_or_ge i k with h2 | h2
      · exact absurd hi (hk i h2)
      · exact h2
    have h2 : 1 ≤ k := by
      rcases Nat.eq_zero_or_pos k with h3 | h3
      · subst h3; exact absurd hg.1 h0
      · exact h3
    rw [if_neg (by omega)] at e
    exact ⟨k, h2, by omega, hg, e⟩
theorem fits_of_ok (q : ByteArray) (h : (splitP q).2.2 = 0) : q.size ≤ 100 ∨ ∃ i, good q i ∧ i ≤ 155 := by
  rcases Nat.lt_or_ge 100 q.size with h1 | h1
  · rcases split_cases q h1 with ⟨e, _⟩ | ⟨k, hg, _, e⟩
    · rw [e] at h; cases h
    · by_cases c : k < 1 ∨ 155 < k
      · rw [if_pos c] at e; rw [e] at h; cases h
      · exact .inr ⟨k, hg, by omega⟩
  · exact .inl h1
theorem check_parts {p : ByteArray} (h : checkN p = 0) : p.toList.isEmpty = false ∧ (∀ x ∈ piecesB p, nameN x = 0) ∧ (piecesB p).length ≤ 32 ∧ p.size ≤ 255 ∧ (splitP (whiteoutB p)).2.2 = 0 := by
  unfold checkN at h
  by_cases c1 : p.toList.isEmpty = true
  · rw [if_pos c1] at h; omega
  · rw [if_neg c1] at h
    by_cases c2 : (piecesB p).any (fun x => nameN x != 0) = true
    · rw [if_pos c2] at h; omega
    · rw [if_neg c2] at h
      by_cases c3 : 32 < (piecesB p).length
      · rw [if_pos c3] at h; omega
      · rw [if_neg c3] at h
        by_cases c4 : 255 < p.size
        · rw [if_pos c4] at h; omega
        · rw [if_neg c4] at h
          refine ⟨by simpa using c1, fun x hx => ?_, by omega, by omega, h⟩
          have c5 : (piecesB p).any (fun x => nameN x != 0) = false := by simpa using c2
          have := List.any_eq_false.1 c5 x hx
          simpa using this
theorem noslash_first {p : ByteArray} (h : ∀ x ∈ piecesB p, nameN x = 0) : (un p)[0]? ≠ some 47 := by
  intro h0
  cases hu : un p with
  | nil => rw [hu] at h0; cases h0
  | cons c r =>
    rw [hu] at h0
    obtain rfl : c = 47 := by simpa using h0
    have hm : bs [] ∈ piecesB p := by unfold piecesB; rw [hu, cutL_cons]; simp
    exact name_full (h _ hm) rfl
theorem check_cut {p t q : ByteArray} (hp : p.size ≠ 0) (hq : un q = un p ++ 47 :: un t) (hc : checkN q = 0) : checkN t = 0 := by
  obtain ⟨_, c2, c3, c4, c5⟩ := check_parts hc
  have hpc : piecesB q = piecesB p ++ piecesB t := by unfold piecesB; rw [hq, cut_append, List.map_append]
  have hn : ∀ x ∈ piecesB t, nameN x = 0 := fun x hx => c2 x (by rw [hpc]; simp [hx])
  have h0 : t.size ≠ 0 := fun h0 => by
    have hm : bs [] ∈ piecesB t := by unfold piecesB; rw [size_un0 h0]; simp [cutL]
    exact name_full (hn _ hm) rfl
  have hlen : q.size = p.size + 1 + t.size := by
    have := congrArg List.length hq
    rw [un_length, List.length_append, List.length_cons, un_length, un_length] at this; omega
  obtain ⟨hw, hw0⟩ := white_cut hp (noslash_first hn) hq
  have hwl : (whiteoutB q).size = p.size + 1 + (whiteoutB t).size := by
    have := congrArg List.length hw
    rw [un_length, List.length_append, List.length_cons, un_length, un_length] at this; omega
  unfold checkN
  rw [if_neg (by rw [(isEmpty_false t).2 (by omega)]; simp), if_neg, if_neg, if_neg (by omega)]
  · rcases Nat.lt_or_ge 100 (whiteoutB t).size with h1 | h1
    · rcases fits_of_ok _ c5 with h2 | ⟨i, ⟨g1, g2, g3⟩, h2⟩
      · omega
      · have hi : p.size + 1 ≤ i := by omega
        obtain ⟨j, rfl⟩ : ∃ j, i = p.size + 1 + j := ⟨i - (p.size + 1), by omega⟩
        have g4 : good (whiteoutB t) j := by
          refine ⟨?_, by omega, by omega⟩
          rw [hw, List.getElem?_append_right (by rw [un_length]; omega), un_length, show p.size + 1 + j - p.size = j + 1 by omega] at g1
          simpa using g1
        obtain ⟨_, _, _, _, e⟩ := split_fits _ h1 hw0 j g4 (by omega)
        rw [e]
    · rw [split_small _ h1]
  · rw [hpc, List.length_append] at c3; omega
  · intro h
    obtain ⟨x, hx, h2⟩ := List.any_eq_true.1 h
    rw [hn x hx] at h2; simp at h2
theorem under_below {F : Pic} {L : List Ent} (h : Says F L) (p : ByteArray) : underL L (namesP p) = L.filter (fun e => belowB p e.path) := by
  unfold underL
  refine List.filter_congr (fun e he => ?_)
  have hq := h.full e he
  by_cases h0 : p.size = 0
  · have e1 : namesP p = [] := if_pos h0
    have e2 : belowB p e.path = true := by unfold belowB; rw [if_pos ((isEmpty_iff p).2 h0), (isEmpty_false _).2 (by omega)]; rfl
    rw [e1, e2, subN_iff]
    cases hn : namesP e.path with
    | nil => exact absurd hn (names_ne hq)
    | cons y t => exact ⟨y, t, rfl⟩
  · have hpe : p.toList.isEmpty = false := (isEmpty_false p).2 (by omega)
    rw [Bool.eq_iff_iff, subN_iff]
    constructor
    · rintro ⟨y, t, ht⟩
      refine pieces_below hpe (u := (y :: t).map bs) (by simp) ?_
      rw [pieces_names h0, pieces_names hq, ht, List.map_append]
    · intro hb
      obtain ⟨t, ht⟩ := (below_iff hpe).1 hb
      have hnt := cutL_ne t
      unfold namesP
      rw [if_neg h0, if_neg hq, ht, cut_append]
      cases hc : cutL t with
      | nil => exact absurd hc hnt
      | cons y u => exact ⟨y, u, rfl⟩
theorem cut_path {p : ByteArray} {e : Ent} (hp : p.size ≠ 0) (hb : belowB p e.path = true) : un e.path = un p ++ 47 :: un (cutE (aheadN p) e).path := by
  obtain ⟨t, ht⟩ := (below_iff ((isEmpty_false p).2 (by omega))).1 hb
  have e1 : un (cutE (aheadN p) e).path = t := by
    show un (e.path.extract (aheadN p) e.path.size) = t
    rw [un_extract, List.take_of_length_le (by rw [un_length]; omega), ahead_eq, if_neg hp, ht, ← un_length, List.drop_append, List.drop_of_length_le (by omega)]
    simp
  rw [e1]; exact ht
theorem cut_nil {p : ByteArray} (hp : p.size = 0) (e : Ent) : cutE (aheadN p) e = e := by
  have e1 : e.path.extract (aheadN p) e.path.size = e.path := un_inj (by rw [un_extract, List.take_of_length_le (by rw [un_length]; omega), ahead_eq, if_pos hp]; rfl)
  unfold cutE; rw [e1]
theorem join_cut {p : ByteArray} {e : Ent} (hb : belowB p e.path = true) : joinB p (cutE (aheadN p) e).path = e.path := by
  by_cases hp : p.size = 0
  · rw [cut_nil hp]
    unfold joinB; rw [if_pos ((isEmpty_iff p).2 hp)]
  · exact un_inj (by rw [un_join hp, ← cut_path hp hb])
theorem under_ahead {L : List Ent} {F : Pic} (h : Says F L) {p : ByteArray} {e : Ent} (he : e ∈ underL L (namesP p)) : aheadN p ≤ e.path.size := by
  rw [under_below h] at he
  by_cases hp : p.size = 0
  · rw [ahead_eq, if_pos hp]; omega
  · have := congrArg List.length (cut_path hp (List.mem_filter.1 he).2)
    rw [un_length, List.length_append, List.length_cons, un_length] at this
    rw [ahead_eq, if_neg hp]; omega
theorem wrong_cut {p : ByteArray} {e : Ent} (hp : p.size ≠ 0) (hb : belowB p e.path = true) (hw : wrongN e = 0) : wrongN (cutE (aheadN p) e) = 0 := by
  have hc := wrong_check hw
  have hct := check_cut hp (cut_path hp hb) hc
  unfold wrongN at hw ⊢
  rw [hc] at hw
  rw [hct]
  exact hw
theorem lt_cut {p : ByteArray} {a b : Ent} (hp : p.size ≠ 0) (ha : belowB p a.path = true) (hb : belowB p b.path = true) (h : ltE a b) : ltE (cutE (aheadN p) a) (cutE (aheadN p) b) := by
  have hs : ∀ e : Ent, belowB p e.path = true → piecesB e.path = piecesB p ++ piecesB (cutE (aheadN p) e).path := fun e he => by unfold piecesB; rw [cut_path hp he, cut_append, List.map_append]
  unfold ltE compareN at h ⊢
  rw [hs a ha, hs b hb, compareP_same] at h
  exact h
theorem bytes_map (n : Nat) (L : List Ent) : bytesL (L.map (cutE n)) = bytesL L := by unfold bytesL; rw [List.map_map]; rfl
theorem sub_one {W : World} {tb base : Nat} {F : Pic} {L : List Ent} (h : TreeOf W tb base F L) {p : ByteArray} (hp : p.size ≠ 0) {pre r : List Ent} {e : Ent} (hU : underL L (namesP p) = pre ++ e :: r) : oneN (pre.map (cutE (aheadN p))) (cutE (aheadN p) e) = 0 := by
  have hin : ∀ x ∈ underL L (namesP p), x ∈ L ∧ belowB p x.path = true := fun x hx => by rw [under_below h.says] at hx; exact List.mem_filter.1 hx
  have heU : e ∈ underL L (namesP p) := by rw [hU]; simp
  have hpU : ∀ x ∈ pre, x ∈ underL L (namesP p) := fun x hx => by rw [hU]; simp [hx]
  obtain ⟨heL, heb⟩ := hin e heU
  have hoU : (pre ++ e :: r).Pairwise ltE := by rw [← hU]; exact h.says.order.sublist List.filter_sublist
  obtain ⟨ho1, ho2, ho3⟩ := List.pairwise_append.1 hoU
  have hw := wrong_cut hp heb (h.right e heL)
  have hck := wrong_check hw
  have hlt : ∀ x ∈ pre.map (cutE (aheadN p)), ltE x (cutE (aheadN p) e) := fun x hx => by
    obtain ⟨y, hy, rfl⟩ := List.mem_map.1 hx
    exact lt_cut hp (hin y (hpU y hy)).2 heb (ho3 y hy e (by simp))
  have hoo : ooN (lastP (pre.map (cutE (aheadN p)))) (cutE (aheadN p) e).path = 0 := by
    generalize pre.map (cutE (aheadN p)) = M at hlt
    rcases List.eq_nil_or_concat M with rfl | ⟨l, d, rfl⟩
    · exact oo_start hck
    · have hd : lastP (l.concat d) = d.path := by simp [lastP]
      have hde := hlt d (by simp)
      unfold ltE at hde
      rw [hd]
      unfold ooN
      rw [if_neg (by omega), if_neg (by omega)]
  have hup : upN (pre.map (cutE (aheadN p))) (cutE (aheadN p) e).path = 0 := by
    unfold upN
    by_cases hz : (parentB (cutE (aheadN p) e).path).size = 0
    · rw [if_pos hz]
    · rw [if_neg hz]
      rcases last_cut (cut_path hp heb) with ⟨_, _, _, h4, _⟩ | ⟨h1, _, _⟩
      · rw [h4] at hz; exact absurd rfl hz
      · obtain ⟨s, t, hL⟩ := List.append_of_mem heL
        have h1n := h.one hL
        have hzq : (parentB e.path).size ≠ 0 := fun h0 => by rw [size_un0 h0] at h1; simp at h1
        have hus : upN s e.path = 0 := by
          by_cases hu : upN s e.path = 0
          · exact hu
          · unfold oneN putN at h1n
            rw [if_neg (show ¬ (wrongN e ≠ 0) by simpa using h.right e heL), if_pos hu] at h1n
            by_cases ho : ooN (lastP s) e.path ≠ 0
            · rw [if_pos ho] at h1n; exact absurd h1n ho
            · rw [if_neg ho] at h1n; exact h1n
        unfold upN at hus
        rw [if_neg hzq] at hus
        cases hf : s.find? (pathIs (parentB e.path)) with
        | none => rw [hf] at hus; simp at hus
        | some y =>
          rw [hf] at hus
          simp only at hus
          have hyk : y.kind = 1 := by
            by_cases hk : y.kind = 1
            · exact hk
            · rw [if_pos hk] at hus; omega
          have hys := List.mem_of_find?_eq_some hf
          have hyp : y.path = parentB e.path := pathIs_iff.1 (List.find?_some hf)
          have hyL : y ∈ L := by rw [hL]; simp [hys]
          have hye : ltE y e := by
            have ho := h.says.order
            rw [hL] at ho
            exact (List.pairwise_append.1 ho).2.2 y hys e (by simp)
          have hyb : belowB p y.path = true := (below_iff ((isEmpty_false p).2 (by omega))).2 ⟨_, by rw [hyp]; exact h1⟩
          have hyU : y ∈ underL L (namesP p) := by rw [under_below h.says]; exact List.mem_filter.2 ⟨hyL, hyb⟩
          have hypre : y ∈ pre := by
            rw [hU] at hyU
            rcases List.mem_append.1 hyU with g | g
            · exact g
            · rcases List.mem_cons.1 g with g | g
              · rw [g] at hye; exact absurd hye (ltE_self _)
              · exact absurd ((List.pairwise_cons.1 ho2).1 _ g) (ltE_asymm hye)
          have hcy : (cutE (aheadN p) y).path = parentB (cutE (aheadN p) e).path := by
            have g := cut_path hp hyb
            rw [hyp, h1] at g
            exact un_inj (by simpa using g.symm)
          cases hf2 : (pre.map (cutE (aheadN p))).find? (pathIs (parentB (cutE (aheadN p) e).path)) with
          | none => exact absurd (pathIs_iff.2 hcy) (by simpa using List.find?_eq_none.1 hf2 _ (List.mem_map_of_mem hypre))
          | some z =>
            obtain ⟨z0, hz0, rfl⟩ := List.mem_map.1 (List.mem_of_find?_eq_some hf2)
            have hzp : (cutE (aheadN p) z0).path = parentB (cutE (aheadN p) e).path := pathIs_iff.1 (List.find?_some hf2)
            obtain ⟨hzL, hzb⟩ := hin z0 (hpU z0 hz0)
            have hpp : z0.path = y.path := by rw [← join_cut hzb, ← join_cut hyb, hzp, hcy]
            obtain ⟨a1, a2, a3⟩ := h.says.at' z0 hzL
            obtain ⟨b1, b2, b3⟩ := h.says.at' y hyL
            rw [hpp, b2] at a2
            cases a2
            have : z0 = y := a3.symm.trans b3
            subst this
            show (if z0.kind ≠ 1 then (13 : Int) else 0) = 0
            rw [if_neg (by simpa using hyk)]
  have hmany : manyN (pre.map (cutE (aheadN p))) (cutE (aheadN p) e) = 0 := by
    unfold manyN
    rw [put_end hlt]
    have h1 := Nat.le_trans (under_le L (namesP p)) h.few
    have h2 := Nat.le_trans (bytes_sub (List.filter_sublist (l := L) (p := fun e => subN (namesP p) (namesP e.path)))) h.light
    rw [hU] at h1
    rw [show L.filter (fun e => subN (namesP p) (namesP e.path)) = pre ++ e :: r from hU] at h2
    have h3 : bytesL (pre ++ e :: r) = bytesL pre + (e.data.size + bytesL r) := by simp [bytesL]
    rw [h3] at h2
    simp at h1
    simp only
    rw [bytes_map, List.length_map, if_neg (by show ¬ (_ ∨ _ < _ + ((e.data.size : Nat) : Int)); omega)]
  unfold oneN putN
  rw [if_neg (show ¬ (wrongN _ ≠ 0) by simpa using hw), if_neg (show ¬ (ooN _ _ ≠ 0) by simpa using hoo), if_neg (show ¬ (upN _ _ ≠ 0) by simpa using hup), hmany]
theorem sub_check {L : List Ent} (hT : IsTree L) (p : ByteArray) : (checkGo [] (subL p L)).1 = 0 := by
  obtain ⟨W, tb, base, F, h⟩ := hT
  by_cases hp : p.size = 0
  · have e1 : subL p L = L := by
      unfold subL
      rw [show namesP p = [] from if_pos hp, h.says.all, show cutE (aheadN p) = id from funext (cut_nil hp), List.map_id]
    rw [e1]; exact h.check
  · have main : ∀ r pre, underL L (namesP p) = pre ++ r → (checkGo (pre.map (cutE (aheadN p))) (r.map (cutE (aheadN p)))).1 = 0 := by
      intro r
      induction r with
      | nil => intro pre _; rfl
      | cons e r ih =>
        intro pre hU
        rw [List.map_cons]
        unfold checkGo
        rw [if_neg (show ¬ (oneN _ _ ≠ 0) by simpa using sub_one h hp hU)]
        have := ih (pre ++ [e]) (by rw [hU]; simp)
        rw [List.map_append] at this
        exact this
    exact main _ [] rfl
end Go.Proofs.YtfglanibbngdmaaGreatDoor

namespace Go.Proofs.YtfglanibbngdmaaGreatDoor
open Go Go.RowKit Go.Shelf
attribute [local go_sem] Oper.semAt_some

def SubAt (bx b10 n base : Nat) (f : Ent → Ent) (pre : List Ent) (S : Nat → Prop) (W : World) : Prop :=
  ∃ S', Gath bx base f pre S' W ∧ Boxed W b10 3 (.int .i64 (n : Nat)) ∧ ¬ S' b10 ∧ b10 < base ∧ S = fun k => S' k ∨ k = b10
theorem sub_local (bx b10 n base : Nat) (f : Ent → Ent) : LocalE (SubAt bx b10 n base f) := by
  refine ⟨?_, ?_⟩
  · rintro pre S A B ⟨S', h1, h2, h3, h4, rfl⟩ hs hk
    exact ⟨S', (gath_local bx base f).keep _ _ _ _ h1 hs (fun k h => hk k (.inl h)), (hk b10 (.inr rfl)).trans h2, h3, h4, rfl⟩
  · rintro pre S A ⟨S', h1, h2, h3, h4, rfl⟩ k hk
    rcases hk with hk | rfl
    · exact (gath_local bx base f).there _ _ _ h1 k hk
    · exact h2.lt
set_option maxRecDepth 100000 in
theorem sub_10 (v : Value) (es : List Ent) (p : ByteArray) (w : World) (hg : ErrType w) (hv : EntsAt w v es) (hl : es.length ≤ 4611686018427387904) (hp : ∀ e ∈ es, e.path.size < 1152921504606846976) (hps : p.size ≤ 9223372036854775807) (hck : (checkGo [] es).1 = 0) (h0 : p.size ≠ 0) (hf : es.find? (pathIs p) = none) :
    Calls Tryz.prog 16 #[v, .string p] w fun e w' => e = .returned (.tuple #[.slice none 0 0, errE 10]) ∧ Below w.heap.size w w' ∧ IsTree es := by
  have hG := grow_p v es w hg hv hl hp
  have HCK : Hid ((checkGo [] es).1 = 0) := hck
  have HF : Hid (es.find? (pathIs p) = none) := hf
  have HAT : Hid (∀ (W : World) tb base F, TreeOf W tb base F es → Calls Tryz.prog 54 #[.pointer (some ⟨tb, 0, none⟩), .string p] W fun e w' => ∃ k, e = .returned (.pointer none) ∧ w' = W.drewN k) := fun W tb base F h => by
    obtain ⟨rt, rm, hrt, hrm, hhead⟩ := h.at'.root
    have hA := at_p tb base 4096 F rt p W hps hrt (head_cells hhead).1 h.at'.tree
    rcases h.says.at_text h0 with ⟨h1, _⟩ | ⟨x, _, h2⟩
    · rw [h1] at hA; exact hA
    · rw [h2] at hf; cases hf
  clear hck hf
  go_enter Tryz.func16, Tryz.ntmps16
  go_wp2_with (first | (go_at_call 48; refine hG.mono ?_; rintro e w1 ⟨hb1, ⟨-, tb, F, rfl, ht⟩ | ⟨hq, -⟩⟩; rotate_left; exact absurd HCK.out hq) | (go_at_call 54; refine (HAT.out _ _ _ _ ht).mono ?_; rintro e w2 ⟨k, rfl, rfl⟩))
  go_ret2
  exact ⟨rfl, below_drewN hb1 k, _, _, _, _, ht⟩
set_option maxRecDepth 100000 in
theorem sub_13 (v : Value) (es : List Ent) (p : ByteArray) (d : Ent) (w : World) (hg : ErrType w) (hv : EntsAt w v es) (hl : es.length ≤ 4611686018427387904) (hp : ∀ e ∈ es, e.path.size < 1152921504606846976) (hps : p.size ≤ 9223372036854775807) (hck : (checkGo [] es).1 = 0) (h0 : p.size ≠ 0) (hf : es.find? (pathIs p) = some d) (hd : d.kind ≠ 1) :
    Calls Tryz.prog 16 #[v, .string p] w fun e w' => e = .returned (.tuple #[.slice none 0 0, errE 13]) ∧ Below w.heap.size w w' ∧ IsTree es := by
  have hG := grow_p v es w hg hv hl hp
  have HCK : Hid ((checkGo [] es).1 = 0) := hck
  have HAT : Hid (∀ (W : World) tb base F, TreeOf W tb base F es → Calls Tryz.prog 54 #[.pointer (some ⟨tb, 0, none⟩), .string p] W fun e w' => ∃ k b, e = .returned (.pointer (some ⟨b, 0, none⟩)) ∧ w' = W.drewN k ∧ (W.drewN k).cell? ⟨b, 1, none⟩ = some (.int .i64 d.kind)) := fun W tb base F h => by
    obtain ⟨rt, rm, hrt, hrm, hhead⟩ := h.at'.root
    have hA := at_p tb base 4096 F rt p W hps hrt (head_cells hhead).1 h.at'.tree
    rcases h.says.at_text h0 with ⟨h1, h2⟩ | ⟨x, h1, h2⟩
    · rw [h2] at hf; cases hf
    · rw [h2] at hf; cases hf
      rw [h1] at hA
      refine hA.mono ?_
      rintro e w2 ⟨k, rfl, rfl⟩
      exact ⟨k, _, rfl, rfl, node_cell (W := W.drewN k) (h.at'.tree.node _ x h1).2 rfl⟩
  clear hck hf
  go_enter Tryz.func16, Tryz.ntmps16
  go_wp2_with (first | (go_at_call 48; refine hG.mono ?_; rintro e w1 ⟨hb1, ⟨-, tb, F, rfl, ht⟩ | ⟨hq, -⟩⟩; rotate_left; exact absurd HCK.out hq) | (go_at_call 54; refine (HAT.out _ _ _ _ ht).mono ?_; rintro e w2 ⟨k, b, rfl, rfl, hc1⟩))
  go_ret2
  exact ⟨rfl, below_drewN hb1 k, _, _, _, _, ht⟩
set_option maxRecDepth 100000 in
set_option maxHeartbeats 4000000 in
theorem sub_0 (v : Value) (es : List Ent) (p : ByteArray) (w : World) (hg : ErrType w) (hv : EntsAt w v es) (hl : es.length ≤ 4611686018427387904) (hp : ∀ e ∈ es, e.path.size < 1152921504606846976) (hck : (checkGo [] es).1 = 0) (hd : p.size = 0 ∨ ∃ d, es.find? (pathIs p) = some d ∧ d.kind = 1) :
    Calls Tryz.prog 16 #[v, .string p] w fun e w' => ∃ u, e = .returned (.tuple #[u, .nilIface]) ∧ w'.ownsRow w.heap.size 52 5 u (subL p es).length (ecells (subL p es)) ∧ Below w.heap.size w w' ∧ IsTree es := by
  obtain ⟨i0, hi, hz0, hz1, hz2⟩ := info_parts info_ent
  have hG := grow_p v es w hg hv hl hp
  have HCK : Hid ((checkGo [] es).1 = 0) := hck
  have hps : p.size < 1152921504606846976 := by
    rcases hd with h | ⟨d, h1, _⟩
    · omega
    · have := hp d (List.mem_of_find?_eq_some h1)
      rw [pathIs_iff.1 (List.find?_some h1)] at this; exact this
  have HAT : Hid (∀ (W : World) tb base F, TreeOf W tb base F es → ∃ x : Nd, F (namesP p) = some x ∧ Calls Tryz.prog 54 #[.pointer (some ⟨tb, 0, none⟩), .string p] W fun e w' => ∃ k, e = .returned (.pointer (some ⟨x.b, 0, none⟩)) ∧ w' = W.drewN k ∧ (W.drewN k).cell? ⟨x.b, 1, none⟩ = some (.int .i64 1)) := fun W tb base F h => by
    obtain ⟨rt, rm, hrt, hrm, hhead⟩ := h.at'.root
    have hA := at_p tb base 4096 F rt p W (by omega) hrt (head_cells hhead).1 h.at'.tree
    have hx : ∃ x : Nd, F (namesP p) = some x ∧ x.e.kind = 1 := by
      by_cases h0 : p.size = 0
      · obtain ⟨r2, g1, g2, _⟩ := h.says.root
        exact ⟨r2, by unfold namesP; rw [if_pos h0]; exact g1, g2⟩
      · rcases hd with h3 | ⟨d, h3, h4⟩
        · exact absurd h3 h0
        · rcases h.says.at_text h0 with ⟨h1, h2⟩ | ⟨x, h1, h2⟩
          · rw [h2] at h3; cases h3
          · rw [h2] at h3; cases h3
            exact ⟨x, h1, h4⟩
    obtain ⟨x, h1, h2⟩ := hx
    refine ⟨x, h1, ?_⟩
    rw [h1] at hA
    refine hA.mono ?_
    rintro e w2 ⟨k, rfl, rfl⟩
    exact ⟨k, rfl, rfl, by rw [← h2]; exact node_cell (W := W.drewN k) (h.at'.tree.node _ x h1).2 rfl⟩
  have hjs : aheadN p ≤ p.size + 1 := ahead_le p
  have hJ := fun w => join_p p ⟨#[]⟩ w (show p.size + 1 + 0 ≤ _ by omega)
  clear hck hd
  refine (callsIn_wide (n := 5)).1 ?_
  refine callsIn_of_wp_marks Tryz.func16 rfl trivial ?_ rfl
  simp only [Tryz.ntmps16, List.size_toArray, List.length_cons, List.length_nil, Nat.reduceAdd, Nat.reduceSub, Array.replicate_succ, Array.replicate_zero, List.push_toArray, List.append_toArray, List.nil_append, List.cons_append]
  refine wpIn_wide.2 ?_
  go_upto_region 9 with (first | (go_at_call 48; refine hG.mono ?_; rintro e w1 ⟨hb1, ⟨-, tb, F, rfl, ht⟩ | ⟨hq, -⟩⟩; rotate_left; exact absurd HCK.out hq) | (go_at_call 54; obtain ⟨x, hx, hat⟩ := HAT.out _ _ _ _ ht; refine hat.mono ?_; rintro e w2 ⟨k, rfl, rfl, hc1⟩))
  have HX : Hid (F (namesP p) = some x) := hx
  have HB : Hid (Below w.heap.size w (w1.drewN k)) := below_drewN hb1 k
  have HT : Hid (TreeOf (w1.drewN k) tb w.heap.size F es) := ht.below (below_drewN (Below.refl _ _) k)
  clear hx hb1 ht hc1 hG HAT HCK hat
  generalize w1.drewN k = V at *
  go_upto_region 10 with fail
  have HB2 : Hid (Below w.heap.size w (V.alloc (.cells #[.slice none 0 0] 22))) := below_join HB.out ((Below.refl _ _).alloc (Nat.le_refl _) _)
  have HT2 : Hid (TreeOf (V.alloc (.cells #[.slice none 0 0] 22)) tb w.heap.size F es) := HT.out.below ((Below.refl _ _).alloc (Nat.le_refl _) _)
  have hbox : Boxed (V.alloc (.cells #[.slice none 0 0] 22)) V.heap.size 22 (.slice none 0 0) := Boxed.new V _ _
  have HIN := HT.out.inB
  have hV2 : (V.alloc (.cells #[.slice none 0 0] 22)).heap.size = V.heap.size + 1 := by simp
  have HV2 : Hid (Below V.heap.size V (V.alloc (.cells #[.slice none 0 0] 22))) := (Below.refl _ _).alloc (Nat.le_refl _) _
  generalize V.alloc (.cells #[.slice none 0 0] 22) = V2 at *
  go_wp2_with (first | (go_at_call 35; refine (hJ _).mono ?_; rintro e w2 ⟨rfl, hw2⟩; replace hw2 := hw2.symm; subst hw2))
  rw [show (joinB p ⟨#[]⟩).size = aheadN p from rfl]
  have b1 : Below V2.heap.size V2 (V2.alloc (.cells #[.int .i64 (aheadN p : Nat)] 3)) := (Below.refl _ _).alloc (Nat.le_refl _) _
  have HB3 : Hid (Below w.heap.size w (V2.alloc (.cells #[.int .i64 (aheadN p : Nat)] 3))) := below_join HB2.out b1
  have HT3 : Hid (TreeOf (V2.alloc (.cells #[.int .i64 (aheadN p : Nat)] 3)) tb w.heap.size F es) := HT2.out.below b1
  have HV3 : Hid (Below V.heap.size V (V2.alloc (.cells #[.int .i64 (aheadN p : Nat)] 3))) := below_join HV2.out b1
  have hbox3 : Boxed (V2.alloc (.cells #[.int .i64 (aheadN p : Nat)] 3)) V.heap.size 22 (.slice none 0 0) := hbox.alloc _
  have hbox4 : Boxed (V2.alloc (.cells #[.int .i64 (aheadN p : Nat)] 3)) (V.heap.size + 1) 3 (.int .i64 (aheadN p : Nat)) := by rw [← hV2]; exact Boxed.new V2 _ _
  have hV3 : (V2.alloc (.cells #[.int .i64 (aheadN p : Nat)] 3)).heap.size = V.heap.size + 2 := by simp; omega
  clear b1 hbox hJ HT2 HV2 HB2 hV2
  generalize V2.alloc (.cells #[.int .i64 (aheadN p : Nat)] 3) = V3 at *
  have HG := HT3.out.givesN HIN (by omega) HX.out
  rw [hV3] at HG
  have hbA : Below V3.heap.size V3 (V3.alloc (.cells #[.pointer (some ⟨x.b, 0, none⟩)] 90)) := (Below.refl _ _).alloc (Nat.le_refl _) _
  refine (below_c _ _).mono ?_
  rintro e w2 ⟨rfl, rfl⟩
  go_wp2
  have HB4 : Hid (Below w.heap.size w (V3.alloc (.cells #[.pointer (some ⟨x.b, 0, none⟩)] 90))) := below_join HB3.out hbA
  have HV4 : Hid (Below V.heap.size V (V3.alloc (.cells #[.pointer (some ⟨x.b, 0, none⟩)] 90))) := below_join HV3.out hbA
  have hbox5 : Boxed (V3.alloc (.cells #[.pointer (some ⟨x.b, 0, none⟩)] 90)) V.heap.size 22 (.slice none 0 0) := hbox3.alloc _
  have hbox6 : Boxed (V3.alloc (.cells #[.pointer (some ⟨x.b, 0, none⟩)] 90)) (V.heap.size + 1) 3 (.int .i64 (aheadN p : Nat)) := hbox4.alloc _
  have hWA : (V3.alloc (.cells #[.pointer (some ⟨x.b, 0, none⟩)] 90)).heap.size = V.heap.size + 3 := by simp; omega
  have HIT : Hid (IsTree es) := ⟨_, _, _, _, HT3.out⟩
  have HAH : Hid (∀ y ∈ underL es (namesP p), aheadN p ≤ y.path.size) := fun y hy => under_ahead HT3.out.says hy
  have HLN : Hid ((underL es (namesP p)).length ≤ 4096) := Nat.le_trans (under_le _ _) HT3.out.few
  have hwV : w.heap.size ≤ V.heap.size := HB.out.size
  have HPS : Hid (∀ y ∈ underL es (namesP p), y.path.size < 1152921504606846976) := fun y hy => hp y (mem_under.1 hy).1
  clear hbA hbox3 hbox4 HT3 HV3 HB3 hV3
  generalize V3.alloc (.cells #[.pointer (some ⟨x.b, 0, none⟩)] 90) = WA at *
  refine wpIn_wide.1 (range_lawF (n := 5) (xs := underL es (namesP p)) (n₀ := V.heap.size) rfl eg_below HG (by omega) (Below.refl _ _) (SubAt V.heap.size (V.heap.size + 1) (aheadN p) (V.heap.size + 2) (cutE (aheadN p))) (fun k => (k = V.heap.size ∨ (Value.slice none 0 0).ownBlock = some k) ∨ k = V.heap.size + 1) (sub_local _ _ _ _ _) (fun k hk => ?s0) ⟨_, ⟨.slice none 0 0, hbox5, World.ownsRow_nil _ _ _ _, by omega, rfl⟩, hbox6, ?n0, by omega, rfl⟩ 52 11 ?assign ?body ?done)
  case s0 =>
    rcases hk with (rfl | hk) | rfl
    · omega
    · simp [Value.ownBlock] at hk
    · omega
  case n0 =>
    rintro (h | h)
    · omega
    · simp [Value.ownBlock] at h
  case assign =>
    intro m l x2 W K hK
    simp only [List.setIfInBounds_toArray, List.set_cons_succ, List.set_cons_zero] at hK ⊢
    unfold entV at hK ⊢
    gi_wp2
    exact hK
  case body =>
    rintro m l pre x2 S b W ⟨S', ⟨y, hy, hrow, hbb, hS'⟩, h10, hn10, hlt10, hS⟩ hpx hb hSb hbs
    have hmem : x2 ∈ underL es (namesP p) := hpx.subset (by simp)
    have hah := HAH.out x2 hmem
    have hxs := HPS.out x2 hmem
    have hlen : pre.length < 4096 := by have h1 := hpx.length_le; have h2 := HLN.out; rw [List.length_append] at h1; simp only [List.length_singleton] at h1; omega
    have HS : Hid (S = fun k => S' k ∨ k = V.heap.size + 1) := hS
    have HS' : Hid (S' = fun k => k = V.heap.size ∨ y.ownBlock = some k) := hS'
    have hec : ∀ (j : Nat) (u : Value), (#[.string x2.path, .int .i64 x2.kind, .int .i64 x2.mode, .string x2.data, .string x2.link] : Array Value)[j]? = some u → W.cell? ⟨b, j, none⟩ = some u := fun j u hu => by
      unfold World.cell?
      simp only [hb]; exact hu
    have c0 := hec 0 _ rfl
    have c1 := hec 1 _ rfl
    have c2 := hec 2 _ rfl
    have c3 := hec 3 _ rfl
    have c4 := hec 4 _ rfl
    have hyc := hy.cell
    have h10c := h10.cell
    have hfb : W.frozen? ⟨b, 0, none⟩ = false := by simp [World.frozen?, hb]
    have n1 : V.heap.size ≠ b := fun e => hSb (by rw [HS.out]; exact .inl (by rw [HS'.out]; exact .inl e.symm))
    have n2 : b ≠ V.heap.size + 1 := fun e => hSb (by rw [HS.out]; exact .inr e)
    have n3 : ∀ k, y.ownBlock = some k → k ≠ b := fun k hk e => hSb (by rw [HS.out]; exact .inl (by rw [HS'.out]; exact .inr (e ▸ hk)))
    have HR' : Hid ((W.setCell ⟨b, 0, none⟩ (.string (x2.path.extract (aheadN p) x2.path.size))).ownsRow (V.heap.size + 2) 52 5 y pre.length (ecells (pre.map (cutE (aheadN p))))) := row_local hrow (fun k hk => Below.heap_setCell _ _ _ _ (n3 k hk))
    have HY' : Hid (Boxed (W.setCell ⟨b, 0, none⟩ (.string (x2.path.extract (aheadN p) x2.path.size))) V.heap.size 22 y) := Boxed.other hy n1 _
    have H10' : Hid (Boxed (W.setCell ⟨b, 0, none⟩ (.string (x2.path.extract (aheadN p) x2.path.size))) (V.heap.size + 1) 3 (.int .i64 (aheadN p : Nat))) := Boxed.other h10 (Ne.symm n2) _
    have hWs : (W.setCell ⟨b, 0, none⟩ (.string (x2.path.extract (aheadN p) x2.path.size))).heap.size = W.heap.size := by simp [World.setCell]
    have HEN := ent_cells (ent_new (W.setCell ⟨b, 0, none⟩ (.string (x2.path.extract (aheadN p) x2.path.size))) 52 (cutE (aheadN p) x2))
    rw [hWs] at HEN
    have hblt : b < W.heap.size := (Array.getElem?_eq_some_iff.1 hb).1
    have hN10 : Hid (¬ S' (V.heap.size + 1)) := hn10
    clear hS hS' hpx hbox5 hbox6 hec hn10 hy hrow n3 hb
    simp only [List.setIfInBounds_toArray, List.set_cons_succ, List.set_cons_zero]
    unfold entV
    gi_wp2_with (gi_at_builtin; refine wpListIn_append_at _ rfl _ _ 22 rfl (V.heap.size + 2) 52 i0 (.agg #[.string ⟨#[]⟩, .int .i64 0, .int .i64 0, .string ⟨#[]⟩, .string ⟨#[]⟩]) 5 64 Tryz.underlying22 hi hz0 hz1 hz2 rfl (by decide) _ _ _ rfl (HR'.out.alloc _) ⟨W.heap.size, 0, none⟩ 1 1 (ecs (cutE (aheadN p) x2)) rfl rfl HEN (ent_one _) (by unfold maxLen; omega) (by omega) (by simp [World.setCell]; omega) ?_; intro v1 w1 hown1 hgrow1 hat1; obtain ⟨g1, cap1, rfl⟩ := row_shape hown1; obtain ⟨hv1, S2, hg2, hr2⟩ := gath_step (b := b) HY'.out HR'.out hbb HS'.out hown1 hgrow1 hat1; have hvc1 := hv1.cell; have hvf1 := hv1.frozen)
    have hsz := hr2.size
    rw [hWs] at hsz
    refine ⟨fun k => S2 k ∨ k = V.heap.size + 1, ⟨S2, hg2, (hr2.same _ (by omega) (fun h => h.elim hN10.out (fun e => n2 e.symm))).trans H10'.out, fun h => ?_, hlt10, rfl⟩, ⟨hr2.os, hr2.tape, hr2.output, hsz, fun k hk hn => ?_, fun k hk => ?_⟩⟩
    · rcases hr2.more _ h with (h1 | h1) | h1
      · exact hN10.out h1
      · exact n2 h1.symm
      · omega
    · refine (hr2.same k (by omega) (fun h => hn ?_)).trans (Below.heap_setCell _ _ _ _ (fun e => hn (.inr e)))
      rcases h with h | h
      · exact .inl (by rw [HS.out]; exact .inl h)
      · exact .inr h
    · rcases hk with hk | rfl
      · rcases hr2.more _ hk with (h1 | h1) | h1
        · exact .inl (.inl (by rw [HS.out]; exact .inl h1))
        · exact .inl (.inr h1)
        · rw [hWs] at h1; exact .inr h1
      · exact .inl (.inl (by rw [HS.out]; exact .inr rfl))
  case done =>
    rintro D S W hD ⟨S', ⟨y, hy, hrow, hbb, hS'⟩, h10, hn10, hlt10, hS⟩ hr hSD hK
    have hyc := hy.cell
    have HS : Hid (S = fun k => S' k ∨ k = V.heap.size + 1) := hS
    have HS' : Hid (S' = fun k => k = V.heap.size ∨ y.ownBlock = some k) := hS'
    have hBW : Hid (Below w.heap.size w W) := HB4.out.trans (hr.below (by omega) (fun k hk => by
      rcases hk with (rfl | hk) | rfl
      · exact hwV
      · simp [Value.ownBlock] at hk
      · omega))
    clear hS hS' hr hbox5 hbox6
    go_wp2
    refine ⟨by simp, .inl ⟨_, _, rfl, run_takeDeferred hK, ?_⟩⟩
    refine ⟨.tuple #[y, .nilIface], by simp [results, Tryz.f16, go_sem], y, rfl, ?_, hBW.out.trans (putLoop_below _ hK (by omega)), HIT.out⟩
    have hrow2 : (W.putObj D (.deferred none)).ownsRow (V.heap.size + 2) 52 5 y (underL es (namesP p)).length (ecells ((underL es (namesP p)).map (cutE (aheadN p)))) := row_local hrow (fun k hk => World.putObj_heap_other (fun e => hSD (by rw [HS.out]; exact .inl (by rw [HS'.out]; exact .inr (e ▸ hk)))))
    unfold subL
    rw [List.length_map]
    refine ⟨hrow2.1, ?_⟩
    rcases hrow2.2 with hn | ⟨g2, cap, cur, e1, e2, rest⟩
    · exact .inl hn
    · exact .inr ⟨g2, cap, cur, e1, by omega, rest⟩
end Go.Proofs.YtfglanibbngdmaaGreatDoor

namespace Go.Proofs.YtfglanibbngdmaaGreatDoor
open Go Go.RowKit

def mkb8 (x : Int) : UInt8 := UInt8.ofNat (x % 256).toNat
theorem mkb8_int (x : Int) : ((mkb8 x).toNat : Int) = x % 256 := by
  unfold mkb8
  rw [UInt8.toNat_ofNat']; omega
def mkTx (k i : Int) : ByteArray := bs [35, mkb8 k, mkb8 (k / 256), mkb8 i, mkb8 (i / 256)]
set_option maxRecDepth 100000 in
theorem mkTx_conv (k i : Int) (w : World) : (convert 116 9 (.slice (some ⟨w.heap.size, 0, none⟩) 5 5)).run Tryz.prog (w.alloc (.cells #[.int .u8 35, .int .u8 (k % 256), .int .u8 (k / 256 % 256), .int .u8 (i % 256), .int .u8 (i / 256 % 256)] 5)) = .ok (.string (mkTx k i)) (w.alloc (.cells #[.int .u8 35, .int .u8 (k % 256), .int .u8 (k / 256 % 256), .int .u8 (i % 256), .int .u8 (i / 256 % 256)] 5)) := by
  refine run_convert_bytes_back _ 116 9 5 ⟨w.heap.size, 0, none⟩ 5 [35, mkb8 k, mkb8 (k / 256), mkb8 i, mkb8 (i / 256)] Tryz.underlying116 Tryz.underlying5 Tryz.underlying9 ?_
  intro j hj
  simp only [← mkb8_int]
  have hc := fun v (h : (#[.int .u8 35, .int .u8 ((mkb8 k).toNat : Int), .int .u8 ((mkb8 (k / 256)).toNat : Int), .int .u8 ((mkb8 i).toNat : Int), .int .u8 ((mkb8 (i / 256)).toNat : Int)] : Array Value)[j]? = some v) => (Lies.new w 5 #[.int .u8 35, .int .u8 ((mkb8 k).toNat : Int), .int .u8 ((mkb8 (k / 256)).toNat : Int), .int .u8 ((mkb8 i).toNat : Int), .int .u8 ((mkb8 (i / 256)).toNat : Int)]).cell h
  have e : (⟨w.heap.size, 0, none⟩ : Addr).add j = ⟨w.heap.size, j, none⟩ := by rw [Addr.add_mid, Nat.zero_add]
  rw [e]
  refine hc _ ?_
  rcases j with _ | _ | _ | _ | _ | j
  · rfl
  · rfl
  · rfl
  · rfl
  · rfl
  · simp at hj; omega
set_option maxRecDepth 100000 in
set_option maxHeartbeats 2000000 in
theorem mkTx_p (k i : Int) (w : World) : Calls Tryz.prog 87 #[.int .i64 k, .int .i64 i] w fun e w' => e = .returned (.string (mkTx k i)) ∧ Below w.heap.size w w' := by
  have hcv := mkTx_conv k i w
  go_enter Tryz.func87, Tryz.ntmps87
  go_wp2
  go_ret
  exact ⟨rfl, (Below.refl _ w).alloc (Nat.le_refl _) _⟩
theorem own_below0 {W W2 : World} {base e size n : Nat} {v : Value} {xs : List Value} (h : W.ownsRow base e size v n xs) (hb : Below W.heap.size W W2) : W2.ownsRow base e size v n xs := by
  refine ⟨h.1, ?_⟩
  rcases h.2 with hn | ⟨g, cap, cur, rfl, hg, hgg, rest⟩
  · exact .inl hn
  · exact .inr ⟨g, cap, cur, rfl, hg, (hb.block g (Array.getElem?_eq_some_iff.1 hgg).1).trans hgg, rest⟩
/-- A mark. -/
def markE (k i : Int) : Ent := ⟨mkTx k i, 0, -7 - k, ⟨#[]⟩, ⟨#[]⟩⟩
def evs (e : Ent) : Array Value := #[.string e.path, .int .i64 e.kind, .int .i64 e.mode, .string e.data, .string e.link]
theorem evs_size (e : Ent) : (Tryz.prog.info? 52).map (·.size) = some (evs e).size := by
  show _ = some 5
  kernel_rfl
set_option maxRecDepth 100000 in
set_option maxHeartbeats 2000000 in
theorem markE_p (k i : Int) (h0 : 0 ≤ k) (h1 : k ≤ 1000000) (w : World) : Calls Tryz.prog 56 #[.int .i64 k, .int .i64 i] w fun e w' => e = .returned (.agg #[.string (markE k i).path, .int .i64 (markE k i).kind, .int .i64 (markE k i).mode, .string (markE k i).data, .string (markE k i).link]) ∧ Below w.heap.size w w' := by
  have b0 : Below w.heap.size w (w.alloc (.cells #[.string ⟨#[]⟩, .int .i64 0, .int .i64 0, .string ⟨#[]⟩, .string ⟨#[]⟩] 52)) := (Below.refl _ w).alloc (Nat.le_refl _) _
  have L0 := Lies.new w 52 #[.string ⟨#[]⟩, .int .i64 0, .int .i64 0, .string ⟨#[]⟩, .string ⟨#[]⟩]
  have hw : IntKind.i64.wrap (-7 - k) = -7 - k := by
    simp only [IntKind.wrap, IntKind.bits, IntKind.signed]
    simp
    omega
  have hinf : (Tryz.prog.info? 52).map (·.size) = some 5 := by kernel_rfl
  have hone : (#[.string (mkTx k i), .int .i64 0, .int .i64 (-7 - k), .string ⟨#[]⟩, .string ⟨#[]⟩] : Array Value).all (·.oneCell') = true := by simp [Value.oneCell']
  go_enter Tryz.func56, Tryz.ntmps56
  go_wp2_with (first
    | (go_at_call 87; refine (mkTx_p k i _).mono ?_; rintro e w1 ⟨rfl, b1⟩; have L1 := L0.below b1)
    | (refine wpList_store_row rfl 52 (.tmp 4) (.tmp 10) rfl w.heap.size #[.string (mkTx k i), .int .i64 0, .int .i64 (-7 - k), .string ⟨#[]⟩, .string ⟨#[]⟩] rfl rfl 52 #[.string ⟨#[]⟩, .int .i64 0, .int .i64 0, .string ⟨#[]⟩, .string ⟨#[]⟩] L1 hinf rfl hone ?_))
  dsimp only [Act.put]
  refine bodyPost_ret (results_cell_row rfl _ _ w.heap.size 52 #[.string (mkTx k i), .int .i64 0, .int .i64 (-7 - k), .string ⟨#[]⟩, .string ⟨#[]⟩] (0, 0) _ rfl (setRow_heap w1 w.heap.size _ _ _ (0, 0) L1) Tryz.underlying52 rfl hinf) rfl ?_
  exact ⟨rfl, below_setRow (b0.trans (b1.mono b0.size)) (Nat.le_refl _) _⟩
def marksE (n : Nat) : List Ent := List.map (fun i : Nat => markE 90 (i : Int)) (List.range n)
theorem marksE_succ (n : Nat) : marksE (n + 1) = marksE n ++ [markE 90 n] := by simp [marksE, List.range_succ]
theorem marksE_length (n : Nat) : (marksE n).length = n := by simp [marksE]
theorem marksE_get (n i : Nat) (h : i < n) : (marksE n)[i]? = some (markE 90 i) := by simp [marksE, h]

set_option maxHeartbeats 4000000 in
set_option maxRecDepth 100000 in
theorem fullE_p (es : List Ent) (v : Value) (w : World) (hv : EntsAt w v es) (hl : es.length ≤ 1073741824) : Calls Tryz.prog 45 #[v] w fun e w' => ∃ u, e = .returned u ∧ w'.ownsRow w.heap.size 52 5 u (es.length + 16) (ecells (es ++ marksE 16)) ∧ Below w.heap.size w w' := by
  obtain ⟨i0, hi, hz0, hz1, hz2⟩ := info_parts info_ent
  obtain ⟨a, cap, b, o, rfl, ha, hcap, hc⟩ := hv
  go_enter Tryz.func45, Tryz.ntmps45
  go_wp2
  go_loopw [3, 4] (fun v i wr => ∃ k : Nat, i = .int .i64 k ∧ k ≤ es.length ∧ wr.ownsRow w.heap.size 52 5 v (es.take k).length (ecells (es.take k)) ∧ Below w.heap.size w wr) (fun _ i _ => es.length - (intOf i).toNat)
  case atStart => exact ⟨0, rfl, Nat.zero_le _, World.ownsRow_nil _ _ _ _, Below.refl _ _⟩
  case round =>
    obtain ⟨k, rfl, hk, hown, hB⟩ := hrel
    have hsz := hB.size
    by_cases hlt : k < es.length
    · have hlt' : (k : Int) < (es.length : Int) := by omega
      have hk0 : (0 : Int) ≤ (k : Int) := by omega
      obtain ⟨x, hx⟩ : ∃ x, es[k]? = some x := ⟨_, List.getElem?_eq_getElem hlt⟩
      obtain rfl := ha (fun e => by rw [e] at hlt; simp at hlt)
      obtain ⟨c0, c1, c2, c3, c4⟩ := (hc k x hx).below hB
      have hlk : (es.take k).length ≤ es.length := by rw [List.length_take]; omega
      have HX : Hid (es.take (k + 1) = es.take k ++ [x]) := by unfold Hid; rw [List.take_add_one, hx]; rfl
      clear hx hc ha
      go_wp2_with (at_builtin; refine wpList_append_own _ rfl _ _ 22 rfl w.heap.size 52 i0 (.agg #[.string ⟨#[]⟩, .int .i64 0, .int .i64 0, .string ⟨#[]⟩, .string ⟨#[]⟩]) 5 64 Tryz.underlying22 hi hz0 hz1 hz2 rfl (by decide) _ _ _ rfl (hown.alloc _) ⟨wr.heap.size, 0, none⟩ 1 1 (ecs x) rfl rfl (ent_cells (ent_new wr _ x)) (ent_one x) (by unfold maxLen; omega) (by omega) (by simp; omega) ?_; intro v1 w1 hown1 hgrow1 _)
      have hb1 : Below w.heap.size w w1 := (hB.alloc hsz _).grown hgrow1 (by simp; omega) (fun j hj => (own_ge hown j hj.symm).1)
      have hown2 : w1.ownsRow w.heap.size 52 5 v1 (es.take (k + 1)).length (ecells (es.take (k + 1))) := by
        rw [HX.out, ecells_append, List.length_append]; simpa [ecells] using hown1
      clear hown1 hgrow1 hown
      go_roundw
      case rel => exact ⟨k + 1, by go_num, by omega, hown2, hb1⟩
      case measure => simp [intOf]; omega
    · have hge : ¬ (k : Int) < (es.length : Int) := by omega
      have hall : es.take k = es := List.take_of_length_le (by omega)
      rw [hall] at hown
      clear ha hc
      go_wp2_with fail
      go_loopw [3, 5] (fun v i wr => ∃ m : Nat, i = .int .i64 m ∧ m ≤ 16 ∧ wr.ownsRow w.heap.size 52 5 v (es ++ marksE m).length (ecells (es ++ marksE m)) ∧ Below w.heap.size w wr) (fun _ i _ => 16 - (intOf i).toNat)
      case atStart => exact ⟨0, rfl, Nat.zero_le _, by rw [show marksE 0 = [] from rfl, List.append_nil]; exact hown, hB⟩
      case round =>
        clear hown hB hsz
        obtain ⟨m, rfl, hm, hown, hB⟩ := hrel
        by_cases hlt : m < 16
        · have hlt' : (m : Int) < 16 := by omega
          have hM := fun W => markE_p 90 m (by decide) (by decide) W
          have HX : Hid (es ++ marksE (m + 1) = (es ++ marksE m) ++ [markE 90 m]) := by unfold Hid; rw [marksE_succ, ← List.append_assoc]
          have hln : (es ++ marksE m).length ≤ 1073741840 := by rw [List.length_append, marksE_length]; omega
          generalize markE 90 (m : Int) = x at *
          go_wp2_with (first
            | (go_at_call 56; refine (hM _).mono ?_; rintro e w1 ⟨rfl, b1⟩; have hown1 := own_below0 hown b1; have hB1 := hB.trans (b1.mono hB.size); have hs1 := hB1.size)
            | (at_builtin; refine wpList_append_own _ rfl _ _ 22 rfl w.heap.size 52 i0 (.agg #[.string ⟨#[]⟩, .int .i64 0, .int .i64 0, .string ⟨#[]⟩, .string ⟨#[]⟩]) 5 64 Tryz.underlying22 hi hz0 hz1 hz2 rfl (by decide) _ _ _ rfl (hown1.alloc _) ⟨w1.heap.size, 0, none⟩ 1 1 (ecs x) rfl rfl (ent_cells (ent_new w1 _ x)) (ent_one x) (by unfold maxLen; omega) (by omega) (by simp; omega) ?_; intro v1 w2 hown2 hgrow2 _))
          have hb2 : Below w.heap.size w w2 := (hB1.alloc hs1 _).grown hgrow2 (by simp; omega) (fun j hj => (own_ge hown1 j hj.symm).1)
          have hown3 : w2.ownsRow w.heap.size 52 5 v1 (es ++ marksE (m + 1)).length (ecells (es ++ marksE (m + 1))) := by
            rw [HX.out, ecells_append, List.length_append]; simpa [ecells] using hown2
          clear hown1 hgrow2 hown2 hown
          go_roundw
          case rel => exact ⟨m + 1, by go_num, by omega, hown3, hb2⟩
          case measure => simp [intOf]; omega
        · have hge2 : ¬ (m : Int) < 16 := by omega
          have hm16 : m = 16 := by omega
          rw [hm16, List.length_append, marksE_length] at hown
          have HW : Hid _ := hown
          clear hown hm16
          go_wp2
          go_ret
          exact ⟨_, rfl, HW.out, hB⟩
/-- A list that was lent: the entries, and sixteen marks behind them. -/
def LentE (w : World) (v : Value) (es : List Ent) : Prop :=
  ∃ g cap, v = .slice (some ⟨g, 0, none⟩) es.length cap ∧ es.length + 16 ≤ cap ∧ cap ≤ maxLen ∧ ∀ j x, (es ++ marksE 16)[j]? = some x → EntC w g (j * 5) x
theorem LentE.below {w w' : World} {v : Value} {es : List Ent} (h : LentE w v es) (hb : Below w.heap.size w w') : LentE w' v es := by
  obtain ⟨g, cap, rfl, hc, hm, h3⟩ := h
  exact ⟨g, cap, rfl, hc, hm, fun j x hx => (h3 j x hx).below hb⟩
theorem LentE.ents {w : World} {v : Value} {es : List Ent} (h : LentE w v es) : EntsAt w v es := by
  obtain ⟨g, cap, rfl, hc, _, h3⟩ := h
  refine ⟨_, cap, g, 0, rfl, fun _ => rfl, by omega, fun i x hx => ?_⟩
  rw [Nat.zero_add]
  exact h3 i x (by rw [List.getElem?_append_left (List.getElem?_eq_some_iff.1 hx).1]; exact hx)
set_option maxHeartbeats 2000000 in
set_option maxRecDepth 100000 in
theorem lentE_p (es : List Ent) (v : Value) (w : World) (hv : EntsAt w v es) (hl : es.length ≤ 1073741824) : Calls Tryz.prog 10 #[v] w fun e w' => ∃ u, e = .returned u ∧ LentE w' u es ∧ w'.ownsRow w.heap.size 52 5 u es.length (ecells es) ∧ Below w.heap.size w w' := by
  have hF := fullE_p es v w hv hl
  obtain ⟨a, cap0, b, o, rfl, ha, _, hc⟩ := hv
  clear hc ha
  go_enter Tryz.func10, Tryz.ntmps10
  go_wp2_with fail
  refine hF.mono ?_
  rintro e w1 ⟨u, rfl, hown, b1⟩
  have hown2 : w1.ownsRow w.heap.size 52 5 u (es ++ marksE 16).length (ecells (es ++ marksE 16)) := by rw [List.length_append, marksE_length]; exact hown
  obtain ⟨a3, cap3, b3, o3, h31, h32, h33, h34⟩ := ents_of_owns hown2
  rcases hown.2 with ⟨_, h0⟩ | ⟨g, cap, cur, rfl, hgb, hgg, hcap, hmax, hcs, htk⟩
  · omega
  have hne : es ++ marksE 16 ≠ [] := fun e => by have := congrArg List.length e; rw [List.length_append, marksE_length] at this; simp at this
  have e3 := h32 hne
  rw [e3] at h31
  injection h31 with h311 h312 h313
  injection h311 with h311
  injection h311 with h3a h3b
  subst h3a; subst h3b; subst h313
  clear h312
  have HI : Hid (LentE w1 (.slice (some ⟨g, 0, none⟩) es.length cap) es) := ⟨g, cap, rfl, hcap, hmax, fun j x hx => by have := h34 j x hx; rw [Nat.zero_add] at this; exact this⟩
  have HO : Hid (w1.ownsRow w.heap.size 52 5 (.slice (some ⟨g, 0, none⟩) es.length cap) es.length (ecells es)) := by
    refine ⟨ecells_length es, .inr ⟨g, cap, cur, rfl, hgb, hgg, by omega, hmax, hcs, ?_⟩⟩
    have h5 : cur.toList.take (es.length * 5) = (cur.toList.take ((es.length + 16) * 5)).take (es.length * 5) := by rw [List.take_take, Nat.min_eq_left (by omega)]
    rw [h5, htk, ecells_append, List.take_append_of_le_length (by rw [ecells_length]; exact Nat.le_refl _), List.take_of_length_le (by rw [ecells_length]; exact Nat.le_refl _)]
  clear hown hown2 h34 h32 hgg htk
  unfold maxLen at hmax
  have d1 : (0 : Int) ≤ (es.length : Int) := by omega
  have d2 : (es.length : Int) ≤ (cap : Int) := by omega
  go_wp2
  go_ret
  exact ⟨_, rfl, HI.out, HO.out, b1⟩
end Go.Proofs.YtfglanibbngdmaaGreatDoor

namespace Go.Proofs.YtfglanibbngdmaaGreatDoor
open Go Go.RowKit

/-- A list of entries that lies beside a tree. -/
def FreeE (W : World) (v : Value) (L : List Ent) (M : Nat → Prop) : Prop :=
  ∃ (a : Option Addr) (cap b o : Nat), v = .slice a L.length cap ∧ (L ≠ [] → a = some ⟨b, o, none⟩) ∧ L.length ≤ cap ∧ (∀ i e, L[i]? = some e → EntC W b (o + i * 5) e) ∧ (L ≠ [] → ¬ M b ∧ b < W.heap.size)
theorem FreeE.ents {W : World} {v : Value} {L : List Ent} {M : Nat → Prop} (h : FreeE W v L M) : EntsAt W v L := by
  obtain ⟨a, cap, b, o, h1, h2, h3, h4, _⟩ := h
  exact ⟨a, cap, b, o, h1, h2, h3, h4⟩
theorem list_ne {L : List Ent} {i : Nat} {e : Ent} (h : L[i]? = some e) : L ≠ [] := fun h0 => by rw [h0] at h; simp at h
theorem FreeE.rnd {W W' : World} {v : Value} {L : List Ent} {M M' : Nat → Prop} (h : FreeE W v L M) (hr : Rnd M M' W W') : FreeE W' v L M' := by
  obtain ⟨a, cap, b, o, h1, h2, h3, h4, h5⟩ := h
  refine ⟨a, cap, b, o, h1, h2, h3, fun i e he => ?_, fun hL => ?_⟩
  · obtain ⟨q0, q1, q2, q3, q4⟩ := h4 i e he
    obtain ⟨n1, n2⟩ := h5 (list_ne he)
    exact ⟨cell_kept hr n2 n1 q0, cell_kept hr n2 n1 q1, cell_kept hr n2 n1 q2, cell_kept hr n2 n1 q3, cell_kept hr n2 n1 q4⟩
  · obtain ⟨n1, n2⟩ := h5 hL
    have := hr.size
    refine ⟨fun hm => ?_, by omega⟩
    rcases hr.more b hm with h6 | h6
    · exact n1 h6
    · omega
theorem FreeE.below {W W' : World} {v : Value} {L : List Ent} {M : Nat → Prop} (h : FreeE W v L M) (hb : Below W.heap.size W W') : FreeE W' v L M := h.rnd (Rnd.of_below hb)
theorem free_nil (W : World) (M : Nat → Prop) : FreeE W (.slice none 0 0) [] M := ⟨none, 0, 0, 0, rfl, fun h => absurd rfl h, Nat.le_refl _, fun i e h => by simp at h, fun h => absurd rfl h⟩
theorem free_of_owns {W : World} {base : Nat} {v : Value} {L : List Ent} {M : Nat → Prop} (h : W.ownsRow base 52 5 v L.length (ecells L)) (hM : ∀ k, base ≤ k → ¬ M k) : FreeE W v L M := by
  have he := ents_of_owns h
  rcases h.2 with ⟨rfl, h0⟩ | ⟨g, cap, cur, rfl, hg, hgb, hcap, _⟩
  · have : L = [] := List.eq_nil_of_length_eq_zero h0
    subst this
    exact free_nil W M
  · obtain ⟨a2, cap2, b2, o2, hv2, ha2, hcp2, hc2⟩ := he
    refine ⟨some ⟨g, 0, none⟩, cap, g, 0, rfl, fun _ => rfl, hcap, fun i e hi => ?_, fun _ => ⟨hM g hg, (Array.getElem?_eq_some_iff.1 hgb).1⟩⟩
    have h1 := ha2 (list_ne hi)
    subst h1
    simp at hv2
    obtain ⟨⟨rfl, rfl⟩, _⟩ := hv2
    exact hc2 i e hi
set_option maxRecDepth 100000 in
set_option maxHeartbeats 2000000 in
theorem bytes_p (v : Value) (L : List Ent) (w : World) (hv : EntsAt w v L) (hl : L.length ≤ 4096) (hb : bytesL L ≤ 16777216) : Calls Tryz.prog 30 #[v] w fun e w' => e = .returned (.int .i64 (bytesL L : Nat)) ∧ w' = w := by
  obtain ⟨a, cap, b, o, rfl, ha, hcap, hc⟩ := hv
  have HBT : Hid (∀ k, bytesL (L.take k) ≤ bytesL L) := fun k => bytes_sub (List.take_sublist k L)
  go_enter Tryz.func30, Tryz.ntmps30
  go_wp2
  go_loop [3, 4] (fun q i => ∃ k : Nat, k ≤ L.length ∧ i = .int .i64 k ∧ q = .int .i64 (bytesL (L.take k) : Nat)) (fun _ i => L.length - (intOf i).toNat)
  case atStart => exact ⟨0, Nat.zero_le _, rfl, by simp [bytesL]⟩
  case round =>
    obtain ⟨k, hk, rfl, rfl⟩ := hrel
    by_cases hlt : k < L.length
    · have hlt' : (k : Int) < (L.length : Int) := by omega
      have hk0 : (0 : Int) ≤ (k : Int) := by omega
      obtain ⟨x, hx⟩ : ∃ x, L[k]? = some x := ⟨_, List.getElem?_eq_getElem hlt⟩
      obtain rfl := ha (fun e => by rw [e] at hlt; simp at hlt)
      have c3 := (hc k x hx).c3
      have HX : Hid (bytesL (L.take (k + 1)) = bytesL (L.take k) + x.data.size) := by unfold Hid; rw [List.take_add_one, hx]; simp [bytesL]
      have h1 := HBT.out (k + 1)
      have h2 := HX.out
      have hwr : wrap64 ((bytesL (L.take k) : Int) + (x.data.size : Int)) = (bytesL (L.take k) : Int) + (x.data.size : Int) := wrap_small (by omega) (by omega)
      clear hx hc ha h1 h2
      go_wp2
      go_round
      case rel => exact ⟨k + 1, by omega, by go_num, by rw [HX.out]; simp [hwr]⟩
      case measure => simp [intOf]; omega
    · have hge : ¬ (k : Int) < (L.length : Int) := by omega
      have HALL : Hid (L.take k = L) := List.take_of_length_le (by omega)
      go_wp2
      go_ret
      exact ⟨by rw [HALL.out]; rfl, rfl⟩
set_option maxRecDepth 100000 in
set_option maxHeartbeats 2000000 in
theorem but_p (v : Value) (L : List Ent) (p : ByteArray) (w : World) (hv : EntsAt w v L) (hl : L.length ≤ 1073741824) : Calls Tryz.prog 32 #[v, .string p] w fun e w' => ∃ u, e = .returned u ∧ w'.ownsRow w.heap.size 52 5 u (L.filter (notP p)).length (ecells (L.filter (notP p))) ∧ Below w.heap.size w w' := by
  obtain ⟨i0, hi, hz0, hz1, hz2⟩ := info_parts info_ent
  obtain ⟨a, cap, b, o, rfl, ha, hcap, hc⟩ := hv
  go_enter Tryz.func32, Tryz.ntmps32
  go_wp2
  go_loopw [5, 6] (fun v i wr => ∃ k : Nat, i = .int .i64 k ∧ k ≤ L.length ∧ wr.ownsRow w.heap.size 52 5 v ((L.take k).filter (notP p)).length (ecells ((L.take k).filter (notP p))) ∧ Below w.heap.size w wr) (fun _ i _ => L.length - (intOf i).toNat)
  case atStart => exact ⟨0, rfl, Nat.zero_le _, World.ownsRow_nil _ _ _ _, Below.refl _ _⟩
  case round =>
    obtain ⟨k, rfl, hk, hown, hB⟩ := hrel
    have hsz := hB.size
    by_cases hlt : k < L.length
    · have hlt' : (k : Int) < (L.length : Int) := by omega
      have hk0 : (0 : Int) ≤ (k : Int) := by omega
      obtain ⟨x, hx⟩ : ∃ x, L[k]? = some x := ⟨_, List.getElem?_eq_getElem hlt⟩
      obtain rfl := ha (fun e => by rw [e] at hlt; simp at hlt)
      obtain ⟨c0, c1, c2, c3, c4⟩ := (hc k x hx).below hB
      have hlk : ((L.take k).filter (notP p)).length ≤ L.length := Nat.le_trans (List.length_filter_le _ _) (by rw [List.length_take]; omega)
      have hpi : pathIs p x = (x.path.toList == p.toList) := by unfold pathIs; rw [toList_un, toList_un]
      cases hq : pathIs p x with
      | true =>
        rw [hq] at hpi
        have hpb : (x.path.toList == p.toList) = true := hpi.symm
        have HX : Hid ((L.take (k + 1)).filter (notP p) = (L.take k).filter (notP p)) := by unfold Hid; rw [List.take_add_one, hx, List.filter_append]; simp [notP, hq]
        clear hx hc ha hpi hq
        go_wp2
        go_roundw
        case rel => exact ⟨k + 1, by go_num, by omega, by rw [HX.out]; exact hown, hB⟩
        case measure => simp [intOf]; omega
      | false =>
        rw [hq] at hpi
        have hpb : (x.path.toList == p.toList) = false := hpi.symm
        have HX : Hid ((L.take (k + 1)).filter (notP p) = (L.take k).filter (notP p) ++ [x]) := by unfold Hid; rw [List.take_add_one, hx, List.filter_append]; simp [notP, hq]
        clear hx hc ha hpi hq
        go_wp2_with (at_builtin; refine wpList_append_own _ rfl _ _ 22 rfl w.heap.size 52 i0 (.agg #[.string ⟨#[]⟩, .int .i64 0, .int .i64 0, .string ⟨#[]⟩, .string ⟨#[]⟩]) 5 64 Tryz.underlying22 hi hz0 hz1 hz2 rfl (by decide) _ _ _ rfl (hown.alloc _) ⟨wr.heap.size, 0, none⟩ 1 1 (ecs x) rfl rfl (ent_cells (ent_new wr _ x)) (ent_one x) (by unfold maxLen; omega) (by omega) (by simp; omega) ?_; intro v1 w1 hown1 hgrow1 _)
        have hb1 : Below w.heap.size w w1 := (hB.alloc hsz _).grown hgrow1 (by simp; omega) (fun j hj => (own_ge hown j hj.symm).1)
        have hown2 : w1.ownsRow w.heap.size 52 5 v1 ((L.take (k + 1)).filter (notP p)).length (ecells ((L.take (k + 1)).filter (notP p))) := by
          rw [HX.out, ecells_append, List.length_append]; simpa [ecells] using hown1
        clear hown1 hgrow1 hown
        go_roundw
        case rel => exact ⟨k + 1, by go_num, by omega, hown2, hb1⟩
        case measure => simp [intOf]; omega
    · have hge : ¬ (k : Int) < (L.length : Int) := by omega
      have hall : L.take k = L := List.take_of_length_le (by omega)
      rw [hall] at hown
      go_wp2
      go_ret
      exact ⟨_, rfl, hown, hB⟩
set_option maxRecDepth 100000 in
set_option maxHeartbeats 2000000 in
theorem kept_p (v : Value) (L : List Ent) (p : ByteArray) (w : World) (hv : EntsAt w v L) (hl : L.length ≤ 1073741824) : Calls Tryz.prog 33 #[v, .string p] w fun e w' => ∃ u, e = .returned u ∧ w'.ownsRow w.heap.size 52 5 u (L.filter (keptB p)).length (ecells (L.filter (keptB p))) ∧ Below w.heap.size w w' := by
  obtain ⟨i0, hi, hz0, hz1, hz2⟩ := info_parts info_ent
  obtain ⟨a, cap, b, o, rfl, ha, hcap, hc⟩ := hv
  go_enter Tryz.func33, Tryz.ntmps33
  go_wp2
  go_loopw [5, 6] (fun v i wr => ∃ k : Nat, i = .int .i64 k ∧ k ≤ L.length ∧ wr.ownsRow w.heap.size 52 5 v ((L.take k).filter (keptB p)).length (ecells ((L.take k).filter (keptB p))) ∧ Below w.heap.size w wr) (fun _ i _ => L.length - (intOf i).toNat)
  case atStart => exact ⟨0, rfl, Nat.zero_le _, World.ownsRow_nil _ _ _ _, Below.refl _ _⟩
  case round =>
    obtain ⟨k, rfl, hk, hown, hB⟩ := hrel
    have hsz := hB.size
    by_cases hlt : k < L.length
    · have hlt' : (k : Int) < (L.length : Int) := by omega
      have hk0 : (0 : Int) ≤ (k : Int) := by omega
      obtain ⟨x, hx⟩ : ∃ x, L[k]? = some x := ⟨_, List.getElem?_eq_getElem hlt⟩
      obtain rfl := ha (fun e => by rw [e] at hlt; simp at hlt)
      obtain ⟨c0, c1, c2, c3, c4⟩ := (hc k x hx).below hB
      have hlk : ((L.take k).filter (keptB p)).length ≤ L.length := Nat.le_trans (List.length_filter_le _ _) (by rw [List.length_take]; omega)
      have hpi : pathIs p x = (x.path.toList == p.toList) := by unfold pathIs; rw [toList_un, toList_un]
      cases hq : pathIs p x with
      | true =>
        rw [hq] at hpi
        have hpb : (x.path.toList == p.toList) = true := hpi.symm
        have HX : Hid ((L.take (k + 1)).filter (keptB p) = (L.take k).filter (keptB p)) := by unfold Hid; rw [List.take_add_one, hx, List.filter_append]; simp [keptB, hq]
        clear hx hc ha hpi hq
        go_wp2
        go_roundw
        case rel => exact ⟨k + 1, by go_num, by omega, by rw [HX.out]; exact hown, hB⟩
        case measure => simp [intOf]; omega
      | false =>
        rw [hq] at hpi
        have hpb : (x.path.toList == p.toList) = false := hpi.symm
        cases hbl : belowB p x.path with
        | true =>
          have HX : Hid ((L.take (k + 1)).filter (keptB p) = (L.take k).filter (keptB p)) := by unfold Hid; rw [List.take_add_one, hx, List.filter_append]; simp [keptB, hbl]
          have HBL : Hid (belowB p x.path = true) := hbl
          clear hx hc ha hpi hq hbl
          go_wp2_with (go_at_call 34; refine (below_p _ _ _).mono ?_; rintro e w2 ⟨rfl, hw2⟩; replace hw2 := hw2.symm; subst hw2; rw [HBL.out])
          go_roundw
          case rel => exact ⟨k + 1, by go_num, by omega, by rw [HX.out]; exact hown, hB⟩
          case measure => simp [intOf]; omega
        | false =>
          have HX : Hid ((L.take (k + 1)).filter (keptB p) = (L.take k).filter (keptB p) ++ [x]) := by unfold Hid; rw [List.take_add_one, hx, List.filter_append]; simp [keptB, hq, hbl]
          have HBL : Hid (belowB p x.path = false) := hbl
          clear hx hc ha hpi hq hbl
          go_wp2_with (first | (go_at_call 34; refine (below_p _ _ _).mono ?_; rintro e w2 ⟨rfl, hw2⟩; replace hw2 := hw2.symm; subst hw2; rw [HBL.out]) | (at_builtin; refine wpList_append_own _ rfl _ _ 22 rfl w.heap.size 52 i0 (.agg #[.string ⟨#[]⟩, .int .i64 0, .int .i64 0, .string ⟨#[]⟩, .string ⟨#[]⟩]) 5 64 Tryz.underlying22 hi hz0 hz1 hz2 rfl (by decide) _ _ _ rfl (hown.alloc _) ⟨wr.heap.size, 0, none⟩ 1 1 (ecs x) rfl rfl (ent_cells (ent_new wr _ x)) (ent_one x) (by unfold maxLen; omega) (by omega) (by simp; omega) ?_; intro v1 w1 hown1 hgrow1 _))
          have hb1 : Below w.heap.size w w1 := (hB.alloc hsz _).grown hgrow1 (by simp; omega) (fun j hj => (own_ge hown j hj.symm).1)
          have hown2 : w1.ownsRow w.heap.size 52 5 v1 ((L.take (k + 1)).filter (keptB p)).length (ecells ((L.take (k + 1)).filter (keptB p))) := by
            rw [HX.out, ecells_append, List.length_append]; simpa [ecells] using hown1
          clear hown1 hgrow1 hown
          go_roundw
          case rel => exact ⟨k + 1, by go_num, by omega, hown2, hb1⟩
          case measure => simp [intOf]; omega
    · have hge : ¬ (k : Int) < (L.length : Int) := by omega
      have hall : L.take k = L := List.take_of_length_le (by omega)
      rw [hall] at hown
      go_wp2
      go_ret
      exact ⟨_, rfl, hown, hB⟩
end Go.Proofs.YtfglanibbngdmaaGreatDoor

namespace Go.Proofs.YtfglanibbngdmaaGreatDoor
open Go Go.RowKit

def undB (p : ByteArray) (e : Ent) : Bool := belowB p e.path
set_option maxRecDepth 100000 in
set_option maxHeartbeats 2000000 in
theorem under_r (v : Value) (L : List Ent) (p : ByteArray) (w : World) (hv : EntsAt w v L) (hl : L.length ≤ 1073741824) (hps : p.size ≤ 1073741824) : Calls Tryz.prog 53 #[v, .string p] w fun e w' => ∃ u, e = .returned u ∧ w'.ownsRow w.heap.size 52 5 u (L.filter (undB p)).length (ecells (L.filter (undB p))) ∧ Below w.heap.size w w' := by
  obtain ⟨i0, hi, hz0, hz1, hz2⟩ := info_parts info_ent
  obtain ⟨a, cap, b, o, rfl, ha, hcap, hc⟩ := hv
  go_enter Tryz.func53, Tryz.ntmps53
  go_wp2
  go_loopw [5, 6] (fun v i wr => ∃ k : Nat, i = .int .i64 k ∧ k ≤ L.length ∧ wr.ownsRow w.heap.size 52 5 v ((L.take k).filter (undB p)).length (ecells ((L.take k).filter (undB p))) ∧ Below w.heap.size w wr) (fun _ i _ => L.length - (intOf i).toNat)
  case atStart => exact ⟨0, rfl, Nat.zero_le _, World.ownsRow_nil _ _ _ _, Below.refl _ _⟩
  case round =>
    obtain ⟨k, rfl, hk, hown, hB⟩ := hrel
    have hsz := hB.size
    by_cases hlt : k < L.length
    · have hlt' : (k : Int) < (L.length : Int) := by omega
      have hk0 : (0 : Int) ≤ (k : Int) := by omega
      obtain ⟨x, hx⟩ : ∃ x, L[k]? = some x := ⟨_, List.getElem?_eq_getElem hlt⟩
      obtain rfl := ha (fun e => by rw [e] at hlt; simp at hlt)
      obtain ⟨c0, c1, c2, c3, c4⟩ := (hc k x hx).below hB
      have hlk : ((L.take k).filter (undB p)).length ≤ L.length := Nat.le_trans (List.length_filter_le _ _) (by rw [List.length_take]; omega)
      cases hbl : belowB p x.path with
      | false =>
        have HX : Hid ((L.take (k + 1)).filter (undB p) = (L.take k).filter (undB p)) := by unfold Hid; rw [List.take_add_one, hx, List.filter_append]; simp [undB, hbl]
        have HBL : Hid (belowB p x.path = false) := hbl
        clear hx hc ha hbl
        go_wp2_with (go_at_call 83; refine (below_r _ _ _ (by omega)).mono ?_; rintro e w2 ⟨rfl, hw2⟩; replace hw2 := hw2.symm; subst hw2; rw [HBL.out])
        go_roundw
        case rel => exact ⟨k + 1, by go_num, by omega, by rw [HX.out]; exact hown, hB⟩
        case measure => simp [intOf]; omega
      | true =>
        have HX : Hid ((L.take (k + 1)).filter (undB p) = (L.take k).filter (undB p) ++ [x]) := by unfold Hid; rw [List.take_add_one, hx, List.filter_append]; simp [undB, hbl]
        have HBL : Hid (belowB p x.path = true) := hbl
        clear hx hc ha hbl
        go_wp2_with (first | (go_at_call 83; refine (below_r _ _ _ (by omega)).mono ?_; rintro e w2 ⟨rfl, hw2⟩; replace hw2 := hw2.symm; subst hw2; rw [HBL.out]) | (at_builtin; refine wpList_append_own _ rfl _ _ 22 rfl w.heap.size 52 i0 (.agg #[.string ⟨#[]⟩, .int .i64 0, .int .i64 0, .string ⟨#[]⟩, .string ⟨#[]⟩]) 5 64 Tryz.underlying22 hi hz0 hz1 hz2 rfl (by decide) _ _ _ rfl (hown.alloc _) ⟨wr.heap.size, 0, none⟩ 1 1 (ecs x) rfl rfl (ent_cells (ent_new wr _ x)) (ent_one x) (by unfold maxLen; omega) (by omega) (by simp; omega) ?_; intro v1 w1 hown1 hgrow1 _))
        have hb1 : Below w.heap.size w w1 := (hB.alloc hsz _).grown hgrow1 (by simp; omega) (fun j hj => (own_ge hown j hj.symm).1)
        have hown2 : w1.ownsRow w.heap.size 52 5 v1 ((L.take (k + 1)).filter (undB p)).length (ecells ((L.take (k + 1)).filter (undB p))) := by
          rw [HX.out, ecells_append, List.length_append]; simpa [ecells] using hown1
        clear hown1 hgrow1 hown
        go_roundw
        case rel => exact ⟨k + 1, by go_num, by omega, hown2, hb1⟩
        case measure => simp [intOf]; omega
    · have hge : ¬ (k : Int) < (L.length : Int) := by omega
      have hall : L.take k = L := List.take_of_length_le (by omega)
      rw [hall] at hown
      go_wp2
      go_ret
      exact ⟨_, rfl, hown, hB⟩
/-- What lies below, by the words. -/
def subB (p : ByteArray) (L : List Ent) : List Ent := (L.filter (undB p)).map (cutE (aheadN p))
/-- What Sub answers: the entries, the error, its place. -/
def subAns (es : List Ent) (p : ByteArray) : List Ent × Int × Int :=
  if (checkGo [] es).1 ≠ 0 then ([], (checkGo [] es).1, (checkGo [] es).2)
  else if p.size = 0 then (es, 0, -1)
  else match es.find? (pathIs p) with
    | none => ([], 10, -1)
    | some d => if d.kind ≠ 1 then ([], 13, -1) else (subB p es, 0, -1)
/-- A row of entries of which the first have their paths cut. -/
def CutAt (n : Nat) (U : List Ent) (k : Nat) (cur : Array Value) : Prop := ∀ i e, U[i]? = some e → ∀ j v, (ecs (if i < k then cutE n e else e))[j]? = some v → cur[i * 5 + j]? = some v
theorem cut_step {n k : Nat} {U : List Ent} {cur : Array Value} {x : Ent} (h : CutAt n U k cur) (hx : U[k]? = some x) : CutAt n U (k + 1) (cur.setIfInBounds (k * 5) (.string (x.path.extract n x.path.size))) := by
  intro i e he j v hv
  have hj5 : j < 5 := (List.getElem?_eq_some_iff.1 hv).1
  by_cases hik : i = k
  · subst hik
    rw [hx] at he
    cases he
    rw [if_pos (by omega)] at hv
    have h1 := h i x hx
    rw [if_neg (by omega)] at h1
    rcases Nat.eq_zero_or_pos j with h0 | h0
    · subst h0
      have h2 := h1 0 _ rfl
      have hlt : i * 5 < cur.size := by have := (Array.getElem?_eq_some_iff.1 h2).1; omega
      have hv2 : v = .string (x.path.extract n x.path.size) := by simpa [ecs, cutE] using hv.symm
      rw [hv2]
      simp [hlt]
    · rw [Array.getElem?_setIfInBounds_ne (by omega)]
      refine h1 j v ?_
      rcases j with _ | j
      · omega
      · simpa [ecs, cutE] using hv
  · rw [Array.getElem?_setIfInBounds_ne (by omega)]
    refine h i e he j v ?_
    by_cases hl : i < k
    · rw [if_pos (by omega)] at hv ⊢; exact hv
    · rw [if_neg (by omega)] at hv ⊢; exact hv
theorem cut_cell {W : World} {g n k : Nat} {t : TypeId} {U : List Ent} {cur : Array Value} (hL : Lies W g t cur) (h : CutAt n U k cur) {i : Nat} {e : Ent} (he : U[i]? = some e) : EntC W g (i * 5) (if i < k then cutE n e else e) := by
  have hc : ∀ j v, (ecs (if i < k then cutE n e else e))[j]? = some v → W.cell? ⟨g, i * 5 + j, none⟩ = some v := fun j v hv => hL.cell (h i e he j v hv)
  exact ⟨hc 0 _ rfl, hc 1 _ rfl, hc 2 _ rfl, hc 3 _ rfl, hc 4 _ rfl⟩
theorem cut_start {W : World} {base n : Nat} {g cap : Nat} {U : List Ent} (h : W.ownsRow base 52 5 (.slice (some ⟨g, 0, none⟩) U.length cap) U.length (ecells U)) : ∃ cur, Lies W g 52 cur ∧ CutAt n U 0 cur ∧ base ≤ g ∧ U.length ≤ cap := by
  rcases h.2 with ⟨hv, _⟩ | ⟨g', cap', cur, hv, hg, hgg, hcap, _, _, hx⟩
  · cases hv
  · cases hv
    refine ⟨cur, hgg, fun i e he j v hv => ?_, hg, hcap⟩
    rw [if_neg (by omega)] at hv
    have h1 := ecells_get U i e he j v hv
    rw [← hx, List.getElem?_take] at h1
    split at h1
    · rw [← Array.getElem?_toList]; exact h1
    · cases h1
theorem ents_cut {W : World} {g n cap : Nat} {U : List Ent} {cur : Array Value} (hL : Lies W g 52 cur) (h : CutAt n U U.length cur) (hcap : U.length ≤ cap) : EntsAt W (.slice (some ⟨g, 0, none⟩) U.length cap) (U.map (cutE n)) := by
  refine ⟨some ⟨g, 0, none⟩, cap, g, 0, by rw [List.length_map], fun _ => rfl, by rw [List.length_map]; exact hcap, fun i e he => ?_⟩
  rw [List.getElem?_map] at he
  cases hu : U[i]? with
  | none => rw [hu] at he; cases he
  | some y =>
    rw [hu] at he
    cases he
    have h1 := cut_cell hL h hu
    rw [if_pos (List.getElem?_eq_some_iff.1 hu).1] at h1
    rw [Nat.zero_add]; exact h1
set_option maxRecDepth 100000 in
set_option maxHeartbeats 4000000 in
theorem sub_d (v : Value) (es : List Ent) (p : ByteArray) (w : World) (hv : EntsAt w v es) (hs : Small es) (hps : p.size ≤ 1048576) :
    Calls Tryz.prog 15 #[v, .string p] w fun e w' => ∃ u, e = .returned (.tuple #[u, .int .i64 (subAns es p).2.1, .int .i64 (subAns es p).2.2]) ∧ EntsAt w' u (subAns es p).1 ∧ Below w.heap.size w w' := by
  have hsl := hs.1
  have hC := check_d v es w hv hs
  by_cases hck : (checkGo [] es).1 = 0
  · have HV : Hid (∀ W, Below w.heap.size w W → EntsAt W v es) := fun W hb => hv.below hb
    rw [hck] at hC
    by_cases h0 : p.size = 0
    · have hpe : p.toList.isEmpty = true := (isEmpty_iff p).2 h0
      have HA : Hid (subAns es p = (es, 0, -1)) := by unfold Hid subAns; rw [if_neg (by simpa using hck), if_pos h0]
      clear hck h0
      go_enter Tryz.func15, Tryz.ntmps15
      go_wp2_with (first | (go_at_call 9; refine hC.mono ?_; rintro e w1 ⟨rfl, hb1⟩) | (go_at_call 50; refine (copy_p v es _ (HV.out _ hb1) (by omega)).mono ?_; rintro e w2 ⟨u, rfl, hu, hb2⟩))
      go_ret3
      exact ⟨u, by rw [HA.out]; rfl, by rw [HA.out]; exact ents_of_owns hu, below_join hb1 hb2⟩
    · have hpe : p.toList.isEmpty = false := (isEmpty_false p).2 (by omega)
      rcases find_at (L := es) (p := p) with ⟨hf, hfn⟩ | ⟨k, d, hk, hf, hfn⟩
      · have HA : Hid (subAns es p = ([], 10, -1)) := by unfold Hid subAns; rw [if_neg (by simpa using hck), if_neg h0, hf]
        have HF : Hid (∀ W, EntsAt W v es → Calls Tryz.prog 51 #[v, .string p] W fun e w' => e = .returned (.int .i64 (-1)) ∧ w' = W) := fun W h => by rw [← hfn]; exact find_r v es p W h (by omega)
        clear hck h0 hf hfn
        go_enter Tryz.func15, Tryz.ntmps15
        go_wp2_with (first | (go_at_call 9; refine hC.mono ?_; rintro e w1 ⟨rfl, hb1⟩) | (go_at_call 51; refine (HF.out _ (HV.out _ hb1)).mono ?_; rintro e w2 ⟨rfl, hw2⟩; replace hw2 := hw2.symm; subst hw2))
        go_ret3
        exact ⟨_, by rw [HA.out]; rfl, by rw [HA.out]; exact (free_nil _ (fun _ => False)).ents, hb1⟩
      · have HF : Hid (∀ W, EntsAt W v es → Calls Tryz.prog 51 #[v, .string p] W fun e w' => e = .returned (.int .i64 (k : Nat)) ∧ w' = W) := fun W h => by rw [← hfn]; exact find_r v es p W h (by omega)
        have hklt := (List.getElem?_eq_some_iff.1 hk).1
        have hkI : (k : Int) < (es.length : Int) := by omega
        have hk0 : (0 : Int) ≤ (k : Int) := by omega
        obtain ⟨a, cap, b, o, rfl, ha, hcap, hc⟩ := hv
        obtain rfl := ha (fun e => by rw [e] at hklt; simp at hklt)
        have HD : Hid (∀ W, Below w.heap.size w W → EntC W b (o + k * 5) d) := fun W hb => (hc k d hk).below hb
        by_cases hdk : d.kind = 1
        · have hkb : (d.kind == 1) = true := by simpa using hdk
          have HA : Hid (subAns es p = (subB p es, 0, -1)) := by unfold Hid subAns; rw [if_neg (by simpa using hck), if_neg h0, hf]; simp [hdk]
          have HN : Hid (aheadN p = p.size + 1) := by unfold Hid; rw [ahead_eq, if_neg h0]
          have HLE : Hid (∀ e ∈ es.filter (undB p), p.size + 1 ≤ e.path.size ∧ e.path.size ≤ 1048576) := fun e he => by
            obtain ⟨h2, h3⟩ := List.mem_filter.1 he
            have h1 := congrArg List.length (cut_path h0 h3)
            rw [un_length, List.length_append, List.length_cons, un_length] at h1
            exact ⟨by omega, (hs.2 e h2).1⟩
          have hwr : wrap64 ((p.size : Int) + 1) = ((p.size + 1 : Nat) : Int) := by unfold wrap64; omega
          clear hck h0 hf hfn hc hk hdk
          go_enter Tryz.func15, Tryz.ntmps15
          go_wp2_with (first | (go_at_call 9; refine hC.mono ?_; rintro e w1 ⟨rfl, hb1⟩; obtain ⟨c0, c1, c2, c3, c4⟩ := HD.out _ hb1) | (go_at_call 51; refine (HF.out _ (HV.out _ hb1)).mono ?_; rintro e w2 ⟨rfl, hw2⟩; replace hw2 := hw2.symm; subst hw2) | (go_at_call 52; refine (isdir_r d _).mono ?_; rintro e w3 ⟨rfl, hb3'⟩; rw [hkb]; have hb3 := below_join hb1 hb3') | (go_at_call 53; refine (under_r _ es p _ (HV.out _ hb3) (by omega) (by omega)).mono ?_; rintro e w4 ⟨u, rfl, hu, hb4'⟩; have hb4 := below_join hb3 hb4'))
          have hul : (es.filter (undB p)).length ≤ 1048576 := Nat.le_trans (List.length_filter_le _ _) hsl
          rcases (show (u = .slice none 0 0 ∧ es.filter (undB p) = []) ∨ ∃ g cap2, u = .slice (some ⟨g, 0, none⟩) (es.filter (undB p)).length cap2 from by
            rcases hu.2 with ⟨h1, h2⟩ | ⟨g, cap2, cur, h1, _⟩
            · exact .inl ⟨h1, List.eq_nil_of_length_eq_zero h2⟩
            · exact .inr ⟨g, cap2, h1⟩) with ⟨rfl, hnil⟩ | ⟨g, cap2, rfl⟩
          · have HNIL : Hid (subB p es = []) := by unfold Hid subB; rw [hnil]; rfl
            clear hu hnil
            go_loopw [11] (fun i wr => i = .int .i64 0 ∧ wr = w4) (fun _ _ => 0)
            case atStart => exact ⟨rfl, rfl⟩
            case round =>
              obtain ⟨rfl, rfl⟩ := hrel
              go_wp2
              go_ret3
              exact ⟨_, by rw [HA.out]; rfl, by rw [HA.out, HNIL.out]; exact (free_nil _ (fun _ => False)).ents, hb4⟩
          · obtain ⟨cur0, hL0, hC0, hg0, hcap2⟩ := cut_start (n := aheadN p) hu
            have hg : w.heap.size ≤ g := Nat.le_trans hb3.size hg0
            clear hu
            go_loopw [11] (fun i wr => ∃ (k : Nat) (cur : Array Value), i = .int .i64 k ∧ k ≤ (es.filter (undB p)).length ∧ Lies wr g 52 cur ∧ CutAt (aheadN p) (es.filter (undB p)) k cur ∧ Below w.heap.size w wr) (fun i _ => (es.filter (undB p)).length - (intOf i).toNat)
            case atStart => exact ⟨0, cur0, rfl, Nat.zero_le _, hL0, hC0, hb4⟩
            case round =>
              obtain ⟨q, cur, rfl, hq, hL, hCu, hB⟩ := hrel
              by_cases hlt : q < (es.filter (undB p)).length
              · have hlt' : (q : Int) < ((es.filter (undB p)).length : Int) := by omega
                have hq0 : (0 : Int) ≤ (q : Int) := by omega
                obtain ⟨x, hx⟩ : ∃ x, (es.filter (undB p))[q]? = some x := ⟨_, List.getElem?_eq_getElem hlt⟩
                have hce := cut_cell hL hCu hx
                rw [if_neg (by omega)] at hce
                obtain ⟨e0, e1, e2, e3, e4⟩ := hce
                obtain ⟨x1, x2⟩ := HLE.out x (List.mem_of_getElem? hx)
                have hfz := hL.frozen (q * 5)
                have HCS : Hid (CutAt (aheadN p) (es.filter (undB p)) (q + 1) (cur.setIfInBounds (q * 5) (.string (x.path.extract (aheadN p) x.path.size)))) := cut_step hCu hx
                have HLS : Hid (Lies (wr.setCell ⟨g, q * 5, none⟩ (.string (x.path.extract (p.size + 1) x.path.size))) g 52 (cur.setIfInBounds (q * 5) (.string (x.path.extract (p.size + 1) x.path.size)))) := hL.set _
                have HBS : Hid (Below w.heap.size w (wr.setCell ⟨g, q * 5, none⟩ (.string (x.path.extract (p.size + 1) x.path.size)))) := hB.trans ⟨rfl, rfl, rfl, by simp [World.setCell], fun k hk => Below.heap_setCell _ _ _ _ (by show k ≠ g; omega)⟩
                rw [HN.out] at HCS
                clear hx hCu hL
                go_wp2
                go_roundw
                case rel => exact ⟨q + 1, _, by go_num, by omega, HLS.out, by rw [HN.out]; exact HCS.out, HBS.out⟩
                case measure => simp [intOf]; omega
              · have hge : ¬ (q : Int) < ((es.filter (undB p)).length : Int) := by omega
                obtain rfl : q = (es.filter (undB p)).length := by omega
                have HEN : Hid (EntsAt wr (.slice (some ⟨g, 0, none⟩) (es.filter (undB p)).length cap2) (subB p es)) := by unfold Hid subB; exact ents_cut hL hCu hcap2
                clear hL hCu
                go_wp2
                go_ret3
                exact ⟨_, by rw [HA.out]; rfl, by rw [HA.out]; exact HEN.out, hB⟩
        · have hkb : (d.kind == 1) = false := by simpa using hdk
          have HA : Hid (subAns es p = ([], 13, -1)) := by unfold Hid subAns; rw [if_neg (by simpa using hck), if_neg h0, hf]; simp [hdk]
          clear hck h0 hf hfn hc hk hdk
          go_enter Tryz.func15, Tryz.ntmps15
          go_wp2_with (first | (go_at_call 9; refine hC.mono ?_; rintro e w1 ⟨rfl, hb1⟩; obtain ⟨c0, c1, c2, c3, c4⟩ := HD.out _ hb1) | (go_at_call 51; refine (HF.out _ (HV.out _ hb1)).mono ?_; rintro e w2 ⟨rfl, hw2⟩; replace hw2 := hw2.symm; subst hw2) | (go_at_call 52; refine (isdir_r d _).mono ?_; rintro e w3 ⟨rfl, hb3⟩; rw [hkb]))
          go_ret3
          exact ⟨_, by rw [HA.out]; rfl, by rw [HA.out]; exact (free_nil _ (fun _ => False)).ents, below_join hb1 hb3⟩
  · have HA : Hid (subAns es p = ([], (checkGo [] es).1, ((checkGo [] es).2 : Int))) := by unfold Hid subAns; rw [if_pos hck]
    have hnb : ((checkGo [] es).1 == 0) = false := by simpa using hck
    clear hck
    go_enter Tryz.func15, Tryz.ntmps15
    go_wp2_with (go_at_call 9; refine hC.mono ?_; rintro e w1 ⟨rfl, hb1⟩)
    go_ret3
    exact ⟨_, by rw [HA.out]; rfl, by rw [HA.out]; exact (free_nil _ (fun _ => False)).ents, hb1⟩
end Go.Proofs.YtfglanibbngdmaaGreatDoor

namespace Go.Proofs.YtfglanibbngdmaaGreatDoor
open Go Go.RowKit

theorem kept_at {w : World} {g k : Nat} {es : List Ent} {x : Ent} (hG : ∀ j x, (es ++ marksE 16)[j]? = some x → EntC w g (j * 5) x) (hx : (es ++ marksE 16)[k]? = some x) : EntC w g (k * 5) x := hG k x hx
theorem mark_at {es : List Ent} {k : Nat} {x : Ent} (hx : (es ++ marksE 16)[k]? = some x) (hk : ¬ k < es.length) (h2 : k < es.length + 16) : x = markE 90 ((k : Int) - (es.length : Int)) := by
  rw [List.getElem?_append_right (by omega), marksE_get _ _ (by omega)] at hx
  have e9 : ((k - es.length : Nat) : Int) = (k : Int) - (es.length : Int) := by omega
  rw [← Option.some.inj hx, e9]
set_option maxHeartbeats 2000000 in
set_option maxRecDepth 100000 in
theorem keptfullE_p (es : List Ent) (g cap : Nat) (v : Value) (w : World) (hv : EntsAt w v es) (hl : es.length ≤ 1073741824) (hG : ∀ j x, (es ++ marksE 16)[j]? = some x → EntC w g (j * 5) x) : Calls Tryz.prog 49 #[.slice (some ⟨g, 0, none⟩) (es.length + 16) cap, v] w fun e w' => e = .returned (.bool true) ∧ Below w.heap.size w w' := by
  obtain ⟨a, cap2, b, o, rfl, ha, hcap, hc⟩ := hv
  have HC : Hid (∀ W i e, es[i]? = some e → Below w.heap.size w W → EntC W b (o + i * 5) e) := fun W i e he bb => (hc i e he).below bb
  have HGC : Hid (∀ W j x, (es ++ marksE 16)[j]? = some x → Below w.heap.size w W → EntC W g (j * 5) x) := fun W j x hx bb => (hG j x hx).below bb
  have hinf : (Tryz.prog.info? 52).map (·.size) = some 5 := by kernel_rfl
  clear hc hG
  go_enter Tryz.func49, Tryz.ntmps49
  go_wp2_with fail
  go_loopw [5, 6] (fun n _ wr => ∃ k : Nat, k ≤ es.length + 16 ∧ n = .int .i64 k ∧ Below w.heap.size w wr) (fun n _ _ => es.length + 16 - (intOf n).toNat)
  case atStart => exact ⟨0, Nat.zero_le _, rfl, Below.refl _ _⟩
  case round =>
    obtain ⟨k, hk, rfl, hB⟩ := hrel
    by_cases hlt : k < es.length + 16
    · have hlt' : (k : Int) < (es.length : Int) + 16 := by omega
      have hk0 : (0 : Int) ≤ (k : Int) := by omega
      obtain ⟨x, hx⟩ : ∃ x, (es ++ marksE 16)[k]? = some x := ⟨_, List.getElem?_eq_getElem (by rw [List.length_append, marksE_length]; exact hlt)⟩
      have HX : Hid _ := hx
      have hM := fun W => markE_p 90 ((k : Int) - (es.length : Int)) (by decide) (by decide) W
      have HMA : Hid (¬ k < es.length → markE 90 ((k : Int) - (es.length : Int)) = x) := fun h => (mark_at hx h hlt).symm
      have heq := fun W => eq_self x W
      by_cases hin : k < es.length
      · have hin' : (k : Int) < (es.length : Int) := by omega
        have hx2 : es[k]? = some x := by rwa [List.getElem?_append_left hin] at hx
        obtain rfl := ha (fun e => by rw [e] at hin; simp at hin)
        clear HMA hx
        generalize markE 90 ((k : Int) - (es.length : Int)) = y at *
        go_upto_region 7 with (go_at_call 56; refine (hM _).mono ?_; rintro e w1 ⟨rfl, b1⟩)
        have B1 := hB.trans (b1.mono hB.size)
        have L2 := Lies.new w1 52 #[.string y.path, .int .i64 y.kind, .int .i64 y.mode, .string y.data, .string y.link]
        have B2 : Below w.heap.size w (w1.alloc (.cells #[.string y.path, .int .i64 y.kind, .int .i64 y.mode, .string y.data, .string y.link] 52)) := B1.alloc B1.size _
        have hge : w.heap.size ≤ w1.heap.size := B1.size
        clear b1 hM B1
        generalize (w1.alloc (.cells #[.string y.path, .int .i64 y.kind, .int .i64 y.mode, .string y.data, .string y.link] 52)) = W2 at *
        generalize w1.heap.size = ge at *
        obtain ⟨c0, c1, c2, c3, c4⟩ := HC.out W2 k x hx2 B2
        have hone : (#[.string x.path, .int .i64 x.kind, .int .i64 x.mode, .string x.data, .string x.link] : Array Value).all (·.oneCell') = true := by simp [Value.oneCell']
        clear hx2
        go_upto_region 9 with (first | (refine wpList_store_row rfl 52 (.tmp 6) (.tmp 31) rfl ge #[.string x.path, .int .i64 x.kind, .int .i64 x.mode, .string x.data, .string x.link] rfl rfl 52 #[.string y.path, .int .i64 y.kind, .int .i64 y.mode, .string y.data, .string y.link] L2 hinf rfl hone ?_))
        have L3 : Lies (W2.setRow ge #[.string x.path, .int .i64 x.kind, .int .i64 x.mode, .string x.data, .string x.link]) ge 52 #[.string x.path, .int .i64 x.kind, .int .i64 x.mode, .string x.data, .string x.link] := setRow_heap W2 ge _ _ _ (0, 0) L2
        have B3 : Below w.heap.size w (W2.setRow ge #[.string x.path, .int .i64 x.kind, .int .i64 x.mode, .string x.data, .string x.link]) := below_setRow B2 hge _
        clear c0 c1 c2 c3 c4 L2
        generalize (W2.setRow ge #[.string x.path, .int .i64 x.kind, .int .i64 x.mode, .string x.data, .string x.link]) = W3 at *
        obtain ⟨d0, d1, d2, d3, d4⟩ := HGC.out W3 k x HX.out B3
        have f0 := L3.cell (i := 0) rfl
        have f1 := L3.cell (i := 1) rfl
        have f2 := L3.cell (i := 2) rfl
        have f3 := L3.cell (i := 3) rfl
        have f4 := L3.cell (i := 4) rfl
        clear L3
        go_wp2
        go_quiet (fail)
        go_wp2
        go_roundw
        case rel => exact ⟨k + 1, by omega, by go_num, B3.trans ⟨rfl, rfl, rfl, Nat.le_refl _, fun _ _ => rfl⟩⟩
        case measure => simp [intOf]; omega
      · have hin' : ¬ (k : Int) < (es.length : Int) := by omega
        have hy := HMA.out hin
        rw [hy] at hM
        clear HMA hx hy
        go_upto_region 7 with (go_at_call 56; refine (hM _).mono ?_; rintro e w1 ⟨rfl, b1⟩)
        have B1 := hB.trans (b1.mono hB.size)
        have L3 := Lies.new w1 52 #[.string x.path, .int .i64 x.kind, .int .i64 x.mode, .string x.data, .string x.link]
        have B3 : Below w.heap.size w (w1.alloc (.cells #[.string x.path, .int .i64 x.kind, .int .i64 x.mode, .string x.data, .string x.link] 52)) := B1.alloc B1.size _
        clear b1 hM B1
        generalize (w1.alloc (.cells #[.string x.path, .int .i64 x.kind, .int .i64 x.mode, .string x.data, .string x.link] 52)) = W3 at *
        generalize w1.heap.size = ge at *
        obtain ⟨d0, d1, d2, d3, d4⟩ := HGC.out W3 k x HX.out B3
        have f0 := L3.cell (i := 0) rfl
        have f1 := L3.cell (i := 1) rfl
        have f2 := L3.cell (i := 2) rfl
        have f3 := L3.cell (i := 3) rfl
        have f4 := L3.cell (i := 4) rfl
        clear L3
        go_wp2
        go_quiet (fail)
        go_wp2
        go_roundw
        case rel => exact ⟨k + 1, by omega, by go_num, B3.trans ⟨rfl, rfl, rfl, Nat.le_refl _, fun _ _ => rfl⟩⟩
        case measure => simp [intOf]; omega
    · have hge : ¬ (k : Int) < (es.length : Int) + 16 := by omega
      go_wp2
      go_ret
      exact ⟨rfl, hB⟩
set_option maxHeartbeats 2000000 in
set_option maxRecDepth 100000 in
theorem keptE_p (es : List Ent) (u v : Value) (w : World) (hu : LentE w u es) (hv : EntsAt w v es) (hl : es.length ≤ 1073741824) : Calls Tryz.prog 13 #[u, v] w fun e w' => e = .returned (.bool true) ∧ Below w.heap.size w w' := by
  obtain ⟨g, cap, rfl, hcap, _, hG⟩ := hu
  have hK := keptfullE_p es g cap v w hv hl hG
  obtain ⟨a, cap2, b, o, rfl, ha, _, hc⟩ := hv
  clear hc hG ha
  have d1 : (0 : Int) ≤ (es.length : Int) + 16 := by omega
  have d2 : (es.length : Int) + 16 ≤ (cap : Int) := by omega
  go_enter Tryz.func13, Tryz.ntmps13
  go_wp2_with fail
  refine hK.mono ?_
  rintro e w1 ⟨rfl, b1⟩
  go_wp2
  go_ret
  exact ⟨rfl, b1⟩
end Go.Proofs.YtfglanibbngdmaaGreatDoor

namespace Go.Proofs.YtfglanibbngdmaaGreatDoor
open Go Go.RowKit

theorem checkN_range (p : ByteArray) : 0 ≤ checkN p ∧ checkN p ≤ 32 := by
  unfold checkN
  repeat' split
  all_goals first | omega | (rcases splitP_cases (whiteoutB p) with h | h <;> rw [h] <;> omega)
theorem one_range (L : List Ent) (e : Ent) : 0 ≤ oneN L e ∧ oneN L e ≤ 32 := by
  have h1 : 0 ≤ wrongN e ∧ wrongN e ≤ 32 := by
    have := checkN_range e.path
    unfold wrongN
    repeat' split
    all_goals omega
  have h2 : 0 ≤ ooN (lastP L) e.path ∧ ooN (lastP L) e.path ≤ 32 := by
    unfold ooN
    repeat' split
    all_goals omega
  have h3 : 0 ≤ upN L e.path ∧ upN L e.path ≤ 32 := by
    unfold upN
    repeat' split
    all_goals omega
  have h4 : 0 ≤ manyN L e ∧ manyN L e ≤ 32 := by
    unfold manyN
    repeat' split
    all_goals omega
  unfold oneN putN
  repeat' split
  all_goals omega
theorem go_range : ∀ (r L : List Ent), 0 ≤ (checkGo L r).1 ∧ (checkGo L r).1 ≤ 32 ∧ ((checkGo L r).1 = 0 → (checkGo L r).2 = 0)
  | [], L => by simp [checkGo]
  | e :: r, L => by
    unfold checkGo
    split
    · rename_i h
      have := one_range L e
      exact ⟨this.1, this.2, fun h0 => absurd h0 h⟩
    · exact go_range r _
/-- Both sides tell the same. -/
theorem at_both (es : List Ent) (w : World) (hg : ErrType w) : Calls Tryz.prog 11 #[chkV es, .int .i64 (checkGo [] es).1, .int .i64 0, .int .i64 ((checkGo [] es).2 : Nat)] w fun e w' => e = .returned (.bool true) ∧ Below w.heap.size w w' := by
  obtain ⟨h1, h2, h3⟩ := go_range es []
  by_cases h0 : (checkGo [] es).1 = 0
  · rw [show chkV es = .nilIface from if_pos h0, h0, h3 h0]
    refine (at_nil 0 0 w).mono ?_
    rintro e w' ⟨rfl, rfl⟩
    exact ⟨rfl, Below.refl _ _⟩
  · rw [show chkV es = fltA (checkGo [] es).1 (checkGo [] es).2 from if_neg h0]
    exact kitAt_p _ 0 _ (by omega) (by omega) w hg
theorem small_len {es : List Ent} (h : Small es) : es.length ≤ 1048576 := h.1
set_option maxRecDepth 100000 in
set_option maxHeartbeats 4000000 in
theorem treechecks_law (v : Value) (es : List Ent) (w : World) (hg : ErrType w) (hv : EntsAt w v es) (hs : Small es) : Calls Tryz.prog 3 #[v] w fun e w' => e = .returned (.bool true) ∧ Below w.heap.size w w' := by
  have hsl := hs.1
  go_enter Tryz.func3, Tryz.ntmps3
  go_wp2_with fail
  refine (check_d v es w hv hs).mono ?_
  rintro e w1 ⟨rfl, hb1⟩
  go_wp2_with fail
  refine (lentE_p es v w1 (hv.below hb1) (by omega)).mono ?_
  rintro e w2 ⟨u, rfl, hL2, hrow2, hb2⟩
  have HB2 := below_join hb1 hb2
  have hL2e := hL2.ents
  go_wp2_with fail
  refine (check_t u es w2 (hg.below HB2) hL2e (by omega) (fun e he => by have := (hs.2 e he).1; omega)).mono ?_
  rintro e w3 ⟨rfl, hb3⟩
  have HB3 := below_join HB2 hb3
  go_wp2_with fail
  refine (at_both es w3 (hg.below HB3)).mono ?_
  rintro e w4 ⟨rfl, hb4⟩
  have HB4 := below_join HB3 hb4
  go_wp2_with fail
  refine (keptE_p es u v w4 ((hL2.below hb3).below hb4) (hv.below HB4) (by omega)).mono ?_
  rintro e w5 ⟨rfl, hb5⟩
  have HB5 := below_join HB4 hb5
  go_wp2_with fail
  refine (works_t w5 (hg.below HB5)).mono ?_
  rintro e w6 ⟨rfl, hb6⟩
  go_wp2
  go_ret
  exact ⟨rfl, below_join HB5 hb6⟩
end Go.Proofs.YtfglanibbngdmaaGreatDoor

namespace Go.Proofs.YtfglanibbngdmaaGreatDoor
open Go Go.RowKit

theorem row_cell {W : World} {base e size n : Nat} {g cap : Nat} {xs : List Value} (h : W.ownsRow base e size (.slice (some ⟨g, 0, none⟩) n cap) n xs) (j : Nat) (u : Value) (hu : xs[j]? = some u) : W.cell? ⟨g, j, none⟩ = some u := by
  rcases h.2 with ⟨h0, _⟩ | ⟨g2, cap2, cur, h0, _, hgb, _, _, _, htk⟩
  · cases h0
  · cases h0
    have : cur[j]? = some u := by
      rw [← htk] at hu
      rw [List.getElem?_take] at hu
      split at hu
      · simpa using hu
      · cases hu
    simp [World.cell?, hgb, this]
theorem own_below {W W2 : World} {base e size n : Nat} {v : Value} {xs : List Value} (h : W.ownsRow base e size v n xs) (hb : Below W.heap.size W W2) : W2.ownsRow base e size v n xs := by
  refine ⟨h.1, ?_⟩
  rcases h.2 with hn | ⟨g, cap, cur, rfl, hg, hgg, rest⟩
  · exact .inl hn
  · exact .inr ⟨g, cap, cur, rfl, hg, (hb.block g (Array.getElem?_eq_some_iff.1 hgg).1).trans hgg, rest⟩

/-- An append that grows has a row of its own and leaves all else; one with room stays in its row. -/
theorem wpList_append_keepG {P : Program} (w : World) {ops : Array Oper} {rest : List Oper} {o : Oper} {a : Act} {Q : Exit → Act → World → Prop} (hgd : o.guard = none) (s x : Operand) (t : TypeId)
    (ho : o.op = .call { callee := .builtin .append, args := #[s, x], argTypes := #[t, t] })
    (base : Nat) (e : TypeId) (i : TypeInfo) (z : Value) (sz bytes : Nat) (ht : P.underlying t = some (.slice e)) (hi : P.info? e = some i) (hz : i.zero = some z)
    (hsize : i.size = sz) (hby : i.bytes = bytes) (hzs : z.cells.size = sz) (hsz0 : 0 < sz)
    (v : Value) (n : Nat) (xs : List Value) (hs : a.eval s = v) (hown : w.ownsRow base e sz v n xs)
    (ad : Addr) (c : Nat) (ys : List Value) (hyl : ys.length = 1 * sz) (hx : a.eval x = .slice (some ad) 1 c) (hnews : ∀ j u, ys[j]? = some u → w.cell? (ad.add j) = some u) (h1' : ∀ u ∈ ys, u.oneCell' = true)
    (h63 : n + 1 ≤ maxLen) (hbytes : (n + 1) * bytes ≤ 140737488355328) (hbase : base ≤ w.heap.size)
    (h : ∀ v' w', w'.ownsRow base e sz v' (n + 1) (xs ++ ys) → (v'.ownBlock = v.ownBlock ∧ w.grownBy w' v.ownBlock ∨ (∃ b, w.heap.size ≤ b ∧ v'.ownBlock = some b) ∧ w.grownBy w' none) → wpList P ops Q rest (a.put o.dst v') w') : wpList P ops Q (o :: rest) a w := by
  have fresh : ∀ v' w', w'.ownsRow w.heap.size e sz v' (n + 1) (xs ++ ys) → w.grownBy w' none → wpList P ops Q rest (a.put o.dst v') w' := by
    intro v' w' ho hg
    rcases ho.2 with ⟨_, h0⟩ | ⟨g, cap, cur, rfl, hb, rest⟩
    · omega
    · exact h _ _ ⟨ho.1, .inr ⟨g, cap, cur, rfl, Nat.le_trans hbase hb, rest⟩⟩ (.inr ⟨⟨g, hb, rfl⟩, hg⟩)
  have hown0 := hown
  rcases hown.2 with ⟨rfl, rfl⟩ | ⟨g, cap, cur, rfl, hb, hg, hnc, hcm, hcs, htake⟩
  · obtain rfl : xs = [] := List.eq_nil_of_length_eq_zero (by simpa using hown.1)
    exact wpList_append_grows w hgd s x t ho e i z sz bytes ht hi hz hsize hby hzs hsz0 none 0 0 [] hs (fun _ => ⟨rfl, rfl⟩) (by simp) (fun b hb => nomatch hb) ad 1 c ys hx hyl hnews h1' (by omega) h63 hbytes fresh
  · by_cases hroom : n + 1 ≤ cap
    · exact wpList_append_own_spare w hgd s x t ho base e i sz ht hi hsize g n cap xs hs hown0 ad 1 c ys hx hyl hnews h1' hroom (fun w' h2 h3 => h _ _ h2 (.inl ⟨rfl, h3⟩))
    · exact wpList_append_grows w hgd s x t ho e i z sz bytes ht hi hz hsize hby hzs hsz0 (some ⟨g, 0, none⟩) n cap xs hs (fun h => nomatch h) hown0.1 (fun b hb => by cases hb; exact hown0.cells rfl) ad 1 c ys hx hyl hnews h1' (by omega) h63 hbytes fresh

theorem own_eq {W W2 : World} {base e size n : Nat} {v : Value} {xs : List Value} (h : W.ownsRow base e size v n xs) (hb : ∀ b, v.ownBlock = some b → W2.heap[b]? = W.heap[b]?) : W2.ownsRow base e size v n xs := by
  refine ⟨h.1, ?_⟩
  rcases h.2 with hn | ⟨g, cap, cur, rfl, hg, hgg, rest⟩
  · exact .inl hn
  · exact .inr ⟨g, cap, cur, rfl, hg, (hb g rfl).trans hgg, rest⟩
theorem own_setG {W : World} {base e sz n g cap i : Nat} {xs : List Value} (h : W.ownsRow base e sz (.slice (some ⟨g, 0, none⟩) n cap) n xs) (x : Value) : (W.setCell ⟨g, i, none⟩ x).ownsRow base e sz (.slice (some ⟨g, 0, none⟩) n cap) n (xs.set i x) := by
  refine ⟨by rw [List.length_set]; exact h.1, ?_⟩
  rcases h.2 with ⟨hv, _⟩ | ⟨g', cap', cur, hv, hb, hg, h1, h2, h3, h4⟩
  · cases hv
  · cases hv
    refine .inr ⟨g, cap, cur.setIfInBounds i x, rfl, hb, Lies.set hg x, h1, h2, by rw [Array.size_setIfInBounds]; exact h3, ?_⟩
    rw [Array.toList_setIfInBounds, ← h4, List.take_set]
theorem set_otherG {W : World} {g i b : Nat} (x : Value) (h : g ≠ b) : (W.setCell ⟨g, i, none⟩ x).heap[b]? = W.heap[b]? := by
  show (W.heap.modify g _)[b]? = _
  rw [Array.getElem?_modify, if_neg h]
theorem own_lt {w : World} {B e sz n : Nat} {u : Value} {xs : List Value} (h : w.ownsRow B e sz u n xs) : ∀ b, u.ownBlock = some b → B ≤ b ∧ b < w.heap.size := fun b hb => by
  rcases h.2 with ⟨rfl, _⟩ | ⟨g, cap, cur, rfl, hg, hgg, _⟩
  · cases hb
  · cases hb; exact ⟨hg, (Array.getElem?_eq_some_iff.1 hgg).1⟩
theorem own_shapeG {w : World} {B e sz n : Nat} {u : Value} {xs : List Value} (h : w.ownsRow B e sz u n xs) : ∃ a c, u = .slice a n c ∧ (a = none → c = 0 ∧ n = 0) ∧ (∀ b, a = some b → ∃ g, b = ⟨g, 0, none⟩) ∧ n ≤ c ∧ c ≤ maxLen := by
  rcases h.2 with ⟨rfl, rfl⟩ | ⟨g, cap, cur, rfl, _, _, h1, hc, _⟩
  · exact ⟨none, 0, rfl, fun _ => ⟨rfl, rfl⟩, (fun b hb => nomatch hb), Nat.le_refl _, Nat.zero_le _⟩
  · exact ⟨_, _, rfl, (fun e => nomatch e), fun b hb => by cases hb; exact ⟨g, rfl⟩, h1, hc⟩
theorem own_frozenG {w : World} {B e sz n g c : Nat} {xs : List Value} (h : w.ownsRow B e sz (.slice (some ⟨g, 0, none⟩) n c) n xs) (i : Nat) : w.frozen? ⟨g, i, none⟩ = false := by
  rcases h.2 with ⟨hv, _⟩ | ⟨g', cap, cur, hv, _, hg, _⟩
  · cases hv
  · cases hv; exact Lies.frozen hg i
theorem own_baseG {w : World} {B B' e sz n : Nat} {u : Value} {xs : List Value} (h : w.ownsRow B' e sz u n xs) (hb : B ≤ B') : w.ownsRow B e sz u n xs := by
  refine ⟨h.1, ?_⟩
  rcases h.2 with h1 | ⟨g, cap, cur, h1, h2, h3⟩
  · exact .inl h1
  · exact .inr ⟨g, cap, cur, h1, Nat.le_trans hb h2, h3⟩
theorem grown_belowG {w w' : World} {B e sz n : Nat} {v v' : Value} {xs : List Value} (hg : v'.ownBlock = v.ownBlock ∧ w.grownBy w' v.ownBlock ∨ (∃ b, w.heap.size ≤ b ∧ v'.ownBlock = some b) ∧ w.grownBy w' none) (h : w.ownsRow B e sz v n xs) (hB : B ≤ w.heap.size) : Below B w w' := by
  rcases hg with ⟨_, hg⟩ | ⟨_, hg⟩
  · exact ⟨hg.os, hg.tape, hg.output, hg.size, fun k hk => hg.block k (by omega) (fun e => by have := (own_lt h k e.symm).1; omega)⟩
  · exact ⟨hg.os, hg.tape, hg.output, hg.size, fun k hk => hg.block k (by omega) (fun e => nomatch e)⟩

/- Elements: each of sz cells, as enc lays them; mk k i: the mark of the place i of the list k. -/
section elements
variable {α : Type} (enc : α → List Value) (sz t : Nat) (mk : Nat → Nat → α)
def cellsG (xs : List α) : List Value := xs.flatMap enc
theorem cellsG_cons (x : α) (xs : List α) : cellsG enc (x :: xs) = enc x ++ cellsG enc xs := rfl
theorem cellsG_append (a b : List α) : cellsG enc (a ++ b) = cellsG enc a ++ cellsG enc b := by simp [cellsG]
theorem cellsG_one (x : α) : cellsG enc [x] = enc x := by simp [cellsG]
theorem cellsG_length (hsz : ∀ x, (enc x).length = sz) (xs : List α) : (cellsG enc xs).length = xs.length * sz := by
  induction xs with
  | nil => simp [cellsG]
  | cons x xs ih => rw [cellsG_cons, List.length_append, ih, hsz, List.length_cons, Nat.succ_mul]; omega
theorem cellsG_get (hsz : ∀ x, (enc x).length = sz) : ∀ (xs : List α) (k : Nat) (x : α), xs[k]? = some x → ∀ j v, (enc x)[j]? = some v → (cellsG enc xs)[k * sz + j]? = some v
  | [], k, x, h, _, _, _ => by simp at h
  | q :: xs, 0, x, h, j, v, hj => by
    have hq : q = x := by simpa using h
    subst hq
    have hl : j < (enc q).length := (List.getElem?_eq_some_iff.1 hj).1
    rw [cellsG_cons, Nat.zero_mul, Nat.zero_add, List.getElem?_append_left hl]; exact hj
  | q :: xs, k + 1, x, h, j, v, hj => by
    have ih := cellsG_get hsz xs k x (by simpa using h) j v hj
    rw [cellsG_cons, List.getElem?_append_right (by rw [hsz, Nat.succ_mul]; omega)]
    rw [← ih]; congr 1; rw [hsz, Nat.succ_mul]; omega
/-- A list of elements lies at v. -/
def ListG (W : World) (v : Value) (xs : List α) : Prop :=
  ∃ (a : Option Addr) (cap b o : Nat), v = .slice a xs.length cap ∧ (xs ≠ [] → a = some ⟨b, o, none⟩) ∧ ∀ i x, xs[i]? = some x → ∀ j u, (enc x)[j]? = some u → W.cell? ⟨b, o + i * sz + j, none⟩ = some u
variable {enc sz t mk}
theorem ListG.same {W W2 : World} {v : Value} {xs : List α} (h : ListG enc sz W v xs) (hb : ∀ b, v.ownBlock = some b → W2.heap[b]? = W.heap[b]?) : ListG enc sz W2 v xs := by
  obtain ⟨a, c, b, o, rfl, ha, hc⟩ := h
  refine ⟨a, c, b, o, rfl, ha, fun i x hx j u hu => ?_⟩
  have he := ha (fun e => by rw [e] at hx; simp at hx)
  subst he
  exact (World.cell?_of_block (a := ⟨b, o + i * sz + j, none⟩) (hb b rfl)).trans (hc i x hx j u hu)
theorem ListG.own (hsz : ∀ x, (enc x).length = sz) {W : World} {B : Nat} {v : Value} {xs : List α} (h : W.ownsRow B t sz v xs.length (cellsG enc xs)) : ListG enc sz W v xs := by
  rcases h.2 with ⟨rfl, h0⟩ | ⟨g, cap, cur, rfl, hg, hgb, hcap, hm, hs, htk⟩
  · have : xs = [] := List.eq_nil_of_length_eq_zero h0
    subst this
    exact ⟨none, 0, 0, 0, rfl, fun h => absurd rfl h, fun i e he => by simp at he⟩
  · refine ⟨some ⟨g, 0, none⟩, cap, g, 0, rfl, fun _ => rfl, fun i x hx j u hu => ?_⟩
    have hj : j < sz := by have := (List.getElem?_eq_some_iff.1 hu).1; rwa [hsz] at this
    have := h.cells (g := g) rfl (i * sz + j) u (cellsG_get enc sz hsz xs i x hx j u hu)
    rw [Addr.add_mid] at this
    rw [Nat.zero_add]
    rw [Nat.zero_add] at this
    exact this

def marksG (mk : Nat → Nat → α) (k n : Nat) : List α := (List.range n).map (mk k)
theorem marksG_succ (k n : Nat) : marksG mk k (n + 1) = marksG mk k n ++ [mk k n] := by simp [marksG, List.range_succ]
theorem marksG_length (k n : Nat) : (marksG mk k n).length = n := by simp [marksG]
theorem marksG_get (k n i : Nat) (h : i < n) : (marksG mk k n)[i]? = some (mk k i) := by simp [marksG, h]

/-- The lists stand apart from each other and from the row that holds them. -/
structure HandedG (g : Nat) (us : List Value) : Prop where
  apart : ∀ (i j : Nat) (u v : Value), us[i]? = some u → us[j]? = some v → i ≠ j → u.ownBlock = none ∨ u.ownBlock ≠ v.ownBlock
  gap : ∀ (i : Nat) (u : Value), us[i]? = some u → u.ownBlock ≠ some g
def rowG (mk : Nat → Nat → α) (k i j : Nat) (xs : List α) : List α := if j < k then marksG mk j xs.length else if j = k then marksG mk k i ++ xs.drop i else xs
theorem rowG_length (k i j : Nat) (xs : List α) (hi : i ≤ xs.length) : (rowG mk k i j xs).length = xs.length := by
  unfold rowG
  split
  · rw [marksG_length]
  · split
    · rw [List.length_append, marksG_length, List.length_drop]; omega
    · rfl
/-- The lists ahead of the k-th are marked, and so are its first i elements. -/
def RwsG (enc : α → List Value) (sz t : Nat) (mk : Nat → Nat → α) (w : World) (B : Nat) (us : List Value) (xss : List (List α)) (k i : Nat) : Prop := ∀ (j : Nat) (u : Value) (xs : List α), us[j]? = some u → xss[j]? = some xs → w.ownsRow B t sz u xs.length (cellsG enc (rowG mk k i j xs))
theorem RwsG.below {w w' : World} {B : Nat} {us : List Value} {xss : List (List α)} {k i : Nat} (h : RwsG enc sz t mk w B us xss k i) (hb : Below w.heap.size w w') : RwsG enc sz t mk w' B us xss k i := fun j u xs h1 h2 => own_below (h j u xs h1 h2) hb
/-- One element of the k-th list is marked: w' is w but for the row of that list. -/
theorem RwsG.mark {w w' : World} {B g : Nat} {us : List Value} {xss : List (List α)} {k i : Nat} {u : Value} {xs : List α} (h : RwsG enc sz t mk w B us xss k i) (hA : HandedG g us) (hu : us[k]? = some u) (hx : xss[k]? = some xs)
    (hown : w'.ownsRow B t sz u xs.length (cellsG enc (rowG mk k (i + 1) k xs))) (hoth : ∀ b, u.ownBlock ≠ some b → w'.heap[b]? = w.heap[b]?) : RwsG enc sz t mk w' B us xss k (i + 1) := by
  intro j v ys hv hy
  by_cases hj : j = k
  · subst hj
    rw [hu] at hv
    rw [hx] at hy
    cases hv
    cases hy
    exact hown
  · have e : rowG mk k (i + 1) j ys = rowG mk k i j ys := by unfold rowG; simp [hj]
    rw [e]
    refine own_eq (h j v ys hv hy) (fun b hb => hoth b (fun e => ?_))
    rcases hA.apart j k v u hv hu hj with h1 | h1
    · rw [hb] at h1; cases h1
    · exact h1 (hb.trans e.symm)
theorem RwsG.next {w : World} {B : Nat} {us : List Value} {xss : List (List α)} {k : Nat} {xs : List α} (h : RwsG enc sz t mk w B us xss k xs.length) (hx : xss[k]? = some xs) : RwsG enc sz t mk w B us xss (k + 1) 0 := by
  intro j u ys hu hy
  have h2 := h j u ys hu hy
  have e : rowG mk k xs.length j ys = rowG mk (k + 1) 0 j ys := by
    unfold rowG
    by_cases h1 : j < k
    · rw [if_pos h1, if_pos (by omega)]
    · rw [if_neg h1]
      by_cases h2 : j = k
      · subst h2
        rw [hx] at hy
        cases hy
        rw [if_pos rfl, if_pos (by omega), List.drop_of_length_le (Nat.le_refl _), List.append_nil]
      · rw [if_neg h2, if_neg (by omega)]
        by_cases h3 : j = k + 1
        · rw [if_pos h3]; rfl
        · rw [if_neg h3]
  rw [← e]
  exact h2
theorem RwsG.start {w : World} {B : Nat} {us : List Value} {xss : List (List α)} (h : ∀ (j : Nat) (u : Value) (xs : List α), us[j]? = some u → xss[j]? = some xs → w.ownsRow B t sz u xs.length (cellsG enc xs)) : RwsG enc sz t mk w B us xss 0 0 := by
  intro j u xs h1 h2
  have e : rowG mk 0 0 j xs = xs := by
    unfold rowG
    rw [if_neg (by omega)]
    by_cases h : j = 0
    · rw [if_pos h]; rfl
    · rw [if_neg h]
  rw [e]; exact h j u xs h1 h2
theorem RwsG.done {w : World} {B n : Nat} {us : List Value} {xss : List (List α)} (h : RwsG enc sz t mk w B us xss n 0) (hn : n = us.length) (j : Nat) (u : Value) (xs : List α) (h1 : us[j]? = some u) (h2 : xss[j]? = some xs) : w.ownsRow B t sz u xs.length (cellsG enc (marksG mk j xs.length)) := by
  have h3 := h j u xs h1 h2
  have hj := (List.getElem?_eq_some_iff.1 h1).1
  unfold rowG at h3
  rw [if_pos (by omega)] at h3
  exact h3

/-- The first k lists have marks appended, behind the world w1. -/
structure GrewG (enc : α → List Value) (sz ts : Nat) (mk : Nat → Nat → α) (w1 wr : World) (us : List Value) (xss : List (List α)) (k : Nat) (vs : List Value) (gv : Value) : Prop where
  len : vs.length = k
  size : w1.heap.size ≤ wr.heap.size
  same : ∀ b, b < w1.heap.size → (∀ (j : Nat) (u : Value), j < k → us[j]? = some u → u.ownBlock ≠ some b) → wr.heap[b]? = w1.heap[b]?
  old : ∀ (j : Nat) (u : Value) (xs : List α), j < k → us[j]? = some u → xss[j]? = some xs → ListG enc sz wr u (marksG mk j xs.length)
  new : ∀ (j : Nat) (v : Value) (xs : List α), vs[j]? = some v → xss[j]? = some xs → ListG enc sz wr v (marksG mk j (xs.length + 64))
  row : wr.ownsRow w1.heap.size ts 1 gv k vs
  gap : ∀ (j : Nat) (v : Value), vs[j]? = some v → v.ownBlock ≠ gv.ownBlock
  blk : ∀ (j : Nat) (v u : Value), vs[j]? = some v → us[j]? = some u → v.ownBlock = u.ownBlock ∨ ∃ b, w1.heap.size ≤ b ∧ v.ownBlock = some b
/-- Of the k-th list, i marks are appended, behind the world w. -/
structure GrowsG (enc : α → List Value) (sz t : Nat) (mk : Nat → Nat → α) (w wr : World) (B k n i : Nat) (u v : Value) : Prop where
  size : w.heap.size ≤ wr.heap.size
  same : ∀ b, b < w.heap.size → u.ownBlock ≠ some b → wr.heap[b]? = w.heap[b]?
  old : ListG enc sz wr u (marksG mk k n)
  new : wr.ownsRow B t sz v (n + i) (cellsG enc (marksG mk k (n + i)))
  blk : v.ownBlock = u.ownBlock ∨ ∃ b, w.heap.size ≤ b ∧ v.ownBlock = some b
theorem GrowsG.below {w wr wr' : World} {B k n i : Nat} {u v : Value} (h : GrowsG enc sz t mk w wr B k n i u v) (hu : ∀ b, u.ownBlock = some b → b < w.heap.size) (hb : Below wr.heap.size wr wr') : GrowsG enc sz t mk w wr' B k n i u v :=
  ⟨Nat.le_trans h.size hb.size, fun b h1 h2 => (hb.block b (Nat.lt_of_lt_of_le h1 h.size)).trans (h.same b h1 h2), h.old.same (fun b h1 => hb.block b (Nat.lt_of_lt_of_le (hu b h1) h.size)), own_below h.new hb, h.blk⟩
theorem GrowsG.step (hsz : ∀ x, (enc x).length = sz) {w wr wr' : World} {B k n i : Nat} {u v v' : Value} (h : GrowsG enc sz t mk w wr B k n i u v) (hu : ∀ b, u.ownBlock = some b → b < w.heap.size) (hn : u.ownBlock = none → n = 0) (hv0 : ∃ a c, u = .slice a n c ∧ ∀ b, a = some b → ∃ g, b = ⟨g, 0, none⟩)
    (hown : wr'.ownsRow B t sz v' (n + i + 1) (cellsG enc (marksG mk k (n + i)) ++ enc (mk k (n + i)))) (hg : v'.ownBlock = v.ownBlock ∧ wr.grownBy wr' v.ownBlock ∨ (∃ b, wr.heap.size ≤ b ∧ v'.ownBlock = some b) ∧ wr.grownBy wr' none) :
    GrowsG enc sz t mk w wr' B k n (i + 1) u v' := by
  have e : cellsG enc (marksG mk k (n + i)) ++ enc (mk k (n + i)) = cellsG enc (marksG mk k (n + (i + 1))) := by
    rw [← Nat.add_assoc, marksG_succ, cellsG_append, cellsG_one]
  rw [e] at hown
  have hsz2 : wr.heap.size ≤ wr'.heap.size := by rcases hg with ⟨_, h1⟩ | ⟨_, h1⟩ <;> exact h1.size
  refine ⟨Nat.le_trans h.size hsz2, fun b h1 h2 => ?_, ?_, hown, ?_⟩
  · rcases hg with ⟨_, hg⟩ | ⟨_, hg⟩
    · refine (hg.block b (Nat.lt_of_lt_of_le h1 h.size) ?_).trans (h.same b h1 h2)
      rcases h.blk with h3 | ⟨b3, h3, h4⟩
      · rw [h3]; exact fun e => h2 e.symm
      · rw [h4]; intro e; cases e; omega
    · exact (hg.block b (Nat.lt_of_lt_of_le h1 h.size) (fun e => nomatch e)).trans (h.same b h1 h2)
  · rcases hg with ⟨hv, hg⟩ | ⟨_, hg⟩
    · rcases h.blk with h3 | ⟨b3, h3, h4⟩
      · obtain ⟨a, c, rfl, hb⟩ := hv0
        cases a with
        | none =>
          have hn0 := hn rfl
          subst hn0
          exact ⟨none, c, 0, 0, rfl, fun h => absurd rfl h, fun i x hx => by simp [marksG] at hx⟩
        | some ad =>
          obtain ⟨g, rfl⟩ := hb ad rfl
          refine ⟨some ⟨g, 0, none⟩, c, g, 0, by rw [marksG_length], fun _ => rfl, fun j x hx q y hy => ?_⟩
          have hjn : j < n := by have := (List.getElem?_eq_some_iff.1 hx).1; rwa [marksG_length] at this
          have hvb : v'.ownBlock = some g := by rw [hv, h3]; rfl
          have hx2 : (marksG mk k (n + (i + 1)))[j]? = some x := by
            rw [marksG_get _ _ _ hjn] at hx
            rw [marksG_get _ _ _ (by omega)]; exact hx
          have hc := hown.cells hvb (j * sz + q) y (cellsG_get enc sz hsz _ j x hx2 q y hy)
          rw [Addr.add_mid] at hc
          rw [Nat.zero_add]
          rw [Nat.zero_add] at hc
          exact hc
      · refine h.old.same (fun b hb => hg.block b (Nat.lt_of_lt_of_le (hu b hb) h.size) ?_)
        rw [h4]; intro e; cases e; have := hu _ hb; omega
    · exact h.old.same (fun b hb => hg.block b (Nat.lt_of_lt_of_le (hu b hb) h.size) (fun e => nomatch e))
  · rcases hg with ⟨hv, _⟩ | ⟨⟨b, h1, h2⟩, _⟩
    · rw [hv]; exact h.blk
    · exact .inr ⟨b, Nat.le_trans h.size h1, h2⟩
/-- Where a list with an element lies. -/
theorem ListG.blk (hsz : ∀ x, (enc x).length = sz) (h0 : 0 < sz) {W : World} {v : Value} {xs : List α} (h : ListG enc sz W v xs) (hn : 0 < xs.length) : ∃ b, v.ownBlock = some b ∧ b < W.heap.size := by
  obtain ⟨a, c, b, o, rfl, ha, hc⟩ := h
  have he := ha (fun e => by rw [e] at hn; simp at hn)
  subst he
  obtain ⟨x, hx⟩ : ∃ x, xs[0]? = some x := ⟨_, List.getElem?_eq_getElem hn⟩
  obtain ⟨u, hu⟩ : ∃ u, (enc x)[0]? = some u := ⟨_, List.getElem?_eq_getElem (by rw [hsz]; exact h0)⟩
  exact ⟨b, rfl, World.block_lt_of_cell? W _ (hc 0 x hx 0 u hu)⟩
/-- The k-th list is done: the next. -/
theorem GrewG.step (hsz : ∀ x, (enc x).length = sz) (h0 : 0 < sz) {ts : Nat} {w1 wr wr' wr2 : World} {B g k n : Nat} {us vs : List Value} {xss : List (List α)} {gv gv' u v : Value} {xs : List α} (h : GrewG enc sz ts mk w1 wr us xss k vs gv) (hA : HandedG g us) (hu : us[k]? = some u) (hx : xss[k]? = some xs) (hn : n = xs.length)
    (hlt : ∀ (j : Nat) (u : Value), us[j]? = some u → ∀ b, u.ownBlock = some b → b < w1.heap.size)
    (hG : GrowsG enc sz t mk wr wr' B k n 64 u v)
    (hown : wr2.ownsRow w1.heap.size ts 1 gv' (k + 1) (vs ++ [v])) (hg : gv'.ownBlock = gv.ownBlock ∧ wr'.grownBy wr2 gv.ownBlock ∨ (∃ b, wr'.heap.size ≤ b ∧ gv'.ownBlock = some b) ∧ wr'.grownBy wr2 none) :
    GrewG enc sz ts mk w1 wr2 us xss (k + 1) (vs ++ [v]) gv' := by
  subst hn
  have hul := hlt k u hu
  have hsz3 : wr'.heap.size ≤ wr2.heap.size := by rcases hg with ⟨_, h1⟩ | ⟨_, h1⟩ <;> exact h1.size
  have hvs : v.ownBlock ≠ none := by
    intro e
    rcases hG.new.2 with ⟨_, h0⟩ | ⟨g', cap, cur, rfl, _⟩
    · omega
    · cases e
  have hgv : ∀ b, gv.ownBlock = some b → w1.heap.size ≤ b ∧ b < wr.heap.size := fun b hb => own_lt h.row b hb
  have hvg : v.ownBlock ≠ gv.ownBlock := by
    rcases hG.blk with h1 | ⟨b, h1, h2⟩
    · intro e
      cases hb : v.ownBlock with
      | none => exact hvs hb
      | some b =>
        have := hul b (by rw [← h1]; exact hb)
        have := hgv b (by rw [← e]; exact hb)
        omega
    · intro e
      have := hgv b (by rw [← e]; exact h2)
      omega
  have hk : ∀ b, b < wr'.heap.size → gv.ownBlock ≠ some b → wr2.heap[b]? = wr'.heap[b]? := by
    intro b h1 h2
    rcases hg with ⟨_, hg⟩ | ⟨_, hg⟩
    · exact hg.block b h1 (fun e => h2 e.symm)
    · exact hg.block b h1 (fun e => nomatch e)
  have hvlt : ∀ b, v.ownBlock = some b → b < wr'.heap.size := fun b hb => (own_lt hG.new b hb).2
  have hvsl : ∀ (j : Nat) (v0 : Value), vs[j]? = some v0 → ∃ b, v0.ownBlock = some b ∧ b < wr.heap.size ∧ u.ownBlock ≠ some b := by
    intro j v0 hv0
    have hjk : j < k := by have := (List.getElem?_eq_some_iff.1 hv0).1; rw [h.len] at this; exact this
    obtain ⟨uj, huj⟩ : ∃ uj, us[j]? = some uj := ⟨_, List.getElem?_eq_getElem (by have := (List.getElem?_eq_some_iff.1 hu).1; omega)⟩
    obtain ⟨xj, hxj⟩ : ∃ xj, xss[j]? = some xj := ⟨_, List.getElem?_eq_getElem (by have := (List.getElem?_eq_some_iff.1 hx).1; omega)⟩
    obtain ⟨b, hb, hbl⟩ := (h.new j v0 xj hv0 hxj).blk hsz h0 (by rw [marksG_length]; omega)
    refine ⟨b, hb, hbl, ?_⟩
    rcases h.blk j _ uj hv0 huj with h1 | ⟨b1, h1, h2⟩
    · intro e
      rcases hA.apart j k uj u huj hu (by omega) with h5 | h5
      · rw [← h1, hb] at h5; cases h5
      · exact h5 (by rw [← h1, hb, e])
    · intro e
      have := hul _ e
      rw [hb] at h2
      cases h2
      omega
  refine ⟨by rw [List.length_append, h.len]; rfl, Nat.le_trans h.size (Nat.le_trans hG.size hsz3), fun b h1 h2 => ?_, fun j u' xs' h1 h2 h3 => ?_, fun j v' xs' h1 h2 => ?_, hown, fun j v' h1 => ?_, fun j v' u' h1 h2 => ?_⟩
  · have hb1 : b < wr.heap.size := Nat.lt_of_lt_of_le h1 h.size
    rw [hk b (Nat.lt_of_lt_of_le hb1 hG.size) (fun e => by have := (hgv b e).1; omega), hG.same b hb1 (h2 k u (by omega) hu)]
    exact h.same b h1 (fun j u' h3 h4 => h2 j u' (by omega) h4)
  · by_cases hj : j = k
    · subst hj
      rw [hu] at h2
      rw [hx] at h3
      cases h2
      cases h3
      exact hG.old.same (fun b hb => hk b (Nat.lt_of_lt_of_le (Nat.lt_of_lt_of_le (hul b hb) h.size) hG.size) (fun e => by have := (hgv b e).1; have := hul b hb; omega))
    · have hl := hlt j u' h2
      refine (h.old j u' xs' (by omega) h2 h3).same (fun b hb => ?_)
      have hb1 : b < wr.heap.size := Nat.lt_of_lt_of_le (hl b hb) h.size
      rw [hk b (Nat.lt_of_lt_of_le hb1 hG.size) (fun e => by have := (hgv b e).1; have := hl b hb; omega)]
      refine hG.same b hb1 (fun e => ?_)
      rcases hA.apart j k u' u h2 hu hj with h5 | h5
      · rw [hb] at h5; cases h5
      · exact h5 (hb.trans e.symm)
  · by_cases hj : j < vs.length
    · rw [List.getElem?_append_left hj] at h1
      refine (h.new j v' xs' h1 h2).same (fun b hb => ?_)
      obtain ⟨b2, hb2, h5, h6⟩ := hvsl j v' h1
      rw [hb] at hb2
      cases hb2
      rw [hk b (Nat.lt_of_lt_of_le h5 hG.size) (fun e => h.gap j v' h1 (by rw [hb, e]))]
      exact hG.same b h5 h6
    · have hjk : j = k := by
        have := (List.getElem?_eq_some_iff.1 h1).1
        rw [List.length_append, List.length_singleton] at this
        have := h.len
        omega
      subst hjk
      rw [List.getElem?_append_right (by omega), show j - vs.length = 0 by have := h.len; omega] at h1
      rw [hx] at h2
      cases h1
      cases h2
      have hT : ListG enc sz wr' v (marksG mk j (xs.length + 64)) := ListG.own (t := t) (B := B) hsz (by rw [marksG_length]; exact hG.new)
      exact hT.same (fun b hb => hk b (hvlt b hb) (fun e => hvg (by rw [hb, e])))
  · have hg2 : ∀ b, gv'.ownBlock = some b → gv.ownBlock = some b ∨ wr'.heap.size ≤ b := by
      intro b hb
      rcases hg with ⟨h5, _⟩ | ⟨⟨b5, h5, h6⟩, _⟩
      · exact .inl (by rw [← h5]; exact hb)
      · rw [hb] at h6; cases h6; exact .inr h5
    intro e
    by_cases hj : j < vs.length
    · rw [List.getElem?_append_left hj] at h1
      obtain ⟨b, hb, h5, _⟩ := hvsl j v' h1
      rcases hg2 b (by rw [← e]; exact hb) with h6 | h6
      · exact h.gap j v' h1 (by rw [hb, h6])
      · have := hG.size
        omega
    · rw [List.getElem?_append_right (by omega)] at h1
      have hv' : v' = v := by
        cases hd : j - vs.length with
        | zero => rw [hd] at h1; cases h1; rfl
        | succ m => rw [hd] at h1; cases h1
      subst hv'
      cases hb : v'.ownBlock with
      | none => exact hvs hb
      | some b =>
        rcases hg2 b (by rw [← e]; exact hb) with h5 | h5
        · exact hvg (by rw [hb, h5])
        · have := hvlt b hb
          omega
  · by_cases hj : j < vs.length
    · rw [List.getElem?_append_left hj] at h1
      exact h.blk j v' u' h1 h2
    · have hjk : j = k := by
        have := (List.getElem?_eq_some_iff.1 h1).1
        rw [List.length_append, List.length_singleton] at this
        have := h.len
        omega
      subst hjk
      rw [List.getElem?_append_right (by omega), show j - vs.length = 0 by have := h.len; omega] at h1
      rw [hu] at h2
      cases h1
      cases h2
      rcases hG.blk with h5 | ⟨b, h5, h6⟩
      · exact .inl h5
      · exact .inr ⟨b, Nat.le_trans h.size h5, h6⟩
end elements
end Go.Proofs.YtfglanibbngdmaaGreatDoor

namespace Go.Proofs.YtfglanibbngdmaaGreatDoor
open Go Go.RowKit

def mkE (k i : Nat) : Ent := markE (k : Int) (i : Int)
theorem ecs_len (x : Ent) : (ecs x).length = 5 := rfl
theorem cellsG_ecs (xs : List Ent) : cellsG ecs xs = ecells xs := rfl
theorem sl_infoE : (Tryz.prog.info? 22).map (fun i => (i.zero, i.size, i.bytes)) = some (some (.slice none 0 0), 1, 24) := by kernel_rfl
theorem set_app (A L : List Value) (n j : Nat) (c : Value) (hn : A.length = n) : (A ++ L).set (n + j) c = A ++ L.set j c := by
  subst hn
  rw [List.set_append_right _ _ (by omega)]
  congr 2; omega
theorem set5 (A C : List Value) (n : Nat) (hn : A.length = n) (b0 b1 b2 b3 b4 c0 c1 c2 c3 c4 : Value) : (((((A ++ ([b0, b1, b2, b3, b4] ++ C)).set n c0).set (n + 1) c1).set (n + 2) c2).set (n + 3) c3).set (n + 4) c4 = A ++ ([c0, c1, c2, c3, c4] ++ C) := by
  have h0 := set_app A ([b0, b1, b2, b3, b4] ++ C) n 0 c0 hn
  rw [Nat.add_zero] at h0
  rw [h0, set_app _ _ _ _ _ hn, set_app _ _ _ _ _ hn, set_app _ _ _ _ _ hn, set_app _ _ _ _ _ hn]
  rfl
/-- A list's element is marked. -/
theorem mark_own {w : World} {B gk cap k i : Nat} {xs : List Ent} {us : List Value} {xss : List (List Ent)} {g : Nat} (h : RwsG ecs 5 52 mkE w B us xss k i) (hA : HandedG g us) (hu : us[k]? = some (.slice (some ⟨gk, 0, none⟩) xs.length cap)) (hx : xss[k]? = some xs) (hi : i < xs.length) :
    RwsG ecs 5 52 mkE (((((w.setCell ⟨gk, i * 5, none⟩ (.string (mkE k i).path)).setCell ⟨gk, i * 5 + 1, none⟩ (.int .i64 (mkE k i).kind)).setCell ⟨gk, i * 5 + 2, none⟩ (.int .i64 (mkE k i).mode)).setCell ⟨gk, i * 5 + 3, none⟩ (.string (mkE k i).data)).setCell ⟨gk, i * 5 + 4, none⟩ (.string (mkE k i).link)) B us xss k (i + 1) := by
  refine h.mark hA hu hx ?_ ?_
  · have h2 := own_setG (i := i * 5 + 4) (own_setG (i := i * 5 + 3) (own_setG (i := i * 5 + 2) (own_setG (i := i * 5 + 1) (own_setG (i := i * 5) (h k _ _ hu hx) (.string (mkE k i).path)) (.int .i64 (mkE k i).kind)) (.int .i64 (mkE k i).mode)) (.string (mkE k i).data)) (.string (mkE k i).link)
    obtain ⟨x, hxi⟩ : ∃ x, xs[i]? = some x := ⟨_, List.getElem?_eq_getElem hi⟩
    have e1 : rowG mkE k i k xs = marksG mkE k i ++ (x :: xs.drop (i + 1)) := by
      unfold rowG
      rw [if_neg (Nat.lt_irrefl k), if_pos rfl, List.drop_eq_getElem_cons hi]
      rw [List.getElem?_eq_getElem hi] at hxi
      rw [Option.some.inj hxi]
    have e2 : rowG mkE k (i + 1) k xs = marksG mkE k i ++ (mkE k i :: xs.drop (i + 1)) := by
      unfold rowG
      rw [if_neg (Nat.lt_irrefl k), if_pos rfl, marksG_succ, List.append_assoc]; rfl
    rw [e1] at h2
    rw [e2]
    have hl : (cellsG ecs (marksG mkE k i)).length = i * 5 := by rw [cellsG_length ecs 5 ecs_len, marksG_length]
    rw [cellsG_append, cellsG_cons, show ecs x = [.string x.path, .int .i64 x.kind, .int .i64 x.mode, .string x.data, .string x.link] from rfl, set5 _ _ _ hl] at h2
    rw [cellsG_append, cellsG_cons]
    exact h2
  · intro b hb
    have hne : gk ≠ b := fun e => hb (by rw [e]; rfl)
    rw [set_otherG _ hne, set_otherG _ hne, set_otherG _ hne, set_otherG _ hne, set_otherG _ hne]
theorem entG {W W2 : World} {b q : Nat} {e : Ent} (h : ∀ j u, (ecs e)[j]? = some u → W.cell? ⟨b, q + j, none⟩ = some u) (hb : Below W.heap.size W W2) : EntC W2 b q e := EntC.below ⟨h 0 _ rfl, h 1 _ rfl, h 2 _ rfl, h 3 _ rfl, h 4 _ rfl⟩ hb
/-- What none of the lists has stays as it was. -/
def OthE (us : List Value) (w wr : World) : Prop := ∀ b, b < w.heap.size → (∀ (j : Nat) (u : Value), us[j]? = some u → u.ownBlock ≠ some b) → wr.heap[b]? = w.heap[b]?
theorem OthE.below {us : List Value} {w wr w2 : World} (h : OthE us w wr) (hs : w.heap.size ≤ wr.heap.size) (hb : Below wr.heap.size wr w2) : OthE us w w2 := fun b h1 h2 => (hb.block b (by omega)).trans (h b h1 h2)
theorem OthE.set {us : List Value} {w wr : World} {gk i k : Nat} {u : Value} (h : OthE us w wr) (x : Value) (hu : us[k]? = some u) (hg : u.ownBlock = some gk) : OthE us w (wr.setCell ⟨gk, i, none⟩ x) := fun b h1 h2 => (set_otherG x (fun e => h2 k u hu (by rw [hg, e]))).trans (h b h1 h2)
theorem lies_other {W : World} {B g i : Nat} {t : TypeId} {cur : Array Value} (h : Lies W B t cur) (u : Value) (hne : g ≠ B) : Lies (W.setCell ⟨g, i, none⟩ u) B t cur := (set_otherG u hne).trans h

set_option maxRecDepth 100000 in
set_option maxHeartbeats 8000000 in
theorem apartE_p (B g c : Nat) (us : List Value) (xss : List (List Ent)) (w : World) (hl : us.length = xss.length) (hm : us.length ≤ 1000) (hB : B ≤ w.heap.size) (hL : Lies w g 22 us.toArray)
    (hA : HandedG g us) (hR : RwsG ecs 5 52 mkE w B us xss 0 0) (hz : ∀ xs ∈ xss, xs.length ≤ 1073741824) :
    Calls Tryz.prog 19 #[.slice (some ⟨g, 0, none⟩) us.length c] w fun e w' => e = .returned (.bool true) ∧ OthE us w w' ∧ Below B w w' := by
  obtain ⟨i0, hi, z0, z1, z2⟩ := info_parts info_ent
  obtain ⟨j0, hj, y0, y1, y2⟩ := info_parts sl_infoE
  have HL0 : Hid (Lies w g 22 us.toArray) := hL
  have HR0 : Hid (RwsG ecs 5 52 mkE w B us xss 0 0) := hR
  have HA : Hid (HandedG g us) := hA
  have HZ : Hid (∀ xs ∈ xss, xs.length ≤ 1073741824) := hz
  have HLL : Hid (us.length = xss.length) := hl
  clear hL hR hA hz hl
  go_enter Tryz.func19, Tryz.ntmps19
  go_wp2
  go_loopw [3, 4] (fun n _ wr => ∃ k : Nat, k ≤ us.length ∧ n = .int .i64 k ∧ Hid (Lies wr g 22 us.toArray) ∧ Hid (RwsG ecs 5 52 mkE wr B us xss k 0) ∧ Hid (OthE us w wr) ∧ Below B w wr) (fun n _ _ => us.length - (intOf n).toNat)
  case atStart => exact ⟨0, Nat.zero_le _, rfl, HL0, HR0, fun _ _ _ => rfl, Below.refl _ _⟩
  case round =>
    clear HL0 HR0
    obtain ⟨k, hk, rfl, HL, HR, HOT, hB1⟩ := hrel
    by_cases hlt : k < us.length
    · obtain ⟨u, hu⟩ : ∃ u, us[k]? = some u := ⟨_, List.getElem?_eq_getElem hlt⟩
      obtain ⟨xs, hx⟩ : ∃ xs, xss[k]? = some xs := ⟨_, List.getElem?_eq_getElem (by rw [← HLL.out]; exact hlt)⟩
      have hzx := HZ.out xs (List.mem_of_getElem? hx)
      obtain ⟨a, cu, rfl, hac, hab, _, _⟩ := own_shapeG (HR.out k u xs hu hx)
      have hcell := HL.out.cell (i := k) (by simpa using hu)
      have HU : Hid (us[k]? = some (.slice a xs.length cu)) := hu
      have HX : Hid (xss[k]? = some xs) := hx
      clear hu hx
      have d1 : (0 : Int) ≤ (k : Int) := by omega
      have d2 : (k : Int) < (us.length : Int) := by omega
      go_wp2
      go_loopw [4] (fun n wr2 => ∃ i : Nat, i ≤ xs.length ∧ n = .int .i64 i ∧ Hid (Lies wr2 g 22 us.toArray) ∧ Hid (RwsG ecs 5 52 mkE wr2 B us xss k i) ∧ Hid (OthE us w wr2) ∧ Below B w wr2) (fun n _ => xs.length - (intOf n).toNat)
      case atStart => exact ⟨0, Nat.zero_le _, rfl, HL, HR, HOT, hB1⟩
      case round =>
        clear HL HR hB1 hcell HOT
        obtain ⟨i, hi2, rfl, HL, HR, HOT, hB1⟩ := hrel
        have hcell := HL.out.cell (i := k) (by simpa using HU.out)
        by_cases hin : i < xs.length
        · cases a with
          | none => exact absurd (hac rfl).2 (by omega)
          | some ad =>
            obtain ⟨gk, rfl⟩ := hab ad rfl
            have e1 : (0 : Int) ≤ (i : Int) := by omega
            have e2 : (i : Int) < (xs.length : Int) := by omega
            have hM : Calls Tryz.prog 56 #[.int .i64 (k : Int), .int .i64 (i : Int)] wr.drew fun e w' => e = .returned (.agg #[.string (mkE k i).path, .int .i64 (mkE k i).kind, .int .i64 (mkE k i).mode, .string (mkE k i).data, .string (mkE k i).link]) ∧ Below wr.drew.heap.size wr.drew w' := markE_p (k : Int) (i : Int) (by omega) (by omega) wr.drew
            have hrow := HR.out k _ xs HU.out HX.out
            have hrl : (cellsG ecs (rowG mkE k i k xs)).length = xs.length * 5 := by rw [cellsG_length ecs 5 ecs_len, rowG_length _ _ _ _ hi2]
            have HF : Hid (∀ w2, Below wr.drew.heap.size wr.drew w2 → w2.cell? ⟨g, k, none⟩ = some (.slice (some ⟨gk, 0, none⟩) xs.length cu) ∧ ∃ y0 y1 y2 y3 y4, (w2.cell? ⟨gk, i * 5, none⟩ = some y0 ∧ w2.frozen? ⟨gk, i * 5, none⟩ = false) ∧ (w2.cell? ⟨gk, i * 5 + 1, none⟩ = some y1 ∧ w2.frozen? ⟨gk, i * 5 + 1, none⟩ = false) ∧ (w2.cell? ⟨gk, i * 5 + 2, none⟩ = some y2 ∧ w2.frozen? ⟨gk, i * 5 + 2, none⟩ = false) ∧ (w2.cell? ⟨gk, i * 5 + 3, none⟩ = some y3 ∧ w2.frozen? ⟨gk, i * 5 + 3, none⟩ = false) ∧ (w2.cell? ⟨gk, i * 5 + 4, none⟩ = some y4 ∧ w2.frozen? ⟨gk, i * 5 + 4, none⟩ = false)) := by
              intro w2 b2
              have b3 : Below wr.heap.size wr w2 := (show Below wr.heap.size wr wr.drew from ⟨rfl, rfl, rfl, Nat.le_refl _, fun _ _ => rfl⟩).trans b2
              have r2 := own_below hrow b3
              have hat : ∀ j, j < 5 → ∃ y, w2.cell? ⟨gk, i * 5 + j, none⟩ = some y := fun j hj => by
                obtain ⟨y, hy⟩ : ∃ y, (cellsG ecs (rowG mkE k i k xs))[i * 5 + j]? = some y := ⟨_, List.getElem?_eq_getElem (by rw [hrl]; omega)⟩
                exact ⟨y, by have := r2.cells (g := gk) rfl (i * 5 + j) y hy; rw [Addr.add_mid, Nat.zero_add] at this; exact this⟩
              obtain ⟨y0, h0⟩ := hat 0 (by decide)
              obtain ⟨y1, h1⟩ := hat 1 (by decide)
              obtain ⟨y2, h2⟩ := hat 2 (by decide)
              obtain ⟨y3, h3⟩ := hat 3 (by decide)
              obtain ⟨y4, h4⟩ := hat 4 (by decide)
              exact ⟨(HL.out.below b3).cell (i := k) (by simpa using HU.out), y0, y1, y2, y3, y4, ⟨h0, own_frozenG r2 _⟩, ⟨h1, own_frozenG r2 _⟩, ⟨h2, own_frozenG r2 _⟩, ⟨h3, own_frozenG r2 _⟩, ⟨h4, own_frozenG r2 _⟩⟩
            have hBg := (own_lt hrow gk rfl).1
            have hne : gk ≠ g := fun e => HA.out.gap k _ HU.out (by rw [e]; rfl)
            have HMK : Hid (∀ w2, Below wr.heap.size wr w2 → RwsG ecs 5 52 mkE (((((w2.setCell ⟨gk, i * 5, none⟩ (.string (mkE k i).path)).setCell ⟨gk, i * 5 + 1, none⟩ (.int .i64 (mkE k i).kind)).setCell ⟨gk, i * 5 + 2, none⟩ (.int .i64 (mkE k i).mode)).setCell ⟨gk, i * 5 + 3, none⟩ (.string (mkE k i).data)).setCell ⟨gk, i * 5 + 4, none⟩ (.string (mkE k i).link)) B us xss k (i + 1)) := fun w2 b3 => mark_own (HR.out.below b3) HA.out HU.out HX.out hin
            clear hrow hrl
            generalize mkE k i = mx at *
            go_wp2
            go_region_with (first | (go_at_call 56; refine hM.mono ?_; rintro e w2 ⟨rfl, b2⟩; obtain ⟨k0, y0', y1', y2', y3', y4', ⟨p0, q0⟩, ⟨p1, q1⟩, ⟨p2, q2⟩, ⟨p3, q3⟩, ⟨p4, q4⟩⟩ := HF.out w2 b2))
            all_goals go_wp2
            all_goals
              have b3 : Below wr.heap.size wr w2 := (show Below wr.heap.size wr wr.drew from ⟨rfl, rfl, rfl, Nat.le_refl _, fun _ _ => rfl⟩).trans b2
              have hs1 := hB1.size
              go_roundw
              case rel => exact ⟨i + 1, by omega, by go_num, lies_other (lies_other (lies_other (lies_other (lies_other (HL.out.below b3) _ hne) _ hne) _ hne) _ hne) _ hne, HMK.out w2 b3, ((((((HOT.out.below hs1 b3).set _ HU.out rfl).set _ HU.out rfl).set _ HU.out rfl).set _ HU.out rfl).set _ HU.out rfl), (((((hB1.trans (b3.mono (by omega))).setCell (p := ⟨gk, i * 5, none⟩) hBg _).setCell (p := ⟨gk, i * 5 + 1, none⟩) hBg _).setCell (p := ⟨gk, i * 5 + 2, none⟩) hBg _).setCell (p := ⟨gk, i * 5 + 3, none⟩) hBg _).setCell (p := ⟨gk, i * 5 + 4, none⟩) hBg _⟩
              case measure => simp [intOf]; omega
        · obtain rfl : i = xs.length := by omega
          have HR2 : Hid (RwsG ecs 5 52 mkE wr B us xss (k + 1) 0) := HR.out.next HX.out
          go_wp2
          go_roundw
          case rel => exact ⟨k + 1, by omega, by go_num, HL, HR2, HOT, hB1⟩
          case measure => simp [intOf]; omega
    · obtain rfl : k = us.length := by omega
      have HD : Hid (∀ (j : Nat) (u : Value) (xs : List Ent), us[j]? = some u → xss[j]? = some xs → wr.ownsRow B 52 5 u xs.length (cellsG ecs (marksG mkE j xs.length))) := fun j u xs h1 h2 => HR.out.done rfl j u xs h1 h2
      clear HR
      go_wp2
      obtain ⟨w1, hw1⟩ : ∃ w1, w1 = wr := ⟨_, rfl⟩
      subst hw1
      have hBw : B ≤ w1.heap.size := by have := hB1.size; omega
      go_loopw [5, 6, 7, 8] (fun gv n _ _ wr2 => ∃ (k : Nat) (vs : List Value), k ≤ us.length ∧ n = .int .i64 k ∧ Hid (GrewG ecs 5 22 mkE w1 wr2 us xss k vs gv) ∧ Below B w wr2) (fun _ n _ _ _ => us.length - (intOf n).toNat)
      case atStart => exact ⟨0, [], Nat.zero_le _, rfl, ⟨rfl, Nat.le_refl _, fun _ _ _ => rfl, fun j _ _ h => absurd h (Nat.not_lt_zero j), fun j v xs h => by simp at h, World.ownsRow_nil _ _ _ _, fun j v h => by simp at h, fun j v u h => by simp at h⟩, hB1⟩
      case round =>
        obtain ⟨k, vs, hk, rfl, HG, hB2⟩ := hrel
        by_cases hlt : k < us.length
        · obtain ⟨u, hu⟩ : ∃ u, us[k]? = some u := ⟨_, List.getElem?_eq_getElem hlt⟩
          obtain ⟨xs, hx⟩ : ∃ xs, xss[k]? = some xs := ⟨_, List.getElem?_eq_getElem (by rw [← HLL.out]; exact hlt)⟩
          have hzx := HZ.out xs (List.mem_of_getElem? hx)
          have hul : ∀ b, u.ownBlock = some b → b < w1.heap.size := fun b hb => (own_lt (HD.out k u xs hu hx) b hb).2
          have hown2 : wr.ownsRow B 52 5 u xs.length (cellsG ecs (marksG mkE k xs.length)) := own_eq (HD.out k u xs hu hx) (fun b hb => HG.out.same b (hul b hb) (fun j u' hj hu' e => by
            rcases HA.out.apart j k u' u hu' hu (by omega) with h | h
            · rw [e] at h; cases h
            · exact h (e.trans hb.symm)))
          have hgl : Lies wr g 22 us.toArray := (HG.out.same g HL.out.lt (fun j u' _ hu' => HA.out.gap j u' hu')).trans HL.out
          have hcell := hgl.cell (i := k) (by simpa using hu)
          have hsz2 := HG.out.size
          have HUL : Hid (∀ b, u.ownBlock = some b → b < wr.heap.size) := fun b hb => Nat.lt_of_lt_of_le (hul b hb) hsz2
          have HUL1 : Hid (∀ b, u.ownBlock = some b → b < w1.heap.size) := hul
          have HUG : Hid (u.ownBlock ≠ some g) := HA.out.gap k u hu
          have HGL : Hid (Lies wr g 22 us.toArray) := hgl
          obtain ⟨a, cu, rfl, hac, hab, _, _⟩ := own_shapeG hown2
          have HU : Hid (us[k]? = some (.slice a xs.length cu)) := hu
          have HX : Hid (xss[k]? = some xs) := hx
          clear hu hx hul hgl
          have d1 : (0 : Int) ≤ (k : Int) := by omega
          have d2 : (k : Int) < (us.length : Int) := by omega
          go_wp2
          obtain ⟨w2, hw2⟩ : ∃ w2, w2 = wr := ⟨_, rfl⟩
          subst hw2
          go_loopw [7, 8] (fun v n wr3 => ∃ i : Nat, i ≤ 64 ∧ n = .int .i64 i ∧ Hid (GrowsG ecs 5 52 mkE w2 wr3 B k xs.length i (.slice a xs.length cu) v) ∧ Below B w wr3) (fun _ n _ => 64 - (intOf n).toNat)
          case atStart => exact ⟨0, by omega, rfl, ⟨Nat.le_refl _, fun _ _ _ => rfl, ListG.own (t := 52) (B := B) ecs_len (by rw [marksG_length]; exact hown2), hown2, .inl rfl⟩, hB2⟩
          case round =>
            clear hcell
            obtain ⟨i, hi2, rfl, HS, hB3⟩ := hrel
            have hcell : wr.cell? ⟨g, k, none⟩ = some (.slice a xs.length cu) := Lies.cell (t := 22) (cur := us.toArray) ((HS.out.same g HGL.out.lt HUG.out).trans HGL.out) (by simpa using HU.out)
            by_cases hin : i < 64
            · have e1 : (0 : Int) ≤ (i : Int) := by omega
              have e2 : (i : Int) < 64 := by omega
              have hM : ∀ W, Calls Tryz.prog 56 #[.int .i64 (k : Int), .int .i64 ((xs.length : Int) + (i : Int))] W fun e w' => e = .returned (.agg #[.string (mkE k (xs.length + i)).path, .int .i64 (mkE k (xs.length + i)).kind, .int .i64 (mkE k (xs.length + i)).mode, .string (mkE k (xs.length + i)).data, .string (mkE k (xs.length + i)).link]) ∧ Below W.heap.size W w' := fun W => by
                have := markE_p (k : Int) ((xs.length : Int) + (i : Int)) (by omega) (by omega) W
                unfold mkE
                rw [show ((xs.length + i : Nat) : Int) = (xs.length : Int) + (i : Int) by omega]
                exact this
              obtain ⟨x, hxm⟩ : ∃ x, mkE k (xs.length + i) = x := ⟨_, rfl⟩
              have HXM : Hid (mkE k (xs.length + i) = x) := hxm
              rw [hxm] at hM
              clear hxm
              go_wp2_with fail
              refine (hM wr).mono ?_
              rintro e w3 ⟨rfl, b3⟩
              have hB4 : Below B w w3 := hB3.trans (b3.mono (by have := hB3.size; omega))
              have hs4 := hB4.size
              have HS3 := HS.out.below HUL.out b3
              have HS4 : Hid (GrowsG ecs 5 52 mkE w2 (w3.alloc (.cells #[.string x.path, .int .i64 x.kind, .int .i64 x.mode, .string x.data, .string x.link] 52)) B k xs.length i (.slice a xs.length cu) u7) := HS3.below HUL.out ((Below.refl _ w3).alloc (Nat.le_refl _) _)
              clear HS3 HS hM
              go_wp2_with (at_builtin; refine wpList_append_keepG _ rfl _ _ 22 rfl B 52 i0 (.agg #[.string ⟨#[]⟩, .int .i64 0, .int .i64 0, .string ⟨#[]⟩, .string ⟨#[]⟩]) 5 64 Tryz.underlying22 hi z0 z1 z2 rfl (by decide) _ _ _ rfl HS4.out.new ⟨w3.heap.size, 0, none⟩ 1 (ecs x) rfl rfl (ent_cells (ent_new w3 _ x)) (ent_one x) ?c3 ?c4 ?c5 ?_)
              case c3 => unfold maxLen; omega
              case c4 => omega
              case c5 => simp; omega
              intro v' w4 hown' hg
              rw [show w3.heap.size + 1 = (w3.alloc (.cells #[.string x.path, .int .i64 x.kind, .int .i64 x.mode, .string x.data, .string x.link] 52)).heap.size from (World.size_alloc _ _).symm] at hg
              have hgs := grown_belowG hg HS4.out.new (by simp; omega)
              have HS5 : Hid (GrowsG ecs 5 52 mkE w2 w4 B k xs.length (i + 1) (.slice a xs.length cu) v') := HS4.out.step ecs_len HUL.out (fun e => by cases a with | none => exact (hac rfl).2 | some _ => cases e) ⟨a, cu, rfl, hab⟩ (by rw [HXM.out]; exact hown') hg
              clear hown' hg HS4
              go_wp2
              go_roundw
              case rel => exact ⟨i + 1, by omega, by go_num, HS5, (hB4.alloc (by omega) _).trans hgs⟩
              case measure => simp [intOf]; omega
            · obtain rfl : i = 64 := by omega
              obtain ⟨av, cv, rfl, _⟩ := own_shapeG HS.out.new
              have hgo : wr.ownsRow w1.heap.size 22 1 u5 k vs := own_eq HG.out.row (fun b hb => HS.out.same b (own_lt HG.out.row b hb).2 (fun e => by have h1 := (own_lt HG.out.row b hb).1; have h2 := HUL1.out b e; omega))
              go_wp2_with (at_builtin; refine wpList_append_keepG _ rfl _ _ 39 rfl w1.heap.size 22 j0 (.slice none 0 0) 1 24 Tryz.underlying39 hj y0 y1 y2 rfl (by decide) _ _ _ rfl (hgo.alloc _) ⟨wr.heap.size, 0, none⟩ 1 [.slice av (xs.length + 64) cv] rfl rfl (cell_one_new _ _ _) (by simp [Value.oneCell']) ?c3 ?c4 ?c5 ?_)
              case c3 => unfold maxLen; omega
              case c4 => omega
              case c5 => have := HG.out.size; have := HS.out.size; simp; omega
              intro gv' w4 hown' hg
              rw [show wr.heap.size + 1 = (wr.alloc (.cells #[.slice av (xs.length + 64) cv] 22)).heap.size from (World.size_alloc _ _).symm] at hg
              have hs3 := hB3.size
              have hgs := grown_belowG hg ((own_baseG hgo hBw).alloc _) (by simp; omega)
              have HS5 : Hid (GrewG ecs 5 22 mkE w1 w4 us xss (k + 1) (vs ++ [.slice av (xs.length + 64) cv]) gv') := HG.out.step (t := 52) (B := B) ecs_len (by decide) HA.out HU.out HX.out rfl (fun j u hu b hb => by
                obtain ⟨xj, hxj⟩ : ∃ xj, xss[j]? = some xj := ⟨_, List.getElem?_eq_getElem (by rw [← HLL.out]; exact (List.getElem?_eq_some_iff.1 hu).1)⟩
                exact (own_lt (HD.out j u xj hu hxj) b hb).2) (HS.out.below HUL.out ((Below.refl _ wr).alloc (Nat.le_refl _) _)) hown' hg
              clear hown' hg hgo
              go_wp2
              go_roundw
              case rel => exact ⟨k + 1, _, by omega, by go_num, HS5, (hB3.alloc (by omega) _).trans hgs⟩
              case measure => simp [intOf]; omega
        · obtain rfl : k = us.length := by omega
          obtain ⟨w2, hw2⟩ : ∃ w2, w2 = wr := ⟨_, rfl⟩
          subst hw2
          have hsz2 := HG.out.size
          have hsw1 := hB1.size
          have HO2 : Hid (OthE us w w2) := fun b h1 h2 => (HG.out.same b (by omega) (fun j u' _ hu' => h2 j u' hu')).trans (HOT.out b h1 h2)
          have HGL : Hid (Lies w2 g 22 us.toArray) := (HG.out.same g HL.out.lt (fun j u' _ hu' => HA.out.gap j u' hu')).trans HL.out
          go_wp2
          go_loopw [9, 10, 11] (fun n _ _ wr => ∃ k : Nat, k ≤ us.length ∧ n = .int .i64 k ∧ Below w2.heap.size w2 wr) (fun n _ _ _ => us.length - (intOf n).toNat)
          case atStart => exact ⟨0, Nat.zero_le _, rfl, Below.refl _ _⟩
          case round =>
            obtain ⟨k, hk, rfl, hb⟩ := hrel
            by_cases hlt : k < us.length
            · obtain ⟨u, hu⟩ : ∃ u, us[k]? = some u := ⟨_, List.getElem?_eq_getElem hlt⟩
              obtain ⟨v, hv⟩ : ∃ v, vs[k]? = some v := ⟨_, List.getElem?_eq_getElem (by rw [HG.out.len]; exact hlt)⟩
              obtain ⟨xs, hx⟩ : ∃ xs, xss[k]? = some xs := ⟨_, List.getElem?_eq_getElem (by rw [← HLL.out]; exact hlt)⟩
              have hzx := HZ.out xs (List.mem_of_getElem? hx)
              obtain ⟨a, ca, bu, ou, hua, ha1, ha2⟩ := HG.out.old k u xs hlt hu hx
              obtain ⟨av, cv, bv, ov, hva, hv1, hv2⟩ := HG.out.new k v xs hv hx
              rw [marksG_length] at hua hva
              subst hua
              subst hva
              have HUA : Hid (∀ i, i < xs.length → ∀ W, Below w2.heap.size w2 W → a = some ⟨bu, ou, none⟩ ∧ EntC W bu (ou + i * 5) (mkE k i)) := fun i h W bb => ⟨ha1 (fun e => by have := congrArg List.length e; rw [marksG_length, List.length_nil] at this; omega), entG (ha2 i _ (marksG_get k xs.length i h)) bb⟩
              have HVA : Hid (∀ i, i < xs.length + 64 → ∀ W, Below w2.heap.size w2 W → av = some ⟨bv, ov, none⟩ ∧ EntC W bv (ov + i * 5) (mkE k i)) := fun i h W bb => ⟨hv1 (fun e => by have := congrArg List.length e; rw [marksG_length, List.length_nil] at this; omega), entG (hv2 i _ (marksG_get k (xs.length + 64) i h)) bb⟩
              have hrow := HG.out.row
              rcases hrow.2 with ⟨_, h0⟩ | ⟨gg, cg, cur, hgv, _, _, _, hcg, _⟩
              · omega
              subst hgv
              have HC : Hid (∀ wr, Below w2.heap.size w2 wr → wr.cell? ⟨g, k, none⟩ = some (.slice a xs.length ca) ∧ wr.cell? ⟨gg, k, none⟩ = some (.slice av (xs.length + 64) cv)) := fun wr hb => ⟨(HGL.out.below hb).cell (by simpa using hu), row_cell (own_below hrow hb) k _ hv⟩
              obtain ⟨q1, q2⟩ := HC.out wr hb
              unfold maxLen at hcg
              clear hrow hu hv hx ha2 hv2 ha1 hv1
              have d1 : (0 : Int) ≤ (k : Int) := by omega
              have d2 : (k : Int) < (us.length : Int) := by omega
              go_wp2
              go_loopw [10, 11] (fun n _ wr => ∃ i : Nat, i ≤ xs.length + 64 ∧ n = .int .i64 i ∧ Below w2.heap.size w2 wr) (fun n _ _ => xs.length + 64 - (intOf n).toNat)
              case atStart => exact ⟨0, Nat.zero_le _, rfl, hb⟩
              case round =>
                clear q1 q2 hb
                obtain ⟨i, hi2, rfl, hb⟩ := hrel
                obtain ⟨q1, q2⟩ := HC.out wr hb
                by_cases hin : i < xs.length + 64
                · obtain ⟨rfl, _⟩ := HVA.out i hin wr hb
                  have e1 : (0 : Int) ≤ (i : Int) := by omega
                  have e2 : (i : Int) < (xs.length : Int) + 64 := by omega
                  have hM : ∀ W, Calls Tryz.prog 56 #[.int .i64 (k : Int), .int .i64 (i : Int)] W fun e w' => e = .returned (.agg #[.string (mkE k i).path, .int .i64 (mkE k i).kind, .int .i64 (mkE k i).mode, .string (mkE k i).data, .string (mkE k i).link]) ∧ Below W.heap.size W w' := fun W => markE_p (k : Int) (i : Int) (by omega) (by omega) W
                  have HV2 : Hid (∀ W, Below w2.heap.size w2 W → EntC W bv (ov + i * 5) (mkE k i)) := fun W bb => (HVA.out i hin W bb).2
                  have HU2 : Hid (i < xs.length → ∀ W, Below w2.heap.size w2 W → a = some ⟨bu, ou, none⟩ ∧ EntC W bu (ou + i * 5) (mkE k i)) := fun h => HUA.out i h
                  generalize mkE k i = x at *
                  have heq := fun W => eq_self x W
                  go_upto_region 25 with (go_at_call 56; refine (hM _).mono ?_; rintro e w3 ⟨rfl, b3⟩)
                  have hb3 : Below w2.heap.size w2 w3 := hb.trans (b3.mono hb.size)
                  have L3 := Lies.new w3 52 #[.string x.path, .int .i64 x.kind, .int .i64 x.mode, .string x.data, .string x.link]
                  have hb4 : Below w2.heap.size w2 (w3.alloc (.cells #[.string x.path, .int .i64 x.kind, .int .i64 x.mode, .string x.data, .string x.link] 52)) := hb3.alloc hb3.size _
                  clear q1 q2 hb b3 hM hb3
                  generalize (w3.alloc (.cells #[.string x.path, .int .i64 x.kind, .int .i64 x.mode, .string x.data, .string x.link] 52)) = W4 at *
                  generalize w3.heap.size = ge at *
                  obtain ⟨p1, p2⟩ := HC.out W4 hb4
                  obtain ⟨g0, g1, g2, g3, g4⟩ := HV2.out W4 hb4
                  have f0 := L3.cell (i := 0) rfl
                  have f1 := L3.cell (i := 1) rfl
                  have f2 := L3.cell (i := 2) rfl
                  have f3 := L3.cell (i := 3) rfl
                  have f4 := L3.cell (i := 4) rfl
                  clear L3
                  by_cases hin2 : i < xs.length
                  · obtain ⟨rfl, h0, h1, h2, h3, h4⟩ := HU2.out hin2 W4 hb4
                    have e3 : (i : Int) < (xs.length : Int) := by omega
                    go_wp2
                    go_quiet (fail)
                    go_wp2
                    go_roundw
                    case rel => exact ⟨i + 1, by omega, by go_num, hb4.trans ⟨rfl, rfl, rfl, Nat.le_refl _, fun _ _ => rfl⟩⟩
                    case measure => simp [intOf]; omega
                  · have e3 : decide ((i : Int) < (xs.length : Int)) = false := by simp; omega
                    have e3' : decide (i < xs.length) = false := by simp; omega
                    go_wp2
                    go_quiet (fail)
                    go_wp2
                    go_roundw
                    case rel => exact ⟨i + 1, by omega, by go_num, hb4.trans ⟨rfl, rfl, rfl, Nat.le_refl _, fun _ _ => rfl⟩⟩
                    case measure => simp [intOf]; omega
                · obtain rfl : i = xs.length + 64 := by omega
                  go_wp2
                  go_roundw
                  case rel => exact ⟨k + 1, by omega, by go_num, hb⟩
                  case measure => simp [intOf]; omega
            · obtain rfl : k = us.length := by omega
              go_wp2
              go_ret
              exact ⟨rfl, HO2.out.below (by omega) hb, hB2.trans (hb.mono (by have := hB2.size; omega))⟩
end Go.Proofs.YtfglanibbngdmaaGreatDoor

namespace Go.Proofs.YtfglanibbngdmaaGreatDoor
open Go Go.RowKit

/-- The error that the program answers. -/
def subErr (es : List Ent) (p : ByteArray) : Value := if (checkGo [] es).1 ≠ 0 then fltA (checkGo [] es).1 (checkGo [] es).2 else errE (subAns es p).2.1
set_option maxRecDepth 100000 in
theorem sub_bad (v : Value) (es : List Ent) (p : ByteArray) (w : World) (hg : ErrType w) (hv : EntsAt w v es) (hl : es.length ≤ 4611686018427387904) (hp : ∀ e ∈ es, e.path.size < 1152921504606846976) (hck : (checkGo [] es).1 ≠ 0) :
    Calls Tryz.prog 16 #[v, .string p] w fun e w' => e = .returned (.tuple #[.slice none 0 0, fltA (checkGo [] es).1 (checkGo [] es).2]) ∧ Below w.heap.size w w' := by
  have hG := grow_p v es w hg hv hl hp
  have HCK : Hid ((checkGo [] es).1 ≠ 0) := hck
  clear hck
  unfold GrowPost fltA at hG
  unfold fltA
  go_enter Tryz.func16, Tryz.ntmps16
  go_wp2_with (first | (go_at_call 48; refine hG.mono ?_; rintro e w1 ⟨hb1, ⟨hq, -⟩ | ⟨-, rfl⟩⟩; exact absurd hq HCK.out))
  go_ret2
  exact ⟨rfl, hb1⟩
theorem subB_eq {es : List Ent} (h : IsTree es) (p : ByteArray) : subL p es = subB p es := by
  obtain ⟨_, _, _, F, h⟩ := h
  unfold subL subB
  rw [under_below h.says]; rfl
theorem subL_nil {es : List Ent} (h : IsTree es) {p : ByteArray} (hp : p.size = 0) : subL p es = es := by
  obtain ⟨_, _, _, F, h⟩ := h
  unfold subL
  rw [show namesP p = [] from if_pos hp, h.says.all, show cutE (aheadN p) = id from funext (cut_nil hp), List.map_id]
theorem sub_all (v : Value) (es : List Ent) (p : ByteArray) (w : World) (hg : ErrType w) (hv : EntsAt w v es) (hl : es.length ≤ 4611686018427387904) (hp : ∀ e ∈ es, e.path.size < 1152921504606846976) (hps : p.size ≤ 9223372036854775807) :
    Calls Tryz.prog 16 #[v, .string p] w fun e w' => ∃ u, e = .returned (.tuple #[u, subErr es p]) ∧ w'.ownsRow w.heap.size 52 5 u (subAns es p).1.length (ecells (subAns es p).1) ∧ Below w.heap.size w w' := by
  by_cases hck : (checkGo [] es).1 = 0
  · have hE : subErr es p = errE (subAns es p).2.1 := by unfold subErr; rw [if_neg (by simpa using hck)]
    rw [hE]
    by_cases h0 : p.size = 0
    · have HA : subAns es p = (es, 0, -1) := by unfold subAns; rw [if_neg (by simpa using hck), if_pos h0]
      refine (sub_0 v es p w hg hv hl hp hck (.inl h0)).mono ?_
      rintro e w1 ⟨u, rfl, hu, hb, hT⟩
      rw [subL_nil hT h0] at hu
      rw [HA]
      exact ⟨u, rfl, hu, hb⟩
    · cases hf : es.find? (pathIs p) with
      | none =>
        have HA : subAns es p = ([], 10, -1) := by unfold subAns; rw [if_neg (by simpa using hck), if_neg h0, hf]
        refine (sub_10 v es p w hg hv hl hp hps hck h0 hf).mono ?_
        rintro e w1 ⟨rfl, hb, _⟩
        rw [HA]
        exact ⟨_, rfl, World.ownsRow_nil _ _ _ _, hb⟩
      | some d =>
        by_cases hd : d.kind = 1
        · have HA : subAns es p = (subB p es, 0, -1) := by unfold subAns; rw [if_neg (by simpa using hck), if_neg h0, hf]; simp [hd]
          refine (sub_0 v es p w hg hv hl hp hck (.inr ⟨d, hf, hd⟩)).mono ?_
          rintro e w1 ⟨u, rfl, hu, hb, hT⟩
          rw [subB_eq hT] at hu
          rw [HA]
          exact ⟨u, rfl, hu, hb⟩
        · have HA : subAns es p = ([], 13, -1) := by unfold subAns; rw [if_neg (by simpa using hck), if_neg h0, hf]; simp [hd]
          refine (sub_13 v es p d w hg hv hl hp hps hck h0 hf hd).mono ?_
          rintro e w1 ⟨rfl, hb, _⟩
          rw [HA]
          exact ⟨_, rfl, World.ownsRow_nil _ _ _ _, hb⟩
  · have HA : subAns es p = ([], (checkGo [] es).1, ((checkGo [] es).2 : Int)) := by unfold subAns; rw [if_pos hck]
    have hE : subErr es p = fltA (checkGo [] es).1 (checkGo [] es).2 := if_pos hck
    rw [hE, HA]
    refine (sub_bad v es p w hg hv hl hp hck).mono ?_
    rintro e w1 ⟨rfl, hb⟩
    exact ⟨_, rfl, World.ownsRow_nil _ _ _ _, hb⟩
set_option maxRecDepth 100000 in
theorem said_p (es : List Ent) (p : ByteArray) (w : World) (hg : ErrType w) : Calls Tryz.prog 17 #[subErr es p, .int .i64 (subAns es p).2.1, .int .i64 (subAns es p).2.2] w fun e w' => e = .returned (.bool true) ∧ Below w.heap.size w w' := by
  by_cases hck : (checkGo [] es).1 = 0
  · have hE : subErr es p = errE (subAns es p).2.1 := by unfold subErr; rw [if_neg (by simpa using hck)]
    have hA : (subAns es p).2 = (0, -1) ∨ (subAns es p).2 = (10, -1) ∨ (subAns es p).2 = (13, -1) := by
      unfold subAns
      rw [if_neg (by simpa using hck)]
      split
      · exact .inl rfl
      · split
        · exact .inr (.inl rfl)
        · split
          · exact .inr (.inr rfl)
          · exact .inl rfl
    rw [hE]
    have hP : ∃ n : Int, (subAns es p).2 = (n, -1) ∧ ∀ W, ErrType W → Calls Tryz.prog 41 #[errE n, .int .i64 n] W fun e w' => e = .returned (.bool true) ∧ Below W.heap.size W w' := by
      rcases hA with h | h | h
      · exact ⟨0, h, fun W _ => plain_nil W⟩
      · exact ⟨10, h, fun W g => plain_some 10 (by omega) (by omega) W g⟩
      · exact ⟨13, h, fun W g => plain_some 13 (by omega) (by omega) W g⟩
    obtain ⟨n, h, hP⟩ := hP
    rw [show (subAns es p).2.1 = n by rw [h], show (subAns es p).2.2 = -1 by rw [h]]
    clear hck hE hA h
    generalize errE n = E at *
    go_enter Tryz.func17, Tryz.ntmps17
    go_wp2_with (go_at_call 41; refine (hP _ hg).mono ?_; rintro e w1 ⟨rfl, hb1⟩)
    go_ret
    exact ⟨rfl, hb1⟩
  · have HA : subAns es p = ([], (checkGo [] es).1, ((checkGo [] es).2 : Int)) := by unfold subAns; rw [if_pos hck]
    have hE : subErr es p = fltA (checkGo [] es).1 (checkGo [] es).2 := if_pos hck
    have hB := at_both es w hg
    rw [show chkV es = fltA (checkGo [] es).1 (checkGo [] es).2 from if_neg hck] at hB
    rw [hE, HA]
    show Calls Tryz.prog 17 #[fltA (checkGo [] es).1 (checkGo [] es).2, .int .i64 (checkGo [] es).1, .int .i64 ((checkGo [] es).2 : Nat)] w _
    clear hck hE HA
    generalize fltA (checkGo [] es).1 (checkGo [] es).2 = E at *
    generalize (checkGo [] es).1 = n at *
    generalize (checkGo [] es).2 = m at *
    have hm : ¬ (m : Int) < 0 := by omega
    go_enter Tryz.func17, Tryz.ntmps17
    go_wp2_with (go_at_call 11; refine hB.mono ?_; rintro e w1 ⟨rfl, hb1⟩)
    go_ret
    exact ⟨rfl, hb1⟩
theorem handed_three {a b c : Value} {g n0 n1 n2 n3 n4 n5 : Nat} (ha : ∀ x, a.ownBlock = some x → n0 ≤ x ∧ x < n1) (hb : ∀ x, b.ownBlock = some x → n2 ≤ x ∧ x < n3) (hc : ∀ x, c.ownBlock = some x → n4 ≤ x ∧ x < n5) (h12 : n1 ≤ n2) (h34 : n3 ≤ n4) (h23 : n2 ≤ n3) (hg : n5 ≤ g) (h45 : n4 ≤ n5) : HandedG g [a, b, c] := by
  refine ⟨fun i j u v hu hv hij => ?_, fun i u hu e => ?_⟩
  · have key : ∀ x, u.ownBlock = some x → v.ownBlock = some x → False := fun x h1 h2 => by
      rcases i with _ | _ | _ | i <;> rcases j with _ | _ | _ | j <;> (first | (simp at hu; done) | (simp at hv; done) | (exact hij rfl) | skip)
      all_goals cases hu; cases hv
      · have := ha x h1; have := hb x h2; omega
      · have := ha x h1; have := hc x h2; omega
      · have := hb x h1; have := ha x h2; omega
      · have := hb x h1; have := hc x h2; omega
      · have := hc x h1; have := ha x h2; omega
      · have := hc x h1; have := hb x h2; omega
    cases hx : u.ownBlock with
    | none => exact .inl rfl
    | some x => exact .inr (fun e => key x hx e.symm)
  · rcases i with _ | _ | _ | i
    · cases hu; have := ha g e; omega
    · cases hu; have := hb g e; omega
    · cases hu; have := hc g e; omega
    · simp at hu
theorem three_start {W : World} {B : Nat} {a b c : Value} {la lb lc : List Ent} (ha : W.ownsRow B 52 5 a la.length (ecells la)) (hb : W.ownsRow B 52 5 b lb.length (ecells lb)) (hc : W.ownsRow B 52 5 c lc.length (ecells lc)) :
    ∀ (j : Nat) (u : Value) (xs : List Ent), [a, b, c][j]? = some u → [la, lb, lc][j]? = some xs → W.ownsRow B 52 5 u xs.length (cellsG ecs xs) := fun j u xs hu hx => by
  rcases j with _ | _ | _ | j
  · cases hu; cases hx; exact ha
  · cases hu; cases hx; exact hb
  · cases hu; cases hx; exact hc
  · simp at hu
theorem own_shS {W : World} {B : Nat} {v : Value} {es : List Ent} (h : W.ownsRow B 52 5 v es.length (ecells es)) : ∃ a c, v = .slice a es.length c := by
  obtain ⟨a, c, h1, _⟩ := own_shapeG h
  exact ⟨a, c, h1⟩
theorem ans_len (es : List Ent) (p : ByteArray) : (subAns es p).1.length ≤ es.length := by
  unfold subAns
  split
  · simp
  · split
    · exact Nat.le_refl _
    · split
      · simp
      · split
        · simp
        · unfold subB
          rw [List.length_map]; exact List.length_filter_le _ _
set_option maxRecDepth 100000 in
set_option maxHeartbeats 4000000 in
theorem treesubs_law (v : Value) (es : List Ent) (p o : ByteArray) (w : World) (hg : ErrType w) (hv : EntsAt w v es) (hs : Small es) (hps : p.size ≤ 1048576) (hos : o.size ≤ 1048576) :
    Calls Tryz.prog 4 #[v, .string p, .string o] w fun e w' => e = .returned (.bool true) ∧ Below w.heap.size w w' := by
  have hsl := hs.1
  have hsp : ∀ e ∈ es, e.path.size < 1152921504606846976 := fun e he => by have := (hs.2 e he).1; omega
  have hl1 := ans_len es p
  have hl2 := ans_len es o
  go_enter Tryz.func4, Tryz.ntmps4
  go_wp2_with fail
  refine (sub_d v es p w hv hs hps).mono ?_
  rintro e w1 ⟨d1, rfl, hd1, hb1⟩
  go_wp2_with fail
  refine (sub_d v es o w1 (hv.below hb1) hs hos).mono ?_
  rintro e w2 ⟨d2, rfl, hd2, hb2⟩
  have HB2 := below_join hb1 hb2
  have hd1' := hd1.below hb2
  go_wp2_with fail
  refine (lentE_p es v w2 (hv.below HB2) (by omega)).mono ?_
  rintro e w3 ⟨x, rfl, hL3, hrow3, hb3⟩
  have HB3 := below_join HB2 hb3
  have hL3e := hL3.ents
  go_wp2_with fail
  refine (sub_all x es p w3 (hg.below HB3) hL3e (by omega) hsp (by omega)).mono ?_
  rintro e w4 ⟨ua, rfl, oa, hb4⟩
  go_wp2_with fail
  refine (sub_all x es p w4 ((hg.below HB3).below hb4) (hL3e.below hb4) (by omega) hsp (by omega)).mono ?_
  rintro e w5 ⟨ub, rfl, ob, hb5⟩
  have hc5 := below_join hb4 hb5
  go_wp2_with fail
  refine (sub_all x es o w5 ((hg.below HB3).below hc5) (hL3e.below hc5) (by omega) hsp (by omega)).mono ?_
  rintro e w6 ⟨uc, rfl, oc, hb6⟩
  have hc6 := below_join hc5 hb6
  have HB6 := below_join HB3 hc6
  have G6 := hg.below HB6
  go_wp2_with fail
  refine (said_p es p w6 G6).mono ?_
  rintro e w7 ⟨rfl, hb7⟩
  go_wp2_with fail
  refine (said_p es p w7 (G6.below hb7)).mono ?_
  rintro e w8 ⟨rfl, hb8⟩
  have hc8 := below_join hb7 hb8
  go_wp2_with fail
  refine (said_p es o w8 (G6.below hc8)).mono ?_
  rintro e w9 ⟨rfl, hb9⟩
  have hc9 := below_join hc8 hb9
  have hd16 := hd1'.below (below_join hb3 hc6)
  have hd26 := hd2.below (below_join hb3 hc6)
  have oa6 := own_below oa (below_join hb5 hb6)
  have ob6 := own_below ob hb6
  have ea6 := ents_of_owns oa6
  have eb6 := ents_of_owns ob6
  have ec6 := ents_of_owns oc
  go_wp2_with fail
  refine (same_p ua d1 (subAns es p).1 w9 (ea6.below hc9) (hd16.below hc9) (by omega)).mono ?_
  rintro e w10 ⟨rfl, hb10⟩
  have hc10 := below_join hc9 hb10
  go_wp2_with fail
  refine (same_p ub d1 (subAns es p).1 w10 (eb6.below hc10) (hd16.below hc10) (by omega)).mono ?_
  rintro e w11 ⟨rfl, hb11⟩
  have hc11 := below_join hc10 hb11
  go_wp2_with fail
  refine (same_p uc d2 (subAns es o).1 w11 (ec6.below hc11) (hd26.below hc11) (by omega)).mono ?_
  rintro e w12 ⟨rfl, hb12⟩
  have hc12 := below_join hc11 hb12
  have oa12 := own_below oa6 hc12
  have ob12 := own_below ob6 hc12
  have oc12 := own_below oc hc12
  have s4 := hb4.size
  have s5 := hb5.size
  have s6 := hb6.size
  have s12 := hc12.size
  have LA := own_lt oa
  have LB := own_lt ob
  have LC := own_lt oc
  have hH : HandedG w12.heap.size [ua, ub, uc] := handed_three LA LB LC (Nat.le_refl _) (Nat.le_refl _) s5 s12 s6
  have AP := apartE_p w3.heap.size w12.heap.size 3 [ua, ub, uc] [(subAns es p).1, (subAns es p).1, (subAns es o).1] (w12.alloc (.cells #[ua, ub, uc] 22)) rfl (by simp) (by simp; omega) (Lies.new w12 _ _) hH
    (RwsG.start (three_start (own_baseG (oa12.alloc _) (Nat.le_refl _)) (own_baseG (ob12.alloc _) s4) (own_baseG (oc12.alloc _) (Nat.le_trans s4 s5))))
    (fun q hq => by
      simp only [List.mem_cons, List.not_mem_nil, or_false] at hq
      rcases hq with rfl | rfl | rfl <;> omega)
  have hbA : Below w3.heap.size w3 (w12.alloc (.cells #[ua, ub, uc] 22)) := (below_join hc6 hc12).alloc (by omega) _
  have B12 : Below w.heap.size w (w12.alloc (.cells #[ua, ub, uc] 22)) := below_join HB3 hbA
  obtain ⟨aa, ca, rfl⟩ := own_shS oa
  obtain ⟨ab, cb, rfl⟩ := own_shS ob
  obtain ⟨ac, cc, rfl⟩ := own_shS oc
  clear oa ob oc oa6 ob6 oa12 ob12 oc12 ea6 eb6 ec6 hd16 hd26 LA LB LC hH
  go_wp2_with fail
  refine AP.mono ?_
  rintro e w13 ⟨rfl, -, hb13⟩
  have hc13 := hbA.trans hb13
  have HB13 := below_join HB3 hc13
  go_wp2_with fail
  refine (keptE_p es x v w13 (hL3.below hc13) (hv.below HB13) (by omega)).mono ?_
  rintro e w14 ⟨rfl, hb14⟩
  have HB14 := below_join HB13 hb14
  go_wp2_with fail
  refine (works_t w14 (hg.below HB14)).mono ?_
  rintro e w15 ⟨rfl, hb15⟩
  go_wp2
  go_ret
  exact ⟨rfl, below_join HB14 hb15⟩
end Go.Proofs.YtfglanibbngdmaaGreatDoor
