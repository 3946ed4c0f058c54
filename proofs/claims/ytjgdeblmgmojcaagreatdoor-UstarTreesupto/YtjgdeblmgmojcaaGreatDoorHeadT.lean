/- What a path is for a header: it and its whiteout are told by one. (Made by wip/gen_tree5.py out of strata01; its end is its own.) -/
import Derived.Test.YtjgdeblmgmojcaaGreatDoorPathM
import Derived.Test.YtjgdeblmgmojcaaGreatDoorBackN
namespace Go.Proofs.YtjgdeblmgmojcaaGreatDoor
open Go Go.RowKit

theorem name_ok {x : ByteArray} (h : nameN x = 0) : full x = true ∧ x.size ≤ 96 ∧ (x.toList == [46]) = false ∧ (x.toList == [46, 46]) = false := by
  unfold nameN at h
  by_cases c1 : x.toList.isEmpty = true
  · rw [if_pos c1] at h; omega
  · rw [if_neg c1] at h
    by_cases c2 : 96 < x.size
    · rw [if_pos c2] at h; omega
    · rw [if_neg c2] at h
      by_cases c3 : Lib.containsAny (un x) [0, 47] = true
      · rw [if_pos c3] at h; omega
      · rw [if_neg c3] at h
        by_cases c4 : (x.toList == [46]) = true
        · rw [if_pos c4] at h; omega
        · rw [if_neg c4] at h
          by_cases c5 : (x.toList == [46, 46]) = true
          · rw [if_pos c5] at h; omega
          · exact ⟨by simpa [full] using c1, by omega, by simpa using c4, by simpa using c5⟩
theorem pieces_noslash (p : ByteArray) : ∀ x ∈ piecesB p, (47 : UInt8) ∉ un x := fun x hx => by
  unfold piecesB at hx
  obtain ⟨q, hq, rfl⟩ := List.mem_map.1 hx
  rw [un_bs]; exact cutL_noslash _ q hq
theorem data_get (s : ByteArray) (j : Nat) (h : j < s.size) : s.data[j]! = s[j] := getElem!_pos s.data j h
/-- A text without a slash is its own last name; any other is its parent, a slash, and its last name. -/
theorem last_split (p : ByteArray) : ((47 : UInt8) ∉ un p ∧ parentB p = ⟨#[]⟩ ∧ lastB p = p) ∨ (un p = un (parentB p) ++ 47 :: un (lastB p) ∧ (47 : UInt8) ∉ un (lastB p)) := by
  rcases Lib.lastIdx_spec p 47 p.size with ⟨h, hn⟩ | ⟨i, hi, h, hc, hn⟩
  · left
    have e : Lib.lastIndexByte p 47 = -1 := h
    refine ⟨fun hm => ?_, by unfold parentB; rw [e]; rfl, ?_⟩
    · obtain ⟨j, hj, he⟩ := List.getElem_of_mem hm
      rw [un_length] at hj
      have h1 := hn j hj
      rw [data_get p j hj] at h1
      have h2 := un_getElem? p j hj
      rw [List.getElem?_eq_getElem (by rw [un_length]; exact hj), he] at h2
      exact h1 (by rw [← Option.some.inj h2]; rfl)
    · unfold lastB; rw [e]
      exact un_inj (by rw [un_extract, List.take_of_length_le (by rw [un_length]; omega)]; rfl)
  · right
    have e : Lib.lastIndexByte p 47 = i := h
    rw [data_get p i hi] at hc
    have hget : (un p)[i]? = some 47 := by rw [un_getElem? p i hi]; congr 1; exact UInt8.toNat_inj.1 (by show p[i].toNat = 47; omega)
    have e1 : un (parentB p) = (un p).take i := by unfold parentB; rw [e, if_neg (by omega), un_extract]; simp
    have e2 : un (lastB p) = (un p).drop (i + 1) := by
      unfold lastB; rw [e, un_extract, List.take_of_length_le (by rw [un_length]; omega)]
      congr 1
    have hlt : i < (un p).length := by rw [un_length]; exact hi
    have hdrop : (un p).drop i = 47 :: (un p).drop (i + 1) := by
      rw [List.drop_eq_getElem_cons hlt]
      rw [List.getElem?_eq_getElem hlt] at hget
      rw [Option.some.inj hget]
    refine ⟨by rw [e1, e2, ← hdrop, List.take_append_drop], fun hm => ?_⟩
    rw [e2] at hm
    obtain ⟨j, hj, he⟩ := List.getElem_of_mem hm
    have hj2 : i + 1 + j < p.size := by rw [List.length_drop, un_length] at hj; omega
    have h1 := hn (i + 1 + j) (by omega) hj2
    rw [data_get p _ hj2] at h1
    rw [List.getElem_drop] at he
    have h2 := un_getElem? p _ hj2
    rw [List.getElem?_eq_getElem (by rw [un_length]; exact hj2), he] at h2
    exact h1 (by rw [← Option.some.inj h2]; rfl)
def wh : List UInt8 := [46, 119, 104, 46]
/-- Where the last name begins, and what the whiteout is. -/
theorem white_parts (p : ByteArray) (h0 : (un p)[0]? ≠ some 47) : ∃ A, un p = A ++ un (lastB p) ∧ un (whiteoutB p) = A ++ wh ++ un (lastB p) ∧ (47 : UInt8) ∉ un (lastB p) ∧
    ((A = [] ∧ parentB p = ⟨#[]⟩ ∧ piecesB p = [lastB p]) ∨ (A = un (parentB p) ++ [47] ∧ (parentB p).toList.isEmpty = false ∧ piecesB p = piecesB (parentB p) ++ [lastB p])) := by
  have ew : un (⟨#[46, 119, 104, 46]⟩ ++ lastB p) = wh ++ un (lastB p) := by rw [un_append]; rfl
  rcases last_split p with ⟨hn, hp, hl⟩ | ⟨hp, hn⟩
  · refine ⟨[], by rw [hl]; rfl, ?_, by rw [hl]; exact hn, .inl ⟨rfl, hp, ?_⟩⟩
    · unfold whiteoutB joinB
      rw [hp, if_pos ((isEmpty_iff _).2 rfl), ew]; rfl
    · rw [hl]; unfold piecesB; rw [cut_single _ hn]; simp [bs_un]
  · have hne : (parentB p).toList.isEmpty = false := by
      cases he : (parentB p).toList.isEmpty with
      | false => rfl
      | true =>
        exfalso
        rw [toList_un] at he
        have : un (parentB p) = [] := List.isEmpty_iff.1 he
        rw [this] at hp
        exact h0 (by rw [hp]; rfl)
    refine ⟨un (parentB p) ++ [47], by rw [hp]; simp, ?_, hn, .inr ⟨rfl, hne, ?_⟩⟩
    · unfold whiteoutB joinB
      rw [hne]
      show un (parentB p ++ ⟨#[47]⟩ ++ (⟨#[46, 119, 104, 46]⟩ ++ lastB p)) = _
      rw [un_append, un_append, ew]
      show un (parentB p) ++ [47] ++ _ = _
      simp
    · have e2 : un p = un (parentB p) ++ 47 :: un (lastB p) := hp
      show (cutL (un p)).map bs = (cutL (un (parentB p))).map bs ++ [lastB p]
      rw [e2, cut_append, cut_single _ hn]; simp [bs_un]
def toldB (q : ByteArray) : Prop := (splitP q).2.2 = 0 ∧ (splitP q).1.size ≤ 155 ∧ 1 ≤ (splitP q).2.1.size ∧ (splitP q).2.1.size ≤ 100 ∧ joinB (splitP q).1 (splitP q).2.1 = q
theorem split_small (q : ByteArray) (h : q.size ≤ 100) : splitP q = (⟨#[]⟩, q, 0) := by unfold splitP; rw [if_pos h]
theorem split_fits (q : ByteArray) (h : 100 < q.size) (h0 : (un q)[0]? ≠ some 47) (i : Nat) (hi : good q i) (h155 : i ≤ 155) :
    ∃ j, 1 ≤ j ∧ j ≤ 155 ∧ good q j ∧ splitP q = (q.extract 0 j, q.extract (j + 1) q.size, 0) := by
  rcases split_cases q h with ⟨_, e⟩ | ⟨k, hg, hk, e⟩
  · exact absurd hi (e i)
  · have h1 : k ≤ i := by
      rcases Nat.lt_or_ge i k with h2 | h2
      · exact absurd hi (hk i h2)
      · exact h2
    have h2 : 1 ≤ k := by
      rcases Nat.eq_zero_or_pos k with h3 | h3
      · subst h3; exact absurd hg.1 h0
      · exact h3
    rw [if_neg (by omega)] at e
    exact ⟨k, h2, by omega, hg, e⟩
theorem told_fits (q : ByteArray) (h1 : 1 ≤ q.size) (h0 : (un q)[0]? ≠ some 47) (hf : q.size ≤ 100 ∨ ∃ i, good q i ∧ i ≤ 155) : toldB q := by
  rcases Nat.lt_or_ge 100 q.size with h | h
  · obtain ⟨i, hi, h155⟩ : ∃ i, good q i ∧ i ≤ 155 := by
      rcases hf with h2 | h2
      · omega
      · exact h2
    obtain ⟨j, j1, j2, hg, e⟩ := split_fits q h h0 i hi h155
    have s1 := size_extract' q 0 j (by have := hg.2.1; omega)
    have s2 := size_extract' q (j + 1) q.size (Nat.le_refl _)
    refine ⟨by rw [e], by rw [e]; show (q.extract 0 j).size ≤ 155; omega, by rw [e]; show 1 ≤ (q.extract (j + 1) q.size).size; have := hg.2.1; omega, by rw [e]; show (q.extract (j + 1) q.size).size ≤ 100; have := hg.2.2; omega, ?_⟩
    rw [e]
    show joinB (q.extract 0 j) (q.extract (j + 1) q.size) = q
    unfold joinB
    rw [if_neg (by rw [isEmpty_iff]; omega)]
    refine un_inj ?_
    rw [un_append, un_append, un_extract, un_extract, List.take_of_length_le (l := un q) (i := q.size) (by rw [un_length]; omega)]
    have hlt : j < (un q).length := by rw [un_length]; have := hg.2.1; omega
    have hd : (un q).drop j = 47 :: (un q).drop (j + 1) := by
      have h3 := hg.1
      rw [List.drop_eq_getElem_cons hlt]
      rw [List.getElem?_eq_getElem hlt] at h3
      rw [Option.some.inj h3]
    show ((un q).take j).drop 0 ++ [47] ++ (un q).drop (j + 1) = un q
    rw [List.drop_zero, List.append_assoc, List.singleton_append, ← hd, List.take_append_drop]
  · have e := split_small q h
    refine ⟨by rw [e], by rw [e]; exact Nat.zero_le _, by rw [e]; exact h1, by rw [e]; exact h, ?_⟩
    rw [e]
    show joinB ⟨#[]⟩ q = q
    unfold joinB; rw [if_pos ((isEmpty_iff _).2 rfl)]
theorem fits_of_ok (q : ByteArray) (h : (splitP q).2.2 = 0) : q.size ≤ 100 ∨ ∃ i, good q i ∧ i ≤ 155 := by
  rcases Nat.lt_or_ge 100 q.size with h1 | h1
  · rcases split_cases q h1 with ⟨e, _⟩ | ⟨k, hg, _, e⟩
    · rw [e] at h; cases h
    · by_cases c : k < 1 ∨ 155 < k
      · rw [if_pos c] at e; rw [e] at h; cases h
      · exact .inr ⟨k, hg, by omega⟩
  · exact .inl h1
theorem check_parts {p : ByteArray} (h : checkN p = 0) : p.toList.isEmpty = false ∧ (∀ x ∈ piecesB p, nameN x = 0) ∧ (piecesB p).length ≤ 32 ∧ p.size ≤ 255 ∧ (splitP (whiteoutB p)).2.2 = 0 := by
  unfold checkN at h
  by_cases c1 : p.toList.isEmpty = true
  · rw [if_pos c1] at h; omega
  · rw [if_neg c1] at h
    by_cases c2 : (piecesB p).any (fun x => nameN x != 0) = true
    · rw [if_pos c2] at h; omega
    · rw [if_neg c2] at h
      by_cases c3 : 32 < (piecesB p).length
      · rw [if_pos c3] at h; omega
      · rw [if_neg c3] at h
        by_cases c4 : 255 < p.size
        · rw [if_pos c4] at h; omega
        · rw [if_neg c4] at h
          refine ⟨by simpa using c1, fun x hx => ?_, by omega, by omega, h⟩
          have c5 : (piecesB p).any (fun x => nameN x != 0) = false := by simpa using c2
          have := List.any_eq_false.1 c5 x hx
          simpa using this
theorem first_noslash {p : ByteArray} (h : ∀ x ∈ piecesB p, nameN x = 0) : (un p)[0]? ≠ some 47 := by
  intro h0
  cases hu : un p with
  | nil => rw [hu] at h0; cases h0
  | cons c r =>
    rw [hu] at h0
    obtain rfl : c = 47 := by simpa using h0
    have hm : bs [] ∈ piecesB p := by unfold piecesB; rw [hu, cutL_cons]; simp
    have h1 := (name_ok (h _ hm)).1
    unfold full at h1
    rw [toList_un, un_bs] at h1
    cases h1
theorem mem_cut (c : UInt8) (hc : c ≠ 47) : ∀ l : List UInt8, c ∈ l → ∃ q ∈ cutL l, c ∈ q
  | [], h => by cases h
  | x :: l, h => by
    rw [cutL_cons]
    by_cases hx : (x == 47) = true
    · rw [if_pos hx]
      rcases List.mem_cons.1 h with rfl | h2
      · exact absurd (by simpa using hx) hc
      · obtain ⟨q, hq, hcq⟩ := mem_cut c hc l h2
        exact ⟨q, List.mem_cons_of_mem _ hq, hcq⟩
    · rw [if_neg hx]
      cases hl : cutL l with
      | nil => exact absurd hl (cutL_ne l)
      | cons q r =>
        rcases List.mem_cons.1 h with rfl | h2
        · exact ⟨c :: q, by simp, by simp⟩
        · obtain ⟨q2, hq2, hcq⟩ := mem_cut c hc l h2
          rw [hl] at hq2
          rcases List.mem_cons.1 hq2 with rfl | h3
          · exact ⟨x :: q2, by simp, List.mem_cons_of_mem _ hcq⟩
          · exact ⟨q2, by simp [h3], hcq⟩
theorem any_mem : ∀ l : List UInt8, (0 : UInt8) ∈ l → 0 ≤ Lib.indexAny l [0, 47]
  | [], h => by cases h
  | x :: l, h => by
    unfold Lib.indexAny
    by_cases hx : ([0, 47] : List UInt8).contains x = true
    · rw [if_pos hx]; decide
    · rw [if_neg hx]
      rcases List.mem_cons.1 h with rfl | h2
      · exact absurd (by decide) hx
      · have ih := any_mem l h2
        split
        · rename_i he
          have he2 := beq_iff_eq.1 he
          omega
        · omega
theorem name_noz {x : ByteArray} (h : nameN x = 0) : (0 : UInt8) ∉ un x := by
  intro hm
  have h1 : Lib.containsAny (un x) [0, 47] = true := by
    unfold Lib.containsAny
    have := any_mem _ hm
    simp; omega
  unfold nameN at h
  rw [h1] at h
  split at h
  · omega
  · split at h
    · omega
    · simp at h
theorem path_noz {p : ByteArray} (h : ∀ x ∈ piecesB p, nameN x = 0) : (0 : UInt8) ∉ un p := fun hm => by
  obtain ⟨q, hq, h0⟩ := mem_cut 0 (by decide) _ hm
  have := name_noz (h (bs q) (List.mem_map.2 ⟨q, hq, rfl⟩))
  rw [un_bs] at this
  exact this h0
theorem noIdx : ∀ l : List UInt8, (0 : UInt8) ∉ l → Lib.indexByte l 0 = -1
  | [], _ => rfl
  | b :: l, h => by
    have ih := noIdx l (fun x => h (List.mem_cons_of_mem _ x))
    have hb : b ≠ 0 := fun e => h (by rw [e]; exact List.mem_cons_self)
    unfold Lib.indexByte
    rw [if_neg (by simpa using hb), ih]; rfl
theorem noZ_of {s : ByteArray} (h : (0 : UInt8) ∉ un s) : noZ s = true := by
  unfold noZ
  rw [noIdx _ h]; rfl
theorem tree_facts {p : ByteArray} (h : checkN p = 0) : toldB p ∧ toldB (whiteoutB p) ∧ p.size ≤ 255 ∧ noZ p = true ∧ noZ (whiteoutB p) = true := by
  obtain ⟨hne, hnm, hdp, hsz, hsp⟩ := check_parts h
  have h0 := first_noslash hnm
  have hp1 : 1 ≤ p.size := (isEmpty_false p).1 hne
  obtain ⟨A, e1, e2, hns, hcase⟩ := white_parts p h0
  have hlm : lastB p ∈ piecesB p := by rcases hcase with ⟨_, _, e⟩ | ⟨_, _, e⟩ <;> rw [e] <;> simp
  have hlok := name_ok (hnm _ hlm)
  have hl1 : 1 ≤ (lastB p).size := by have h1 := hlok.1; unfold full at h1; exact (isEmpty_false _).1 (by simpa using h1)
  have sA : A.length + (lastB p).size = p.size := by rw [← un_length p, e1, List.length_append, un_length]
  have sW : (whiteoutB p).size = p.size + 4 := by rw [← un_length, e2]; simp [wh, un_length]; omega
  have fW := fits_of_ok _ hsp
  have hW0 : (un (whiteoutB p))[0]? ≠ some 47 := by
    rw [e2]
    cases hA : A with
    | nil => simp [wh]
    | cons a A2 => rw [e1, hA] at h0; simpa using h0
  have slash : ∀ i : Nat, (un (whiteoutB p))[i]? = some 47 → i < A.length ∧ (un p)[i]? = some 47 := fun i hi => by
    rcases Nat.lt_or_ge i A.length with hlt | hge
    · refine ⟨hlt, ?_⟩
      rw [e2, List.append_assoc, List.getElem?_append_left hlt] at hi
      rw [e1, List.getElem?_append_left hlt]; exact hi
    · exfalso
      rw [e2, List.append_assoc, List.getElem?_append_right hge] at hi
      have hm := List.mem_of_getElem? hi
      rcases List.mem_append.1 hm with h1 | h1
      · simp [wh] at h1
      · exact hns h1
  have fP : p.size ≤ 100 ∨ ∃ i, good p i ∧ i ≤ 155 := by
    rcases Nat.lt_or_ge 100 p.size with h1 | h1
    · rcases fW with h2 | ⟨i, hg, hi⟩
      · omega
      · obtain ⟨hiA, hip⟩ := slash i hg.1
        exact .inr ⟨i, ⟨hip, by omega, by have := hg.2.2; omega⟩, hi⟩
    · exact .inl h1
  have hz := path_noz hnm
  refine ⟨told_fits p hp1 h0 fP, told_fits _ (by omega) hW0 fW, hsz, noZ_of hz, noZ_of (fun hm => ?_)⟩
  rw [e2] at hm
  rcases List.mem_append.1 hm with h1 | h1
  · rcases List.mem_append.1 h1 with h2 | h2
    · exact hz (by rw [e1]; exact List.mem_append_left _ h2)
    · simp [wh] at h2
  · exact hz (by rw [e1]; exact List.mem_append_right _ h1)
end Go.Proofs.YtjgdeblmgmojcaaGreatDoor
