/- What stays of entries, without a program. -/
import Derived.Test.YtgildlfanfbebaaGreatDoorOrdM
import Derived.Test.YtgildlfanfbebaaGreatDoorSplitM
namespace Go.Proofs.YtgildlfanfbebaaGreatDoor
open Go

/-- An entry. -/
structure Ent where
  path : ByteArray
  kind : Int
  mode : Int
  data : ByteArray
  link : ByteArray
def ecs (e : Ent) : List Value := [.string e.path, .int .i64 e.kind, .int .i64 e.mode, .string e.data, .string e.link]
def ecells (es : List Ent) : List Value := es.flatMap ecs
theorem ecells_cons (e : Ent) (es : List Ent) : ecells (e :: es) = ecs e ++ ecells es := rfl
theorem ecells_length (es : List Ent) : (ecells es).length = es.length * 5 := by
  induction es with
  | nil => rfl
  | cons e es ih => rw [ecells_cons, List.length_append, ih]; simp [ecs]; omega
theorem ecells_append (a b : List Ent) : ecells (a ++ b) = ecells a ++ ecells b := by simp [ecells]
theorem ecells_get : ∀ (es : List Ent) (k : Nat) (e : Ent), es[k]? = some e → ∀ j v, (ecs e)[j]? = some v → (ecells es)[k * 5 + j]? = some v
  | [], k, e, h, _, _, _ => by simp at h
  | q :: es, 0, e, h, j, v, hj => by
    have hq : q = e := by simpa using h
    subst hq
    have hl : j < (ecs q).length := (List.getElem?_eq_some_iff.1 hj).1
    rw [ecells_cons, Nat.zero_mul, Nat.zero_add, List.getElem?_append_left hl]; exact hj
  | q :: es, k + 1, e, h, j, v, hj => by
    have ih := ecells_get es k e (by simpa using h) j v hj
    rw [ecells_cons, List.getElem?_append_right (by simp [ecs]; omega)]
    rw [← ih]; congr 1; simp [ecs]; omega

/-- Is one of the entries that aren't out below a path? -/
def anyB (ok : ByteArray → Bool) (es : List Ent) (dir : ByteArray) : Bool := es.any fun f => belowB dir f.path && ok f.path
def stayB (ok : ByteArray → Bool) (es : List Ent) (e : Ent) : Bool := ok e.path || anyB ok es e.path
/-- What stays. -/
def keepB (ok : ByteArray → Bool) (es : List Ent) : List Ent := es.filter (stayB ok es)

/- The program's way: the texts that aren't out in their order, and a search. -/
theorem pre_between : ∀ {f y x : List UInt8}, ¬ y < f → ¬ x < y → f <+: x → f <+: y
  | [], _, _, _, _, _ => List.nil_prefix
  | a :: f, [], _, h, _, _ => absurd (List.Lex.nil) h
  | a :: f, b :: y, x, h1, h2, hp => by
    obtain ⟨t, rfl⟩ := hp
    rw [List.cons_append] at h2
    rw [List.cons_lt_cons_iff] at h1 h2
    have hab : a = b := by
      have e1 : ¬ b < a := fun h => h1 (.inl h)
      have e2 : ¬ a < b := fun h => h2 (.inl h)
      have e1' : ¬ b.toNat < a.toNat := e1
      have e2' : ¬ a.toNat < b.toNat := e2
      exact UInt8.toNat_inj.1 (by omega)
    subst hab
    have := pre_between (fun h => h1 (.inr ⟨rfl, h⟩)) (fun h => h2 (.inr ⟨rfl, h⟩)) (List.prefix_append f t)
    exact (List.cons_prefix_cons).2 ⟨rfl, this⟩
theorem lt_not_pre : ∀ {f y : List UInt8}, y < f → ¬ f <+: y
  | [], y, h, _ => absurd h (List.not_lt_nil y)
  | a :: f, [], _, hp => by obtain ⟨t, ht⟩ := hp; simp at ht
  | a :: f, b :: y, h, hp => by
    obtain ⟨rfl, h2⟩ := (List.cons_prefix_cons).1 hp
    rw [List.cons_lt_cons_iff] at h
    rcases h with h | ⟨_, h⟩
    · exact absurd (show a.toNat < a.toNat from h) (by omega)
    · exact lt_not_pre h h2
theorem lt_le : ∀ {y f t : List UInt8}, y < f → ¬ t < f → y < t
  | y, [], t, h, _ => absurd h (List.not_lt_nil y)
  | [], b :: f, [], _, h2 => absurd List.Lex.nil h2
  | [], b :: f, c :: t, _, _ => List.Lex.nil
  | a :: y, b :: f, [], _, h2 => absurd List.Lex.nil h2
  | a :: y, b :: f, c :: t, h1, h2 => by
    rw [List.cons_lt_cons_iff] at h1 h2 ⊢
    have e2 : ¬ c.toNat < b.toNat := fun h => h2 (.inl h)
    rcases h1 with h1 | ⟨rfl, h1⟩
    · have e1 : a.toNat < b.toNat := h1
      exact .inl (show a.toNat < c.toNat by omega)
    · by_cases hac : a = c
      · subst hac
        exact .inr ⟨rfl, lt_le h1 (fun h => h2 (.inr ⟨rfl, h⟩))⟩
      · have e3 : a.toNat ≠ c.toNat := fun h => hac (UInt8.toNat_inj.1 h)
        exact .inl (show a.toNat < c.toNat by omega)
theorem search_any (f : List UInt8) : ∀ ts : List (List UInt8), ts.Pairwise (fun a b => ¬ b < a) → ((ts[ts.countP fun y => decide (y < f)]?).any fun y => f.isPrefixOf y) = ts.any fun y => f.isPrefixOf y
  | [], _ => rfl
  | t :: ts, h => by
    obtain ⟨h1, h2⟩ := List.pairwise_cons.1 h
    by_cases hl : t < f
    · have hd : decide (t < f) = true := decide_eq_true hl
      rw [List.countP_cons_of_pos (by simpa using hl), List.getElem?_cons_succ, search_any f ts h2, List.any_cons]
      have : f.isPrefixOf t = false := by
        rw [Bool.eq_false_iff]; intro hp; exact lt_not_pre hl (List.isPrefixOf_iff_prefix.1 hp)
      rw [this, Bool.false_or]
    · have hge : ∀ y ∈ ts, ¬ y < f := fun y hy hyf => by
        have := h1 y hy
        exact this (lt_le hyf hl)
      have hc : (t :: ts).countP (fun y => decide (y < f)) = 0 := by
        rw [List.countP_eq_zero]
        intro y hy
        rcases List.mem_cons.1 hy with rfl | hy
        · simpa using hl
        · simpa using hge y hy
      rw [hc, List.getElem?_cons_zero, Option.any_some, List.any_cons]
      cases hp : f.isPrefixOf t with
      | true => rfl
      | false =>
        rw [Bool.false_or]
        symm
        rw [List.any_eq_false]
        intro y hy hpy
        have := pre_between hl (h1 y hy) (List.isPrefixOf_iff_prefix.1 hpy)
        rw [← List.isPrefixOf_iff_prefix] at this
        rw [hp] at this; cases this
def firstB (dir : ByteArray) : ByteArray := if dir.toList.isEmpty then dir else dir ++ ⟨#[47]⟩
def lessN (dir : ByteArray) (row : List ByteArray) : Nat := row.countP fun y => decide (un y < un (firstB dir))
def anyS (dir : ByteArray) (row : List ByteArray) : Bool := (row[lessN dir row]?).any fun y => belowB dir y
theorem anyS_eq (dir : ByteArray) (row : List ByteArray) (hs : (row.map un).Pairwise (fun a b => ¬ b < a)) (h0 : dir.size = 0 → ∀ y ∈ row, y.size ≠ 0) : anyS dir row = row.any (belowB dir) := by
  unfold anyS lessN firstB
  cases he : dir.toList.isEmpty with
  | true =>
    have hz : dir.size = 0 := (isEmpty_iff _).1 he
    have hud : un dir = [] := by rw [← List.length_eq_zero_iff, un_length]; exact hz
    have hc : row.countP (fun y => decide (un y < un (if true = true then dir else dir ++ ⟨#[47]⟩))) = 0 := by
      rw [List.countP_eq_zero]; intro y _; simp [hud]
    rw [hc]
    have hb : ∀ y ∈ row, belowB dir y = true := fun y hy => by
      unfold belowB; rw [he, if_pos rfl]
      have := h0 hz y hy
      rw [(isEmpty_false y).2 (by omega)]; rfl
    cases row with
    | nil => rfl
    | cons y row => simp [hb y (by simp)]
  | false =>
    have hf : un (if false = true then dir else dir ++ ⟨#[47]⟩) = un dir ++ [47] := by
      rw [if_neg (by decide), un_append]; rfl
    rw [hf]
    have hb : ∀ y, belowB dir y = (un dir ++ [47]).isPrefixOf (un y) := fun y => by rw [belowB_r dir y he]; rfl
    have h := search_any (un dir ++ [47]) (row.map un) hs
    rw [List.countP_map, List.any_map, List.getElem?_map] at h
    have hb2 : belowB dir = fun y => (un dir ++ [47]).isPrefixOf (un y) := funext hb
    rw [hb2]
    rw [Option.any_map] at h
    exact h
/-- The texts that aren't out. -/
def inL (ok : ByteArray → Bool) (es : List Ent) : List ByteArray := (es.map Ent.path).filter ok
/-- They in their order. -/
def srtL (ok : ByteArray → Bool) (es : List Ent) : List ByteArray := (((inL ok es).map un).mergeSort fun x y => decide (x ≤ y)).map bs
theorem srt_un (l : List (List UInt8)) : (l.map bs).map un = l := by
  rw [List.map_map]; induction l with | nil => rfl | cons x l ih => simp [un_bs, ih]
theorem srt_pair (ok : ByteArray → Bool) (es : List Ent) : ((srtL ok es).map un).Pairwise (fun a b => ¬ b < a) := by
  unfold srtL
  rw [srt_un]
  have h := List.pairwise_mergeSort (le := fun x y : List UInt8 => decide (x ≤ y)) (fun a b c h1 h2 => decide_eq_true (List.le_trans (of_decide_eq_true h1) (of_decide_eq_true h2))) (fun a b => by
    rcases List.le_total a b with h | h
    · simp [h]
    · simp [h]) ((inL ok es).map un)
  exact h.imp fun {a b} hh => List.not_lt.2 (of_decide_eq_true hh)
theorem srt_mem (ok : ByteArray → Bool) (es : List Ent) (y : ByteArray) : y ∈ srtL ok es ↔ y ∈ inL ok es := by
  unfold srtL
  rw [List.mem_map]
  constructor
  · rintro ⟨x, hx, rfl⟩
    rw [List.mem_mergeSort, List.mem_map] at hx
    obtain ⟨z, hz, rfl⟩ := hx
    rw [bs_un]; exact hz
  · intro h
    exact ⟨un y, by rw [List.mem_mergeSort]; exact List.mem_map_of_mem h, bs_un y⟩
theorem srt_length (ok : ByteArray → Bool) (es : List Ent) : (srtL ok es).length = (inL ok es).length := by unfold srtL; simp
theorem in_mem (ok : ByteArray → Bool) (es : List Ent) (y : ByteArray) : y ∈ inL ok es ↔ ∃ f ∈ es, f.path = y ∧ ok y = true := by
  unfold inL; rw [List.mem_filter, List.mem_map]
  constructor
  · rintro ⟨⟨f, h1, rfl⟩, h2⟩; exact ⟨f, h1, rfl, h2⟩
  · rintro ⟨f, h1, rfl, h2⟩; exact ⟨⟨f, h1, rfl⟩, h2⟩
/-- The program's test is the document's. -/
theorem anyS_stay (ok : ByteArray → Bool) (es : List Ent) (dir : ByteArray) (hd : ok dir = false) : anyS dir (srtL ok es) = anyB ok es dir := by
  rw [anyS_eq dir _ (srt_pair ok es) (fun hz y hy hy0 => by
    obtain ⟨f, _, _, h⟩ := (in_mem ok es y).1 ((srt_mem ok es y).1 hy)
    have e : y = dir := un_inj (by
      have h1 : un y = [] := by rw [← List.length_eq_zero_iff, un_length]; exact hy0
      have h2 : un dir = [] := by rw [← List.length_eq_zero_iff, un_length]; exact hz
      rw [h1, h2])
    rw [e, hd] at h; cases h)]
  rw [Bool.eq_iff_iff, List.any_eq_true]
  unfold anyB
  rw [List.any_eq_true]
  constructor
  · rintro ⟨y, hy, hb⟩
    obtain ⟨f, h1, h2, h3⟩ := (in_mem ok es y).1 ((srt_mem ok es y).1 hy)
    exact ⟨f, h1, by rw [h2, hb, h3]; rfl⟩
  · rintro ⟨f, h1, h2⟩
    rw [Bool.and_eq_true] at h2
    exact ⟨f.path, (srt_mem ok es _).2 ((in_mem ok es _).2 ⟨f, h1, rfl, h2.2⟩), h2.1⟩
def keepS (ok : ByteArray → Bool) (es : List Ent) (e : Ent) : Bool := ok e.path || anyS e.path (srtL ok es)
theorem keepS_eq (ok : ByteArray → Bool) (es : List Ent) (e : Ent) : keepS ok es e = stayB ok es e := by
  unfold keepS stayB
  cases h : ok e.path with
  | true => rfl
  | false => rw [anyS_stay ok es _ h]

/- What stays stays once more. -/
theorem keep_again (ok : ByteArray → Bool) (es : List Ent) : keepB ok (keepB ok es) = keepB ok es := by
  unfold keepB
  rw [List.filter_eq_self]
  intro e he
  have h2 := (List.mem_filter.1 he).2
  unfold stayB at h2 ⊢
  rw [Bool.or_eq_true] at h2 ⊢
  rcases h2 with h | h
  · exact .inl h
  · right
    unfold anyB at h
    rw [List.any_eq_true] at h
    obtain ⟨f, hf, hb⟩ := h
    have hb2 := hb
    rw [Bool.and_eq_true] at hb2
    exact List.any_eq_true.2 ⟨f, List.mem_filter.2 ⟨hf, by rw [hb2.2]; rfl⟩, hb⟩
theorem filter_at (p : Ent → Bool) : ∀ (es : List Ent) (i : Nat) (e : Ent), es[i]? = some e → p e = true → (es.filter p)[((es.take i).filter p).length]? = some e
  | [], i, e, h, _ => by simp at h
  | q :: es, 0, e, h, hp => by
    have hq : q = e := by simpa using h
    subst hq
    simp [hp]
  | q :: es, i + 1, e, h, hp => by
    have ih := filter_at p es i e (by simpa using h) hp
    rw [List.take_succ_cons, List.filter_cons, List.filter_cons]
    cases p q with
    | true => simpa using ih
    | false => simpa using ih
theorem filter_take_succ (p : Ent → Bool) (es : List Ent) (i : Nat) (e : Ent) (h : es[i]? = some e) : ((es.take (i + 1)).filter p).length = ((es.take i).filter p).length + (if p e then 1 else 0) := by
  rw [List.take_add_one, h, List.filter_append, List.length_append]
  cases hp : p e <;> simp [hp]

/- Entries that rise, each behind its directory. -/
def parOK (l : List Ent) (e : Ent) : Prop := (parentB e.path).size = 0 ∨ ∃ f ∈ l, f.path = parentB e.path ∧ f.kind = 1
def ahead1 (l : List Ent) (e : Ent) : Prop := ∀ d, l.getLast? = some d → compareN d.path e.path < 0
def Rises (es : List Ent) : Prop := es.Pairwise (fun a b => compareN a.path b.path < 0) ∧ ∀ pre e post, es = pre ++ e :: post → parOK pre e
theorem rises_nil : Rises [] := ⟨List.Pairwise.nil, fun pre e post h => by simp at h⟩
theorem rises_pre {a b : List Ent} (h : Rises (a ++ b)) : Rises a := ⟨(List.pairwise_append.1 h.1).1, fun pre e post he => h.2 pre e (post ++ b) (by rw [he]; simp)⟩
theorem rises_snoc {l : List Ent} {e : Ent} (h : Rises l) (h1 : ahead1 l e) (h2 : parOK l e) : Rises (l ++ [e]) := by
  refine ⟨List.pairwise_append.2 ⟨h.1, List.pairwise_singleton _ _, fun a ha b hb => ?_⟩, fun pre x post he => ?_⟩
  · obtain rfl : b = e := by simpa using hb
    rcases List.eq_nil_or_concat l with rfl | ⟨l', d, rfl⟩
    · cases ha
    · have hd := h1 d (by simp)
      rw [List.concat_eq_append, List.mem_append] at ha
      rcases ha with ha | ha
      · have := (List.pairwise_append.1 (by rw [← List.concat_eq_append]; exact h.1)).2.2 a ha d (by simp)
        exact order_trans this hd
      · obtain rfl : a = d := by simpa using ha
        exact hd
  · rcases List.eq_nil_or_concat post with rfl | ⟨p', d, rfl⟩
    · have := List.append_inj' he (by simp)
      obtain ⟨rfl, h3⟩ := this
      have h4 : x = e := by simpa using h3.symm
      rw [h4]; exact h2
    · rw [List.concat_eq_append] at he
      have e2 : l ++ [e] = (pre ++ x :: p') ++ [d] := by rw [he]; simp
      have := List.append_inj' e2 (by simp)
      exact h.2 pre x p' this.1
theorem rises_last {l : List Ent} {e : Ent} (h : Rises (l ++ [e])) : ahead1 l e ∧ parOK l e := by
  refine ⟨fun d hd => ?_, h.2 l e [] rfl⟩
  exact (List.pairwise_append.1 h.1).2.2 d (List.mem_of_getLast? hd) e (by simp)

theorem parent_below {p : ByteArray} (h : (parentB p).size ≠ 0) : belowB (parentB p) p = true := by
  have hne : (parentB p).toList.isEmpty = false := (isEmpty_false _).2 (by omega)
  rw [below_iff hne]
  unfold parentB at h ⊢
  by_cases hl : Lib.lastIndexByte p 47 < 0
  · rw [if_pos hl] at h; exact absurd rfl h
  · rw [if_neg hl]
    rcases Lib.lastIdx_spec p 47 p.size with ⟨h2, hn⟩ | ⟨i, hi, h2, hc, hn⟩
    · have e : Lib.lastIndexByte p 47 = -1 := h2
      omega
    · have e : Lib.lastIndexByte p 47 = i := h2
      rw [e, un_extract]
      have hc2 : p.data[i]! = p[i] := getElem!_pos p.data i hi
      rw [hc2] at hc
      have hget : (un p)[i]? = some 47 := by rw [un_getElem? p i hi]; congr 1; exact UInt8.toNat_inj.1 (by show p[i].toNat = 47; omega)
      have hlt : i < (un p).length := by rw [un_length]; exact hi
      have hdrop : (un p).drop i = 47 :: (un p).drop (i + 1) := by
        rw [List.drop_eq_getElem_cons hlt]
        rw [List.getElem?_eq_getElem hlt] at hget
        rw [Option.some.inj hget]
      refine ⟨(un p).drop (i + 1), ?_⟩
      rw [← hdrop]
      simp
theorem below_trans {a b c : ByteArray} (ha : a.size ≠ 0) (h1 : belowB a b = true) (h2 : belowB b c = true) : belowB a c = true := by
  have hae : a.toList.isEmpty = false := (isEmpty_false _).2 (by omega)
  obtain ⟨t, ht⟩ := (below_iff hae).1 h1
  have hbe : b.toList.isEmpty = false := (isEmpty_false _).2 (by rw [← un_length, ht]; simp; omega)
  obtain ⟨u, hu⟩ := (below_iff hbe).1 h2
  exact (below_iff hae).2 ⟨t ++ 47 :: u, by rw [hu, ht]; simp⟩
theorem split_filter (p : Ent → Bool) : ∀ (es pre : List Ent) (e : Ent) (post : List Ent), es.filter p = pre ++ e :: post → ∃ a b, es = a ++ e :: b ∧ a.filter p = pre ∧ p e = true
  | [], pre, e, post, h => by simp at h
  | q :: es, pre, e, post, h => by
    rw [List.filter_cons] at h
    by_cases hq : p q = true
    · rw [if_pos hq] at h
      cases pre with
      | nil =>
        simp at h
        obtain ⟨rfl, _⟩ := h
        exact ⟨[], es, rfl, rfl, hq⟩
      | cons x pre =>
        simp at h
        obtain ⟨rfl, h⟩ := h
        obtain ⟨a, b, h1, h2, h3⟩ := split_filter p es pre e post h
        exact ⟨q :: a, b, by rw [h1]; rfl, by rw [List.filter_cons, if_pos hq, h2], h3⟩
    · rw [if_neg hq] at h
      obtain ⟨a, b, h1, h2, h3⟩ := split_filter p es pre e post h
      exact ⟨q :: a, b, by rw [h1]; rfl, by rw [List.filter_cons, if_neg hq, h2], h3⟩
theorem keep_rises (ok : ByteArray → Bool) (es : List Ent) (h : Rises es) : Rises (keepB ok es) := by
  refine ⟨h.1.sublist List.filter_sublist, fun pre e post he => ?_⟩
  obtain ⟨a, b, h1, h2, h3⟩ := split_filter _ es pre e post he
  rcases h.2 a e b h1 with h4 | ⟨f, hf, h5, h6⟩
  · exact .inl h4
  · by_cases hz : (parentB e.path).size = 0
    · exact .inl hz
    · right
      refine ⟨f, ?_, h5, h6⟩
      rw [← h2, List.mem_filter]
      refine ⟨hf, ?_⟩
      have hb := parent_below hz
      unfold stayB at h3 ⊢
      rw [Bool.or_eq_true] at h3 ⊢
      right
      unfold anyB
      rw [List.any_eq_true]
      rcases h3 with h3 | h3
      · exact ⟨e, by rw [h1]; simp, by rw [h5, hb, h3]; rfl⟩
      · unfold anyB at h3
        rw [List.any_eq_true] at h3
        obtain ⟨g, hg, hgb⟩ := h3
        rw [Bool.and_eq_true] at hgb
        exact ⟨g, hg, by rw [h5, below_trans hz hb hgb.1, hgb.2]; rfl⟩
end Go.Proofs.YtgildlfanfbebaaGreatDoor
