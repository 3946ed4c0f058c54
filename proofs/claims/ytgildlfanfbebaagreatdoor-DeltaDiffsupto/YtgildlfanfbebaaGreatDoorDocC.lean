/- The document's Changes. -/
import Derived.Test.YtgildlfanfbebaaGreatDoorDelM
import Derived.Test.YtgildlfanfbebaaGreatDoorUnlW
import Derived.Test.YtgildlfanfbebaaGreatDoorSpec
import Derived.Test.YtgildlfanfbebaaGreatDoorProg
import Derived.WalkKit
import Derived.WalkSpells
import Derived.Test.YtgildlfanfbebaaGreatDoorSplitM
import Derived.Deep.QuietTactic
import Derived.BigQuiet
import Derived.Outline
import Derived.Test.YtgildlfanfbebaaGreatDoorName
import Derived.Test.YtgildlfanfbebaaGreatDoorBelM
import Derived.Test.YtgildlfanfbebaaGreatDoorOwnM
import Derived.Test.YtgildlfanfbebaaGreatDoorCheck
import Derived.OwnWalk
import Derived.Test.YtgildlfanfbebaaGreatDoorGrowM
import Derived.Test.YtgildlfanfbebaaGreatDoorBelK
import Derived.Test.YtgildlfanfbebaaGreatDoorCompare
import Derived.WalkLawsBesides
import Derived.Test.YtgildlfanfbebaaGreatDoorEntW
import Derived.Test.YtgildlfanfbebaaGreatDoorSet
import Derived.Laws.IdiomStrings
import Derived.Laws.CopyOwn
import Derived.Test.YtgildlfanfbebaaGreatDoorGrowW
import Derived.Deep.CutRange
import Derived.ArgAppend
import Derived.Deep.DeepAppendRoom
import Derived.Deep.MidRow
import Derived.Laws.OwnMore
import Derived.Deep.RegionWith
import Derived.Maps.AppendAt

namespace Go.Proofs.YtgildlfanfbebaaGreatDoor
open Go Go.RowKit

/-- The document's lost: an entry that the other tree has not, or of another sort. -/
def lostD (e : Ent) (b : List Ent) : Bool := match b.find? (pathIs e.path) with | none => true | some y => (y.kind == 1) != (e.kind == 1)
/-- Its gone, at a's entry i. -/
def goneD (a b : List Ent) (i : Nat) : Bool := match a[i]? with | none => false | some x => lostD x b && !((a.take i).any fun t => belowB t.path x.path && lostD t b)
/-- Its laid. -/
def laidD (a : List Ent) (e : Ent) : Bool := match a.find? (pathIs e.path) with | none => true | some o => !eqE o e
structure DInv (a b A0 A1 B0 B1 : List Ent) (top : ByteArray) : Prop where
  ea : a = A0 ++ A1
  eb : b = B0 ++ B1
  l1 : ∀ x ∈ B0, ∀ y ∈ A1, ltE x y
  l2 : ∀ x ∈ A0, ∀ y ∈ B1, ltE x y
  tp : top.size = 0 ∨ ∃ t ∈ A0, t.path = top ∧ lostD t b = true
  cov : ∀ t ∈ A0, lostD t b = true → ∀ z ∈ A1, belowB t.path z.path = true → freeB top z.path = false

theorem DInv.begin (a b : List Ent) : DInv a b [] a [] b ⟨#[]⟩ := ⟨rfl, rfl, by simp, by simp, .inl rfl, by simp⟩
theorem lostD_none {x : Ent} {b : List Ent} (h : ∀ e ∈ b, e.path ≠ x.path) : lostD x b = true := by
  unfold lostD; rw [find_no h]
theorem lostD_some {x y : Ent} {b : List Ent} (hb : TrL b) (hy : y ∈ b) (hp : y.path = x.path) : lostD x b = !sortB x y := by
  unfold lostD; rw [find_mem hb.order hy hp]
  have := kind_ne (hb.right y hy)
  simp only [sortB, this, Bool.true_and]
  cases (x.kind == 1) <;> cases (y.kind == 1) <;> rfl
theorem DInv.top_lt {a b A0 A1 B0 B1 : List Ent} {top : ByteArray} (ha : TrL a) (hI : DInv a b A0 A1 B0 B1 top) {x : Ent} (hx : x ∈ A1) : top.size = 0 ∨ compareN top x.path < 0 := by
  rcases hI.tp with h | ⟨t, ht, rfl, _⟩
  · exact .inl h
  · have ho := ha.order
    rw [hI.ea] at ho
    exact .inr ((List.pairwise_append.1 ho).2.2 t ht x hx)
/-- At a's next entry: the document's gone says what lostB says. -/
theorem gone_eq {a b A0 A B0 B1 : List Ent} {top : ByteArray} {x o : Ent} (ha : TrL a) (hI : DInv a b A0 (x :: A) B0 B1 top) (ho : lostD x b = !sortB x o) : goneD a b A0.length = lostB top (x, o) := by
  have hxa : x ∈ a := by rw [hI.ea]; simp
  have hk := kind_ne (ha.right x hxa)
  have h1 : a[A0.length]? = some x := by rw [hI.ea]; simp
  have h2 : a.take A0.length = A0 := by rw [hI.ea]; simp
  have h3 : (A0.any fun t => belowB t.path x.path && lostD t b) = !freeB top x.path := by
    cases hf : freeB top x.path with
    | true =>
      rw [Bool.not_true, List.any_eq_false]
      intro t ht h
      rw [Bool.and_eq_true] at h
      rw [hI.cov t ht h.2 x (by simp) h.1] at hf; cases hf
    | false =>
      rw [Bool.not_false, List.any_eq_true]
      unfold freeB at hf
      rw [Bool.or_eq_false_iff] at hf
      obtain ⟨he, hb⟩ := hf
      rcases hI.tp with h | ⟨t, ht, hp, hl⟩
      · have := (isEmpty_false top).1 he; omega
      · exact ⟨t, ht, by rw [hp, hl]; simpa using hb⟩
  unfold goneD lostB
  rw [h1]
  simp only [h2, h3, hk, ho, Bool.true_and, Bool.not_not]
/-- Past a's next entry. -/
theorem DInv.past {a b A0 A B0 B1 : List Ent} {top : ByteArray} {x o : Ent} (ha : TrL a) (hI : DInv a b A0 (x :: A) B0 B1 top) (ho : lostD x b = !sortB x o) :
    ((topN top (x, o)).size = 0 ∨ ∃ t ∈ A0 ++ [x], t.path = topN top (x, o) ∧ lostD t b = true) ∧
    ∀ t ∈ A0 ++ [x], lostD t b = true → ∀ z ∈ A, belowB t.path z.path = true → freeB (topN top (x, o)) z.path = false := by
  have hxa : x ∈ a := by rw [hI.ea]; simp
  have hxw := ha.right x hxa
  have hk := kind_ne hxw
  have hx0 := path_full hxw
  have hoa := ha.order
  rw [hI.ea] at hoa
  obtain ⟨_, oa2, _⟩ := List.pairwise_append.1 hoa
  have hA : ∀ z ∈ A, compareN x.path z.path < 0 := fun z hz => (List.pairwise_cons.1 oa2).1 z hz
  have hz0 : ∀ z ∈ A, z.path.size ≠ 0 := fun z hz => path_full (ha.right z (by rw [hI.ea]; simp [hz]))
  cases hl : lostB top (x, o) with
  | true =>
    have htop : topN top (x, o) = x.path := by simp [topN, hl]
    have hl' := hl
    unfold lostB at hl'
    simp only [hk, Bool.true_and, Bool.and_eq_true] at hl'
    have hlx : lostD x b = true := by rw [ho]; exact hl'.1
    rw [htop]
    refine ⟨.inr ⟨x, by simp, rfl, hlx⟩, fun t ht hlt z hz hb => ?_⟩
    rcases List.mem_append.1 ht with h | h
    · have := hI.cov t h hlt z (by simp [hz]) hb
      rw [free_on hl'.2 (hI.top_lt ha (by simp)) (hA z hz)] at this; cases this
    · simp at h; subst h
      unfold freeB; rw [ne_empty hx0, hb]; rfl
  | false =>
    have htop : topN top (x, o) = top := by simp [topN, hl]
    rw [htop]
    refine ⟨?_, fun t ht hlt z hz hb => ?_⟩
    · rcases hI.tp with h | ⟨t, ht, hp, hlt⟩
      · exact .inl h
      · exact .inr ⟨t, by simp [ht], hp, hlt⟩
    rcases List.mem_append.1 ht with h | h
    · exact hI.cov t h hlt z (by simp [hz]) hb
    · simp at h; subst h
      unfold lostB at hl
      rw [ho] at hlt
      simp only [hk, Bool.true_and, hlt] at hl
      unfold freeB at hl ⊢
      rw [Bool.or_eq_false_iff] at hl ⊢
      obtain ⟨h1, h2⟩ := hl
      have hs : top.size ≠ 0 := by have := (isEmpty_false top).1 h1; omega
      refine ⟨h1, ?_⟩
      rw [Bool.not_eq_false'] at h2 ⊢
      exact below_trans hs h2 hb

theorem lt_no {x : Ent} {L : List Ent} (h : ∀ e ∈ L, ltE x e) : ∀ e ∈ L, e.path ≠ x.path := fun e he hp => by
  have := h e he; unfold ltE at this; rw [hp, order_self] at this; omega
theorem gt_no {x : Ent} {L : List Ent} (h : ∀ e ∈ L, ltE e x) : ∀ e ∈ L, e.path ≠ x.path := fun e he hp => by
  have := h e he; unfold ltE at this; rw [hp, order_self] at this; omega
theorem apart_no {x : Ent} {K L : List Ent} (h : ∀ e ∈ K, ltE e x) (h' : ∀ e ∈ L, ltE x e) : ∀ e ∈ K ++ L, e.path ≠ x.path := fun e he => by
  rcases List.mem_append.1 he with he | he
  · exact gt_no h e he
  · exact lt_no h' e he
theorem near_lt {x : Ent} {A B1 : List Ent} (hlt : nearN (x :: A) B1 < 0) (ob : B1.Pairwise ltE) : ∀ e ∈ B1, ltE x e := fun e he => by
  cases B1 with
  | nil => simp at he
  | cons y B =>
    have hxy : compareN x.path y.path < 0 := hlt
    rcases List.mem_cons.1 he with h | h
    · rw [h]; exact hxy
    · have := (List.pairwise_cons.1 ob).1 e h
      unfold ltE at this ⊢
      exact order_trans hxy this
theorem near_gt {y : Ent} {A1 B : List Ent} (hgt : 0 < nearN A1 (y :: B)) (oa : A1.Pairwise ltE) : ∀ e ∈ A1, ltE y e := fun v hv => by
  cases A1 with
  | nil => simp at hv
  | cons x A =>
    have hxy : 0 < compareN x.path y.path := hgt
    have h3 := order_neg x.path y.path
    have h4 : compareN y.path x.path < 0 := by omega
    rcases List.mem_cons.1 hv with h | h
    · rw [h]; exact h4
    · have := (List.pairwise_cons.1 oa).1 v h
      exact order_trans h4 this
/-- Only the first row has something here. -/
theorem doc_lt {a b A0 A B0 B1 : List Ent} {top : ByteArray} {x : Ent} (ha : TrL a) (hb : TrL b) (hI : DInv a b A0 (x :: A) B0 B1 top) (hlt : nearN (x :: A) B1 < 0) :
    goneD a b A0.length = lostB top (x, noEnt) ∧ newB (x, noEnt) = false ∧ DInv a b (A0 ++ [x]) A B0 B1 (topN top (x, noEnt)) := by
  have hob := hb.order
  rw [hI.eb] at hob
  obtain ⟨_, ob2, _⟩ := List.pairwise_append.1 hob
  have hl : lostD x b = !sortB x noEnt := by
    rw [sort_none, hI.eb]
    exact lostD_none (apart_no (fun e he => hI.l1 e he x (by simp)) (near_lt hlt ob2))
  refine ⟨gone_eq ha hI hl, by simp [newB, noEnt], by rw [hI.ea]; simp, hI.eb, fun u hu v hv => hI.l1 u hu v (by simp [hv]), fun u hu v hv => ?_, (hI.past ha hl).1, (hI.past ha hl).2⟩
  rcases List.mem_append.1 hu with h | h
  · exact hI.l2 u h v hv
  · simp at h; subst h; exact near_lt hlt ob2 v hv
/-- Both have something at one path. -/
theorem doc_eq {a b A0 A B0 B : List Ent} {top : ByteArray} {x y : Ent} (ha : TrL a) (hb : TrL b) (hI : DInv a b A0 (x :: A) B0 (y :: B) top) (hxy : x.path = y.path) :
    goneD a b A0.length = lostB top (x, y) ∧ laidD a y = newB (x, y) ∧ DInv a b (A0 ++ [x]) A (B0 ++ [y]) B (topN top (x, y)) := by
  have hxa : x ∈ a := by rw [hI.ea]; simp
  have hyb : y ∈ b := by rw [hI.eb]; simp
  have hoa := ha.order
  have hob := hb.order
  rw [hI.ea] at hoa
  rw [hI.eb] at hob
  obtain ⟨_, oa2, _⟩ := List.pairwise_append.1 hoa
  obtain ⟨_, ob2, _⟩ := List.pairwise_append.1 hob
  have hl : lostD x b = !sortB x y := lostD_some hb hyb hxy.symm
  refine ⟨gone_eq ha hI hl, ?_, by rw [hI.ea]; simp, by rw [hI.eb]; simp, fun u hu v hv => ?_, fun u hu v hv => ?_, (hI.past ha hl).1, (hI.past ha hl).2⟩
  · unfold laidD newB
    rw [find_mem ha.order hxa hxy]
    have := kind_ne (hb.right y hyb)
    simp only [this, Bool.true_and]
    congr 1
    cases h : eqE y x with
    | true => rw [(eqE_iff y x).1 h]; exact eqE_self x
    | false =>
      cases h' : eqE x y with
      | false => rfl
      | true => rw [(eqE_iff x y).1 h', eqE_self] at h; cases h
  · rcases List.mem_append.1 hu with h | h
    · exact hI.l1 u h v (by simp [hv])
    · simp at h; subst h
      have := (List.pairwise_cons.1 oa2).1 v hv
      unfold ltE at this ⊢; rw [← hxy]; exact this
  · rcases List.mem_append.1 hu with h | h
    · exact hI.l2 u h v (by simp [hv])
    · simp at h; subst h
      have := (List.pairwise_cons.1 ob2).1 v hv
      unfold ltE at this ⊢; rw [hxy]; exact this
/-- Only the second row has something here. -/
theorem doc_gt {a b A0 A1 B0 B : List Ent} {top : ByteArray} {y : Ent} (ha : TrL a) (hb : TrL b) (hI : DInv a b A0 A1 B0 (y :: B) top) (hgt : 0 < nearN A1 (y :: B)) :
    lostB top (noEnt, y) = false ∧ laidD a y = newB (noEnt, y) ∧ DInv a b A0 A1 (B0 ++ [y]) B (topN top (noEnt, y)) := by
  have hyb : y ∈ b := by rw [hI.eb]; simp
  have hyw := hb.right y hyb
  have hoa := ha.order
  rw [hI.ea] at hoa
  obtain ⟨_, oa2, _⟩ := List.pairwise_append.1 hoa
  have hl2 : lostB top (noEnt, y) = false := by simp [lostB, noEnt]
  have htop : topN top (noEnt, y) = top := by simp [topN, hl2]
  have hno : ∀ e ∈ a, e.path ≠ y.path := by
    rw [hI.ea]; exact apart_no (fun e he => hI.l2 e he y (by simp)) (near_gt hgt oa2)
  rw [htop]
  refine ⟨hl2, ?_, hI.ea, by rw [hI.eb]; simp, fun u hu v hv => ?_, fun u hu v hv => hI.l2 u hu v (by simp [hv]), hI.tp, hI.cov⟩
  · unfold laidD newB
    rw [find_no hno]
    have hk := kind_ne hyw
    have hne : eqE y noEnt = false := by
      cases he : eqE y noEnt with
      | false => rfl
      | true =>
        rw [(eqE_iff y noEnt).1 he] at hk
        simp [noEnt] at hk
    simp [hk, hne]
  · rcases List.mem_append.1 hu with h | h
    · exact hI.l1 u h v hv
    · simp at h; subst h; exact near_gt hgt oa2 v hv

end Go.Proofs.YtgildlfanfbebaaGreatDoor

namespace Go.Proofs.YtgildlfanfbebaaGreatDoor
open Go Go.RowKit

structure ChI (A B : List Ent) (i k : Nat) (pre : List (Ent × Ent)) : Prop where
  d : DInv A B (A.take i) (A.drop i) (B.take k) (B.drop k) (topF ⟨#[]⟩ pre)
  t : togL A B = pre ++ togL (A.drop i) (B.drop k)
  hi : i ≤ A.length
  hk : k ≤ B.length
theorem ChI.begin (A B : List Ent) : ChI A B 0 0 [] := ⟨by simpa [topF] using DInv.begin A B, by simp, Nat.zero_le _, Nat.zero_le _⟩
theorem ChI.over {A B : List Ent} {pre : List (Ent × Ent)} {i k : Nat} (h : ChI A B i k pre) (hi : ¬ i < A.length) (hk : ¬ k < B.length) : emL ⟨#[]⟩ pre = unlikeL A B := by
  have := h.t
  rw [List.drop_eq_nil_of_le (by omega), List.drop_eq_nil_of_le (by omega), togL, List.append_nil] at this
  unfold unlikeL; rw [this]
theorem ChI.len {A B : List Ent} {pre : List (Ent × Ent)} {i k : Nat} (h : ChI A B i k pre) : (emL ⟨#[]⟩ pre).length ≤ 2 * (A.length + B.length) := by
  have h1 := emL_len pre ⟨#[]⟩
  have h2 := togL_len _ A B (Nat.le_refl _)
  have h3 := congrArg List.length h.t
  rw [List.length_append] at h3
  omega
theorem drop_at {A : List Ent} {i : Nat} {x : Ent} (h : A[i]? = some x) : A.drop i = x :: A.drop (i + 1) := by
  have hi := (List.getElem?_eq_some_iff.1 h)
  rw [List.drop_eq_getElem_cons hi.1, hi.2]
theorem take_at {A : List Ent} {i : Nat} {x : Ent} (h : A[i]? = some x) : A.take i ++ [x] = A.take (i + 1) := by
  rw [List.take_add_one, h]; rfl
theorem ChI.lt {A B : List Ent} {pre : List (Ent × Ent)} {i k : Nat} {x : Ent} (ha : TrL A) (hb : TrL B) (h : ChI A B i k pre) (hx : A[i]? = some x) (hn : nearN (A.drop i) (B.drop k) < 0) :
    ChI A B (i + 1) k (pre ++ [(x, noEnt)]) ∧ emL ⟨#[]⟩ (pre ++ [(x, noEnt)]) = emL ⟨#[]⟩ pre ++ (if goneD A B i then [goneC x.path] else []) := by
  have hl := (List.getElem?_eq_some_iff.1 hx).1
  have hd := h.d
  have hd9 := drop_at hx
  obtain ⟨x', A', e1, e2⟩ := togL_lt hn (by rw [hd9]; simp)
  rw [hd9] at e1 hd hn
  cases e1
  obtain ⟨g1, g2, g3⟩ := doc_lt ha hb hd hn
  rw [List.length_take, Nat.min_eq_left (by omega)] at g1
  refine ⟨⟨?_, ?_, by omega, h.hk⟩, ?_⟩
  · rw [topF_snoc, ← take_at hx]; exact g3
  · rw [h.t, e2]; simp
  · rw [emL_snoc, emO, g1, g2]; simp
theorem ChI.eq {A B : List Ent} {pre : List (Ent × Ent)} {i k : Nat} {x y : Ent} (ha : TrL A) (hb : TrL B) (h : ChI A B i k pre) (hx : A[i]? = some x) (hy : B[k]? = some y) (hn : compareN x.path y.path = 0) :
    ChI A B (i + 1) (k + 1) (pre ++ [(x, y)]) ∧ emL ⟨#[]⟩ (pre ++ [(x, y)]) = (emL ⟨#[]⟩ pre ++ (if goneD A B i then [goneC x.path] else [])) ++ (if laidD A y then [laidC y] else []) := by
  have hl := (List.getElem?_eq_some_iff.1 hx).1
  have hl2 := (List.getElem?_eq_some_iff.1 hy).1
  have hd := h.d
  have hn' : nearN (A.drop i) (B.drop k) = 0 := by rw [drop_at hx, drop_at hy]; exact hn
  obtain ⟨x', A', y', B', e1, e3, e2⟩ := togL_eq hn'
  rw [drop_at hx] at e1 hd
  rw [drop_at hy] at e3 hd
  cases e1; cases e3
  obtain ⟨g1, g2, g3⟩ := doc_eq ha hb hd (order_zero hn)
  rw [List.length_take, Nat.min_eq_left (by omega)] at g1
  refine ⟨⟨?_, ?_, by omega, by omega⟩, ?_⟩
  · rw [topF_snoc, ← take_at hx, ← take_at hy]; exact g3
  · rw [h.t, e2]; simp
  · rw [emL_snoc, emO, g1, g2]; simp
theorem ChI.gt {A B : List Ent} {pre : List (Ent × Ent)} {i k : Nat} {y : Ent} (ha : TrL A) (hb : TrL B) (h : ChI A B i k pre) (hy : B[k]? = some y) (hn : 0 < nearN (A.drop i) (B.drop k)) :
    ChI A B i (k + 1) (pre ++ [(noEnt, y)]) ∧ emL ⟨#[]⟩ (pre ++ [(noEnt, y)]) = emL ⟨#[]⟩ pre ++ (if laidD A y then [laidC y] else []) := by
  have hl := (List.getElem?_eq_some_iff.1 hy).1
  have hd := h.d
  obtain ⟨y', B', e1, e2⟩ := togL_gt hn
  rw [drop_at hy] at e1 hd hn
  cases e1
  obtain ⟨g1, g2, g3⟩ := doc_gt ha hb hd hn
  refine ⟨⟨?_, ?_, h.hi, by omega⟩, ?_⟩
  · rw [topF_snoc, ← take_at hy]; exact g3
  · rw [h.t, e2]; simp
  · rw [emL_snoc, emO, g1, g2]; simp
/-- 'append' of a drawn region. -/
theorem wp_append_row {P : Program} (w : World) {o : Oper} {a : Act} {K : Act → World → Prop} {Q : Exit → Act → World → Prop}
    (s x : Operand) (t : TypeId) (hop : o.op = Op.call { callee := Callee.builtin Builtin.append, args := #[s, x], argTypes := #[t, t] })
    (base : Nat) (e : TypeId) (i : TypeInfo) (z : Value) (size bytes : Nat) (h1 : P.underlying t = some (.slice e)) (h2 : P.info? e = some i) (h3 : i.zero = some z) (h4 : i.size = size) (h5 : i.bytes = bytes) (h6 : z.cells.size = size) (h7 : 0 < size)
    (v : Value) (k : Nat) (xs : List Value) (hs : a.eval s = v) (hown : w.ownsRow base e size v k xs) (ad : Addr) (m c : Nat) (news : List Value) (hx : a.eval x = .slice (some ad) m c) (hn : news.length = m * size)
    (hc : ∀ j u, news[j]? = some u → w.cell? (ad.add j) = some u) (h1c : ∀ u ∈ news, u.oneCell' = true) (b1 : k + m ≤ maxLen) (b2 : (k + m) * bytes ≤ 140737488355328) (b3 : base ≤ w.heap.size)
    (hK : ∀ v' w', w'.ownsRow base e size v' (k + m) (xs ++ news) → w.grownBy w' v.ownBlock → K (a.put o.dst v') w') :
    Oper.wp P o a w K Q := by
  obtain ⟨v', w', hr, r1, r2, _, _⟩ := run_append_own_at (P := P) w base t o.type e i z size bytes h1 h2 h3 h4 h5 h6 h7 v k xs hown ad m c news hn hc h1c b1 b2 b3
  unfold Oper.wp execOp
  simp only [hop, resolve, invoke, builtin, Sem.run_bind, Sem.run_pure, Result.andThen_ok, List.map_toArray, List.map_cons, List.map_nil, hs, hx, hr]
  exact hK v' w' r1 r2
end Go.Proofs.YtgildlfanfbebaaGreatDoor

namespace Go.Proofs.YtgildlfanfbebaaGreatDoor
open Go.RowKit

theorem lastIdx_succ (s : ByteArray) (k : Nat) (h : k < s.size) : Lib.lastIdx s 47 (k + 1) = if s[k].toNat = 47 then (k : Int) else Lib.lastIdx s 47 k := by
  have e : s.data[k]! = s[k] := by
    have h2 : k < s.data.size := h
    exact getElem!_pos s.data k h2
  simp only [Lib.lastIdx, e]
  by_cases hc : s[k].toNat = 47
  · rw [if_pos (by omega), if_pos hc]
  · rw [if_neg (by omega), if_neg hc]

set_option maxHeartbeats 400000 in
theorem slash_r (s : ByteArray) (w : World) (hs : s.size ≤ 9223372036854775806) : Calls Tryz.prog 127 #[.string s] w fun e w' => e = .returned (.int .i64 (Lib.lastIndexByte s 47)) ∧ w' = w := by
  go_enter Tryz.func127, Tryz.ntmps127
  go_wp2
  go_loop [3, 4] (fun a i => ∃ k : Nat, k ≤ s.size ∧ i = .int .i64 k ∧ a = .int .i64 (Lib.lastIdx s 47 k)) (fun _ i => s.size - (intOf i).toNat)
  case atStart => exact ⟨0, Nat.zero_le _, rfl, rfl⟩
  case round =>
    obtain ⟨k, hk, rfl, rfl⟩ := hrel
    by_cases hlt : k < s.size
    · have hsn : Hid _ := lastIdx_succ s k hlt
      by_cases hc : s[k].toNat = 47
      · go_wp2
        all_goals
          go_round
          case rel => exact ⟨k + 1, by omega, by go_num, by rw [hsn.out, if_pos hc]⟩
          case measure => simp [intOf]; omega
      · go_wp2
        all_goals
          go_round
          case rel => exact ⟨k + 1, by omega, by go_num, by rw [hsn.out, if_neg hc]⟩
          case measure => simp [intOf]; omega
    · go_wp2
      go_ret
      obtain rfl : k = s.size := by omega
      exact ⟨rfl, rfl⟩

theorem join_r (a b : ByteArray) (w : World) (hs : a.size + 1 + b.size ≤ 9223372036854775807) : Calls Tryz.prog 142 #[.string a, .string b] w fun e w' => e = .returned (.string (joinB a b)) ∧ w' = w := by
  cases h : a.toList.isEmpty
  · go_enter Tryz.func142, Tryz.ntmps142
    go_wp2
    go_ret
    exact ⟨by simp [joinB, h], rfl⟩
  · go_enter Tryz.func142, Tryz.ntmps142
    go_wp2
    go_ret
    exact ⟨by simp [joinB, h], rfl⟩
theorem parent_r (a : ByteArray) (w : World) (hs : a.size < 4611686018427387904) : Calls Tryz.prog 107 #[.string a] w fun e w' => e = .returned (.string (parentB a)) ∧ w' = w := by
  have hr := lastIndexByte_range a 47
  by_cases h : Lib.lastIndexByte a 47 < 0
  · go_enter Tryz.func107, Tryz.ntmps107
    go_wp2_with (go_at_call 127; refine (slash_r _ _ (by omega)).mono ?_; rintro e w' ⟨rfl, rfl⟩)
    go_ret
    exact ⟨by simp [parentB, h], rfl⟩
  · go_enter Tryz.func107, Tryz.ntmps107
    go_wp2_with (go_at_call 127; refine (slash_r _ _ (by omega)).mono ?_; rintro e w' ⟨rfl, rfl⟩)
    go_ret
    exact ⟨by unfold parentB; rw [if_neg (by omega)]; rfl, rfl⟩
theorem last_r (a : ByteArray) (w : World) (hs : a.size < 4611686018427387904) : Calls Tryz.prog 143 #[.string a] w fun e w' => e = .returned (.string (lastB a)) ∧ w' = w := by
  have hr := lastIndexByte_range a 47
  go_enter Tryz.func143, Tryz.ntmps143
  go_wp2_with (go_at_call 127; refine (slash_r _ _ (by omega)).mono ?_; rintro e w' ⟨rfl, rfl⟩)
  go_ret
  exact ⟨by simp [lastB], rfl⟩
end Go.Proofs.YtgildlfanfbebaaGreatDoor

namespace Go.Proofs.YtgildlfanfbebaaGreatDoor
open Go.RowKit

set_option maxHeartbeats 1000000 in
theorem split_r (p : ByteArray) (w : World) (hs : p.size < 4611686018427387904) : Calls Tryz.prog 125 #[.string p] w fun e w' => e = .returned (.tuple #[.string (splitP p).1, .string (splitP p).2.1, .int .i64 (splitP p).2.2]) ∧ Below w.heap.size w w' := by
  by_cases h1 : p.size ≤ 100
  · have h1' : (p.size : Int) ≤ 100 := by omega
    go_enter Tryz.func125, Tryz.ntmps125
    go_wp2
    go_ret3
    exact ⟨by simp [splitP, h1], Below.refl _ _⟩
  have h1' : ¬ (p.size : Int) ≤ 100 := by omega
  go_enter Tryz.func125, Tryz.ntmps125
  go_wp2
  go_loop [5] (fun i => ∃ k : Nat, k ≤ p.size ∧ i = .int .i64 k ∧ ∀ j, j < k → ¬ good p j) (fun i => p.size - (intOf i).toNat)
  case atStart => exact ⟨0, Nat.zero_le _, rfl, fun j hj => by omega⟩
  case round =>
    obtain ⟨k, hk, rfl, hn⟩ := hrel
    by_cases hlt : k < p.size
    · have hget : Hid _ := un_getElem? p k hlt
      by_cases hg : good p k
      · have hc : p[k].toNat = 47 := by have := hg.1; rw [hget.out] at this; simp at this; rw [this]; rfl
        have hb1 : (1 : Int) ≤ (p.size : Int) - (k : Int) - 1 := by have := hg.2.1; omega
        have hb2 : (p.size : Int) - (k : Int) - 1 ≤ 100 := by have := hg.2.2; omega
        have HS : Hid _ := splitP_at p k (by omega) hg hn
        clear hg hn
        by_cases c1 : k < 1
        · obtain rfl : k = 0 := by omega
          go_wp2
          go_ret3
          exact ⟨by rw [HS.out, if_pos (by omega)]; rfl, Below.refl _ _⟩
        · have c1' : ¬ (k : Int) < 1 := by omega
          by_cases c2 : 155 < k
          · have c2' : (155 : Int) < (k : Int) := by omega
            go_wp2
            go_ret3
            exact ⟨by rw [HS.out, if_pos (by omega)]; rfl, Below.refl _ _⟩
          · have c2' : ¬ (155 : Int) < (k : Int) := by omega
            have d1 : (0 : Int) ≤ (k : Int) := by omega
            have d2 : (k : Int) ≤ p.size := by omega
            have d3 : (0 : Int) ≤ (k : Int) + 1 := by omega
            have d4 : (k : Int) + 1 ≤ p.size := by omega
            go_wp2
            go_quiet (fail)
            go_wp2
            go_ret3
            exact ⟨by rw [HS.out, if_neg (by omega)]; rfl, ⟨rfl, rfl, rfl, Nat.le_refl _, fun _ _ => rfl⟩⟩
      · have hn2 : ∀ j, j < k + 1 → ¬ good p j := fun j hj => by
          rcases Nat.lt_succ_iff_lt_or_eq.1 hj with h | h
          · exact hn j h
          · rw [h]; exact hg
        have Hn : Hid _ := hn2
        by_cases hc : p[k].toNat = 47
        · have hng : ¬ (k + 2 ≤ p.size ∧ p.size ≤ k + 101) := fun h => hg ⟨by rw [hget.out]; congr 1; exact UInt8.toNat_inj.1 hc, h⟩
          clear hn2 hg hn
          by_cases hb1 : k + 2 ≤ p.size
          · have hb1' : (1 : Int) ≤ (p.size : Int) - (k : Int) - 1 := by omega
            have hb2' : ¬ (p.size : Int) - (k : Int) - 1 ≤ 100 := by omega
            go_wp2
            go_round
            case rel => exact ⟨k + 1, by omega, by go_num, Hn.out⟩
            case measure => simp [intOf]; omega
          · have hb1' : ¬ (1 : Int) ≤ (p.size : Int) - (k : Int) - 1 := by omega
            go_wp2
            go_round
            case rel => exact ⟨k + 1, by omega, by go_num, Hn.out⟩
            case measure => simp [intOf]; omega
        · clear hn2 hg hn
          go_wp2
          go_round
          case rel => exact ⟨k + 1, by omega, by go_num, Hn.out⟩
          case measure => simp [intOf]; omega
    · have HS : Hid _ := splitP_none p (by omega) (fun j hj => hn j (by omega))
      clear hn
      go_wp2
      go_ret3
      exact ⟨by rw [HS.out]; rfl, Below.refl _ _⟩
end Go.Proofs.YtgildlfanfbebaaGreatDoor

namespace Go.Proofs.YtgildlfanfbebaaGreatDoor
open Go.RowKit
theorem begins_r (s h : ByteArray) (w : World) : Calls Tryz.prog 121 #[.string s, .string h] w fun e w' => e = .returned (.bool (Lib.hasPrefix (un s) (un h))) ∧ w' = w := by
  by_cases c : h.size ≤ s.size
  · have c' : (h.size : Int) ≤ (s.size : Int) := by omega
    have e1 : Lib.hasPrefix (un s) (un h) = ((s.extract 0 h.size).toList == h.toList) := by
      rw [hasPrefix_take, toList_un, toList_un, un_extract, un_length, un_length]; simp [c]
    have E : Hid _ := e1
    clear e1
    go_enter Tryz.func121, Tryz.ntmps121
    go_wp2
    go_ret
    exact ⟨by rw [E.out]; rfl, rfl⟩
  · have c' : ¬ (h.size : Int) ≤ (s.size : Int) := by omega
    have e1 : Lib.hasPrefix (un s) (un h) = false := by
      rw [hasPrefix_take, un_length, un_length]; simp; omega
    have E : Hid _ := e1
    clear e1
    go_enter Tryz.func121, Tryz.ntmps121
    go_wp2
    go_ret
    exact ⟨by rw [E.out]; rfl, rfl⟩

theorem nameN_first {s : ByteArray} (h : s.toList.isEmpty = true ∨ 96 < s.size ∨ (s.toList == [46]) = true ∨ (s.toList == [46, 46]) = true ∨ Lib.hasPrefix (un s) [46, 119, 104, 46] = true) : nameN s = 8 := by
  unfold nameN
  repeat' split
  all_goals first | rfl | (exfalso; simp_all)
theorem nameN_any {s : ByteArray} (h : Lib.containsAny (un s) [0, 47] = true) : nameN s = 8 := by
  unfold nameN
  repeat' split
  all_goals first | rfl | (exfalso; simp_all)
theorem nameN_ok {s : ByteArray} (h1 : s.toList.isEmpty = false) (h2 : ¬ 96 < s.size) (h3 : (s.toList == [46]) = false) (h4 : (s.toList == [46, 46]) = false) (h5 : Lib.hasPrefix (un s) [46, 119, 104, 46] = false) (h6 : Lib.containsAny (un s) [0, 47] = false) : nameN s = 0 := by
  unfold nameN
  simp only [h1, h2, h3, h4, h5, h6]; rfl

set_option maxHeartbeats 2000000 in
theorem name_r (s : ByteArray) (w : World) (hs : s.size ≤ 9223372036854775806) : Calls Tryz.prog 124 #[.string s] w fun e w' => e = .returned (.int .i64 (nameN s)) ∧ w' = w := by
  cases h1 : s.toList.isEmpty
  rotate_left
  · have E : Hid _ := nameN_first (.inl h1)
    go_enter Tryz.func124, Tryz.ntmps124
    go_wp2
    go_ret
    exact ⟨by rw [E.out]; rfl, rfl⟩
  by_cases h2 : 96 < s.size
  · have h2' : (96 : Int) < s.size := by omega
    have E : Hid _ := nameN_first (.inr (.inl h2))
    go_enter Tryz.func124, Tryz.ntmps124
    go_wp2
    go_ret
    exact ⟨by rw [E.out]; rfl, rfl⟩
  have h2' : ¬ (96 : Int) < s.size := by omega
  cases h3 : (s.toList == [46])
  rotate_left
  · have E : Hid _ := nameN_first (.inr (.inr (.inl h3)))
    go_enter Tryz.func124, Tryz.ntmps124
    go_wp2
    go_ret
    exact ⟨by rw [E.out]; rfl, rfl⟩
  cases h4 : (s.toList == [46, 46])
  rotate_left
  · have E : Hid _ := nameN_first (.inr (.inr (.inr (.inl h4))))
    go_enter Tryz.func124, Tryz.ntmps124
    go_wp2
    go_ret
    exact ⟨by rw [E.out]; rfl, rfl⟩
  cases h5 : Lib.hasPrefix (un s) [46, 119, 104, 46]
  rotate_left
  · have E : Hid _ := nameN_first (.inr (.inr (.inr (.inr h5))))
    have H5 : Hid _ := h5
    clear h5
    go_enter Tryz.func124, Tryz.ntmps124
    go_wp2_with (go_at_call 121; refine (begins_r _ _ _).mono ?_; rintro e w2 ⟨rfl, hw⟩; subst hw; rw [show Lib.hasPrefix (un s) (un ⟨#[46, 119, 104, 46]⟩) = true from H5.out])
    go_ret
    exact ⟨by rw [E.out]; rfl, rfl⟩
  have H5 : Hid _ := h5
  have H8 : Hid (Lib.containsAny (un s) [0, 47] = true → nameN s = 8) := nameN_any
  have H0 : Hid (Lib.containsAny (un s) [0, 47] = false → nameN s = 0) := nameN_ok h1 h2 h3 h4 h5
  clear h5
  go_enter Tryz.func124, Tryz.ntmps124
  go_wp2_with (go_at_call 121; refine (begins_r _ _ _).mono ?_; rintro e w2 ⟨rfl, hw⟩; subst hw; rw [show Lib.hasPrefix (un s) (un ⟨#[46, 119, 104, 46]⟩) = false from H5.out])
  go_loop [3] (fun i => ∃ k : Nat, k ≤ s.size ∧ i = .int .i64 k ∧ Lib.NoAny (un s) [0, 47] k) (fun i => s.size - (intOf i).toNat)
  case atStart => exact ⟨0, Nat.zero_le _, rfl, Lib.NoAny.zero _ _⟩
  case round =>
    obtain ⟨k, hk, rfl, hn⟩ := hrel
    have HN : Hid _ := hn
    clear hn
    by_cases hlt : k < s.size
    · have hget : Hid _ := un_getElem? s k hlt
      by_cases c0 : s[k].toNat = 0
      · have E : Hid (nameN s = 8) := H8.out (by
          unfold Lib.containsAny
          rw [Lib.indexAny_hit HN.out hget.out (by rw [show s[k] = 0 from UInt8.toNat_inj.1 c0]; decide)]; simp)
        go_wp2
        go_ret
        exact ⟨by rw [E.out]; rfl, rfl⟩
      · by_cases c47 : s[k].toNat = 47
        · have E : Hid (nameN s = 8) := H8.out (by
            unfold Lib.containsAny
            rw [Lib.indexAny_hit HN.out hget.out (by rw [show s[k] = 47 from UInt8.toNat_inj.1 c47]; decide)]; simp)
          go_wp2
          go_ret
          exact ⟨by rw [E.out]; rfl, rfl⟩
        · have d0 : s[k] ≠ 0 := fun e => c0 (by rw [e]; rfl)
          have d47 : s[k] ≠ 47 := fun e => c47 (by rw [e]; rfl)
          have HN2 : Hid _ := Lib.NoAny.succ (show Lib.NoAny (un s) [0, 47] k from HN.out) hget.out (by simp [d0, d47])
          clear d0 d47
          have c0' : ((s[k].toNat : Int) == 0) = false := by simpa using c0
          have c47' : ((s[k].toNat : Int) == 47) = false := by simp; omega
          go_wp2
          go_round
          case rel => exact ⟨k + 1, by omega, by go_num, HN2.out⟩
          case measure => simp [intOf]; omega
    · obtain rfl : k = s.size := by omega
      have E : Hid (nameN s = 0) := H0.out (by
        unfold Lib.containsAny
        rw [Lib.indexAny_none (by rw [un_length]; exact HN.out)]; decide)
      go_wp2
      go_ret
      exact ⟨by rw [E.out]; rfl, rfl⟩
end Go.Proofs.YtgildlfanfbebaaGreatDoor

namespace Go.Proofs.YtgildlfanfbebaaGreatDoor
open Go Go.RowKit

/-- No slash from f on ahead of k. -/
def noSl (s : ByteArray) (f k : Nat) : Prop := ∀ j : Nat, f ≤ j → j < k → (un s)[j]? ≠ some 47
theorem indexByte_eq (c : UInt8) : ∀ (l : List UInt8) (i : Nat), l[i]? = some c → (∀ j : Nat, j < i → l[j]? ≠ some c) → Lib.indexByte l c = i
  | [], i, h, _ => by simp at h
  | b :: l, 0, h, _ => by
    have e : b = c := by simpa using h
    unfold Lib.indexByte; simp [e]
  | b :: l, i + 1, h, hn => by
    have h0 : b ≠ c := fun e => hn 0 (by omega) (by simp [e])
    have ih := indexByte_eq c l i (by simpa using h) (fun j hj => by simpa using hn (j + 1) (by omega))
    unfold Lib.indexByte
    rw [if_neg (by simpa using h0), ih, if_neg (by simp)]; omega
theorem indexByte_none (c : UInt8) : ∀ l : List UInt8, (∀ j : Nat, l[j]? ≠ some c) → Lib.indexByte l c = -1
  | [], _ => rfl
  | b :: l, hn => by
    have h0 : b ≠ c := fun e => hn 0 (by simp [e])
    have ih := indexByte_none c l (fun j => by simpa using hn (j + 1))
    unfold Lib.indexByte
    rw [if_neg (by simpa using h0), ih]; rfl
theorem pieces_at (s : ByteArray) (f k : Nat) (hf : f ≤ k) (hk : k < s.size) (hc : (un s)[k]? = some 47) (hn : noSl s f k) :
    piecesB (s.extract f s.size) = s.extract f k :: piecesB (s.extract (k + 1) s.size) := by
  have hi : ix (s.extract f s.size) = ((k - f : Nat) : Int) := indexByte_eq 47 _ _ (by rw [un_extract_get, show f + (k - f) = k by omega]; exact hc) (fun j hj => by rw [un_extract_get]; exact hn _ (by omega) (by omega))
  rw [piecesB_hit _ _ hi, size_extract' _ _ _ (Nat.le_refl _)]
  congr 1
  · refine un_inj ?_
    rw [un_extract, un_extract, un_extract]
    simp only [List.drop_zero, List.take_drop]
    rw [show f + (k - f) = k by omega, List.take_take, Nat.min_eq_left (by omega)]
  · congr 1
    refine un_inj ?_
    rw [un_extract, un_extract, un_extract]
    rw [List.take_of_length_le (l := un s) (by rw [un_length]; omega), List.take_of_length_le (by simp [un_length]), List.drop_drop]
    congr 1; omega
theorem pieces_end (s : ByteArray) (f : Nat) (hn : noSl s f s.size) : piecesB (s.extract f s.size) = [s.extract f s.size] := by
  refine piecesB_miss _ (indexByte_none 47 _ (fun j => ?_))
  rw [un_extract_get]
  by_cases h : f + j < s.size
  · exact hn _ (by omega) h
  · rw [un_none _ _ (by omega)]; simp
theorem noSl_nil (s : ByteArray) (k : Nat) : noSl s k k := fun j h1 h2 => by omega
theorem noSl_succ {s : ByteArray} {f k : Nat} (h : noSl s f k) (hc : (un s)[k]? ≠ some 47) : noSl s f (k + 1) := fun j h1 h2 => by
  rcases Nat.lt_succ_iff_lt_or_eq.1 h2 with h3 | h3
  · exact h j h1 h3
  · rw [h3]; exact hc
theorem extract_all (s : ByteArray) : s.extract 0 s.size = s := un_inj (by rw [un_extract, List.take_of_length_le (by rw [un_length]; omega)]; rfl)

set_option maxRecDepth 100000 in
set_option maxHeartbeats 2000000 in
theorem cut_r (s : ByteArray) (w : World) (hs : s.size ≤ 1099511627776) : Calls Tryz.prog 96 #[.string s] w fun e w' => ∃ v, e = .returned v ∧ w'.ownsRow w.heap.size 9 1 v (piecesB s).length (strs (piecesB s)) ∧ Below w.heap.size w w' := by
  obtain ⟨i0, hi, hz0, hz1, hz2⟩ := info_parts info_str
  have hpl := piecesB_length s
  go_enter Tryz.func96, Tryz.ntmps96
  go_wp2
  go_loopw [3, 4, 5] (fun v fr i wr => ∃ (k f : Nat) (ps : List ByteArray), i = .int .i64 k ∧ fr = .int .i64 f ∧ f ≤ k ∧ wr.ownsRow w.heap.size 9 1 v ps.length (strs ps) ∧ Below w.heap.size w wr ∧
      ((k ≤ s.size ∧ noSl s f k ∧ piecesB s = ps ++ piecesB (s.extract f s.size)) ∨ (k = s.size + 1 ∧ piecesB s = ps))) (fun _ _ i _ => s.size + 1 - (intOf i).toNat)
  case atStart => exact ⟨0, 0, [], rfl, rfl, Nat.le_refl _, World.ownsRow_nil _ _ _ _, Below.refl _ _, .inl ⟨Nat.zero_le _, noSl_nil _ _, by rw [extract_all]; rfl⟩⟩
  case round =>
    obtain ⟨k, f, ps, rfl, rfl, hfk, hown, hB, ⟨hk, hn, hp⟩ | ⟨rfl, hp⟩⟩ := hrel
    · have hsz := hB.size
      have hpsl : ps.length < (piecesB s).length := by
        rw [hp, List.length_append]; have := List.length_pos_iff.2 (piecesB_ne (s.extract f s.size)); omega
      by_cases hlt : k < s.size
      · have hget := un_getElem? s k hlt
        have hne : ((k : Int) == (s.size : Int)) = false := by simp; omega
        by_cases hc : s[k].toNat = 47
        · have hc2 : (un s)[k]? = some 47 := by rw [hget]; congr 1; exact UInt8.toNat_inj.1 hc
          have Hp : Hid (piecesB s = ps ++ [s.extract f k] ++ piecesB (s.extract (k + 1) s.size)) := by unfold Hid; rw [hp, pieces_at s f k hfk hlt hc2 hn]; simp
          clear hget hc2 hn hp
          go_wp2_with (at_builtin; refine wpList_append_own _ rfl _ _ 119 rfl w.heap.size 9 i0 (.string ⟨#[]⟩) 1 16 Tryz.underlying119 hi hz0 hz1 hz2 rfl (by decide) _ _ _ rfl (hown.alloc _) ⟨wr.heap.size, 0, none⟩ 1 1 [.string (s.extract f k)] rfl rfl (cell_one_new _ _ _) (by simp [Value.oneCell']) (by unfold maxLen; omega) (by omega) (by simp; omega) ?_; intro v1 w1 hown1 hgrow1 _)
          have hb1 : Below w.heap.size w w1 := (hB.alloc hsz _).grown hgrow1 (by simp; omega) (fun j hj => (own_ge hown j hj.symm).1)
          exact ⟨⟨k + 1, k + 1, ps ++ [s.extract f k], by go_num, by go_num, Nat.le_refl _, by simpa [strs] using hown1, hb1, .inl ⟨by omega, noSl_nil _ _, Hp.out⟩⟩, by simp [intOf]; omega⟩
        · have hc2 : (un s)[k]? ≠ some 47 := by rw [hget]; intro e; exact hc (by rw [Option.some.inj e]; rfl)
          have Hn : Hid _ := noSl_succ hn hc2
          have Hp : Hid _ := hp
          clear hget hc2 hn hp
          go_wp2
          first
            | exact ⟨⟨k + 1, f, ps, by go_num, rfl, by omega, hown, hB, .inl ⟨by omega, Hn.out, Hp.out⟩⟩, by simp [intOf]; omega⟩
            | (go_roundw
               case rel => exact ⟨k + 1, f, ps, by go_num, rfl, by omega, hown, hB, .inl ⟨by omega, Hn.out, Hp.out⟩⟩
               case measure => simp [intOf]; omega)
      · obtain rfl : k = s.size := by omega
        have Hp : Hid (piecesB s = ps ++ [s.extract f s.size]) := by unfold Hid; rw [hp, pieces_end s f hn]
        have hee : ((s.size : Int) == (s.size : Int)) = true := by simp
        clear hn hp
        go_wp2_with (at_builtin; refine wpList_append_own _ rfl _ _ 119 rfl w.heap.size 9 i0 (.string ⟨#[]⟩) 1 16 Tryz.underlying119 hi hz0 hz1 hz2 rfl (by decide) _ _ _ rfl (hown.alloc _) ⟨wr.heap.size, 0, none⟩ 1 1 [.string (s.extract f s.size)] rfl rfl (cell_one_new _ _ _) (by simp [Value.oneCell']) (by unfold maxLen; omega) (by omega) (by simp; omega) ?_; intro v1 w1 hown1 hgrow1 _)
        have hb1 : Below w.heap.size w w1 := (hB.alloc hsz _).grown hgrow1 (by simp; omega) (fun j hj => (own_ge hown j hj.symm).1)
        exact ⟨⟨s.size + 1, s.size + 1, ps ++ [s.extract f s.size], by go_num, by go_num, Nat.le_refl _, by simpa [strs] using hown1, hb1, .inr ⟨rfl, Hp.out⟩⟩, by simp [intOf]⟩
    · have Hp : Hid _ := hp
      clear hp
      go_wp2
      go_ret
      exact ⟨_, rfl, by rw [Hp.out]; exact hown, hB⟩

/-- Block g holds the texts xs, from its beginning on. -/
def Row (w : World) (g : Nat) (xs : List ByteArray) : Prop := ∀ (j : Nat) z, xs[j]? = some z → w.cell? ⟨g, j, none⟩ = some (.string z)
theorem Row.below {w w2 : World} {g : Nat} {xs : List ByteArray} (h : Row w g xs) (hg : g < w.heap.size) (hb : Below w.heap.size w w2) : Row w2 g xs := fun j z hz => (hb.cell (p := ⟨g, j, none⟩) hg).trans (h j z hz)
theorem row_of_owns {w : World} {base g cap n : Nat} {xs : List ByteArray} (h : w.ownsRow base 9 1 (.slice (some ⟨g, 0, none⟩) n cap) xs.length (strs xs)) : Row w g xs := fun j z hz => by
  have h := h.cells (g := g) rfl j (.string z) (by simp [strs, hz])
  rcases j with _ | j <;> simpa [Addr.add] using h
theorem cut_row (s : ByteArray) (w : World) (hs : s.size ≤ 1099511627776) : Calls Tryz.prog 96 #[.string s] w fun e w' => ∃ g cap, e = .returned (.slice (some ⟨g, 0, none⟩) (piecesB s).length cap) ∧ Row w' g (piecesB s) ∧ g < w'.heap.size ∧ w.heap.size ≤ g ∧ Below w.heap.size w w' := by
  refine (cut_r s w hs).mono ?_
  rintro e w2 ⟨v, rfl, hown, hb⟩
  rcases hown.2 with ⟨_, h0⟩ | ⟨g, cap, cur, rfl, hg, hgb, _⟩
  · exact absurd (List.eq_nil_of_length_eq_zero h0) (piecesB_ne s)
  · exact ⟨g, cap, rfl, row_of_owns hown, (Array.getElem?_eq_some_iff.1 hgb).1, hg, hb⟩
end Go.Proofs.YtgildlfanfbebaaGreatDoor

namespace Go.Proofs.YtgildlfanfbebaaGreatDoor
open Go

def wt : List ByteArray → Nat
  | [] => 0
  | x :: xs => x.size + 1 + wt xs
theorem wt_append (a b : List ByteArray) : wt (a ++ b) = wt a + wt b := by induction a with | nil => simp [wt] | cons x a ih => simp [wt, ih]; omega
theorem wt_cut : ∀ l : List UInt8, wt ((cutL l).map bs) = l.length + 1
  | [] => by simp [cutL, wt, size_bs]
  | c :: l => by
    have ih := wt_cut l
    rw [cutL_cons]
    split
    · simp [wt, size_bs, ih]; omega
    · cases h : cutL l with
      | nil => exact absurd h (cutL_ne l)
      | cons p r => rw [h] at ih; simp [wt, size_bs] at ih ⊢; omega
theorem length_wt : ∀ xs : List ByteArray, xs.length ≤ wt xs
  | [] => Nat.le_refl _
  | x :: xs => by have := length_wt xs; simp [wt]; omega
theorem wt_prefix {pre xs : List ByteArray} (h : pre <+: xs) : wt pre ≤ wt xs := by obtain ⟨t, rfl⟩ := h; rw [wt_append]; omega
end Go.Proofs.YtgildlfanfbebaaGreatDoor

namespace Go.Proofs.YtgildlfanfbebaaGreatDoor
open Go Go.RowKit

theorem whiteout_r (a : ByteArray) (w : World) (hs : a.size < 1152921504606846976) : Calls Tryz.prog 126 #[.string a] w fun e w' => e = .returned (.string (whiteoutB a)) ∧ w' = w := by
  have h1 := parentB_size a
  have h2 := lastB_size a
  go_enter Tryz.func126, Tryz.ntmps126
  go_wp2_with (first | (go_at_call 107; refine (parent_r _ _ (by omega)).mono ?_; rintro e w' ⟨rfl, rfl⟩) | (go_at_call 143; refine (last_r _ _ (by omega)).mono ?_; rintro e w' ⟨rfl, rfl⟩) | (go_at_call 142; go_must (refine (join_r _ _ _ (by rw [ByteArray.size_append, show (ByteArray.mk #[46, 119, 104, 46]).size = 4 from rfl]; omega)).mono ?_); rintro e w' ⟨rfl, rfl⟩))
  go_ret
  exact ⟨rfl, rfl⟩

theorem any_bad {xs : List ByteArray} {k : Nat} {x : ByteArray} (hx : xs[k]? = some x) (h : nameN x = 8) : xs.any (fun x => nameN x != 0) = true :=
  List.any_eq_true.2 ⟨x, List.mem_of_getElem? hx, by rw [h]; rfl⟩
theorem any_good {xs : List ByteArray} (h : ∀ j x, j < xs.length → xs[j]? = some x → nameN x = 0) : xs.any (fun x => nameN x != 0) = false := by
  rw [List.any_eq_false]; intro x hx
  obtain ⟨j, hj, rfl⟩ := List.getElem_of_mem hx
  rw [h j _ hj (List.getElem?_eq_getElem hj)]; decide

set_option maxRecDepth 100000 in
set_option maxHeartbeats 2000000 in
theorem check_r (p : ByteArray) (w : World) (hs : p.size ≤ 1099511627776) : Calls Tryz.prog 105 #[.string p] w fun e w' => e = .returned (.int .i64 (checkN p)) ∧ Below w.heap.size w w' := by
  cases h : p.toList.isEmpty
  rotate_left
  · have E : Hid (checkN p = 15) := by unfold Hid; simp [checkN, h]
    go_enter Tryz.func105, Tryz.ntmps105
    go_wp2
    go_ret
    exact ⟨by rw [E.out]; rfl, Below.refl _ _⟩
  have hpl := piecesB_length p
  have hwz := whiteoutB_size p
  go_enter Tryz.func105, Tryz.ntmps105
  go_wp2_with (go_at_call 96; refine (cut_row p _ hs).mono ?_; rintro e w1 ⟨g, cap, rfl, hrow, hgl, _, hb1⟩)
  go_loop [4] (fun i => ∃ k : Nat, k ≤ (piecesB p).length ∧ i = .int .i64 k ∧ ∀ (j : Nat) x, j < k → (piecesB p)[j]? = some x → nameN x = 0) (fun i => (piecesB p).length - (intOf i).toNat)
  case atStart => exact ⟨0, Nat.zero_le _, rfl, fun j x hj => by omega⟩
  case round =>
    obtain ⟨k, hk, rfl, hn⟩ := hrel
    have HN : Hid _ := hn
    clear hn
    by_cases hlt : k < (piecesB p).length
    · obtain ⟨x, hx⟩ : ∃ x, (piecesB p)[k]? = some x := ⟨_, List.getElem?_eq_getElem hlt⟩
      have hcell := hrow k x hx
      have hxs : x.size ≤ 9223372036854775806 := by
        have h1 := wt_prefix (pre := [x]) (xs := [x]) (List.prefix_refl _)
        have h2 : x.size + 1 ≤ wt (piecesB p) := by
          obtain ⟨a, b, hab⟩ := List.append_of_mem (List.mem_of_getElem? hx)
          rw [hab, wt_append]; simp [wt]; omega
        have h3 : wt (piecesB p) = p.size + 1 := by unfold piecesB; rw [wt_cut, un_length]
        omega
      rcases nameN_cases x with h0 | h8
      · have HN2 : Hid (∀ (j : Nat) x, j < k + 1 → (piecesB p)[j]? = some x → nameN x = 0) := fun j y hj hy => by
          rcases Nat.lt_succ_iff_lt_or_eq.1 hj with h1 | h1
          · exact HN.out j y h1 hy
          · subst h1; rw [hx] at hy; cases hy; exact h0
        have H0 : Hid _ := h0
        have Hrow : Hid _ := hrow
        clear h0 hx hrow
        go_wp2_with (go_at_call 124; refine (name_r _ _ hxs).mono ?_; rintro e w2 ⟨rfl, hw⟩; subst hw; rw [H0.out])
        first
          | exact ⟨⟨k + 1, by omega, by go_num, HN2.out⟩, by simp [intOf]; omega⟩
          | (go_round
             case rel => exact ⟨k + 1, by omega, by go_num, HN2.out⟩
             case measure => simp [intOf]; omega)
      · have E : Hid (checkN p = 8) := by unfold Hid; simp [checkN, h, any_bad hx h8]
        have H8 : Hid _ := h8
        have Hrow : Hid _ := hrow
        clear h8 hx hrow
        go_wp2_with (go_at_call 124; refine (name_r _ _ hxs).mono ?_; rintro e w2 ⟨rfl, hw⟩; subst hw; rw [H8.out])
        go_ret
        exact ⟨by rw [E.out]; rfl, hb1⟩
    · obtain rfl : k = (piecesB p).length := by omega
      have hany := any_good (xs := piecesB p) (fun j x hj => HN.out j x hj)
      by_cases h32 : 32 < (piecesB p).length
      · have h32' : (32 : Int) < (piecesB p).length := by omega
        have E : Hid (checkN p = 9) := by unfold Hid; simp [checkN, h, hany, h32]
        clear hany
        go_wp2
        go_ret
        exact ⟨by rw [E.out]; rfl, hb1⟩
      have h32' : ¬ (32 : Int) < (piecesB p).length := by omega
      by_cases h255 : 255 < p.size
      · have h255' : (255 : Int) < p.size := by omega
        have E : Hid (checkN p = 9) := by unfold Hid; simp [checkN, h, hany, h255]
        clear hany
        go_wp2
        go_ret
        exact ⟨by rw [E.out]; rfl, hb1⟩
      · have h255' : ¬ (255 : Int) < p.size := by omega
        have E : Hid (checkN p = (splitP (whiteoutB p)).2.2) := by unfold Hid; simp [checkN, h, hany, h32, h255]
        clear hany
        go_wp2_with (first | (go_at_call 126; refine (whiteout_r _ _ (by omega)).mono ?_; rintro e w2 ⟨rfl, hw⟩; subst hw) | (go_at_call 125; refine (split_r _ _ (by omega)).mono ?_; rintro e w3 ⟨rfl, hb3⟩))
        go_ret
        exact ⟨by rw [E.out]; rfl, hb1.trans (hb3.mono hb1.size)⟩
end Go.Proofs.YtgildlfanfbebaaGreatDoor

namespace Go.Proofs.YtgildlfanfbebaaGreatDoor
open Go Go.RowKit

/-- Where the entry at a path stands. -/
def findN (L : List Ent) (p : ByteArray) : Int := match L.findIdx? (pathIs p) with | some k => k | none => -1
theorem isdir_r (x : Ent) (w : World) : Calls Tryz.prog 108 #[.agg #[.string x.path, .int .i64 x.kind, .int .i64 x.mode, .string x.data, .string x.link]] w fun e w' => e = .returned (.bool (x.kind == 1)) ∧ Below w.heap.size w w' := by
  go_enter Tryz.func108, Tryz.ntmps108
  go_wp2
  go_ret
  exact ⟨rfl, (Below.refl _ _).alloc (Nat.le_refl _) _⟩
set_option maxRecDepth 100000 in
set_option maxHeartbeats 2000000 in
theorem find_r (v : Value) (L : List Ent) (p : ByteArray) (w : World) (hv : EntsAt w v L) (hl : L.length ≤ 4611686018427387904) : Calls Tryz.prog 70 #[v, .string p] w fun e w' => e = .returned (.int .i64 (findN L p)) ∧ w' = w := by
  obtain ⟨a, cap, b, o, rfl, ha, hcap, hc⟩ := hv
  go_enter Tryz.func70, Tryz.ntmps70
  go_wp2
  go_loop [5] (fun i => ∃ k : Nat, k ≤ L.length ∧ i = .int .i64 k ∧ ∀ (j : Nat) e, j < k → L[j]? = some e → pathIs p e = false) (fun i => L.length - (intOf i).toNat)
  case atStart => exact ⟨0, Nat.zero_le _, rfl, fun j e hj => by omega⟩
  case round =>
    obtain ⟨k, hk, rfl, hn⟩ := hrel
    have HN : Hid (∀ (j : Nat) e, j < k → L[j]? = some e → pathIs p e = false) := hn
    clear hn
    by_cases hlt : k < L.length
    · have hlt' : (k : Int) < (L.length : Int) := by omega
      have hk0 : (0 : Int) ≤ (k : Int) := by omega
      obtain ⟨x, hx⟩ : ∃ x, L[k]? = some x := ⟨_, List.getElem?_eq_getElem hlt⟩
      obtain rfl := ha (fun e => by rw [e] at hlt; simp at hlt)
      have c0 := (hc k x hx).c0
      have hpi : pathIs p x = (x.path.toList == p.toList) := by unfold pathIs; rw [toList_un, toList_un]
      cases hq : pathIs p x with
      | true =>
        have E : Hid (findN L p = k) := by
          unfold Hid findN
          rw [show L.findIdx? (pathIs p) = some k from by
            rw [List.findIdx?_eq_some_iff_getElem]
            refine ⟨hlt, ?_, fun j hj => ?_⟩
            · have := (List.getElem?_eq_some_iff.1 hx).2; rw [this]; exact hq
            · have := HN.out j _ hj (List.getElem?_eq_getElem (by omega)); simpa using this]
        rw [hq] at hpi
        have hpb : (x.path.toList == p.toList) = true := hpi.symm
        clear hx hc ha hpi hq
        go_wp2
        go_ret
        exact ⟨by rw [E.out]; rfl, rfl⟩
      | false =>
        rw [hq] at hpi
        have hpb : (x.path.toList == p.toList) = false := hpi.symm
        have HN2 : Hid (∀ (j : Nat) e, j < k + 1 → L[j]? = some e → pathIs p e = false) := fun j e hj he => by
          rcases Nat.lt_succ_iff_lt_or_eq.1 hj with h1 | rfl
          · exact HN.out j e h1 he
          · rw [hx] at he; cases he; exact hq
        clear hx hc ha hpi hq
        go_wp2
        go_round
        case rel => exact ⟨k + 1, by omega, by go_num, HN2.out⟩
        case measure => simp [intOf]; omega
    · have hge : ¬ (k : Int) < (L.length : Int) := by omega
      have E : Hid (findN L p = -1) := by
        unfold Hid findN
        rw [show L.findIdx? (pathIs p) = none from by
          rw [List.findIdx?_eq_none_iff]
          intro e he
          obtain ⟨j, hj⟩ := List.getElem?_of_mem he
          exact HN.out j e (by have := (List.getElem?_eq_some_iff.1 hj).1; omega) hj]
      go_wp2
      go_ret
      exact ⟨by rw [E.out]; rfl, rfl⟩
theorem find_at {L : List Ent} {p : ByteArray} : (L.find? (pathIs p) = none ∧ findN L p = -1) ∨ ∃ (k : Nat) (x : Ent), L[k]? = some x ∧ L.find? (pathIs p) = some x ∧ findN L p = k := by
  unfold findN
  cases h : L.findIdx? (pathIs p) with
  | none =>
    left
    refine ⟨List.find?_eq_none.2 (fun x hx => ?_), rfl⟩
    have := List.findIdx?_eq_none_iff.1 h x hx
    simp [this]
  | some k =>
    right
    obtain ⟨h1, h2, h3⟩ := List.findIdx?_eq_some_iff_getElem.1 h
    refine ⟨k, L[k], List.getElem?_eq_getElem h1, ?_, rfl⟩
    rw [List.find?_eq_some_iff_getElem]
    exact ⟨h2, k, h1, rfl, fun j hj => by simpa using h3 j hj⟩
set_option maxRecDepth 100000 in
set_option maxHeartbeats 2000000 in
theorem up_r (v : Value) (L : List Ent) (p : ByteArray) (w : World) (hv : EntsAt w v L) (hl : L.length ≤ 4611686018427387904) (hp : p.size < 4611686018427387904) : Calls Tryz.prog 73 #[v, .string p] w fun e w' => e = .returned (.int .i64 (upN L p)) ∧ Below w.heap.size w w' := by
  by_cases hz : (parentB p).size = 0
  · have he : (parentB p).toList.isEmpty = true := (isEmpty_iff _).2 hz
    have E : Hid (upN L p = 0) := if_pos hz
    go_enter Tryz.func73, Tryz.ntmps73
    go_wp2_with (go_at_call 107; refine (parent_r _ _ hp).mono ?_; rintro e w1 ⟨rfl, hw⟩; subst hw)
    go_ret
    exact ⟨by rw [E.out]; rfl, Below.refl _ _⟩
  · have he : (parentB p).toList.isEmpty = false := (isEmpty_false _).2 (by omega)
    have hF := find_r v L (parentB p) w hv hl
    rcases find_at (L := L) (p := parentB p) with ⟨h1, h2⟩ | ⟨k, x, h1, h2, h3⟩
    · have E : Hid (upN L p = 10) := by unfold Hid upN; rw [if_neg hz, h1]
      rw [h2] at hF
      clear hz h1 h2 hv
      go_enter Tryz.func73, Tryz.ntmps73
      go_wp2_with (first | (go_at_call 107; refine (parent_r _ _ hp).mono ?_; rintro e w1 ⟨rfl, hw⟩; subst hw) | (go_at_call 70; refine hF.mono ?_; rintro e w1 ⟨rfl, hw⟩; subst hw))
      go_ret
      exact ⟨by rw [E.out]; rfl, Below.refl _ _⟩
    · rw [h3] at hF
      have hlt := (List.getElem?_eq_some_iff.1 h1).1
      have hlt' : (k : Int) < (L.length : Int) := by omega
      have hk0 : (0 : Int) ≤ (k : Int) := by omega
      have hkn : decide ((k : Int) < 0) = false := by simp
      obtain ⟨a, cap, b, o, rfl, ha, hcap, hc⟩ := hv
      obtain rfl := ha (fun e => by rw [e] at hlt; simp at hlt)
      obtain ⟨c0, c1, c2, c3, c4⟩ := hc k x h1
      by_cases hk : x.kind = 1
      · have E : Hid (upN L p = 0) := by unfold Hid upN; rw [if_neg hz, h2]; simp [hk]
        have HKD : Hid ((x.kind == 1) = true) := by simpa [Hid] using hk
        clear hz h1 h2 hc ha hk
        go_enter Tryz.func73, Tryz.ntmps73
        go_wp2_with (first | (go_at_call 107; refine (parent_r _ _ hp).mono ?_; rintro e w1 ⟨rfl, hw⟩; subst hw) | (go_at_call 70; refine hF.mono ?_; rintro e w1 ⟨rfl, hw⟩; subst hw) | (go_at_call 108; refine (isdir_r x _).mono ?_; rintro e w2 ⟨rfl, hb2⟩; rw [HKD.out]))
        go_ret
        exact ⟨by rw [E.out]; rfl, hb2⟩
      · have E : Hid (upN L p = 13) := by unfold Hid upN; rw [if_neg hz, h2]; simp [hk]
        have HKD : Hid ((x.kind == 1) = false) := by simpa [Hid] using hk
        clear hz h1 h2 hc ha hk
        go_enter Tryz.func73, Tryz.ntmps73
        go_wp2_with (first | (go_at_call 107; refine (parent_r _ _ hp).mono ?_; rintro e w1 ⟨rfl, hw⟩; subst hw) | (go_at_call 70; refine hF.mono ?_; rintro e w1 ⟨rfl, hw⟩; subst hw) | (go_at_call 108; refine (isdir_r x _).mono ?_; rintro e w2 ⟨rfl, hb2⟩; rw [HKD.out]))
        go_ret
        exact ⟨by rw [E.out]; rfl, hb2⟩
end Go.Proofs.YtgildlfanfbebaaGreatDoor

namespace Go.Proofs.YtgildlfanfbebaaGreatDoor
open Go Go.RowKit

theorem sort_r (x : Ent) (w : World) : Calls Tryz.prog 74 #[.agg #[.string x.path, .int .i64 x.kind, .int .i64 x.mode, .string x.data, .string x.link]] w fun e w' => e = .returned (.bool (x.kind == 1)) ∧ Below w.heap.size w w' := by
  go_enter Tryz.func74, Tryz.ntmps74
  go_wp2
  go_ret
  exact ⟨rfl, (Below.refl _ _).alloc (Nat.le_refl _) _⟩
theorem bne_b (a b : Bool) : (a != b) = !(a == b) := rfl
set_option maxRecDepth 100000 in
set_option maxHeartbeats 2000000 in
theorem lost_r (x : Ent) (v : Value) (L : List Ent) (w : World) (hv : EntsAt w v L) (hl : L.length ≤ 4611686018427387904) : Calls Tryz.prog 97 #[.agg #[.string x.path, .int .i64 x.kind, .int .i64 x.mode, .string x.data, .string x.link], v] w fun e w' => e = .returned (.bool (lostD x L)) ∧ Below w.heap.size w w' := by
  have hF := fun W (h : Below w.heap.size w W) => find_r v L x.path W (hv.below h) hl
  rcases find_at (L := L) (p := x.path) with ⟨h1, h2⟩ | ⟨k, y, h1, h2, h3⟩
  · have E : Hid (lostD x L = true) := by unfold Hid lostD; rw [h1]
    rw [h2] at hF
    clear h1 h2 hv
    go_enter Tryz.func97, Tryz.ntmps97
    go_wp2_with (go_at_call 70; refine (hF _ ((Below.refl _ _).alloc (Nat.le_refl _) _)).mono ?_; rintro e w1 ⟨rfl, hw⟩; subst hw)
    go_quiet (fail)
    go_wp2
    go_ret
    exact ⟨by rw [E.out]; rfl, below_drewN ((Below.refl _ _).alloc (Nat.le_refl _) _) _⟩
  · rw [h3] at hF
    have hlt := (List.getElem?_eq_some_iff.1 h1).1
    have hlt' : (k : Int) < (L.length : Int) := by omega
    have hk0 : (0 : Int) ≤ (k : Int) := by omega
    have hkn : decide ((k : Int) < 0) = false := by simp
    obtain ⟨a, cap, b, o, rfl, ha, hcap, hc⟩ := hv
    obtain rfl := ha (fun e => by rw [e] at hlt; simp at hlt)
    have E : Hid (lostD x L = ((y.kind == 1) != (x.kind == 1))) := by unfold Hid lostD; rw [h2]
    have hb1 : ∀ z, Below w.heap.size w (w.alloc z) := fun z => (Below.refl _ _).alloc (Nat.le_refl _) _
    have HC : Hid (∀ W, Below w.heap.size w W → EntC W b (o + k * 5) y) := fun W h => (hc k y h1).below h
    clear h1 h2 hc ha
    go_enter Tryz.func97, Tryz.ntmps97
    go_upto_region 2 with (go_at_call 70; refine (hF _ ((Below.refl _ _).alloc (Nat.le_refl _) _)).mono ?_; rintro e w1 ⟨rfl, hw⟩; subst hw)
    have hbx : (w.alloc (.cells #[.string x.path, .int .i64 x.kind, .int .i64 x.mode, .string x.data, .string x.link] 52)).heap[w.heap.size]? = some (.cells #[.string x.path, .int .i64 x.kind, .int .i64 x.mode, .string x.data, .string x.link] 52) := heap_alloc_new w _
    have HBV := hb1 (.cells #[.string x.path, .int .i64 x.kind, .int .i64 x.mode, .string x.data, .string x.link] 52)
    generalize (w.alloc (.cells #[.string x.path, .int .i64 x.kind, .int .i64 x.mode, .string x.data, .string x.link] 52)) = V at *
    have HCE : Hid (∀ W, Below V.drew.heap.size V.drew W → W.cell? ⟨b, o + k * 5, none⟩ = some (.string y.path) ∧ W.cell? ⟨b, o + k * 5 + 1, none⟩ = some (.int .i64 y.kind) ∧ W.cell? ⟨b, o + k * 5 + 2, none⟩ = some (.int .i64 y.mode) ∧ W.cell? ⟨b, o + k * 5 + 3, none⟩ = some (.string y.data) ∧ W.cell? ⟨b, o + k * 5 + 4, none⟩ = some (.string y.link) ∧ W.cell? ⟨w.heap.size, 0, none⟩ = some (.string x.path) ∧ W.cell? ⟨w.heap.size, 1, none⟩ = some (.int .i64 x.kind) ∧ W.cell? ⟨w.heap.size, 2, none⟩ = some (.int .i64 x.mode) ∧ W.cell? ⟨w.heap.size, 3, none⟩ = some (.string x.data) ∧ W.cell? ⟨w.heap.size, 4, none⟩ = some (.string x.link)) := fun W h => by
      obtain ⟨c0, c1, c2, c3, c4⟩ := HC.out W (below_join (below_drewN HBV 1) h)
      have hwl : w.heap.size < V.drew.heap.size := (Array.getElem?_eq_some_iff.1 hbx).1
      have hb9 : W.heap[w.heap.size]? = some (.cells #[.string x.path, .int .i64 x.kind, .int .i64 x.mode, .string x.data, .string x.link] 52) := (h.block _ hwl).trans hbx
      refine ⟨c0, c1, c2, c3, c4, ?_, ?_, ?_, ?_, ?_⟩ <;> (unfold World.cell?; simp only [hb9]; rfl)
    have HBD : Hid (Below w.heap.size w V.drew) := below_drewN HBV 1
    clear HC hbx HBV hb1 hF
    go_region_held3 (fun W => W.cell? ⟨b, o + k * 5, none⟩ = some (.string y.path) ∧ W.cell? ⟨b, o + k * 5 + 1, none⟩ = some (.int .i64 y.kind) ∧ W.cell? ⟨b, o + k * 5 + 2, none⟩ = some (.int .i64 y.mode) ∧ W.cell? ⟨b, o + k * 5 + 3, none⟩ = some (.string y.data) ∧ W.cell? ⟨b, o + k * 5 + 4, none⟩ = some (.string y.link) ∧ W.cell? ⟨w.heap.size, 0, none⟩ = some (.string x.path) ∧ W.cell? ⟨w.heap.size, 1, none⟩ = some (.int .i64 x.kind) ∧ W.cell? ⟨w.heap.size, 2, none⟩ = some (.int .i64 x.mode) ∧ W.cell? ⟨w.heap.size, 3, none⟩ = some (.string x.data) ∧ W.cell? ⟨w.heap.size, 4, none⟩ = some (.string x.link))
      (first
        | exact HCE.out _ (Below.refl _ _)
        | exact HCE.out _ h3
        | exact HCE.out _ h4
        | exact HCE.out _ (below_join h3 h4)
        | exact HCE.out _ (below_join h4 h3)
        | go_keep)
      (first
        | (go_at_call 74; with_reducible refine (sort_r y _).mono ?_; rintro e w3 ⟨rfl, h3⟩)
        | (go_at_call 74; with_reducible refine (sort_r x _).mono ?_; rintro e w4 ⟨rfl, h4⟩))
    all_goals
      go_wp2
      go_ret
      refine ⟨by rw [E.out]; rfl, ?_⟩
      first
        | exact below_join HBD.out (below_join h3 h4)
        | exact below_join HBD.out (below_join h4 h3)
set_option maxRecDepth 100000 in
set_option maxHeartbeats 2000000 in
theorem laid_r (v : Value) (L : List Ent) (x : Ent) (w : World) (hv : EntsAt w v L) (hl : L.length ≤ 4611686018427387904) : Calls Tryz.prog 63 #[v, .agg #[.string x.path, .int .i64 x.kind, .int .i64 x.mode, .string x.data, .string x.link]] w fun e w' => e = .returned (.bool (laidD L x)) ∧ Below w.heap.size w w' := by
  have hF := fun W (h : Below w.heap.size w W) => find_r v L x.path W (hv.below h) hl
  rcases find_at (L := L) (p := x.path) with ⟨h1, h2⟩ | ⟨k, y, h1, h2, h3⟩
  · have E : Hid (laidD L x = true) := by unfold Hid laidD; rw [h1]
    rw [h2] at hF
    clear h1 h2 hv
    go_enter Tryz.func63, Tryz.ntmps63
    go_wp2_with (go_at_call 70; refine (hF _ ((Below.refl _ _).alloc (Nat.le_refl _) _)).mono ?_; rintro e w1 ⟨rfl, hw⟩; subst hw)
    go_quiet (fail)
    go_wp2
    go_ret
    exact ⟨by rw [E.out]; rfl, below_drewN ((Below.refl _ _).alloc (Nat.le_refl _) _) _⟩
  · rw [h3] at hF
    have hlt := (List.getElem?_eq_some_iff.1 h1).1
    have hlt' : (k : Int) < (L.length : Int) := by omega
    have hk0 : (0 : Int) ≤ (k : Int) := by omega
    have hkn : decide ((k : Int) < 0) = false := by simp
    obtain ⟨a, cap, b, o, rfl, ha, hcap, hc⟩ := hv
    obtain rfl := ha (fun e => by rw [e] at hlt; simp at hlt)
    have E : Hid (laidD L x = !eqE y x) := by unfold Hid laidD; rw [h2]
    have hb1 : ∀ z, Below w.heap.size w (w.alloc z) := fun z => (Below.refl _ _).alloc (Nat.le_refl _) _
    have HC : Hid (∀ W, Below w.heap.size w W → EntC W b (o + k * 5) y) := fun W h => (hc k y h1).below h
    clear h1 h2 hc ha
    go_enter Tryz.func63, Tryz.ntmps63
    go_upto_region 2 with (go_at_call 70; refine (hF _ ((Below.refl _ _).alloc (Nat.le_refl _) _)).mono ?_; rintro e w1 ⟨rfl, hw⟩; subst hw)
    have hbx : (w.alloc (.cells #[.string x.path, .int .i64 x.kind, .int .i64 x.mode, .string x.data, .string x.link] 52)).heap[w.heap.size]? = some (.cells #[.string x.path, .int .i64 x.kind, .int .i64 x.mode, .string x.data, .string x.link] 52) := heap_alloc_new w _
    have HBV : Hid (Below w.heap.size w (w.alloc (.cells #[.string x.path, .int .i64 x.kind, .int .i64 x.mode, .string x.data, .string x.link] 52))) := hb1 _
    generalize (w.alloc (.cells #[.string x.path, .int .i64 x.kind, .int .i64 x.mode, .string x.data, .string x.link] 52)) = V at *
    obtain ⟨c0, c1, c2, c3, c4⟩ := HC.out V HBV.out
    have q0 : V.cell? ⟨w.heap.size, 0, none⟩ = some (.string x.path) := by unfold World.cell?; simp only [hbx]; rfl
    have q1 : V.cell? ⟨w.heap.size, 1, none⟩ = some (.int .i64 x.kind) := by unfold World.cell?; simp only [hbx]; rfl
    have q2 : V.cell? ⟨w.heap.size, 2, none⟩ = some (.int .i64 x.mode) := by unfold World.cell?; simp only [hbx]; rfl
    have q3 : V.cell? ⟨w.heap.size, 3, none⟩ = some (.string x.data) := by unfold World.cell?; simp only [hbx]; rfl
    have q4 : V.cell? ⟨w.heap.size, 4, none⟩ = some (.string x.link) := by unfold World.cell?; simp only [hbx]; rfl
    have heq : ∀ W, (Op.equalIn 10000 52 (.agg #[.string y.path, .int .i64 y.kind, .int .i64 y.mode, .string y.data, .string y.link]) (.agg #[.string x.path, .int .i64 x.kind, .int .i64 x.mode, .string x.data, .string x.link])).run Tryz.prog W = .ok (eqE y x) W := fun W => eq_ent y x W
    clear HC hbx hb1 hF
    go_quiet (fail)
    go_wp2
    go_ret
    exact ⟨by rw [E.out]; rfl, below_drewN HBV.out _⟩
end Go.Proofs.YtgildlfanfbebaaGreatDoor

namespace Go.Proofs.YtgildlfanfbebaaGreatDoor
open Go.RowKit

theorem begins_b (s h : ByteArray) (w : World) : Calls Tryz.prog 121 #[.string s, .string h] w fun e w' => e = .returned (.bool (Lib.hasPrefix (un s) (un h))) ∧ w' = w := by
  by_cases c : h.size ≤ s.size
  · have c' : (h.size : Int) ≤ (s.size : Int) := by omega
    have e1 : Lib.hasPrefix (un s) (un h) = ((s.extract 0 h.size).toList == h.toList) := by
      rw [hasPrefix_take, toList_un, toList_un, un_extract, un_length, un_length]; simp [c]
    have E : Hid _ := e1
    clear e1
    go_enter Tryz.func121, Tryz.ntmps121
    go_wp2
    go_ret
    exact ⟨by rw [E.out]; rfl, rfl⟩
  · have c' : ¬ (h.size : Int) ≤ (s.size : Int) := by omega
    have e1 : Lib.hasPrefix (un s) (un h) = false := by
      rw [hasPrefix_take, un_length, un_length]; simp; omega
    have E : Hid _ := e1
    clear e1
    go_enter Tryz.func121, Tryz.ntmps121
    go_wp2
    go_ret
    exact ⟨by rw [E.out]; rfl, rfl⟩

theorem below_r (a b : ByteArray) (w : World) (ha : a.size < 4611686018427387904) : Calls Tryz.prog 98 #[.string a, .string b] w fun e w' => e = .returned (.bool (belowB a b)) ∧ w' = w := by
  cases h1 : a.toList.isEmpty
  · have E : Hid _ := belowB_r a b h1
    have e2 : un (a ++ ⟨#[47]⟩) = un a ++ [47] := un_append a ⟨#[47]⟩
    have E2 : Hid _ := e2
    clear e2
    go_enter Tryz.func98, Tryz.ntmps98
    go_wp2_with (go_at_call 121; refine (begins_b _ _ _).mono ?_; rintro e w2 ⟨rfl, hw⟩; subst hw)
    go_ret
    exact ⟨by rw [E.out, ← E2.out]; rfl, rfl⟩
  · go_enter Tryz.func98, Tryz.ntmps98
    go_wp2
    go_ret
    exact ⟨by simp [belowB, h1]; try rfl, rfl⟩
end Go.Proofs.YtgildlfanfbebaaGreatDoor

namespace Go.Proofs.YtgildlfanfbebaaGreatDoor
open Go Go.RowKit

set_option maxRecDepth 100000 in
set_option maxHeartbeats 4000000 in
theorem gone_r (u v : Value) (A B : List Ent) (i : Nat) (x : Ent) (w : World) (hu : EntsAt w u A) (hv : EntsAt w v B) (hA : A.length ≤ 1073741824) (hB : B.length ≤ 1073741824) (hs : ∀ e ∈ A, e.path.size ≤ 1099511627776) (hx : A[i]? = some x) : Calls Tryz.prog 62 #[u, v, .int .i64 i] w fun e w' => e = .returned (.bool (goneD A B i)) ∧ Below w.heap.size w w' := by
  have hi := (List.getElem?_eq_some_iff.1 hx).1
  have hi' : (i : Int) < (A.length : Int) := by omega
  have hi0 : (0 : Int) ≤ (i : Int) := by omega
  have hL := fun (e : Ent) W (h : Below w.heap.size w W) => lost_r e v B W (hv.below h) (by omega)
  obtain ⟨a, cap, b, o, rfl, ha, hcap, hc⟩ := hu
  obtain rfl := ha (fun e => by rw [e] at hi; simp at hi)
  have HC : Hid (∀ W, Below w.heap.size w W → ∀ j e, A[j]? = some e → EntC W b (o + j * 5) e) := fun W h j e he => (hc j e he).below h
  obtain ⟨c0, c1, c2, c3, c4⟩ := hc i x hx
  have HX : Hid (A[i]? = some x) := hx
  have HS : Hid (∀ e ∈ A, e.path.size ≤ 1099511627776) := hs
  clear hc ha hs hv hx
  cases hlx : lostD x B with
  | false =>
    have E : Hid (goneD A B i = false) := by unfold Hid goneD; rw [HX.out]; simp [hlx]
    have hL1 := hL x w (Below.refl _ _)
    rw [hlx] at hL1
    go_enter Tryz.func62, Tryz.ntmps62
    go_wp2_with (go_at_call 97; refine hL1.mono ?_; rintro e w1 ⟨rfl, h1⟩)
    go_ret
    exact ⟨by rw [E.out]; rfl, h1⟩
  | true =>
    have hL1 := hL x w (Below.refl _ _)
    rw [hlx] at hL1
    go_enter Tryz.func62, Tryz.ntmps62
    go_wp2_with (go_at_call 97; refine hL1.mono ?_; rintro e w1 ⟨rfl, h1⟩)
    have HB1 : Hid (Below w.heap.size w w1) := h1
    clear h1 hL1 c0 c1 c2 c3 c4
    go_loopw [7] (fun i' W => ∃ k : Nat, i' = .int .i64 k ∧ k ≤ i ∧ Below w.heap.size w W ∧ ∀ (j : Nat) e, j < k → A[j]? = some e → (belowB e.path x.path && lostD e B) = false) (fun i' _ => i - (intOf i').toNat)
    case atStart => exact ⟨0, rfl, by omega, HB1.out, fun j e hj => by omega⟩
    case round =>
      obtain ⟨k, rfl, hk, hBr, hno⟩ := hrel
      have HBr : Hid (Below w.heap.size w wr) := hBr
      have HNO : Hid (∀ (j : Nat) e, j < k → A[j]? = some e → (belowB e.path x.path && lostD e B) = false) := hno
      clear hBr hno
      by_cases hlt : k < i
      · have hlt' : (k : Int) < (i : Int) := by omega
        have hk0 : (0 : Int) ≤ (k : Int) := by omega
        have hkl : (k : Int) < (A.length : Int) := by omega
        obtain ⟨y, hy⟩ : ∃ y, A[k]? = some y := ⟨_, List.getElem?_eq_getElem (by omega)⟩
        have hys := HS.out y (List.mem_of_getElem? hy)
        obtain ⟨d0, d1, d2, d3, d4⟩ := HC.out wr HBr.out k y hy
        have c0 := (HC.out wr HBr.out i x HX.out).c0
        cases hbl : belowB y.path x.path with
        | false =>
          have hBB : ∀ W, Calls Tryz.prog 98 #[.string y.path, .string x.path] W fun e w' => e = .returned (.bool false) ∧ ∃ q, w' = W.drewN q := fun W => (below_r y.path x.path W (by omega)).mono (by rintro e w' ⟨rfl, rfl⟩; exact ⟨by rw [hbl], 0, rfl⟩)
          have HN2 : Hid (∀ (j : Nat) e, j < k + 1 → A[j]? = some e → (belowB e.path x.path && lostD e B) = false) := fun j e hj he => by
            rcases Nat.lt_succ_iff_lt_or_eq.1 hj with h1 | rfl
            · exact HNO.out j e h1 he
            · rw [hy] at he; cases he; rw [hbl]; rfl
          clear hy hys
          go_wp2
          go_quiet ((go_at_call 98; exact Calls.quiet_of (hBB _)))
          go_wp2
          go_roundw
          case rel => exact ⟨k + 1, by go_num, by omega, below_drewN HBr.out _, HN2.out⟩
          case measure => simp [intOf]; omega
        | true =>
          have hBB : ∀ W, Calls Tryz.prog 98 #[.string y.path, .string x.path] W fun e w' => e = .returned (.bool true) ∧ w' = W := fun W => (below_r y.path x.path W (by omega)).mono (by rintro e w' ⟨rfl, rfl⟩; exact ⟨by rw [hbl], rfl⟩)
          have HCE : Hid (∀ W, Below w.heap.size w W → W.cell? ⟨b, o + k * 5, none⟩ = some (.string y.path) ∧ W.cell? ⟨b, o + k * 5 + 1, none⟩ = some (.int .i64 y.kind) ∧ W.cell? ⟨b, o + k * 5 + 2, none⟩ = some (.int .i64 y.mode) ∧ W.cell? ⟨b, o + k * 5 + 3, none⟩ = some (.string y.data) ∧ W.cell? ⟨b, o + k * 5 + 4, none⟩ = some (.string y.link) ∧ W.cell? ⟨b, o + i * 5, none⟩ = some (.string x.path)) := fun W h => by
            obtain ⟨e0, e1, e2, e3, e4⟩ := HC.out W h k y hy
            exact ⟨e0, e1, e2, e3, e4, (HC.out W h i x HX.out).c0⟩
          have hLy := fun W (h : Below w.heap.size w W) => hL y W h
          have HBd : Hid (Below w.heap.size w wr.drew) := below_drewN HBr.out 1
          have HN2 : Hid (lostD y B = false → ∀ (j : Nat) e, j < k + 1 → A[j]? = some e → (belowB e.path x.path && lostD e B) = false) := fun hf j e hj he => by
            rcases Nat.lt_succ_iff_lt_or_eq.1 hj with h1 | rfl
            · exact HNO.out j e h1 he
            · rw [hy] at he; cases he; rw [hf, Bool.and_false]
          have HT : Hid (lostD y B = true → goneD A B i = false) := fun hf => by
            unfold goneD; rw [HX.out]
            have : ((A.take i).any fun t => belowB t.path x.path && lostD t B) = true := by
              rw [List.any_eq_true]
              exact ⟨y, List.mem_of_getElem? (i := k) (by rw [List.getElem?_take, if_pos hlt]; exact hy), by rw [hbl, hf]; rfl⟩
            simp [this]
          clear hy hys hL
          cases hly : lostD y B with
          | false =>
            rw [hly] at hLy
            go_upto_region 6 with fail
            go_region_held3 (fun W => W.cell? ⟨b, o + k * 5, none⟩ = some (.string y.path) ∧ W.cell? ⟨b, o + k * 5 + 1, none⟩ = some (.int .i64 y.kind) ∧ W.cell? ⟨b, o + k * 5 + 2, none⟩ = some (.int .i64 y.mode) ∧ W.cell? ⟨b, o + k * 5 + 3, none⟩ = some (.string y.data) ∧ W.cell? ⟨b, o + k * 5 + 4, none⟩ = some (.string y.link) ∧ W.cell? ⟨b, o + i * 5, none⟩ = some (.string x.path))
              (first
                | exact HCE.out _ HBd.out
                | exact HCE.out _ (below_join HBd.out h3)
                | go_keep)
              (first
                | (go_at_call 98; refine (hBB _).mono ?_; rintro e w2 ⟨rfl, hw2⟩; subst hw2)
                | (go_at_call 97; refine (hLy _ HBd.out).mono ?_; rintro e w3 ⟨rfl, h3⟩))
            go_wp2
            go_roundw
            case rel => exact ⟨k + 1, by go_num, by omega, below_join HBd.out h3, HN2.out hly⟩
            case measure => simp [intOf]; omega
          | true =>
            rw [hly] at hLy
            have E := HT.out hly
            go_upto_region 6 with fail
            go_region_held3 (fun W => W.cell? ⟨b, o + k * 5, none⟩ = some (.string y.path) ∧ W.cell? ⟨b, o + k * 5 + 1, none⟩ = some (.int .i64 y.kind) ∧ W.cell? ⟨b, o + k * 5 + 2, none⟩ = some (.int .i64 y.mode) ∧ W.cell? ⟨b, o + k * 5 + 3, none⟩ = some (.string y.data) ∧ W.cell? ⟨b, o + k * 5 + 4, none⟩ = some (.string y.link) ∧ W.cell? ⟨b, o + i * 5, none⟩ = some (.string x.path))
              (first
                | exact HCE.out _ HBd.out
                | exact HCE.out _ (below_join HBd.out h3)
                | go_keep)
              (first
                | (go_at_call 98; refine (hBB _).mono ?_; rintro e w2 ⟨rfl, hw2⟩; subst hw2)
                | (go_at_call 97; refine (hLy _ HBd.out).mono ?_; rintro e w3 ⟨rfl, h3⟩))
            go_wp2
            go_ret
            exact ⟨by rw [E]; rfl, below_join HBd.out h3⟩
      · have hge : ¬ (k : Int) < (i : Int) := by omega
        have E : Hid (goneD A B i = true) := by
          unfold Hid goneD; rw [HX.out]
          have : ((A.take i).any fun t => belowB t.path x.path && lostD t B) = false := by
            rw [List.any_eq_false]
            intro t ht h
            obtain ⟨j, hj, rfl⟩ := List.getElem_of_mem ht
            have hj' : j < i := by rw [List.length_take] at hj; omega
            have := HNO.out j _ (by omega) (List.getElem?_eq_getElem (by omega : j < A.length))
            rw [List.getElem_take] at h
            rw [this] at h; cases h
          simp [hlx, this]
        go_wp2
        go_ret
        exact ⟨by rw [E.out]; rfl, HBr.out⟩
end Go.Proofs.YtgildlfanfbebaaGreatDoor

namespace Go.Proofs.YtgildlfanfbebaaGreatDoor
open Go Go.RowKit

theorem compare_less : ∀ a b : List UInt8, Lib.compareBytes a b = if Op.bytesLess a b then -1 else if a == b then 0 else 1
  | [], [] => rfl
  | [], _ :: _ => rfl
  | _ :: _, [] => rfl
  | x :: a, y :: b => by
    have ih := compare_less a b
    unfold Lib.compareBytes Op.bytesLess
    by_cases h1 : x < y
    · simp [h1]
    · by_cases h2 : y < x
      · have hne : x ≠ y := fun e => h1 (e ▸ h2)
        simp [h1, h2, hne]
      · have e : x = y := by
          have a1 : ¬ x.toNat < y.toNat := h1
          have a2 : ¬ y.toNat < x.toNat := h2
          exact UInt8.toNat_inj.1 (by omega)
        subst e
        simp only [h1, if_false, ih]
        simp
theorem cmpB_less (x y : ByteArray) : cmpB x y = if Op.bytesLess x.toList y.toList then -1 else if x.toList == y.toList then 0 else 1 := by
  unfold cmpB; rw [toList_un, toList_un]; exact compare_less _ _
theorem compareP_step (pre : List ByteArray) (x y : ByteArray) (xs ys : List ByteArray) (h : cmpB x y ≠ 0) : compareP (pre ++ x :: xs) (pre ++ y :: ys) = cmpB x y := by
  rw [compareP_same]; exact if_neg h
theorem row_at {w : World} {g : Nat} {pre xs : List ByteArray} {x : ByteArray} (h : Row w g (pre ++ x :: xs)) : w.cell? ⟨g, pre.length, none⟩ = some (.string x) := h _ _ (by simp)

set_option maxRecDepth 100000 in
set_option maxHeartbeats 4000000 in
theorem compare_r (a b : ByteArray) (w : World) (ha : a.size ≤ 1099511627776) (hb : b.size ≤ 1099511627776) : Calls Tryz.prog 61 #[.string a, .string b] w fun e w' => e = .returned (.int .i64 (compareN a b)) ∧ Below w.heap.size w w' := by
  have hla := piecesB_length a
  have hlb := piecesB_length b
  go_enter Tryz.func61, Tryz.ntmps61
  go_wp2_with fail
  refine (cut_row a _ ha).mono ?_
  rintro e w1 ⟨g1, cap1, rfl, hr1, hg1, _, b1⟩
  go_wp2_with fail
  refine (cut_row b _ hb).mono ?_
  rintro e w2 ⟨g2, cap2, rfl, hr2, hg2, _, b2⟩
  replace hr1 := hr1.below hg1 b2
  have hz2 := b2.size
  have b3 := b1.trans (b2.mono b1.size)
  clear b1 b2
  have HR1 : Hid _ := hr1
  have HR2 : Hid _ := hr2
  clear hr1 hr2
  go_wp2_with fail
  go_loopw [7] (fun i wr => ∃ (pre xs ys : List ByteArray) (q : Nat), piecesB a = pre ++ xs ∧ piecesB b = pre ++ ys ∧ i = .int .i64 pre.length ∧ wr = w2.drewN q) (fun i _ => (piecesB a).length - (intOf i).toNat)
  case atStart => exact ⟨[], _, _, 0, rfl, rfl, rfl, rfl⟩
  case round =>
    obtain ⟨pre, xs, ys, q, hx, hy, rfl, rfl⟩ := hrel
    have hlx : (piecesB a).length = pre.length + xs.length := by rw [hx]; simp
    have hly : (piecesB b).length = pre.length + ys.length := by rw [hy]; simp
    have HX : Hid _ := hx
    have HY : Hid _ := hy
    have HC : Hid (compareN a b = compareP xs ys) := by unfold Hid compareN; rw [hx, hy, compareP_same]
    cases xs with
    | nil =>
      simp only [List.length_nil, Nat.add_zero] at hlx
      cases ys with
      | nil =>
        simp only [List.length_nil, Nat.add_zero] at hly
        have l1 : ¬ (pre.length : Int) < (piecesB a).length := by omega
        have l2 : ¬ ((piecesB a).length : Int) < (piecesB b).length := by omega
        have l3 : ¬ ((piecesB b).length : Int) < (piecesB a).length := by omega
        clear hx hy hlx hly
        go_wp2
        go_ret
        exact ⟨by rw [HC.out]; rfl, b3.trans ((below_draw w2 q).mono b3.size)⟩
      | cons y ys =>
        simp only [List.length_cons] at hly
        have l1 : ¬ (pre.length : Int) < (piecesB a).length := by omega
        have l2 : ((piecesB a).length : Int) < (piecesB b).length := by omega
        clear hx hy hlx hly
        go_wp2
        go_ret
        exact ⟨by rw [HC.out]; rfl, b3.trans ((below_draw w2 q).mono b3.size)⟩
    | cons x xs =>
      simp only [List.length_cons] at hlx
      have l1 : (pre.length : Int) < (piecesB a).length := by omega
      cases ys with
      | nil =>
        simp only [List.length_nil, Nat.add_zero] at hly
        have l2 : ¬ (pre.length : Int) < (piecesB b).length := by omega
        have l3 : ¬ ((piecesB a).length : Int) < (piecesB b).length := by omega
        have l4 : ((piecesB b).length : Int) < (piecesB a).length := by omega
        clear hx hy hlx hly
        go_wp2
        go_ret
        exact ⟨by rw [HC.out]; rfl, b3.trans ((below_draw w2 q).mono b3.size)⟩
      | cons y ys =>
        simp only [List.length_cons] at hly
        have l2 : (pre.length : Int) < (piecesB b).length := by omega
        have hc1 := row_at (hx ▸ HR1.out)
        have hc2 := row_at (hy ▸ HR2.out)
        have HLX : Hid _ := hlx
        have HLY : Hid _ := hly
        clear hx hy hlx hly
        have hcm := cmpB_less x y
        cases e1 : Op.bytesLess x.toList y.toList
        · cases e2 : (x.toList == y.toList)
          · have HZ : Hid (compareN a b = 1) := by unfold Hid; rw [HC.out]; unfold compareP; rw [hcm, e1, e2]; rfl
            clear hcm
            go_wp2
            go_quiet (fail)
            go_wp2
            go_quiet (fail)
            go_wp2
            go_ret
            exact ⟨by rw [HZ.out]; rfl, b3.trans ⟨rfl, rfl, rfl, Nat.le_refl _, fun _ _ => rfl⟩⟩
          · have hxy : x = y := un_inj (by rw [← toList_un, ← toList_un]; exact beq_iff_eq.1 e2)
            have HXY : Hid _ := hxy
            clear hcm hxy
            go_wp2
            go_quiet (fail)
            go_wp2
            go_quiet (fail)
            go_wp2
            go_roundw
            case rel => exact ⟨pre ++ [x], xs, ys, _, by rw [HX.out]; simp, by rw [HY.out, HXY.out]; simp, by simp, rfl⟩
            case measure => have h := HLX.out; simp [intOf]; omega
        · have HZ : Hid (compareN a b = -1) := by unfold Hid; rw [HC.out]; unfold compareP; rw [hcm, e1]; rfl
          clear hcm
          go_wp2
          go_quiet (fail)
          go_wp2
          go_ret
          exact ⟨by rw [HZ.out]; rfl, b3.trans ⟨rfl, rfl, rfl, Nat.le_refl _, fun _ _ => rfl⟩⟩
end Go.Proofs.YtgildlfanfbebaaGreatDoor

namespace Go.Proofs.YtgildlfanfbebaaGreatDoor
open Go Go.RowKit

def mkb8 (x : Int) : UInt8 := UInt8.ofNat (x % 256).toNat
theorem mkb8_int (x : Int) : ((mkb8 x).toNat : Int) = x % 256 := by
  unfold mkb8
  rw [UInt8.toNat_ofNat']; omega
def mkTx (k i : Int) : ByteArray := bs [35, mkb8 k, mkb8 (k / 256), mkb8 i, mkb8 (i / 256)]
set_option maxRecDepth 100000 in
theorem mkTx_conv (k i : Int) (w : World) : (convert 143 9 (.slice (some ⟨w.heap.size, 0, none⟩) 5 5)).run Tryz.prog (w.alloc (.cells #[.int .u8 35, .int .u8 (k % 256), .int .u8 (k / 256 % 256), .int .u8 (i % 256), .int .u8 (i / 256 % 256)] 5)) = .ok (.string (mkTx k i)) (w.alloc (.cells #[.int .u8 35, .int .u8 (k % 256), .int .u8 (k / 256 % 256), .int .u8 (i % 256), .int .u8 (i / 256 % 256)] 5)) := by
  refine run_convert_bytes_back _ 143 9 5 ⟨w.heap.size, 0, none⟩ 5 [35, mkb8 k, mkb8 (k / 256), mkb8 i, mkb8 (i / 256)] Tryz.underlying143 Tryz.underlying5 Tryz.underlying9 ?_
  intro j hj
  simp only [← mkb8_int]
  have hc := fun v (h : (#[.int .u8 35, .int .u8 ((mkb8 k).toNat : Int), .int .u8 ((mkb8 (k / 256)).toNat : Int), .int .u8 ((mkb8 i).toNat : Int), .int .u8 ((mkb8 (i / 256)).toNat : Int)] : Array Value)[j]? = some v) => (Lies.new w 5 #[.int .u8 35, .int .u8 ((mkb8 k).toNat : Int), .int .u8 ((mkb8 (k / 256)).toNat : Int), .int .u8 ((mkb8 i).toNat : Int), .int .u8 ((mkb8 (i / 256)).toNat : Int)]).cell h
  have e : (⟨w.heap.size, 0, none⟩ : Addr).add j = ⟨w.heap.size, j, none⟩ := by rw [Addr.add_mid, Nat.zero_add]
  rw [e]
  refine hc _ ?_
  rcases j with _ | _ | _ | _ | _ | j
  · rfl
  · rfl
  · rfl
  · rfl
  · rfl
  · simp at hj; omega
set_option maxRecDepth 100000 in
set_option maxHeartbeats 2000000 in
theorem mkTx_p (k i : Int) (w : World) : Calls Tryz.prog 69 #[.int .i64 k, .int .i64 i] w fun e w' => e = .returned (.string (mkTx k i)) ∧ Below w.heap.size w w' := by
  have hcv := mkTx_conv k i w
  go_enter Tryz.func69, Tryz.ntmps69
  go_wp2
  go_ret
  exact ⟨rfl, (Below.refl _ w).alloc (Nat.le_refl _) _⟩
theorem own_below0 {W W2 : World} {base e size n : Nat} {v : Value} {xs : List Value} (h : W.ownsRow base e size v n xs) (hb : Below W.heap.size W W2) : W2.ownsRow base e size v n xs := by
  refine ⟨h.1, ?_⟩
  rcases h.2 with hn | ⟨g, cap, cur, rfl, hg, hgg, rest⟩
  · exact .inl hn
  · exact .inr ⟨g, cap, cur, rfl, hg, (hb.block g (Array.getElem?_eq_some_iff.1 hgg).1).trans hgg, rest⟩
/-- A mark. -/
def markE (k i : Int) : Ent := ⟨mkTx k i, 0, -7 - k, ⟨#[]⟩, ⟨#[]⟩⟩
def evs (e : Ent) : Array Value := #[.string e.path, .int .i64 e.kind, .int .i64 e.mode, .string e.data, .string e.link]
theorem evs_size (e : Ent) : (Tryz.prog.info? 52).map (·.size) = some (evs e).size := by
  show _ = some 5
  kernel_rfl
set_option maxRecDepth 100000 in
set_option maxHeartbeats 2000000 in
theorem markE_p (k i : Int) (h0 : 0 ≤ k) (h1 : k ≤ 1000000) (w : World) : Calls Tryz.prog 51 #[.int .i64 k, .int .i64 i] w fun e w' => e = .returned (.agg #[.string (markE k i).path, .int .i64 (markE k i).kind, .int .i64 (markE k i).mode, .string (markE k i).data, .string (markE k i).link]) ∧ Below w.heap.size w w' := by
  have b0 : Below w.heap.size w (w.alloc (.cells #[.string ⟨#[]⟩, .int .i64 0, .int .i64 0, .string ⟨#[]⟩, .string ⟨#[]⟩] 52)) := (Below.refl _ w).alloc (Nat.le_refl _) _
  have L0 := Lies.new w 52 #[.string ⟨#[]⟩, .int .i64 0, .int .i64 0, .string ⟨#[]⟩, .string ⟨#[]⟩]
  have hw : IntKind.i64.wrap (-7 - k) = -7 - k := by
    simp only [IntKind.wrap, IntKind.bits, IntKind.signed]
    simp
    omega
  have hinf : (Tryz.prog.info? 52).map (·.size) = some 5 := by kernel_rfl
  have hone : (#[.string (mkTx k i), .int .i64 0, .int .i64 (-7 - k), .string ⟨#[]⟩, .string ⟨#[]⟩] : Array Value).all (·.oneCell') = true := by simp [Value.oneCell']
  go_enter Tryz.func51, Tryz.ntmps51
  go_wp2_with (first
    | (go_at_call 69; refine (mkTx_p k i _).mono ?_; rintro e w1 ⟨rfl, b1⟩; have L1 := L0.below b1)
    | (refine wpList_store_row rfl 52 (.tmp 4) (.tmp 10) rfl w.heap.size #[.string (mkTx k i), .int .i64 0, .int .i64 (-7 - k), .string ⟨#[]⟩, .string ⟨#[]⟩] rfl rfl 52 #[.string ⟨#[]⟩, .int .i64 0, .int .i64 0, .string ⟨#[]⟩, .string ⟨#[]⟩] L1 hinf rfl hone ?_))
  dsimp only [Act.put]
  refine bodyPost_ret (results_cell_row rfl _ _ w.heap.size 52 #[.string (mkTx k i), .int .i64 0, .int .i64 (-7 - k), .string ⟨#[]⟩, .string ⟨#[]⟩] (0, 0) _ rfl (setRow_heap w1 w.heap.size _ _ _ (0, 0) L1) Tryz.underlying52 rfl hinf) rfl ?_
  exact ⟨rfl, below_setRow (b0.trans (b1.mono b0.size)) (Nat.le_refl _) _⟩
def marksE (n : Nat) : List Ent := List.map (fun i : Nat => markE 90 (i : Int)) (List.range n)
theorem marksE_succ (n : Nat) : marksE (n + 1) = marksE n ++ [markE 90 n] := by simp [marksE, List.range_succ]
theorem marksE_length (n : Nat) : (marksE n).length = n := by simp [marksE]
theorem marksE_get (n i : Nat) (h : i < n) : (marksE n)[i]? = some (markE 90 i) := by simp [marksE, h]

set_option maxHeartbeats 4000000 in
set_option maxRecDepth 100000 in
theorem fullE_p (es : List Ent) (v : Value) (w : World) (hv : EntsAt w v es) (hl : es.length ≤ 1073741824) : Calls Tryz.prog 32 #[v] w fun e w' => ∃ u, e = .returned u ∧ w'.ownsRow w.heap.size 52 5 u (es.length + 16) (ecells (es ++ marksE 16)) ∧ Below w.heap.size w w' := by
  obtain ⟨i0, hi, hz0, hz1, hz2⟩ := info_parts info_ent
  obtain ⟨a, cap, b, o, rfl, ha, hcap, hc⟩ := hv
  go_enter Tryz.func32, Tryz.ntmps32
  go_wp2
  go_loopw [3, 4] (fun v i wr => ∃ k : Nat, i = .int .i64 k ∧ k ≤ es.length ∧ wr.ownsRow w.heap.size 52 5 v (es.take k).length (ecells (es.take k)) ∧ Below w.heap.size w wr) (fun _ i _ => es.length - (intOf i).toNat)
  case atStart => exact ⟨0, rfl, Nat.zero_le _, World.ownsRow_nil _ _ _ _, Below.refl _ _⟩
  case round =>
    obtain ⟨k, rfl, hk, hown, hB⟩ := hrel
    have hsz := hB.size
    by_cases hlt : k < es.length
    · have hlt' : (k : Int) < (es.length : Int) := by omega
      have hk0 : (0 : Int) ≤ (k : Int) := by omega
      obtain ⟨x, hx⟩ : ∃ x, es[k]? = some x := ⟨_, List.getElem?_eq_getElem hlt⟩
      obtain rfl := ha (fun e => by rw [e] at hlt; simp at hlt)
      obtain ⟨c0, c1, c2, c3, c4⟩ := (hc k x hx).below hB
      have hlk : (es.take k).length ≤ es.length := by rw [List.length_take]; omega
      have HX : Hid (es.take (k + 1) = es.take k ++ [x]) := by unfold Hid; rw [List.take_add_one, hx]; rfl
      clear hx hc ha
      go_wp2_with (at_builtin; refine wpList_append_own _ rfl _ _ 22 rfl w.heap.size 52 i0 (.agg #[.string ⟨#[]⟩, .int .i64 0, .int .i64 0, .string ⟨#[]⟩, .string ⟨#[]⟩]) 5 64 Tryz.underlying22 hi hz0 hz1 hz2 rfl (by decide) _ _ _ rfl (hown.alloc _) ⟨wr.heap.size, 0, none⟩ 1 1 (ecs x) rfl rfl (ent_cells (ent_new wr _ x)) (ent_one x) (by unfold maxLen; omega) (by omega) (by simp; omega) ?_; intro v1 w1 hown1 hgrow1 _)
      have hb1 : Below w.heap.size w w1 := (hB.alloc hsz _).grown hgrow1 (by simp; omega) (fun j hj => (own_ge hown j hj.symm).1)
      have hown2 : w1.ownsRow w.heap.size 52 5 v1 (es.take (k + 1)).length (ecells (es.take (k + 1))) := by
        rw [HX.out, ecells_append, List.length_append]; simpa [ecells] using hown1
      clear hown1 hgrow1 hown
      go_roundw
      case rel => exact ⟨k + 1, by go_num, by omega, hown2, hb1⟩
      case measure => simp [intOf]; omega
    · have hge : ¬ (k : Int) < (es.length : Int) := by omega
      have hall : es.take k = es := List.take_of_length_le (by omega)
      rw [hall] at hown
      clear ha hc
      go_wp2_with fail
      go_loopw [3, 5] (fun v i wr => ∃ m : Nat, i = .int .i64 m ∧ m ≤ 16 ∧ wr.ownsRow w.heap.size 52 5 v (es ++ marksE m).length (ecells (es ++ marksE m)) ∧ Below w.heap.size w wr) (fun _ i _ => 16 - (intOf i).toNat)
      case atStart => exact ⟨0, rfl, Nat.zero_le _, by rw [show marksE 0 = [] from rfl, List.append_nil]; exact hown, hB⟩
      case round =>
        clear hown hB hsz
        obtain ⟨m, rfl, hm, hown, hB⟩ := hrel
        by_cases hlt : m < 16
        · have hlt' : (m : Int) < 16 := by omega
          have hM := fun W => markE_p 90 m (by decide) (by decide) W
          have HX : Hid (es ++ marksE (m + 1) = (es ++ marksE m) ++ [markE 90 m]) := by unfold Hid; rw [marksE_succ, ← List.append_assoc]
          have hln : (es ++ marksE m).length ≤ 1073741840 := by rw [List.length_append, marksE_length]; omega
          generalize markE 90 (m : Int) = x at *
          go_wp2_with (first
            | (go_at_call 51; refine (hM _).mono ?_; rintro e w1 ⟨rfl, b1⟩; have hown1 := own_below0 hown b1; have hB1 := hB.trans (b1.mono hB.size); have hs1 := hB1.size)
            | (at_builtin; refine wpList_append_own _ rfl _ _ 22 rfl w.heap.size 52 i0 (.agg #[.string ⟨#[]⟩, .int .i64 0, .int .i64 0, .string ⟨#[]⟩, .string ⟨#[]⟩]) 5 64 Tryz.underlying22 hi hz0 hz1 hz2 rfl (by decide) _ _ _ rfl (hown1.alloc _) ⟨w1.heap.size, 0, none⟩ 1 1 (ecs x) rfl rfl (ent_cells (ent_new w1 _ x)) (ent_one x) (by unfold maxLen; omega) (by omega) (by simp; omega) ?_; intro v1 w2 hown2 hgrow2 _))
          have hb2 : Below w.heap.size w w2 := (hB1.alloc hs1 _).grown hgrow2 (by simp; omega) (fun j hj => (own_ge hown1 j hj.symm).1)
          have hown3 : w2.ownsRow w.heap.size 52 5 v1 (es ++ marksE (m + 1)).length (ecells (es ++ marksE (m + 1))) := by
            rw [HX.out, ecells_append, List.length_append]; simpa [ecells] using hown2
          clear hown1 hgrow2 hown2 hown
          go_roundw
          case rel => exact ⟨m + 1, by go_num, by omega, hown3, hb2⟩
          case measure => simp [intOf]; omega
        · have hge2 : ¬ (m : Int) < 16 := by omega
          have hm16 : m = 16 := by omega
          rw [hm16, List.length_append, marksE_length] at hown
          have HW : Hid _ := hown
          clear hown hm16
          go_wp2
          go_ret
          exact ⟨_, rfl, HW.out, hB⟩
/-- A list that was lent: the entries, and sixteen marks behind them. -/
def LentE (w : World) (v : Value) (es : List Ent) : Prop :=
  ∃ g cap, v = .slice (some ⟨g, 0, none⟩) es.length cap ∧ es.length + 16 ≤ cap ∧ cap ≤ maxLen ∧ ∀ j x, (es ++ marksE 16)[j]? = some x → EntC w g (j * 5) x
theorem LentE.below {w w' : World} {v : Value} {es : List Ent} (h : LentE w v es) (hb : Below w.heap.size w w') : LentE w' v es := by
  obtain ⟨g, cap, rfl, hc, hm, h3⟩ := h
  exact ⟨g, cap, rfl, hc, hm, fun j x hx => (h3 j x hx).below hb⟩
theorem LentE.ents {w : World} {v : Value} {es : List Ent} (h : LentE w v es) : EntsAt w v es := by
  obtain ⟨g, cap, rfl, hc, _, h3⟩ := h
  refine ⟨_, cap, g, 0, rfl, fun _ => rfl, by omega, fun i x hx => ?_⟩
  rw [Nat.zero_add]
  exact h3 i x (by rw [List.getElem?_append_left (List.getElem?_eq_some_iff.1 hx).1]; exact hx)
set_option maxHeartbeats 2000000 in
set_option maxRecDepth 100000 in
theorem lentE_p (es : List Ent) (v : Value) (w : World) (hv : EntsAt w v es) (hl : es.length ≤ 1073741824) : Calls Tryz.prog 10 #[v] w fun e w' => ∃ u, e = .returned u ∧ LentE w' u es ∧ w'.ownsRow w.heap.size 52 5 u es.length (ecells es) ∧ Below w.heap.size w w' := by
  have hF := fullE_p es v w hv hl
  obtain ⟨a, cap0, b, o, rfl, ha, _, hc⟩ := hv
  clear hc ha
  go_enter Tryz.func10, Tryz.ntmps10
  go_wp2_with fail
  refine hF.mono ?_
  rintro e w1 ⟨u, rfl, hown, b1⟩
  have hown2 : w1.ownsRow w.heap.size 52 5 u (es ++ marksE 16).length (ecells (es ++ marksE 16)) := by rw [List.length_append, marksE_length]; exact hown
  obtain ⟨a3, cap3, b3, o3, h31, h32, h33, h34⟩ := ents_of_owns hown2
  rcases hown.2 with ⟨_, h0⟩ | ⟨g, cap, cur, rfl, hgb, hgg, hcap, hmax, hcs, htk⟩
  · omega
  have hne : es ++ marksE 16 ≠ [] := fun e => by have := congrArg List.length e; rw [List.length_append, marksE_length] at this; simp at this
  have e3 := h32 hne
  rw [e3] at h31
  injection h31 with h311 h312 h313
  injection h311 with h311
  injection h311 with h3a h3b
  subst h3a; subst h3b; subst h313
  clear h312
  have HI : Hid (LentE w1 (.slice (some ⟨g, 0, none⟩) es.length cap) es) := ⟨g, cap, rfl, hcap, hmax, fun j x hx => by have := h34 j x hx; rw [Nat.zero_add] at this; exact this⟩
  have HO : Hid (w1.ownsRow w.heap.size 52 5 (.slice (some ⟨g, 0, none⟩) es.length cap) es.length (ecells es)) := by
    refine ⟨ecells_length es, .inr ⟨g, cap, cur, rfl, hgb, hgg, by omega, hmax, hcs, ?_⟩⟩
    have h5 : cur.toList.take (es.length * 5) = (cur.toList.take ((es.length + 16) * 5)).take (es.length * 5) := by rw [List.take_take, Nat.min_eq_left (by omega)]
    rw [h5, htk, ecells_append, List.take_append_of_le_length (by rw [ecells_length]; exact Nat.le_refl _), List.take_of_length_le (by rw [ecells_length]; exact Nat.le_refl _)]
  clear hown hown2 h34 h32 hgg htk
  unfold maxLen at hmax
  have d1 : (0 : Int) ≤ (es.length : Int) := by omega
  have d2 : (es.length : Int) ≤ (cap : Int) := by omega
  go_wp2
  go_ret
  exact ⟨_, rfl, HI.out, HO.out, b1⟩
end Go.Proofs.YtgildlfanfbebaaGreatDoor

namespace Go.Proofs.YtgildlfanfbebaaGreatDoor
open Go Go.RowKit

theorem index0 : ∀ l : List UInt8, Lib.indexByte l 0 < 0 ↔ ∀ j : Nat, l[j]? ≠ some 0
  | [] => by simp [Lib.indexByte]
  | b :: l => by
    have ih := index0 l
    unfold Lib.indexByte
    by_cases hb : b = 0
    · subst hb
      simp only [beq_self_eq_true, if_true]
      constructor
      · intro h; omega
      · intro h; exact absurd rfl (h 0)
    · rw [if_neg (by simpa using hb)]
      have hr := indexByte_range 0 l
      constructor
      · intro h j
        cases j with
        | zero => simpa using hb
        | succ j =>
          have : Lib.indexByte l 0 < 0 := by
            split at h
            · rename_i hh; simp at hh; omega
            · omega
          simpa using ih.1 this j
      · intro h
        have : Lib.indexByte l 0 < 0 := ih.2 (fun j => by simpa using h (j + 1))
        rw [if_pos (by simp; omega)]; omega
set_option maxRecDepth 100000 in
set_option maxHeartbeats 2000000 in
theorem target_r (s : ByteArray) (w : World) (hs : s.size ≤ 9223372036854775806) : Calls Tryz.prog 106 #[.string s] w fun e w' => e = .returned (.bool (targB s)) ∧ w' = w := by
  go_enter Tryz.func106, Tryz.ntmps106
  go_wp2
  go_loop [3] (fun i => ∃ k : Nat, k ≤ s.size ∧ i = .int .i64 k ∧ ∀ j : Nat, j < k → (un s)[j]? ≠ some 0) (fun i => s.size - (intOf i).toNat)
  case atStart => exact ⟨0, Nat.zero_le _, rfl, fun j hj => by omega⟩
  case round =>
    obtain ⟨k, hk, rfl, hn⟩ := hrel
    have HN : Hid (∀ j : Nat, j < k → (un s)[j]? ≠ some 0) := hn
    clear hn
    by_cases hlt : k < s.size
    · have hlt' : (k : Int) < (s.size : Int) := by omega
      have hget : (un s)[k]? = some s[k] := un_getElem? s k hlt
      by_cases c0 : s[k].toNat = 0
      · have E : Hid (targB s = false) := by
          have hh : ¬ Lib.indexByte (un s) 0 < 0 := fun h => (index0 _).1 h k (by rw [hget, show s[k] = 0 from UInt8.toNat_inj.1 c0])
          unfold Hid targB
          rw [show decide (Lib.indexByte (un s) 0 < 0) = false by simpa using hh]; simp
        clear hget
        go_wp2
        go_ret
        exact ⟨by rw [E.out]; rfl, rfl⟩
      · have HN2 : Hid (∀ j : Nat, j < k + 1 → (un s)[j]? ≠ some 0) := fun j hj => by
          rcases Nat.lt_succ_iff_lt_or_eq.1 hj with h1 | rfl
          · exact HN.out j h1
          · rw [hget]; intro e; exact c0 (by rw [Option.some.inj e]; rfl)
        have c0' : ((s[k].toNat : Int) == 0) = false := by simpa using c0
        clear hget
        go_wp2
        go_round
        case rel => exact ⟨k + 1, by omega, by go_num, HN2.out⟩
        case measure => simp [intOf]; omega
    · obtain rfl : k = s.size := by omega
      have HI : Hid (decide (Lib.indexByte (un s) 0 < 0) = true) := decide_eq_true ((index0 _).2 (fun j => by
        by_cases hj : j < s.size
        · exact HN.out j hj
        · rw [un_none _ _ (by omega)]; simp))
      cases h1 : s.toList.isEmpty
      · have hp := (isEmpty_false s).1 h1
        have hp' : decide ((1 : Int) ≤ (s.size : Int)) = true := by simp; omega
        by_cases h2 : s.size ≤ 100
        · have h2' : decide ((s.size : Int) ≤ 100) = true := by simp; omega
          have E : Hid (targB s = true) := by unfold Hid targB; rw [h1, HI.out]; simp [h2]
          go_wp2
          go_ret
          exact ⟨by rw [E.out]; rfl, rfl⟩
        · have h2' : decide ((s.size : Int) ≤ 100) = false := by simp; omega
          have E : Hid (targB s = false) := by unfold Hid targB; rw [h1, HI.out]; simp [h2]
          go_wp2
          go_ret
          exact ⟨by rw [E.out]; rfl, rfl⟩
      · have hp := (isEmpty_iff s).1 h1
        have hp' : decide ((1 : Int) ≤ (s.size : Int)) = false := by simp; omega
        have E : Hid (targB s = false) := by unfold Hid targB; rw [h1]; simp
        go_wp2
        go_ret
        exact ⟨by rw [E.out]; rfl, rfl⟩
theorem kind_out (kind : Int) (h1 : kind ≠ 1) (h2 : kind ≠ 2) (h3 : kind ≠ 3) : kind < 1 ∨ 3 < kind := by omega
set_option maxRecDepth 100000 in
set_option maxHeartbeats 2000000 in
theorem itself_x (path : ByteArray) (kind mode : Int) (data link : ByteArray) (w : World) (h1 : kind ≠ 1) (h2 : kind ≠ 2) (h3 : kind ≠ 3) :
    Calls Tryz.prog 72 #[.agg #[.string path, .int .i64 kind, .int .i64 mode, .string data, .string link]] w fun e w' => e = .returned (.int .i64 14) ∧ Below w.heap.size w w' := by
  by_cases hk : kind < 1
  · have k1 : decide (kind < 1) = true := by simpa using hk
    clear hk h1 h2 h3
    go_enter Tryz.func72, Tryz.ntmps72
    go_wp2
    go_ret
    exact ⟨rfl, (Below.refl _ _).alloc (Nat.le_refl _) _⟩
  · have k1 : decide (kind < 1) = false := by simpa using hk
    have k3 : decide (3 < kind) = true := by simp; omega
    clear hk h1 h2 h3
    go_enter Tryz.func72, Tryz.ntmps72
    go_wp2
    go_ret
    exact ⟨rfl, (Below.refl _ _).alloc (Nat.le_refl _) _⟩

set_option maxRecDepth 100000 in
set_option maxHeartbeats 2000000 in
theorem itself_1c (path : ByteArray) (mode : Int) (data link : ByteArray) (w : World) (hp : path.size ≤ 1099511627776) (_hlk : link.size ≤ 1099511627776) (hc : checkN path ≠ 0) :
    Calls Tryz.prog 72 #[.agg #[.string path, .int .i64 1, .int .i64 mode, .string data, .string link]] w fun e w' => e = .returned (.int .i64 (checkN path)) ∧ Below w.heap.size w w' := by
  have bE : Below w.heap.size w (w.alloc (.cells #[.string path, .int .i64 1, .int .i64 mode, .string data, .string link] 52)) := (Below.refl _ _).alloc (Nat.le_refl _) _
  have HC : (checkN path != 0) = true := by simpa using hc
  go_enter Tryz.func72, Tryz.ntmps72
  go_wp2_with (go_at_call 105; refine (check_r path _ hp).mono ?_; rintro e w1 ⟨rfl, hb⟩)
  go_ret
  exact ⟨rfl, bE.trans (hb.mono (by simp))⟩
set_option maxRecDepth 100000 in
set_option maxHeartbeats 2000000 in
theorem itself_1m0 (path : ByteArray) (mode : Int) (data link : ByteArray) (w : World) (hp : path.size ≤ 1099511627776) (_hlk : link.size ≤ 1099511627776) (hc : checkN path = 0) (hm0 : mode < 0) :
    Calls Tryz.prog 72 #[.agg #[.string path, .int .i64 1, .int .i64 mode, .string data, .string link]] w fun e w' => e = .returned (.int .i64 16) ∧ Below w.heap.size w w' := by
  have bE : Below w.heap.size w (w.alloc (.cells #[.string path, .int .i64 1, .int .i64 mode, .string data, .string link] 52)) := (Below.refl _ _).alloc (Nat.le_refl _) _
  have HC : Hid (checkN path = 0) := hc
  clear hc
  have b0 : decide (mode < 0) = true := by simpa using hm0
  clear hm0
  go_enter Tryz.func72, Tryz.ntmps72
  go_wp2_with ((go_at_call 105; refine (check_r path _ hp).mono ?_; rintro e w1 ⟨rfl, hb⟩; rw [HC.out]; obtain ⟨c0, c1, c2, c3, c4⟩ := (ent_new w 52 ⟨path, 1, mode, data, link⟩).below hb))
  go_ret
  exact ⟨rfl, bE.trans (hb.mono (by simp))⟩
set_option maxRecDepth 100000 in
set_option maxHeartbeats 2000000 in
theorem itself_1m1 (path : ByteArray) (mode : Int) (data link : ByteArray) (w : World) (hp : path.size ≤ 1099511627776) (_hlk : link.size ≤ 1099511627776) (hc : checkN path = 0) (hm0 : ¬ mode < 0) (hm1 : 4095 < mode) :
    Calls Tryz.prog 72 #[.agg #[.string path, .int .i64 1, .int .i64 mode, .string data, .string link]] w fun e w' => e = .returned (.int .i64 16) ∧ Below w.heap.size w w' := by
  have bE : Below w.heap.size w (w.alloc (.cells #[.string path, .int .i64 1, .int .i64 mode, .string data, .string link] 52)) := (Below.refl _ _).alloc (Nat.le_refl _) _
  have HC : Hid (checkN path = 0) := hc
  clear hc
  have b0 : decide (mode < 0) = false := by simpa using hm0
  have b1 : decide (4095 < mode) = true := by simpa using hm1
  clear hm0 hm1
  go_enter Tryz.func72, Tryz.ntmps72
  go_wp2_with ((go_at_call 105; refine (check_r path _ hp).mono ?_; rintro e w1 ⟨rfl, hb⟩; rw [HC.out]; obtain ⟨c0, c1, c2, c3, c4⟩ := (ent_new w 52 ⟨path, 1, mode, data, link⟩).below hb))
  go_ret
  exact ⟨rfl, bE.trans (hb.mono (by simp))⟩
set_option maxRecDepth 100000 in
set_option maxHeartbeats 2000000 in
theorem itself_1d (path : ByteArray) (mode : Int) (data link : ByteArray) (w : World) (hp : path.size ≤ 1099511627776) (_hlk : link.size ≤ 1099511627776) (hc : checkN path = 0) (hm0 : ¬ mode < 0) (hm1 : ¬ 4095 < mode) (hd : data.toList.isEmpty = false) :
    Calls Tryz.prog 72 #[.agg #[.string path, .int .i64 1, .int .i64 mode, .string data, .string link]] w fun e w' => e = .returned (.int .i64 4) ∧ Below w.heap.size w w' := by
  have bE : Below w.heap.size w (w.alloc (.cells #[.string path, .int .i64 1, .int .i64 mode, .string data, .string link] 52)) := (Below.refl _ _).alloc (Nat.le_refl _) _
  have HC : Hid (checkN path = 0) := hc
  clear hc
  have b0 : decide (mode < 0) = false := by simpa using hm0
  have b1 : decide (4095 < mode) = false := by simpa using hm1
  clear hm0 hm1
  go_enter Tryz.func72, Tryz.ntmps72
  go_wp2_with ((go_at_call 105; refine (check_r path _ hp).mono ?_; rintro e w1 ⟨rfl, hb⟩; rw [HC.out]; obtain ⟨c0, c1, c2, c3, c4⟩ := (ent_new w 52 ⟨path, 1, mode, data, link⟩).below hb))
  go_ret
  exact ⟨rfl, bE.trans (hb.mono (by simp))⟩
set_option maxRecDepth 100000 in
set_option maxHeartbeats 2000000 in
theorem itself_1l (path : ByteArray) (mode : Int) (data link : ByteArray) (w : World) (hp : path.size ≤ 1099511627776) (_hlk : link.size ≤ 1099511627776) (hc : checkN path = 0) (hm0 : ¬ mode < 0) (hm1 : ¬ 4095 < mode) (hd : data.toList.isEmpty = true) (hl : link.toList.isEmpty = false) :
    Calls Tryz.prog 72 #[.agg #[.string path, .int .i64 1, .int .i64 mode, .string data, .string link]] w fun e w' => e = .returned (.int .i64 4) ∧ Below w.heap.size w w' := by
  have bE : Below w.heap.size w (w.alloc (.cells #[.string path, .int .i64 1, .int .i64 mode, .string data, .string link] 52)) := (Below.refl _ _).alloc (Nat.le_refl _) _
  have HC : Hid (checkN path = 0) := hc
  clear hc
  have b0 : decide (mode < 0) = false := by simpa using hm0
  have b1 : decide (4095 < mode) = false := by simpa using hm1
  clear hm0 hm1
  go_enter Tryz.func72, Tryz.ntmps72
  go_wp2_with ((go_at_call 105; refine (check_r path _ hp).mono ?_; rintro e w1 ⟨rfl, hb⟩; rw [HC.out]; obtain ⟨c0, c1, c2, c3, c4⟩ := (ent_new w 52 ⟨path, 1, mode, data, link⟩).below hb))
  go_ret
  exact ⟨rfl, bE.trans (hb.mono (by simp))⟩
set_option maxRecDepth 100000 in
set_option maxHeartbeats 2000000 in
theorem itself_1o (path : ByteArray) (mode : Int) (data link : ByteArray) (w : World) (hp : path.size ≤ 1099511627776) (_hlk : link.size ≤ 1099511627776) (hc : checkN path = 0) (hm0 : ¬ mode < 0) (hm1 : ¬ 4095 < mode) (hd : data.toList.isEmpty = true) (hl : link.toList.isEmpty = true) :
    Calls Tryz.prog 72 #[.agg #[.string path, .int .i64 1, .int .i64 mode, .string data, .string link]] w fun e w' => e = .returned (.int .i64 0) ∧ Below w.heap.size w w' := by
  have bE : Below w.heap.size w (w.alloc (.cells #[.string path, .int .i64 1, .int .i64 mode, .string data, .string link] 52)) := (Below.refl _ _).alloc (Nat.le_refl _) _
  have HC : Hid (checkN path = 0) := hc
  clear hc
  have b0 : decide (mode < 0) = false := by simpa using hm0
  have b1 : decide (4095 < mode) = false := by simpa using hm1
  clear hm0 hm1
  go_enter Tryz.func72, Tryz.ntmps72
  go_wp2_with ((go_at_call 105; refine (check_r path _ hp).mono ?_; rintro e w1 ⟨rfl, hb⟩; rw [HC.out]; obtain ⟨c0, c1, c2, c3, c4⟩ := (ent_new w 52 ⟨path, 1, mode, data, link⟩).below hb))
  go_ret
  exact ⟨rfl, bE.trans (hb.mono (by simp))⟩
set_option maxRecDepth 100000 in
set_option maxHeartbeats 2000000 in
theorem itself_2c (path : ByteArray) (mode : Int) (data link : ByteArray) (w : World) (hp : path.size ≤ 1099511627776) (_hlk : link.size ≤ 1099511627776) (hc : checkN path ≠ 0) :
    Calls Tryz.prog 72 #[.agg #[.string path, .int .i64 2, .int .i64 mode, .string data, .string link]] w fun e w' => e = .returned (.int .i64 (checkN path)) ∧ Below w.heap.size w w' := by
  have bE : Below w.heap.size w (w.alloc (.cells #[.string path, .int .i64 2, .int .i64 mode, .string data, .string link] 52)) := (Below.refl _ _).alloc (Nat.le_refl _) _
  have HC : (checkN path != 0) = true := by simpa using hc
  go_enter Tryz.func72, Tryz.ntmps72
  go_wp2_with (go_at_call 105; refine (check_r path _ hp).mono ?_; rintro e w1 ⟨rfl, hb⟩)
  go_ret
  exact ⟨rfl, bE.trans (hb.mono (by simp))⟩
set_option maxRecDepth 100000 in
set_option maxHeartbeats 2000000 in
theorem itself_2m0 (path : ByteArray) (mode : Int) (data link : ByteArray) (w : World) (hp : path.size ≤ 1099511627776) (_hlk : link.size ≤ 1099511627776) (hc : checkN path = 0) (hm0 : mode < 0) :
    Calls Tryz.prog 72 #[.agg #[.string path, .int .i64 2, .int .i64 mode, .string data, .string link]] w fun e w' => e = .returned (.int .i64 16) ∧ Below w.heap.size w w' := by
  have bE : Below w.heap.size w (w.alloc (.cells #[.string path, .int .i64 2, .int .i64 mode, .string data, .string link] 52)) := (Below.refl _ _).alloc (Nat.le_refl _) _
  have HC : Hid (checkN path = 0) := hc
  clear hc
  have b0 : decide (mode < 0) = true := by simpa using hm0
  clear hm0
  go_enter Tryz.func72, Tryz.ntmps72
  go_wp2_with ((go_at_call 105; refine (check_r path _ hp).mono ?_; rintro e w1 ⟨rfl, hb⟩; rw [HC.out]; obtain ⟨c0, c1, c2, c3, c4⟩ := (ent_new w 52 ⟨path, 2, mode, data, link⟩).below hb))
  go_ret
  exact ⟨rfl, bE.trans (hb.mono (by simp))⟩
set_option maxRecDepth 100000 in
set_option maxHeartbeats 2000000 in
theorem itself_2m1 (path : ByteArray) (mode : Int) (data link : ByteArray) (w : World) (hp : path.size ≤ 1099511627776) (_hlk : link.size ≤ 1099511627776) (hc : checkN path = 0) (hm0 : ¬ mode < 0) (hm1 : 4095 < mode) :
    Calls Tryz.prog 72 #[.agg #[.string path, .int .i64 2, .int .i64 mode, .string data, .string link]] w fun e w' => e = .returned (.int .i64 16) ∧ Below w.heap.size w w' := by
  have bE : Below w.heap.size w (w.alloc (.cells #[.string path, .int .i64 2, .int .i64 mode, .string data, .string link] 52)) := (Below.refl _ _).alloc (Nat.le_refl _) _
  have HC : Hid (checkN path = 0) := hc
  clear hc
  have b0 : decide (mode < 0) = false := by simpa using hm0
  have b1 : decide (4095 < mode) = true := by simpa using hm1
  clear hm0 hm1
  go_enter Tryz.func72, Tryz.ntmps72
  go_wp2_with ((go_at_call 105; refine (check_r path _ hp).mono ?_; rintro e w1 ⟨rfl, hb⟩; rw [HC.out]; obtain ⟨c0, c1, c2, c3, c4⟩ := (ent_new w 52 ⟨path, 2, mode, data, link⟩).below hb))
  go_ret
  exact ⟨rfl, bE.trans (hb.mono (by simp))⟩
set_option maxRecDepth 100000 in
set_option maxHeartbeats 2000000 in
theorem itself_2z (path : ByteArray) (mode : Int) (data link : ByteArray) (w : World) (hp : path.size ≤ 1099511627776) (_hlk : link.size ≤ 1099511627776) (hc : checkN path = 0) (hm0 : ¬ mode < 0) (hm1 : ¬ 4095 < mode) (hz : 1048576 < data.size) :
    Calls Tryz.prog 72 #[.agg #[.string path, .int .i64 2, .int .i64 mode, .string data, .string link]] w fun e w' => e = .returned (.int .i64 5) ∧ Below w.heap.size w w' := by
  have bE : Below w.heap.size w (w.alloc (.cells #[.string path, .int .i64 2, .int .i64 mode, .string data, .string link] 52)) := (Below.refl _ _).alloc (Nat.le_refl _) _
  have HC : Hid (checkN path = 0) := hc
  clear hc
  have b0 : decide (mode < 0) = false := by simpa using hm0
  have b1 : decide (4095 < mode) = false := by simpa using hm1
  have bz : decide ((1048576 : Int) < (data.size : Int)) = true := by simp; omega
  clear hm0 hm1 hz
  go_enter Tryz.func72, Tryz.ntmps72
  go_wp2_with ((go_at_call 105; refine (check_r path _ hp).mono ?_; rintro e w1 ⟨rfl, hb⟩; rw [HC.out]; obtain ⟨c0, c1, c2, c3, c4⟩ := (ent_new w 52 ⟨path, 2, mode, data, link⟩).below hb))
  go_ret
  exact ⟨rfl, bE.trans (hb.mono (by simp))⟩
set_option maxRecDepth 100000 in
set_option maxHeartbeats 2000000 in
theorem itself_2l (path : ByteArray) (mode : Int) (data link : ByteArray) (w : World) (hp : path.size ≤ 1099511627776) (_hlk : link.size ≤ 1099511627776) (hc : checkN path = 0) (hm0 : ¬ mode < 0) (hm1 : ¬ 4095 < mode) (hz : ¬ 1048576 < data.size) (hl : link.toList.isEmpty = false) :
    Calls Tryz.prog 72 #[.agg #[.string path, .int .i64 2, .int .i64 mode, .string data, .string link]] w fun e w' => e = .returned (.int .i64 4) ∧ Below w.heap.size w w' := by
  have bE : Below w.heap.size w (w.alloc (.cells #[.string path, .int .i64 2, .int .i64 mode, .string data, .string link] 52)) := (Below.refl _ _).alloc (Nat.le_refl _) _
  have HC : Hid (checkN path = 0) := hc
  clear hc
  have b0 : decide (mode < 0) = false := by simpa using hm0
  have b1 : decide (4095 < mode) = false := by simpa using hm1
  have bz : decide ((1048576 : Int) < (data.size : Int)) = false := by simp; omega
  clear hm0 hm1 hz
  go_enter Tryz.func72, Tryz.ntmps72
  go_wp2_with ((go_at_call 105; refine (check_r path _ hp).mono ?_; rintro e w1 ⟨rfl, hb⟩; rw [HC.out]; obtain ⟨c0, c1, c2, c3, c4⟩ := (ent_new w 52 ⟨path, 2, mode, data, link⟩).below hb))
  go_ret
  exact ⟨rfl, bE.trans (hb.mono (by simp))⟩
set_option maxRecDepth 100000 in
set_option maxHeartbeats 2000000 in
theorem itself_2o (path : ByteArray) (mode : Int) (data link : ByteArray) (w : World) (hp : path.size ≤ 1099511627776) (_hlk : link.size ≤ 1099511627776) (hc : checkN path = 0) (hm0 : ¬ mode < 0) (hm1 : ¬ 4095 < mode) (hz : ¬ 1048576 < data.size) (hl : link.toList.isEmpty = true) :
    Calls Tryz.prog 72 #[.agg #[.string path, .int .i64 2, .int .i64 mode, .string data, .string link]] w fun e w' => e = .returned (.int .i64 0) ∧ Below w.heap.size w w' := by
  have bE : Below w.heap.size w (w.alloc (.cells #[.string path, .int .i64 2, .int .i64 mode, .string data, .string link] 52)) := (Below.refl _ _).alloc (Nat.le_refl _) _
  have HC : Hid (checkN path = 0) := hc
  clear hc
  have b0 : decide (mode < 0) = false := by simpa using hm0
  have b1 : decide (4095 < mode) = false := by simpa using hm1
  have bz : decide ((1048576 : Int) < (data.size : Int)) = false := by simp; omega
  clear hm0 hm1 hz
  go_enter Tryz.func72, Tryz.ntmps72
  go_wp2_with ((go_at_call 105; refine (check_r path _ hp).mono ?_; rintro e w1 ⟨rfl, hb⟩; rw [HC.out]; obtain ⟨c0, c1, c2, c3, c4⟩ := (ent_new w 52 ⟨path, 2, mode, data, link⟩).below hb))
  go_ret
  exact ⟨rfl, bE.trans (hb.mono (by simp))⟩
set_option maxRecDepth 100000 in
set_option maxHeartbeats 2000000 in
theorem itself_3c (path : ByteArray) (mode : Int) (data link : ByteArray) (w : World) (hp : path.size ≤ 1099511627776) (_hlk : link.size ≤ 1099511627776) (hc : checkN path ≠ 0) :
    Calls Tryz.prog 72 #[.agg #[.string path, .int .i64 3, .int .i64 mode, .string data, .string link]] w fun e w' => e = .returned (.int .i64 (checkN path)) ∧ Below w.heap.size w w' := by
  have bE : Below w.heap.size w (w.alloc (.cells #[.string path, .int .i64 3, .int .i64 mode, .string data, .string link] 52)) := (Below.refl _ _).alloc (Nat.le_refl _) _
  have HC : (checkN path != 0) = true := by simpa using hc
  go_enter Tryz.func72, Tryz.ntmps72
  go_wp2_with (go_at_call 105; refine (check_r path _ hp).mono ?_; rintro e w1 ⟨rfl, hb⟩)
  go_ret
  exact ⟨rfl, bE.trans (hb.mono (by simp))⟩
set_option maxRecDepth 100000 in
set_option maxHeartbeats 2000000 in
theorem itself_3m0 (path : ByteArray) (mode : Int) (data link : ByteArray) (w : World) (hp : path.size ≤ 1099511627776) (_hlk : link.size ≤ 1099511627776) (hc : checkN path = 0) (hm0 : mode < 0) :
    Calls Tryz.prog 72 #[.agg #[.string path, .int .i64 3, .int .i64 mode, .string data, .string link]] w fun e w' => e = .returned (.int .i64 16) ∧ Below w.heap.size w w' := by
  have bE : Below w.heap.size w (w.alloc (.cells #[.string path, .int .i64 3, .int .i64 mode, .string data, .string link] 52)) := (Below.refl _ _).alloc (Nat.le_refl _) _
  have HC : Hid (checkN path = 0) := hc
  clear hc
  have b0 : decide (mode < 0) = true := by simpa using hm0
  clear hm0
  go_enter Tryz.func72, Tryz.ntmps72
  go_wp2_with ((go_at_call 105; refine (check_r path _ hp).mono ?_; rintro e w1 ⟨rfl, hb⟩; rw [HC.out]; obtain ⟨c0, c1, c2, c3, c4⟩ := (ent_new w 52 ⟨path, 3, mode, data, link⟩).below hb))
  go_ret
  exact ⟨rfl, bE.trans (hb.mono (by simp))⟩
set_option maxRecDepth 100000 in
set_option maxHeartbeats 2000000 in
theorem itself_3m1 (path : ByteArray) (mode : Int) (data link : ByteArray) (w : World) (hp : path.size ≤ 1099511627776) (_hlk : link.size ≤ 1099511627776) (hc : checkN path = 0) (hm0 : ¬ mode < 0) (hm1 : 4095 < mode) :
    Calls Tryz.prog 72 #[.agg #[.string path, .int .i64 3, .int .i64 mode, .string data, .string link]] w fun e w' => e = .returned (.int .i64 16) ∧ Below w.heap.size w w' := by
  have bE : Below w.heap.size w (w.alloc (.cells #[.string path, .int .i64 3, .int .i64 mode, .string data, .string link] 52)) := (Below.refl _ _).alloc (Nat.le_refl _) _
  have HC : Hid (checkN path = 0) := hc
  clear hc
  have b0 : decide (mode < 0) = false := by simpa using hm0
  have b1 : decide (4095 < mode) = true := by simpa using hm1
  clear hm0 hm1
  go_enter Tryz.func72, Tryz.ntmps72
  go_wp2_with ((go_at_call 105; refine (check_r path _ hp).mono ?_; rintro e w1 ⟨rfl, hb⟩; rw [HC.out]; obtain ⟨c0, c1, c2, c3, c4⟩ := (ent_new w 52 ⟨path, 3, mode, data, link⟩).below hb))
  go_ret
  exact ⟨rfl, bE.trans (hb.mono (by simp))⟩
set_option maxRecDepth 100000 in
set_option maxHeartbeats 2000000 in
theorem itself_3m5 (path : ByteArray) (mode : Int) (data link : ByteArray) (w : World) (hp : path.size ≤ 1099511627776) (_hlk : link.size ≤ 1099511627776) (hc : checkN path = 0) (hm0 : ¬ mode < 0) (hm1 : ¬ 4095 < mode) (hm5 : mode ≠ 511) :
    Calls Tryz.prog 72 #[.agg #[.string path, .int .i64 3, .int .i64 mode, .string data, .string link]] w fun e w' => e = .returned (.int .i64 16) ∧ Below w.heap.size w w' := by
  have bE : Below w.heap.size w (w.alloc (.cells #[.string path, .int .i64 3, .int .i64 mode, .string data, .string link] 52)) := (Below.refl _ _).alloc (Nat.le_refl _) _
  have HC : Hid (checkN path = 0) := hc
  clear hc
  have b0 : decide (mode < 0) = false := by simpa using hm0
  have b1 : decide (4095 < mode) = false := by simpa using hm1
  have b5 : (mode != 511) = true := by simpa using hm5
  clear hm0 hm1 hm5
  go_enter Tryz.func72, Tryz.ntmps72
  go_wp2_with ((go_at_call 105; refine (check_r path _ hp).mono ?_; rintro e w1 ⟨rfl, hb⟩; rw [HC.out]; obtain ⟨c0, c1, c2, c3, c4⟩ := (ent_new w 52 ⟨path, 3, mode, data, link⟩).below hb))
  go_ret
  exact ⟨rfl, bE.trans (hb.mono (by simp))⟩
set_option maxRecDepth 100000 in
set_option maxHeartbeats 2000000 in
theorem itself_3t (path : ByteArray) (mode : Int) (data link : ByteArray) (w : World) (hp : path.size ≤ 1099511627776) (hlk : link.size ≤ 1099511627776) (hc : checkN path = 0) (hm0 : ¬ mode < 0) (hm1 : ¬ 4095 < mode) (hm5 : mode = 511) (ht : targB link = false) :
    Calls Tryz.prog 72 #[.agg #[.string path, .int .i64 3, .int .i64 mode, .string data, .string link]] w fun e w' => e = .returned (.int .i64 17) ∧ Below w.heap.size w w' := by
  have bE : Below w.heap.size w (w.alloc (.cells #[.string path, .int .i64 3, .int .i64 mode, .string data, .string link] 52)) := (Below.refl _ _).alloc (Nat.le_refl _) _
  have HC : Hid (checkN path = 0) := hc
  clear hc
  have b0 : decide (mode < 0) = false := by simpa using hm0
  have b1 : decide (4095 < mode) = false := by simpa using hm1
  have b5 : (mode != 511) = false := by simpa using hm5
  have HT : Hid (targB link = false) := ht
  clear ht
  clear hm0 hm1 hm5
  go_enter Tryz.func72, Tryz.ntmps72
  go_wp2_with ((first | (go_at_call 105; refine (check_r path _ hp).mono ?_; rintro e w1 ⟨rfl, hb⟩; rw [HC.out]; obtain ⟨c0, c1, c2, c3, c4⟩ := (ent_new w 52 ⟨path, 3, mode, data, link⟩).below hb) | (go_at_call 106; refine (target_r link _ (by omega)).mono ?_; rintro e w2 ⟨rfl, hw2⟩; subst hw2; rw [HT.out])))
  go_ret
  exact ⟨rfl, bE.trans (hb.mono (by simp))⟩
set_option maxRecDepth 100000 in
set_option maxHeartbeats 2000000 in
theorem itself_3d (path : ByteArray) (mode : Int) (data link : ByteArray) (w : World) (hp : path.size ≤ 1099511627776) (hlk : link.size ≤ 1099511627776) (hc : checkN path = 0) (hm0 : ¬ mode < 0) (hm1 : ¬ 4095 < mode) (hm5 : mode = 511) (ht : targB link = true) (hd : data.toList.isEmpty = false) :
    Calls Tryz.prog 72 #[.agg #[.string path, .int .i64 3, .int .i64 mode, .string data, .string link]] w fun e w' => e = .returned (.int .i64 4) ∧ Below w.heap.size w w' := by
  have bE : Below w.heap.size w (w.alloc (.cells #[.string path, .int .i64 3, .int .i64 mode, .string data, .string link] 52)) := (Below.refl _ _).alloc (Nat.le_refl _) _
  have HC : Hid (checkN path = 0) := hc
  clear hc
  have b0 : decide (mode < 0) = false := by simpa using hm0
  have b1 : decide (4095 < mode) = false := by simpa using hm1
  have b5 : (mode != 511) = false := by simpa using hm5
  have HT : Hid (targB link = true) := ht
  clear ht
  clear hm0 hm1 hm5
  go_enter Tryz.func72, Tryz.ntmps72
  go_wp2_with ((first | (go_at_call 105; refine (check_r path _ hp).mono ?_; rintro e w1 ⟨rfl, hb⟩; rw [HC.out]; obtain ⟨c0, c1, c2, c3, c4⟩ := (ent_new w 52 ⟨path, 3, mode, data, link⟩).below hb) | (go_at_call 106; refine (target_r link _ (by omega)).mono ?_; rintro e w2 ⟨rfl, hw2⟩; subst hw2; rw [HT.out])))
  go_ret
  exact ⟨rfl, bE.trans (hb.mono (by simp))⟩
set_option maxRecDepth 100000 in
set_option maxHeartbeats 2000000 in
theorem itself_3o (path : ByteArray) (mode : Int) (data link : ByteArray) (w : World) (hp : path.size ≤ 1099511627776) (hlk : link.size ≤ 1099511627776) (hc : checkN path = 0) (hm0 : ¬ mode < 0) (hm1 : ¬ 4095 < mode) (hm5 : mode = 511) (ht : targB link = true) (hd : data.toList.isEmpty = true) :
    Calls Tryz.prog 72 #[.agg #[.string path, .int .i64 3, .int .i64 mode, .string data, .string link]] w fun e w' => e = .returned (.int .i64 0) ∧ Below w.heap.size w w' := by
  have bE : Below w.heap.size w (w.alloc (.cells #[.string path, .int .i64 3, .int .i64 mode, .string data, .string link] 52)) := (Below.refl _ _).alloc (Nat.le_refl _) _
  have HC : Hid (checkN path = 0) := hc
  clear hc
  have b0 : decide (mode < 0) = false := by simpa using hm0
  have b1 : decide (4095 < mode) = false := by simpa using hm1
  have b5 : (mode != 511) = false := by simpa using hm5
  have HT : Hid (targB link = true) := ht
  clear ht
  clear hm0 hm1 hm5
  go_enter Tryz.func72, Tryz.ntmps72
  go_wp2_with ((first | (go_at_call 105; refine (check_r path _ hp).mono ?_; rintro e w1 ⟨rfl, hb⟩; rw [HC.out]; obtain ⟨c0, c1, c2, c3, c4⟩ := (ent_new w 52 ⟨path, 3, mode, data, link⟩).below hb) | (go_at_call 106; refine (target_r link _ (by omega)).mono ?_; rintro e w2 ⟨rfl, hw2⟩; subst hw2; rw [HT.out])))
  go_ret
  exact ⟨rfl, bE.trans (hb.mono (by simp))⟩
theorem itself_r (e : Ent) (w : World) (hp : e.path.size ≤ 1099511627776) (hlk : e.link.size ≤ 1099511627776) :
    Calls Tryz.prog 72 #[.agg #[.string e.path, .int .i64 e.kind, .int .i64 e.mode, .string e.data, .string e.link]] w fun ex w' => ex = .returned (.int .i64 (wrongN e)) ∧ Below w.heap.size w w' := by
  obtain ⟨path, kind, mode, data, link⟩ := e
  by_cases h1 : kind = 1
  · subst h1
    by_cases hc : checkN path = 0
    · by_cases m0 : mode < 0
      · simpa [wrongN, hc, m0] using itself_1m0 path mode data link w hp hlk hc m0
      · by_cases m1 : 4095 < mode
        · simpa [wrongN, hc, m0, m1] using itself_1m1 path mode data link w hp hlk hc m0 m1
        · cases hd : data.toList.isEmpty
          · simpa [wrongN, hc, m0, m1, hd] using itself_1d path mode data link w hp hlk hc m0 m1 hd
          · cases hl : link.toList.isEmpty
            · simpa [wrongN, hc, m0, m1, hd, hl] using itself_1l path mode data link w hp hlk hc m0 m1 hd hl
            · simpa [wrongN, hc, m0, m1, hd, hl] using itself_1o path mode data link w hp hlk hc m0 m1 hd hl
    · simpa [wrongN, hc] using itself_1c path mode data link w hp hlk hc
  · by_cases h2 : kind = 2
    · subst h2
      by_cases hc : checkN path = 0
      · by_cases m0 : mode < 0
        · simpa [wrongN, hc, m0] using itself_2m0 path mode data link w hp hlk hc m0
        · by_cases m1 : 4095 < mode
          · simpa [wrongN, hc, m0, m1] using itself_2m1 path mode data link w hp hlk hc m0 m1
          · by_cases hz : 1048576 < data.size
            · simpa [wrongN, hc, m0, m1, hz] using itself_2z path mode data link w hp hlk hc m0 m1 hz
            · cases hl : link.toList.isEmpty
              · simpa [wrongN, hc, m0, m1, hz, hl] using itself_2l path mode data link w hp hlk hc m0 m1 hz hl
              · simpa [wrongN, hc, m0, m1, hz, hl] using itself_2o path mode data link w hp hlk hc m0 m1 hz hl
      · simpa [wrongN, hc] using itself_2c path mode data link w hp hlk hc
    · by_cases h3 : kind = 3
      · subst h3
        by_cases hc : checkN path = 0
        · by_cases m0 : mode < 0
          · simpa [wrongN, hc, m0] using itself_3m0 path mode data link w hp hlk hc m0
          · by_cases m1 : 4095 < mode
            · simpa [wrongN, hc, m0, m1] using itself_3m1 path mode data link w hp hlk hc m0 m1
            · by_cases m5 : mode = 511
              · cases ht : targB link
                · simpa [wrongN, hc, m5, ht] using itself_3t path mode data link w hp hlk hc m0 m1 m5 ht
                · cases hd : data.toList.isEmpty
                  · simpa [wrongN, hc, m5, ht, hd] using itself_3d path mode data link w hp hlk hc m0 m1 m5 ht hd
                  · simpa [wrongN, hc, m5, ht, hd] using itself_3o path mode data link w hp hlk hc m0 m1 m5 ht hd
              · simpa [wrongN, hc, m0, m1, m5] using itself_3m5 path mode data link w hp hlk hc m0 m1 m5
        · simpa [wrongN, hc] using itself_3c path mode data link w hp hlk hc
      · simpa [wrongN, h1, h2, h3] using itself_x path kind mode data link w h1 h2 h3
end Go.Proofs.YtgildlfanfbebaaGreatDoor

namespace Go.Proofs.YtgildlfanfbebaaGreatDoor
open Go Go.RowKit

def oneD (L : List Ent) (e : Ent) : Int :=
  if wrongN e ≠ 0 then wrongN e else if L ≠ [] ∧ pathIs e.path ⟨lastP L, 0, 0, ⟨#[]⟩, ⟨#[]⟩⟩ = true then 11 else if L ≠ [] ∧ 0 < compareN (lastP L) e.path then 1
  else if upN L e.path ≠ 0 then upN L e.path else if 4096 ≤ L.length ∨ (16777216 : Int) < (bytesL L : Int) + e.data.size then 5 else 0
theorem lastP_one {es : List Ent} {j : Nat} {d : Ent} (h : es[j]? = some d) : lastP (es.take (j + 1)) = d.path := lastP_take h
theorem take_ne {es : List Ent} {j : Nat} {d : Ent} (h : es[j]? = some d) : es.take (j + 1) ≠ [] := by rw [List.take_add_one, h]; simp
/-- The document's and the program's are the same, behind a tree. -/
theorem oneD_eq {L : List Ent} {e : Ent} (ho : L.Pairwise ltE) : oneD L e = oneN L e := by
  unfold oneD oneN
  by_cases hw : wrongN e = 0
  · have n1 : ¬ (wrongN e ≠ 0) := by simpa using hw
    rw [if_neg n1, if_neg n1]
    have hck := wrong_check hw
    have core : (∀ x ∈ L, ltE x e) → (if upN L e.path ≠ 0 then upN L e.path else if 4096 ≤ L.length ∨ (16777216 : Int) < (bytesL L : Int) + e.data.size then 5 else 0) = putN L e := fun hb => by
      unfold putN manyN
      rw [put_end hb]
      simp only
      by_cases hu : upN L e.path ≠ 0
      · rw [if_pos hu, if_pos hu]
      · rw [if_neg hu, if_neg hu]
        by_cases h4 : 4096 ≤ L.length ∨ (16777216 : Int) < (bytesL L : Int) + e.data.size
        · rw [if_pos h4, if_pos (by rcases h4 with h | h; exact .inl (by omega); exact .inr h)]
        · rw [if_neg h4, if_neg (by rintro (h | h); exact h4 (.inl (by omega)); exact h4 (.inr h))]
    by_cases hn : L = []
    · have n2 : ¬ (L ≠ [] ∧ pathIs e.path ⟨lastP L, 0, 0, ⟨#[]⟩, ⟨#[]⟩⟩ = true) := fun h => h.1 hn
      have n3 : ¬ (L ≠ [] ∧ 0 < compareN (lastP L) e.path) := fun h => h.1 hn
      have n4 : ¬ (ooN (lastP L) e.path ≠ 0) := by
        rw [hn]
        have : ooN (lastP []) e.path = 0 := oo_start hck
        simpa using this
      rw [if_neg n2, if_neg n3, if_neg n4]
      exact core (by rw [hn]; simp)
    · have hz : compareN (lastP L) e.path = 0 ↔ pathIs e.path ⟨lastP L, 0, 0, ⟨#[]⟩, ⟨#[]⟩⟩ = true := by
        rw [pathIs_iff]
        exact ⟨order_zero, fun h => by have h' : lastP L = e.path := h; rw [h']; exact order_self _⟩
      by_cases h1 : compareN (lastP L) e.path = 0
      · have n2 : L ≠ [] ∧ pathIs e.path ⟨lastP L, 0, 0, ⟨#[]⟩, ⟨#[]⟩⟩ = true := ⟨hn, hz.1 h1⟩
        have h3 : ooN (lastP L) e.path = 11 := by simp [ooN, h1]
        rw [if_pos n2, h3]; rfl
      · have n2 : ¬ (L ≠ [] ∧ pathIs e.path ⟨lastP L, 0, 0, ⟨#[]⟩, ⟨#[]⟩⟩ = true) := fun h => h1 (hz.2 h.2)
        rw [if_neg n2]
        by_cases h2 : 0 < compareN (lastP L) e.path
        · have n3 : L ≠ [] ∧ 0 < compareN (lastP L) e.path := ⟨hn, h2⟩
          have h3 : ooN (lastP L) e.path = 1 := by simp [ooN, h1, h2]
          rw [if_pos n3, h3]; rfl
        · have n3 : ¬ (L ≠ [] ∧ 0 < compareN (lastP L) e.path) := fun h => h2 h.2
          have h3 : ooN (lastP L) e.path = 0 := by simp [ooN, h1, h2]
          have n4 : ¬ (ooN (lastP L) e.path ≠ 0) := by simpa using h3
          rw [if_neg n3, if_neg n4]
          exact core (oo_behind ho h3)
  · rw [if_pos hw, if_pos hw]
/-- No entry is too great. -/
def Small (es : List Ent) : Prop := es.length ≤ 1048576 ∧ ∀ e ∈ es, e.path.size ≤ 1048576 ∧ e.link.size ≤ 1048576 ∧ e.data.size ≤ 1048576
theorem wrap_pred (j : Nat) (h : j ≤ 1099511627777) : IntKind.i64.wrap ((j : Int) + 1 - 1) = (j : Int) := by
  simp only [IntKind.wrap, IntKind.bits, IntKind.signed]
  simp
  omega
set_option maxRecDepth 100000 in
set_option maxHeartbeats 8000000 in
theorem one_r (v : Value) (es : List Ent) (k : Nat) (x : Ent) (w : World) (hv : EntsAt w v es) (hs : Small es) (hx : es[k]? = some x) (hby : bytesL (es.take k) ≤ 1099511627776) :
    Calls Tryz.prog 60 #[v, .int .i64 k, .int .i64 (bytesL (es.take k) : Nat)] w fun e w' => e = .returned (.int .i64 (oneD (es.take k) x)) ∧ Below w.heap.size w w' := by
  obtain ⟨a, cap, b, o, rfl, ha, hcap, hc⟩ := hv
  have hlt := (List.getElem?_eq_some_iff.1 hx).1
  have hlt' : (k : Int) < (es.length : Int) := by omega
  have hk0 : (0 : Int) ≤ (k : Int) := by omega
  obtain rfl := ha (fun e => by rw [e] at hlt; simp at hlt)
  obtain ⟨hxp, hxl, hxd⟩ := hs.2 x (List.mem_of_getElem? hx)
  have hsl := hs.1
  have HC : Hid (∀ W i e, es[i]? = some e → Below w.heap.size w W → EntC W b (o + i * 5) e) := fun W i e he bb => (hc i e he).below bb
  have HX : Hid (es[k]? = some x) := hx
  have HTL : Hid ((es.take k).length = k) := by unfold Hid; rw [List.length_take]; omega
  have HSM : Hid (Small es) := hs
  obtain ⟨c0, c1, c2, c3, c4⟩ := hc k x hx
  have HCAP : Hid (es.length ≤ cap) := hcap
  by_cases hw : wrongN x = 0
  · have HW : Hid (wrongN x = 0) := hw
    clear hw hx hc ha hs
    go_enter Tryz.func60, Tryz.ntmps60
    go_upto_region 4 with (go_at_call 72; refine (itself_r x _ (by omega) (by omega)).mono ?_; rintro e w1 ⟨rfl, hb1⟩; rw [HW.out])
    obtain ⟨d0, d1, d2, d3, d4⟩ := HC.out w1 k x HX.out hb1
    have HB1 : Hid (Below w.heap.size w w1) := hb1
    clear c0 c1 c2 c3 c4 hb1
    by_cases p4 : es.take k ≠ [] ∧ pathIs x.path ⟨lastP (es.take k), 0, 0, ⟨#[]⟩, ⟨#[]⟩⟩ = true
    · have E : Hid (oneD (es.take k) x = 11) := by unfold Hid oneD; rw [if_neg (show ¬ (wrongN x ≠ 0) by simpa using HW.out), if_pos p4]
      have hz0 : k ≠ 0 := fun e => by rw [e] at p4; exact p4.1 rfl
      obtain ⟨j, hj⟩ : ∃ j, k = j + 1 := ⟨k - 1, by omega⟩
      have h0 : 0 < k := by omega
      have h0i : (0 : Int) < (k : Int) := by omega
      have hw1 : IntKind.i64.wrap ((k : Int) - 1) = (j : Int) := by
        have := wrap_pred j (by omega)
        rw [hj]; simpa using this
      have hj0 : (0 : Int) ≤ (j : Int) := by omega
      have hj1 : (j : Int) < (es.length : Int) := by omega
      obtain ⟨d, hd⟩ : ∃ d, es[j]? = some d := ⟨_, List.getElem?_eq_getElem (by omega)⟩
      have hdz := (HSM.out.2 d (List.mem_of_getElem? hd)).1
      have hlp : lastP (es.take k) = d.path := by rw [hj]; exact lastP_one hd
      have hne : es.take k ≠ [] := by rw [hj]; exact take_ne hd
      have hpb : (d.path.toList == x.path.toList) = true := by
        have := p4.2
        rw [hlp] at this
        rw [toList_un, toList_un]; exact this
      have g0 := (HC.out w1 j d hd HB1.out).c0
      clear hj hd hz0 hlp hne p4
      go_quiet (fail)
      go_wp2
      go_ret
      exact ⟨by rw [E.out]; rfl, HB1.out.trans ⟨rfl, rfl, rfl, Nat.le_refl _, fun _ _ => rfl⟩⟩
    · go_cut [31] from 16 to 30 (fun s wx => s = .bool false ∧ Below w.heap.size w wx)
      case first =>
        by_cases hz0 : k = 0
        · have h0 : decide (0 < k) = false := by simp; omega
          clear hz0 p4
          go_quiet (fail)
          go_wp2_with fail
          go_meet
          exact ⟨rfl, HB1.out.trans ⟨rfl, rfl, rfl, Nat.le_refl _, fun _ _ => rfl⟩⟩
        · obtain ⟨j, hj⟩ : ∃ j, k = j + 1 := ⟨k - 1, by omega⟩
          have h0 : 0 < k := by omega
          have h0i : (0 : Int) < (k : Int) := by omega
          have hw1 : IntKind.i64.wrap ((k : Int) - 1) = (j : Int) := by
            have := wrap_pred j (by omega)
            rw [hj]; simpa using this
          have hj0 : (0 : Int) ≤ (j : Int) := by omega
          have hj1 : (j : Int) < (es.length : Int) := by omega
          obtain ⟨d, hd⟩ : ∃ d, es[j]? = some d := ⟨_, List.getElem?_eq_getElem (by omega)⟩
          have hdz := (HSM.out.2 d (List.mem_of_getElem? hd)).1
          have hlp : lastP (es.take k) = d.path := by rw [hj]; exact lastP_one hd
          have hne : es.take k ≠ [] := by rw [hj]; exact take_ne hd
          have hpb : (d.path.toList == x.path.toList) = false := by
            rw [toList_un, toList_un]
            cases hq : (un d.path == un x.path) with
            | false => rfl
            | true => exact absurd ⟨hne, by rw [hlp]; exact hq⟩ p4
          have g0 := (HC.out w1 j d hd HB1.out).c0
          clear hj hd hz0 hlp hne p4
          go_quiet (fail)
          go_wp2_with fail
          go_meet
          exact ⟨rfl, HB1.out.trans ⟨rfl, rfl, rfl, Nat.le_refl _, fun _ _ => rfl⟩⟩
      case rest =>
        obtain ⟨rfl, hb2⟩ := hcut
        have HB2 : Hid (Below w.heap.size w wc) := hb2
        have HP4 : Hid (¬ (es.take k ≠ [] ∧ pathIs x.path ⟨lastP (es.take k), 0, 0, ⟨#[]⟩, ⟨#[]⟩⟩ = true)) := p4
        clear hb2 p4 d0 d1 d2 d3 d4 HB1
        go_upto_region 6 with fail
        by_cases p6 : es.take k ≠ [] ∧ 0 < compareN (lastP (es.take k)) x.path
        · have E : Hid (oneD (es.take k) x = 1) := by unfold Hid oneD; rw [if_neg (show ¬ (wrongN x ≠ 0) by simpa using HW.out), if_neg HP4.out, if_pos p6]
          have hz0 : k ≠ 0 := fun e => by rw [e] at p6; exact p6.1 rfl
          obtain ⟨j, hj⟩ : ∃ j, k = j + 1 := ⟨k - 1, by omega⟩
          have h0 : 0 < k := by omega
          have h0i : (0 : Int) < (k : Int) := by omega
          have hw1 : IntKind.i64.wrap ((k : Int) - 1) = (j : Int) := by
            have := wrap_pred j (by omega)
            rw [hj]; simpa using this
          have hj0 : (0 : Int) ≤ (j : Int) := by omega
          have hj1 : (j : Int) < (es.length : Int) := by omega
          obtain ⟨d, hd⟩ : ∃ d, es[j]? = some d := ⟨_, List.getElem?_eq_getElem (by omega)⟩
          have hdz := (HSM.out.2 d (List.mem_of_getElem? hd)).1
          have hlp : lastP (es.take k) = d.path := by rw [hj]; exact lastP_one hd
          have hne : es.take k ≠ [] := by rw [hj]; exact take_ne hd
          have hcc := p6.2
          rw [hlp] at hcc
          have hC := fun W => compare_r d.path x.path W (by omega) (by omega)
          have HS0 : Hid (wc.drew.cell? ⟨b, o + k * 5, none⟩ = some (.string x.path) ∧ wc.drew.cell? ⟨b, o + j * 5, none⟩ = some (.string d.path) ∧ Below w.heap.size w wc.drew) := ⟨(HC.out wc k x HX.out HB2.out).c0, (HC.out wc j d hd HB2.out).c0, HB2.out.trans ⟨rfl, rfl, rfl, Nat.le_refl _, fun _ _ => rfl⟩⟩
          have HK : Hid (∀ W1 W2, Below W1.heap.size W1 W2 → W1.cell? ⟨b, o + k * 5, none⟩ = some (.string x.path) → W1.cell? ⟨b, o + j * 5, none⟩ = some (.string d.path) → Below w.heap.size w W1 → (W2.cell? ⟨b, o + k * 5, none⟩ = some (.string x.path) ∧ W2.cell? ⟨b, o + j * 5, none⟩ = some (.string d.path) ∧ Below w.heap.size w W2)) := fun W1 W2 bb e1 e2 e3 => ⟨(bb.cell (p := ⟨b, o + k * 5, none⟩) (World.block_lt_of_cell? W1 _ e1)).trans e1, (bb.cell (p := ⟨b, o + j * 5, none⟩) (World.block_lt_of_cell? W1 _ e2)).trans e2, below_join e3 bb⟩
          clear hj hd hz0 hlp hne p6
          generalize compareN d.path x.path = C at *
          have hsb : decide ((0 : Int) < C) = true := by simpa using hcc
          clear hcc
          go_region_held3 (fun w' => w'.cell? ⟨b, o + k * 5, none⟩ = some (.string x.path) ∧ w'.cell? ⟨b, o + j * 5, none⟩ = some (.string d.path) ∧ Below w.heap.size w w') (first | exact HS0.out | (go_split_ands; exact HK.out _ _ b1 (by assumption) (by assumption) (by assumption))) (first | (go_at_call 61; with_reducible refine (hC _).mono ?_; rintro e w1 ⟨rfl, b1⟩))
          have hB1 : Below w.heap.size w w1 := by first | assumption | (go_split_ands; assumption)
          go_wp2
          go_ret
          exact ⟨by rw [E.out]; rfl, hB1⟩
        · go_cut [48] from 32 to 47 (fun s wx => s = .bool false ∧ Below w.heap.size w wx)
          case first =>
            by_cases hz0 : k = 0
            · have h0 : decide (0 < k) = false := by simp; omega
              clear hz0 p6
              go_quiet (fail)
              go_wp2_with fail
              go_meet
              exact ⟨rfl, HB2.out.trans ⟨rfl, rfl, rfl, Nat.le_refl _, fun _ _ => rfl⟩⟩
            · obtain ⟨j, hj⟩ : ∃ j, k = j + 1 := ⟨k - 1, by omega⟩
              have h0 : 0 < k := by omega
              have h0i : (0 : Int) < (k : Int) := by omega
              have hw1 : IntKind.i64.wrap ((k : Int) - 1) = (j : Int) := by
                have := wrap_pred j (by omega)
                rw [hj]; simpa using this
              have hj0 : (0 : Int) ≤ (j : Int) := by omega
              have hj1 : (j : Int) < (es.length : Int) := by omega
              obtain ⟨d, hd⟩ : ∃ d, es[j]? = some d := ⟨_, List.getElem?_eq_getElem (by omega)⟩
              have hdz := (HSM.out.2 d (List.mem_of_getElem? hd)).1
              have hlp : lastP (es.take k) = d.path := by rw [hj]; exact lastP_one hd
              have hne : es.take k ≠ [] := by rw [hj]; exact take_ne hd
              have hcc : ¬ 0 < compareN d.path x.path := fun h => p6 ⟨hne, by rw [hlp]; exact h⟩
              have hC := fun W => compare_r d.path x.path W (by omega) (by omega)
              have HS0 : Hid (wc.drew.cell? ⟨b, o + k * 5, none⟩ = some (.string x.path) ∧ wc.drew.cell? ⟨b, o + j * 5, none⟩ = some (.string d.path) ∧ Below w.heap.size w wc.drew) := ⟨(HC.out wc k x HX.out HB2.out).c0, (HC.out wc j d hd HB2.out).c0, HB2.out.trans ⟨rfl, rfl, rfl, Nat.le_refl _, fun _ _ => rfl⟩⟩
              have HK : Hid (∀ W1 W2, Below W1.heap.size W1 W2 → W1.cell? ⟨b, o + k * 5, none⟩ = some (.string x.path) → W1.cell? ⟨b, o + j * 5, none⟩ = some (.string d.path) → Below w.heap.size w W1 → (W2.cell? ⟨b, o + k * 5, none⟩ = some (.string x.path) ∧ W2.cell? ⟨b, o + j * 5, none⟩ = some (.string d.path) ∧ Below w.heap.size w W2)) := fun W1 W2 bb e1 e2 e3 => ⟨(bb.cell (p := ⟨b, o + k * 5, none⟩) (World.block_lt_of_cell? W1 _ e1)).trans e1, (bb.cell (p := ⟨b, o + j * 5, none⟩) (World.block_lt_of_cell? W1 _ e2)).trans e2, below_join e3 bb⟩
              clear hj hd hz0 hlp hne p6
              generalize compareN d.path x.path = C at *
              have hsb : decide ((0 : Int) < C) = false := by simpa using hcc
              clear hcc
              go_region_held3 (fun w' => w'.cell? ⟨b, o + k * 5, none⟩ = some (.string x.path) ∧ w'.cell? ⟨b, o + j * 5, none⟩ = some (.string d.path) ∧ Below w.heap.size w w') (first | exact HS0.out | (go_split_ands; exact HK.out _ _ b1 (by assumption) (by assumption) (by assumption))) (first | (go_at_call 61; with_reducible refine (hC _).mono ?_; rintro e w1 ⟨rfl, b1⟩))
              have hB1 : Below w.heap.size w w1 := by first | assumption | (go_split_ands; assumption)
              go_wp2_with fail
              go_meet
              exact ⟨rfl, hB1⟩
          case rest =>
            obtain ⟨rfl, hb3⟩ := hcut
            have HB3 : Hid (Below w.heap.size w wc) := hb3
            have HP6 : Hid (¬ (es.take k ≠ [] ∧ 0 < compareN (lastP (es.take k)) x.path)) := p6
            clear hb3 p6 HB2
            go_upto_region 8 with fail
            have c0 : wc.drew.cell? ⟨b, o + k * 5, none⟩ = some (.string x.path) := (HC.out wc k x HX.out HB3.out).c0
            have hkc : (k : Int) ≤ (cap : Int) := by have := HCAP.out; omega
            have hU := fun W (hb : Below w.heap.size w W) => up_r (.slice (some ⟨b, o, none⟩) k cap) (es.take k) x.path W (ents_take (fun _ => rfl) HCAP.out (fun i e he => HC.out W i e he hb) k (by omega)) (by have := HTL.out; omega) (by omega)
            have HB3d : Hid (Below w.heap.size w wc.drew) := HB3.out.trans ⟨rfl, rfl, rfl, Nat.le_refl _, fun _ _ => rfl⟩
            have lb := World.block_lt_of_cell? _ _ c0
            go_region_held3 (fun w' => w'.cell? ⟨b, o + k * 5, none⟩ = some (.string x.path)) (first | exact c0 | exact (b1.cell (p := ⟨b, o + k * 5, none⟩) lb).trans c0 | go_keep) (first | (go_at_call 73; with_reducible refine (hU _ HB3d.out).mono ?_; rintro e w1 ⟨rfl, b1⟩))
            have HB4 : Hid (Below w.heap.size w w1) := below_join HB3d.out b1
            clear hU b1 c0 lb HB3d HB3
            by_cases hu : upN (es.take k) x.path = 0
            · have HU : Hid (upN (es.take k) x.path = 0) := hu
              rw [hu]
              clear hu
              have c3 := (HC.out w1 k x HX.out HB4.out).c3
              by_cases h4 : 4096 ≤ k
              · have h4b : decide ((4096 : Int) ≤ (k : Int)) = true := by simp; omega
                have E : Hid (oneD (es.take k) x = 5) := by unfold Hid oneD; rw [if_neg (show ¬ (wrongN x ≠ 0) by simpa using HW.out), if_neg HP4.out, if_neg HP6.out, if_neg (show ¬ (upN (es.take k) x.path ≠ 0) by simpa using HU.out), if_pos (.inl (by rw [HTL.out]; exact h4))]
                clear h4
                go_wp2
                go_ret
                exact ⟨by rw [E.out]; rfl, HB4.out⟩
              · have h4b : decide ((4096 : Int) ≤ (k : Int)) = false := by simp; omega
                have hwr : wrap64 ((bytesL (es.take k) : Int) + (x.data.size : Int)) = (bytesL (es.take k) : Int) + (x.data.size : Int) := by unfold wrap64; omega
                by_cases h5 : (16777216 : Int) < (bytesL (es.take k) : Int) + x.data.size
                · have h5b : decide ((16777216 : Int) < (bytesL (es.take k) : Int) + (x.data.size : Int)) = true := by simpa using h5
                  have E : Hid (oneD (es.take k) x = 5) := by unfold Hid oneD; rw [if_neg (show ¬ (wrongN x ≠ 0) by simpa using HW.out), if_neg HP4.out, if_neg HP6.out, if_neg (show ¬ (upN (es.take k) x.path ≠ 0) by simpa using HU.out), if_pos (.inr h5)]
                  clear h4 h5
                  go_wp2
                  go_ret
                  exact ⟨by rw [E.out]; rfl, HB4.out⟩
                · have h5b : decide ((16777216 : Int) < (bytesL (es.take k) : Int) + (x.data.size : Int)) = false := by simpa using h5
                  have E : Hid (oneD (es.take k) x = 0) := by unfold Hid oneD; rw [if_neg (show ¬ (wrongN x ≠ 0) by simpa using HW.out), if_neg HP4.out, if_neg HP6.out, if_neg (show ¬ (upN (es.take k) x.path ≠ 0) by simpa using HU.out), if_neg (by rintro (h | h); rw [HTL.out] at h; exact h4 h; exact h5 h)]
                  clear h4 h5
                  go_wp2
                  go_ret
                  exact ⟨by rw [E.out]; rfl, HB4.out⟩
            · have hub : (upN (es.take k) x.path != 0) = true := by simpa using hu
              have E : Hid (oneD (es.take k) x = upN (es.take k) x.path) := by unfold Hid oneD; rw [if_neg (show ¬ (wrongN x ≠ 0) by simpa using HW.out), if_neg HP4.out, if_neg HP6.out, if_pos hu]
              clear hu
              go_wp2
              go_ret
              exact ⟨by rw [E.out]; rfl, HB4.out⟩
  · have E : Hid (oneD (es.take k) x = wrongN x) := if_pos hw
    have hwb : (wrongN x != 0) = true := by simpa using hw
    clear hw hx hc ha hs
    go_enter Tryz.func60, Tryz.ntmps60
    go_wp2_with (go_at_call 72; refine (itself_r x _ (by omega) (by omega)).mono ?_; rintro e w1 ⟨rfl, hb1⟩)
    go_ret
    exact ⟨by rw [E.out]; rfl, hb1⟩
theorem bytes_len (L : List Ent) (h : ∀ e ∈ L, e.data.size ≤ 1048576) : bytesL L ≤ L.length * 1048576 := by
  unfold bytesL
  induction L with
  | nil => simp
  | cons x L ih =>
    have h1 := h x (by simp)
    have h2 := ih (fun e he => h e (by simp [he]))
    simp only [List.map_cons, List.sum_cons, List.length_cons]
    omega
theorem one_ok {L : List Ent} {e : Ent} (h : oneN L e = 0) : wrongN e = 0 ∧ ooN (lastP L) e.path = 0 ∧ putN L e = 0 := by
  unfold oneN at h
  by_cases h1 : wrongN e = 0
  · rw [if_neg (show ¬ (wrongN e ≠ 0) by simpa using h1)] at h
    by_cases h2 : ooN (lastP L) e.path = 0
    · rw [if_neg (show ¬ (ooN (lastP L) e.path ≠ 0) by simpa using h2)] at h
      exact ⟨h1, h2, h⟩
    · rw [if_pos h2] at h; exact absurd h h2
  · rw [if_pos h1] at h; exact absurd h h1
theorem behind_pair {L : List Ent} {e : Ent} (h : L.Pairwise ltE) (h1 : ∀ x ∈ L, ltE x e) : (L ++ [e]).Pairwise ltE :=
  List.pairwise_append.2 ⟨h, List.pairwise_singleton _ _, fun a ha b hb => by
    obtain rfl : b = e := by simpa using hb
    exact h1 a ha⟩
set_option maxRecDepth 100000 in
set_option maxHeartbeats 4000000 in
theorem check_d (v : Value) (es : List Ent) (w : World) (hv : EntsAt w v es) (hs : Small es) :
    Calls Tryz.prog 30 #[v] w fun e w' => e = .returned (.tuple #[.int .i64 (checkGo [] es).1, .int .i64 ((checkGo [] es).2 : Nat)]) ∧ Below w.heap.size w w' := by
  have HV : Hid (EntsAt w v es) := hv
  obtain ⟨a, cap, b, o, rfl, ha, hcap, hc⟩ := hv
  have HS : Hid (Small es) := hs
  have hsl := hs.1
  clear hs
  go_enter Tryz.func30, Tryz.ntmps30
  go_wp2
  go_loopw [4, 5] (fun q i wr => ∃ k : Nat, i = .int .i64 k ∧ k ≤ es.length ∧ q = .int .i64 (bytesL (es.take k) : Nat) ∧ (es.take k).Pairwise ltE ∧ checkGo [] es = checkGo (es.take k) (es.drop k) ∧ Below w.heap.size w wr) (fun _ i _ => es.length - (intOf i).toNat)
  case atStart => exact ⟨0, rfl, Nat.zero_le _, by simp [bytesL], by simp, by simp, Below.refl _ _⟩
  case round =>
    obtain ⟨k, rfl, hk, rfl, hpw, hcg, hB⟩ := hrel
    have HPW : Hid ((es.take k).Pairwise ltE) := hpw
    have HCG : Hid (checkGo [] es = checkGo (es.take k) (es.drop k)) := hcg
    have HB : Hid (Below w.heap.size w wr) := hB
    clear hpw hcg hB
    by_cases hlt : k < es.length
    · have hlt' : (k : Int) < (es.length : Int) := by omega
      have hk0 : (0 : Int) ≤ (k : Int) := by omega
      obtain ⟨x, hx⟩ : ∃ x, es[k]? = some x := ⟨_, List.getElem?_eq_getElem hlt⟩
      obtain rfl := ha (fun e => by rw [e] at hlt; simp at hlt)
      have hxd := (HS.out.2 x (List.mem_of_getElem? hx)).2.2
      have htl : (es.take k).length = k := by rw [List.length_take]; omega
      have hbl : bytesL (es.take k) ≤ 1099511627776 := by
        have := bytes_len (es.take k) (fun e he => (HS.out.2 e (List.mem_of_mem_take he)).2.2)
        omega
      have hO := one_r _ es k x wr (HV.out.below HB.out) HS.out hx hbl
      rw [oneD_eq HPW.out] at hO
      have HST : Hid (checkGo (es.take k) (es.drop k) = if oneN (es.take k) x ≠ 0 then (oneN (es.take k) x, (es.take k).length) else checkGo (es.take (k + 1)) (es.drop (k + 1))) := checkGo_step hx
      have HX : Hid (es.take (k + 1) = es.take k ++ [x]) := by unfold Hid; rw [List.take_add_one, hx]; rfl
      have HC3 : Hid (∀ W, Below w.heap.size w W → W.cell? ⟨b, o + k * 5 + 3, none⟩ = some (.string x.data)) := fun W hb => ((hc k x hx).below hb).c3
      have HTL : Hid ((es.take k).length = k) := htl
      by_cases h1 : oneN (es.take k) x = 0
      · have H1 : Hid (oneN (es.take k) x = 0) := h1
        rw [h1] at hO
        have hwr : wrap64 ((bytesL (es.take k) : Int) + (x.data.size : Int)) = (bytesL (es.take k) : Int) + (x.data.size : Int) := by unfold wrap64; omega
        clear hx hc ha h1 htl
        go_wp2_with (go_at_call 60; refine hO.mono ?_; rintro e w1 ⟨rfl, hb1⟩; have c3 := HC3.out w1 (below_join HB.out hb1))
        go_roundw
        case rel =>
          refine ⟨k + 1, by go_num, by omega, ?_, ?_, ?_, below_join HB.out hb1⟩
          · rw [HX.out]; unfold bytesL; simp
          · rw [HX.out]; exact behind_pair HPW.out (oo_behind HPW.out (one_ok H1.out).2.1)
          · rw [HCG.out, HST.out, if_neg (show ¬ (oneN (es.take k) x ≠ 0) by simpa using H1.out)]
        case measure => simp [intOf]; omega
      · have h1b : (oneN (es.take k) x != 0) = true := by simpa using h1
        have E : Hid (checkGo [] es = (oneN (es.take k) x, k)) := by unfold Hid; rw [HCG.out, HST.out, if_pos h1, HTL.out]
        clear hx hc ha h1 htl
        go_wp2_with (go_at_call 60; refine hO.mono ?_; rintro e w1 ⟨rfl, hb1⟩)
        go_ret2
        exact ⟨by rw [E.out]; rfl, below_join HB.out hb1⟩
    · have hge : ¬ (k : Int) < (es.length : Int) := by omega
      have E : Hid (checkGo [] es = (0, 0)) := by unfold Hid; rw [HCG.out, List.drop_eq_nil_of_le (by omega)]; rfl
      go_wp2
      go_ret2
      exact ⟨by rw [E.out]; rfl, HB.out⟩
end Go.Proofs.YtgildlfanfbebaaGreatDoor

namespace Go.Proofs.YtgildlfanfbebaaGreatDoor
open Go Go.RowKit

theorem row_cell {W : World} {base e size n : Nat} {g cap : Nat} {xs : List Value} (h : W.ownsRow base e size (.slice (some ⟨g, 0, none⟩) n cap) n xs) (j : Nat) (u : Value) (hu : xs[j]? = some u) : W.cell? ⟨g, j, none⟩ = some u := by
  rcases h.2 with ⟨h0, _⟩ | ⟨g2, cap2, cur, h0, _, hgb, _, _, _, htk⟩
  · cases h0
  · cases h0
    have : cur[j]? = some u := by
      rw [← htk] at hu
      rw [List.getElem?_take] at hu
      split at hu
      · simpa using hu
      · cases hu
    simp [World.cell?, hgb, this]
theorem own_below {W W2 : World} {base e size n : Nat} {v : Value} {xs : List Value} (h : W.ownsRow base e size v n xs) (hb : Below W.heap.size W W2) : W2.ownsRow base e size v n xs := by
  refine ⟨h.1, ?_⟩
  rcases h.2 with hn | ⟨g, cap, cur, rfl, hg, hgg, rest⟩
  · exact .inl hn
  · exact .inr ⟨g, cap, cur, rfl, hg, (hb.block g (Array.getElem?_eq_some_iff.1 hgg).1).trans hgg, rest⟩

/-- An append that grows has a row of its own and leaves all else; one with room stays in its row. -/
theorem wpList_append_keepG {P : Program} (w : World) {ops : Array Oper} {rest : List Oper} {o : Oper} {a : Act} {Q : Exit → Act → World → Prop} (hgd : o.guard = none) (s x : Operand) (t : TypeId)
    (ho : o.op = .call { callee := .builtin .append, args := #[s, x], argTypes := #[t, t] })
    (base : Nat) (e : TypeId) (i : TypeInfo) (z : Value) (sz bytes : Nat) (ht : P.underlying t = some (.slice e)) (hi : P.info? e = some i) (hz : i.zero = some z)
    (hsize : i.size = sz) (hby : i.bytes = bytes) (hzs : z.cells.size = sz) (hsz0 : 0 < sz)
    (v : Value) (n : Nat) (xs : List Value) (hs : a.eval s = v) (hown : w.ownsRow base e sz v n xs)
    (ad : Addr) (c : Nat) (ys : List Value) (hyl : ys.length = 1 * sz) (hx : a.eval x = .slice (some ad) 1 c) (hnews : ∀ j u, ys[j]? = some u → w.cell? (ad.add j) = some u) (h1' : ∀ u ∈ ys, u.oneCell' = true)
    (h63 : n + 1 ≤ maxLen) (hbytes : (n + 1) * bytes ≤ 140737488355328) (hbase : base ≤ w.heap.size)
    (h : ∀ v' w', w'.ownsRow base e sz v' (n + 1) (xs ++ ys) → (v'.ownBlock = v.ownBlock ∧ w.grownBy w' v.ownBlock ∨ (∃ b, w.heap.size ≤ b ∧ v'.ownBlock = some b) ∧ w.grownBy w' none) → wpList P ops Q rest (a.put o.dst v') w') : wpList P ops Q (o :: rest) a w := by
  have fresh : ∀ v' w', w'.ownsRow w.heap.size e sz v' (n + 1) (xs ++ ys) → w.grownBy w' none → wpList P ops Q rest (a.put o.dst v') w' := by
    intro v' w' ho hg
    rcases ho.2 with ⟨_, h0⟩ | ⟨g, cap, cur, rfl, hb, rest⟩
    · omega
    · exact h _ _ ⟨ho.1, .inr ⟨g, cap, cur, rfl, Nat.le_trans hbase hb, rest⟩⟩ (.inr ⟨⟨g, hb, rfl⟩, hg⟩)
  have hown0 := hown
  rcases hown.2 with ⟨rfl, rfl⟩ | ⟨g, cap, cur, rfl, hb, hg, hnc, hcm, hcs, htake⟩
  · obtain rfl : xs = [] := List.eq_nil_of_length_eq_zero (by simpa using hown.1)
    exact wpList_append_grows w hgd s x t ho e i z sz bytes ht hi hz hsize hby hzs hsz0 none 0 0 [] hs (fun _ => ⟨rfl, rfl⟩) (by simp) (fun b hb => nomatch hb) ad 1 c ys hx hyl hnews h1' (by omega) h63 hbytes fresh
  · by_cases hroom : n + 1 ≤ cap
    · exact wpList_append_own_spare w hgd s x t ho base e i sz ht hi hsize g n cap xs hs hown0 ad 1 c ys hx hyl hnews h1' hroom (fun w' h2 h3 => h _ _ h2 (.inl ⟨rfl, h3⟩))
    · exact wpList_append_grows w hgd s x t ho e i z sz bytes ht hi hz hsize hby hzs hsz0 (some ⟨g, 0, none⟩) n cap xs hs (fun h => nomatch h) hown0.1 (fun b hb => by cases hb; exact hown0.cells rfl) ad 1 c ys hx hyl hnews h1' (by omega) h63 hbytes fresh

theorem own_eq {W W2 : World} {base e size n : Nat} {v : Value} {xs : List Value} (h : W.ownsRow base e size v n xs) (hb : ∀ b, v.ownBlock = some b → W2.heap[b]? = W.heap[b]?) : W2.ownsRow base e size v n xs := by
  refine ⟨h.1, ?_⟩
  rcases h.2 with hn | ⟨g, cap, cur, rfl, hg, hgg, rest⟩
  · exact .inl hn
  · exact .inr ⟨g, cap, cur, rfl, hg, (hb g rfl).trans hgg, rest⟩
theorem own_setG {W : World} {base e sz n g cap i : Nat} {xs : List Value} (h : W.ownsRow base e sz (.slice (some ⟨g, 0, none⟩) n cap) n xs) (x : Value) : (W.setCell ⟨g, i, none⟩ x).ownsRow base e sz (.slice (some ⟨g, 0, none⟩) n cap) n (xs.set i x) := by
  refine ⟨by rw [List.length_set]; exact h.1, ?_⟩
  rcases h.2 with ⟨hv, _⟩ | ⟨g', cap', cur, hv, hb, hg, h1, h2, h3, h4⟩
  · cases hv
  · cases hv
    refine .inr ⟨g, cap, cur.setIfInBounds i x, rfl, hb, Lies.set hg x, h1, h2, by rw [Array.size_setIfInBounds]; exact h3, ?_⟩
    rw [Array.toList_setIfInBounds, ← h4, List.take_set]
theorem set_otherG {W : World} {g i b : Nat} (x : Value) (h : g ≠ b) : (W.setCell ⟨g, i, none⟩ x).heap[b]? = W.heap[b]? := by
  show (W.heap.modify g _)[b]? = _
  rw [Array.getElem?_modify, if_neg h]
theorem own_lt {w : World} {B e sz n : Nat} {u : Value} {xs : List Value} (h : w.ownsRow B e sz u n xs) : ∀ b, u.ownBlock = some b → B ≤ b ∧ b < w.heap.size := fun b hb => by
  rcases h.2 with ⟨rfl, _⟩ | ⟨g, cap, cur, rfl, hg, hgg, _⟩
  · cases hb
  · cases hb; exact ⟨hg, (Array.getElem?_eq_some_iff.1 hgg).1⟩
theorem own_shapeG {w : World} {B e sz n : Nat} {u : Value} {xs : List Value} (h : w.ownsRow B e sz u n xs) : ∃ a c, u = .slice a n c ∧ (a = none → c = 0 ∧ n = 0) ∧ (∀ b, a = some b → ∃ g, b = ⟨g, 0, none⟩) ∧ n ≤ c ∧ c ≤ maxLen := by
  rcases h.2 with ⟨rfl, rfl⟩ | ⟨g, cap, cur, rfl, _, _, h1, hc, _⟩
  · exact ⟨none, 0, rfl, fun _ => ⟨rfl, rfl⟩, (fun b hb => nomatch hb), Nat.le_refl _, Nat.zero_le _⟩
  · exact ⟨_, _, rfl, (fun e => nomatch e), fun b hb => by cases hb; exact ⟨g, rfl⟩, h1, hc⟩
theorem own_frozenG {w : World} {B e sz n g c : Nat} {xs : List Value} (h : w.ownsRow B e sz (.slice (some ⟨g, 0, none⟩) n c) n xs) (i : Nat) : w.frozen? ⟨g, i, none⟩ = false := by
  rcases h.2 with ⟨hv, _⟩ | ⟨g', cap, cur, hv, _, hg, _⟩
  · cases hv
  · cases hv; exact Lies.frozen hg i
theorem own_baseG {w : World} {B B' e sz n : Nat} {u : Value} {xs : List Value} (h : w.ownsRow B' e sz u n xs) (hb : B ≤ B') : w.ownsRow B e sz u n xs := by
  refine ⟨h.1, ?_⟩
  rcases h.2 with h1 | ⟨g, cap, cur, h1, h2, h3⟩
  · exact .inl h1
  · exact .inr ⟨g, cap, cur, h1, Nat.le_trans hb h2, h3⟩
theorem grown_belowG {w w' : World} {B e sz n : Nat} {v v' : Value} {xs : List Value} (hg : v'.ownBlock = v.ownBlock ∧ w.grownBy w' v.ownBlock ∨ (∃ b, w.heap.size ≤ b ∧ v'.ownBlock = some b) ∧ w.grownBy w' none) (h : w.ownsRow B e sz v n xs) (hB : B ≤ w.heap.size) : Below B w w' := by
  rcases hg with ⟨_, hg⟩ | ⟨_, hg⟩
  · exact ⟨hg.os, hg.tape, hg.output, hg.size, fun k hk => hg.block k (by omega) (fun e => by have := (own_lt h k e.symm).1; omega)⟩
  · exact ⟨hg.os, hg.tape, hg.output, hg.size, fun k hk => hg.block k (by omega) (fun e => nomatch e)⟩

/- Elements: each of sz cells, as enc lays them; mk k i: the mark of the place i of the list k. -/
section elements
variable {α : Type} (enc : α → List Value) (sz t : Nat) (mk : Nat → Nat → α)
def cellsG (xs : List α) : List Value := xs.flatMap enc
theorem cellsG_cons (x : α) (xs : List α) : cellsG enc (x :: xs) = enc x ++ cellsG enc xs := rfl
theorem cellsG_append (a b : List α) : cellsG enc (a ++ b) = cellsG enc a ++ cellsG enc b := by simp [cellsG]
theorem cellsG_one (x : α) : cellsG enc [x] = enc x := by simp [cellsG]
theorem cellsG_length (hsz : ∀ x, (enc x).length = sz) (xs : List α) : (cellsG enc xs).length = xs.length * sz := by
  induction xs with
  | nil => simp [cellsG]
  | cons x xs ih => rw [cellsG_cons, List.length_append, ih, hsz, List.length_cons, Nat.succ_mul]; omega
theorem cellsG_get (hsz : ∀ x, (enc x).length = sz) : ∀ (xs : List α) (k : Nat) (x : α), xs[k]? = some x → ∀ j v, (enc x)[j]? = some v → (cellsG enc xs)[k * sz + j]? = some v
  | [], k, x, h, _, _, _ => by simp at h
  | q :: xs, 0, x, h, j, v, hj => by
    have hq : q = x := by simpa using h
    subst hq
    have hl : j < (enc q).length := (List.getElem?_eq_some_iff.1 hj).1
    rw [cellsG_cons, Nat.zero_mul, Nat.zero_add, List.getElem?_append_left hl]; exact hj
  | q :: xs, k + 1, x, h, j, v, hj => by
    have ih := cellsG_get hsz xs k x (by simpa using h) j v hj
    rw [cellsG_cons, List.getElem?_append_right (by rw [hsz, Nat.succ_mul]; omega)]
    rw [← ih]; congr 1; rw [hsz, Nat.succ_mul]; omega
/-- A list of elements lies at v. -/
def ListG (W : World) (v : Value) (xs : List α) : Prop :=
  ∃ (a : Option Addr) (cap b o : Nat), v = .slice a xs.length cap ∧ (xs ≠ [] → a = some ⟨b, o, none⟩) ∧ ∀ i x, xs[i]? = some x → ∀ j u, (enc x)[j]? = some u → W.cell? ⟨b, o + i * sz + j, none⟩ = some u
variable {enc sz t mk}
theorem ListG.same {W W2 : World} {v : Value} {xs : List α} (h : ListG enc sz W v xs) (hb : ∀ b, v.ownBlock = some b → W2.heap[b]? = W.heap[b]?) : ListG enc sz W2 v xs := by
  obtain ⟨a, c, b, o, rfl, ha, hc⟩ := h
  refine ⟨a, c, b, o, rfl, ha, fun i x hx j u hu => ?_⟩
  have he := ha (fun e => by rw [e] at hx; simp at hx)
  subst he
  exact (World.cell?_of_block (a := ⟨b, o + i * sz + j, none⟩) (hb b rfl)).trans (hc i x hx j u hu)
theorem ListG.own (hsz : ∀ x, (enc x).length = sz) {W : World} {B : Nat} {v : Value} {xs : List α} (h : W.ownsRow B t sz v xs.length (cellsG enc xs)) : ListG enc sz W v xs := by
  rcases h.2 with ⟨rfl, h0⟩ | ⟨g, cap, cur, rfl, hg, hgb, hcap, hm, hs, htk⟩
  · have : xs = [] := List.eq_nil_of_length_eq_zero h0
    subst this
    exact ⟨none, 0, 0, 0, rfl, fun h => absurd rfl h, fun i e he => by simp at he⟩
  · refine ⟨some ⟨g, 0, none⟩, cap, g, 0, rfl, fun _ => rfl, fun i x hx j u hu => ?_⟩
    have hj : j < sz := by have := (List.getElem?_eq_some_iff.1 hu).1; rwa [hsz] at this
    have := h.cells (g := g) rfl (i * sz + j) u (cellsG_get enc sz hsz xs i x hx j u hu)
    rw [Addr.add_mid] at this
    rw [Nat.zero_add]
    rw [Nat.zero_add] at this
    exact this

def marksG (mk : Nat → Nat → α) (k n : Nat) : List α := (List.range n).map (mk k)
theorem marksG_succ (k n : Nat) : marksG mk k (n + 1) = marksG mk k n ++ [mk k n] := by simp [marksG, List.range_succ]
theorem marksG_length (k n : Nat) : (marksG mk k n).length = n := by simp [marksG]
theorem marksG_get (k n i : Nat) (h : i < n) : (marksG mk k n)[i]? = some (mk k i) := by simp [marksG, h]

/-- The lists stand apart from each other and from the row that holds them. -/
structure HandedG (g : Nat) (us : List Value) : Prop where
  apart : ∀ (i j : Nat) (u v : Value), us[i]? = some u → us[j]? = some v → i ≠ j → u.ownBlock = none ∨ u.ownBlock ≠ v.ownBlock
  gap : ∀ (i : Nat) (u : Value), us[i]? = some u → u.ownBlock ≠ some g
def rowG (mk : Nat → Nat → α) (k i j : Nat) (xs : List α) : List α := if j < k then marksG mk j xs.length else if j = k then marksG mk k i ++ xs.drop i else xs
theorem rowG_length (k i j : Nat) (xs : List α) (hi : i ≤ xs.length) : (rowG mk k i j xs).length = xs.length := by
  unfold rowG
  split
  · rw [marksG_length]
  · split
    · rw [List.length_append, marksG_length, List.length_drop]; omega
    · rfl
/-- The lists ahead of the k-th are marked, and so are its first i elements. -/
def RwsG (enc : α → List Value) (sz t : Nat) (mk : Nat → Nat → α) (w : World) (B : Nat) (us : List Value) (xss : List (List α)) (k i : Nat) : Prop := ∀ (j : Nat) (u : Value) (xs : List α), us[j]? = some u → xss[j]? = some xs → w.ownsRow B t sz u xs.length (cellsG enc (rowG mk k i j xs))
theorem RwsG.below {w w' : World} {B : Nat} {us : List Value} {xss : List (List α)} {k i : Nat} (h : RwsG enc sz t mk w B us xss k i) (hb : Below w.heap.size w w') : RwsG enc sz t mk w' B us xss k i := fun j u xs h1 h2 => own_below (h j u xs h1 h2) hb
/-- One element of the k-th list is marked: w' is w but for the row of that list. -/
theorem RwsG.mark {w w' : World} {B g : Nat} {us : List Value} {xss : List (List α)} {k i : Nat} {u : Value} {xs : List α} (h : RwsG enc sz t mk w B us xss k i) (hA : HandedG g us) (hu : us[k]? = some u) (hx : xss[k]? = some xs)
    (hown : w'.ownsRow B t sz u xs.length (cellsG enc (rowG mk k (i + 1) k xs))) (hoth : ∀ b, u.ownBlock ≠ some b → w'.heap[b]? = w.heap[b]?) : RwsG enc sz t mk w' B us xss k (i + 1) := by
  intro j v ys hv hy
  by_cases hj : j = k
  · subst hj
    rw [hu] at hv
    rw [hx] at hy
    cases hv
    cases hy
    exact hown
  · have e : rowG mk k (i + 1) j ys = rowG mk k i j ys := by unfold rowG; simp [hj]
    rw [e]
    refine own_eq (h j v ys hv hy) (fun b hb => hoth b (fun e => ?_))
    rcases hA.apart j k v u hv hu hj with h1 | h1
    · rw [hb] at h1; cases h1
    · exact h1 (hb.trans e.symm)
theorem RwsG.next {w : World} {B : Nat} {us : List Value} {xss : List (List α)} {k : Nat} {xs : List α} (h : RwsG enc sz t mk w B us xss k xs.length) (hx : xss[k]? = some xs) : RwsG enc sz t mk w B us xss (k + 1) 0 := by
  intro j u ys hu hy
  have h2 := h j u ys hu hy
  have e : rowG mk k xs.length j ys = rowG mk (k + 1) 0 j ys := by
    unfold rowG
    by_cases h1 : j < k
    · rw [if_pos h1, if_pos (by omega)]
    · rw [if_neg h1]
      by_cases h2 : j = k
      · subst h2
        rw [hx] at hy
        cases hy
        rw [if_pos rfl, if_pos (by omega), List.drop_of_length_le (Nat.le_refl _), List.append_nil]
      · rw [if_neg h2, if_neg (by omega)]
        by_cases h3 : j = k + 1
        · rw [if_pos h3]; rfl
        · rw [if_neg h3]
  rw [← e]
  exact h2
theorem RwsG.start {w : World} {B : Nat} {us : List Value} {xss : List (List α)} (h : ∀ (j : Nat) (u : Value) (xs : List α), us[j]? = some u → xss[j]? = some xs → w.ownsRow B t sz u xs.length (cellsG enc xs)) : RwsG enc sz t mk w B us xss 0 0 := by
  intro j u xs h1 h2
  have e : rowG mk 0 0 j xs = xs := by
    unfold rowG
    rw [if_neg (by omega)]
    by_cases h : j = 0
    · rw [if_pos h]; rfl
    · rw [if_neg h]
  rw [e]; exact h j u xs h1 h2
theorem RwsG.done {w : World} {B n : Nat} {us : List Value} {xss : List (List α)} (h : RwsG enc sz t mk w B us xss n 0) (hn : n = us.length) (j : Nat) (u : Value) (xs : List α) (h1 : us[j]? = some u) (h2 : xss[j]? = some xs) : w.ownsRow B t sz u xs.length (cellsG enc (marksG mk j xs.length)) := by
  have h3 := h j u xs h1 h2
  have hj := (List.getElem?_eq_some_iff.1 h1).1
  unfold rowG at h3
  rw [if_pos (by omega)] at h3
  exact h3

/-- The first k lists have marks appended, behind the world w1. -/
structure GrewG (enc : α → List Value) (sz ts : Nat) (mk : Nat → Nat → α) (w1 wr : World) (us : List Value) (xss : List (List α)) (k : Nat) (vs : List Value) (gv : Value) : Prop where
  len : vs.length = k
  size : w1.heap.size ≤ wr.heap.size
  same : ∀ b, b < w1.heap.size → (∀ (j : Nat) (u : Value), j < k → us[j]? = some u → u.ownBlock ≠ some b) → wr.heap[b]? = w1.heap[b]?
  old : ∀ (j : Nat) (u : Value) (xs : List α), j < k → us[j]? = some u → xss[j]? = some xs → ListG enc sz wr u (marksG mk j xs.length)
  new : ∀ (j : Nat) (v : Value) (xs : List α), vs[j]? = some v → xss[j]? = some xs → ListG enc sz wr v (marksG mk j (xs.length + 64))
  row : wr.ownsRow w1.heap.size ts 1 gv k vs
  gap : ∀ (j : Nat) (v : Value), vs[j]? = some v → v.ownBlock ≠ gv.ownBlock
  blk : ∀ (j : Nat) (v u : Value), vs[j]? = some v → us[j]? = some u → v.ownBlock = u.ownBlock ∨ ∃ b, w1.heap.size ≤ b ∧ v.ownBlock = some b
/-- Of the k-th list, i marks are appended, behind the world w. -/
structure GrowsG (enc : α → List Value) (sz t : Nat) (mk : Nat → Nat → α) (w wr : World) (B k n i : Nat) (u v : Value) : Prop where
  size : w.heap.size ≤ wr.heap.size
  same : ∀ b, b < w.heap.size → u.ownBlock ≠ some b → wr.heap[b]? = w.heap[b]?
  old : ListG enc sz wr u (marksG mk k n)
  new : wr.ownsRow B t sz v (n + i) (cellsG enc (marksG mk k (n + i)))
  blk : v.ownBlock = u.ownBlock ∨ ∃ b, w.heap.size ≤ b ∧ v.ownBlock = some b
theorem GrowsG.below {w wr wr' : World} {B k n i : Nat} {u v : Value} (h : GrowsG enc sz t mk w wr B k n i u v) (hu : ∀ b, u.ownBlock = some b → b < w.heap.size) (hb : Below wr.heap.size wr wr') : GrowsG enc sz t mk w wr' B k n i u v :=
  ⟨Nat.le_trans h.size hb.size, fun b h1 h2 => (hb.block b (Nat.lt_of_lt_of_le h1 h.size)).trans (h.same b h1 h2), h.old.same (fun b h1 => hb.block b (Nat.lt_of_lt_of_le (hu b h1) h.size)), own_below h.new hb, h.blk⟩
theorem GrowsG.step (hsz : ∀ x, (enc x).length = sz) {w wr wr' : World} {B k n i : Nat} {u v v' : Value} (h : GrowsG enc sz t mk w wr B k n i u v) (hu : ∀ b, u.ownBlock = some b → b < w.heap.size) (hn : u.ownBlock = none → n = 0) (hv0 : ∃ a c, u = .slice a n c ∧ ∀ b, a = some b → ∃ g, b = ⟨g, 0, none⟩)
    (hown : wr'.ownsRow B t sz v' (n + i + 1) (cellsG enc (marksG mk k (n + i)) ++ enc (mk k (n + i)))) (hg : v'.ownBlock = v.ownBlock ∧ wr.grownBy wr' v.ownBlock ∨ (∃ b, wr.heap.size ≤ b ∧ v'.ownBlock = some b) ∧ wr.grownBy wr' none) :
    GrowsG enc sz t mk w wr' B k n (i + 1) u v' := by
  have e : cellsG enc (marksG mk k (n + i)) ++ enc (mk k (n + i)) = cellsG enc (marksG mk k (n + (i + 1))) := by
    rw [← Nat.add_assoc, marksG_succ, cellsG_append, cellsG_one]
  rw [e] at hown
  have hsz2 : wr.heap.size ≤ wr'.heap.size := by rcases hg with ⟨_, h1⟩ | ⟨_, h1⟩ <;> exact h1.size
  refine ⟨Nat.le_trans h.size hsz2, fun b h1 h2 => ?_, ?_, hown, ?_⟩
  · rcases hg with ⟨_, hg⟩ | ⟨_, hg⟩
    · refine (hg.block b (Nat.lt_of_lt_of_le h1 h.size) ?_).trans (h.same b h1 h2)
      rcases h.blk with h3 | ⟨b3, h3, h4⟩
      · rw [h3]; exact fun e => h2 e.symm
      · rw [h4]; intro e; cases e; omega
    · exact (hg.block b (Nat.lt_of_lt_of_le h1 h.size) (fun e => nomatch e)).trans (h.same b h1 h2)
  · rcases hg with ⟨hv, hg⟩ | ⟨_, hg⟩
    · rcases h.blk with h3 | ⟨b3, h3, h4⟩
      · obtain ⟨a, c, rfl, hb⟩ := hv0
        cases a with
        | none =>
          have hn0 := hn rfl
          subst hn0
          exact ⟨none, c, 0, 0, rfl, fun h => absurd rfl h, fun i x hx => by simp [marksG] at hx⟩
        | some ad =>
          obtain ⟨g, rfl⟩ := hb ad rfl
          refine ⟨some ⟨g, 0, none⟩, c, g, 0, by rw [marksG_length], fun _ => rfl, fun j x hx q y hy => ?_⟩
          have hjn : j < n := by have := (List.getElem?_eq_some_iff.1 hx).1; rwa [marksG_length] at this
          have hvb : v'.ownBlock = some g := by rw [hv, h3]; rfl
          have hx2 : (marksG mk k (n + (i + 1)))[j]? = some x := by
            rw [marksG_get _ _ _ hjn] at hx
            rw [marksG_get _ _ _ (by omega)]; exact hx
          have hc := hown.cells hvb (j * sz + q) y (cellsG_get enc sz hsz _ j x hx2 q y hy)
          rw [Addr.add_mid] at hc
          rw [Nat.zero_add]
          rw [Nat.zero_add] at hc
          exact hc
      · refine h.old.same (fun b hb => hg.block b (Nat.lt_of_lt_of_le (hu b hb) h.size) ?_)
        rw [h4]; intro e; cases e; have := hu _ hb; omega
    · exact h.old.same (fun b hb => hg.block b (Nat.lt_of_lt_of_le (hu b hb) h.size) (fun e => nomatch e))
  · rcases hg with ⟨hv, _⟩ | ⟨⟨b, h1, h2⟩, _⟩
    · rw [hv]; exact h.blk
    · exact .inr ⟨b, Nat.le_trans h.size h1, h2⟩
/-- Where a list with an element lies. -/
theorem ListG.blk (hsz : ∀ x, (enc x).length = sz) (h0 : 0 < sz) {W : World} {v : Value} {xs : List α} (h : ListG enc sz W v xs) (hn : 0 < xs.length) : ∃ b, v.ownBlock = some b ∧ b < W.heap.size := by
  obtain ⟨a, c, b, o, rfl, ha, hc⟩ := h
  have he := ha (fun e => by rw [e] at hn; simp at hn)
  subst he
  obtain ⟨x, hx⟩ : ∃ x, xs[0]? = some x := ⟨_, List.getElem?_eq_getElem hn⟩
  obtain ⟨u, hu⟩ : ∃ u, (enc x)[0]? = some u := ⟨_, List.getElem?_eq_getElem (by rw [hsz]; exact h0)⟩
  exact ⟨b, rfl, World.block_lt_of_cell? W _ (hc 0 x hx 0 u hu)⟩
/-- The k-th list is done: the next. -/
theorem GrewG.step (hsz : ∀ x, (enc x).length = sz) (h0 : 0 < sz) {ts : Nat} {w1 wr wr' wr2 : World} {B g k n : Nat} {us vs : List Value} {xss : List (List α)} {gv gv' u v : Value} {xs : List α} (h : GrewG enc sz ts mk w1 wr us xss k vs gv) (hA : HandedG g us) (hu : us[k]? = some u) (hx : xss[k]? = some xs) (hn : n = xs.length)
    (hlt : ∀ (j : Nat) (u : Value), us[j]? = some u → ∀ b, u.ownBlock = some b → b < w1.heap.size)
    (hG : GrowsG enc sz t mk wr wr' B k n 64 u v)
    (hown : wr2.ownsRow w1.heap.size ts 1 gv' (k + 1) (vs ++ [v])) (hg : gv'.ownBlock = gv.ownBlock ∧ wr'.grownBy wr2 gv.ownBlock ∨ (∃ b, wr'.heap.size ≤ b ∧ gv'.ownBlock = some b) ∧ wr'.grownBy wr2 none) :
    GrewG enc sz ts mk w1 wr2 us xss (k + 1) (vs ++ [v]) gv' := by
  subst hn
  have hul := hlt k u hu
  have hsz3 : wr'.heap.size ≤ wr2.heap.size := by rcases hg with ⟨_, h1⟩ | ⟨_, h1⟩ <;> exact h1.size
  have hvs : v.ownBlock ≠ none := by
    intro e
    rcases hG.new.2 with ⟨_, h0⟩ | ⟨g', cap, cur, rfl, _⟩
    · omega
    · cases e
  have hgv : ∀ b, gv.ownBlock = some b → w1.heap.size ≤ b ∧ b < wr.heap.size := fun b hb => own_lt h.row b hb
  have hvg : v.ownBlock ≠ gv.ownBlock := by
    rcases hG.blk with h1 | ⟨b, h1, h2⟩
    · intro e
      cases hb : v.ownBlock with
      | none => exact hvs hb
      | some b =>
        have := hul b (by rw [← h1]; exact hb)
        have := hgv b (by rw [← e]; exact hb)
        omega
    · intro e
      have := hgv b (by rw [← e]; exact h2)
      omega
  have hk : ∀ b, b < wr'.heap.size → gv.ownBlock ≠ some b → wr2.heap[b]? = wr'.heap[b]? := by
    intro b h1 h2
    rcases hg with ⟨_, hg⟩ | ⟨_, hg⟩
    · exact hg.block b h1 (fun e => h2 e.symm)
    · exact hg.block b h1 (fun e => nomatch e)
  have hvlt : ∀ b, v.ownBlock = some b → b < wr'.heap.size := fun b hb => (own_lt hG.new b hb).2
  have hvsl : ∀ (j : Nat) (v0 : Value), vs[j]? = some v0 → ∃ b, v0.ownBlock = some b ∧ b < wr.heap.size ∧ u.ownBlock ≠ some b := by
    intro j v0 hv0
    have hjk : j < k := by have := (List.getElem?_eq_some_iff.1 hv0).1; rw [h.len] at this; exact this
    obtain ⟨uj, huj⟩ : ∃ uj, us[j]? = some uj := ⟨_, List.getElem?_eq_getElem (by have := (List.getElem?_eq_some_iff.1 hu).1; omega)⟩
    obtain ⟨xj, hxj⟩ : ∃ xj, xss[j]? = some xj := ⟨_, List.getElem?_eq_getElem (by have := (List.getElem?_eq_some_iff.1 hx).1; omega)⟩
    obtain ⟨b, hb, hbl⟩ := (h.new j v0 xj hv0 hxj).blk hsz h0 (by rw [marksG_length]; omega)
    refine ⟨b, hb, hbl, ?_⟩
    rcases h.blk j _ uj hv0 huj with h1 | ⟨b1, h1, h2⟩
    · intro e
      rcases hA.apart j k uj u huj hu (by omega) with h5 | h5
      · rw [← h1, hb] at h5; cases h5
      · exact h5 (by rw [← h1, hb, e])
    · intro e
      have := hul _ e
      rw [hb] at h2
      cases h2
      omega
  refine ⟨by rw [List.length_append, h.len]; rfl, Nat.le_trans h.size (Nat.le_trans hG.size hsz3), fun b h1 h2 => ?_, fun j u' xs' h1 h2 h3 => ?_, fun j v' xs' h1 h2 => ?_, hown, fun j v' h1 => ?_, fun j v' u' h1 h2 => ?_⟩
  · have hb1 : b < wr.heap.size := Nat.lt_of_lt_of_le h1 h.size
    rw [hk b (Nat.lt_of_lt_of_le hb1 hG.size) (fun e => by have := (hgv b e).1; omega), hG.same b hb1 (h2 k u (by omega) hu)]
    exact h.same b h1 (fun j u' h3 h4 => h2 j u' (by omega) h4)
  · by_cases hj : j = k
    · subst hj
      rw [hu] at h2
      rw [hx] at h3
      cases h2
      cases h3
      exact hG.old.same (fun b hb => hk b (Nat.lt_of_lt_of_le (Nat.lt_of_lt_of_le (hul b hb) h.size) hG.size) (fun e => by have := (hgv b e).1; have := hul b hb; omega))
    · have hl := hlt j u' h2
      refine (h.old j u' xs' (by omega) h2 h3).same (fun b hb => ?_)
      have hb1 : b < wr.heap.size := Nat.lt_of_lt_of_le (hl b hb) h.size
      rw [hk b (Nat.lt_of_lt_of_le hb1 hG.size) (fun e => by have := (hgv b e).1; have := hl b hb; omega)]
      refine hG.same b hb1 (fun e => ?_)
      rcases hA.apart j k u' u h2 hu hj with h5 | h5
      · rw [hb] at h5; cases h5
      · exact h5 (hb.trans e.symm)
  · by_cases hj : j < vs.length
    · rw [List.getElem?_append_left hj] at h1
      refine (h.new j v' xs' h1 h2).same (fun b hb => ?_)
      obtain ⟨b2, hb2, h5, h6⟩ := hvsl j v' h1
      rw [hb] at hb2
      cases hb2
      rw [hk b (Nat.lt_of_lt_of_le h5 hG.size) (fun e => h.gap j v' h1 (by rw [hb, e]))]
      exact hG.same b h5 h6
    · have hjk : j = k := by
        have := (List.getElem?_eq_some_iff.1 h1).1
        rw [List.length_append, List.length_singleton] at this
        have := h.len
        omega
      subst hjk
      rw [List.getElem?_append_right (by omega), show j - vs.length = 0 by have := h.len; omega] at h1
      rw [hx] at h2
      cases h1
      cases h2
      have hT : ListG enc sz wr' v (marksG mk j (xs.length + 64)) := ListG.own (t := t) (B := B) hsz (by rw [marksG_length]; exact hG.new)
      exact hT.same (fun b hb => hk b (hvlt b hb) (fun e => hvg (by rw [hb, e])))
  · have hg2 : ∀ b, gv'.ownBlock = some b → gv.ownBlock = some b ∨ wr'.heap.size ≤ b := by
      intro b hb
      rcases hg with ⟨h5, _⟩ | ⟨⟨b5, h5, h6⟩, _⟩
      · exact .inl (by rw [← h5]; exact hb)
      · rw [hb] at h6; cases h6; exact .inr h5
    intro e
    by_cases hj : j < vs.length
    · rw [List.getElem?_append_left hj] at h1
      obtain ⟨b, hb, h5, _⟩ := hvsl j v' h1
      rcases hg2 b (by rw [← e]; exact hb) with h6 | h6
      · exact h.gap j v' h1 (by rw [hb, h6])
      · have := hG.size
        omega
    · rw [List.getElem?_append_right (by omega)] at h1
      have hv' : v' = v := by
        cases hd : j - vs.length with
        | zero => rw [hd] at h1; cases h1; rfl
        | succ m => rw [hd] at h1; cases h1
      subst hv'
      cases hb : v'.ownBlock with
      | none => exact hvs hb
      | some b =>
        rcases hg2 b (by rw [← e]; exact hb) with h5 | h5
        · exact hvg (by rw [hb, h5])
        · have := hvlt b hb
          omega
  · by_cases hj : j < vs.length
    · rw [List.getElem?_append_left hj] at h1
      exact h.blk j v' u' h1 h2
    · have hjk : j = k := by
        have := (List.getElem?_eq_some_iff.1 h1).1
        rw [List.length_append, List.length_singleton] at this
        have := h.len
        omega
      subst hjk
      rw [List.getElem?_append_right (by omega), show j - vs.length = 0 by have := h.len; omega] at h1
      rw [hu] at h2
      cases h1
      cases h2
      rcases hG.blk with h5 | ⟨b, h5, h6⟩
      · exact .inl h5
      · exact .inr ⟨b, Nat.le_trans h.size h5, h6⟩
end elements
end Go.Proofs.YtgildlfanfbebaaGreatDoor

namespace Go.Proofs.YtgildlfanfbebaaGreatDoor
open Go Go.RowKit

def mkE (k i : Nat) : Ent := markE (k : Int) (i : Int)
theorem ecs_len (x : Ent) : (ecs x).length = 5 := rfl
theorem cellsG_ecs (xs : List Ent) : cellsG ecs xs = ecells xs := rfl
theorem sl_infoE : (Tryz.prog.info? 22).map (fun i => (i.zero, i.size, i.bytes)) = some (some (.slice none 0 0), 1, 24) := by kernel_rfl
theorem set_app (A L : List Value) (n j : Nat) (c : Value) (hn : A.length = n) : (A ++ L).set (n + j) c = A ++ L.set j c := by
  subst hn
  rw [List.set_append_right _ _ (by omega)]
  congr 2; omega
theorem setA5 (A C : List Value) (n : Nat) (hn : A.length = n) (b0 b1 b2 b3 b4 c0 c1 c2 c3 c4 : Value) : (((((A ++ ([b0, b1, b2, b3, b4] ++ C)).set n c0).set (n + 1) c1).set (n + 2) c2).set (n + 3) c3).set (n + 4) c4 = A ++ ([c0, c1, c2, c3, c4] ++ C) := by
  have h0 := set_app A ([b0, b1, b2, b3, b4] ++ C) n 0 c0 hn
  rw [Nat.add_zero] at h0
  rw [h0, set_app _ _ _ _ _ hn, set_app _ _ _ _ _ hn, set_app _ _ _ _ _ hn, set_app _ _ _ _ _ hn]
  rfl
/-- A list's element is marked. -/
theorem mark_own {w : World} {B gk cap k i : Nat} {xs : List Ent} {us : List Value} {xss : List (List Ent)} {g : Nat} (h : RwsG ecs 5 52 mkE w B us xss k i) (hA : HandedG g us) (hu : us[k]? = some (.slice (some ⟨gk, 0, none⟩) xs.length cap)) (hx : xss[k]? = some xs) (hi : i < xs.length) :
    RwsG ecs 5 52 mkE (((((w.setCell ⟨gk, i * 5, none⟩ (.string (mkE k i).path)).setCell ⟨gk, i * 5 + 1, none⟩ (.int .i64 (mkE k i).kind)).setCell ⟨gk, i * 5 + 2, none⟩ (.int .i64 (mkE k i).mode)).setCell ⟨gk, i * 5 + 3, none⟩ (.string (mkE k i).data)).setCell ⟨gk, i * 5 + 4, none⟩ (.string (mkE k i).link)) B us xss k (i + 1) := by
  refine h.mark hA hu hx ?_ ?_
  · have h2 := own_setG (i := i * 5 + 4) (own_setG (i := i * 5 + 3) (own_setG (i := i * 5 + 2) (own_setG (i := i * 5 + 1) (own_setG (i := i * 5) (h k _ _ hu hx) (.string (mkE k i).path)) (.int .i64 (mkE k i).kind)) (.int .i64 (mkE k i).mode)) (.string (mkE k i).data)) (.string (mkE k i).link)
    obtain ⟨x, hxi⟩ : ∃ x, xs[i]? = some x := ⟨_, List.getElem?_eq_getElem hi⟩
    have e1 : rowG mkE k i k xs = marksG mkE k i ++ (x :: xs.drop (i + 1)) := by
      unfold rowG
      rw [if_neg (Nat.lt_irrefl k), if_pos rfl, List.drop_eq_getElem_cons hi]
      rw [List.getElem?_eq_getElem hi] at hxi
      rw [Option.some.inj hxi]
    have e2 : rowG mkE k (i + 1) k xs = marksG mkE k i ++ (mkE k i :: xs.drop (i + 1)) := by
      unfold rowG
      rw [if_neg (Nat.lt_irrefl k), if_pos rfl, marksG_succ, List.append_assoc]; rfl
    rw [e1] at h2
    rw [e2]
    have hl : (cellsG ecs (marksG mkE k i)).length = i * 5 := by rw [cellsG_length ecs 5 ecs_len, marksG_length]
    rw [cellsG_append, cellsG_cons, show ecs x = [.string x.path, .int .i64 x.kind, .int .i64 x.mode, .string x.data, .string x.link] from rfl, setA5 _ _ _ hl] at h2
    rw [cellsG_append, cellsG_cons]
    exact h2
  · intro b hb
    have hne : gk ≠ b := fun e => hb (by rw [e]; rfl)
    rw [set_otherG _ hne, set_otherG _ hne, set_otherG _ hne, set_otherG _ hne, set_otherG _ hne]
theorem entG {W W2 : World} {b q : Nat} {e : Ent} (h : ∀ j u, (ecs e)[j]? = some u → W.cell? ⟨b, q + j, none⟩ = some u) (hb : Below W.heap.size W W2) : EntC W2 b q e := EntC.below ⟨h 0 _ rfl, h 1 _ rfl, h 2 _ rfl, h 3 _ rfl, h 4 _ rfl⟩ hb
/-- What none of the lists has stays as it was. -/
def OthE (us : List Value) (w wr : World) : Prop := ∀ b, b < w.heap.size → (∀ (j : Nat) (u : Value), us[j]? = some u → u.ownBlock ≠ some b) → wr.heap[b]? = w.heap[b]?
theorem OthE.below {us : List Value} {w wr w2 : World} (h : OthE us w wr) (hs : w.heap.size ≤ wr.heap.size) (hb : Below wr.heap.size wr w2) : OthE us w w2 := fun b h1 h2 => (hb.block b (by omega)).trans (h b h1 h2)
theorem OthE.set {us : List Value} {w wr : World} {gk i k : Nat} {u : Value} (h : OthE us w wr) (x : Value) (hu : us[k]? = some u) (hg : u.ownBlock = some gk) : OthE us w (wr.setCell ⟨gk, i, none⟩ x) := fun b h1 h2 => (set_otherG x (fun e => h2 k u hu (by rw [hg, e]))).trans (h b h1 h2)
theorem lies_other {W : World} {B g i : Nat} {t : TypeId} {cur : Array Value} (h : Lies W B t cur) (u : Value) (hne : g ≠ B) : Lies (W.setCell ⟨g, i, none⟩ u) B t cur := (set_otherG u hne).trans h

set_option maxRecDepth 100000 in
set_option maxHeartbeats 8000000 in
theorem apartE_p (B g c : Nat) (us : List Value) (xss : List (List Ent)) (w : World) (hl : us.length = xss.length) (hm : us.length ≤ 1000) (hB : B ≤ w.heap.size) (hL : Lies w g 22 us.toArray)
    (hA : HandedG g us) (hR : RwsG ecs 5 52 mkE w B us xss 0 0) (hz : ∀ xs ∈ xss, xs.length ≤ 1073741824) :
    Calls Tryz.prog 21 #[.slice (some ⟨g, 0, none⟩) us.length c] w fun e w' => e = .returned (.bool true) ∧ OthE us w w' ∧ Below B w w' := by
  obtain ⟨i0, hi, z0, z1, z2⟩ := info_parts info_ent
  obtain ⟨j0, hj, y0, y1, y2⟩ := info_parts sl_infoE
  have HL0 : Hid (Lies w g 22 us.toArray) := hL
  have HR0 : Hid (RwsG ecs 5 52 mkE w B us xss 0 0) := hR
  have HA : Hid (HandedG g us) := hA
  have HZ : Hid (∀ xs ∈ xss, xs.length ≤ 1073741824) := hz
  have HLL : Hid (us.length = xss.length) := hl
  clear hL hR hA hz hl
  go_enter Tryz.func21, Tryz.ntmps21
  go_wp2
  go_loopw [3, 4] (fun n _ wr => ∃ k : Nat, k ≤ us.length ∧ n = .int .i64 k ∧ Hid (Lies wr g 22 us.toArray) ∧ Hid (RwsG ecs 5 52 mkE wr B us xss k 0) ∧ Hid (OthE us w wr) ∧ Below B w wr) (fun n _ _ => us.length - (intOf n).toNat)
  case atStart => exact ⟨0, Nat.zero_le _, rfl, HL0, HR0, fun _ _ _ => rfl, Below.refl _ _⟩
  case round =>
    clear HL0 HR0
    obtain ⟨k, hk, rfl, HL, HR, HOT, hB1⟩ := hrel
    by_cases hlt : k < us.length
    · obtain ⟨u, hu⟩ : ∃ u, us[k]? = some u := ⟨_, List.getElem?_eq_getElem hlt⟩
      obtain ⟨xs, hx⟩ : ∃ xs, xss[k]? = some xs := ⟨_, List.getElem?_eq_getElem (by rw [← HLL.out]; exact hlt)⟩
      have hzx := HZ.out xs (List.mem_of_getElem? hx)
      obtain ⟨a, cu, rfl, hac, hab, _, _⟩ := own_shapeG (HR.out k u xs hu hx)
      have hcell := HL.out.cell (i := k) (by simpa using hu)
      have HU : Hid (us[k]? = some (.slice a xs.length cu)) := hu
      have HX : Hid (xss[k]? = some xs) := hx
      clear hu hx
      have d1 : (0 : Int) ≤ (k : Int) := by omega
      have d2 : (k : Int) < (us.length : Int) := by omega
      go_wp2
      go_loopw [4] (fun n wr2 => ∃ i : Nat, i ≤ xs.length ∧ n = .int .i64 i ∧ Hid (Lies wr2 g 22 us.toArray) ∧ Hid (RwsG ecs 5 52 mkE wr2 B us xss k i) ∧ Hid (OthE us w wr2) ∧ Below B w wr2) (fun n _ => xs.length - (intOf n).toNat)
      case atStart => exact ⟨0, Nat.zero_le _, rfl, HL, HR, HOT, hB1⟩
      case round =>
        clear HL HR hB1 hcell HOT
        obtain ⟨i, hi2, rfl, HL, HR, HOT, hB1⟩ := hrel
        have hcell := HL.out.cell (i := k) (by simpa using HU.out)
        by_cases hin : i < xs.length
        · cases a with
          | none => exact absurd (hac rfl).2 (by omega)
          | some ad =>
            obtain ⟨gk, rfl⟩ := hab ad rfl
            have e1 : (0 : Int) ≤ (i : Int) := by omega
            have e2 : (i : Int) < (xs.length : Int) := by omega
            have hM : Calls Tryz.prog 51 #[.int .i64 (k : Int), .int .i64 (i : Int)] wr.drew fun e w' => e = .returned (.agg #[.string (mkE k i).path, .int .i64 (mkE k i).kind, .int .i64 (mkE k i).mode, .string (mkE k i).data, .string (mkE k i).link]) ∧ Below wr.drew.heap.size wr.drew w' := markE_p (k : Int) (i : Int) (by omega) (by omega) wr.drew
            have hrow := HR.out k _ xs HU.out HX.out
            have hrl : (cellsG ecs (rowG mkE k i k xs)).length = xs.length * 5 := by rw [cellsG_length ecs 5 ecs_len, rowG_length _ _ _ _ hi2]
            have HF : Hid (∀ w2, Below wr.drew.heap.size wr.drew w2 → w2.cell? ⟨g, k, none⟩ = some (.slice (some ⟨gk, 0, none⟩) xs.length cu) ∧ ∃ y0 y1 y2 y3 y4, (w2.cell? ⟨gk, i * 5, none⟩ = some y0 ∧ w2.frozen? ⟨gk, i * 5, none⟩ = false) ∧ (w2.cell? ⟨gk, i * 5 + 1, none⟩ = some y1 ∧ w2.frozen? ⟨gk, i * 5 + 1, none⟩ = false) ∧ (w2.cell? ⟨gk, i * 5 + 2, none⟩ = some y2 ∧ w2.frozen? ⟨gk, i * 5 + 2, none⟩ = false) ∧ (w2.cell? ⟨gk, i * 5 + 3, none⟩ = some y3 ∧ w2.frozen? ⟨gk, i * 5 + 3, none⟩ = false) ∧ (w2.cell? ⟨gk, i * 5 + 4, none⟩ = some y4 ∧ w2.frozen? ⟨gk, i * 5 + 4, none⟩ = false)) := by
              intro w2 b2
              have b3 : Below wr.heap.size wr w2 := (show Below wr.heap.size wr wr.drew from ⟨rfl, rfl, rfl, Nat.le_refl _, fun _ _ => rfl⟩).trans b2
              have r2 := own_below hrow b3
              have hat : ∀ j, j < 5 → ∃ y, w2.cell? ⟨gk, i * 5 + j, none⟩ = some y := fun j hj => by
                obtain ⟨y, hy⟩ : ∃ y, (cellsG ecs (rowG mkE k i k xs))[i * 5 + j]? = some y := ⟨_, List.getElem?_eq_getElem (by rw [hrl]; omega)⟩
                exact ⟨y, by have := r2.cells (g := gk) rfl (i * 5 + j) y hy; rw [Addr.add_mid, Nat.zero_add] at this; exact this⟩
              obtain ⟨y0, h0⟩ := hat 0 (by decide)
              obtain ⟨y1, h1⟩ := hat 1 (by decide)
              obtain ⟨y2, h2⟩ := hat 2 (by decide)
              obtain ⟨y3, h3⟩ := hat 3 (by decide)
              obtain ⟨y4, h4⟩ := hat 4 (by decide)
              exact ⟨(HL.out.below b3).cell (i := k) (by simpa using HU.out), y0, y1, y2, y3, y4, ⟨h0, own_frozenG r2 _⟩, ⟨h1, own_frozenG r2 _⟩, ⟨h2, own_frozenG r2 _⟩, ⟨h3, own_frozenG r2 _⟩, ⟨h4, own_frozenG r2 _⟩⟩
            have hBg := (own_lt hrow gk rfl).1
            have hne : gk ≠ g := fun e => HA.out.gap k _ HU.out (by rw [e]; rfl)
            have HMK : Hid (∀ w2, Below wr.heap.size wr w2 → RwsG ecs 5 52 mkE (((((w2.setCell ⟨gk, i * 5, none⟩ (.string (mkE k i).path)).setCell ⟨gk, i * 5 + 1, none⟩ (.int .i64 (mkE k i).kind)).setCell ⟨gk, i * 5 + 2, none⟩ (.int .i64 (mkE k i).mode)).setCell ⟨gk, i * 5 + 3, none⟩ (.string (mkE k i).data)).setCell ⟨gk, i * 5 + 4, none⟩ (.string (mkE k i).link)) B us xss k (i + 1)) := fun w2 b3 => mark_own (HR.out.below b3) HA.out HU.out HX.out hin
            clear hrow hrl
            generalize mkE k i = mx at *
            go_wp2
            go_region_with (first | (go_at_call 51; refine hM.mono ?_; rintro e w2 ⟨rfl, b2⟩; obtain ⟨k0, y0', y1', y2', y3', y4', ⟨p0, q0⟩, ⟨p1, q1⟩, ⟨p2, q2⟩, ⟨p3, q3⟩, ⟨p4, q4⟩⟩ := HF.out w2 b2))
            all_goals go_wp2
            all_goals
              have b3 : Below wr.heap.size wr w2 := (show Below wr.heap.size wr wr.drew from ⟨rfl, rfl, rfl, Nat.le_refl _, fun _ _ => rfl⟩).trans b2
              have hs1 := hB1.size
              go_roundw
              case rel => exact ⟨i + 1, by omega, by go_num, lies_other (lies_other (lies_other (lies_other (lies_other (HL.out.below b3) _ hne) _ hne) _ hne) _ hne) _ hne, HMK.out w2 b3, ((((((HOT.out.below hs1 b3).set _ HU.out rfl).set _ HU.out rfl).set _ HU.out rfl).set _ HU.out rfl).set _ HU.out rfl), (((((hB1.trans (b3.mono (by omega))).setCell (p := ⟨gk, i * 5, none⟩) hBg _).setCell (p := ⟨gk, i * 5 + 1, none⟩) hBg _).setCell (p := ⟨gk, i * 5 + 2, none⟩) hBg _).setCell (p := ⟨gk, i * 5 + 3, none⟩) hBg _).setCell (p := ⟨gk, i * 5 + 4, none⟩) hBg _⟩
              case measure => simp [intOf]; omega
        · obtain rfl : i = xs.length := by omega
          have HR2 : Hid (RwsG ecs 5 52 mkE wr B us xss (k + 1) 0) := HR.out.next HX.out
          go_wp2
          go_roundw
          case rel => exact ⟨k + 1, by omega, by go_num, HL, HR2, HOT, hB1⟩
          case measure => simp [intOf]; omega
    · obtain rfl : k = us.length := by omega
      have HD : Hid (∀ (j : Nat) (u : Value) (xs : List Ent), us[j]? = some u → xss[j]? = some xs → wr.ownsRow B 52 5 u xs.length (cellsG ecs (marksG mkE j xs.length))) := fun j u xs h1 h2 => HR.out.done rfl j u xs h1 h2
      clear HR
      go_wp2
      obtain ⟨w1, hw1⟩ : ∃ w1, w1 = wr := ⟨_, rfl⟩
      subst hw1
      have hBw : B ≤ w1.heap.size := by have := hB1.size; omega
      go_loopw [5, 6, 7, 8] (fun gv n _ _ wr2 => ∃ (k : Nat) (vs : List Value), k ≤ us.length ∧ n = .int .i64 k ∧ Hid (GrewG ecs 5 22 mkE w1 wr2 us xss k vs gv) ∧ Below B w wr2) (fun _ n _ _ _ => us.length - (intOf n).toNat)
      case atStart => exact ⟨0, [], Nat.zero_le _, rfl, ⟨rfl, Nat.le_refl _, fun _ _ _ => rfl, fun j _ _ h => absurd h (Nat.not_lt_zero j), fun j v xs h => by simp at h, World.ownsRow_nil _ _ _ _, fun j v h => by simp at h, fun j v u h => by simp at h⟩, hB1⟩
      case round =>
        obtain ⟨k, vs, hk, rfl, HG, hB2⟩ := hrel
        by_cases hlt : k < us.length
        · obtain ⟨u, hu⟩ : ∃ u, us[k]? = some u := ⟨_, List.getElem?_eq_getElem hlt⟩
          obtain ⟨xs, hx⟩ : ∃ xs, xss[k]? = some xs := ⟨_, List.getElem?_eq_getElem (by rw [← HLL.out]; exact hlt)⟩
          have hzx := HZ.out xs (List.mem_of_getElem? hx)
          have hul : ∀ b, u.ownBlock = some b → b < w1.heap.size := fun b hb => (own_lt (HD.out k u xs hu hx) b hb).2
          have hown2 : wr.ownsRow B 52 5 u xs.length (cellsG ecs (marksG mkE k xs.length)) := own_eq (HD.out k u xs hu hx) (fun b hb => HG.out.same b (hul b hb) (fun j u' hj hu' e => by
            rcases HA.out.apart j k u' u hu' hu (by omega) with h | h
            · rw [e] at h; cases h
            · exact h (e.trans hb.symm)))
          have hgl : Lies wr g 22 us.toArray := (HG.out.same g HL.out.lt (fun j u' _ hu' => HA.out.gap j u' hu')).trans HL.out
          have hcell := hgl.cell (i := k) (by simpa using hu)
          have hsz2 := HG.out.size
          have HUL : Hid (∀ b, u.ownBlock = some b → b < wr.heap.size) := fun b hb => Nat.lt_of_lt_of_le (hul b hb) hsz2
          have HUL1 : Hid (∀ b, u.ownBlock = some b → b < w1.heap.size) := hul
          have HUG : Hid (u.ownBlock ≠ some g) := HA.out.gap k u hu
          have HGL : Hid (Lies wr g 22 us.toArray) := hgl
          obtain ⟨a, cu, rfl, hac, hab, _, _⟩ := own_shapeG hown2
          have HU : Hid (us[k]? = some (.slice a xs.length cu)) := hu
          have HX : Hid (xss[k]? = some xs) := hx
          clear hu hx hul hgl
          have d1 : (0 : Int) ≤ (k : Int) := by omega
          have d2 : (k : Int) < (us.length : Int) := by omega
          go_wp2
          obtain ⟨w2, hw2⟩ : ∃ w2, w2 = wr := ⟨_, rfl⟩
          subst hw2
          go_loopw [7, 8] (fun v n wr3 => ∃ i : Nat, i ≤ 64 ∧ n = .int .i64 i ∧ Hid (GrowsG ecs 5 52 mkE w2 wr3 B k xs.length i (.slice a xs.length cu) v) ∧ Below B w wr3) (fun _ n _ => 64 - (intOf n).toNat)
          case atStart => exact ⟨0, by omega, rfl, ⟨Nat.le_refl _, fun _ _ _ => rfl, ListG.own (t := 52) (B := B) ecs_len (by rw [marksG_length]; exact hown2), hown2, .inl rfl⟩, hB2⟩
          case round =>
            clear hcell
            obtain ⟨i, hi2, rfl, HS, hB3⟩ := hrel
            have hcell : wr.cell? ⟨g, k, none⟩ = some (.slice a xs.length cu) := Lies.cell (t := 22) (cur := us.toArray) ((HS.out.same g HGL.out.lt HUG.out).trans HGL.out) (by simpa using HU.out)
            by_cases hin : i < 64
            · have e1 : (0 : Int) ≤ (i : Int) := by omega
              have e2 : (i : Int) < 64 := by omega
              have hM : ∀ W, Calls Tryz.prog 51 #[.int .i64 (k : Int), .int .i64 ((xs.length : Int) + (i : Int))] W fun e w' => e = .returned (.agg #[.string (mkE k (xs.length + i)).path, .int .i64 (mkE k (xs.length + i)).kind, .int .i64 (mkE k (xs.length + i)).mode, .string (mkE k (xs.length + i)).data, .string (mkE k (xs.length + i)).link]) ∧ Below W.heap.size W w' := fun W => by
                have := markE_p (k : Int) ((xs.length : Int) + (i : Int)) (by omega) (by omega) W
                unfold mkE
                rw [show ((xs.length + i : Nat) : Int) = (xs.length : Int) + (i : Int) by omega]
                exact this
              obtain ⟨x, hxm⟩ : ∃ x, mkE k (xs.length + i) = x := ⟨_, rfl⟩
              have HXM : Hid (mkE k (xs.length + i) = x) := hxm
              rw [hxm] at hM
              clear hxm
              go_wp2_with fail
              refine (hM wr).mono ?_
              rintro e w3 ⟨rfl, b3⟩
              have hB4 : Below B w w3 := hB3.trans (b3.mono (by have := hB3.size; omega))
              have hs4 := hB4.size
              have HS3 := HS.out.below HUL.out b3
              have HS4 : Hid (GrowsG ecs 5 52 mkE w2 (w3.alloc (.cells #[.string x.path, .int .i64 x.kind, .int .i64 x.mode, .string x.data, .string x.link] 52)) B k xs.length i (.slice a xs.length cu) u7) := HS3.below HUL.out ((Below.refl _ w3).alloc (Nat.le_refl _) _)
              clear HS3 HS hM
              go_wp2_with (at_builtin; refine wpList_append_keepG _ rfl _ _ 22 rfl B 52 i0 (.agg #[.string ⟨#[]⟩, .int .i64 0, .int .i64 0, .string ⟨#[]⟩, .string ⟨#[]⟩]) 5 64 Tryz.underlying22 hi z0 z1 z2 rfl (by decide) _ _ _ rfl HS4.out.new ⟨w3.heap.size, 0, none⟩ 1 (ecs x) rfl rfl (ent_cells (ent_new w3 _ x)) (ent_one x) ?c3 ?c4 ?c5 ?_)
              case c3 => unfold maxLen; omega
              case c4 => omega
              case c5 => simp; omega
              intro v' w4 hown' hg
              rw [show w3.heap.size + 1 = (w3.alloc (.cells #[.string x.path, .int .i64 x.kind, .int .i64 x.mode, .string x.data, .string x.link] 52)).heap.size from (World.size_alloc _ _).symm] at hg
              have hgs := grown_belowG hg HS4.out.new (by simp; omega)
              have HS5 : Hid (GrowsG ecs 5 52 mkE w2 w4 B k xs.length (i + 1) (.slice a xs.length cu) v') := HS4.out.step ecs_len HUL.out (fun e => by cases a with | none => exact (hac rfl).2 | some _ => cases e) ⟨a, cu, rfl, hab⟩ (by rw [HXM.out]; exact hown') hg
              clear hown' hg HS4
              go_wp2
              go_roundw
              case rel => exact ⟨i + 1, by omega, by go_num, HS5, (hB4.alloc (by omega) _).trans hgs⟩
              case measure => simp [intOf]; omega
            · obtain rfl : i = 64 := by omega
              obtain ⟨av, cv, rfl, _⟩ := own_shapeG HS.out.new
              have hgo : wr.ownsRow w1.heap.size 22 1 u5 k vs := own_eq HG.out.row (fun b hb => HS.out.same b (own_lt HG.out.row b hb).2 (fun e => by have h1 := (own_lt HG.out.row b hb).1; have h2 := HUL1.out b e; omega))
              go_wp2_with (at_builtin; refine wpList_append_keepG _ rfl _ _ 45 rfl w1.heap.size 22 j0 (.slice none 0 0) 1 24 Tryz.underlying45 hj y0 y1 y2 rfl (by decide) _ _ _ rfl (hgo.alloc _) ⟨wr.heap.size, 0, none⟩ 1 [.slice av (xs.length + 64) cv] rfl rfl (cell_one_new _ _ _) (by simp [Value.oneCell']) ?c3 ?c4 ?c5 ?_)
              case c3 => unfold maxLen; omega
              case c4 => omega
              case c5 => have := HG.out.size; have := HS.out.size; simp; omega
              intro gv' w4 hown' hg
              rw [show wr.heap.size + 1 = (wr.alloc (.cells #[.slice av (xs.length + 64) cv] 22)).heap.size from (World.size_alloc _ _).symm] at hg
              have hs3 := hB3.size
              have hgs := grown_belowG hg ((own_baseG hgo hBw).alloc _) (by simp; omega)
              have HS5 : Hid (GrewG ecs 5 22 mkE w1 w4 us xss (k + 1) (vs ++ [.slice av (xs.length + 64) cv]) gv') := HG.out.step (t := 52) (B := B) ecs_len (by decide) HA.out HU.out HX.out rfl (fun j u hu b hb => by
                obtain ⟨xj, hxj⟩ : ∃ xj, xss[j]? = some xj := ⟨_, List.getElem?_eq_getElem (by rw [← HLL.out]; exact (List.getElem?_eq_some_iff.1 hu).1)⟩
                exact (own_lt (HD.out j u xj hu hxj) b hb).2) (HS.out.below HUL.out ((Below.refl _ wr).alloc (Nat.le_refl _) _)) hown' hg
              clear hown' hg hgo
              go_wp2
              go_roundw
              case rel => exact ⟨k + 1, _, by omega, by go_num, HS5, (hB3.alloc (by omega) _).trans hgs⟩
              case measure => simp [intOf]; omega
        · obtain rfl : k = us.length := by omega
          obtain ⟨w2, hw2⟩ : ∃ w2, w2 = wr := ⟨_, rfl⟩
          subst hw2
          have hsz2 := HG.out.size
          have hsw1 := hB1.size
          have HO2 : Hid (OthE us w w2) := fun b h1 h2 => (HG.out.same b (by omega) (fun j u' _ hu' => h2 j u' hu')).trans (HOT.out b h1 h2)
          have HGL : Hid (Lies w2 g 22 us.toArray) := (HG.out.same g HL.out.lt (fun j u' _ hu' => HA.out.gap j u' hu')).trans HL.out
          go_wp2
          go_loopw [9, 10, 11] (fun n _ _ wr => ∃ k : Nat, k ≤ us.length ∧ n = .int .i64 k ∧ Below w2.heap.size w2 wr) (fun n _ _ _ => us.length - (intOf n).toNat)
          case atStart => exact ⟨0, Nat.zero_le _, rfl, Below.refl _ _⟩
          case round =>
            obtain ⟨k, hk, rfl, hb⟩ := hrel
            by_cases hlt : k < us.length
            · obtain ⟨u, hu⟩ : ∃ u, us[k]? = some u := ⟨_, List.getElem?_eq_getElem hlt⟩
              obtain ⟨v, hv⟩ : ∃ v, vs[k]? = some v := ⟨_, List.getElem?_eq_getElem (by rw [HG.out.len]; exact hlt)⟩
              obtain ⟨xs, hx⟩ : ∃ xs, xss[k]? = some xs := ⟨_, List.getElem?_eq_getElem (by rw [← HLL.out]; exact hlt)⟩
              have hzx := HZ.out xs (List.mem_of_getElem? hx)
              obtain ⟨a, ca, bu, ou, hua, ha1, ha2⟩ := HG.out.old k u xs hlt hu hx
              obtain ⟨av, cv, bv, ov, hva, hv1, hv2⟩ := HG.out.new k v xs hv hx
              rw [marksG_length] at hua hva
              subst hua
              subst hva
              have HUA : Hid (∀ i, i < xs.length → ∀ W, Below w2.heap.size w2 W → a = some ⟨bu, ou, none⟩ ∧ EntC W bu (ou + i * 5) (mkE k i)) := fun i h W bb => ⟨ha1 (fun e => by have := congrArg List.length e; rw [marksG_length, List.length_nil] at this; omega), entG (ha2 i _ (marksG_get k xs.length i h)) bb⟩
              have HVA : Hid (∀ i, i < xs.length + 64 → ∀ W, Below w2.heap.size w2 W → av = some ⟨bv, ov, none⟩ ∧ EntC W bv (ov + i * 5) (mkE k i)) := fun i h W bb => ⟨hv1 (fun e => by have := congrArg List.length e; rw [marksG_length, List.length_nil] at this; omega), entG (hv2 i _ (marksG_get k (xs.length + 64) i h)) bb⟩
              have hrow := HG.out.row
              rcases hrow.2 with ⟨_, h0⟩ | ⟨gg, cg, cur, hgv, _, _, _, hcg, _⟩
              · omega
              subst hgv
              have HC : Hid (∀ wr, Below w2.heap.size w2 wr → wr.cell? ⟨g, k, none⟩ = some (.slice a xs.length ca) ∧ wr.cell? ⟨gg, k, none⟩ = some (.slice av (xs.length + 64) cv)) := fun wr hb => ⟨(HGL.out.below hb).cell (by simpa using hu), row_cell (own_below hrow hb) k _ hv⟩
              obtain ⟨q1, q2⟩ := HC.out wr hb
              unfold maxLen at hcg
              clear hrow hu hv hx ha2 hv2 ha1 hv1
              have d1 : (0 : Int) ≤ (k : Int) := by omega
              have d2 : (k : Int) < (us.length : Int) := by omega
              go_wp2
              go_loopw [10, 11] (fun n _ wr => ∃ i : Nat, i ≤ xs.length + 64 ∧ n = .int .i64 i ∧ Below w2.heap.size w2 wr) (fun n _ _ => xs.length + 64 - (intOf n).toNat)
              case atStart => exact ⟨0, Nat.zero_le _, rfl, hb⟩
              case round =>
                clear q1 q2 hb
                obtain ⟨i, hi2, rfl, hb⟩ := hrel
                obtain ⟨q1, q2⟩ := HC.out wr hb
                by_cases hin : i < xs.length + 64
                · obtain ⟨rfl, _⟩ := HVA.out i hin wr hb
                  have e1 : (0 : Int) ≤ (i : Int) := by omega
                  have e2 : (i : Int) < (xs.length : Int) + 64 := by omega
                  have hM : ∀ W, Calls Tryz.prog 51 #[.int .i64 (k : Int), .int .i64 (i : Int)] W fun e w' => e = .returned (.agg #[.string (mkE k i).path, .int .i64 (mkE k i).kind, .int .i64 (mkE k i).mode, .string (mkE k i).data, .string (mkE k i).link]) ∧ Below W.heap.size W w' := fun W => markE_p (k : Int) (i : Int) (by omega) (by omega) W
                  have HV2 : Hid (∀ W, Below w2.heap.size w2 W → EntC W bv (ov + i * 5) (mkE k i)) := fun W bb => (HVA.out i hin W bb).2
                  have HU2 : Hid (i < xs.length → ∀ W, Below w2.heap.size w2 W → a = some ⟨bu, ou, none⟩ ∧ EntC W bu (ou + i * 5) (mkE k i)) := fun h => HUA.out i h
                  generalize mkE k i = x at *
                  have heq := fun W => eq_self x W
                  go_upto_region 25 with (go_at_call 51; refine (hM _).mono ?_; rintro e w3 ⟨rfl, b3⟩)
                  have hb3 : Below w2.heap.size w2 w3 := hb.trans (b3.mono hb.size)
                  have L3 := Lies.new w3 52 #[.string x.path, .int .i64 x.kind, .int .i64 x.mode, .string x.data, .string x.link]
                  have hb4 : Below w2.heap.size w2 (w3.alloc (.cells #[.string x.path, .int .i64 x.kind, .int .i64 x.mode, .string x.data, .string x.link] 52)) := hb3.alloc hb3.size _
                  clear q1 q2 hb b3 hM hb3
                  generalize (w3.alloc (.cells #[.string x.path, .int .i64 x.kind, .int .i64 x.mode, .string x.data, .string x.link] 52)) = W4 at *
                  generalize w3.heap.size = ge at *
                  obtain ⟨p1, p2⟩ := HC.out W4 hb4
                  obtain ⟨g0, g1, g2, g3, g4⟩ := HV2.out W4 hb4
                  have f0 := L3.cell (i := 0) rfl
                  have f1 := L3.cell (i := 1) rfl
                  have f2 := L3.cell (i := 2) rfl
                  have f3 := L3.cell (i := 3) rfl
                  have f4 := L3.cell (i := 4) rfl
                  clear L3
                  by_cases hin2 : i < xs.length
                  · obtain ⟨rfl, h0, h1, h2, h3, h4⟩ := HU2.out hin2 W4 hb4
                    have e3 : (i : Int) < (xs.length : Int) := by omega
                    go_wp2
                    go_quiet (fail)
                    go_wp2
                    go_roundw
                    case rel => exact ⟨i + 1, by omega, by go_num, hb4.trans ⟨rfl, rfl, rfl, Nat.le_refl _, fun _ _ => rfl⟩⟩
                    case measure => simp [intOf]; omega
                  · have e3 : decide ((i : Int) < (xs.length : Int)) = false := by simp; omega
                    have e3' : decide (i < xs.length) = false := by simp; omega
                    go_wp2
                    go_quiet (fail)
                    go_wp2
                    go_roundw
                    case rel => exact ⟨i + 1, by omega, by go_num, hb4.trans ⟨rfl, rfl, rfl, Nat.le_refl _, fun _ _ => rfl⟩⟩
                    case measure => simp [intOf]; omega
                · obtain rfl : i = xs.length + 64 := by omega
                  go_wp2
                  go_roundw
                  case rel => exact ⟨k + 1, by omega, by go_num, hb⟩
                  case measure => simp [intOf]; omega
            · obtain rfl : k = us.length := by omega
              go_wp2
              go_ret
              exact ⟨rfl, HO2.out.below (by omega) hb, hB2.trans (hb.mono (by have := hB2.size; omega))⟩
end Go.Proofs.YtgildlfanfbebaaGreatDoor

namespace Go.Proofs.YtgildlfanfbebaaGreatDoor
open Go Go.RowKit

theorem kept_at {w : World} {g k : Nat} {es : List Ent} {x : Ent} (hG : ∀ j x, (es ++ marksE 16)[j]? = some x → EntC w g (j * 5) x) (hx : (es ++ marksE 16)[k]? = some x) : EntC w g (k * 5) x := hG k x hx
theorem mark_at {es : List Ent} {k : Nat} {x : Ent} (hx : (es ++ marksE 16)[k]? = some x) (hk : ¬ k < es.length) (h2 : k < es.length + 16) : x = markE 90 ((k : Int) - (es.length : Int)) := by
  rw [List.getElem?_append_right (by omega), marksE_get _ _ (by omega)] at hx
  have e9 : ((k - es.length : Nat) : Int) = (k : Int) - (es.length : Int) := by omega
  rw [← Option.some.inj hx, e9]
set_option maxHeartbeats 2000000 in
set_option maxRecDepth 100000 in
theorem keptfullE_p (es : List Ent) (g cap : Nat) (v : Value) (w : World) (hv : EntsAt w v es) (hl : es.length ≤ 1073741824) (hG : ∀ j x, (es ++ marksE 16)[j]? = some x → EntC w g (j * 5) x) : Calls Tryz.prog 37 #[.slice (some ⟨g, 0, none⟩) (es.length + 16) cap, v] w fun e w' => e = .returned (.bool true) ∧ Below w.heap.size w w' := by
  obtain ⟨a, cap2, b, o, rfl, ha, hcap, hc⟩ := hv
  have HC : Hid (∀ W i e, es[i]? = some e → Below w.heap.size w W → EntC W b (o + i * 5) e) := fun W i e he bb => (hc i e he).below bb
  have HGC : Hid (∀ W j x, (es ++ marksE 16)[j]? = some x → Below w.heap.size w W → EntC W g (j * 5) x) := fun W j x hx bb => (hG j x hx).below bb
  have hinf : (Tryz.prog.info? 52).map (·.size) = some 5 := by kernel_rfl
  clear hc hG
  go_enter Tryz.func37, Tryz.ntmps37
  go_wp2_with fail
  go_loopw [5, 6] (fun n _ wr => ∃ k : Nat, k ≤ es.length + 16 ∧ n = .int .i64 k ∧ Below w.heap.size w wr) (fun n _ _ => es.length + 16 - (intOf n).toNat)
  case atStart => exact ⟨0, Nat.zero_le _, rfl, Below.refl _ _⟩
  case round =>
    obtain ⟨k, hk, rfl, hB⟩ := hrel
    by_cases hlt : k < es.length + 16
    · have hlt' : (k : Int) < (es.length : Int) + 16 := by omega
      have hk0 : (0 : Int) ≤ (k : Int) := by omega
      obtain ⟨x, hx⟩ : ∃ x, (es ++ marksE 16)[k]? = some x := ⟨_, List.getElem?_eq_getElem (by rw [List.length_append, marksE_length]; exact hlt)⟩
      have HX : Hid _ := hx
      have hM := fun W => markE_p 90 ((k : Int) - (es.length : Int)) (by decide) (by decide) W
      have HMA : Hid (¬ k < es.length → markE 90 ((k : Int) - (es.length : Int)) = x) := fun h => (mark_at hx h hlt).symm
      have heq := fun W => eq_self x W
      by_cases hin : k < es.length
      · have hin' : (k : Int) < (es.length : Int) := by omega
        have hx2 : es[k]? = some x := by rwa [List.getElem?_append_left hin] at hx
        obtain rfl := ha (fun e => by rw [e] at hin; simp at hin)
        clear HMA hx
        generalize markE 90 ((k : Int) - (es.length : Int)) = y at *
        go_upto_region 7 with (go_at_call 51; refine (hM _).mono ?_; rintro e w1 ⟨rfl, b1⟩)
        have B1 := hB.trans (b1.mono hB.size)
        have L2 := Lies.new w1 52 #[.string y.path, .int .i64 y.kind, .int .i64 y.mode, .string y.data, .string y.link]
        have B2 : Below w.heap.size w (w1.alloc (.cells #[.string y.path, .int .i64 y.kind, .int .i64 y.mode, .string y.data, .string y.link] 52)) := B1.alloc B1.size _
        have hge : w.heap.size ≤ w1.heap.size := B1.size
        clear b1 hM B1
        generalize (w1.alloc (.cells #[.string y.path, .int .i64 y.kind, .int .i64 y.mode, .string y.data, .string y.link] 52)) = W2 at *
        generalize w1.heap.size = ge at *
        obtain ⟨c0, c1, c2, c3, c4⟩ := HC.out W2 k x hx2 B2
        have hone : (#[.string x.path, .int .i64 x.kind, .int .i64 x.mode, .string x.data, .string x.link] : Array Value).all (·.oneCell') = true := by simp [Value.oneCell']
        clear hx2
        go_upto_region 9 with (first | (refine wpList_store_row rfl 52 (.tmp 6) (.tmp 31) rfl ge #[.string x.path, .int .i64 x.kind, .int .i64 x.mode, .string x.data, .string x.link] rfl rfl 52 #[.string y.path, .int .i64 y.kind, .int .i64 y.mode, .string y.data, .string y.link] L2 hinf rfl hone ?_))
        have L3 : Lies (W2.setRow ge #[.string x.path, .int .i64 x.kind, .int .i64 x.mode, .string x.data, .string x.link]) ge 52 #[.string x.path, .int .i64 x.kind, .int .i64 x.mode, .string x.data, .string x.link] := setRow_heap W2 ge _ _ _ (0, 0) L2
        have B3 : Below w.heap.size w (W2.setRow ge #[.string x.path, .int .i64 x.kind, .int .i64 x.mode, .string x.data, .string x.link]) := below_setRow B2 hge _
        clear c0 c1 c2 c3 c4 L2
        generalize (W2.setRow ge #[.string x.path, .int .i64 x.kind, .int .i64 x.mode, .string x.data, .string x.link]) = W3 at *
        obtain ⟨d0, d1, d2, d3, d4⟩ := HGC.out W3 k x HX.out B3
        have f0 := L3.cell (i := 0) rfl
        have f1 := L3.cell (i := 1) rfl
        have f2 := L3.cell (i := 2) rfl
        have f3 := L3.cell (i := 3) rfl
        have f4 := L3.cell (i := 4) rfl
        clear L3
        go_wp2
        go_quiet (fail)
        go_wp2
        go_roundw
        case rel => exact ⟨k + 1, by omega, by go_num, B3.trans ⟨rfl, rfl, rfl, Nat.le_refl _, fun _ _ => rfl⟩⟩
        case measure => simp [intOf]; omega
      · have hin' : ¬ (k : Int) < (es.length : Int) := by omega
        have hy := HMA.out hin
        rw [hy] at hM
        clear HMA hx hy
        go_upto_region 7 with (go_at_call 51; refine (hM _).mono ?_; rintro e w1 ⟨rfl, b1⟩)
        have B1 := hB.trans (b1.mono hB.size)
        have L3 := Lies.new w1 52 #[.string x.path, .int .i64 x.kind, .int .i64 x.mode, .string x.data, .string x.link]
        have B3 : Below w.heap.size w (w1.alloc (.cells #[.string x.path, .int .i64 x.kind, .int .i64 x.mode, .string x.data, .string x.link] 52)) := B1.alloc B1.size _
        clear b1 hM B1
        generalize (w1.alloc (.cells #[.string x.path, .int .i64 x.kind, .int .i64 x.mode, .string x.data, .string x.link] 52)) = W3 at *
        generalize w1.heap.size = ge at *
        obtain ⟨d0, d1, d2, d3, d4⟩ := HGC.out W3 k x HX.out B3
        have f0 := L3.cell (i := 0) rfl
        have f1 := L3.cell (i := 1) rfl
        have f2 := L3.cell (i := 2) rfl
        have f3 := L3.cell (i := 3) rfl
        have f4 := L3.cell (i := 4) rfl
        clear L3
        go_wp2
        go_quiet (fail)
        go_wp2
        go_roundw
        case rel => exact ⟨k + 1, by omega, by go_num, B3.trans ⟨rfl, rfl, rfl, Nat.le_refl _, fun _ _ => rfl⟩⟩
        case measure => simp [intOf]; omega
    · have hge : ¬ (k : Int) < (es.length : Int) + 16 := by omega
      go_wp2
      go_ret
      exact ⟨rfl, hB⟩
set_option maxHeartbeats 2000000 in
set_option maxRecDepth 100000 in
theorem keptE_p (es : List Ent) (u v : Value) (w : World) (hu : LentE w u es) (hv : EntsAt w v es) (hl : es.length ≤ 1073741824) : Calls Tryz.prog 15 #[u, v] w fun e w' => e = .returned (.bool true) ∧ Below w.heap.size w w' := by
  obtain ⟨g, cap, rfl, hcap, _, hG⟩ := hu
  have hK := keptfullE_p es g cap v w hv hl hG
  obtain ⟨a, cap2, b, o, rfl, ha, _, hc⟩ := hv
  clear hc hG ha
  have d1 : (0 : Int) ≤ (es.length : Int) + 16 := by omega
  have d2 : (es.length : Int) + 16 ≤ (cap : Int) := by omega
  go_enter Tryz.func15, Tryz.ntmps15
  go_wp2_with fail
  refine hK.mono ?_
  rintro e w1 ⟨rfl, b1⟩
  go_wp2
  go_ret
  exact ⟨rfl, b1⟩
end Go.Proofs.YtgildlfanfbebaaGreatDoor

namespace Go.Proofs.YtgildlfanfbebaaGreatDoor
open Go Go.RowKit

set_option maxRecDepth 100000 in
set_option maxHeartbeats 8000000 in
theorem changes_r (u v : Value) (A B : List Ent) (w : World) (hu : EntsAt w u A) (hv : EntsAt w v B) (ha : TrL A) (hb : TrL B) (hlA : A.length ≤ 1073741824) (hlB : B.length ≤ 1073741824) : Calls Tryz.prog 31 #[u, v] w (UnlPost A B w) := by
  obtain ⟨i0, hi, hz0, hz1, hz2⟩ := info_parts info_chg
  have hsA : ∀ e ∈ A, e.path.size ≤ 255 := fun e he => (check_facts (wrong_check (ha.right e he))).2.1
  have hsB : ∀ e ∈ B, e.path.size ≤ 255 := fun e he => (check_facts (wrong_check (hb.right e he))).2.1
  have hG := fun i x (hx : A[i]? = some x) W (h : Below w.heap.size w W) => gone_r u v A B i x W (hu.below h) (hv.below h) hlA hlB (fun e he => by have := hsA e he; omega) hx
  have hLd := fun y W (h : Below w.heap.size w W) => laid_r u A y W (hu.below h) (by omega)
  obtain ⟨a1, cap1, b1, o1, rfl, ha1, hcap1, hc1⟩ := hu
  obtain ⟨a2, cap2, b2, o2, rfl, ha2, hcap2, hc2⟩ := hv
  have HCA : Hid (∀ W, Below w.heap.size w W → ∀ j e, A[j]? = some e → EntC W b1 (o1 + j * 5) e) := fun W h j e he => (hc1 j e he).below h
  have HCB : Hid (∀ W, Below w.heap.size w W → ∀ j e, B[j]? = some e → EntC W b2 (o2 + j * 5) e) := fun W h j e he => (hc2 j e he).below h
  clear hc1 hc2
  go_enter Tryz.func31, Tryz.ntmps31
  go_wp2
  go_loopw [5, 6, 7] (fun r i' k' wr => ∃ (i k : Nat) (pre : List (Ent × Ent)) (r0 : Value), r0 = r ∧ i' = .int .i64 i ∧ k' = .int .i64 k ∧ ChI A B i k pre ∧ wr.ownsRow w.heap.size 54 7 r (emL ⟨#[]⟩ pre).length (ccells (emL ⟨#[]⟩ pre)) ∧ Below w.heap.size w wr) (fun _ i' k' _ => (A.length - (intOf i').toNat) + (B.length - (intOf k').toNat))
  case atStart => exact ⟨0, 0, [], _, rfl, rfl, rfl, ChI.begin A B, World.ownsRow_nil _ _ _ _, Below.refl _ _⟩
  case round =>
    obtain ⟨i, k, pre, r, rfl, rfl, rfl, hI, hown, hB⟩ := hrel
    have hlen := hI.len
    have HO : Hid (wr.ownsRow w.heap.size 54 7 r (emL ⟨#[]⟩ pre).length (ccells (emL ⟨#[]⟩ pre))) := hown
    have HB : Hid (Below w.heap.size w wr) := hB
    clear hown hB
    by_cases hia : i < A.length
    · skip
      have hi1 : (i : Int) < (A.length : Int) := by omega
      have hi0' : (0 : Int) ≤ (i : Int) := by omega
      have hie : ((i : Int) == (A.length : Int)) = false := by simp; omega
      obtain ⟨x, hx⟩ : ∃ x, A[i]? = some x := ⟨_, List.getElem?_eq_getElem hia⟩
      obtain rfl := ha1 (fun e => by rw [e] at hia; simp at hia)
      by_cases hkb : k < B.length
      · skip
        have hk1 : (k : Int) < (B.length : Int) := by omega
        have hk0' : (0 : Int) ≤ (k : Int) := by omega
        have hke : ((k : Int) == (B.length : Int)) = false := by simp; omega
        obtain ⟨y, hy⟩ : ∃ y, B[k]? = some y := ⟨_, List.getElem?_eq_getElem hkb⟩
        obtain rfl := ha2 (fun e => by rw [e] at hkb; simp at hkb)
        have hC := fun W => compare_r x.path y.path W (by have := hsA x (List.mem_of_getElem? hx); omega) (by have := hsB y (List.mem_of_getElem? hy); omega)
        have HCE : Hid (∀ W, Below w.heap.size w W → W.cell? ⟨b1, o1 + i * 5, none⟩ = some (.string x.path) ∧ W.cell? ⟨b2, o2 + k * 5, none⟩ = some (.string y.path)) := fun W h => ⟨(HCA.out W h i x hx).c0, (HCB.out W h k y hy).c0⟩
        have HBd : Hid (Below w.heap.size w wr.drew) := below_drewN HB.out 1
        obtain ⟨nn, hnn⟩ : ∃ nn, compareN x.path y.path = nn := ⟨_, rfl⟩
        rw [hnn] at hC
        go_upto_region 6 with fail
        go_region_held3 (fun W => W.cell? ⟨b1, o1 + i * 5, none⟩ = some (.string x.path) ∧ W.cell? ⟨b2, o2 + k * 5, none⟩ = some (.string y.path))
          (first | exact HCE.out _ HBd.out | exact HCE.out _ (below_join HBd.out h2) | go_keep)
          ((go_at_call 61; refine (hC _).mono ?_; rintro e w2 ⟨rfl, h2⟩))
        have HB2 : Hid (Below w.heap.size w w2) := below_join HBd.out h2
        have HO2 := own_below0 HO.out (below_join (below_drewN (Below.refl _ _) 1) h2)
        have HO2 : Hid (w2.ownsRow w.heap.size 54 7 r (emL ⟨#[]⟩ pre).length (ccells (emL ⟨#[]⟩ pre))) := HO2
        clear h2 hC HCE
        rcases Int.lt_trichotomy nn 0 with hnl | hnl | hnl
        · skip
          have hnear : nearN (A.drop i) (B.drop k) < 0 := by rw [drop_at hx, drop_at hy]; show compareN x.path y.path < 0; omega
          have hn1 : nn ≤ 0 := by omega
          have hn2 : ¬ nn ≥ 0 := by omega
          obtain ⟨hN1, hN2⟩ := hI.lt ha hb hx hnear
          have hszg := HB2.out.size
          have hGx := hG i x hx w2 HB2.out
          cases hgd : goneD A B i with
          | false =>
            rw [hgd] at hGx
            go_wp2_with (go_at_call 62; refine hGx.mono ?_; rintro e w5 ⟨rfl, h5⟩; have hp5 := (HCA.out w5 (below_join HB2.out h5) i x hx).c0; have hs5 := (below_join HB2.out h5).size)
            have HB6 : Hid (Below w.heap.size w w5) := below_join HB2.out h5
            have HO6 := own_below0 HO2.out h5
            have HO6 : Hid (w5.ownsRow w.heap.size 54 7 r ((emL ⟨#[]⟩ pre).length) (ccells (emL ⟨#[]⟩ pre))) := HO6
            rw [hgd] at hN2
            clear hGx
            go_roundw
            case rel => exact ⟨i + 1, k, _, _, rfl, by go_num, rfl, hN1, by rw [hN2]; simpa [ccells_append, ccells] using HO6.out, HB6.out⟩
            case measure => simp [intOf]; omega
          | true =>
            rw [hgd] at hGx
            go_wp2_with (first | (go_at_call 62; refine hGx.mono ?_; rintro e w5 ⟨rfl, h5⟩; have hp5 := (HCA.out w5 (below_join HB2.out h5) i x hx).c0; have hs5 := (below_join HB2.out h5).size) | (at_builtin; refine wpList_append_own _ rfl _ _ 23 rfl (w.heap.size) 54 i0 (.agg #[.string ⟨#[]⟩, .bool false, .string ⟨#[]⟩, .int .i64 0, .int .i64 0, .string ⟨#[]⟩, .string ⟨#[]⟩]) 7 88 Tryz.underlying23 hi hz0 hz1 hz2 rfl (by decide) _ _ _ rfl ((own_below0 HO2.out h5).alloc _) ⟨w5.heap.size, 0, none⟩ 1 1 (ccs (goneC x.path)) rfl rfl (chg_cells (chg_new w5 _ (goneC x.path))) (chg_one _) (by unfold maxLen; omega) (by omega) (by simp; omega) ?_; intro v6 w6 hown6 hgrow6 _))
            have HB6 : Hid (Below w.heap.size w w6) := ((below_join HB2.out h5).alloc hs5 _).grown hgrow6 (by simp; omega) (fun j hj => (own_ge (own_below0 HO2.out h5) j hj.symm).1)
            have HO6 : Hid (w6.ownsRow w.heap.size 54 7 v6 (((emL ⟨#[]⟩ pre).length) + 1) (ccells (emL ⟨#[]⟩ pre) ++ ccs (goneC x.path))) := hown6
            rw [hgd] at hN2
            clear hGx
            go_roundw
            case rel => exact ⟨i + 1, k, _, _, rfl, by go_num, rfl, hN1, by rw [hN2]; simpa [ccells_append, ccells] using HO6.out, HB6.out⟩
            case measure => simp [intOf]; omega
        · skip
          have hnear : compareN x.path y.path = 0 := by omega
          subst hnl
          obtain ⟨hN1, hN2⟩ := hI.eq ha hb hx hy hnear
          have hszg := HB2.out.size
          have hGx := hG i x hx w2 HB2.out
          cases hgd : goneD A B i with
          | false =>
            rw [hgd] at hGx
            go_upto_region 16 with (go_at_call 62; refine hGx.mono ?_; rintro e w5 ⟨rfl, h5⟩; have hp5 := (HCA.out w5 (below_join HB2.out h5) i x hx).c0; have hs5 := (below_join HB2.out h5).size)
            have HB6 : Hid (Below w.heap.size w w5) := below_join HB2.out h5
            have HO6 := own_below0 HO2.out h5
            have HO6 : Hid (w5.ownsRow w.heap.size 54 7 r ((emL ⟨#[]⟩ pre).length) (ccells (emL ⟨#[]⟩ pre))) := HO6
            rw [hgd] at hN2
            clear hGx
            have hszg := HB6.out.size
            have hLy := hLd y w5 HB6.out
            obtain ⟨s0, s1, s2, s3, s4⟩ := HCB.out w5 HB6.out k y hy
            cases hld : laidD A y with
            | false =>
              rw [hld] at hLy
              go_wp2_with ((go_at_call 63; refine hLy.mono ?_; rintro e w8 ⟨rfl, h8⟩))
              go_roundw
              case rel => exact ⟨i + 1, k + 1, _, _, rfl, by go_num, by go_num, hN1, by rw [hN2, hld]; simpa [ccells_append, ccells] using (own_below0 HO6.out h8), (below_join HB6.out h8)⟩
              case measure => simp [intOf]; omega
            | true =>
              rw [hld] at hLy
              go_upto_region 17 with ((go_at_call 63; refine hLy.mono ?_; rintro e w8 ⟨rfl, h8⟩))
              have HB8 : Hid (Below w.heap.size w w8) := below_join HB6.out h8
              have HO8 := own_below0 HO6.out (below_drewN h8 1)
              clear s0 s1 s2 s3 s4 h8 hLy
              have HCE : Hid (∀ W, Below w.heap.size w W → W.cell? ⟨b2, o2 + k * 5, none⟩ = some (.string y.path) ∧ W.cell? ⟨b2, o2 + k * 5 + 1, none⟩ = some (.int .i64 y.kind) ∧ W.cell? ⟨b2, o2 + k * 5 + 2, none⟩ = some (.int .i64 y.mode) ∧ W.cell? ⟨b2, o2 + k * 5 + 3, none⟩ = some (.string y.data) ∧ W.cell? ⟨b2, o2 + k * 5 + 4, none⟩ = some (.string y.link)) := fun W h => by
                obtain ⟨e0, e1, e2, e3, e4⟩ := HCB.out W h k y hy
                exact ⟨e0, e1, e2, e3, e4⟩
              have hBd : Below w.heap.size w w8.drew := below_drewN HB8.out 1
              have hsd := hBd.size
              have hs8 := HB8.out.size
              go_region_held3 (fun W => W.cell? ⟨b2, o2 + k * 5, none⟩ = some (.string y.path) ∧ W.cell? ⟨b2, o2 + k * 5 + 1, none⟩ = some (.int .i64 y.kind) ∧ W.cell? ⟨b2, o2 + k * 5 + 2, none⟩ = some (.int .i64 y.mode) ∧ W.cell? ⟨b2, o2 + k * 5 + 3, none⟩ = some (.string y.data) ∧ W.cell? ⟨b2, o2 + k * 5 + 4, none⟩ = some (.string y.link))
                (first
                  | exact HCE.out _ hBd
                  | exact HCE.out _ (hBd.alloc hsd _)
                  | exact HCE.out _ hb9
                  | go_keep)
                ((rw [if_pos (by rfl)]; refine wp_append_row _ _ _ 23 rfl (w.heap.size) 54 i0 (.agg #[.string ⟨#[]⟩, .bool false, .string ⟨#[]⟩, .int .i64 0, .int .i64 0, .string ⟨#[]⟩, .string ⟨#[]⟩]) 7 88 Tryz.underlying23 hi hz0 hz1 hz2 rfl (by decide) _ _ _ rfl (HO8.alloc _) ⟨w8.drew.heap.size, 0, none⟩ 1 1 (ccs (laidC y)) rfl rfl (chg_cells (chg_new w8.drew _ (laidC y))) (chg_one _) (by unfold maxLen; omega) (by omega) (by simp; omega) ?_; intro v9 w9 hown9 hgrow9; have hb9 : Below w.heap.size w w9 := (hBd.alloc hsd _).grown hgrow9 (by simp; omega) (fun j hj => (own_ge HO8 j hj.symm).1)))
              go_wp2
              go_roundw
              case rel => exact ⟨i + 1, k + 1, _, _, rfl, by go_num, by go_num, hN1, by rw [hN2, hld]; simpa [ccells_append, ccells] using hown9, hb9⟩
              case measure => simp [intOf]; omega
          | true =>
            rw [hgd] at hGx
            go_upto_region 16 with (first | (go_at_call 62; refine hGx.mono ?_; rintro e w5 ⟨rfl, h5⟩; have hp5 := (HCA.out w5 (below_join HB2.out h5) i x hx).c0; have hs5 := (below_join HB2.out h5).size) | (at_builtin; refine wpList_append_own _ rfl _ _ 23 rfl (w.heap.size) 54 i0 (.agg #[.string ⟨#[]⟩, .bool false, .string ⟨#[]⟩, .int .i64 0, .int .i64 0, .string ⟨#[]⟩, .string ⟨#[]⟩]) 7 88 Tryz.underlying23 hi hz0 hz1 hz2 rfl (by decide) _ _ _ rfl ((own_below0 HO2.out h5).alloc _) ⟨w5.heap.size, 0, none⟩ 1 1 (ccs (goneC x.path)) rfl rfl (chg_cells (chg_new w5 _ (goneC x.path))) (chg_one _) (by unfold maxLen; omega) (by omega) (by simp; omega) ?_; intro v6 w6 hown6 hgrow6 _))
            have HB6 : Hid (Below w.heap.size w w6) := ((below_join HB2.out h5).alloc hs5 _).grown hgrow6 (by simp; omega) (fun j hj => (own_ge (own_below0 HO2.out h5) j hj.symm).1)
            have HO6 : Hid (w6.ownsRow w.heap.size 54 7 v6 (((emL ⟨#[]⟩ pre).length) + 1) (ccells (emL ⟨#[]⟩ pre) ++ ccs (goneC x.path))) := hown6
            rw [hgd] at hN2
            clear hGx
            have hszg := HB6.out.size
            have hLy := hLd y w6 HB6.out
            obtain ⟨s0, s1, s2, s3, s4⟩ := HCB.out w6 HB6.out k y hy
            cases hld : laidD A y with
            | false =>
              rw [hld] at hLy
              go_wp2_with ((go_at_call 63; refine hLy.mono ?_; rintro e w8 ⟨rfl, h8⟩))
              go_roundw
              case rel => exact ⟨i + 1, k + 1, _, _, rfl, by go_num, by go_num, hN1, by rw [hN2, hld]; simpa [ccells_append, ccells] using (own_below0 HO6.out h8), (below_join HB6.out h8)⟩
              case measure => simp [intOf]; omega
            | true =>
              rw [hld] at hLy
              go_upto_region 17 with ((go_at_call 63; refine hLy.mono ?_; rintro e w8 ⟨rfl, h8⟩))
              have HB8 : Hid (Below w.heap.size w w8) := below_join HB6.out h8
              have HO8 := own_below0 HO6.out (below_drewN h8 1)
              clear s0 s1 s2 s3 s4 h8 hLy
              have HCE : Hid (∀ W, Below w.heap.size w W → W.cell? ⟨b2, o2 + k * 5, none⟩ = some (.string y.path) ∧ W.cell? ⟨b2, o2 + k * 5 + 1, none⟩ = some (.int .i64 y.kind) ∧ W.cell? ⟨b2, o2 + k * 5 + 2, none⟩ = some (.int .i64 y.mode) ∧ W.cell? ⟨b2, o2 + k * 5 + 3, none⟩ = some (.string y.data) ∧ W.cell? ⟨b2, o2 + k * 5 + 4, none⟩ = some (.string y.link)) := fun W h => by
                obtain ⟨e0, e1, e2, e3, e4⟩ := HCB.out W h k y hy
                exact ⟨e0, e1, e2, e3, e4⟩
              have hBd : Below w.heap.size w w8.drew := below_drewN HB8.out 1
              have hsd := hBd.size
              have hs8 := HB8.out.size
              go_region_held3 (fun W => W.cell? ⟨b2, o2 + k * 5, none⟩ = some (.string y.path) ∧ W.cell? ⟨b2, o2 + k * 5 + 1, none⟩ = some (.int .i64 y.kind) ∧ W.cell? ⟨b2, o2 + k * 5 + 2, none⟩ = some (.int .i64 y.mode) ∧ W.cell? ⟨b2, o2 + k * 5 + 3, none⟩ = some (.string y.data) ∧ W.cell? ⟨b2, o2 + k * 5 + 4, none⟩ = some (.string y.link))
                (first
                  | exact HCE.out _ hBd
                  | exact HCE.out _ (hBd.alloc hsd _)
                  | exact HCE.out _ hb9
                  | go_keep)
                ((rw [if_pos (by rfl)]; refine wp_append_row _ _ _ 23 rfl (w.heap.size) 54 i0 (.agg #[.string ⟨#[]⟩, .bool false, .string ⟨#[]⟩, .int .i64 0, .int .i64 0, .string ⟨#[]⟩, .string ⟨#[]⟩]) 7 88 Tryz.underlying23 hi hz0 hz1 hz2 rfl (by decide) _ _ _ rfl (HO8.alloc _) ⟨w8.drew.heap.size, 0, none⟩ 1 1 (ccs (laidC y)) rfl rfl (chg_cells (chg_new w8.drew _ (laidC y))) (chg_one _) (by unfold maxLen; omega) (by omega) (by simp; omega) ?_; intro v9 w9 hown9 hgrow9; have hb9 : Below w.heap.size w w9 := (hBd.alloc hsd _).grown hgrow9 (by simp; omega) (fun j hj => (own_ge HO8 j hj.symm).1)))
              go_wp2
              go_roundw
              case rel => exact ⟨i + 1, k + 1, _, _, rfl, by go_num, by go_num, hN1, by rw [hN2, hld]; simpa [ccells_append, ccells] using hown9, hb9⟩
              case measure => simp [intOf]; omega
        · skip
          have hnear : 0 < nearN (A.drop i) (B.drop k) := by rw [drop_at hx, drop_at hy]; show 0 < compareN x.path y.path; omega
          have hn1 : ¬ nn ≤ 0 := by omega
          have hn2 : nn ≥ 0 := by omega
          go_upto_region 16 with fail
          obtain ⟨hN1, hN2⟩ := hI.gt ha hb hy hnear
          have hszg := HB2.out.size
          have hLy := hLd y w2 HB2.out
          obtain ⟨s0, s1, s2, s3, s4⟩ := HCB.out w2 HB2.out k y hy
          cases hld : laidD A y with
          | false =>
            rw [hld] at hLy
            go_wp2_with ((go_at_call 63; refine hLy.mono ?_; rintro e w8 ⟨rfl, h8⟩))
            go_roundw
            case rel => exact ⟨i, k + 1, _, _, rfl, rfl, by go_num, hN1, by rw [hN2, hld]; simpa [ccells_append, ccells] using (own_below0 HO2.out h8), (below_join HB2.out h8)⟩
            case measure => simp [intOf]; omega
          | true =>
            rw [hld] at hLy
            go_upto_region 17 with ((go_at_call 63; refine hLy.mono ?_; rintro e w8 ⟨rfl, h8⟩))
            have HB8 : Hid (Below w.heap.size w w8) := below_join HB2.out h8
            have HO8 := own_below0 HO2.out (below_drewN h8 1)
            clear s0 s1 s2 s3 s4 h8 hLy
            have HCE : Hid (∀ W, Below w.heap.size w W → W.cell? ⟨b2, o2 + k * 5, none⟩ = some (.string y.path) ∧ W.cell? ⟨b2, o2 + k * 5 + 1, none⟩ = some (.int .i64 y.kind) ∧ W.cell? ⟨b2, o2 + k * 5 + 2, none⟩ = some (.int .i64 y.mode) ∧ W.cell? ⟨b2, o2 + k * 5 + 3, none⟩ = some (.string y.data) ∧ W.cell? ⟨b2, o2 + k * 5 + 4, none⟩ = some (.string y.link)) := fun W h => by
              obtain ⟨e0, e1, e2, e3, e4⟩ := HCB.out W h k y hy
              exact ⟨e0, e1, e2, e3, e4⟩
            have hBd : Below w.heap.size w w8.drew := below_drewN HB8.out 1
            have hsd := hBd.size
            have hs8 := HB8.out.size
            go_region_held3 (fun W => W.cell? ⟨b2, o2 + k * 5, none⟩ = some (.string y.path) ∧ W.cell? ⟨b2, o2 + k * 5 + 1, none⟩ = some (.int .i64 y.kind) ∧ W.cell? ⟨b2, o2 + k * 5 + 2, none⟩ = some (.int .i64 y.mode) ∧ W.cell? ⟨b2, o2 + k * 5 + 3, none⟩ = some (.string y.data) ∧ W.cell? ⟨b2, o2 + k * 5 + 4, none⟩ = some (.string y.link))
              (first
                | exact HCE.out _ hBd
                | exact HCE.out _ (hBd.alloc hsd _)
                | exact HCE.out _ hb9
                | go_keep)
              ((rw [if_pos (by rfl)]; refine wp_append_row _ _ _ 23 rfl (w.heap.size) 54 i0 (.agg #[.string ⟨#[]⟩, .bool false, .string ⟨#[]⟩, .int .i64 0, .int .i64 0, .string ⟨#[]⟩, .string ⟨#[]⟩]) 7 88 Tryz.underlying23 hi hz0 hz1 hz2 rfl (by decide) _ _ _ rfl (HO8.alloc _) ⟨w8.drew.heap.size, 0, none⟩ 1 1 (ccs (laidC y)) rfl rfl (chg_cells (chg_new w8.drew _ (laidC y))) (chg_one _) (by unfold maxLen; omega) (by omega) (by simp; omega) ?_; intro v9 w9 hown9 hgrow9; have hb9 : Below w.heap.size w w9 := (hBd.alloc hsd _).grown hgrow9 (by simp; omega) (fun j hj => (own_ge HO8 j hj.symm).1)))
            go_wp2
            go_roundw
            case rel => exact ⟨i, k + 1, _, _, rfl, rfl, by go_num, hN1, by rw [hN2, hld]; simpa [ccells_append, ccells] using hown9, hb9⟩
            case measure => simp [intOf]; omega
      · skip
        have hk1 : ¬ (k : Int) < (B.length : Int) := by omega
        have hke : ((k : Int) == (B.length : Int)) = true := by have := hI.hk; simp; omega
        have hnear : nearN (A.drop i) (B.drop k) < 0 := by rw [drop_at hx, List.drop_eq_nil_of_le (by omega : B.length ≤ k)]; simp [nearN]
        obtain ⟨hN1, hN2⟩ := hI.lt ha hb hx hnear
        have hszg := HB.out.size
        have hGx := hG i x hx wr HB.out
        cases hgd : goneD A B i with
        | false =>
          rw [hgd] at hGx
          go_wp2_with (go_at_call 62; refine hGx.mono ?_; rintro e w5 ⟨rfl, h5⟩; have hp5 := (HCA.out w5 (below_join HB.out h5) i x hx).c0; have hs5 := (below_join HB.out h5).size)
          have HB6 : Hid (Below w.heap.size w w5) := below_join HB.out h5
          have HO6 := own_below0 HO.out h5
          have HO6 : Hid (w5.ownsRow w.heap.size 54 7 r ((emL ⟨#[]⟩ pre).length) (ccells (emL ⟨#[]⟩ pre))) := HO6
          rw [hgd] at hN2
          clear hGx
          go_roundw
          case rel => exact ⟨i + 1, k, _, _, rfl, by go_num, rfl, hN1, by rw [hN2]; simpa [ccells_append, ccells] using HO6.out, HB6.out⟩
          case measure => simp [intOf]; omega
        | true =>
          rw [hgd] at hGx
          go_wp2_with (first | (go_at_call 62; refine hGx.mono ?_; rintro e w5 ⟨rfl, h5⟩; have hp5 := (HCA.out w5 (below_join HB.out h5) i x hx).c0; have hs5 := (below_join HB.out h5).size) | (at_builtin; refine wpList_append_own _ rfl _ _ 23 rfl (w.heap.size) 54 i0 (.agg #[.string ⟨#[]⟩, .bool false, .string ⟨#[]⟩, .int .i64 0, .int .i64 0, .string ⟨#[]⟩, .string ⟨#[]⟩]) 7 88 Tryz.underlying23 hi hz0 hz1 hz2 rfl (by decide) _ _ _ rfl ((own_below0 HO.out h5).alloc _) ⟨w5.heap.size, 0, none⟩ 1 1 (ccs (goneC x.path)) rfl rfl (chg_cells (chg_new w5 _ (goneC x.path))) (chg_one _) (by unfold maxLen; omega) (by omega) (by simp; omega) ?_; intro v6 w6 hown6 hgrow6 _))
          have HB6 : Hid (Below w.heap.size w w6) := ((below_join HB.out h5).alloc hs5 _).grown hgrow6 (by simp; omega) (fun j hj => (own_ge (own_below0 HO.out h5) j hj.symm).1)
          have HO6 : Hid (w6.ownsRow w.heap.size 54 7 v6 (((emL ⟨#[]⟩ pre).length) + 1) (ccells (emL ⟨#[]⟩ pre) ++ ccs (goneC x.path))) := hown6
          rw [hgd] at hN2
          clear hGx
          go_roundw
          case rel => exact ⟨i + 1, k, _, _, rfl, by go_num, rfl, hN1, by rw [hN2]; simpa [ccells_append, ccells] using HO6.out, HB6.out⟩
          case measure => simp [intOf]; omega
    · have hi1 : ¬ (i : Int) < (A.length : Int) := by omega
      have hie : ((i : Int) == (A.length : Int)) = true := by have := hI.hi; simp; omega
      by_cases hkb : k < B.length
      · skip
        have hk1 : (k : Int) < (B.length : Int) := by omega
        have hk0' : (0 : Int) ≤ (k : Int) := by omega
        have hke : ((k : Int) == (B.length : Int)) = false := by simp; omega
        obtain ⟨y, hy⟩ : ∃ y, B[k]? = some y := ⟨_, List.getElem?_eq_getElem hkb⟩
        obtain rfl := ha2 (fun e => by rw [e] at hkb; simp at hkb)
        have hnear : 0 < nearN (A.drop i) (B.drop k) := by rw [drop_at hy, List.drop_eq_nil_of_le (by omega : A.length ≤ i)]; simp [nearN]
        go_upto_region 16 with fail
        obtain ⟨hN1, hN2⟩ := hI.gt ha hb hy hnear
        have hszg := HB.out.size
        have hLy := hLd y wr HB.out
        obtain ⟨s0, s1, s2, s3, s4⟩ := HCB.out wr HB.out k y hy
        cases hld : laidD A y with
        | false =>
          rw [hld] at hLy
          go_wp2_with ((go_at_call 63; refine hLy.mono ?_; rintro e w8 ⟨rfl, h8⟩))
          go_roundw
          case rel => exact ⟨i, k + 1, _, _, rfl, rfl, by go_num, hN1, by rw [hN2, hld]; simpa [ccells_append, ccells] using (own_below0 HO.out h8), (below_join HB.out h8)⟩
          case measure => simp [intOf]; omega
        | true =>
          rw [hld] at hLy
          go_upto_region 17 with ((go_at_call 63; refine hLy.mono ?_; rintro e w8 ⟨rfl, h8⟩))
          have HB8 : Hid (Below w.heap.size w w8) := below_join HB.out h8
          have HO8 := own_below0 HO.out (below_drewN h8 1)
          clear s0 s1 s2 s3 s4 h8 hLy
          have HCE : Hid (∀ W, Below w.heap.size w W → W.cell? ⟨b2, o2 + k * 5, none⟩ = some (.string y.path) ∧ W.cell? ⟨b2, o2 + k * 5 + 1, none⟩ = some (.int .i64 y.kind) ∧ W.cell? ⟨b2, o2 + k * 5 + 2, none⟩ = some (.int .i64 y.mode) ∧ W.cell? ⟨b2, o2 + k * 5 + 3, none⟩ = some (.string y.data) ∧ W.cell? ⟨b2, o2 + k * 5 + 4, none⟩ = some (.string y.link)) := fun W h => by
            obtain ⟨e0, e1, e2, e3, e4⟩ := HCB.out W h k y hy
            exact ⟨e0, e1, e2, e3, e4⟩
          have hBd : Below w.heap.size w w8.drew := below_drewN HB8.out 1
          have hsd := hBd.size
          have hs8 := HB8.out.size
          go_region_held3 (fun W => W.cell? ⟨b2, o2 + k * 5, none⟩ = some (.string y.path) ∧ W.cell? ⟨b2, o2 + k * 5 + 1, none⟩ = some (.int .i64 y.kind) ∧ W.cell? ⟨b2, o2 + k * 5 + 2, none⟩ = some (.int .i64 y.mode) ∧ W.cell? ⟨b2, o2 + k * 5 + 3, none⟩ = some (.string y.data) ∧ W.cell? ⟨b2, o2 + k * 5 + 4, none⟩ = some (.string y.link))
            (first
              | exact HCE.out _ hBd
              | exact HCE.out _ (hBd.alloc hsd _)
              | exact HCE.out _ hb9
              | go_keep)
            ((rw [if_pos (by rfl)]; refine wp_append_row _ _ _ 23 rfl (w.heap.size) 54 i0 (.agg #[.string ⟨#[]⟩, .bool false, .string ⟨#[]⟩, .int .i64 0, .int .i64 0, .string ⟨#[]⟩, .string ⟨#[]⟩]) 7 88 Tryz.underlying23 hi hz0 hz1 hz2 rfl (by decide) _ _ _ rfl (HO8.alloc _) ⟨w8.drew.heap.size, 0, none⟩ 1 1 (ccs (laidC y)) rfl rfl (chg_cells (chg_new w8.drew _ (laidC y))) (chg_one _) (by unfold maxLen; omega) (by omega) (by simp; omega) ?_; intro v9 w9 hown9 hgrow9; have hb9 : Below w.heap.size w w9 := (hBd.alloc hsd _).grown hgrow9 (by simp; omega) (fun j hj => (own_ge HO8 j hj.symm).1)))
          go_wp2
          go_roundw
          case rel => exact ⟨i, k + 1, _, _, rfl, rfl, by go_num, hN1, by rw [hN2, hld]; simpa [ccells_append, ccells] using hown9, hb9⟩
          case measure => simp [intOf]; omega
      · have hk1 : ¬ (k : Int) < (B.length : Int) := by omega
        have E := hI.over hia hkb
        go_wp2
        go_ret
        exact ⟨_, rfl, by rw [← E]; exact HO.out, HB.out⟩
end Go.Proofs.YtgildlfanfbebaaGreatDoor
