/- ResolveKnown's shown, walked. -/
import Derived.Test.YtcefgnjgcnboeaaGreatDoorMkN
import Derived.Test.YtcefgnjgcnboeaaGreatDoorProg
import Derived.Lib.Strings
import Derived.Lib.Bytealg
import Derived.Lib.IndexAny
import Derived.Laws.Strings
import Derived.Lib.UnsafeStr
import Derived.WalkKit
import Derived.WalkSpells
import Derived.Outline
import Derived.Deep.MidRow
import Derived.Deep.WholeRow
import Derived.RangeFuncBox
import Derived.RegionTactic
import Derived.Deep.QuietTactic
import Derived.BigQuiet
import Derived.Deep.Draws
import Derived.Laws.CopyOwn
import Derived.Laws.AppendOwn
import Derived.OwnWalk
import Derived.Lib.Walk
import Derived.Laws.Externs
import Derived.Lib.Slices
import Derived.Laws.IdiomStrings
import Derived.Test.YtcefgnjgcnboeaaGreatDoorRefJK
import Derived.Test.YtcefgnjgcnboeaaGreatDoorLawPl
import Derived.Test.YtcefgnjgcnboeaaGreatDoorMakeP

namespace Go.Proofs.YtcefgnjgcnboeaaGreatDoor
open Go Go.RowKit

/-- What stands at a path; the root is a directory. -/
def kindT (L : List Ent) (p : ByteArray) : Int := if p.size = 0 then 1 else match L.find? (pathIs p) with | none => 0 | some e => e.kind
theorem kindT_get {L : List Ent} {p : ByteArray} {e : Ent} (h : getE L p = some e) : kindT L p = e.kind := by
  unfold getE at h
  split at h
  · cases h
  · rename_i h0
    unfold kindT
    rw [if_neg h0, h]
theorem kindT_none {L : List Ent} {p : ByteArray} (h : getE L p = none) (hz : p.size ≠ 0) : kindT L p = 0 := by
  unfold getE at h
  rw [if_neg hz] at h
  unfold kindT
  rw [if_neg hz, h]
theorem kindT_root {L : List Ent} {p : ByteArray} (hz : p.size = 0) : kindT L p = 1 := by
  unfold kindT
  rw [if_pos hz]
/-- Each directory above a path is there, and a directory; the path begins with no slash. -/
def StrB (L : List Ent) (p : ByteArray) : Prop := (∀ i, (un p)[i]? = some 47 → kindT L (p.extract 0 i) = 1) ∧ (un p)[0]? ≠ some 47
theorem first_ok {p : ByteArray} (hc : checkN p = 0) : (un p)[0]? ≠ some 47 := by
  have h := (check_facts hc).2.2
  intro h0
  rcases hu : un p with _ | ⟨c, l⟩
  · rw [hu] at h0; simp at h0
  · rw [hu] at h0
    simp at h0
    subst h0
    have : (⟨#[]⟩ : ByteArray) ∈ piecesB p := by
      unfold piecesB
      rw [hu, cutL_cons]
      simp [bs]
    exact name_full (h _ this) rfl
variable {W : World} {tb base : Nat} {F : Pic} {L : List Ent}
theorem str_path (h : TreeOf W tb base F L) : ∀ (n : Nat) (p : ByteArray), p.size ≤ n → Up L p → ∀ i, (un p)[i]? = some 47 → kindT L (p.extract 0 i) = 1
  | 0, p, hn, _, i, hi => by
    have h1 := (List.getElem?_eq_some_iff.1 hi).1
    rw [un_length] at h1
    omega
  | n + 1, p, hn, hu, i, hi => by
    rcases last_split p with ⟨hno, _⟩ | ⟨hs, hl⟩
    · exact absurd (List.mem_of_getElem? hi) hno
    · have hlen : p.size = (parentB p).size + 1 + (lastB p).size := by
        have := congrArg List.length hs
        simp only [un_length, List.length_append, List.length_cons] at this
        omega
      by_cases h1 : i < (un (parentB p)).length
      · have hi2 : (un (parentB p))[i]? = some 47 := by
          rw [hs, List.getElem?_append_left h1] at hi
          exact hi
        rw [un_length] at h1
        rcases hu with hu | ⟨u, hu, hp, hk⟩
        · omega
        · have hup : Up L (parentB p) := by
            have := tree_parent h hu
            rw [hp] at this
            exact this
          have := str_path h n (parentB p) (by omega) hup i hi2
          have he : p.extract 0 i = (parentB p).extract 0 i := un_inj (by
            rw [un_extract, un_extract, hs, List.take_append_of_le_length (by rw [un_length]; omega)])
          rw [he]; exact this
      · by_cases h2 : i = (un (parentB p)).length
        · have he : p.extract 0 i = parentB p := un_inj (by
            rw [un_extract, hs, h2, List.take_left]; rfl)
          rw [he]
          rcases hu with hu | ⟨u, hu, hp, hk⟩
          · exact kindT_root hu
          · rw [← hp, kindT_get (get_of_mem h hu), hk]
        · exfalso
          rw [hs, List.getElem?_append_right (by omega)] at hi
          obtain ⟨j, hj⟩ : ∃ j, i - (un (parentB p)).length = j + 1 := ⟨i - (un (parentB p)).length - 1, by omega⟩
          rw [hj, List.getElem?_cons_succ] at hi
          exact hl (List.mem_of_getElem? hi)
theorem str_of (h : TreeOf W tb base F L) {p : ByteArray} (hc : checkN p = 0) (hu : Up L p) : StrB L p := ⟨str_path h p.size p (Nat.le_refl _) hu, first_ok hc⟩
theorem str_root (L : List Ent) : StrB L ⟨#[]⟩ := ⟨fun i hi => by simp [un] at hi, by simp [un]⟩
theorem str_get (h : TreeOf W tb base F L) {p : ByteArray} {e : Ent} (hg : getE L p = some e) : StrB L p := by
  obtain ⟨m1, m2, _⟩ := get_mem hg
  subst m2
  exact str_of h (wrong_check (h.right e m1)) (tree_parent h m1)
/-- What Find answers. -/
theorem find_end (h : TreeOf W tb base F L) {way : ByteArray} {last : Bool} (h0 : (findR L way last).1 = 0) : ansB (findR L way last) = ⟨#[]⟩ ∨ ∃ e, getE L (ansB (findR L way last)) = some e ∧ (e.kind = 3 → last = false) := by
  have ha : ansB (findR L way last) = (goF ⟨0, false, !last⟩ (msr (start L way) + 1) (start L way)).2.1.here := if_pos h0
  rw [ha]
  have hi := inv_go h (m := ⟨0, false, !last⟩) rfl (msr (start L way) + 1) (start L way) ⟨rfl, .inl rfl⟩ h0
  rcases hi.2 with h1 | ⟨e, h1, _, h2⟩
  · exact .inl h1
  · refine .inr ⟨e, h1, fun hk => ?_⟩
    have := h2 hk
    simpa using this
/-- A walk that finds all goes the same way over a list that has more. -/
theorem fx_step {m : Mn} (hm : m.ab = 0) {st : St} {c : ByteArray} {rest : List ByteArray} {L' : List Ent} (h0 : (stepN m st c rest).1 = 0) (hx : Ext st.L L') :
    stepN m { st with L := L' } c rest = (0, { (stepN m st c rest).2 with L := L' }) ∧ (stepN m st c rest).2.L = st.L := by
  unfold stepN at h0 ⊢
  by_cases h1 : c = dotB
  · simp only [if_pos h1]; exact ⟨trivial, trivial⟩
  · simp only [if_neg h1] at h0 ⊢
    by_cases h2 : c = ddB
    · simp only [if_pos h2]; exact ⟨trivial, trivial⟩
    · simp only [if_neg h2] at h0 ⊢
      cases hg : getE st.L (joinB st.here c) with
      | none =>
        rw [hg] at h0
        simp only [absN, hm] at h0
        exact absurd h0 (by decide)
      | some e =>
        rw [hg] at h0
        rw [hx _ _ hg]
        simp only at h0 ⊢
        unfold thereN at h0 ⊢
        by_cases h3 : isFile m e rest = true
        · rw [if_pos h3] at h0; simp at h0
        · rw [if_neg h3] at h0
          simp only [if_neg h3]
          by_cases h4 : isLink m e rest = true
          · rw [if_pos h4] at h0
            simp only [if_pos h4]
            unfold linkS at h0 ⊢
            by_cases h5 : st.hops = 40
            · rw [if_pos h5] at h0; simp at h0
            · simp only [if_neg h5]; exact ⟨trivial, trivial⟩
          · simp only [if_neg h4]; exact ⟨trivial, trivial⟩
theorem fx_go {m : Mn} (hm : m.ab = 0) {L' : List Ent} : ∀ (f : Nat) (st : St), (goF m f st).1 = 0 → Ext st.L L' → (goF m f { st with L := L' }).1 = 0 ∧ (goF m f { st with L := L' }).2.1.here = (goF m f st).2.1.here
  | 0, st, _, _ => ⟨rfl, rfl⟩
  | f + 1, st, h0, hx => by
    by_cases hl : st.left = []
    · rw [goF_nil (m := m) (f := f + 1) (st := { st with L := L' }) hl, goF_nil (m := m) (f := f + 1) hl]
      exact ⟨rfl, rfl⟩
    · obtain ⟨c, rest, hl⟩ := List.exists_cons_of_ne_nil hl
      by_cases h1 : (stepN m st c rest).1 = 0
      · rw [goF_ok hl h1] at h0 ⊢
        have hs := fx_step hm h1 hx
        have hs1 : (stepN m { st with L := L' } c rest).1 = 0 := by rw [hs.1]
        rw [goF_ok (st := { st with L := L' }) hl hs1, hs.1]
        exact fx_go hm f _ h0 (by rw [hs.2]; exact hx)
      · rw [goF_err hl h1] at h0
        exact absurd h0 h1
/-- Where Find of a way goes well, Make of it answers the same. -/
theorem find_make {way : ByteArray} (ho : L.Pairwise ltE) (h0 : (findR L way true).1 = 0) (h1 : (makeR L way).1 = 0) : ansB (findR L way true) = ansB (makeR L way) := by
  obtain ⟨hx, ⟨a1, a2⟩, _⟩ := make_again ho h1
  rw [← a2]
  obtain ⟨f1, f2⟩ := fx_go (m := ⟨0, false, false⟩) rfl (msr (start L way) + 1) (start L way) h0 hx
  have e1 : ansB (findR L way true) = (goF ⟨0, false, false⟩ (msr (start L way) + 1) (start L way)).2.1.here := if_pos h0
  have e2 : ansB (findR (treeB L (makeR L way)) way true) = (goF ⟨0, false, false⟩ (msr (start L way) + 1) { start L way with L := treeB L (makeR L way) }).2.1.here := if_pos a1
  rw [e1, e2, f2]
theorem eqE_eq {a b : Ent} (h : eqE a b = true) : a = b := by
  have hp := eqE_path h
  unfold eqE at h
  simp only [Bool.and_eq_true, beq_iff_eq, toList_un, and_true] at h
  obtain ⟨_, h2, h3, h4, h5⟩ := h
  have h4' := un_inj h4
  have h5' := un_inj h5
  cases a; cases b
  simp at hp h2 h3 h4' h5'
  subst hp h2 h3 h4' h5'
  rfl
theorem eqE_ne {a b : Ent} (h : a ≠ b) : eqE a b = false := by
  cases hq : eqE a b with
  | false => rfl
  | true => exact absurd (eqE_eq hq) h
theorem kp_sub : ∀ (L L0 : List Ent), kpB L L0 = true → L0.Sublist L
  | [], l, h => by
    unfold kpB at h
    rw [List.isEmpty_iff.1 h]
    exact List.nil_sublist _
  | n :: now, [], _ => List.nil_sublist _
  | n :: now, e :: l, h => by
    unfold kpB at h
    by_cases hq : eqE n e = true
    · rw [if_pos hq] at h
      rw [← eqE_eq hq]
      exact (kp_sub now l h).cons_cons n
    · rw [if_neg hq, Bool.and_eq_true] at h
      exact (kp_sub now (e :: l) h.2).cons n
theorem sub_skip {x y : Ent} {xs ys : List Ent} (h : (x :: xs).Sublist (y :: ys)) (hn : y ≠ x) : (x :: xs).Sublist ys := by
  cases h with
  | cons _ h => exact h
  | cons_cons _ _ => exact absurd rfl hn
end Go.Proofs.YtcefgnjgcnboeaaGreatDoor

namespace Go.Proofs.YtcefgnjgcnboeaaGreatDoor
open Go Go.RowKit

structure EntL where
  path : List UInt8
  kind : Int
  mode : Int
  data : List UInt8
  link : List UInt8
def EntL.e (x : EntL) : Ent := ⟨bs x.path, x.kind, x.mode, bs x.data, bs x.link⟩
structure StL where
  L : List EntL
  here : List UInt8
  left : List (List UInt8)
  hops : Nat
  made : List (List UInt8)
def StL.s (x : StL) : St := ⟨x.L.map EntL.e, bs x.here, x.left.map bs, x.hops, x.made.map bs⟩
def joinL (a b : List UInt8) : List UInt8 := if a.isEmpty then b else a ++ 47 :: b
theorem join_l (a b : List UInt8) : joinB (bs a) (bs b) = bs (joinL a b) := by
  unfold joinB joinL
  rw [toList_un, un_bs]
  split
  · rfl
  · exact un_inj (by rw [un_append, un_append, un_bs, un_bs, un_bs]; simp [un])
def parentL (l : List UInt8) : List UInt8 := ((l.reverse.dropWhile (· != 47)).drop 1).reverse
theorem drop_all {l : List UInt8} (h : (47 : UInt8) ∉ l) (r : List UInt8) : (l ++ r).dropWhile (· != 47) = r.dropWhile (· != 47) := by
  induction l with
  | nil => rfl
  | cons c l ih =>
    have h1 : (c != 47) = true := by
      have : c ≠ 47 := fun e => h (by simp [e])
      simpa using this
    rw [List.cons_append, List.dropWhile_cons, if_pos h1]
    exact ih (fun hm => h (by simp [hm]))
theorem parent_l (l : List UInt8) : parentB (bs l) = bs (parentL l) := by
  rcases last_split (bs l) with ⟨h1, h2, _⟩ | ⟨h1, h2⟩
  · rw [h2]
    rw [un_bs] at h1
    have : l.reverse.dropWhile (· != 47) = [] := by
      have := drop_all (l := l.reverse) (by simpa using h1) []
      simpa using this
    unfold parentL
    rw [this]; rfl
  · rw [un_bs] at h1
    have key : ∀ a b : List UInt8, (47 : UInt8) ∉ b → parentL (a ++ 47 :: b) = a := fun a b hb => by
      unfold parentL
      rw [List.reverse_append, List.reverse_cons, List.append_assoc, drop_all (by simpa using hb)]
      simp
    refine un_inj ?_
    rw [un_bs]
    conv => rhs; rw [h1]
    rw [key _ _ h2]
def namesL (l : List UInt8) : List (List UInt8) := (cutL l).filter (fun x => !x.isEmpty)
theorem names_l (l : List UInt8) : namesB (bs l) = (namesL l).map bs := by
  unfold namesB namesL piecesB
  rw [un_bs, List.filter_map]
  congr 1
  refine List.filter_congr (fun x _ => ?_)
  simp only [Function.comp, full, toList_un, un_bs]
def findL (L : List EntL) (p : List UInt8) : Option EntL := L.find? (fun x => x.path == p)
theorem find_l (L : List EntL) (p : List UInt8) : (L.map EntL.e).find? (pathIs (bs p)) = (findL L p).map EntL.e := by
  unfold findL
  rw [List.find?_map]
  have : (pathIs (bs p) ∘ EntL.e) = fun x => x.path == p := by
    funext x
    simp only [Function.comp, pathIs, EntL.e, un_bs]
  rw [this]
def getL (L : List EntL) (p : List UInt8) : Option EntL := if p.isEmpty then none else findL L p
theorem get_l (L : List EntL) (p : List UInt8) : getE (L.map EntL.e) (bs p) = (getL L p).map EntL.e := by
  unfold getE getL
  rw [size_bs]
  cases p with
  | nil => rfl
  | cons c p => rw [if_neg (by simp)]; simp only [List.isEmpty_cons, Bool.false_eq_true, if_false]; exact find_l L _
def cmpLL : List (List UInt8) → List (List UInt8) → Int
  | [], [] => 0
  | [], _ :: _ => -1
  | _ :: _, [] => 1
  | x :: xs, y :: ys => if Lib.compareBytes x y = 0 then cmpLL xs ys else Lib.compareBytes x y
theorem cmp_ll : ∀ xs ys : List (List UInt8), compareP (xs.map bs) (ys.map bs) = cmpLL xs ys
  | [], [] => rfl
  | [], _ :: _ => rfl
  | _ :: _, [] => rfl
  | x :: xs, y :: ys => by
    simp only [List.map_cons, compareP, cmpLL, cmpB, un_bs]
    rw [cmp_ll xs ys]
def cmpL (a b : List UInt8) : Int := cmpLL (cutL a) (cutL b)
theorem cmp_l (a b : List UInt8) : compareN (bs a) (bs b) = cmpL a b := by
  unfold compareN piecesB cmpL
  rw [un_bs, un_bs, cmp_ll]
def laidLL (L : List EntL) (e : EntL) : List EntL := L.filter (fun x => decide (cmpL x.path e.path < 0)) ++ e :: L.filter (fun x => decide (0 < cmpL x.path e.path))
theorem laid_l (L : List EntL) (e : EntL) : laidL (L.map EntL.e) e.e = (laidLL L e).map EntL.e := by
  unfold laidL laidLL
  rw [List.map_append, List.map_cons, List.filter_map, List.filter_map]
  have h : ∀ x : EntL, compareN x.e.path e.e.path = cmpL x.path e.path := fun x => cmp_l _ _
  congr 2
  · refine List.filter_congr (fun x _ => ?_)
    simp only [Function.comp, h]
  · congr 1
    refine List.filter_congr (fun x _ => ?_)
    simp only [Function.comp, h]
def dirL (p : List UInt8) : EntL := ⟨p, 1, 493, [], []⟩
theorem dir_l (p : List UInt8) : dirE (bs p) = (dirL p).e := rfl
def nameL (s : List UInt8) : Int :=
  if s.isEmpty then 8 else if 96 < s.length then 8 else if Lib.containsAny s [0, 47] then 8 else if s == [46] then 8 else if s == [46, 46] then 8 else if Lib.hasPrefix s [46, 119, 104, 46] then 8 else 0
theorem name_l (s : List UInt8) : nameN (bs s) = nameL s := by
  unfold nameN nameL
  simp only [toList_un, un_bs, size_bs]
/-- What is wrong with a short path; 99: it is none. -/
def checkL (p : List UInt8) : Int := if 96 < p.length then 99 else if p.isEmpty then 15 else if (cutL p).any (fun x => nameL x != 0) then 8 else if 32 < (cutL p).length then 9 else 0
theorem white_small (l : List UInt8) (h : l.length ≤ 96) : (whiteoutB (bs l)).size ≤ 100 := by
  unfold whiteoutB joinB
  rcases last_split (bs l) with ⟨_, h2, h3⟩ | ⟨h1, _⟩
  · rw [h2, h3, if_pos (by rw [toList_un]; rfl), ByteArray.size_append, size_bs]
    have : (⟨#[46, 119, 104, 46]⟩ : ByteArray).size = 4 := rfl
    omega
  · have hl := congrArg List.length h1
    rw [un_bs] at hl
    simp only [List.length_append, List.length_cons, un_length] at hl
    have e1 : (⟨#[46, 119, 104, 46]⟩ : ByteArray).size = 4 := rfl
    have e2 : (⟨#[47]⟩ : ByteArray).size = 1 := rfl
    split
    · rw [ByteArray.size_append]; omega
    · rw [ByteArray.size_append, ByteArray.size_append, ByteArray.size_append]; omega
theorem check_l (p : List UInt8) (h : checkL p ≠ 99) : checkN (bs p) = checkL p := by
  unfold checkL at h ⊢
  by_cases h0 : 96 < p.length
  · rw [if_pos h0] at h; exact absurd rfl h
  · rw [if_neg h0]
    unfold checkN
    have hs : splitP (whiteoutB (bs p)) = (⟨#[]⟩, whiteoutB (bs p), 0) := by
      unfold splitP
      rw [if_pos (white_small p (by omega))]
    rw [hs, toList_un, un_bs, size_bs]
    have h1 : (piecesB (bs p)).any (fun x => nameN x != 0) = (cutL p).any (fun x => nameL x != 0) := by
      unfold piecesB
      rw [un_bs, List.any_map]
      congr 1
      funext x
      simp only [Function.comp, name_l]
    have h2 : (piecesB (bs p)).length = (cutL p).length := by unfold piecesB; rw [un_bs, List.length_map]
    rw [h1, h2]
    split
    · rfl
    · split
      · rfl
      · split
        · rfl
        · rw [if_neg (by omega)]
def upL (L : List EntL) (p : List UInt8) : Int := if (parentL p).isEmpty then 0 else match findL L (parentL p) with | none => 10 | some e => if e.kind ≠ 1 then 13 else 0
theorem up_l (L : List EntL) (p : List UInt8) : upN (L.map EntL.e) (bs p) = upL L p := by
  unfold upN upL
  rw [parent_l, find_l, size_bs]
  cases hp : parentL p with
  | nil => rfl
  | cons c q =>
    rw [if_neg (by simp)]
    simp only [List.isEmpty_cons, Bool.false_eq_true, if_false]
    cases findL L (c :: q) with
    | none => rfl
    | some e => rfl
def bytesLL (L : List EntL) : Nat := (L.map fun e => e.data.length).sum
theorem bytes_l (L : List EntL) : bytesL (L.map EntL.e) = bytesLL L := by
  unfold bytesL bytesLL
  rw [List.map_map]
  have : ((fun e : Ent => e.data.size) ∘ EntL.e) = fun e : EntL => e.data.length := by
    funext x
    simp only [Function.comp, EntL.e, size_bs]
  rw [this]
/-- Putting an entry where nothing is, or 99. -/
def putL (L : List EntL) (e : EntL) : Int := if upL L e.path ≠ 0 then upL L e.path else match findL L e.path with
  | none => if 4096 < L.length + 1 ∨ (16777216 : Int) < (bytesLL L : Int) + e.data.length then 5 else 0
  | some _ => 99
theorem put_l (L : List EntL) (e : EntL) (h : putL L e ≠ 99) : putN (L.map EntL.e) e.e = putL L e := by
  unfold putL at h ⊢
  unfold putN
  rw [show e.e.path = bs e.path from rfl, up_l]
  split
  · rfl
  · rename_i h1
    rw [if_neg h1] at h
    unfold manyN
    rw [show e.e.path = bs e.path from rfl, find_l, bytes_l, List.length_map, show e.e.data = bs e.data from rfl, size_bs]
    cases hf : findL L e.path with
    | none => rfl
    | some x => rw [hf] at h; exact absurd rfl h
def targL (s : List UInt8) : Bool := !s.isEmpty && decide (s.length ≤ 100) && decide (Lib.indexByte s 0 < 0)
def wrongL (e : EntL) : Int :=
  if e.kind ≠ 1 ∧ e.kind ≠ 2 ∧ e.kind ≠ 3 then 14
  else if checkL e.path ≠ 0 then checkL e.path
  else if e.mode < 0 ∨ 4095 < e.mode ∨ (e.kind = 3 ∧ e.mode ≠ 511) then 16
  else if e.kind = 3 ∧ targL e.link = false then 17
  else if e.kind = 2 ∧ 1048576 < e.data.length then 5
  else if (e.kind ≠ 2 ∧ e.data.isEmpty = false) ∨ (e.kind ≠ 3 ∧ e.link.isEmpty = false) then 4
  else 0
theorem wrong_l (e : EntL) (h : wrongL e ≠ 99) : wrongN e.e = wrongL e := by
  by_cases hc : checkL e.path = 99
  · unfold wrongL at h ⊢
    unfold wrongN
    rw [show e.e.kind = e.kind from rfl]
    by_cases hk : e.kind ≠ 1 ∧ e.kind ≠ 2 ∧ e.kind ≠ 3
    · rw [if_pos hk, if_pos hk]
    · rw [if_neg hk, hc, if_pos (by decide)] at h
      exact absurd rfl h
  · have h1 := check_l e.path hc
    unfold wrongN wrongL targB targL
    simp only [EntL.e, h1, toList_un, un_bs, size_bs]
def lastL (L : List EntL) : List UInt8 := match L.getLast? with | some d => d.path | none => []
theorem last_l (L : List EntL) : lastP (L.map EntL.e) = bs (lastL L) := by
  unfold lastP lastL
  rw [List.getLast?_map]
  cases L.getLast? <;> rfl
def ooL (a b : List UInt8) : Int := if cmpL a b = 0 then 11 else if 0 < cmpL a b then 1 else 0
def oneL (L : List EntL) (e : EntL) : Int := if wrongL e ≠ 0 then wrongL e else if ooL (lastL L) e.path ≠ 0 then ooL (lastL L) e.path else putL L e
def treeL (L : List EntL) : List EntL → Bool
  | [] => true
  | e :: r => (oneL L e == 0) && treeL (L ++ [e]) r
theorem tree_l : ∀ (r L : List EntL), treeL L r = true → (checkGo (L.map EntL.e) (r.map EntL.e)).1 = 0
  | [], L, _ => rfl
  | e :: r, L, h => by
    unfold treeL at h
    rw [Bool.and_eq_true, beq_iff_eq] at h
    obtain ⟨h1, h2⟩ := h
    have ho : oneN (L.map EntL.e) e.e = 0 := by
      unfold oneL at h1
      split at h1
      · rename_i hw; exact absurd h1 hw
      · rename_i hw
        have hw0 : wrongL e = 0 := by simpa using hw
        split at h1
        · rename_i hoo; exact absurd h1 hoo
        · rename_i hoo
          unfold oneN
          rw [wrong_l e (by rw [hw0]; decide), hw0]
          have h3 : ooN (lastP (L.map EntL.e)) e.e.path = ooL (lastL L) e.path := by
            unfold ooN ooL
            rw [last_l, show e.e.path = bs e.path from rfl, cmp_l]
          rw [h3, put_l L e (by rw [h1]; decide), h1]
          have h4 : ooL (lastL L) e.path = 0 := by simpa using hoo
          rw [h4]
          decide
    rw [List.map_cons]
    unfold checkGo
    rw [if_neg (by rw [ho]; simp)]
    have := tree_l r (L ++ [e]) h2
    rw [List.map_append] at this
    exact this
def slashL (l : List UInt8) : Bool := Lib.hasPrefix l [47]
/-- A step; 99: it is not reckoned here. -/
def layL (st : StL) (p : List UInt8) (rest : List (List UInt8)) : Int × StL :=
  (if checkL p ≠ 0 then checkL p else putL st.L (dirL p), { st with L := laidLL st.L (dirL p), here := p, left := rest, made := st.made ++ [p] })
theorem lay_l (st : StL) (p : List UInt8) (rest : List (List UInt8)) (h : (layL st p rest).1 ≠ 99) : layS st.s (bs p) (rest.map bs) = ((layL st p rest).1, (layL st p rest).2.s) := by
  unfold layL at h ⊢
  unfold layS
  simp only at h ⊢
  have hc : checkL p ≠ 99 := by
    intro hc
    rw [hc, if_pos (by decide)] at h
    exact h rfl
  have hw : wrongN (dirE (bs p)) = checkL p := by
    have e1 : (dirE (bs p)).path = bs p := rfl
    unfold wrongN
    rw [e1, check_l p hc]
    simp only [dirE, toList_un]
    by_cases h0 : checkL p = 0
    · rw [h0]; decide
    · rw [if_neg (by decide), if_pos h0]
  refine Prod.ext ?_ ?_
  · show putAll _ _ = _
    unfold putAll
    rw [hw]
    split
    · rfl
    · rename_i h1
      rw [if_neg h1] at h
      exact put_l st.L (dirL p) h
  · show (⟨_, _, _, _, _⟩ : St) = ⟨_, _, _, _, _⟩
    simp only [StL.s, St.mk.injEq]
    exact ⟨laid_l st.L (dirL p), trivial, trivial, trivial, by simp⟩
def absL (m : Mn) (st : StL) (p : List UInt8) (rest : List (List UInt8)) : Int × StL :=
  match m.ab with
  | 0 => (10, st)
  | 1 => layL st p rest
  | _ => if rest.isEmpty then (checkL p, { st with here := p, left := rest }) else layL st p rest
def isFileL (m : Mn) (e : EntL) (rest : List (List UInt8)) : Bool := (e.kind == 2) && (m.dirs || !rest.isEmpty)
def isLinkL (m : Mn) (e : EntL) (rest : List (List UInt8)) : Bool := (e.kind == 3) && !(m.stay && rest.isEmpty)
def linkL (st : StL) (e : EntL) (rest : List (List UInt8)) : Int × StL :=
  if st.hops = 40 then (12, st) else (0, { st with here := if slashL e.link then [] else st.here, left := namesL e.link ++ rest, hops := st.hops + 1 })
def thereL (m : Mn) (st : StL) (p : List UInt8) (rest : List (List UInt8)) (e : EntL) : Int × StL :=
  if isFileL m e rest then (13, st) else if isLinkL m e rest then linkL st e rest else (0, { st with here := p, left := rest })
def stepL (m : Mn) (st : StL) (c : List UInt8) (rest : List (List UInt8)) : Int × StL :=
  if c = [46] then (0, { st with left := rest })
  else if c = [46, 46] then (0, { st with here := parentL st.here, left := rest })
  else match getL st.L (joinL st.here c) with
    | none => absL m st (joinL st.here c) rest
    | some e => thereL m st (joinL st.here c) rest e
theorem bs_inj {a b : List UInt8} : bs a = bs b ↔ a = b := ⟨fun h => by rw [← un_bs a, h, un_bs], fun h => by rw [h]⟩
theorem step_l (m : Mn) (st : StL) (c : List UInt8) (rest : List (List UInt8)) (h : (stepL m st c rest).1 ≠ 99) : stepN m st.s (bs c) (rest.map bs) = ((stepL m st c rest).1, (stepL m st c rest).2.s) := by
  unfold stepL at h ⊢
  unfold stepN
  have hd : bs c = dotB ↔ c = [46] := bs_inj (b := [46])
  have hdd : bs c = ddB ↔ c = [46, 46] := bs_inj (b := [46, 46])
  by_cases h1 : c = [46]
  · rw [if_pos (hd.2 h1), if_pos h1]; rfl
  · rw [if_neg h1] at h ⊢
    rw [if_neg (fun h => h1 (hd.1 h))]
    by_cases h2 : c = [46, 46]
    · rw [if_pos (hdd.2 h2), if_pos h2]
      simp only [StL.s, parent_l]
    · rw [if_neg h2] at h ⊢
      rw [if_neg (fun h => h2 (hdd.1 h))]
      have hj : joinB st.s.here (bs c) = bs (joinL st.here c) := join_l _ _
      have hg := get_l st.L (joinL st.here c)
      rw [hj, show st.s.L = st.L.map EntL.e from rfl, hg]
      cases hgl : getL st.L (joinL st.here c) with
      | none =>
        rw [hgl] at h
        simp only [Option.map_none] at h ⊢
        unfold absN absL at *
        rcases hab : m.ab with _ | _ | k
        · rfl
        · rw [hab] at h; exact lay_l _ _ _ h
        · rw [hab] at h
          simp only at h ⊢
          cases rest with
          | nil =>
            simp only [List.isEmpty_nil, if_true] at h ⊢
            rw [check_l _ h]
            simp [StL.s]
          | cons a b =>
            simp only [List.isEmpty_cons, Bool.false_eq_true, if_false] at h ⊢
            rw [if_neg (by simp)]
            exact lay_l _ _ _ h
      | some e =>
        rw [hgl] at h
        simp only [Option.map_some] at h ⊢
        unfold thereN thereL
        have f1 : isFile m e.e (rest.map bs) = isFileL m e rest := by unfold isFile isFileL; cases rest <;> rfl
        have f2 : isLink m e.e (rest.map bs) = isLinkL m e rest := by unfold isLink isLinkL; cases rest <;> rfl
        rw [f1, f2]
        split
        · rfl
        · split
          · unfold linkS linkL
            rw [show st.s.hops = st.hops from rfl]
            split
            · rfl
            · have s1 : slashed e.e.link = slashL e.link := by unfold slashed slashL EntL.e; rw [un_bs]
              rw [s1, show e.e.link = bs e.link from rfl, names_l]
              simp only [StL.s, List.map_append]
              split <;> rfl
          · rfl
def goL (m : Mn) : Nat → StL → Int × StL
  | 0, st => (0, st)
  | f + 1, st => match st.left with
    | [] => (0, st)
    | c :: rest => if (stepL m st c rest).1 = 0 then goL m f (stepL m st c rest).2 else ((stepL m st c rest).1, st)
theorem go_l (m : Mn) : ∀ (f : Nat) (st : StL), (goL m f st).1 ≠ 99 → (goF m f st.s).1 = (goL m f st).1 ∧ (goF m f st.s).2.1 = (goL m f st).2.s
  | 0, st, _ => ⟨rfl, rfl⟩
  | f + 1, st, h => by
    cases hl : st.left with
    | nil =>
      have h1 : goF m (f + 1) st.s = (0, st.s, []) := goF_nil (by show st.left.map bs = []; rw [hl]; rfl)
      have h2 : goL m (f + 1) st = (0, st) := by unfold goL; rw [hl]
      rw [h1, h2]; exact ⟨rfl, rfl⟩
    | cons c rest =>
      have hl2 : st.s.left = bs c :: rest.map bs := by show st.left.map bs = _; rw [hl]; rfl
      by_cases h0 : (stepL m st c rest).1 = 0
      · have h2 : goL m (f + 1) st = goL m f (stepL m st c rest).2 := by
          conv => lhs; unfold goL
          rw [hl]; simp only; rw [if_pos h0]
        rw [h2] at h ⊢
        have hs := step_l m st c rest (by rw [h0]; decide)
        have hs1 : (stepN m st.s (bs c) (rest.map bs)).1 = 0 := by rw [hs]; exact h0
        rw [goF_ok hl2 hs1, hs]
        exact go_l m f _ h
      · have h2 : goL m (f + 1) st = ((stepL m st c rest).1, st) := by
          conv => lhs; unfold goL
          rw [hl]; simp only; rw [if_neg h0]
        rw [h2] at h ⊢
        have hs := step_l m st c rest h
        have hs1 : ¬ (stepN m st.s (bs c) (rest.map bs)).1 = 0 := by rw [hs]; exact h0
        rw [goF_err hl2 hs1, hs]
        exact ⟨rfl, rfl⟩
/-- The whole walk over a known list. -/
def runL (m : Mn) (L : List EntL) (way : List UInt8) : Int × StL := goL m ((namesL way).length + 8001) ⟨L, [], namesL way, 0, []⟩
theorem run_l (m : Mn) (L : List EntL) (way : List UInt8) (h : (runL m L way).1 ≠ 99) : (goN m (start (L.map EntL.e) (bs way))).1 = (runL m L way).1 ∧ (goN m (start (L.map EntL.e) (bs way))).2.1 = (runL m L way).2.s := by
  have hst : start (L.map EntL.e) (bs way) = (⟨L, [], namesL way, 0, []⟩ : StL).s := by
    unfold start StL.s
    rw [names_l]
    rfl
  have hm : msr (start (L.map EntL.e) (bs way)) + 1 = (namesL way).length + 8001 := by
    unfold msr start
    rw [names_l]
    simp
  unfold goN
  rw [hm, hst]
  exact go_l m _ _ h
/-- What a known walk answers, and the list behind it. -/
theorem run_ans {m : Mn} {L : List EntL} {way : List UInt8} {n : Int} {p : List UInt8} {L' : List EntL} (h : (runL m L way).1 = n) (hn : n ≠ 99) (hp : (runL m L way).2.here = p) (hL : (runL m L way).2.L = L') :
    (goN m (start (L.map EntL.e) (bs way))).1 = n ∧ ansB (goN m (start (L.map EntL.e) (bs way))) = (if n = 0 then bs p else ⟨#[]⟩) ∧ treeB (L.map EntL.e) (goN m (start (L.map EntL.e) (bs way))) = (if n = 0 then L'.map EntL.e else L.map EntL.e) := by
  obtain ⟨h1, h2⟩ := run_l m L way (by rw [h]; exact hn)
  rw [h] at h1
  refine ⟨h1, ?_, ?_⟩
  · unfold ansB
    rw [h1, h2]
    split
    · rw [← hp]; rfl
    · rfl
  · unfold treeB
    rw [h1, h2]
    split
    · rw [← hL]; rfl
    · rfl
end Go.Proofs.YtcefgnjgcnboeaaGreatDoor

namespace Go.Proofs.YtcefgnjgcnboeaaGreatDoor.Tx
open Go Go.RowKit

def un (s : ByteArray) : List UInt8 := s.data.toList
def bs (l : List UInt8) : ByteArray := ⟨l.toArray⟩
theorem un_bs (l : List UInt8) : un (bs l) = l := by simp [un, bs]
theorem bs_un (s : ByteArray) : bs (un s) = s := by cases s; simp [un, bs]
theorem un_inj {a b : ByteArray} (h : un a = un b) : a = b := by rw [← bs_un a, ← bs_un b, h]
theorem un_length (s : ByteArray) : (un s).length = s.size := by cases s; simp [un, ByteArray.size]
theorem size_bs (l : List UInt8) : (bs l).size = l.length := by simp [bs, ByteArray.size]
theorem un_append (a b : ByteArray) : un (a ++ b) = un a ++ un b := by simp [un]
theorem un_extract (s : ByteArray) (i j : Nat) : un (s.extract i j) = ((un s).take j).drop i := by
  simp [un, ByteArray.data_extract, List.extract_eq_take_drop, List.drop_take]
theorem toList_un (s : ByteArray) : s.toList = un s := ByteArray.toList_eq s
theorem isEmpty_iff (s : ByteArray) : s.toList.isEmpty = true ↔ s.size = 0 := by rw [toList_un, ← un_length, List.isEmpty_iff, List.length_eq_zero_iff]
theorem isEmpty_false (s : ByteArray) : s.toList.isEmpty = false ↔ 0 < s.size := by
  rw [toList_un, ← un_length]; cases un s <;> simp
theorem un_getElem? (s : ByteArray) (k : Nat) (h : k < s.size) : (un s)[k]? = some s[k] := by
  unfold un; rw [Array.getElem?_toList]; exact Array.getElem?_eq_getElem h
theorem size_extract' (s : ByteArray) (i j : Nat) (h : j ≤ s.size) : (s.extract i j).size = j - i := by
  rw [← un_length, un_extract]; simp [un_length]; omega
theorem un_extract_get (s : ByteArray) (f j : Nat) : (un (s.extract f s.size))[j]? = (un s)[f + j]? := by
  rw [un_extract, List.take_of_length_le (by rw [un_length]; omega), List.getElem?_drop]

/-- Block B holds just these cells. -/
def Lies (W : World) (B : Nat) (t : TypeId) (cur : Array Value) : Prop := W.heap[B]? = some (.cells cur t (0, 0))
theorem Lies.cell {W : World} {B i : Nat} {t : TypeId} {cur : Array Value} {v : Value} (h : Lies W B t cur) (hv : cur[i]? = some v) : W.cell? ⟨B, i, none⟩ = some v := by simp [World.cell?, show W.heap[B]? = _ from h, hv]
theorem Lies.frozen {W : World} {B : Nat} {t : TypeId} {cur : Array Value} (h : Lies W B t cur) (i : Nat) : W.frozen? ⟨B, i, none⟩ = false := by simp [World.frozen?, show W.heap[B]? = _ from h]
theorem Lies.lt {W : World} {B : Nat} {t : TypeId} {cur : Array Value} (h : Lies W B t cur) : B < W.heap.size := (Array.getElem?_eq_some_iff.1 h).1
theorem Lies.new (W : World) (t : TypeId) (cur : Array Value) : Lies (W.alloc (.cells cur t)) W.heap.size t cur := World.alloc_heap_new W _
theorem Lies.set {W : World} {B i : Nat} {t : TypeId} {cur : Array Value} (h : Lies W B t cur) (v : Value) : Lies (W.setCell ⟨B, i, none⟩ v) B t (cur.setIfInBounds i v) := by
  obtain ⟨hlt, hk⟩ := Array.getElem?_eq_some_iff.1 h
  show (W.heap.modify B _)[B]? = _
  rw [Array.getElem?_eq_getElem (by rw [Array.size_modify]; exact hlt), Array.getElem_modify_self, hk]
  rfl
theorem Lies.other {W : World} {B b i : Nat} {t : TypeId} {cur : Array Value} (h : Lies W B t cur) (v : Value) (hne : b ≠ B) : Lies (W.setCell ⟨b, i, none⟩ v) B t cur := by
  show (W.heap.modify b _)[B]? = _
  rw [Array.getElem?_modify, if_neg hne]; exact h
theorem Lies.below {W W2 : World} {B : Nat} {t : TypeId} {cur : Array Value} (h : Lies W B t cur) (hb : Below W.heap.size W W2) : Lies W2 B t cur := (hb.block B h.lt).trans h
theorem Lies.alloc {W : World} {B : Nat} {t : TypeId} {cur : Array Value} (h : Lies W B t cur) (o : Obj) : Lies (W.alloc o) B t cur := (Below.heap_alloc W o B h.lt).trans h
theorem Lies.drew {W : World} {B : Nat} {t : TypeId} {cur : Array Value} (h : Lies W B t cur) (k : Nat) : Lies (W.drewN k) B t cur := h
theorem below_drawn {B : Nat} {a w : World} (h : Below B a w) (n : Nat) : Below B a (w.drewN n) := h.trans ⟨rfl, rfl, rfl, Nat.le_refl _, fun _ _ => rfl⟩
theorem below_join {w w1 w2 : World} (h : Below w.heap.size w w1) (k : Below w1.heap.size w1 w2) : Below w.heap.size w w2 := h.trans (k.mono h.size)

/-- The list at v holds these texts. -/
def TextsAt (w : World) (v : Value) (l : List ByteArray) : Prop :=
  ∃ a c, v = .slice a l.length c ∧ (a = none → c = 0) ∧ ∀ i x, l[i]? = some x → ∃ b o, a = some ⟨b, o, none⟩ ∧ w.cell? ⟨b, o + i, none⟩ = some (.string x)
theorem TextsAt.below {w w' : World} {v : Value} {l : List ByteArray} (h : TextsAt w v l) (hb : Below w.heap.size w w') : TextsAt w' v l := by
  obtain ⟨a, c, rfl, ha, hc⟩ := h
  refine ⟨a, c, rfl, ha, fun i x hx => ?_⟩
  obtain ⟨b, o, rfl, h1⟩ := hc i x hx
  exact ⟨b, o, rfl, (hb.cell (p := ⟨b, o + i, none⟩) (World.block_lt_of_cell? w _ h1)).trans h1⟩
theorem TextsAt.nil (w : World) : TextsAt w (.slice none 0 0) [] := ⟨none, 0, rfl, fun _ => rfl, fun i x h => by simp at h⟩
def strs (xs : List ByteArray) : List Value := xs.map Value.string
theorem strs_length (xs : List ByteArray) : (strs xs).length = xs.length := by simp [strs]
theorem strs_append (a b : List ByteArray) : strs (a ++ b) = strs a ++ strs b := by simp [strs]
theorem row_cell {W : World} {base e size n : Nat} {g cap : Nat} {xs : List Value} (h : W.ownsRow base e size (.slice (some ⟨g, 0, none⟩) n cap) n xs) (j : Nat) (u : Value) (hu : xs[j]? = some u) : W.cell? ⟨g, j, none⟩ = some u := by
  rcases h.2 with ⟨hv, _⟩ | ⟨g', cap', cur, hv, _, hg, _, _, _, hx⟩
  · cases hv
  · cases hv
    have hj : j < xs.length := (List.getElem?_eq_some_iff.1 hu).1
    have h2 : cur[j]? = some u := by
      rw [← Array.getElem?_toList]
      have h3 : (cur.toList.take xs.length)[j]? = some u := by rw [h.1, hx]; exact hu
      rwa [List.getElem?_take, if_pos hj] at h3
    simp [World.cell?, hg, h2]
theorem TextsAt.own {w : World} {B : Nat} {v : Value} {l : List ByteArray} (h : w.ownsRow B 9 1 v l.length (strs l)) : TextsAt w v l := by
  have h2 := h
  rcases h.2 with ⟨hv, h0⟩ | ⟨g, cap, cur, hv, _⟩
  · subst hv
    obtain rfl : l = [] := List.length_eq_zero_iff.1 h0
    exact TextsAt.nil w
  · subst hv
    exact ⟨_, _, rfl, (fun e => nomatch e), fun i x hx => ⟨g, 0, rfl, by rw [Nat.zero_add]; exact row_cell h2 i _ (by simp [strs, hx])⟩⟩
/-- How much a list of texts weighs. -/
def wt (l : List ByteArray) : Nat := (l.map fun x => x.size + 1).sum
theorem wt_append (a b : List ByteArray) : wt (a ++ b) = wt a + wt b := by simp [wt]
theorem wt_take_succ (l : List ByteArray) (k : Nat) (x : ByteArray) (h : l[k]? = some x) : wt (l.take (k + 1)) = wt (l.take k) + x.size + 1 := by
  rw [List.take_add_one, h, wt_append]; simp [wt]; omega
theorem wt_take_le (l : List ByteArray) (k : Nat) : wt (l.take k) ≤ wt l := by
  conv => rhs; rw [← List.take_append_drop k l, wt_append]
  omega
theorem length_wt (l : List ByteArray) : l.length ≤ wt l := by
  induction l with
  | nil => simp [wt]
  | cons x l ih => simp [wt] at ih ⊢; omega
theorem size_wt {l : List ByteArray} {x : ByteArray} (h : x ∈ l) : x.size + 1 ≤ wt l := by
  obtain ⟨a, b, rfl⟩ := List.append_of_mem h
  rw [wt_append]; simp [wt]; omega

theorem str_info : (Tryz.prog.info? 9).map (fun i => (i.zero, i.size, i.bytes)) = some (some (.string ⟨#[]⟩), 1, 16) := by kernel_rfl
theorem own_below {A B : World} {base e size n : Nat} {v : Value} {xs : List Value} (h : A.ownsRow base e size v n xs) (hb : Below A.heap.size A B) : B.ownsRow base e size v n xs := by
  refine ⟨h.1, ?_⟩
  rcases h.2 with hn | ⟨g, cap, cur, rfl, hg, hgg, rest⟩
  · exact .inl hn
  · exact .inr ⟨g, cap, cur, rfl, hg, (hb.block g (Array.getElem?_eq_some_iff.1 hgg).1).trans hgg, rest⟩
theorem own_slice {w : World} {B e n : Nat} {v : Value} {cs : List Value} (h : w.ownsRow B e 1 v n cs) : ∃ a k c, v = .slice a k c := by
  rcases h.2 with ⟨rfl, _⟩ | ⟨g, cap, cur, rfl, _⟩
  · exact ⟨_, _, _, rfl⟩
  · exact ⟨_, _, _, rfl⟩


def b8 (x : Int) : UInt8 := UInt8.ofNat (x % 256).toNat
theorem b8_int (x : Int) : ((b8 x).toNat : Int) = x % 256 := by
  unfold b8
  rw [UInt8.toNat_ofNat']; omega
def markB (k i : Int) : ByteArray := bs [35, b8 k, b8 (k / 256), b8 i, b8 (i / 256)]
set_option maxRecDepth 100000 in
theorem mark_conv (k i : Int) (w : World) : (convert 79 9 (.slice (some ⟨w.heap.size, 0, none⟩) 5 5)).run Tryz.prog (w.alloc (.cells #[.int .u8 35, .int .u8 (k % 256), .int .u8 (k / 256 % 256), .int .u8 (i % 256), .int .u8 (i / 256 % 256)] 5)) = .ok (.string (markB k i)) (w.alloc (.cells #[.int .u8 35, .int .u8 (k % 256), .int .u8 (k / 256 % 256), .int .u8 (i % 256), .int .u8 (i / 256 % 256)] 5)) := by
  refine run_convert_bytes_back _ 79 9 5 ⟨w.heap.size, 0, none⟩ 5 [35, b8 k, b8 (k / 256), b8 i, b8 (i / 256)] Tryz.underlying79 Tryz.underlying5 Tryz.underlying9 ?_
  intro j hj
  simp only [← b8_int]
  have hc := fun v (h : (#[.int .u8 35, .int .u8 ((b8 k).toNat : Int), .int .u8 ((b8 (k / 256)).toNat : Int), .int .u8 ((b8 i).toNat : Int), .int .u8 ((b8 (i / 256)).toNat : Int)] : Array Value)[j]? = some v) => (Lies.new w 5 #[.int .u8 35, .int .u8 ((b8 k).toNat : Int), .int .u8 ((b8 (k / 256)).toNat : Int), .int .u8 ((b8 i).toNat : Int), .int .u8 ((b8 (i / 256)).toNat : Int)]).cell h
  have e : (⟨w.heap.size, 0, none⟩ : Addr).add j = ⟨w.heap.size, j, none⟩ := by rw [Addr.add_mid, Nat.zero_add]
  rw [e]
  refine hc _ ?_
  rcases j with _ | _ | _ | _ | _ | j
  · rfl
  · rfl
  · rfl
  · rfl
  · rfl
  · simp at hj; omega
end Go.Proofs.YtcefgnjgcnboeaaGreatDoor.Tx

namespace Go.Proofs.YtcefgnjgcnboeaaGreatDoor.Tx
open Go Go.RowKit
set_option maxHeartbeats 2000000 in
theorem same_p (l m : List ByteArray) (u v : Value) (w : World) (h1 : TextsAt w u l) (h2 : TextsAt w v m) (hz : l.length ≤ 1099511627776) (he : l = m) : Calls Tryz.prog 12 #[u, v] w fun e w' => e = .returned (.bool true) ∧ Below w.heap.size w w' := by
  subst he
  obtain ⟨a, c, rfl, _, hc⟩ := h1
  obtain ⟨a2, c2, rfl, _, hc2⟩ := h2
  have HC : Hid _ := hc
  have HC2 : Hid _ := hc2
  clear hc hc2
  go_enter Tryz.func12, Tryz.ntmps12
  go_wp2
  go_loopw [5] (fun n wr => ∃ (k d : Nat), k ≤ l.length ∧ n = .int .i64 k ∧ wr = w.drewN d) (fun n _ => l.length - (intOf n).toNat)
  case atStart => exact ⟨0, 0, Nat.zero_le _, rfl, rfl⟩
  case round =>
    obtain ⟨k, d, hk, rfl, rfl⟩ := hrel
    by_cases hlt : k < l.length
    · obtain ⟨x, hx⟩ : ∃ x, l[k]? = some x := ⟨_, List.getElem?_eq_getElem hlt⟩
      obtain ⟨b, o, rfl, hcell⟩ := HC.out k x hx
      obtain ⟨b2, o2, rfl, hcell2⟩ := HC2.out k x hx
      have d1 : (0 : Int) ≤ (k : Int) := by omega
      have d2 : (k : Int) < (l.length : Int) := by omega
      have d3 : (x.toList == x.toList) = true := by simp
      go_wp2
      go_region
      go_wp2
      go_roundw
      case rel => exact ⟨k + 1, d + 1, by omega, by go_num, rfl⟩
      case measure => simp [intOf]; omega
    · obtain rfl : k = l.length := by omega
      go_wp2
      go_ret
      exact ⟨rfl, below_drawn (Below.refl _ _) d⟩

end Go.Proofs.YtcefgnjgcnboeaaGreatDoor.Tx

namespace Go.Proofs.YtcefgnjgcnboeaaGreatDoor
open Go Go.RowKit

set_option maxRecDepth 100000 in
set_option maxHeartbeats 4000000 in
theorem find_d_true (way : ByteArray) (L : List Ent) (a1 : Option Addr) (c1 : Nat) (w : World) (hEv : EntsAt w (.slice a1 L.length c1) L) (hLl : L.length ≤ 1073741824) (hR : Right L) (hw : way.size ≤ 1073741824) :
    Calls Tryz.prog 32 #[.slice a1 L.length c1, .string way, .bool true] w fun e w' => e = .returned (.tuple #[.string (ansB (goN ⟨0, false, false⟩ (start L way))), .int .i64 (goN ⟨0, false, false⟩ (start L way)).1]) ∧ Below w.heap.size w w' := by
  have hG := go_r false way L a1 c1 w hEv hLl hR hw
  rw [show srtN false = 0 from rfl] at hG
  go_enter Tryz.func32, Tryz.ntmps32
  go_wp2_with fail
  refine hG.mono ?_
  rintro e w1 ⟨hb1, hh, lv, ho, trv, dn, an, rfl, rfl, ⟨x1, x2, x3, rfl⟩, ⟨y1, y2, y3, rfl⟩, ht0, ht1⟩
  have HT0 : Hid _ := ht0
  have HT1 : Hid ((goN ⟨0, false, false⟩ (start L way)).1 = 0 → w1.ownsRow w.heap.size 9 1 (.slice x1 x2 x3) (⟨#[]⟩ :: (goN ⟨0, false, false⟩ (start L way)).2.2).length (tvs (⟨#[]⟩ :: (goN ⟨0, false, false⟩ (start L way)).2.2))) := ht1
  clear ht0 ht1 hG
  have hnew : (w1.alloc (.cells (wk8 (.slice a1 L.length c1) hh (.slice y1 y2 y3) ho (.slice x1 x2 x3) dn (ansB (goN ⟨0, false, false⟩ (start L way))) (goN ⟨0, false, false⟩ (start L way)).1) 81)).heap[w1.heap.size]? = some (.cells (wk8 (.slice a1 L.length c1) hh (.slice y1 y2 y3) ho (.slice x1 x2 x3) dn (ansB (goN ⟨0, false, false⟩ (start L way))) (goN ⟨0, false, false⟩ (start L way)).1) 81) := World.alloc_heap_new w1 _
  have d6 := w8_cells (j := 6) (v := .string (ansB (goN ⟨0, false, false⟩ (start L way)))) hnew rfl
  have d7 := w8_cells (j := 7) (v := .int .i64 (goN ⟨0, false, false⟩ (start L way)).1) hnew rfl
  have HB : Hid (Below w.heap.size w (w1.alloc (.cells (wk8 (.slice a1 L.length c1) hh (.slice y1 y2 y3) ho (.slice x1 x2 x3) dn (ansB (goN ⟨0, false, false⟩ (start L way))) (goN ⟨0, false, false⟩ (start L way)).1) 81))) := hb1.alloc hb1.size _
  have HBX : Hid (Below w1.heap.size w1 (w1.alloc (.cells (wk8 (.slice a1 L.length c1) hh (.slice y1 y2 y3) ho (.slice x1 x2 x3) dn (ansB (goN ⟨0, false, false⟩ (start L way))) (goN ⟨0, false, false⟩ (start L way)).1) 81))) := (Below.refl _ _).alloc (Nat.le_refl _) _
  clear hnew
  go_wp2
  generalize w1.alloc (.cells (wk8 (.slice a1 L.length c1) hh (.slice y1 y2 y3) ho (.slice x1 x2 x3) dn (ansB (goN ⟨0, false, false⟩ (start L way))) (goN ⟨0, false, false⟩ (start L way)).1) 81) = W2 at *
  go_quiet (fail)
  go_wp2
  go_ret2
  exact ⟨rfl, HB.out.trans ⟨rfl, rfl, rfl, Nat.le_refl _, fun _ _ => rfl⟩⟩
set_option maxRecDepth 100000 in
set_option maxHeartbeats 4000000 in
theorem find_d_false (way : ByteArray) (L : List Ent) (a1 : Option Addr) (c1 : Nat) (w : World) (hEv : EntsAt w (.slice a1 L.length c1) L) (hLl : L.length ≤ 1073741824) (hR : Right L) (hw : way.size ≤ 1073741824) :
    Calls Tryz.prog 32 #[.slice a1 L.length c1, .string way, .bool false] w fun e w' => e = .returned (.tuple #[.string (ansB (goN ⟨0, false, true⟩ (start L way))), .int .i64 (goN ⟨0, false, true⟩ (start L way)).1]) ∧ Below w.heap.size w w' := by
  have hG := go_r true way L a1 c1 w hEv hLl hR hw
  rw [show srtN true = 1 from rfl] at hG
  go_enter Tryz.func32, Tryz.ntmps32
  go_wp2_with fail
  refine hG.mono ?_
  rintro e w1 ⟨hb1, hh, lv, ho, trv, dn, an, rfl, rfl, ⟨x1, x2, x3, rfl⟩, ⟨y1, y2, y3, rfl⟩, ht0, ht1⟩
  have HT0 : Hid _ := ht0
  have HT1 : Hid ((goN ⟨0, false, true⟩ (start L way)).1 = 0 → w1.ownsRow w.heap.size 9 1 (.slice x1 x2 x3) (⟨#[]⟩ :: (goN ⟨0, false, true⟩ (start L way)).2.2).length (tvs (⟨#[]⟩ :: (goN ⟨0, false, true⟩ (start L way)).2.2))) := ht1
  clear ht0 ht1 hG
  have hnew : (w1.alloc (.cells (wk8 (.slice a1 L.length c1) hh (.slice y1 y2 y3) ho (.slice x1 x2 x3) dn (ansB (goN ⟨0, false, true⟩ (start L way))) (goN ⟨0, false, true⟩ (start L way)).1) 81)).heap[w1.heap.size]? = some (.cells (wk8 (.slice a1 L.length c1) hh (.slice y1 y2 y3) ho (.slice x1 x2 x3) dn (ansB (goN ⟨0, false, true⟩ (start L way))) (goN ⟨0, false, true⟩ (start L way)).1) 81) := World.alloc_heap_new w1 _
  have d6 := w8_cells (j := 6) (v := .string (ansB (goN ⟨0, false, true⟩ (start L way)))) hnew rfl
  have d7 := w8_cells (j := 7) (v := .int .i64 (goN ⟨0, false, true⟩ (start L way)).1) hnew rfl
  have HB : Hid (Below w.heap.size w (w1.alloc (.cells (wk8 (.slice a1 L.length c1) hh (.slice y1 y2 y3) ho (.slice x1 x2 x3) dn (ansB (goN ⟨0, false, true⟩ (start L way))) (goN ⟨0, false, true⟩ (start L way)).1) 81))) := hb1.alloc hb1.size _
  have HBX : Hid (Below w1.heap.size w1 (w1.alloc (.cells (wk8 (.slice a1 L.length c1) hh (.slice y1 y2 y3) ho (.slice x1 x2 x3) dn (ansB (goN ⟨0, false, true⟩ (start L way))) (goN ⟨0, false, true⟩ (start L way)).1) 81))) := (Below.refl _ _).alloc (Nat.le_refl _) _
  clear hnew
  go_wp2
  generalize w1.alloc (.cells (wk8 (.slice a1 L.length c1) hh (.slice y1 y2 y3) ho (.slice x1 x2 x3) dn (ansB (goN ⟨0, false, true⟩ (start L way))) (goN ⟨0, false, true⟩ (start L way)).1) 81) = W2 at *
  go_quiet (fail)
  go_wp2
  go_ret2
  exact ⟨rfl, HB.out.trans ⟨rfl, rfl, rfl, Nat.le_refl _, fun _ _ => rfl⟩⟩
theorem find_d (last : Bool) (way : ByteArray) (L : List Ent) (a1 : Option Addr) (c1 : Nat) (w : World) (hEv : EntsAt w (.slice a1 L.length c1) L) (hLl : L.length ≤ 1073741824) (hR : Right L) (hw : way.size ≤ 1073741824) :
    Calls Tryz.prog 32 #[.slice a1 L.length c1, .string way, .bool last] w fun e w' => e = .returned (.tuple #[.string (ansB (findR L way last)), .int .i64 (findR L way last).1]) ∧ Below w.heap.size w w' := by
  cases last with
  | true => exact find_d_true way L a1 c1 w hEv hLl hR hw
  | false => exact find_d_false way L a1 c1 w hEv hLl hR hw
end Go.Proofs.YtcefgnjgcnboeaaGreatDoor

namespace Go.Proofs.YtcefgnjgcnboeaaGreatDoor
open Go Go.RowKit

theorem tree_of3 {v : Value} {es : List Ent} {w : World} (hg : ErrType w) (hv : EntsAt w v es) (hl : es.length ≤ 1073741824) (hp : ∀ e ∈ es, e.path.size < 1152921504606846976) (hc : (checkGo [] es).1 = 0) : ∃ W tb tbase F, TreeOf W tb tbase F es := by
  obtain ⟨e, w', fr, ⟨_, tb, F, _, hT⟩, _⟩ := of_t v es w hg hv (by omega) hp hc []
  exact ⟨w', tb, _, F, hT⟩
theorem go_nums {L : List Ent} {way : ByteArray} {last : Bool} : (findR L way last).1 = 0 ∨ (1 ≤ (findR L way last).1 ∧ (findR L way last).1 ≤ 32) := by
  by_cases h : (findR L way last).1 = 0
  · exact .inl h
  · right
    rcases go_errs rfl _ _ h with h1 | h1 | h1
    · have : (findR L way last).1 = 10 := h1
      omega
    · have : (findR L way last).1 = 13 := h1
      omega
    · have : (findR L way last).1 = 12 := h1
      omega
set_option maxRecDepth 100000 in
set_option maxHeartbeats 4000000 in
theorem rfind_no (v : Value) (es : List Ent) (way : ByteArray) (w : World) (hg : ErrType w) (hv : EntsAt w v es) (hl : es.length ≤ 1073741824) (hp : ∀ e ∈ es, e.path.size < 1152921504606846976) (hc : (checkGo [] es).1 ≠ 0) :
    Calls Tryz.prog 14 #[v, .string way] w fun e w' => e = .returned (.bool true) ∧ Below w.heap.size w w' := by
  have hO := ofl_no v es w hg hv hl hp hc
  clear hc
  go_enter Tryz.func14, Tryz.ntmps14
  go_wp2_with (first | (go_at_call 6; refine hO.mono ?_; rintro e w1 ⟨hb1, rfl⟩) | (go_at_call 31; refine (works_r _ (hg.below hb1)).mono ?_; rintro e w2 ⟨rfl, hb2⟩))
  go_ret
  exact ⟨rfl, below_join hb1 hb2⟩
set_option maxRecDepth 100000 in
set_option maxHeartbeats 8000000 in
theorem rfind_ok (v : Value) (es : List Ent) (way p q : ByteArray) (m n : Int) (w : World) (hg : ErrType w) (hv : EntsAt w v es) (hl : es.length ≤ 1073741824) (hp : ∀ e ∈ es, e.path.size < 1152921504606846976) (hw : way.size ≤ 1073741824) (hc : (checkGo [] es).1 = 0) (hR : Right es)
    (h1 : ansB (findR es way true) = p ∧ (findR es way true).1 = m) (h2 : ansB (findR es way false) = q ∧ (findR es way false).1 = n) (hm : m = 0 ∨ (1 ≤ m ∧ m ≤ 32)) (hn : n = 0 ∨ (1 ≤ n ∧ n ≤ 32)) :
    Calls Tryz.prog 14 #[v, .string way] w fun e w' => e = .returned (.bool true) ∧ Below w.heap.size w w' := by
  have hO := ofl_ok v es w hg hv hl hp hc
  have H1 : Hid (ansB (findR es way true) = p ∧ (findR es way true).1 = m) := h1
  have H2 : Hid (ansB (findR es way false) = q ∧ (findR es way false).1 = n) := h2
  have HV : Hid (∀ W, Below w.heap.size w W → EntsAt W v es) := fun W hb => hv.below hb
  have HM : Hid (m = 0 ∨ (1 ≤ m ∧ m ≤ 32)) := hm
  have HN : Hid (n = 0 ∨ (1 ≤ n ∧ n ≤ 32)) := hn
  obtain ⟨a, cap, b, o, rfl, _⟩ := hv
  clear hc h1 h2 hm hn
  go_enter Tryz.func14, Tryz.ntmps14
  go_wp2_with fail
  refine hO.mono ?_
  rintro e w1 ⟨hb1, tb, tbase, F, rfl, _, hT1⟩
  clear hO
  go_wp2_with fail
  have hD1 := find_d true way es a cap w1 (HV.out w1 hb1) hl hR hw
  rw [H1.out.1, H1.out.2] at hD1
  with_reducible refine hD1.mono ?_
  rintro e w2 ⟨rfl, hb2'⟩
  have hb2 := below_join hb1 hb2'
  have hT2 := hT1.below hb2'
  clear hD1 hb1 hb2' hT1
  go_wp2_with fail
  have hD2 := find_d false way es a cap w2 (HV.out w2 hb2) hl hR hw
  rw [H2.out.1, H2.out.2] at hD2
  with_reducible refine hD2.mono ?_
  rintro e w3 ⟨rfl, hb3'⟩
  have hb3 := below_join hb2 hb3'
  have hT3 := hT2.below hb3'
  clear hD2 hb2 hb3' hT2
  go_wp2_with fail
  have hF1 := find_p true way es w3 hT3 (by omega)
  rw [H1.out.1, H1.out.2] at hF1
  with_reducible refine hF1.mono ?_
  rintro e w4 ⟨rfl, hb4'⟩
  have hb4 := below_join hb3 hb4'
  have hT4 := hT3.below hb4'
  clear hF1 hb3 hb4' hT3
  go_wp2_with fail
  have hF2 := find_p false way es w4 hT4 (by omega)
  rw [H2.out.1, H2.out.2] at hF2
  with_reducible refine hF2.mono ?_
  rintro e w5 ⟨rfl, hb5'⟩
  have hb5 := below_join hb4 hb5'
  have hT5 := hT4.below hb5'
  clear hF2 hb4 hb5' hT4
  generalize hem : errE m = em
  generalize hen : errE n = en
  go_wp2_with fail
  rw [← hem]
  with_reducible refine (plain_any m HM.out _ (hg.below hb5)).mono ?_
  rintro e w6 ⟨rfl, hb6'⟩
  rw [hem]
  have hb6 := below_join hb5 hb6'
  have hT6 := hT5.below hb6'
  clear hb5 hb6' hT5
  go_wp2_with fail
  rw [← hen]
  with_reducible refine (plain_any n HN.out _ (hg.below hb6)).mono ?_
  rintro e w7 ⟨rfl, hb7'⟩
  rw [hen]
  have hb7 := below_join hb6 hb7'
  have hT7 := hT6.below hb7'
  clear hb6 hb7' hT6
  go_wp2_with fail
  with_reducible refine (list_p tb tbase F es _ hT7).mono ?_
  rintro e w8 ⟨u, rfl, hu, hb8'⟩
  have hb8 := below_join hb7 hb8'
  have hU := ents_of_owns hu
  have HU : Hid (EntsAt w8 u es) := hU
  clear hb7 hb8' hT7 hu hU
  go_wp2_with fail
  with_reducible refine (same_p u _ es _ HU.out (HV.out _ hb8) (by omega)).mono ?_
  rintro e w9 ⟨rfl, hb9'⟩
  have hb9 := below_join hb8 hb9'
  clear hb8 hb9' HU
  go_wp2_with (go_at_call 31; refine (works_r _ (hg.below hb9)).mono ?_; rintro e w10 ⟨rfl, hb10⟩)
  go_ret
  exact ⟨rfl, below_join hb9 hb10⟩
theorem resolvefind_law (v : Value) (es : List Ent) (way : ByteArray) (w : World) (hg : ErrType w) (hv : EntsAt w v es) (hl : es.length ≤ 1073741824) (hp : ∀ e ∈ es, e.path.size < 1152921504606846976) (hw : way.size ≤ 1073741824) :
    Calls Tryz.prog 14 #[v, .string way] w fun e w' => e = .returned (.bool true) ∧ Below w.heap.size w w' := by
  by_cases hc : (checkGo [] es).1 = 0
  · obtain ⟨W, tb, tbase, F, hT⟩ := tree_of3 hg hv hl hp hc
    exact rfind_ok v es way _ _ _ _ w hg hv hl hp hw hc hT.right ⟨rfl, rfl⟩ ⟨rfl, rfl⟩ go_nums go_nums
  · exact rfind_no v es way w hg hv hl hp hc
end Go.Proofs.YtcefgnjgcnboeaaGreatDoor

namespace Go.Proofs.YtcefgnjgcnboeaaGreatDoor
open Go Go.RowKit

def worldL : List EntL := [⟨[97], 1, 493, [], []⟩, ⟨[97, 47, 98], 1, 448, [], []⟩, ⟨[97, 47, 98, 47, 103], 3, 511, [], [46, 46, 47, 102]⟩, ⟨[97, 47, 102], 2, 420, [102], []⟩, ⟨[97, 47, 117, 112], 3, 511, [], [46, 46, 47, 120]⟩, ⟨[108], 3, 511, [], [97, 47, 98]⟩, ⟨[110], 3, 511, [], [110, 111, 110, 101]⟩, ⟨[111], 3, 511, [], [111]⟩, ⟨[116, 111, 112], 3, 511, [], [47, 97]⟩]
theorem world_tree : (checkGo [] (worldL.map EntL.e)).1 = 0 := tree_l worldL [] (by decide +kernel)
structure RowL where
  kind : Int
  way : List UInt8
  want : List UInt8
  no : Int
  n : Nat
def rowsL : List RowL := [⟨0, [47, 97, 47, 47, 98, 47, 46], [97, 47, 98], 0, 9⟩, ⟨0, [46, 46, 47, 46, 46, 47, 97], [97], 0, 9⟩, ⟨0, [], [], 0, 9⟩, ⟨0, [108], [97, 47, 98], 0, 9⟩, ⟨1, [108], [108], 0, 9⟩, ⟨1, [108, 47], [108], 0, 9⟩, ⟨1, [108, 47, 46], [97, 47, 98], 0, 9⟩, ⟨0, [108, 47, 103], [97, 47, 102], 0, 9⟩, ⟨1, [108, 47, 103], [97, 47, 98, 47, 103], 0, 9⟩, ⟨0, [108, 47, 46, 46], [97], 0, 9⟩, ⟨0, [116, 111, 112, 47, 102], [97, 47, 102], 0, 9⟩, ⟨1, [116, 111, 112, 47, 117, 112], [97, 47, 117, 112], 0, 9⟩, ⟨0, [97, 47, 102, 47, 46], [], 13, 9⟩, ⟨0, [97, 47, 120], [], 10, 9⟩, ⟨0, [111], [], 12, 9⟩, ⟨1, [111], [111], 0, 9⟩, ⟨0, [110], [], 10, 9⟩, ⟨1, [110], [110], 0, 9⟩, ⟨2, [108, 47, 99, 47, 100], [97, 47, 98, 47, 99, 47, 100], 0, 11⟩, ⟨2, [116, 111, 112, 47, 117, 112, 47, 121], [120, 47, 121], 0, 11⟩, ⟨2, [97, 47, 102], [], 13, 9⟩, ⟨2, [97, 47, 46, 119, 104, 46, 120], [], 8, 9⟩, ⟨2, [99, 47, 46, 46, 47, 97, 47, 102, 47, 100], [], 13, 9⟩, ⟨3, [110], [110, 111, 110, 101], 0, 9⟩, ⟨3, [97, 47, 102], [97, 47, 102], 0, 9⟩, ⟨3, [108], [97, 47, 98], 0, 9⟩, ⟨3, [113, 47, 114], [113, 47, 114], 0, 10⟩, ⟨3, [113, 47, 46], [113], 0, 10⟩]
def mOf (k : Int) : Mn := if k = 0 then ⟨0, false, false⟩ else if k = 1 then ⟨0, false, true⟩ else if k = 2 then ⟨1, true, false⟩ else ⟨2, false, false⟩
def rowOk (r : RowL) : Bool := (decide (0 ≤ r.kind) && decide (r.kind < 4)) && ((runL (mOf r.kind) worldL r.way).1 == r.no) && (r.no != 99) && decide (r.way.length ≤ 100) && (if r.no = 0 then ((runL (mOf r.kind) worldL r.way).2.here == r.want) && ((runL (mOf r.kind) worldL r.way).2.L.length == r.n) else (r.want == []) && (r.n == 9))
theorem rows_ok : rowsL.all rowOk = true := by decide +kernel
theorem act_run (L : List Ent) (k : Int) (way : ByteArray) : actR L k way = goN (mOf k) (start L way) := by
  unfold actR mOf
  split
  · rfl
  · split
    · rfl
    · split <;> rfl
theorem row_act {r : RowL} (hr : r ∈ rowsL) : pickI r.kind = r.kind ∧ (bs r.way).size ≤ 100 ∧ (actR (worldL.map EntL.e) r.kind (bs r.way)).1 = r.no ∧ ansB (actR (worldL.map EntL.e) r.kind (bs r.way)) = bs r.want ∧ (treeB (worldL.map EntL.e) (actR (worldL.map EntL.e) r.kind (bs r.way))).length = r.n := by
  have h := List.all_eq_true.1 rows_ok r hr
  unfold rowOk at h
  simp only [Bool.and_eq_true, decide_eq_true_eq, beq_iff_eq, bne_iff_ne] at h
  obtain ⟨⟨⟨⟨⟨h1, h2⟩, h3⟩, h4⟩, h5⟩, h6⟩ := h
  obtain ⟨a1, a2, a3⟩ := run_ans (m := mOf r.kind) (L := worldL) (way := r.way) h3 h4 rfl rfl
  rw [act_run]
  refine ⟨by unfold pickI; omega, by rw [size_bs]; exact h5, a1, ?_, ?_⟩
  · rw [a2]
    split at h6
    · rename_i h0
      rw [if_pos h0]
      simp only [Bool.and_eq_true, beq_iff_eq] at h6
      rw [h6.1]
    · rename_i h0
      rw [if_neg h0]
      simp only [Bool.and_eq_true, beq_iff_eq] at h6
      rw [h6.1]; rfl
  · rw [a3]
    split at h6
    · rename_i h0
      rw [if_pos h0]
      simp only [Bool.and_eq_true, beq_iff_eq] at h6
      rw [List.length_map, h6.2]
    · rename_i h0
      rw [if_neg h0]
      simp only [Bool.and_eq_true, beq_iff_eq] at h6
      rw [List.length_map, h6.2]; rfl
/-- Where a known walk stood. -/
def goT (m : Mn) : Nat → StL → List (List UInt8)
  | 0, _ => []
  | f + 1, st => match st.left with
    | [] => []
    | c :: rest => if (stepL m st c rest).1 = 0 then (stepL m st c rest).2.here :: goT m f (stepL m st c rest).2 else []
theorem go_t (m : Mn) : ∀ (f : Nat) (st : StL), (goL m f st).1 ≠ 99 → (goF m f st.s).2.2 = (goT m f st).map bs
  | 0, st, _ => rfl
  | f + 1, st, h => by
    cases hl : st.left with
    | nil =>
      have h1 : goF m (f + 1) st.s = (0, st.s, []) := goF_nil (by show st.left.map bs = []; rw [hl]; rfl)
      have h2 : goT m (f + 1) st = [] := by unfold goT; rw [hl]
      rw [h1, h2]; rfl
    | cons c rest =>
      have hl2 : st.s.left = bs c :: rest.map bs := by show st.left.map bs = _; rw [hl]; rfl
      by_cases h0 : (stepL m st c rest).1 = 0
      · have h2 : goL m (f + 1) st = goL m f (stepL m st c rest).2 := by
          conv => lhs; unfold goL
          rw [hl]; simp only; rw [if_pos h0]
        have h3 : goT m (f + 1) st = (stepL m st c rest).2.here :: goT m f (stepL m st c rest).2 := by
          conv => lhs; unfold goT
          rw [hl]; simp only; rw [if_pos h0]
        rw [h2] at h
        have hs := step_l m st c rest (by rw [h0]; decide)
        have hs1 : (stepN m st.s (bs c) (rest.map bs)).1 = 0 := by rw [hs]; exact h0
        rw [goF_ok hl2 hs1, hs, h3]
        simp only [List.map_cons]
        rw [go_t m f _ h]
        rfl
      · have h2 : goL m (f + 1) st = ((stepL m st c rest).1, st) := by
          conv => lhs; unfold goL
          rw [hl]; simp only; rw [if_neg h0]
        have h3 : goT m (f + 1) st = [] := by
          conv => lhs; unfold goT
          rw [hl]; simp only; rw [if_neg h0]
        rw [h2] at h
        have hs := step_l m st c rest h
        have hs1 : ¬ (stepN m st.s (bs c) (rest.map bs)).1 = 0 := by rw [hs]; exact h0
        rw [goF_err hl2 hs1, h3]
        rfl
def trailK : List (List UInt8) := [[], [], [97], [97, 47, 98], [97, 47, 98], [97], [97, 47, 102]]
theorem trail_known : (goN ⟨0, false, false⟩ (start (worldL.map EntL.e) (bs [108, 47, 103]))).1 = 0 ∧ trailL (worldL.map EntL.e) (bs [108, 47, 103]) = trailK.map bs := by
  have hst : start (worldL.map EntL.e) (bs [108, 47, 103]) = (⟨worldL, [], namesL [108, 47, 103], 0, []⟩ : StL).s := by
    unfold start StL.s
    rw [names_l]
    rfl
  have hm : msr (start (worldL.map EntL.e) (bs [108, 47, 103])) + 1 = (namesL [108, 47, 103]).length + 8001 := by
    unfold msr start
    rw [names_l]
    simp
  have h99 : (goL ⟨0, false, false⟩ ((namesL [108, 47, 103]).length + 8001) ⟨worldL, [], namesL [108, 47, 103], 0, []⟩).1 = 0 := by decide +kernel
  have hg := go_l ⟨0, false, false⟩ ((namesL [108, 47, 103]).length + 8001) ⟨worldL, [], namesL [108, 47, 103], 0, []⟩ (by rw [h99]; decide)
  have ht := go_t ⟨0, false, false⟩ ((namesL [108, 47, 103]).length + 8001) ⟨worldL, [], namesL [108, 47, 103], 0, []⟩ (by rw [h99]; decide)
  have hk : goT ⟨0, false, false⟩ ((namesL [108, 47, 103]).length + 8001) ⟨worldL, [], namesL [108, 47, 103], 0, []⟩ = trailK.tail := by decide +kernel
  constructor
  · unfold goN
    rw [hm, hst, hg.1, h99]
  · unfold trailL goN
    rw [hm, hst, ht, hk]
    rfl
end Go.Proofs.YtcefgnjgcnboeaaGreatDoor

namespace Go.Proofs.YtcefgnjgcnboeaaGreatDoor
open Go Go.RowKit

theorem ents_block (W : World) (es : List Ent) : EntsAt (W.alloc (.cells (ecells es).toArray 52)) (.slice (some ⟨W.heap.size, 0, none⟩) es.length es.length) es := by
  refine ⟨some ⟨W.heap.size, 0, none⟩, es.length, W.heap.size, 0, rfl, fun _ => rfl, Nat.le_refl _, fun i e he => ?_⟩
  have h : ∀ (j : Nat) (v : Value), (ecs e)[j]? = some v → (W.alloc (.cells (ecells es).toArray 52)).cell? ⟨W.heap.size, 0 + i * 5 + j, none⟩ = some v := fun j v hv => by
    unfold World.cell?
    rw [World.alloc_heap_new]
    have := ecells_get es i e he j v hv
    simpa using this
  exact ⟨h 0 _ rfl, h 1 _ rfl, h 2 _ rfl, h 3 _ rfl, h 4 _ rfl⟩
set_option maxRecDepth 100000 in
set_option maxHeartbeats 4000000 in
theorem world_p (w : World) : Calls Tryz.prog 7 #[] w fun e w' => e = .returned (.slice (some ⟨w.heap.size, 0, none⟩) 9 9) ∧ Below w.heap.size w w' ∧ EntsAt w' (.slice (some ⟨w.heap.size, 0, none⟩) 9 9) (worldL.map EntL.e) := by
  have hE : EntsAt (w.alloc (.cells (ecells (worldL.map EntL.e)).toArray 52)) (.slice (some ⟨w.heap.size, 0, none⟩) 9 9) (worldL.map EntL.e) := ents_block w (worldL.map EntL.e)
  have HE : Hid (EntsAt (w.alloc (.cells (ecells (worldL.map EntL.e)).toArray 52)) (.slice (some ⟨w.heap.size, 0, none⟩) 9 9) (worldL.map EntL.e)) := hE
  clear hE
  go_enter Tryz.func7, Tryz.ntmps7
  go_wp2
  go_ret
  exact ⟨rfl, (Below.refl _ w).alloc (Nat.le_refl _) _, HE.out⟩
def rcs (r : RowL) : List Value := [.int .i64 r.kind, .string (bs r.way), .string (bs r.want), .int .i64 r.no, .int .i64 r.n]
def rcells (l : List RowL) : List Value := l.flatMap rcs
theorem rcells_get : ∀ (l : List RowL) (k : Nat) (r : RowL), l[k]? = some r → ∀ j v, (rcs r)[j]? = some v → (rcells l)[k * 5 + j]? = some v
  | [], k, r, h => by simp at h
  | y :: l, 0, r, h => fun j v hj => by
    have : y = r := by simpa using h
    subst this
    have hl : j < (rcs y).length := (List.getElem?_eq_some_iff.1 hj).1
    show (rcs y ++ rcells l)[0 * 5 + j]? = some v
    rw [Nat.zero_mul, Nat.zero_add, List.getElem?_append_left hl]; exact hj
  | y :: l, k + 1, r, h => fun j v hj => by
    have h' : l[k]? = some r := by simpa using h
    show (rcs y ++ rcells l)[(k + 1) * 5 + j]? = some v
    rw [List.getElem?_append_right (by show 5 ≤ _; omega)]
    have := rcells_get l k r h' j v hj
    rw [show (k + 1) * 5 + j - (rcs y).length = k * 5 + j by show (k + 1) * 5 + j - 5 = _; omega]
    exact this
/-- The table stands. -/
structure Tab8 (w W : World) : Prop where
  tab : W.heap[w.heap.size]? = some (.cells (rcells rowsL).toArray 24 (0, 0))
  bel : Below (w.heap.size + 1) (w.alloc (.cells (rcells rowsL).toArray 24)) W
theorem Tab8.below {w W W2 : World} (h : Tab8 w W) (hb : Below (w.heap.size + 1) W W2) : Tab8 w W2 := ⟨(hb.block _ (by omega)).trans h.tab, h.bel.trans hb⟩
theorem Tab8.cell {w W : World} (h : Tab8 w W) {k : Nat} {r : RowL} (hr : rowsL[k]? = some r) : W.cell? ⟨w.heap.size, k * 5, none⟩ = some (.int .i64 r.kind) ∧ W.cell? ⟨w.heap.size, k * 5 + 1, none⟩ = some (.string (bs r.way)) ∧ W.cell? ⟨w.heap.size, k * 5 + 2, none⟩ = some (.string (bs r.want)) ∧ W.cell? ⟨w.heap.size, k * 5 + 3, none⟩ = some (.int .i64 r.no) ∧ W.cell? ⟨w.heap.size, k * 5 + 4, none⟩ = some (.int .i64 r.n) := by
  have hc : ∀ (j : Nat) (v : Value), (rcs r)[j]? = some v → W.cell? ⟨w.heap.size, k * 5 + j, none⟩ = some v := fun j v hv => by
    unfold World.cell?
    simp only [h.tab]
    have := rcells_get rowsL k r hr j v hv
    simpa using this
  exact ⟨hc 0 _ rfl, hc 1 _ rfl, hc 2 _ rfl, hc 3 _ rfl, hc 4 _ rfl⟩
theorem Tab8.all {w W : World} (h : Tab8 w W) : Below w.heap.size w W := ((Below.refl _ w).alloc (Nat.le_refl _) _).trans (h.bel.mono (by omega))
set_option maxRecDepth 100000 in
set_option maxHeartbeats 16000000 in
theorem shown_p (w : World) (hg : ErrType w) : Calls Tryz.prog 4 #[] w fun e w' => e = .returned (.bool true) ∧ Below w.heap.size w w' := by
  have HG : Hid (∀ W, Below w.heap.size w W → ErrType W) := fun W b => hg.below b
  clear hg
  go_enter Tryz.func4, Tryz.ntmps4
  go_upto_region 1 with fail
  go_cut [1] (fun s wx => s = .slice (some ⟨w.heap.size, 0, none⟩) 28 28 ∧ Tab8 w wx)
  case first =>
    go_wp2
    go_meet
    exact ⟨rfl, World.alloc_heap_new w _, by have := Below.refl (w.heap.size + 1) (w.alloc (.cells (rcells rowsL).toArray 24)); exact this⟩
  case rest =>
    obtain ⟨rfl, T0⟩ := hcut
    have HT0 : Hid (Tab8 w wc) := T0
    clear T0
    go_wp2
    go_loopw [2, 3, 4, 5, 6] (fun i _ _ _ _ wr => ∃ k : Nat, i = .int .i64 k ∧ k ≤ 28 ∧ Tab8 w wr) (fun i _ _ _ _ _ => 28 - (intOf i).toNat)
    case atStart => exact ⟨0, rfl, by omega, HT0.out⟩
    case round =>
      obtain ⟨k, rfl, hk, hT⟩ := hrel
      have HT : Hid (Tab8 w wr) := hT
      clear hT
      by_cases hlt : k < 28
      · have hlt' : (k : Int) < 28 := by omega
        have hk0 : (0 : Int) ≤ (k : Int) := by omega
        obtain ⟨r, hr⟩ : ∃ r, rowsL[k]? = some r := ⟨_, List.getElem?_eq_getElem (show k < rowsL.length from hlt)⟩
        have HR : Hid (rowsL[k]? = some r) := hr
        obtain ⟨r1, r2, r3, r4, r5⟩ := row_act (List.mem_of_getElem? hr)
        clear hr
        go_wp2_with fail
        refine (world_p _).mono ?_
        rintro e w2 ⟨rfl, hb2, hE2⟩
        have T2 := HT.out.below (hb2.mono (by have := HT.out.bel.size; simpa using this))
        clear HT
        go_wp2_with fail
        refine (ofl_ok _ (worldL.map EntL.e) w2 (HG.out _ T2.all) hE2 (by decide) (by decide) world_tree).mono ?_
        rintro e w3 ⟨hb3, tb, tbase, F, rfl, hq3, hT3⟩
        have hs2 := T2.bel.size
        have hs2' : w.heap.size + 1 ≤ w2.heap.size := by simpa using hs2
        have T3 := T2.below (hb3.mono hs2')
        have hs3 := hb3.size
        have HNM : Hid (∀ k, MineT tb F k → w.heap.size + 1 ≤ k) := fun k hk => by have := hT3.mine_ge k hk; omega
        have hC : ∀ W, TreeOf W tb tbase F (worldL.map EntL.e) → Calls Tryz.prog 8 #[.pointer (some ⟨tb, 0, none⟩), .agg #[.int .i64 r.kind, .string (bs r.way)]] W fun e w' => e = .returned (.tuple #[.string (bs r.want), errE r.no]) ∧ ∃ F', TreeOf w' tb tbase F' (treeB (worldL.map EntL.e) (actR (worldL.map EntL.e) r.kind (bs r.way))) ∧ Rnd (MineT tb F) (MineT tb F') W w' := fun W hW => by
          have := asked_p r.kind (bs r.way) (worldL.map EntL.e) W hW (by omega)
          rw [r1, r4, r3] at this
          exact this
        have hno : r.no = 0 ∨ (1 ≤ r.no ∧ r.no ≤ 32) := by rw [← r3]; exact act_nums _ _ _
        generalize treeB (worldL.map EntL.e) (actR (worldL.map EntL.e) r.kind (bs r.way)) = L' at hC r5
        clear hE2 hb2 hb3 T2 hq3 hs2 r1 r4 r3
        have HTR : Hid (TreeOf w3 tb tbase F (worldL.map EntL.e)) := hT3
        have HT3 : Hid (Tab8 w w3) := T3
        clear hT3 T3
        go_upto_region 8 with fail
        go_cut [5, 6] (fun s5 s6 wx => s5 = .string (bs r.want) ∧ s6 = errE r.no ∧ (∃ F', TreeOf wx tb tbase F' L') ∧ Tab8 w wx)
        case first =>
          refine wp_region_noPanic ?_
          refine wp_region_held_drew (S := fun W => Tab8 w W) (by kernel_rfl) (HT3.out.below (below_drewN (Below.refl _ _) 1)) (fun h0 => ?_)
          refine wpAnyH_take (i := 0) (v := .pointer (some ⟨tb, 0, none⟩)) rfl (by kernel_rfl) (by kernel_rfl) (by kernel_rfl) (fun _ _ _ h => h) (Or.inl ⟨by rfl, fun w' hSw => by obtain ⟨s0, s1, s2, s3, s4⟩ := hSw.cell HR.out; go_simp <;> first | omega | rfl⟩) h0 ?_
          try dsimp [Act.put]
          try simp only [List.setIfInBounds_toArray, List.set_cons_succ, List.set_cons_zero]
          refine wpAnyH_take (i := 1) (v := .slice (some ⟨w.heap.size, 0, none⟩) 28 28) rfl (by kernel_rfl) (by kernel_rfl) (by kernel_rfl) (fun _ _ _ h => h) (Or.inl ⟨by rfl, fun w' hSw => by obtain ⟨s0, s1, s2, s3, s4⟩ := hSw.cell HR.out; go_simp <;> first | omega | rfl⟩) h0 ?_
          try dsimp [Act.put]
          try simp only [List.setIfInBounds_toArray, List.set_cons_succ, List.set_cons_zero]
          refine wpAnyH_take (i := 2) (v := .int .i64 k) rfl (by kernel_rfl) (by kernel_rfl) (by kernel_rfl) (fun _ _ _ h => h) (Or.inl ⟨by rfl, fun w' hSw => by obtain ⟨s0, s1, s2, s3, s4⟩ := hSw.cell HR.out; go_simp <;> first | omega | rfl⟩) h0 ?_
          try dsimp [Act.put]
          try simp only [List.setIfInBounds_toArray, List.set_cons_succ, List.set_cons_zero]
          refine wpAnyH_take (i := 3) (v := (.pointer (some ⟨w.heap.size, k * 5, none⟩))) rfl (by kernel_rfl) (by kernel_rfl) (by kernel_rfl) (fun _ _ _ h => h) (Or.inl ⟨by rfl, fun w' hSw => by obtain ⟨s0, s1, s2, s3, s4⟩ := hSw.cell HR.out; go_simp <;> first | omega | rfl⟩) h0 ?_
          try dsimp [Act.put]
          try simp only [List.setIfInBounds_toArray, List.set_cons_succ, List.set_cons_zero]
          refine wpAnyH_take (i := 4) (v := (.pointer (some ⟨w.heap.size, k * 5, none⟩))) rfl (by kernel_rfl) (by kernel_rfl) (by kernel_rfl) (fun _ _ _ h => h) (Or.inl ⟨by rfl, fun w' hSw => by obtain ⟨s0, s1, s2, s3, s4⟩ := hSw.cell HR.out; go_simp <;> first | omega | rfl⟩) h0 ?_
          try dsimp [Act.put]
          try simp only [List.setIfInBounds_toArray, List.set_cons_succ, List.set_cons_zero]
          refine wpAnyH_take (i := 5) (v := .int .i64 r.kind) rfl (by kernel_rfl) (by kernel_rfl) (by kernel_rfl) (fun _ _ _ h => h) (Or.inl ⟨by rfl, fun w' hSw => by obtain ⟨s0, s1, s2, s3, s4⟩ := hSw.cell HR.out; go_simp <;> first | omega | rfl⟩) h0 ?_
          try dsimp [Act.put]
          try simp only [List.setIfInBounds_toArray, List.set_cons_succ, List.set_cons_zero]
          refine wpAnyH_take (i := 6) (v := .slice (some ⟨w.heap.size, 0, none⟩) 28 28) rfl (by kernel_rfl) (by kernel_rfl) (by kernel_rfl) (fun _ _ _ h => h) (Or.inl ⟨by rfl, fun w' hSw => by obtain ⟨s0, s1, s2, s3, s4⟩ := hSw.cell HR.out; go_simp <;> first | omega | rfl⟩) h0 ?_
          try dsimp [Act.put]
          try simp only [List.setIfInBounds_toArray, List.set_cons_succ, List.set_cons_zero]
          refine wpAnyH_take (i := 7) (v := .int .i64 k) rfl (by kernel_rfl) (by kernel_rfl) (by kernel_rfl) (fun _ _ _ h => h) (Or.inl ⟨by rfl, fun w' hSw => by obtain ⟨s0, s1, s2, s3, s4⟩ := hSw.cell HR.out; go_simp <;> first | omega | rfl⟩) h0 ?_
          try dsimp [Act.put]
          try simp only [List.setIfInBounds_toArray, List.set_cons_succ, List.set_cons_zero]
          refine wpAnyH_take (i := 8) (v := (.pointer (some ⟨w.heap.size, k * 5, none⟩))) rfl (by kernel_rfl) (by kernel_rfl) (by kernel_rfl) (fun _ _ _ h => h) (Or.inl ⟨by rfl, fun w' hSw => by obtain ⟨s0, s1, s2, s3, s4⟩ := hSw.cell HR.out; go_simp <;> first | omega | rfl⟩) h0 ?_
          try dsimp [Act.put]
          try simp only [List.setIfInBounds_toArray, List.set_cons_succ, List.set_cons_zero]
          refine wpAnyH_take (i := 9) (v := (.pointer (some ⟨w.heap.size, k * 5 + 1, none⟩))) rfl (by kernel_rfl) (by kernel_rfl) (by kernel_rfl) (fun _ _ _ h => h) (Or.inl ⟨by rfl, fun w' hSw => by obtain ⟨s0, s1, s2, s3, s4⟩ := hSw.cell HR.out; go_simp <;> first | omega | rfl⟩) h0 ?_
          try dsimp [Act.put]
          try simp only [List.setIfInBounds_toArray, List.set_cons_succ, List.set_cons_zero]
          refine wpAnyH_take (i := 10) (v := .string (bs r.way)) rfl (by kernel_rfl) (by kernel_rfl) (by kernel_rfl) (fun _ _ _ h => h) (Or.inl ⟨by rfl, fun w' hSw => by obtain ⟨s0, s1, s2, s3, s4⟩ := hSw.cell HR.out; go_simp <;> first | omega | rfl⟩) h0 ?_
          try dsimp [Act.put]
          try simp only [List.setIfInBounds_toArray, List.set_cons_succ, List.set_cons_zero]
          refine wpAnyH_take (i := 11) (v := .agg #[.int .i64 r.kind, .string (bs r.way)]) rfl (by kernel_rfl) (by kernel_rfl) (by kernel_rfl) (fun _ _ _ h => h) (Or.inl ⟨by rfl, fun w' hSw => by obtain ⟨s0, s1, s2, s3, s4⟩ := hSw.cell HR.out; go_simp <;> first | omega | rfl⟩) h0 ?_
          try dsimp [Act.put]
          try simp only [List.setIfInBounds_toArray, List.set_cons_succ, List.set_cons_zero]
          refine wpAnyH_ready (rs := [12]) (by kernel_rfl) (by simp) ?_
          refine AllReadyH.cons rfl ?_ AllReadyH.nil
          intro K' hK
          rw [if_pos (by rfl)]
          go_simp
          refine (hC _ (HTR.out.below (below_drewN (Below.refl _ _) 1))).mono ?_
          rintro e w4 ⟨rfl, F4, hT4, hr4⟩
          have T4 : Tab8 w w4 := h0.below (hr4.below (by show w.heap.size + 1 ≤ w3.heap.size; omega) HNM.out)
          refine hK.out _ _ T4 (fun _ => ?_)
          try dsimp [Act.put]
          try simp only [List.setIfInBounds_toArray, List.set_cons_succ, List.set_cons_zero]
          refine wpAnyH_take (i := 13) (v := .tuple #[.string (bs r.want), errE r.no]) rfl (by kernel_rfl) (by kernel_rfl) (by kernel_rfl) (fun _ _ _ h => h) (Or.inl ⟨by rfl, fun w' hSw => by obtain ⟨s0, s1, s2, s3, s4⟩ := hSw.cell HR.out; go_simp <;> first | omega | rfl⟩) T4 ?_
          try dsimp [Act.put]
          try simp only [List.setIfInBounds_toArray, List.set_cons_succ, List.set_cons_zero]
          refine wpAnyH_take (i := 14) (v := .string (bs r.want)) rfl (by kernel_rfl) (by kernel_rfl) (by kernel_rfl) (fun _ _ _ h => h) (Or.inl ⟨by rfl, fun w' hSw => by obtain ⟨s0, s1, s2, s3, s4⟩ := hSw.cell HR.out; go_simp <;> first | omega | rfl⟩) T4 ?_
          try dsimp [Act.put]
          try simp only [List.setIfInBounds_toArray, List.set_cons_succ, List.set_cons_zero]
          refine wpAnyH_take (i := 15) (v := errE r.no) rfl (by kernel_rfl) (by kernel_rfl) (by kernel_rfl) (fun _ _ _ h => h) (Or.inl ⟨by rfl, fun w' hSw => by obtain ⟨s0, s1, s2, s3, s4⟩ := hSw.cell HR.out; go_simp <;> first | omega | rfl⟩) T4 ?_
          try dsimp [Act.put]
          try simp only [List.setIfInBounds_toArray, List.set_cons_succ, List.set_cons_zero]
          refine wpAnyH_take (i := 16) (v := .string (bs r.want)) rfl (by kernel_rfl) (by kernel_rfl) (by kernel_rfl) (fun _ _ _ h => h) (Or.inl ⟨by rfl, fun w' hSw => by obtain ⟨s0, s1, s2, s3, s4⟩ := hSw.cell HR.out; go_simp <;> first | omega | rfl⟩) T4 ?_
          try dsimp [Act.put]
          try simp only [List.setIfInBounds_toArray, List.set_cons_succ, List.set_cons_zero]
          refine wpAnyH_take (i := 17) (v := errE r.no) rfl (by kernel_rfl) (by kernel_rfl) (by kernel_rfl) (fun _ _ _ h => h) (Or.inl ⟨by rfl, fun w' hSw => by obtain ⟨s0, s1, s2, s3, s4⟩ := hSw.cell HR.out; go_simp <;> first | omega | rfl⟩) T4 ?_
          try dsimp [Act.put]
          try simp only [List.setIfInBounds_toArray, List.set_cons_succ, List.set_cons_zero]
          refine wpAnyH_done (by kernel_rfl) ?_ _
          refine NoPanic.normal ?_
          go_wp2
          go_meet
          exact ⟨rfl, rfl, ⟨F4, hT4⟩, T4⟩
        case rest =>
          obtain ⟨rfl, rfl, ⟨F5, hT5⟩, T5⟩ := hcut
          have HT5 : Hid (TreeOf wc tb tbase F5 L') := hT5
          clear hT5 hC HTR HT3 HNM
          generalize her : errE r.no = er at *
          go_upto_region 9 with fail
          go_cut [96] (fun s wx => s = .bool false ∧ Tab8 w wx)
          case first =>
            refine wp_region_noPanic ?_
            refine wp_region_held_drew (S := fun W => Tab8 w W ∧ Below wc.heap.size wc W) (by kernel_rfl) ⟨T5.below (below_drewN (Below.refl _ _) 1), below_drewN (Below.refl _ _) 1⟩ (fun h0 => ?_)
            generalize hwd : wc.drew = wd at *
            clear hwd
            refine wpAnyH_take (i := 0) (v := .string (bs r.want)) rfl (by kernel_rfl) (by kernel_rfl) (by kernel_rfl) (fun _ _ _ h => h) (Or.inl ⟨by rfl, fun w' hSw => by obtain ⟨s0, s1, s2, s3, s4⟩ := hSw.1.cell HR.out; go_simp <;> first | omega | rfl⟩) h0 ?_
            try dsimp [Act.put]
            try simp only [List.setIfInBounds_toArray, List.set_cons_succ, List.set_cons_zero]
            refine wpAnyH_take (i := 1) (v := .slice (some ⟨w.heap.size, 0, none⟩) 28 28) rfl (by kernel_rfl) (by kernel_rfl) (by kernel_rfl) (fun _ _ _ h => h) (Or.inl ⟨by rfl, fun w' hSw => by obtain ⟨s0, s1, s2, s3, s4⟩ := hSw.1.cell HR.out; go_simp <;> first | omega | rfl⟩) h0 ?_
            try dsimp [Act.put]
            try simp only [List.setIfInBounds_toArray, List.set_cons_succ, List.set_cons_zero]
            refine wpAnyH_take (i := 2) (v := .int .i64 k) rfl (by kernel_rfl) (by kernel_rfl) (by kernel_rfl) (fun _ _ _ h => h) (Or.inl ⟨by rfl, fun w' hSw => by obtain ⟨s0, s1, s2, s3, s4⟩ := hSw.1.cell HR.out; go_simp <;> first | omega | rfl⟩) h0 ?_
            try dsimp [Act.put]
            try simp only [List.setIfInBounds_toArray, List.set_cons_succ, List.set_cons_zero]
            refine wpAnyH_take (i := 3) (v := (.pointer (some ⟨w.heap.size, k * 5, none⟩))) rfl (by kernel_rfl) (by kernel_rfl) (by kernel_rfl) (fun _ _ _ h => h) (Or.inl ⟨by rfl, fun w' hSw => by obtain ⟨s0, s1, s2, s3, s4⟩ := hSw.1.cell HR.out; go_simp <;> first | omega | rfl⟩) h0 ?_
            try dsimp [Act.put]
            try simp only [List.setIfInBounds_toArray, List.set_cons_succ, List.set_cons_zero]
            refine wpAnyH_take (i := 4) (v := (.pointer (some ⟨w.heap.size, k * 5 + 2, none⟩))) rfl (by kernel_rfl) (by kernel_rfl) (by kernel_rfl) (fun _ _ _ h => h) (Or.inl ⟨by rfl, fun w' hSw => by obtain ⟨s0, s1, s2, s3, s4⟩ := hSw.1.cell HR.out; go_simp <;> first | omega | rfl⟩) h0 ?_
            try dsimp [Act.put]
            try simp only [List.setIfInBounds_toArray, List.set_cons_succ, List.set_cons_zero]
            refine wpAnyH_take (i := 5) (v := .string (bs r.want)) rfl (by kernel_rfl) (by kernel_rfl) (by kernel_rfl) (fun _ _ _ h => h) (Or.inl ⟨by rfl, fun w' hSw => by obtain ⟨s0, s1, s2, s3, s4⟩ := hSw.1.cell HR.out; go_simp <;> first | omega | rfl⟩) h0 ?_
            try dsimp [Act.put]
            try simp only [List.setIfInBounds_toArray, List.set_cons_succ, List.set_cons_zero]
            refine wpAnyH_take (i := 6) (v := .bool false) rfl (by kernel_rfl) (by kernel_rfl) (by kernel_rfl) (fun _ _ _ h => h) (Or.inl ⟨by rfl, fun w' hSw => by obtain ⟨s0, s1, s2, s3, s4⟩ := hSw.1.cell HR.out; go_simp <;> first | omega | rfl⟩) h0 ?_
            try dsimp [Act.put]
            try simp only [List.setIfInBounds_toArray, List.set_cons_succ, List.set_cons_zero]
            refine wpAnyH_take (i := 7) (v := .bool false) rfl (by kernel_rfl) (by kernel_rfl) (by kernel_rfl) (fun _ _ _ h => h) (Or.inl ⟨by rfl, fun w' hSw => by obtain ⟨s0, s1, s2, s3, s4⟩ := hSw.1.cell HR.out; go_simp <;> first | omega | rfl⟩) h0 ?_
            try dsimp [Act.put]
            try simp only [List.setIfInBounds_toArray, List.set_cons_succ, List.set_cons_zero]
            refine wpAnyH_take (i := 8) (v := er) rfl (by kernel_rfl) (by kernel_rfl) (by kernel_rfl) (fun _ _ _ h => h) (Or.inl ⟨by rfl, fun w' hSw => by obtain ⟨s0, s1, s2, s3, s4⟩ := hSw.1.cell HR.out; go_simp <;> first | omega | rfl⟩) h0 ?_
            try dsimp [Act.put]
            try simp only [List.setIfInBounds_toArray, List.set_cons_succ, List.set_cons_zero]
            refine wpAnyH_take (i := 9) (v := .slice (some ⟨w.heap.size, 0, none⟩) 28 28) rfl (by kernel_rfl) (by kernel_rfl) (by kernel_rfl) (fun _ _ _ h => h) (Or.inl ⟨by rfl, fun w' hSw => by obtain ⟨s0, s1, s2, s3, s4⟩ := hSw.1.cell HR.out; go_simp <;> first | omega | rfl⟩) h0 ?_
            try dsimp [Act.put]
            try simp only [List.setIfInBounds_toArray, List.set_cons_succ, List.set_cons_zero]
            refine wpAnyH_take (i := 10) (v := .int .i64 k) rfl (by kernel_rfl) (by kernel_rfl) (by kernel_rfl) (fun _ _ _ h => h) (Or.inl ⟨by rfl, fun w' hSw => by obtain ⟨s0, s1, s2, s3, s4⟩ := hSw.1.cell HR.out; go_simp <;> first | omega | rfl⟩) h0 ?_
            try dsimp [Act.put]
            try simp only [List.setIfInBounds_toArray, List.set_cons_succ, List.set_cons_zero]
            refine wpAnyH_take (i := 11) (v := (.pointer (some ⟨w.heap.size, k * 5, none⟩))) rfl (by kernel_rfl) (by kernel_rfl) (by kernel_rfl) (fun _ _ _ h => h) (Or.inl ⟨by rfl, fun w' hSw => by obtain ⟨s0, s1, s2, s3, s4⟩ := hSw.1.cell HR.out; go_simp <;> first | omega | rfl⟩) h0 ?_
            try dsimp [Act.put]
            try simp only [List.setIfInBounds_toArray, List.set_cons_succ, List.set_cons_zero]
            refine wpAnyH_take (i := 12) (v := (.pointer (some ⟨w.heap.size, k * 5 + 3, none⟩))) rfl (by kernel_rfl) (by kernel_rfl) (by kernel_rfl) (fun _ _ _ h => h) (Or.inl ⟨by rfl, fun w' hSw => by obtain ⟨s0, s1, s2, s3, s4⟩ := hSw.1.cell HR.out; go_simp <;> first | omega | rfl⟩) h0 ?_
            try dsimp [Act.put]
            try simp only [List.setIfInBounds_toArray, List.set_cons_succ, List.set_cons_zero]
            refine wpAnyH_take (i := 13) (v := .int .i64 r.no) rfl (by kernel_rfl) (by kernel_rfl) (by kernel_rfl) (fun _ _ _ h => h) (Or.inl ⟨by rfl, fun w' hSw => by obtain ⟨s0, s1, s2, s3, s4⟩ := hSw.1.cell HR.out; go_simp <;> first | omega | rfl⟩) h0 ?_
            try dsimp [Act.put]
            try simp only [List.setIfInBounds_toArray, List.set_cons_succ, List.set_cons_zero]
            refine wpAnyH_ready (rs := [14]) (by kernel_rfl) (by simp) ?_
            refine AllReadyH.cons rfl ?_ AllReadyH.nil
            intro K' hK
            rw [if_pos (by rfl)]
            go_simp
            rw [← her]
            refine (plain_any r.no hno _ (HG.out _ h0.1.all)).mono ?_
            rintro e w6 ⟨rfl, hb6⟩
            rw [her]
            have hz0 : w.heap.size + 1 ≤ wd.heap.size := by have := h0.1.bel.size; simpa using this
            have h6 : Tab8 w w6 ∧ Below wc.heap.size wc w6 := ⟨h0.1.below (hb6.mono hz0), below_join h0.2 hb6⟩
            refine hK.out _ _ h6 (fun _ => ?_)
            try dsimp [Act.put]
            try simp only [List.setIfInBounds_toArray, List.set_cons_succ, List.set_cons_zero]
            refine wpAnyH_take (i := 15) (v := .bool false) rfl (by kernel_rfl) (by kernel_rfl) (by kernel_rfl) (fun _ _ _ h => h) (Or.inl ⟨by rfl, fun w' hSw => by obtain ⟨s0, s1, s2, s3, s4⟩ := hSw.1.cell HR.out; go_simp <;> first | omega | rfl⟩) h6 ?_
            try dsimp [Act.put]
            try simp only [List.setIfInBounds_toArray, List.set_cons_succ, List.set_cons_zero]
            refine wpAnyH_take (i := 16) (v := .bool false) rfl (by kernel_rfl) (by kernel_rfl) (by kernel_rfl) (fun _ _ _ h => h) (Or.inl ⟨by rfl, fun w' hSw => by obtain ⟨s0, s1, s2, s3, s4⟩ := hSw.1.cell HR.out; go_simp <;> first | omega | rfl⟩) h6 ?_
            try dsimp [Act.put]
            try simp only [List.setIfInBounds_toArray, List.set_cons_succ, List.set_cons_zero]
            refine wpAnyH_take (i := 17) (v := .bool false) rfl (by kernel_rfl) (by kernel_rfl) (by kernel_rfl) (fun _ _ _ h => h) (Or.inl ⟨by rfl, fun w' hSw => by obtain ⟨s0, s1, s2, s3, s4⟩ := hSw.1.cell HR.out; go_simp <;> first | omega | rfl⟩) h6 ?_
            try dsimp [Act.put]
            try simp only [List.setIfInBounds_toArray, List.set_cons_succ, List.set_cons_zero]
            refine wpAnyH_take (i := 18) (v := .pointer (some ⟨tb, 0, none⟩)) rfl (by kernel_rfl) (by kernel_rfl) (by kernel_rfl) (fun _ _ _ h => h) (Or.inl ⟨by rfl, fun w' hSw => by obtain ⟨s0, s1, s2, s3, s4⟩ := hSw.1.cell HR.out; go_simp <;> first | omega | rfl⟩) h6 ?_
            try dsimp [Act.put]
            try simp only [List.setIfInBounds_toArray, List.set_cons_succ, List.set_cons_zero]
            refine wpAnyH_take (i := 21) (v := .slice (some ⟨w.heap.size, 0, none⟩) 28 28) rfl (by kernel_rfl) (by kernel_rfl) (by kernel_rfl) (fun _ _ _ h => h) (Or.inl ⟨by rfl, fun w' hSw => by obtain ⟨s0, s1, s2, s3, s4⟩ := hSw.1.cell HR.out; go_simp <;> first | omega | rfl⟩) h6 ?_
            try dsimp [Act.put]
            try simp only [List.setIfInBounds_toArray, List.set_cons_succ, List.set_cons_zero]
            refine wpAnyH_take (i := 22) (v := .int .i64 k) rfl (by kernel_rfl) (by kernel_rfl) (by kernel_rfl) (fun _ _ _ h => h) (Or.inl ⟨by rfl, fun w' hSw => by obtain ⟨s0, s1, s2, s3, s4⟩ := hSw.1.cell HR.out; go_simp <;> first | omega | rfl⟩) h6 ?_
            try dsimp [Act.put]
            try simp only [List.setIfInBounds_toArray, List.set_cons_succ, List.set_cons_zero]
            refine wpAnyH_take (i := 23) (v := (.pointer (some ⟨w.heap.size, k * 5, none⟩))) rfl (by kernel_rfl) (by kernel_rfl) (by kernel_rfl) (fun _ _ _ h => h) (Or.inl ⟨by rfl, fun w' hSw => by obtain ⟨s0, s1, s2, s3, s4⟩ := hSw.1.cell HR.out; go_simp <;> first | omega | rfl⟩) h6 ?_
            try dsimp [Act.put]
            try simp only [List.setIfInBounds_toArray, List.set_cons_succ, List.set_cons_zero]
            refine wpAnyH_take (i := 24) (v := (.pointer (some ⟨w.heap.size, k * 5 + 4, none⟩))) rfl (by kernel_rfl) (by kernel_rfl) (by kernel_rfl) (fun _ _ _ h => h) (Or.inl ⟨by rfl, fun w' hSw => by obtain ⟨s0, s1, s2, s3, s4⟩ := hSw.1.cell HR.out; go_simp <;> first | omega | rfl⟩) h6 ?_
            try dsimp [Act.put]
            try simp only [List.setIfInBounds_toArray, List.set_cons_succ, List.set_cons_zero]
            refine wpAnyH_take (i := 25) (v := .int .i64 r.n) rfl (by kernel_rfl) (by kernel_rfl) (by kernel_rfl) (fun _ _ _ h => h) (Or.inl ⟨by rfl, fun w' hSw => by obtain ⟨s0, s1, s2, s3, s4⟩ := hSw.1.cell HR.out; go_simp <;> first | omega | rfl⟩) h6 ?_
            try dsimp [Act.put]
            try simp only [List.setIfInBounds_toArray, List.set_cons_succ, List.set_cons_zero]
            refine wpAnyH_ready (rs := [19]) (by kernel_rfl) (by simp) ?_
            refine AllReadyH.cons rfl ?_ AllReadyH.nil
            intro K' hK
            rw [if_pos (by rfl)]
            go_simp
            refine (list_p tb tbase F5 L' _ (HT5.out.below h6.2)).mono ?_
            rintro e w7 ⟨u7, rfl, hu7, hb7⟩
            obtain ⟨z1, z2, z3, z4, rfl, _⟩ := ents_of_owns hu7
            rw [r5]
            have hz6 : w.heap.size + 1 ≤ w6.heap.size := by have := h6.1.bel.size; simpa using this
            have h7 : Tab8 w w7 ∧ Below wc.heap.size wc w7 := ⟨h6.1.below (hb7.mono hz6), below_join h6.2 hb7⟩
            refine hK.out _ _ h7 (fun _ => ?_)
            try dsimp [Act.put]
            try simp only [List.setIfInBounds_toArray, List.set_cons_succ, List.set_cons_zero]
            refine wpAnyH_take (i := 20) (v := .int .i64 r.n) rfl (by kernel_rfl) (by kernel_rfl) (by kernel_rfl) (fun _ _ _ h => h) (Or.inl ⟨by rfl, fun w' hSw => by obtain ⟨s0, s1, s2, s3, s4⟩ := hSw.1.cell HR.out; go_simp <;> first | omega | rfl⟩) h7 ?_
            try dsimp [Act.put]
            try simp only [List.setIfInBounds_toArray, List.set_cons_succ, List.set_cons_zero]
            refine wpAnyH_take (i := 26) (v := .bool false) rfl (by kernel_rfl) (by kernel_rfl) (by kernel_rfl) (fun _ _ _ h => h) (Or.inl ⟨by rfl, fun w' hSw => by obtain ⟨s0, s1, s2, s3, s4⟩ := hSw.1.cell HR.out; go_simp <;> first | omega | rfl⟩) h7 ?_
            try dsimp [Act.put]
            try simp only [List.setIfInBounds_toArray, List.set_cons_succ, List.set_cons_zero]
            refine wpAnyH_take (i := 27) (v := .bool false) rfl (by kernel_rfl) (by kernel_rfl) (by kernel_rfl) (fun _ _ _ h => h) (Or.inl ⟨by rfl, fun w' hSw => by obtain ⟨s0, s1, s2, s3, s4⟩ := hSw.1.cell HR.out; go_simp <;> first | omega | rfl⟩) h7 ?_
            try dsimp [Act.put]
            try simp only [List.setIfInBounds_toArray, List.set_cons_succ, List.set_cons_zero]
            refine wpAnyH_done (by kernel_rfl) ?_ _
            refine NoPanic.normal ?_
            go_wp2
            go_meet
            exact ⟨rfl, h7.1⟩
          case rest =>
            obtain ⟨rfl, T6⟩ := hcut
            clear T5 HT5
            go_wp2
            go_roundw
            case rel => exact ⟨k + 1, by go_num, by omega, T6⟩
            case measure => simp [intOf]; omega
      · have hge : ¬ (k : Int) < 28 := by omega
        go_wp2_with fail
        refine (world_p _).mono ?_
        rintro e w2 ⟨rfl, hb2, hE2⟩
        have T2 := HT.out.below (hb2.mono (by have := HT.out.bel.size; simpa using this))
        clear HT
        go_wp2_with fail
        refine (ofl_ok _ (worldL.map EntL.e) w2 (HG.out _ T2.all) hE2 (by decide) (by decide) world_tree).mono ?_
        rintro e w3 ⟨hb3, tb, tbase, F, rfl, hq3, hT3⟩
        have HB3 := below_join T2.all hb3
        clear hE2 hb2 hb3 T2 hq3
        go_wp2_with fail
        have hTr := trail_ok (bs [108, 47, 103]) (worldL.map EntL.e) w3 hT3 (by decide) trail_known.1
        rw [trail_known.2] at hTr
        refine hTr.mono ?_
        rintro e w4 ⟨v4, rfl, hv4, hb4⟩
        have HB4 := below_join HB3 hb4
        have HX4 : Hid (Tx.TextsAt w4 v4 (trailK.map bs)) := Tx.TextsAt.own hv4
        clear hTr hb4 hv4 HB3 hT3
        go_wp2_with fail
        have hbl : Below w4.heap.size w4 (w4.alloc (.cells (Tx.strs (trailK.map bs)).toArray 9)) := (Below.refl _ _).alloc (Nat.le_refl _) _
        have hlit : Tx.TextsAt (w4.alloc (.cells (Tx.strs (trailK.map bs)).toArray 9)) (.slice (some ⟨w4.heap.size, 0, none⟩) 7 7) (trailK.map bs) := Tx.TextsAt.own (B := w4.heap.size) ⟨rfl, .inr ⟨w4.heap.size, 7, (Tx.strs (trailK.map bs)).toArray, rfl, Nat.le_refl _, World.alloc_heap_new w4 _, Nat.le_refl _, by unfold maxLen; decide, rfl, rfl⟩⟩
        refine (Tx.same_p (trailK.map bs) (trailK.map bs) _ _ _ (HX4.out.below hbl) hlit (by decide) rfl).mono ?_
        rintro e w5 ⟨rfl, hb5⟩
        go_wp2
        go_ret
        exact ⟨rfl, below_join (below_join HB4 hbl) hb5⟩
end Go.Proofs.YtcefgnjgcnboeaaGreatDoor
