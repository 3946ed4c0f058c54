/- Where Make and Place come to, and what they leave; nothing of a program. -/
import Derived.Test.YtcefgnjgcnboeaaGreatDoorLeadW
import Derived.Test.YtcefgnjgcnboeaaGreatDoorPlain
import Derived.Test.YtcefgnjgcnboeaaGreatDoorMakeP

namespace Go.Proofs.YtcefgnjgcnboeaaGreatDoor
open Go Go.RowKit

variable {tb tbase : Nat} {F : Pic}
/-- What Find comes to. -/
def findR (L : List Ent) (way : ByteArray) (last : Bool) : Int × St × List ByteArray := goN ⟨0, false, !last⟩ (start L way)
set_option maxRecDepth 100000 in
theorem find_p (last : Bool) (way : ByteArray) (L : List Ent) (w : World) (h : TreeOf w tb tbase F L) (hw : way.size ≤ 1099511627776) :
    Calls Tryz.prog 21 #[.pointer (some ⟨tb, 0, none⟩), .string way, .bool last] w fun e w' =>
      e = .returned (.tuple #[.string (ansB (findR L way last)), errE (findR L way last).1]) ∧ Below w.heap.size w w' := by
  have hL := lead_ref (!last) way L w h hw
  go_enter Tryz.func21, Tryz.ntmps21
  go_wp2_with (go_at_call 29; refine hL.mono ?_; rintro e w1 ⟨rfl, hb1⟩)
  go_ret2
  exact ⟨rfl, hb1⟩
set_option maxRecDepth 100000 in
theorem of_t (v : Value) (es : List Ent) (w : World) (hg : ErrType w) (hv : EntsAt w v es) (hl : es.length ≤ 4611686018427387904) (hp : ∀ e ∈ es, e.path.size < 1152921504606846976) (hc : (checkGo [] es).1 = 0) :
    Calls Tryz.prog 18 #[v] w fun e w' => Below w.heap.size w w' ∧ ∃ tb F, e = .returned (.tuple #[.pointer (some ⟨tb, 0, none⟩), .nilIface]) ∧ TreeOf w' tb w.heap.size F es := by
  have hG := grow_p v es w hg hv hl hp
  have HC : Hid ((checkGo [] es).1 = 0) := hc
  clear hc
  go_enter Tryz.func18, Tryz.ntmps18
  go_wp2_with (go_at_call 35; refine hG.mono ?_; rintro e w1 ⟨hb, h1⟩; obtain ⟨_, tb, F, rfl, hT⟩ := h1.resolve_right (fun h => h.1 HC.out))
  go_ret2
  exact ⟨hb, tb, F, rfl, hT⟩
set_option maxRecDepth 100000 in
theorem of_e (v : Value) (es : List Ent) (w : World) (hg : ErrType w) (hv : EntsAt w v es) (hl : es.length ≤ 4611686018427387904) (hp : ∀ e ∈ es, e.path.size < 1152921504606846976) (hc : (checkGo [] es).1 ≠ 0) :
    Calls Tryz.prog 18 #[v] w fun e w' => Below w.heap.size w w' ∧ e = .returned (.tuple #[.pointer none, fltA (checkGo [] es).1 (checkGo [] es).2]) := by
  have hG := grow_p v es w hg hv hl hp
  have HC : Hid ((checkGo [] es).1 ≠ 0) := hc
  clear hc
  go_enter Tryz.func18, Tryz.ntmps18
  go_wp2_with (go_at_call 35; refine hG.mono ?_; rintro e w1 ⟨hb, h1⟩; obtain ⟨_, rfl⟩ := h1.resolve_left (fun h => HC.out h.1))
  go_ret2
  exact ⟨hb, rfl⟩
set_option maxRecDepth 100000 in
/-- The statements' own: a copy, made a tree. -/
theorem ofl_ok (v : Value) (es : List Ent) (w : World) (hg : ErrType w) (hv : EntsAt w v es) (hl : es.length ≤ 1073741824) (hp : ∀ e ∈ es, e.path.size < 1152921504606846976) (hc : (checkGo [] es).1 = 0) :
    Calls Tryz.prog 6 #[v] w fun e w' => Below w.heap.size w w' ∧ ∃ tb tbase F, e = .returned (.tuple #[.pointer (some ⟨tb, 0, none⟩), .bool true]) ∧ w.heap.size ≤ tbase ∧ TreeOf w' tb tbase F es := by
  have hC := copy_p v es w hv hl
  go_enter Tryz.func6, Tryz.ntmps6
  go_wp2_with (first | (go_at_call 19; refine hC.mono ?_; rintro e w1 ⟨u, rfl, hu, hb1⟩) | (go_at_call 18; refine (of_t u es _ (hg.below hb1) (ents_of_owns hu) (by omega) hp hc).mono ?_; rintro e w2 ⟨hb2, tb, F, rfl, hT⟩))
  go_ret2
  exact ⟨below_join hb1 hb2, tb, _, F, rfl, hb1.size, hT⟩
set_option maxRecDepth 100000 in
theorem ofl_no (v : Value) (es : List Ent) (w : World) (hg : ErrType w) (hv : EntsAt w v es) (hl : es.length ≤ 1073741824) (hp : ∀ e ∈ es, e.path.size < 1152921504606846976) (hc : (checkGo [] es).1 ≠ 0) :
    Calls Tryz.prog 6 #[v] w fun e w' => Below w.heap.size w w' ∧ e = .returned (.tuple #[.pointer none, .bool false]) := by
  have hC := copy_p v es w hv hl
  have hE := fun u W h1 h2 => of_e u es W h1 h2 (by omega) hp hc
  unfold fltA at hE
  go_enter Tryz.func6, Tryz.ntmps6
  go_wp2_with (first | (go_at_call 19; refine hC.mono ?_; rintro e w1 ⟨u, rfl, hu, hb1⟩) | (go_at_call 18; refine (hE u _ (hg.below hb1) (ents_of_owns hu)).mono ?_; rintro e w2 ⟨hb2, rfl⟩))
  go_ret2
  exact ⟨below_join hb1 hb2, rfl⟩
end Go.Proofs.YtcefgnjgcnboeaaGreatDoor

namespace Go.Proofs.YtcefgnjgcnboeaaGreatDoor
open Go Go.RowKit

/-- What is there stays as it is. -/
def Ext (L L' : List Ent) : Prop := ∀ q e, getE L q = some e → getE L' q = some e
theorem Ext.refl (L : List Ent) : Ext L L := fun _ _ h => h
theorem Ext.trans {A B C : List Ent} (h : Ext A B) (k : Ext B C) : Ext A C := fun q e he => k q e (h q e he)
theorem get_laid {L : List Ent} {p : ByteArray} (hp : p.size ≠ 0) : getE (laidL L (dirE p)) p = some (dirE p) := by
  unfold getE
  rw [if_neg hp]
  exact find_laid (L := L) (e := dirE p)
theorem get_laid_other {L : List Ent} (ho : L.Pairwise ltE) {p q : ByteArray} (hq : q ≠ p) : getE (laidL L (dirE p)) q = getE L q := by
  unfold getE
  by_cases h0 : q.size = 0
  · rw [if_pos h0, if_pos h0]
  · rw [if_neg h0, if_neg h0]
    have hf : ∀ l : List Ent, (l.filter (notP p)).find? (pathIs q) = l.find? (pathIs q) := fun l => by
      rw [List.find?_filter]
      congr 1
      funext x
      cases hx : pathIs q x with
      | false => simp
      | true =>
        have h1 : notP p x = true := by
          unfold notP
          rw [Bool.not_eq_true', ← Bool.not_eq_true, pathIs_iff, pathIs_iff.1 hx]
          exact hq
        rw [h1]; rfl
    have h2 := but_laid ho (dirE p)
    rw [show (dirE p).path = p from rfl] at h2
    rw [← hf (laidL L (dirE p)), h2, hf]
theorem ext_laid {L : List Ent} (ho : L.Pairwise ltE) {p : ByteArray} (hg : getE L p = none) : Ext L (laidL L (dirE p)) := fun q e he => by
  have hq : q ≠ p := fun e' => by rw [e', hg] at he; cases he
  rw [get_laid_other ho hq]; exact he
abbrev mkM : Mn := ⟨1, true, false⟩
/-- A walk that follows all links and is told of no file at the end: it refuses none that Make takes. -/
def Like (m : Mn) : Prop := m.stay = false
/-- A step of Make that goes well, over any list that has what it leaves. -/
theorem mk_step {m : Mn} (hm : Like m) {st : St} {c : ByteArray} {rest : List ByteArray} {L' : List Ent} {md : List ByteArray} (ho : st.L.Pairwise ltE) (h0 : (stepN mkM st c rest).1 = 0) (hx : Ext (stepN mkM st c rest).2.L L') :
    stepN m { st with L := L', made := md } c rest = (0, { (stepN mkM st c rest).2 with L := L', made := md }) ∧ Ext st.L (stepN mkM st c rest).2.L ∧ (stepN mkM st c rest).2.L.Pairwise ltE := by
  unfold stepN at h0 hx ⊢
  by_cases h1 : c = dotB
  · simp only [if_pos h1] at h0 hx ⊢; exact ⟨trivial, Ext.refl _, ho⟩
  · simp only [if_neg h1] at h0 hx ⊢
    by_cases h2 : c = ddB
    · simp only [if_pos h2] at h0 hx ⊢; exact ⟨trivial, Ext.refl _, ho⟩
    · simp only [if_neg h2] at h0 hx ⊢
      cases hg : getE st.L (joinB st.here c) with
      | none =>
        rw [hg] at h0 hx
        simp only [absN, layS] at h0 hx ⊢
        have hp : (joinB st.here c).size ≠ 0 := (check_facts (wrong_check (putAll_wrong h0))).1
        have hL := hx _ _ (get_laid (L := st.L) hp)
        rw [hL]
        refine ⟨?_, ext_laid ho hg, laid_order ho _⟩
        have i1 : isFile m (dirE (joinB st.here c)) rest = false := rfl
        have i2 : isLink m (dirE (joinB st.here c)) rest = false := rfl
        simp only [thereN]
        rw [if_neg (by rw [i1]; simp), if_neg (by rw [i2]; simp)]
      | some e =>
        rw [hg] at h0 hx
        simp only at h0 hx ⊢
        have hxL : Ext st.L L' := by
          intro q z hz
          refine hx q z ?_
          unfold thereN
          split
          · exact hz
          · split
            · unfold linkS
              split
              · exact hz
              · exact hz
            · exact hz
        rw [hxL _ _ hg]
        simp only
        unfold thereN at h0 ⊢
        by_cases h3 : isFile mkM e rest = true
        · rw [if_pos h3] at h0; simp at h0
        · have h3' : ¬ isFile m e rest = true := by
            intro h
            apply h3
            unfold isFile at h ⊢
            simp at h ⊢
            exact h.1
          rw [if_neg h3] at h0 ⊢
          rw [if_neg h3']
          have h4' : isLink m e rest = isLink mkM e rest := by unfold isLink; rw [show m.stay = false from hm]
          rw [h4']
          by_cases h4 : isLink mkM e rest = true
          · rw [if_pos h4] at h0 ⊢
            rw [if_pos h4]
            unfold linkS at h0 ⊢
            by_cases h5 : st.hops = 40
            · rw [if_pos h5] at h0; simp at h0
            · simp only [if_neg h5]; exact ⟨trivial, Ext.refl _, ho⟩
          · rw [if_neg h4, if_neg h4]; exact ⟨rfl, Ext.refl _, ho⟩
/-- The whole walk. -/
theorem mk_go {m : Mn} (hm : Like m) : ∀ (f : Nat) (st : St) (md : List ByteArray), st.L.Pairwise ltE → (goF mkM f st).1 = 0 →
    Ext st.L (goF mkM f st).2.1.L ∧ (goF m f { st with L := (goF mkM f st).2.1.L, made := md }).1 = 0 ∧ (goF m f { st with L := (goF mkM f st).2.1.L, made := md }).2.1 = { (goF mkM f st).2.1 with made := md }
  | 0, st, md, ho, h0 => ⟨Ext.refl _, rfl, rfl⟩
  | f + 1, st, md, ho, h0 => by
    by_cases hl : st.left = []
    · have e1 := goF_nil (m := mkM) (f := f + 1) hl
      have e2 := goF_nil (m := m) (f := f + 1) (st := { st with L := st.L, made := md }) hl
      rw [e1]
      refine ⟨Ext.refl _, ?_, ?_⟩
      · exact congrArg (·.1) e2
      · exact congrArg (·.2.1) e2
    · obtain ⟨c, rest, hl⟩ := List.exists_cons_of_ne_nil hl
      by_cases h1 : (stepN mkM st c rest).1 = 0
      · rw [goF_ok hl h1] at h0 ⊢
        have hs0 := mk_step hm (L' := (stepN mkM st c rest).2.L) (md := md) ho h1 (Ext.refl _)
        obtain ⟨e1, e2, e3⟩ := mk_go hm f (stepN mkM st c rest).2 md hs0.2.2 h0
        have hs := mk_step hm (md := md) ho h1 e1
        have hs1 : (stepN m { st with L := (goF mkM f (stepN mkM st c rest).2).2.1.L, made := md } c rest).1 = 0 := by rw [hs.1]
        refine ⟨hs0.2.1.trans e1, ?_⟩
        simp only
        rw [goF_ok (by exact hl) hs1, hs.1]
        exact ⟨e2, e3⟩
      · rw [goF_err hl h1] at h0
        exact absurd h0 h1
/-- Behind a Make that goes well: Find and Make of the same way answer the same, and what was there is there. -/
theorem make_again {L : List Ent} {way : ByteArray} (ho : L.Pairwise ltE) (h0 : (makeR L way).1 = 0) :
    Ext L (treeB L (makeR L way)) ∧ ((findR (treeB L (makeR L way)) way true).1 = 0 ∧ ansB (findR (treeB L (makeR L way)) way true) = ansB (makeR L way)) ∧
    ((makeR (treeB L (makeR L way)) way).1 = 0 ∧ ansB (makeR (treeB L (makeR L way)) way) = ansB (makeR L way) ∧ treeB (treeB L (makeR L way)) (makeR (treeB L (makeR L way)) way) = treeB L (makeR L way)) := by
  have ht : treeB L (makeR L way) = (goF mkM (msr (start L way) + 1) (start L way)).2.1.L := if_pos h0
  have ha : ansB (makeR L way) = (goF mkM (msr (start L way) + 1) (start L way)).2.1.here := if_pos h0
  obtain ⟨x1, x2, x3⟩ := mk_go (m := ⟨0, false, false⟩) rfl (msr (start L way) + 1) (start L way) [] ho h0
  obtain ⟨_, y2, y3⟩ := mk_go (m := mkM) rfl (msr (start L way) + 1) (start L way) [] ho h0
  rw [ht, ha]
  have z2 : (findR (goF mkM (msr (start L way) + 1) (start L way)).2.1.L way true).1 = 0 := x2
  have w2 : (makeR (goF mkM (msr (start L way) + 1) (start L way)).2.1.L way).1 = 0 := y2
  have z3 : (findR (goF mkM (msr (start L way) + 1) (start L way)).2.1.L way true).2.1 = { (goF mkM (msr (start L way) + 1) (start L way)).2.1 with made := [] } := x3
  have w3 : (makeR (goF mkM (msr (start L way) + 1) (start L way)).2.1.L way).2.1 = { (goF mkM (msr (start L way) + 1) (start L way)).2.1 with made := [] } := y3
  refine ⟨x1, ⟨z2, ?_⟩, w2, ?_, ?_⟩
  · unfold ansB; rw [if_pos z2, z3]
  · unfold ansB; rw [if_pos w2, w3]
  · unfold treeB; rw [if_pos w2, w3]
end Go.Proofs.YtcefgnjgcnboeaaGreatDoor

namespace Go.Proofs.YtcefgnjgcnboeaaGreatDoor
open Go Go.RowKit

variable {W : World} {tb base : Nat} {F : Pic} {L : List Ent}
theorem get_of_mem (h : TreeOf W tb base F L) {e : Ent} (he : e ∈ L) : getE L e.path = some e := by
  have hf := h.says.full e he
  unfold getE
  rw [if_neg hf]
  rcases h.says.at_text hf with ⟨h1, _⟩ | ⟨x, h1, h2⟩
  · obtain ⟨x, hx, _⟩ := h.says.at' e he
    rw [hx] at h1; cases h1
  · obtain ⟨y, hy, hye⟩ := h.says.at' e he
    rw [hy] at h1; cases h1
    rw [h2, hye]
theorem kind_range {e : Ent} (h : wrongN e = 0) : e.kind = 1 ∨ e.kind = 2 ∨ e.kind = 3 := by
  unfold wrongN at h
  split at h
  · omega
  · rename_i hh; omega
/-- What stands above an entry is a directory. -/
theorem tree_parent (h : TreeOf W tb base F L) {e : Ent} (he : e ∈ L) : (parentB e.path).size = 0 ∨ ∃ u ∈ L, u.path = parentB e.path ∧ u.kind = 1 := by
  by_cases hz : (parentB e.path).size = 0
  · exact .inl hz
  · right
    obtain ⟨x, hx, _⟩ := h.says.at' e he
    have hsp := names_split (wrong_check (h.right e he))
    obtain ⟨u, hu⟩ : ∃ u, F (namesP (parentB e.path)) = some u := by
      cases hq : F (namesP (parentB e.path)) with
      | some u => exact ⟨u, rfl⟩
      | none =>
        have := h.says.gone _ (un (lastB e.path)) hq
        rw [hsp, hx] at this; cases this
    have huk : u.e.kind = 1 := by
      by_cases hk : u.e.kind = 1
      · exact hk
      · have hm := (h.at'.kinds _ u hu).2 hk
        have := h.at'.tree.leaf _ u (un (lastB e.path)) hu hm
        rw [hsp, hx] at this; cases this
    obtain ⟨hu1, hu2⟩ := h.says.of' _ u (names_ne hz) hu
    exact ⟨u.e, hu1, names_inj (h.says.full _ hu1) hz hu2, huk⟩
theorem size_zero {p : ByteArray} (h : p.size = 0) : p = ⟨#[]⟩ := un_inj (by
  have : (un p).length = 0 := by rw [un_length]; exact h
  rw [List.eq_nil_of_length_eq_zero this]; rfl)
theorem parent_root : parentB ⟨#[]⟩ = ⟨#[]⟩ := size_zero (Nat.le_zero.1 (parentB_size ⟨#[]⟩))
/-- Where the walk stands. -/
def Inv (L : List Ent) (m : Mn) (st : St) : Prop := st.L = L ∧ (st.here = ⟨#[]⟩ ∨ ∃ e, getE L st.here = some e ∧ (st.left ≠ [] → e.kind = 1) ∧ (e.kind = 3 → m.stay = true))
theorem inv_step (h : TreeOf W tb base F L) {m : Mn} {st : St} {c : ByteArray} {rest : List ByteArray} (hm : m.ab = 0) (hi : Inv L m st) (hl : st.left = c :: rest) (h0 : (stepN m st c rest).1 = 0) : Inv L m (stepN m st c rest).2 := by
  obtain ⟨hL, hh⟩ := hi
  have hne : st.left ≠ [] := by rw [hl]; simp
  have hdir : st.here = ⟨#[]⟩ ∨ ∃ e ∈ L, e.path = st.here ∧ e.kind = 1 := by
    rcases hh with hh | ⟨e, he, h1, _⟩
    · exact .inl hh
    · obtain ⟨m1, m2, _⟩ := get_mem he
      exact .inr ⟨e, m1, m2, h1 hne⟩
  unfold stepN at h0 ⊢
  split
  · refine ⟨hL, ?_⟩
    rcases hh with hh | ⟨e, he, h1, h2⟩
    · exact .inl hh
    · exact .inr ⟨e, he, fun _ => h1 hne, h2⟩
  · rename_i n1
    rw [if_neg n1] at h0
    split
    · refine ⟨hL, ?_⟩
      rcases hdir with hh | ⟨e, he, hp, hk⟩
      · left; show parentB st.here = _; rw [hh]; exact parent_root
      · rcases tree_parent h he with hz | ⟨u, hu, hup, huk⟩
        · left; show parentB st.here = _; rw [← hp]; exact size_zero hz
        · right
          refine ⟨u, ?_, fun _ => huk, fun hk3 => by omega⟩
          show getE L (parentB st.here) = _
          rw [← hp, ← hup]; exact get_of_mem h hu
    · rename_i n2
      rw [if_neg n2] at h0
      rw [hL] at h0 ⊢
      cases hg : getE L (joinB st.here c) with
      | none =>
        rw [hg] at h0
        simp only [absN, hm] at h0
        omega
      | some e =>
        rw [hg] at h0
        simp only at h0 ⊢
        obtain ⟨he, _, _⟩ := get_mem hg
        have hkr := kind_range (h.right e he)
        unfold thereN at h0 ⊢
        by_cases h3 : isFile m e rest = true
        · rw [if_pos h3] at h0; simp at h0
        · rw [if_neg h3] at h0 ⊢
          by_cases h4 : isLink m e rest = true
          · rw [if_pos h4] at h0 ⊢
            unfold linkS at h0 ⊢
            by_cases h5 : st.hops = 40
            · rw [if_pos h5] at h0; simp at h0
            · rw [if_neg h5]
              refine ⟨hL, ?_⟩
              by_cases hs : slashed e.link = true
              · left; show (if slashed e.link then _ else _) = _; rw [if_pos hs]
              · rw [show (if slashed e.link then (⟨#[]⟩ : ByteArray) else st.here) = st.here from if_neg hs]
                rcases hdir with hh | ⟨d, hd, hp, hk⟩
                · exact .inl hh
                · exact .inr ⟨d, by show getE L st.here = _; rw [← hp]; exact get_of_mem h hd, fun _ => hk, fun hk3 => by omega⟩
          · rw [if_neg h4]
            refine ⟨hL, .inr ⟨e, hg, fun hr => ?_, fun hk3 => ?_⟩⟩
            · have hr' : rest.isEmpty = false := by cases rest with | nil => exact absurd rfl hr | cons a b => rfl
              rcases hkr with hk | hk | hk
              · exact hk
              · exact absurd (by unfold isFile; rw [hk, hr']; simp) h3
              · exact absurd (by unfold isLink; rw [hk, hr']; simp) h4
            · cases hst : m.stay with
              | true => rfl
              | false => exact absurd (by unfold isLink; rw [hk3, hst]; simp) h4
theorem inv_go (h : TreeOf W tb base F L) {m : Mn} (hm : m.ab = 0) : ∀ (f : Nat) (st : St), Inv L m st → (goF m f st).1 = 0 → Inv L m (goF m f st).2.1
  | 0, st, hi, _ => hi
  | f + 1, st, hi, h0 => by
    cases hl : st.left with
    | nil => rw [goF_nil hl]; exact hi
    | cons c rest =>
      by_cases hs : (stepN m st c rest).1 = 0
      · rw [goF_ok hl hs] at h0 ⊢
        exact inv_go h hm f _ (inv_step h hm hi hl hs) h0
      · rw [goF_err hl hs] at h0
        exact absurd h0 hs
/-- The walk ends with all its pieces taken. -/
theorem go_left {m : Mn} {B : Nat} : ∀ (f : Nat) (st : St), Good B st → Right st.L → msr st < f → (goF m f st).1 = 0 → (goF m f st).2.1.left = []
  | 0, st, _, _, h, _ => by omega
  | f + 1, st, hg, hr, hf, h0 => by
    cases hl : st.left with
    | nil => rw [goF_nil hl]; exact hl
    | cons c rest =>
      by_cases hs : (stepN m st c rest).1 = 0
      · rw [goF_ok hl hs] at h0 ⊢
        obtain ⟨q1, q2⟩ := step_good hg hl hr hs
        have := (step_msr m st c rest hl (right_short hr) hg.hh hs).1
        exact go_left f _ q1 q2 (by omega) h0
      · rw [goF_err hl hs] at h0
        exact absurd h0 hs
theorem step_errs {m : Mn} {st : St} {c : ByteArray} {rest : List ByteArray} (hm : m.ab = 0) (h0 : (stepN m st c rest).1 ≠ 0) : (stepN m st c rest).1 = 10 ∨ (stepN m st c rest).1 = 13 ∨ (stepN m st c rest).1 = 12 := by
  unfold stepN at h0 ⊢
  split
  · rename_i h1; rw [if_pos h1] at h0; exact absurd rfl h0
  · rename_i h1
    rw [if_neg h1] at h0
    split
    · rename_i h2; rw [if_pos h2] at h0; exact absurd rfl h0
    · rename_i h2
      rw [if_neg h2] at h0
      cases hg : getE st.L (joinB st.here c) with
      | none => simp only [absN, hm]; exact .inl trivial
      | some e =>
        rw [hg] at h0
        simp only at h0 ⊢
        unfold thereN at h0 ⊢
        by_cases h3 : isFile m e rest = true
        · rw [if_pos h3]; exact .inr (.inl rfl)
        · rw [if_neg h3] at h0 ⊢
          by_cases h4 : isLink m e rest = true
          · rw [if_pos h4] at h0 ⊢
            unfold linkS at h0 ⊢
            by_cases h5 : st.hops = 40
            · rw [if_pos h5]; exact .inr (.inr rfl)
            · rw [if_neg h5] at h0; exact absurd rfl h0
          · rw [if_neg h4] at h0; exact absurd rfl h0
theorem go_errs {m : Mn} (hm : m.ab = 0) : ∀ (f : Nat) (st : St), (goF m f st).1 ≠ 0 → (goF m f st).1 = 10 ∨ (goF m f st).1 = 13 ∨ (goF m f st).1 = 12
  | 0, st, h => absurd rfl h
  | f + 1, st, h => by
    cases hl : st.left with
    | nil => rw [goF_nil hl] at h; exact absurd rfl h
    | cons c rest =>
      by_cases hs : (stepN m st c rest).1 = 0
      · rw [goF_ok hl hs] at h ⊢
        exact go_errs hm f _ h
      · rw [goF_err hl hs]
        exact step_errs hm hs
theorem name_facts {x : ByteArray} (h : nameN x = 0) : x.size ≠ 0 ∧ x ≠ dotB ∧ x ≠ ddB := by
  refine ⟨name_full h, fun e => ?_, fun e => ?_⟩
  · subst e
    unfold nameN at h
    simp only [toList_un] at h
    revert h; decide +kernel
  · subst e
    unfold nameN at h
    simp only [toList_un] at h
    revert h; decide +kernel
/-- A name behind a path. -/
theorem names_join {q y : ByteArray} (hy : (47 : UInt8) ∉ un y) (h0 : y.size ≠ 0) : namesP (joinB q y) = namesP q ++ [un y] ∧ (joinB q y).size ≠ 0 := by
  unfold joinB
  by_cases hq : q.size = 0
  · rw [if_pos ((isEmpty_iff q).2 hq)]
    refine ⟨?_, h0⟩
    unfold namesP
    rw [if_neg h0, if_pos hq, cut_noslash hy]; rfl
  · have hqe : q.toList.isEmpty = false := (isEmpty_false q).2 (by omega)
    rw [if_neg (by rw [hqe]; simp)]
    have hsz : (q ++ ⟨#[47]⟩ ++ y).size ≠ 0 := by rw [ByteArray.size_append, ByteArray.size_append]; omega
    refine ⟨?_, hsz⟩
    unfold namesP
    rw [if_neg hsz, if_neg hq, un_append, un_append, show un (ByteArray.mk #[47]) = [47] from rfl, List.append_assoc, show [47] ++ un y = 47 :: un y from rfl, cut_append, cut_noslash hy]
theorem cut_mem_noslash (l : List UInt8) : ∀ x ∈ cutL l, (47 : UInt8) ∉ x := by
  induction l with
  | nil => simp [cutL]
  | cons c l ih =>
    intro x hx
    unfold cutL at hx
    split at hx
    · rcases List.mem_cons.1 hx with rfl | hx
      · simp
      · exact ih x hx
    · rename_i hc
      have hne := cutL_ne l
      rcases hcl : cutL l with _ | ⟨y, ys⟩
      · exact absurd hcl hne
      · rw [hcl] at hx ih
        simp only [List.headD_cons, List.tail_cons] at hx
        rcases List.mem_cons.1 hx with rfl | hx
        · intro hm
          rcases List.mem_cons.1 hm with h1 | h1
          · exact hc (by rw [← h1]; rfl)
          · exact ih y (by simp) h1
        · exact ih x (by simp [hx])
/-- A path lies at these names. -/
def AtN (F : Pic) (ns : List (List UInt8)) (q : ByteArray) : Prop := namesP q = ns ∧ (q = ⟨#[]⟩ ∨ ∃ x, F ns = some x ∧ x.e.path = q)
/-- Down the names of a tree one comes to what lies there. -/
theorem way_down (h : TreeOf W tb base F L) {m : Mn} {z : Nd} (hops : Nat) (made : List ByteArray) : ∀ (rest : List ByteArray) (ns : List (List UInt8)) (q : ByteArray) (f : Nat), namesP q = ns → F (ns ++ rest.map un) = some z → (∀ y ∈ rest, (47 : UInt8) ∉ un y ∧ y.size ≠ 0 ∧ y ≠ dotB ∧ y ≠ ddB) → (z.e.kind = 2 → m.dirs = false) → (z.e.kind = 3 → m.stay = true) → rest.length < f →
    ∃ p tr, goF m f { L := L, here := q, left := rest, hops := hops, made := made } = (0, { L := L, here := p, left := [], hops := hops, made := made }, tr) ∧ namesP p = ns ++ rest.map un ∧ (rest ≠ [] → p.size ≠ 0) ∧ (rest = [] → p = q)
  | [], ns, q, f, hq, hz, _, _, _, _ => ⟨q, [], goF_nil rfl, by simpa using hq, fun h => absurd rfl h, fun _ => rfl⟩
  | y :: rest, ns, q, 0, _, _, _, _, _, hf => by simp at hf
  | y :: rest, ns, q, f + 1, hq, hz, hy, hfile, hlink, hf => by
    obtain ⟨y1, y2, y3, y4⟩ := hy y (by simp)
    obtain ⟨j1, j2⟩ := names_join (q := q) y1 y2
    rw [hq] at j1
    have hz' : F ((ns ++ [un y]) ++ rest.map un) = some z := by simpa using hz
    obtain ⟨x, hx⟩ : ∃ x, F (ns ++ [un y]) = some x := h.at'.tree.ahead hz'
    obtain ⟨x1, x2⟩ := h.says.of' _ x (by simp) hx
    have hp : x.e.path = joinB q y := names_inj (h.says.full _ x1) j2 (by rw [x2, j1])
    have hg : getE L (joinB q y) = some x.e := by rw [← hp]; exact get_of_mem h x1
    have hst : stepN m { L := L, here := q, left := y :: rest, hops := hops, made := made } y rest = (0, { L := L, here := joinB q y, left := rest, hops := hops, made := made }) := by
      unfold stepN
      rw [if_neg y3, if_neg y4]
      simp only [hg]
      have hkind : rest ≠ [] → x.e.kind = 1 := fun hr => by
        by_cases hk : x.e.kind = 1
        · exact hk
        · have hm := (h.at'.kinds _ x hx).2 hk
          rcases rest with _ | ⟨y', r'⟩
          · exact absurd rfl hr
          · have := h.at'.tree.leaf _ x (un y') hx hm
            have h2 := h.at'.tree.gone_all this (r'.map un)
            rw [show (ns ++ [un y] ++ [un y']) ++ r'.map un = (ns ++ [un y]) ++ (y' :: r').map un by simp] at h2
            rw [h2] at hz'; cases hz'
      have hxz : rest = [] → x = z := fun hr => by
        subst hr
        rw [List.map_nil, List.append_nil, hx] at hz'
        exact Option.some.inj hz'
      unfold thereN
      have f1 : isFile m x.e rest = false := by
        unfold isFile
        rcases rest with _ | ⟨y', r'⟩
        · by_cases hk : x.e.kind = 2
          · have := hxz rfl
            subst this
            rw [hfile hk]; simp
          · rw [show (x.e.kind == 2) = false by simpa using hk]; rfl
        · rw [hkind (by simp)]; rfl
      have f2 : isLink m x.e rest = false := by
        unfold isLink
        rcases rest with _ | ⟨y', r'⟩
        · by_cases hk : x.e.kind = 3
          · have := hxz rfl
            subst this
            rw [hlink hk]; simp
          · rw [show (x.e.kind == 3) = false by simpa using hk]; rfl
        · rw [hkind (by simp)]; rfl
      rw [if_neg (by rw [f1]; simp), if_neg (by rw [f2]; simp)]
    obtain ⟨p, tr, g1, g2, g3, g4⟩ := way_down h hops made rest (ns ++ [un y]) (joinB q y) f j1 hz' (fun v hv => hy v (by simp [hv])) hfile hlink (by simp at hf; omega)
    refine ⟨p, joinB q y :: tr, ?_, by rw [g2]; simp, fun _ => ?_, fun h => by cases h⟩
    · rw [goF_ok (c := y) (rest := rest) rfl (by rw [hst]), hst, g1]
    · by_cases hr : rest = []
      · rw [g4 hr]; exact j2
      · exact g3 hr
/-- A path of the tree leads to itself. -/
theorem find_self (h : TreeOf W tb base F L) {e : Ent} (he : e ∈ L) {stay : Bool} (hs : e.kind = 3 → stay = true) : (goN ⟨0, false, stay⟩ (start L e.path)).1 = 0 ∧ (goN ⟨0, false, stay⟩ (start L e.path)).2.1.here = e.path := by
  obtain ⟨z, hz, hze⟩ := h.says.at' e he
  obtain ⟨c1, c2, c3⟩ := check_facts (wrong_check (h.right e he))
  have hnm : namesB e.path = (namesP e.path).map bs := by
    unfold namesB
    rw [← pieces_names c1]
    refine List.filter_eq_self.2 (fun x hx => ?_)
    unfold full
    rw [(isEmpty_false x).2 (by have := name_full (c3 x hx); omega)]; rfl
  have hun : (namesB e.path).map un = namesP e.path := by rw [hnm, List.map_map]; simp [Function.comp_def, un_bs]
  obtain ⟨p, tr, g1, g2, g3, _⟩ := way_down (m := ⟨0, false, stay⟩) h 0 [] (namesB e.path) [] ⟨#[]⟩ (msr (start L e.path) + 1) rfl (by rw [hun]; exact hz)
    (fun y hy => by
      have hy' : y ∈ piecesB e.path := (List.mem_filter.1 hy).1
      obtain ⟨n1, n2, n3⟩ := name_facts (c3 y hy')
      refine ⟨?_, n1, n2, n3⟩
      unfold piecesB at hy'
      obtain ⟨l, hl, rfl⟩ := List.mem_map.1 hy'
      rw [un_bs]
      exact cut_mem_noslash _ l hl) (fun _ => rfl) (fun hk => hs (by rw [← hze]; exact hk)) (by
      show (namesB e.path).length < (namesB e.path).length + 200 * (40 - 0) + 1; omega)
  have : goN ⟨0, false, stay⟩ (start L e.path) = _ := g1
  rw [this]
  refine ⟨rfl, ?_⟩
  have hp : p.size ≠ 0 := g3 (fun e0 => by
    have := names_ne c1
    rw [← hun, e0] at this
    exact this rfl)
  exact names_inj hp c1 (by rw [g2, hun]; rfl)
theorem find_root (L : List Ent) (stay : Bool) : (goN ⟨0, false, stay⟩ (start L ⟨#[]⟩)).1 = 0 ∧ (goN ⟨0, false, stay⟩ (start L ⟨#[]⟩)).2.1.here = ⟨#[]⟩ := by
  have hn : (start L ⟨#[]⟩).left = [] := by
    show namesB ⟨#[]⟩ = []
    simp only [namesB]; decide +kernel
  unfold goN
  rw [goF_nil hn]
  exact ⟨rfl, rfl⟩
end Go.Proofs.YtcefgnjgcnboeaaGreatDoor

namespace Go.Proofs.YtcefgnjgcnboeaaGreatDoor
open Go Go.RowKit

def ka : Ent := ⟨⟨#[97]⟩, 2, 420, ⟨#[]⟩, ⟨#[]⟩⟩
def kl : Ent := ⟨⟨#[108]⟩, 3, 511, ⟨#[]⟩, ⟨#[97]⟩⟩
theorem rp_a : piecesB ⟨#[97]⟩ = [⟨#[97]⟩] := by decide +kernel
theorem rp_l : piecesB ⟨#[108]⟩ = [⟨#[108]⟩] := by decide +kernel
theorem rp_x : piecesB ⟨#[120]⟩ = [⟨#[120]⟩] := by decide +kernel
theorem rc_a : checkN ⟨#[97]⟩ = 0 := by simp only [checkN, rp_a, toList_un, splitP, whiteoutB, joinB, nameN]; decide +kernel
theorem rc_l : checkN ⟨#[108]⟩ = 0 := by simp only [checkN, rp_l, toList_un, splitP, whiteoutB, joinB, nameN]; decide +kernel
theorem rw_a : wrongN ka = 0 := by simp only [wrongN, ka, rc_a, toList_un]; decide +kernel
theorem rw_l : wrongN kl = 0 := by simp only [wrongN, kl, rc_l, toList_un, targB]; decide +kernel
theorem ro_a : oneN [] ka = 0 := by simp only [oneN, rw_a]; decide +kernel
theorem ro_l : oneN [ka] kl = 0 := by simp only [oneN, rw_l]; decide +kernel
theorem rg_al : checkGo [] [ka, kl] = (0, 0) := by simp [checkGo, ro_a, ro_l]
theorem n_a : namesB ⟨#[97]⟩ = [⟨#[97]⟩] := by simp only [namesB, rp_a]; decide +kernel
theorem n_l : namesB ⟨#[108]⟩ = [⟨#[108]⟩] := by simp only [namesB, rp_l]; decide +kernel
theorem n_x : namesB ⟨#[120]⟩ = [⟨#[120]⟩] := by simp only [namesB, rp_x]; decide +kernel
theorem join_root (b : ByteArray) : joinB ⟨#[]⟩ b = b := by
  unfold joinB
  rw [if_pos (by rw [toList_un]; rfl)]
theorem g_a : getE [ka, kl] ⟨#[97]⟩ = some ka := by
  have h1 : pathIs ⟨#[97]⟩ ka = true := by decide +kernel
  unfold getE
  rw [if_neg (by decide)]
  simp [List.find?, h1]
theorem g_l : getE [ka, kl] ⟨#[108]⟩ = some kl := by
  have h1 : pathIs ⟨#[108]⟩ ka = false := by decide +kernel
  have h2 : pathIs ⟨#[108]⟩ kl = true := by decide +kernel
  unfold getE
  rw [if_neg (by decide)]
  simp [List.find?, h1, h2]
theorem g_x : getE [ka, kl] ⟨#[120]⟩ = none := by
  have h1 : pathIs ⟨#[120]⟩ ka = false := by decide +kernel
  have h2 : pathIs ⟨#[120]⟩ kl = false := by decide +kernel
  unfold getE
  rw [if_neg (by decide)]
  simp [List.find?, h1, h2]
theorem nd_a : (⟨#[97]⟩ : ByteArray) ≠ dotB ∧ (⟨#[97]⟩ : ByteArray) ≠ ddB := by decide
theorem nd_l : (⟨#[108]⟩ : ByteArray) ≠ dotB ∧ (⟨#[108]⟩ : ByteArray) ≠ ddB := by decide
theorem nd_x : (⟨#[120]⟩ : ByteArray) ≠ dotB ∧ (⟨#[120]⟩ : ByteArray) ≠ ddB := by decide
theorem step_name {m : Mn} {st : St} {c : ByteArray} {rest : List ByteArray} (h : c ≠ dotB ∧ c ≠ ddB) : stepN m st c rest = match getE st.L (joinB st.here c) with | none => absN m st (joinB st.here c) rest | some e => thereN m st (joinB st.here c) rest e := by
  unfold stepN; rw [if_neg h.1, if_neg h.2]; rfl
theorem k_l (s : Bool) : stepN ⟨0, false, s⟩ (start [ka, kl] ⟨#[108]⟩) ⟨#[108]⟩ [] = if s then (0, { L := [ka, kl], here := ⟨#[108]⟩, left := [], hops := 0, made := [] }) else (0, { L := [ka, kl], here := ⟨#[]⟩, left := [⟨#[97]⟩], hops := 1, made := [] }) := by
  rw [step_name nd_l]
  simp only [start, join_root, g_l]
  cases s with
  | true => rfl
  | false =>
    have hs : slashed kl.link = false := by decide +kernel
    simp only [thereN, isFile, isLink, linkS, kl] at hs ⊢
    simp [hs, n_a]
theorem k_a (s : Bool) : stepN ⟨0, false, s⟩ { L := [ka, kl], here := ⟨#[]⟩, left := [⟨#[97]⟩], hops := 1, made := [] } ⟨#[97]⟩ [] = (0, { L := [ka, kl], here := ⟨#[97]⟩, left := [], hops := 1, made := [] }) := by
  rw [step_name nd_a]
  simp only [join_root, g_a]
  rfl
theorem k_x (s : Bool) : stepN ⟨0, false, s⟩ (start [ka, kl] ⟨#[120]⟩) ⟨#[120]⟩ [] = (10, start [ka, kl] ⟨#[120]⟩) := by
  rw [step_name nd_x]
  simp only [start, join_root, g_x, absN]
theorem k_find_l : goN ⟨0, false, false⟩ (start [ka, kl] ⟨#[108]⟩) = (0, { L := [ka, kl], here := ⟨#[97]⟩, left := [], hops := 1, made := [] }, [⟨#[]⟩, ⟨#[97]⟩]) := by
  have h1 : (start [ka, kl] ⟨#[108]⟩).left = ⟨#[108]⟩ :: [] := n_l
  unfold goN
  rw [show msr (start [ka, kl] ⟨#[108]⟩) = 8001 by unfold msr; rw [h1]; rfl]
  rw [goF_ok h1 (by rw [k_l]; rfl), k_l]
  simp only [Bool.false_eq_true, if_false]
  rw [goF_ok (c := ⟨#[97]⟩) (rest := []) rfl (by rw [k_a]), k_a, goF_nil rfl]
theorem k_stay_l : goN ⟨0, false, true⟩ (start [ka, kl] ⟨#[108]⟩) = (0, { L := [ka, kl], here := ⟨#[108]⟩, left := [], hops := 0, made := [] }, [⟨#[108]⟩]) := by
  have h1 : (start [ka, kl] ⟨#[108]⟩).left = ⟨#[108]⟩ :: [] := n_l
  unfold goN
  rw [show msr (start [ka, kl] ⟨#[108]⟩) = 8001 by unfold msr; rw [h1]; rfl]
  rw [goF_ok h1 (by rw [k_l]; rfl), k_l]
  simp only [if_true]
  rw [goF_nil rfl]
theorem k_find_x : goN ⟨0, false, false⟩ (start [ka, kl] ⟨#[120]⟩) = (10, start [ka, kl] ⟨#[120]⟩, []) := by
  have h1 : (start [ka, kl] ⟨#[120]⟩).left = ⟨#[120]⟩ :: [] := n_x
  unfold goN
  rw [goF_err h1 (by rw [k_x]; decide), k_x]
end Go.Proofs.YtcefgnjgcnboeaaGreatDoor

namespace Go.Proofs.YtcefgnjgcnboeaaGreatDoor
open Go Go.RowKit

/-- Two entries in a block of their own. -/
theorem ents_two (W : World) (a b : Ent) : EntsAt (W.alloc (.cells #[.string a.path, .int .i64 a.kind, .int .i64 a.mode, .string a.data, .string a.link, .string b.path, .int .i64 b.kind, .int .i64 b.mode, .string b.data, .string b.link] 52)) (.slice (some ⟨W.heap.size, 0, none⟩) 2 2) [a, b] := by
  refine ⟨some ⟨W.heap.size, 0, none⟩, 2, W.heap.size, 0, rfl, fun _ => rfl, Nat.le_refl _, fun i e he => ?_⟩
  have h : ∀ (j : Nat) (v : Value), (#[.string a.path, .int .i64 a.kind, .int .i64 a.mode, .string a.data, .string a.link, .string b.path, .int .i64 b.kind, .int .i64 b.mode, .string b.data, .string b.link] : Array Value)[j]? = some v → (W.alloc (.cells #[.string a.path, .int .i64 a.kind, .int .i64 a.mode, .string a.data, .string a.link, .string b.path, .int .i64 b.kind, .int .i64 b.mode, .string b.data, .string b.link] 52)).cell? ⟨W.heap.size, j, none⟩ = some v := fun j v hv => by
    unfold World.cell?
    rw [World.alloc_heap_new]
    exact hv
  rcases i with _ | _ | i
  · cases he; exact ⟨h 0 _ rfl, h 1 _ rfl, h 2 _ rfl, h 3 _ rfl, h 4 _ rfl⟩
  · cases he; exact ⟨h 5 _ rfl, h 6 _ rfl, h 7 _ rfl, h 8 _ rfl, h 9 _ rfl⟩
  · simp at he
set_option maxRecDepth 100000 in
set_option maxHeartbeats 4000000 in
theorem works_r (w : World) (hg : ErrType w) : Calls Tryz.prog 31 #[] w fun e w' => e = .returned (.bool true) ∧ Below w.heap.size w w' := by
  have HB0 : Hid (Below w.heap.size w (w.alloc (.cells #[.string ka.path, .int .i64 ka.kind, .int .i64 ka.mode, .string ka.data, .string ka.link, .string kl.path, .int .i64 kl.kind, .int .i64 kl.mode, .string kl.data, .string kl.link] 52))) := (Below.refl _ w).alloc (Nat.le_refl _) _
  go_enter Tryz.func31, Tryz.ntmps31
  go_wp2_with fail
  refine (of_t _ [ka, kl] _ (hg.below HB0.out) (ents_two w ka kl) (by decide) (by decide) (by rw [rg_al])).mono ?_
  rintro e w1 ⟨hb1, tb, F, rfl, hT1⟩
  have HB1 := below_join HB0.out hb1
  clear hb1 HB0
  go_wp2_with fail
  refine (find_p true ⟨#[108]⟩ [ka, kl] _ hT1 (by decide)).mono ?_
  rintro e w2 ⟨rfl, hb2⟩
  rw [show findR [ka, kl] ⟨#[108]⟩ true = _ from k_find_l]
  have hT2 := hT1.below hb2
  have HB2 := below_join HB1 hb2
  simp only [ansB, errE_zero, if_true]
  clear hb2 hT1 HB1
  go_wp2_with fail
  refine (find_p false ⟨#[108]⟩ [ka, kl] _ hT2 (by decide)).mono ?_
  rintro e w3 ⟨rfl, hb3⟩
  rw [show findR [ka, kl] ⟨#[108]⟩ false = _ from k_stay_l]
  have hT3 := hT2.below hb3
  have HB3 := below_join HB2 hb3
  simp only [ansB, errE_zero, if_true]
  clear hb3 hT2 HB2
  go_wp2_with fail
  refine (find_p true ⟨#[120]⟩ [ka, kl] _ hT3 (by decide)).mono ?_
  rintro e w4 ⟨rfl, hb4⟩
  rw [show findR [ka, kl] ⟨#[120]⟩ true = _ from k_find_x]
  have HB4 := below_join HB3 hb4
  rw [show errE (10, start [ka, kl] ⟨#[120]⟩, ([] : List ByteArray)).1 = .iface 56 (.int .i64 10) from rfl]
  simp only [ansB]
  clear hb4 hT3 HB3
  go_wp2_with (go_at_call 9; refine (plain_some 10 (by decide) (by decide) _ (hg.below HB4)).mono ?_; rintro e w5 ⟨rfl, hb5⟩)
  go_ret
  exact ⟨rfl, below_join HB4 hb5⟩
end Go.Proofs.YtcefgnjgcnboeaaGreatDoor

namespace Go.Proofs.YtcefgnjgcnboeaaGreatDoor
open Go Go.RowKit

abbrev plM : Mn := ⟨2, false, false⟩
def fileE (p : ByteArray) : Ent := ⟨p, 2, 420, ⟨#[]⟩, ⟨#[]⟩⟩
theorem get_other {L : List Ent} (ho : L.Pairwise ltE) {e : Ent} {q : ByteArray} (hq : q ≠ e.path) : getE (laidL L e) q = getE L q := by
  unfold getE
  by_cases h0 : q.size = 0
  · rw [if_pos h0, if_pos h0]
  · rw [if_neg h0, if_neg h0]
    have hf : ∀ l : List Ent, (l.filter (notP e.path)).find? (pathIs q) = l.find? (pathIs q) := fun l => by
      rw [List.find?_filter]
      congr 1
      funext x
      cases hx : pathIs q x with
      | false => simp
      | true =>
        have h1 : notP e.path x = true := by
          unfold notP
          rw [Bool.not_eq_true', ← Bool.not_eq_true, pathIs_iff, pathIs_iff.1 hx]
          exact hq
        rw [h1]; rfl
    have h2 := but_laid ho e
    rw [← hf (laidL L e), h2, hf]
theorem ext_put {L : List Ent} (ho : L.Pairwise ltE) {e : Ent} (hg : getE L e.path = none) : Ext L (laidL L e) := fun q x hx => by
  have hq : q ≠ e.path := fun e' => by rw [e', hg] at hx; cases hx
  rw [get_other ho hq]; exact hx
theorem get_put {L : List Ent} {e : Ent} (hp : e.path.size ≠ 0) : getE (laidL L e) e.path = some e := by
  unfold getE
  rw [if_neg hp]
  exact find_laid (L := L) (e := e)
/-- The pieces that are left are names. -/
def NoSl (st : St) : Prop := ∀ c ∈ st.left, (47 : UInt8) ∉ un c ∧ c.size ≠ 0
theorem names_nosl (s : ByteArray) : ∀ c ∈ namesB s, (47 : UInt8) ∉ un c ∧ c.size ≠ 0 := by
  intro c hc
  obtain ⟨h1, h2⟩ := List.mem_filter.1 hc
  refine ⟨?_, fun h0 => ?_⟩
  · unfold piecesB at h1
    obtain ⟨l, hl, rfl⟩ := List.mem_map.1 h1
    rw [un_bs]
    exact cut_mem_noslash _ l hl
  · unfold full at h2
    rw [(isEmpty_iff c).2 h0] at h2
    cases h2
theorem nosl_start (L : List Ent) (way : ByteArray) : NoSl (start L way) := names_nosl way
theorem nosl_step {m : Mn} {st : St} {c : ByteArray} {rest : List ByteArray} (h : NoSl st) (hl : st.left = c :: rest) (h0 : (stepN m st c rest).1 = 0) : NoSl (stepN m st c rest).2 := by
  rcases step_more m st c rest h0 with ⟨_, h2⟩ | ⟨e, _, _, _, h5⟩
  · intro x hx
    rw [h2] at hx
    exact h x (by rw [hl]; simp [hx])
  · rw [h5]
    intro x hx
    rcases List.mem_append.1 hx with hx | hx
    · exact names_nosl _ x hx
    · exact h x (by rw [hl]; simp [hx])
/-- Is what stands above a path a directory? -/
def Up (L : List Ent) (p : ByteArray) : Prop := (parentB p).size = 0 ∨ ∃ u ∈ L, u.path = parentB p ∧ u.kind = 1
theorem join_parent {q c : ByteArray} (h1 : (47 : UInt8) ∉ un c) (h2 : c.size ≠ 0) (hc : checkN (joinB q c) = 0) : parentB (joinB q c) = q := by
  obtain ⟨j1, j2⟩ := names_join (q := q) h1 h2
  have hs := names_split hc
  rw [j1] at hs
  have := (List.append_inj' hs rfl).1
  by_cases hq : q.size = 0
  · have e1 : namesP q = [] := by unfold namesP; rw [if_pos hq]
    rw [e1] at this
    have : (parentB (joinB q c)).size = 0 := by
      by_cases h : (parentB (joinB q c)).size = 0
      · exact h
      · exact absurd this (names_ne h)
    rw [size_zero this, size_zero hq]
  · have h3 : (parentB (joinB q c)).size ≠ 0 := fun h => by
      have e1 : namesP (parentB (joinB q c)) = [] := by unfold namesP; rw [if_pos h]
      rw [e1] at this
      exact names_ne hq this.symm
    exact names_inj h3 hq this
variable {W : World} {tb base : Nat} {F : Pic} {L : List Ent}
/-- Where a walk stands whose list is a tree that it leaves as it is. -/
def PInv (L : List Ent) (m : Mn) (st : St) : Prop :=
  st.L = L ∧ NoSl st ∧ (st.here = ⟨#[]⟩ ∨ (∃ e, getE L st.here = some e ∧ (st.left ≠ [] → e.kind = 1) ∧ e.kind ≠ 3 ∧ (m.dirs = true → e.kind = 1)) ∨ (st.left = [] ∧ getE L st.here = none ∧ checkN st.here = 0 ∧ Up L st.here ∧ m.ab ≠ 1))
theorem pinv_step (h : TreeOf W tb base F L) {m : Mn} {st : St} {c : ByteArray} {rest : List ByteArray} (hm : m.stay = false) (hi : PInv L m st) (hl : st.left = c :: rest) (h0 : (stepN m st c rest).1 = 0) (h2 : (stepN m st c rest).2.L = L) : PInv L m (stepN m st c rest).2 := by
  obtain ⟨hL, hns, hh⟩ := hi
  have hns2 := nosl_step hns hl h0
  have hne : st.left ≠ [] := by rw [hl]; simp
  obtain ⟨c1, c2⟩ := hns c (by rw [hl]; simp)
  have hdir : st.here = ⟨#[]⟩ ∨ ∃ e ∈ L, e.path = st.here ∧ e.kind = 1 := by
    rcases hh with hh | ⟨e, he, h1, _⟩ | ⟨h1, _⟩
    · exact .inl hh
    · obtain ⟨m1, m2, _⟩ := get_mem he
      exact .inr ⟨e, m1, m2, h1 hne⟩
    · exact absurd h1 hne
  have mk : ∀ st' : St, (st'.here = ⟨#[]⟩ ∨ ∃ e ∈ L, e.path = st'.here ∧ e.kind = 1) → (st'.here = ⟨#[]⟩ ∨ (∃ e, getE L st'.here = some e ∧ (st'.left ≠ [] → e.kind = 1) ∧ e.kind ≠ 3 ∧ (m.dirs = true → e.kind = 1)) ∨ (st'.left = [] ∧ getE L st'.here = none ∧ checkN st'.here = 0 ∧ Up L st'.here ∧ m.ab ≠ 1)) := fun st' hd => by
    rcases hd with hd | ⟨e, he, hp, hk⟩
    · exact .inl hd
    · exact .inr (.inl ⟨e, by rw [← hp]; exact get_of_mem h he, fun _ => hk, by omega, fun _ => hk⟩)
  refine ⟨h2, hns2, ?_⟩
  clear hns2
  unfold stepN at h0 h2 ⊢
  by_cases n1 : c = dotB
  · rw [if_pos n1]
    exact mk _ hdir
  · rw [if_neg n1] at h0 h2 ⊢
    by_cases n2 : c = ddB
    · rw [if_pos n2]
      refine mk _ ?_
      rcases hdir with hh | ⟨e, he, hp, hk⟩
      · left; show parentB st.here = _; rw [hh]; exact parent_root
      · rcases tree_parent h he with hz | ⟨u, hu, hup, huk⟩
        · left; show parentB st.here = _; rw [← hp]; exact size_zero hz
        · exact .inr ⟨u, hu, by show u.path = parentB st.here; rw [← hp]; exact hup, huk⟩
    · rw [if_neg n2] at h0 h2 ⊢
      rw [hL] at h0 h2 ⊢
      cases hg : getE L (joinB st.here c) with
      | none =>
        rw [hg] at h0 h2
        simp only at h0 h2 ⊢
        have hlay : (layS st (joinB st.here c) rest).1 = 0 → (layS st (joinB st.here c) rest).2.L = L → False := fun a b => by
          have a' : putAll st.L (dirE (joinB st.here c)) = 0 := a
          have b' : laidL st.L (dirE (joinB st.here c)) = L := b
          have hp : (joinB st.here c).size ≠ 0 := (check_facts (wrong_check (putAll_wrong a'))).1
          have := get_laid (L := st.L) hp
          rw [b', hg] at this
          cases this
        rcases hab : m.ab with _ | _ | k
        · simp only [absN, hab] at h0
          exact absurd h0 (by decide)
        · simp only [absN, hab] at h0 h2
          exact absurd h2 (fun h2 => hlay h0 h2)
        · by_cases hr : rest = []
          · simp only [absN, hab, if_pos hr] at h0 h2 ⊢
            refine .inr (.inr ⟨hr, hg, h0, ?_, by simp⟩)
            have hpar := join_parent c1 c2 h0
            unfold Up
            rw [hpar]
            rcases hdir with hd | hd
            · left; rw [hd]; rfl
            · exact .inr hd
          · simp only [absN, hab, if_neg hr] at h0 h2
            exact absurd h2 (fun h2 => hlay h0 h2)
      | some e =>
        rw [hg] at h0 h2
        simp only at h0 h2 ⊢
        obtain ⟨he, _, _⟩ := get_mem hg
        have hkr := kind_range (h.right e he)
        unfold thereN at h0 ⊢
        by_cases h3 : isFile m e rest = true
        · rw [if_pos h3] at h0; simp at h0
        · rw [if_neg h3] at h0 ⊢
          by_cases h4 : isLink m e rest = true
          · rw [if_pos h4] at h0 ⊢
            unfold linkS at h0 ⊢
            by_cases h5 : st.hops = 40
            · rw [if_pos h5] at h0; simp at h0
            · rw [if_neg h5]
              refine mk _ ?_
              by_cases hs : slashed e.link = true
              · left; show (if slashed e.link then _ else _) = _; rw [if_pos hs]
              · rw [show (({ st with here := if slashed e.link then ⟨#[]⟩ else st.here, left := namesB e.link ++ rest, hops := st.hops + 1 } : St).here) = st.here from if_neg hs]
                exact hdir
          · rw [if_neg h4]
            have k3 : e.kind ≠ 3 := fun hk => h4 (by unfold isLink; rw [hk, hm]; simp)
            refine .inr (.inl ⟨e, hg, fun hr => ?_, k3, fun hd => ?_⟩)
            · have hr' : rest.isEmpty = false := by cases rest with | nil => exact absurd rfl hr | cons a b => rfl
              rcases hkr with hk | hk | hk
              · exact hk
              · exact absurd (by unfold isFile; rw [hk, hr']; simp) h3
              · exact absurd hk k3
            · rcases hkr with hk | hk | hk
              · exact hk
              · exact absurd (by unfold isFile; rw [hk, hd]; simp) h3
              · exact absurd hk k3
/-- Where Make comes to, over the list that it leaves. -/
theorem mk_inv (h : TreeOf W tb base F L) : ∀ (f : Nat) (st : St) (md : List ByteArray), st.L.Pairwise ltE → (goF mkM f st).1 = 0 → Ext (goF mkM f st).2.1.L L → PInv L mkM { st with L := L, made := md } → PInv L mkM { (goF mkM f st).2.1 with L := L, made := md }
  | 0, st, md, _, _, _, hi => hi
  | f + 1, st, md, ho, h0, hx, hi => by
    by_cases hl : st.left = []
    · rw [goF_nil (m := mkM) (f := f + 1) hl]; exact hi
    · obtain ⟨c, rest, hl⟩ := List.exists_cons_of_ne_nil hl
      by_cases h1 : (stepN mkM st c rest).1 = 0
      · rw [goF_ok hl h1] at h0 hx ⊢
        have hs0 := mk_step (m := mkM) rfl (L' := (stepN mkM st c rest).2.L) (md := md) ho h1 (Ext.refl _)
        have e1 := (mk_go (m := mkM) rfl f (stepN mkM st c rest).2 md hs0.2.2 h0).1
        have hs := mk_step (m := mkM) rfl (md := md) ho h1 (e1.trans hx)
        have hp := pinv_step (c := c) (rest := rest) h rfl hi hl (by rw [hs.1]) (by rw [hs.1])
        rw [hs.1] at hp
        exact mk_inv h f (stepN mkM st c rest).2 md hs0.2.2 h0 hx hp
      · rw [goF_err hl h1] at h0
        exact absurd h0 h1
/-- Behind a Make that goes well its answer is a directory. -/
theorem make_dir {L0 : List Ent} {way : ByteArray} (ho : L0.Pairwise ltE) (h0 : (makeR L0 way).1 = 0) (hT : TreeOf W tb base F (treeB L0 (makeR L0 way))) : (ansB (makeR L0 way)) = ⟨#[]⟩ ∨ ∃ e, getE (treeB L0 (makeR L0 way)) (ansB (makeR L0 way)) = some e ∧ e.kind = 1 := by
  have ht : treeB L0 (makeR L0 way) = (goF mkM (msr (start L0 way) + 1) (start L0 way)).2.1.L := if_pos h0
  have ha : ansB (makeR L0 way) = (goF mkM (msr (start L0 way) + 1) (start L0 way)).2.1.here := if_pos h0
  rw [ht] at hT ⊢
  rw [ha]
  have := mk_inv hT (msr (start L0 way) + 1) (start L0 way) [] ho h0 (Ext.refl _) ⟨rfl, nosl_start L0 way, .inl rfl⟩
  rcases this.2.2 with h1 | ⟨e, h1, _, _, h2⟩ | ⟨_, _, _, _, h1⟩
  · exact .inl h1
  · exact .inr ⟨e, h1, h2 rfl⟩
  · exact absurd rfl h1
/-- A step of Place that goes well, over a list that has what it leaves. -/
theorem pl_step {m : Mn} (hm : m.stay = false) (hd : m.dirs = false) {st : St} {c : ByteArray} {rest : List ByteArray} {L' : List Ent} {md : List ByteArray} (ho : st.L.Pairwise ltE) (h0 : (stepN plM st c rest).1 = 0) (hx : Ext (stepN plM st c rest).2.L L')
    (he : rest = [] → checkN (joinB st.here c) = 0 → getE st.L (joinB st.here c) = none → (stepN plM st c rest).2.here = joinB st.here c → (stepN plM st c rest).2.L = st.L → (m.ab = 2 ∧ getE L' (joinB st.here c) = none) ∨ getE L' (joinB st.here c) = some (fileE (joinB st.here c))) :
    stepN m { st with L := L', made := md } c rest = (0, { (stepN plM st c rest).2 with L := L', made := md }) ∧ Ext st.L (stepN plM st c rest).2.L ∧ (stepN plM st c rest).2.L.Pairwise ltE := by
  unfold stepN at h0 hx he ⊢
  by_cases h1 : c = dotB
  · simp only [if_pos h1] at h0 hx ⊢; exact ⟨trivial, Ext.refl _, ho⟩
  · simp only [if_neg h1] at h0 hx he ⊢
    by_cases h2 : c = ddB
    · simp only [if_pos h2] at h0 hx ⊢; exact ⟨trivial, Ext.refl _, ho⟩
    · simp only [if_neg h2] at h0 hx he ⊢
      cases hg : getE st.L (joinB st.here c) with
      | none =>
        rw [hg] at h0 hx he
        by_cases hr : rest = []
        · simp only [absN, if_pos hr] at h0 hx he ⊢
          refine ⟨?_, Ext.refl _, ho⟩
          rcases he hr h0 trivial trivial trivial with ⟨h3, h4⟩ | h4
          · rw [h4]
            simp only [h3, h0]
          · rw [h4]
            have i1 : isFile m (fileE (joinB st.here c)) rest = false := by unfold isFile; rw [hr, hd]; rfl
            have i2 : isLink m (fileE (joinB st.here c)) rest = false := rfl
            simp only [thereN]
            rw [if_neg (by rw [i1]; simp), if_neg (by rw [i2]; simp)]
        · simp only [absN, if_neg hr, layS] at h0 hx ⊢
          have hp : (joinB st.here c).size ≠ 0 := (check_facts (wrong_check (putAll_wrong h0))).1
          have hL := hx _ _ (get_laid (L := st.L) hp)
          rw [hL]
          refine ⟨?_, ext_laid ho hg, laid_order ho _⟩
          have i1 : isFile m (dirE (joinB st.here c)) rest = false := rfl
          have i2 : isLink m (dirE (joinB st.here c)) rest = false := rfl
          simp only [thereN]
          rw [if_neg (by rw [i1]; simp), if_neg (by rw [i2]; simp)]
      | some e =>
        rw [hg] at h0 hx
        simp only at h0 hx ⊢
        have hxL : Ext st.L L' := by
          intro q z hz
          refine hx q z ?_
          unfold thereN
          split
          · exact hz
          · split
            · unfold linkS
              split
              · exact hz
              · exact hz
            · exact hz
        rw [hxL _ _ hg]
        simp only
        have h3' : isFile m e rest = isFile plM e rest := by unfold isFile; rw [hd]
        have h4' : isLink m e rest = isLink plM e rest := by unfold isLink; rw [hm]
        unfold thereN at h0 ⊢
        rw [h3', h4']
        by_cases h3 : isFile plM e rest = true
        · rw [if_pos h3] at h0; simp at h0
        · rw [if_neg h3] at h0 ⊢
          rw [if_neg h3]
          by_cases h4 : isLink plM e rest = true
          · rw [if_pos h4] at h0 ⊢
            rw [if_pos h4]
            unfold linkS at h0 ⊢
            by_cases h5 : st.hops = 40
            · rw [if_pos h5] at h0; simp at h0
            · simp only [if_neg h5]; exact ⟨trivial, Ext.refl _, ho⟩
          · rw [if_neg h4, if_neg h4]; exact ⟨rfl, Ext.refl _, ho⟩
/-- What must be at the end of Place's way for another walk to come there. -/
def EndP (m : Mn) (fin : St) (L' : List Ent) : Prop := fin.here.size ≠ 0 → getE fin.L fin.here = none → (m.ab = 2 ∧ getE L' fin.here = none) ∨ getE L' fin.here = some (fileE fin.here)
theorem end_self (fin : St) : EndP plM fin fin.L := fun _ h => .inl ⟨rfl, h⟩
theorem step_end {m : Mn} {f : Nat} {st : St} {c : ByteArray} {rest : List ByteArray} {L' : List Ent} (h1 : (stepN plM st c rest).1 = 0) (he : EndP m (goF plM f (stepN plM st c rest).2).2.1 L') :
    rest = [] → checkN (joinB st.here c) = 0 → getE st.L (joinB st.here c) = none → (stepN plM st c rest).2.here = joinB st.here c → (stepN plM st c rest).2.L = st.L → (m.ab = 2 ∧ getE L' (joinB st.here c) = none) ∨ getE L' (joinB st.here c) = some (fileE (joinB st.here c)) := by
  intro a b d e g
  have hl : (stepN plM st c rest).2.left = [] ∨ (stepN plM st c rest).2.left ≠ [] := by
    by_cases h : (stepN plM st c rest).2.left = []
    · exact .inl h
    · exact .inr h
  have hl : (stepN plM st c rest).2.left = [] := by
    rcases step_more plM st c rest h1 with ⟨_, h2⟩ | ⟨z, hz, _⟩
    · rw [h2, a]
    · rw [d] at hz; cases hz
  rw [goF_nil hl] at he
  unfold EndP at he
  simp only [e, g] at he
  exact he (check_facts b).1 d
theorem pl_ext : ∀ (f : Nat) (st : St), st.L.Pairwise ltE → (goF plM f st).1 = 0 → Ext st.L (goF plM f st).2.1.L
  | 0, st, _, _ => Ext.refl _
  | f + 1, st, ho, h0 => by
    by_cases hl : st.left = []
    · rw [goF_nil (m := plM) (f := f + 1) hl]; exact Ext.refl _
    · obtain ⟨c, rest, hl⟩ := List.exists_cons_of_ne_nil hl
      by_cases h1 : (stepN plM st c rest).1 = 0
      · rw [goF_ok hl h1] at h0 ⊢
        have hs := pl_step (m := plM) (md := []) rfl rfl ho h1 (Ext.refl _) (fun _ _ d _ g => .inl ⟨rfl, by rw [g]; exact d⟩)
        exact hs.2.1.trans (pl_ext f _ hs.2.2 h0)
      · rw [goF_err hl h1] at h0
        exact absurd h0 h1
theorem pl_go {m : Mn} (hm : m.stay = false) (hd : m.dirs = false) {L' : List Ent} (md : List ByteArray) : ∀ (f : Nat) (st : St), st.L.Pairwise ltE → (goF plM f st).1 = 0 → Ext (goF plM f st).2.1.L L' → EndP m (goF plM f st).2.1 L' →
    (goF m f { st with L := L', made := md }).1 = 0 ∧ (goF m f { st with L := L', made := md }).2.1 = { (goF plM f st).2.1 with L := L', made := md }
  | 0, st, _, _, _, _ => ⟨rfl, rfl⟩
  | f + 1, st, ho, h0, hx, he => by
    by_cases hl : st.left = []
    · rw [goF_nil (m := m) (f := f + 1) (st := { st with L := L', made := md }) hl, goF_nil (m := plM) (f := f + 1) hl]
      exact ⟨rfl, rfl⟩
    · obtain ⟨c, rest, hl⟩ := List.exists_cons_of_ne_nil hl
      by_cases h1 : (stepN plM st c rest).1 = 0
      · rw [goF_ok hl h1] at h0 hx he ⊢
        have ho2 := (pl_step (m := plM) (md := []) rfl rfl ho h1 (Ext.refl _) (fun _ _ d _ g => .inl ⟨rfl, by rw [g]; exact d⟩)).2.2
        have hs := pl_step hm hd (md := md) ho h1 ((pl_ext f _ ho2 h0).trans hx) (step_end h1 he)
        have hs1 : (stepN m { st with L := L', made := md } c rest).1 = 0 := by rw [hs.1]
        rw [goF_ok (st := { st with L := L', made := md }) hl hs1, hs.1]
        exact pl_go hm hd md f (stepN plM st c rest).2 ho2 h0 hx he
      · rw [goF_err hl h1] at h0
        exact absurd h0 h1
theorem pl_inv (h : TreeOf W tb base F L) (md : List ByteArray) : ∀ (f : Nat) (st : St), st.L.Pairwise ltE → (goF plM f st).1 = 0 → Ext (goF plM f st).2.1.L L → EndP plM (goF plM f st).2.1 L → PInv L plM { st with L := L, made := md } → PInv L plM { (goF plM f st).2.1 with L := L, made := md }
  | 0, st, _, _, _, _, hi => hi
  | f + 1, st, ho, h0, hx, he, hi => by
    by_cases hl : st.left = []
    · rw [goF_nil (m := plM) (f := f + 1) hl]; exact hi
    · obtain ⟨c, rest, hl⟩ := List.exists_cons_of_ne_nil hl
      by_cases h1 : (stepN plM st c rest).1 = 0
      · rw [goF_ok hl h1] at h0 hx he ⊢
        have ho2 := (pl_step (m := plM) (md := []) rfl rfl ho h1 (Ext.refl _) (fun _ _ d _ g => .inl ⟨rfl, by rw [g]; exact d⟩)).2.2
        have hs := pl_step (m := plM) rfl rfl (md := md) ho h1 ((pl_ext f _ ho2 h0).trans hx) (step_end h1 he)
        have hp := pinv_step (c := c) (rest := rest) h rfl hi hl (by rw [hs.1]) (by rw [hs.1])
        rw [hs.1] at hp
        exact pl_inv h md f (stepN plM st c rest).2 ho2 h0 hx he hp
      · rw [goF_err hl h1] at h0
        exact absurd h0 h1
/-- Behind a Place that goes well: the root; something that is there, and no link; or a place where nothing is, below a directory. -/
theorem place_end {L0 : List Ent} {way : ByteArray} (ho : L0.Pairwise ltE) (h0 : (placeR L0 way).1 = 0) (hT : TreeOf W tb base F (treeB L0 (placeR L0 way))) :
    ansB (placeR L0 way) = ⟨#[]⟩ ∨ (∃ e, getE (treeB L0 (placeR L0 way)) (ansB (placeR L0 way)) = some e ∧ e.kind ≠ 3) ∨ (getE (treeB L0 (placeR L0 way)) (ansB (placeR L0 way)) = none ∧ checkN (ansB (placeR L0 way)) = 0 ∧ Up (treeB L0 (placeR L0 way)) (ansB (placeR L0 way))) := by
  have ht : treeB L0 (placeR L0 way) = (goF plM (msr (start L0 way) + 1) (start L0 way)).2.1.L := if_pos h0
  have ha : ansB (placeR L0 way) = (goF plM (msr (start L0 way) + 1) (start L0 way)).2.1.here := if_pos h0
  rw [ht] at hT ⊢
  rw [ha]
  have := pl_inv hT [] (msr (start L0 way) + 1) (start L0 way) ho h0 (Ext.refl _) (end_self _) ⟨rfl, nosl_start L0 way, .inl rfl⟩
  rcases this.2.2 with h1 | ⟨e, h1, _, h3, _⟩ | ⟨_, h2, h3, h4, _⟩
  · exact .inl h1
  · exact .inr (.inl ⟨e, h1, h3⟩)
  · exact .inr (.inr ⟨h2, h3, h4⟩)
/-- A file that is put at the place that Place answered is found there. -/
theorem place_find {L0 : List Ent} {way : ByteArray} (ho : L0.Pairwise ltE) (h0 : (placeR L0 way).1 = 0) (ho2 : (treeB L0 (placeR L0 way)).Pairwise ltE) (hn : getE (treeB L0 (placeR L0 way)) (ansB (placeR L0 way)) = none) (hz : (ansB (placeR L0 way)).size ≠ 0) :
    (findR (laidL (treeB L0 (placeR L0 way)) (fileE (ansB (placeR L0 way)))) way true).1 = 0 ∧ ansB (findR (laidL (treeB L0 (placeR L0 way)) (fileE (ansB (placeR L0 way)))) way true) = ansB (placeR L0 way) := by
  have ht : treeB L0 (placeR L0 way) = (goF plM (msr (start L0 way) + 1) (start L0 way)).2.1.L := if_pos h0
  have ha : ansB (placeR L0 way) = (goF plM (msr (start L0 way) + 1) (start L0 way)).2.1.here := if_pos h0
  rw [ht] at ho2 hn ⊢
  rw [ha] at hn hz ⊢
  have hx := ext_put (L := (goF plM (msr (start L0 way) + 1) (start L0 way)).2.1.L) ho2 (e := fileE (goF plM (msr (start L0 way) + 1) (start L0 way)).2.1.here) hn
  obtain ⟨x2, x3⟩ := pl_go (m := ⟨0, false, false⟩) rfl rfl [] (msr (start L0 way) + 1) (start L0 way) ho h0 hx (fun _ _ => .inr (get_put (e := fileE (goF plM (msr (start L0 way) + 1) (start L0 way)).2.1.here) hz))
  have z2 : (findR (laidL (goF plM (msr (start L0 way) + 1) (start L0 way)).2.1.L (fileE (goF plM (msr (start L0 way) + 1) (start L0 way)).2.1.here)) way true).1 = 0 := x2
  have z3 : (findR (laidL (goF plM (msr (start L0 way) + 1) (start L0 way)).2.1.L (fileE (goF plM (msr (start L0 way) + 1) (start L0 way)).2.1.here)) way true).2.1.here = (goF plM (msr (start L0 way) + 1) (start L0 way)).2.1.here := by
    have := congrArg St.here x3
    exact this
  refine ⟨z2, ?_⟩
  unfold ansB
  rw [if_pos z2, z3]
theorem up_zero (h : TreeOf W tb base F L) {p : ByteArray} (hu : Up L p) : upN L p = 0 := by
  unfold upN
  rcases hu with hu | ⟨u, hu, hp, hk⟩
  · rw [if_pos hu]
  · by_cases hz : (parentB p).size = 0
    · rw [if_pos hz]
    · rw [if_neg hz]
      have := get_of_mem h hu
      unfold getE at this
      rw [hp, if_neg hz] at this
      rw [this]
      simp [hk]
/-- There is room for a file. -/
theorem put_room (h : TreeOf W tb base F L) {p : ByteArray} (hc : checkN p = 0) (hu : Up L p) (hn : getE L p = none) (hl : L.length < 4096) : putAll L (fileE p) = 0 := by
  have hw : wrongN (fileE p) = 0 := by
    unfold wrongN
    simp only [fileE]
    rw [show checkN p = 0 from hc]
    simp only [toList_un]
    decide
  have hz := (check_facts hc).1
  unfold putAll
  rw [if_neg (by rw [hw]; simp)]
  unfold putN
  rw [show (fileE p).path = p from rfl, up_zero h hu]
  simp only [ne_eq, not_true_eq_false, if_false]
  unfold manyN
  unfold getE at hn
  rw [if_neg hz] at hn
  rw [show (fileE p).path = p from rfl, hn]
  simp only
  have := h.light
  rw [if_neg]
  have : ((fileE p).data.size : Int) = 0 := rfl
  omega
/-- Are all entries of the one list in the other, and besides only directories as Make lays them? -/
def dir493 (e : Ent) : Bool := (e.kind == 1) && (e.mode == 493)
def kpB : List Ent → List Ent → Bool
  | [], l => l.isEmpty
  | n :: now, [] => dir493 n && kpB now []
  | n :: now, e :: l => if eqE n e then kpB now l else dir493 n && kpB now (e :: l)
theorem kp_self : ∀ L : List Ent, kpB L L = true
  | [] => rfl
  | e :: L => by unfold kpB; rw [if_pos (eqE_self e)]; exact kp_self L
theorem eqE_path {a b : Ent} (h : eqE a b = true) : a.path = b.path := by
  unfold eqE at h
  rw [Bool.and_eq_true] at h
  have h1 := h.1
  rw [beq_iff_eq] at h1
  simp only [toList_un] at h1
  exact un_inj h1
theorem kp_ins {d : Ent} (hd : dir493 d = true) : ∀ (a b l : List Ent), (∀ e ∈ l, e.path ≠ d.path) → kpB (a ++ b) l = true → kpB (a ++ d :: b) l = true
  | [], b, [], _, h => by
    show kpB (d :: b) [] = true
    unfold kpB
    rw [hd]; exact h
  | [], b, e :: l, hn, h => by
    show kpB (d :: b) (e :: l) = true
    unfold kpB
    rw [if_neg (fun h => hn e (by simp) (eqE_path h).symm), hd]; exact h
  | n :: a, b, [], hn, h => by
    have h' : kpB (n :: (a ++ b)) [] = true := h
    show kpB (n :: (a ++ d :: b)) [] = true
    unfold kpB at h' ⊢
    rw [Bool.and_eq_true] at h' ⊢
    exact ⟨h'.1, kp_ins hd a b [] hn h'.2⟩
  | n :: a, b, e :: l, hn, h => by
    have h' : kpB (n :: (a ++ b)) (e :: l) = true := h
    show kpB (n :: (a ++ d :: b)) (e :: l) = true
    unfold kpB at h' ⊢
    by_cases hq : eqE n e = true
    · rw [if_pos hq] at h' ⊢
      exact kp_ins hd a b l (fun x hx => hn x (by simp [hx])) h'
    · rw [if_neg hq, Bool.and_eq_true] at h' ⊢
      exact ⟨h'.1, kp_ins hd a b (e :: l) hn h'.2⟩
theorem laid_parts {L : List Ent} (ho : L.Pairwise ltE) {e : Ent} (hn : L.find? (pathIs e.path) = none) : L.filter (fun x => decide (compareN x.path e.path < 0)) ++ L.filter (fun x => decide (0 < compareN x.path e.path)) = L := by
  refine srt_ext _ _ ?_ ho (fun x => ?_)
  · refine (laid_order ho e).sublist ?_
    unfold laidL
    exact List.Sublist.append (List.Sublist.refl _) (List.sublist_cons_self _ _)
  · rw [List.mem_append, List.mem_filter, List.mem_filter]
    constructor
    · rintro (h | h)
      · exact h.1
      · exact h.1
    · intro hx
      have hp : x.path ≠ e.path := fun he => by
        have := List.find?_eq_none.1 hn x hx
        exact this (pathIs_iff.2 he)
      have hz : compareN x.path e.path ≠ 0 := fun h => hp (order_zero h)
      by_cases hlt : compareN x.path e.path < 0
      · exact .inl ⟨hx, by simpa using hlt⟩
      · exact .inr ⟨hx, by simp; omega⟩
/-- A list that a walk that lays has come to from another. -/
structure Kp (L0 L : List Ent) : Prop where
  order : L.Pairwise ltE
  kept : kpB L L0 = true
  mem : ∀ e ∈ L0, e ∈ L
theorem Kp.refl {L : List Ent} (h : L.Pairwise ltE) : Kp L L := ⟨h, kp_self L, fun _ h => h⟩
theorem Kp.lay {L0 L : List Ent} (h : Kp L0 L) {p : ByteArray} (hp : p.size ≠ 0) (hg : getE L p = none) : Kp L0 (laidL L (dirE p)) := by
  unfold getE at hg
  rw [if_neg hp] at hg
  have hne : ∀ e ∈ L0, e.path ≠ (dirE p).path := fun e he hq => by
    have := List.find?_eq_none.1 hg e (h.mem e he)
    exact this (pathIs_iff.2 hq)
  refine ⟨laid_order h.order _, ?_, fun e he => laid_mem.2 (.inr ⟨h.mem e he, hne e he⟩)⟩
  unfold laidL
  refine kp_ins rfl _ _ _ hne ?_
  rw [laid_parts (e := dirE p) h.order hg]
  exact h.kept
theorem step_list {m : Mn} {st : St} {c : ByteArray} {rest : List ByteArray} (h0 : (stepN m st c rest).1 = 0) : (stepN m st c rest).2.L = st.L ∨ ∃ p, p.size ≠ 0 ∧ getE st.L p = none ∧ (stepN m st c rest).2.L = laidL st.L (dirE p) := by
  unfold stepN at h0 ⊢
  by_cases h1 : c = dotB
  · rw [if_pos h1]; exact .inl rfl
  · rw [if_neg h1] at h0 ⊢
    by_cases h2 : c = ddB
    · rw [if_pos h2]; exact .inl rfl
    · rw [if_neg h2] at h0 ⊢
      cases hg : getE st.L (joinB st.here c) with
      | none =>
        rw [hg] at h0
        simp only at h0 ⊢
        have hlay : (layS st (joinB st.here c) rest).1 = 0 → (layS st (joinB st.here c) rest).2.L = st.L ∨ ∃ p, p.size ≠ 0 ∧ getE st.L p = none ∧ (layS st (joinB st.here c) rest).2.L = laidL st.L (dirE p) := fun a => by
          have a' : putAll st.L (dirE (joinB st.here c)) = 0 := a
          exact .inr ⟨_, (check_facts (wrong_check (putAll_wrong a'))).1, hg, rfl⟩
        unfold absN at h0 ⊢
        split at h0
        · simp at h0
        · exact hlay h0
        · split at h0
          · rename_i hr; rw [if_pos hr]; exact .inl rfl
          · rename_i hr; rw [if_neg hr]; exact hlay h0
      | some e =>
        rw [hg] at h0
        simp only at h0 ⊢
        unfold thereN at h0 ⊢
        by_cases h3 : isFile m e rest = true
        · rw [if_pos h3] at h0; simp at h0
        · rw [if_neg h3] at h0 ⊢
          by_cases h4 : isLink m e rest = true
          · rw [if_pos h4] at h0 ⊢
            unfold linkS at h0 ⊢
            by_cases h5 : st.hops = 40
            · rw [if_pos h5] at h0; simp at h0
            · rw [if_neg h5]; exact .inl rfl
          · rw [if_neg h4]; exact .inl rfl
theorem go_kp {m : Mn} {L0 : List Ent} : ∀ (f : Nat) (st : St), Kp L0 st.L → (goF m f st).1 = 0 → Kp L0 (goF m f st).2.1.L
  | 0, st, h, _ => h
  | f + 1, st, h, h0 => by
    by_cases hl : st.left = []
    · rw [goF_nil (m := m) (f := f + 1) hl]; exact h
    · obtain ⟨c, rest, hl⟩ := List.exists_cons_of_ne_nil hl
      by_cases h1 : (stepN m st c rest).1 = 0
      · rw [goF_ok hl h1] at h0 ⊢
        refine go_kp f _ ?_ h0
        rcases step_list h1 with h2 | ⟨p, h2, h3, h4⟩
        · rw [h2]; exact h
        · rw [h4]; exact h.lay h2 h3
      · rw [goF_err hl h1] at h0
        exact absurd h0 h1
theorem make_kp {L0 : List Ent} {way : ByteArray} (ho : L0.Pairwise ltE) (h0 : (makeR L0 way).1 = 0) : Kp L0 (treeB L0 (makeR L0 way)) := by
  rw [show treeB L0 (makeR L0 way) = (goF mkM (msr (start L0 way) + 1) (start L0 way)).2.1.L from if_pos h0]
  exact go_kp _ _ (Kp.refl ho) h0
theorem place_kp {L0 : List Ent} {way : ByteArray} (ho : L0.Pairwise ltE) (h0 : (placeR L0 way).1 = 0) : Kp L0 (treeB L0 (placeR L0 way)) := by
  rw [show treeB L0 (placeR L0 way) = (goF plM (msr (start L0 way) + 1) (start L0 way)).2.1.L from if_pos h0]
  exact go_kp _ _ (Kp.refl ho) h0
end Go.Proofs.YtcefgnjgcnboeaaGreatDoor
