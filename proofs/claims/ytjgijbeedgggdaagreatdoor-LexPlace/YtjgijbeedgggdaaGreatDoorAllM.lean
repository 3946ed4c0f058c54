/- Lines of the build file in memory; what all holds. -/
import Derived.Test.YtjgijbeedgggdaaGreatDoorDcsW
import Derived.Test.YtjgijbeedgggdaaGreatDoorJoinW
namespace Go.Proofs.YtjgijbeedgggdaaGreatDoor
open Go Go.RowKit

/-- Lines so far, put ahead of an answer. -/
def addX (ls : List LL) : Except Flt (List LL) → Except Flt (List LL)
  | .error x => .error x
  | .ok es => .ok (ls ++ es)
theorem addX_nil (r : Except Flt (List LL)) : addX [] r = r := by cases r <;> rfl
theorem addX_add (a b : List LL) (r : Except Flt (List LL)) : addX a (addX b r) = addX (a ++ b) r := by cases r with
  | error x => rfl
  | ok p => simp [addX]
theorem lines_step (e : UInt8) (f : List Ln) (fu i : Nat) (x : Ln) (h : f[i]? = some x) : linesG e f (fu + 1) i = (if noth x = true then linesG e f fu (i + 1) else
    (if hd (joinG e (f.drop i) i (hd x) 0 false).2.1 = (joinG e (f.drop i) i (hd x) 0 false).2.1.length then linesG e f fu (joinG e (f.drop i) i (hd x) 0 false).2.2
      else match docsL e f (i + 1) (joinG e (f.drop i) i (hd x) 0 false).2.1 (joinG e (f.drop i) i (hd x) 0 false).1 (joinG e (f.drop i) i (hd x) 0 false).2.2 with
        | .error x => .error x
        | .ok (ds, j) => match linesG e f fu j with
          | .error x => .error x
          | .ok ls => .ok (⟨i + 1, (joinG e (f.drop i) i (hd x) 0 false).2.1, (joinG e (f.drop i) i (hd x) 0 false).1, ds⟩ :: ls))) := by
  rw [linesG, h]; rfl
theorem lines_none (e : UInt8) (f : List Ln) (fu i : Nat) (h : f[i]? = none) : linesG e f fu i = .ok [] := by
  cases fu with
  | zero => rfl
  | succ fu => rw [linesG, h]
theorem lines_skip (e : UInt8) (f : List Ln) : ∀ (fu0 fu c : Nat), nextS f fu0 c = none → f.length + 1 ≤ c + fu0 → linesG e f fu c = .ok []
  | 0, fu, c, _, h => lines_none e f fu c (List.getElem?_eq_none (by omega))
  | fu0 + 1, fu, c, hn, h => by
    cases hc : f[c]? with
    | none => exact lines_none e f fu c hc
    | some x =>
      rw [nextS_step hc] at hn
      by_cases hx : noth x = true
      · rw [if_pos hx] at hn
        cases fu with
        | zero => rfl
        | succ fu => rw [lines_step e f fu c x hc, if_pos hx]; exact lines_skip e f fu0 fu (c + 1) hn (by omega)
      · rw [if_neg hx] at hn; cases hn
theorem lines_to (e : UInt8) (f : List Ln) : ∀ (fu0 fu c j : Nat), nextS f fu0 c = some j → f.length + 1 ≤ fu + c → ∃ fu', f.length ≤ fu' + j ∧ linesG e f fu c = linesG e f (fu' + 1) j
  | 0, fu, c, j, hn, _ => by cases hn
  | fu0 + 1, fu, c, j, hn, h => by
    cases hc : f[c]? with
    | none => rw [nextS, hc] at hn; cases hn
    | some x =>
      have hl := (List.getElem?_eq_some_iff.1 hc).1
      rw [nextS_step hc] at hn
      obtain ⟨fu1, rfl⟩ : ∃ k, fu = k + 1 := ⟨fu - 1, by omega⟩
      by_cases hx : noth x = true
      · rw [if_pos hx] at hn
        rw [lines_step e f fu1 c x hc, if_pos hx]
        exact lines_to e f fu0 fu1 (c + 1) j hn (by omega)
      · rw [if_neg hx] at hn; cases hn
        exact ⟨fu1, by omega, rfl⟩
def lcell (x : LL) (p : Value × Value) : List Value := [.int .i64 x.line, .string (bs x.text), p.1, p.2]
def lcells (ls : List LL) (us : List (Value × Value)) : List Value := (ls.zip us).flatMap fun p => lcell p.1 p.2
theorem lcells_snoc (ls : List LL) (us : List (Value × Value)) (x : LL) (p : Value × Value) (h : us.length = ls.length) : lcells (ls ++ [x]) (us ++ [p]) = lcells ls us ++ lcell x p := by
  unfold lcells
  rw [List.zip_append h.symm, List.flatMap_append]; simp
theorem ln_info3 : (Tryz.prog.info? 64).map (fun i => (i.zero, i.size, i.bytes)) = some (some (.agg #[.int .i64 0, .string ⟨#[]⟩, nilS, nilS]), 4, 72) := by kernel_rfl
/-- A list of lines, with its marks and documents. -/
structure LnsAt (W : World) (base : Nat) (v : Value) (us : List (Value × Value)) (ls : List LL) : Prop where
  len : us.length = ls.length
  own : W.ownsRow base 64 4 v ls.length (lcells ls us)
  marks : ∀ (i : Nat) x p, ls[i]? = some x → us[i]? = some p → W.ownsRow base 73 3 p.1 x.marks.length (mcells x.marks)
  docs : ∀ (i : Nat) x p, ls[i]? = some x → us[i]? = some p → W.ownsRow base 133 4 p.2 x.docs.length (dcells x.docs)
structure AW (w : World) (B : Nat) (s : ByteArray) (q c : Nat) (v : Value) (us : List (Value × Value)) (ls : List LL) (W : World) : Prop where
  oth : Oth B w W
  rd : Rd W B s q c
  lns : LnsAt W w.heap.size v us ls
variable {w W W' : World} {B q c : Nat} {s : ByteArray} {v : Value} {us : List (Value × Value)} {ls : List LL}
theorem LnsAt.keep {base : Nat} (h : LnsAt W base v us ls) (hk : ∀ (g : Nat) (cur : Array Value) (e : TypeId), base ≤ g → e = 64 ∨ e = 73 ∨ e = 133 → W.heap[g]? = some (Obj.cells cur e (0, 0)) → W'.heap[g]? = W.heap[g]?) : LnsAt W' base v us ls :=
  ⟨h.len, own_keep h.own (fun g cur hg hgg _ => hk g cur _ hg (.inl rfl) hgg), fun i x p h1 h2 => own_keep (h.marks i x p h1 h2) (fun g cur hg hgg _ => hk g cur _ hg (.inr (.inl rfl)) hgg), fun i x p h1 h2 => own_keep (h.docs i x p h1 h2) (fun g cur hg hgg _ => hk g cur _ hg (.inr (.inr rfl)) hgg)⟩
theorem AW.below (h : AW w B s q c v us ls W) (hb : Below W.heap.size W W') : AW w B s q c v us ls W' :=
  ⟨h.oth.on hb, h.rd.below hb, h.lns.keep (fun g _ _ _ _ hgg => hb.block g (Array.getElem?_eq_some_iff.1 hgg).1)⟩
theorem AW.reader (h : AW w B s q c v us ls W) (hB : B < w.heap.size) (ho : Oth B W W') {q2 c2 : Nat} (hr : Rd W' B s q2 c2) : AW w B s q2 c2 v us ls W' :=
  ⟨h.oth.trans ho, hr, h.lns.keep (fun g _ _ hg _ hgg => ho.block g (Array.getElem?_eq_some_iff.1 hgg).1 (by omega))⟩
theorem AW.more (h : AW w B s q c v us ls W) (x : LL) (p : Value × Value) {v' : Value} (hg : W.grownBy W' v.ownBlock) (ho : W'.ownsRow w.heap.size 64 4 v' (ls.length + 1) (lcells ls us ++ lcell x p))
    (hm : W.ownsRow w.heap.size 73 3 p.1 x.marks.length (mcells x.marks)) (hd : W.ownsRow w.heap.size 133 4 p.2 x.docs.length (dcells x.docs)) : AW w B s q c v' (us ++ [p]) (ls ++ [x]) W' := by
  have hT : ∀ (g : Nat) (cur : Array Value) (e : TypeId), e ≠ 64 → W.heap[g]? = some (Obj.cells cur e (0, 0)) → W'.heap[g]? = W.heap[g]? := fun g cur e he hgg => hg.block g (Array.getElem?_eq_some_iff.1 hgg).1 (fun eq => by
    obtain ⟨c2, h2⟩ := own_tag h.lns.own g eq
    rw [hgg] at h2
    injection h2 with h3
    injection h3 with _ h4 _
    exact he h4)
  have hb : Below w.heap.size W W' := (Below.refl _ W).grown hg h.oth.size (fun k hk => own_ge1 h.lns.own k hk.symm)
  refine ⟨⟨hb.os.trans h.oth.os, hb.tape.trans h.oth.tape, hb.output.trans h.oth.output, Nat.le_trans h.oth.size hb.size, fun k h1 h2 => (hb.block k h1).trans (h.oth.block k h1 h2)⟩, (hT B _ _ (by decide) h.rd).trans h.rd, ?_, ?_, ?_, ?_⟩
  · rw [List.length_append, List.length_append, h.lns.len]; rfl
  · rw [lcells_snoc _ _ _ _ h.lns.len, List.length_append, List.length_singleton]; exact ho
  · intro i y r h1 h2
    rcases Nat.lt_or_ge i ls.length with hi | hi
    · rw [List.getElem?_append_left hi] at h1
      rw [List.getElem?_append_left (by rw [h.lns.len]; exact hi)] at h2
      exact own_keep (h.lns.marks i y r h1 h2) (fun g cur hg hgg _ => hT g cur _ (by decide) hgg)
    · rw [List.getElem?_append_right hi] at h1
      rw [List.getElem?_append_right (by rw [h.lns.len]; exact hi), h.lns.len] at h2
      have h3 := (List.getElem?_eq_some_iff.1 h1).1
      simp at h3
      rw [h3] at h1 h2
      simp at h1 h2
      subst h1 h2
      exact own_keep hm (fun g cur hg hgg _ => hT g cur _ (by decide) hgg)
  · intro i y r h1 h2
    rcases Nat.lt_or_ge i ls.length with hi | hi
    · rw [List.getElem?_append_left hi] at h1
      rw [List.getElem?_append_left (by rw [h.lns.len]; exact hi)] at h2
      exact own_keep (h.lns.docs i y r h1 h2) (fun g cur hg hgg _ => hT g cur _ (by decide) hgg)
    · rw [List.getElem?_append_right hi] at h1
      rw [List.getElem?_append_right (by rw [h.lns.len]; exact hi), h.lns.len] at h2
      have h3 := (List.getElem?_eq_some_iff.1 h1).1
      simp at h3
      rw [h3] at h1 h2
      simp at h1 h2
      subst h1 h2
      exact own_keep hd (fun g cur hg hgg _ => hT g cur _ (by decide) hgg)
end Go.Proofs.YtjgijbeedgggdaaGreatDoor
