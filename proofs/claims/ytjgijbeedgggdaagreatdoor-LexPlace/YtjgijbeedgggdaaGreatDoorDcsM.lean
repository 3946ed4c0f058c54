/- Documents in memory; what documents holds. -/
import Derived.Test.YtjgijbeedgggdaaGreatDoorDocW
import Derived.Test.YtjgijbeedgggdaaGreatDoorCwW
import Derived.Test.YtjgijbeedgggdaaGreatDoorDirW
import Derived.Test.YtjgijbeedgggdaaGreatDoorFltW
import Derived.Test.YtjgijbeedgggdaaGreatDoorSplW
import Derived.Test.YtjgijbeedgggdaaGreatDoorCovM
namespace Go.Proofs.YtjgijbeedgggdaaGreatDoor
open Go Go.RowKit

def dcs (d : Dc) : List Value := [.string (bs d.name), .bool d.raw, .int .i64 d.line, .string (bs d.text)]
def dcells (ds : List Dc) : List Value := ds.flatMap dcs
theorem dcells_append (a b : List Dc) : dcells (a ++ b) = dcells a ++ dcells b := by simp [dcells]
theorem dc_info3 : (Tryz.prog.info? 133).map (fun i => (i.zero, i.size, i.bytes)) = some (some (.agg #[.string ⟨#[]⟩, .bool false, .int .i64 0, .string ⟨#[]⟩]), 4, 48) := by kernel_rfl
/-- Documents so far, put ahead of an answer. -/
def addD (ds : List Dc) : Except Flt (List Dc × Nat) → Except Flt (List Dc × Nat)
  | .error x => .error x
  | .ok (es, m) => .ok (ds ++ es, m)
theorem addD_nil (r : Except Flt (List Dc × Nat)) : addD [] r = r := by cases r with
  | error x => rfl
  | ok p => obtain ⟨a, b⟩ := p; rfl
theorem addD_add (a b : List Dc) (r : Except Flt (List Dc × Nat)) : addD a (addD b r) = addD (a ++ b) r := by cases r with
  | error x => rfl
  | ok p => obtain ⟨x, y⟩ := p; simp [addD]
theorem split_some {e : UInt8} {x : Ln} {xs : List (Nat × Nat)} (h : splitR e x = .ok xs) (hc : copiesL x = true) : xs ≠ [] := by
  intro h0
  subst h0
  obtain ⟨_, h2, _⟩ := split_cov e x [] h
  unfold copiesL at hc
  rw [Bool.and_eq_true] at hc
  have hl := says_le hc.1
  have h4 : copyW.length = 4 := rfl
  have hlt : hd x < x.length := by omega
  have hb : ¬ isBl x[hd x] = true := by
    have e := List.takeWhile_append_dropWhile (p := isBl) (l := x)
    have hne : x.dropWhile isBl ≠ [] := fun e2 => by rw [e2, List.append_nil] at e; have := congrArg List.length e; unfold hd at hlt; omega
    have h0 := List.head_dropWhile_not isBl hne
    have h2 : x[hd x] = (x.dropWhile isBl).head hne := by
      rw [List.head_eq_getElem]
      simp only [dropWhile_drop isBl x]
      rw [List.getElem_drop]; rfl
    rw [h2, h0]; decide
  exact hb (h2 (hd x) x[hd x] (Nat.zero_le _) hlt (List.getElem?_eq_getElem hlt))
structure EW (w : World) (B : Nat) (s : ByteArray) (q c : Nat) (lc : Array Value) (t : ByteArray) (xs : List (Nat × Nat)) (lv v : Value) (ds : List Dc) (W : World) : Prop where
  oth : Oth B w W
  rd : Rd W B s q c
  ln : Lies W w.heap.size 64 lc
  wds : W.ownsRow w.heap.size 144 2 lv xs.length (wcells (wdsOf t xs))
  docs : W.ownsRow w.heap.size 133 4 v ds.length (dcells ds)
variable {w W W' : World} {B q c : Nat} {s t : ByteArray} {lc : Array Value} {xs : List (Nat × Nat)} {lv v : Value} {ds : List Dc}
theorem EW.below (h : EW w B s q c lc t xs lv v ds W) (hb : Below W.heap.size W W') : EW w B s q c lc t xs lv v ds W' :=
  ⟨h.oth.on hb, h.rd.below hb, h.ln.below hb, own_below h.wds hb, own_below h.docs hb⟩
theorem EW.reader (h : EW w B s q c lc t xs lv v ds W) (hB : B < w.heap.size) (ho : Oth B W W') {q2 c2 : Nat} (hr : Rd W' B s q2 c2) : EW w B s q2 c2 lc t xs lv v ds W' :=
  ⟨h.oth.trans ho, hr, ho.lies h.ln (by omega), own_keep h.wds (fun g cur hg hgg _ => ho.block g (Array.getElem?_eq_some_iff.1 hgg).1 (by omega)), own_keep h.docs (fun g cur hg hgg _ => ho.block g (Array.getElem?_eq_some_iff.1 hgg).1 (by omega))⟩
theorem EW.more (h : EW w B s q c lc t xs lv v ds W) (d : Dc) {v' : Value} (hg : W.grownBy W' v.ownBlock) (ho : W'.ownsRow w.heap.size 133 4 v' (ds.length + 1) (dcells ds ++ dcs d)) : EW w B s q c lc t xs lv v' (ds ++ [d]) W' := by
  have hT : ∀ (g : Nat) (cur : Array Value) (e : TypeId), e ≠ 133 → W.heap[g]? = some (Obj.cells cur e (0, 0)) → W'.heap[g]? = W.heap[g]? := fun g cur e he hgg => hg.block g (Array.getElem?_eq_some_iff.1 hgg).1 (fun eq => by
    obtain ⟨c2, h2⟩ := own_tag h.docs g eq
    rw [hgg] at h2
    injection h2 with h3
    injection h3 with _ h4 _
    exact he h4)
  have hb : Below w.heap.size W W' := (Below.refl _ W).grown hg h.oth.size (fun k hk => own_ge1 h.docs k hk.symm)
  refine ⟨⟨hb.os.trans h.oth.os, hb.tape.trans h.oth.tape, hb.output.trans h.oth.output, Nat.le_trans h.oth.size hb.size, fun k h1 h2 => (hb.block k h1).trans (h.oth.block k h1 h2)⟩, (hT B _ _ (by decide) h.rd).trans h.rd, (hT _ _ _ (by decide) h.ln).trans h.ln, own_keep h.wds (fun g cur hg hgg _ => hT g cur _ (by decide) hgg), ?_⟩
  rw [dcells_append, show dcells [d] = dcs d by simp [dcells], List.length_append, List.length_singleton]
  exact ho
end Go.Proofs.YtjgijbeedgggdaaGreatDoor
