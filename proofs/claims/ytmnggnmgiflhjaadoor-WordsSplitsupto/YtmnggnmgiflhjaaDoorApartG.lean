/- Lists that were handed out: have they memory of their own? Of elements of any size. -/
import Derived.Test.YtmnggnmgiflhjaaDoorMarkW
import Derived.ArgAppend
import Derived.Deep.DeepAppendRoom
import Derived.Deep.MidRow
import Derived.Laws.OwnMore
namespace Go.Proofs.YtmnggnmgiflhjaaDoor
open Go Go.RowKit

theorem row_cell {W : World} {base e size n : Nat} {g cap : Nat} {xs : List Value} (h : W.ownsRow base e size (.slice (some ⟨g, 0, none⟩) n cap) n xs) (j : Nat) (u : Value) (hu : xs[j]? = some u) : W.cell? ⟨g, j, none⟩ = some u := by
  rcases h.2 with ⟨h0, _⟩ | ⟨g2, cap2, cur, h0, _, hgb, _, _, _, htk⟩
  · cases h0
  · cases h0
    have : cur[j]? = some u := by
      rw [← htk] at hu
      rw [List.getElem?_take] at hu
      split at hu
      · simpa using hu
      · cases hu
    simp [World.cell?, hgb, this]
theorem own_belowG {W W2 : World} {base e size n : Nat} {v : Value} {xs : List Value} (h : W.ownsRow base e size v n xs) (hb : Below W.heap.size W W2) : W2.ownsRow base e size v n xs := by
  refine ⟨h.1, ?_⟩
  rcases h.2 with hn | ⟨g, cap, cur, rfl, hg, hgg, rest⟩
  · exact .inl hn
  · exact .inr ⟨g, cap, cur, rfl, hg, (hb.block g (Array.getElem?_eq_some_iff.1 hgg).1).trans hgg, rest⟩

/-- An append that grows has a row of its own and leaves all else; one with room stays in its row. -/
theorem wpList_append_keepG {P : Program} (w : World) {ops : Array Oper} {rest : List Oper} {o : Oper} {a : Act} {Q : Exit → Act → World → Prop} (hgd : o.guard = none) (s x : Operand) (t : TypeId)
    (ho : o.op = .call { callee := .builtin .append, args := #[s, x], argTypes := #[t, t] })
    (base : Nat) (e : TypeId) (i : TypeInfo) (z : Value) (sz bytes : Nat) (ht : P.underlying t = some (.slice e)) (hi : P.info? e = some i) (hz : i.zero = some z)
    (hsize : i.size = sz) (hby : i.bytes = bytes) (hzs : z.cells.size = sz) (hsz0 : 0 < sz)
    (v : Value) (n : Nat) (xs : List Value) (hs : a.eval s = v) (hown : w.ownsRow base e sz v n xs)
    (ad : Addr) (c : Nat) (ys : List Value) (hyl : ys.length = 1 * sz) (hx : a.eval x = .slice (some ad) 1 c) (hnews : ∀ j u, ys[j]? = some u → w.cell? (ad.add j) = some u) (h1' : ∀ u ∈ ys, u.oneCell' = true)
    (h63 : n + 1 ≤ maxLen) (hbytes : (n + 1) * bytes ≤ 140737488355328) (hbase : base ≤ w.heap.size)
    (h : ∀ v' w', w'.ownsRow base e sz v' (n + 1) (xs ++ ys) → (v'.ownBlock = v.ownBlock ∧ w.grownBy w' v.ownBlock ∨ (∃ b, w.heap.size ≤ b ∧ v'.ownBlock = some b) ∧ w.grownBy w' none) → wpList P ops Q rest (a.put o.dst v') w') : wpList P ops Q (o :: rest) a w := by
  have fresh : ∀ v' w', w'.ownsRow w.heap.size e sz v' (n + 1) (xs ++ ys) → w.grownBy w' none → wpList P ops Q rest (a.put o.dst v') w' := by
    intro v' w' ho hg
    rcases ho.2 with ⟨_, h0⟩ | ⟨g, cap, cur, rfl, hb, rest⟩
    · omega
    · exact h _ _ ⟨ho.1, .inr ⟨g, cap, cur, rfl, Nat.le_trans hbase hb, rest⟩⟩ (.inr ⟨⟨g, hb, rfl⟩, hg⟩)
  have hown0 := hown
  rcases hown.2 with ⟨rfl, rfl⟩ | ⟨g, cap, cur, rfl, hb, hg, hnc, hcm, hcs, htake⟩
  · obtain rfl : xs = [] := List.eq_nil_of_length_eq_zero (by simpa using hown.1)
    exact wpList_append_grows w hgd s x t ho e i z sz bytes ht hi hz hsize hby hzs hsz0 none 0 0 [] hs (fun _ => ⟨rfl, rfl⟩) (by simp) (fun b hb => nomatch hb) ad 1 c ys hx hyl hnews h1' (by omega) h63 hbytes fresh
  · by_cases hroom : n + 1 ≤ cap
    · exact wpList_append_own_spare w hgd s x t ho base e i sz ht hi hsize g n cap xs hs hown0 ad 1 c ys hx hyl hnews h1' hroom (fun w' h2 h3 => h _ _ h2 (.inl ⟨rfl, h3⟩))
    · exact wpList_append_grows w hgd s x t ho e i z sz bytes ht hi hz hsize hby hzs hsz0 (some ⟨g, 0, none⟩) n cap xs hs (fun h => nomatch h) hown0.1 (fun b hb => by cases hb; exact hown0.cells rfl) ad 1 c ys hx hyl hnews h1' (by omega) h63 hbytes fresh

theorem own_eq {W W2 : World} {base e size n : Nat} {v : Value} {xs : List Value} (h : W.ownsRow base e size v n xs) (hb : ∀ b, v.ownBlock = some b → W2.heap[b]? = W.heap[b]?) : W2.ownsRow base e size v n xs := by
  refine ⟨h.1, ?_⟩
  rcases h.2 with hn | ⟨g, cap, cur, rfl, hg, hgg, rest⟩
  · exact .inl hn
  · exact .inr ⟨g, cap, cur, rfl, hg, (hb g rfl).trans hgg, rest⟩
theorem own_setG {W : World} {base e sz n g cap i : Nat} {xs : List Value} (h : W.ownsRow base e sz (.slice (some ⟨g, 0, none⟩) n cap) n xs) (x : Value) : (W.setCell ⟨g, i, none⟩ x).ownsRow base e sz (.slice (some ⟨g, 0, none⟩) n cap) n (xs.set i x) := by
  refine ⟨by rw [List.length_set]; exact h.1, ?_⟩
  rcases h.2 with ⟨hv, _⟩ | ⟨g', cap', cur, hv, hb, hg, h1, h2, h3, h4⟩
  · cases hv
  · cases hv
    refine .inr ⟨g, cap, cur.setIfInBounds i x, rfl, hb, Lies.set hg x, h1, h2, by rw [Array.size_setIfInBounds]; exact h3, ?_⟩
    rw [Array.toList_setIfInBounds, ← h4, List.take_set]
theorem set_otherG {W : World} {g i b : Nat} (x : Value) (h : g ≠ b) : (W.setCell ⟨g, i, none⟩ x).heap[b]? = W.heap[b]? := by
  show (W.heap.modify g _)[b]? = _
  rw [Array.getElem?_modify, if_neg h]
theorem own_lt {w : World} {B e sz n : Nat} {u : Value} {xs : List Value} (h : w.ownsRow B e sz u n xs) : ∀ b, u.ownBlock = some b → B ≤ b ∧ b < w.heap.size := fun b hb => by
  rcases h.2 with ⟨rfl, _⟩ | ⟨g, cap, cur, rfl, hg, hgg, _⟩
  · cases hb
  · cases hb; exact ⟨hg, (Array.getElem?_eq_some_iff.1 hgg).1⟩
theorem own_shapeG {w : World} {B e sz n : Nat} {u : Value} {xs : List Value} (h : w.ownsRow B e sz u n xs) : ∃ a c, u = .slice a n c ∧ (a = none → c = 0 ∧ n = 0) ∧ (∀ b, a = some b → ∃ g, b = ⟨g, 0, none⟩) ∧ n ≤ c ∧ c ≤ maxLen := by
  rcases h.2 with ⟨rfl, rfl⟩ | ⟨g, cap, cur, rfl, _, _, h1, hc, _⟩
  · exact ⟨none, 0, rfl, fun _ => ⟨rfl, rfl⟩, (fun b hb => nomatch hb), Nat.le_refl _, Nat.zero_le _⟩
  · exact ⟨_, _, rfl, (fun e => nomatch e), fun b hb => by cases hb; exact ⟨g, rfl⟩, h1, hc⟩
theorem own_frozenG {w : World} {B e sz n g c : Nat} {xs : List Value} (h : w.ownsRow B e sz (.slice (some ⟨g, 0, none⟩) n c) n xs) (i : Nat) : w.frozen? ⟨g, i, none⟩ = false := by
  rcases h.2 with ⟨hv, _⟩ | ⟨g', cap, cur, hv, _, hg, _⟩
  · cases hv
  · cases hv; exact Lies.frozen hg i
theorem own_baseG {w : World} {B B' e sz n : Nat} {u : Value} {xs : List Value} (h : w.ownsRow B' e sz u n xs) (hb : B ≤ B') : w.ownsRow B e sz u n xs := by
  refine ⟨h.1, ?_⟩
  rcases h.2 with h1 | ⟨g, cap, cur, h1, h2, h3⟩
  · exact .inl h1
  · exact .inr ⟨g, cap, cur, h1, Nat.le_trans hb h2, h3⟩
theorem grown_belowG {w w' : World} {B e sz n : Nat} {v v' : Value} {xs : List Value} (hg : v'.ownBlock = v.ownBlock ∧ w.grownBy w' v.ownBlock ∨ (∃ b, w.heap.size ≤ b ∧ v'.ownBlock = some b) ∧ w.grownBy w' none) (h : w.ownsRow B e sz v n xs) (hB : B ≤ w.heap.size) : Below B w w' := by
  rcases hg with ⟨_, hg⟩ | ⟨_, hg⟩
  · exact ⟨hg.os, hg.tape, hg.output, hg.size, fun k hk => hg.block k (by omega) (fun e => by have := (own_lt h k e.symm).1; omega)⟩
  · exact ⟨hg.os, hg.tape, hg.output, hg.size, fun k hk => hg.block k (by omega) (fun e => nomatch e)⟩

/- Elements: each of sz cells, as enc lays them; mk k i: the mark of the place i of the list k. -/
section elements
variable {α : Type} (enc : α → List Value) (sz t : Nat) (mk : Nat → Nat → α)
def cellsG (xs : List α) : List Value := xs.flatMap enc
theorem cellsG_cons (x : α) (xs : List α) : cellsG enc (x :: xs) = enc x ++ cellsG enc xs := rfl
theorem cellsG_append (a b : List α) : cellsG enc (a ++ b) = cellsG enc a ++ cellsG enc b := by simp [cellsG]
theorem cellsG_one (x : α) : cellsG enc [x] = enc x := by simp [cellsG]
theorem cellsG_length (hsz : ∀ x, (enc x).length = sz) (xs : List α) : (cellsG enc xs).length = xs.length * sz := by
  induction xs with
  | nil => simp [cellsG]
  | cons x xs ih => rw [cellsG_cons, List.length_append, ih, hsz, List.length_cons, Nat.succ_mul]; omega
theorem cellsG_get (hsz : ∀ x, (enc x).length = sz) : ∀ (xs : List α) (k : Nat) (x : α), xs[k]? = some x → ∀ j v, (enc x)[j]? = some v → (cellsG enc xs)[k * sz + j]? = some v
  | [], k, x, h, _, _, _ => by simp at h
  | q :: xs, 0, x, h, j, v, hj => by
    have hq : q = x := by simpa using h
    subst hq
    have hl : j < (enc q).length := (List.getElem?_eq_some_iff.1 hj).1
    rw [cellsG_cons, Nat.zero_mul, Nat.zero_add, List.getElem?_append_left hl]; exact hj
  | q :: xs, k + 1, x, h, j, v, hj => by
    have ih := cellsG_get hsz xs k x (by simpa using h) j v hj
    rw [cellsG_cons, List.getElem?_append_right (by rw [hsz, Nat.succ_mul]; omega)]
    rw [← ih]; congr 1; rw [hsz, Nat.succ_mul]; omega
/-- A list of elements lies at v. -/
def ListG (W : World) (v : Value) (xs : List α) : Prop :=
  ∃ (a : Option Addr) (cap b o : Nat), v = .slice a xs.length cap ∧ (xs ≠ [] → a = some ⟨b, o, none⟩) ∧ ∀ i x, xs[i]? = some x → ∀ j u, (enc x)[j]? = some u → W.cell? ⟨b, o + i * sz + j, none⟩ = some u
variable {enc sz t mk}
theorem ListG.same {W W2 : World} {v : Value} {xs : List α} (h : ListG enc sz W v xs) (hb : ∀ b, v.ownBlock = some b → W2.heap[b]? = W.heap[b]?) : ListG enc sz W2 v xs := by
  obtain ⟨a, c, b, o, rfl, ha, hc⟩ := h
  refine ⟨a, c, b, o, rfl, ha, fun i x hx j u hu => ?_⟩
  have he := ha (fun e => by rw [e] at hx; simp at hx)
  subst he
  exact (World.cell?_of_block (a := ⟨b, o + i * sz + j, none⟩) (hb b rfl)).trans (hc i x hx j u hu)
theorem ListG.own (hsz : ∀ x, (enc x).length = sz) {W : World} {B : Nat} {v : Value} {xs : List α} (h : W.ownsRow B t sz v xs.length (cellsG enc xs)) : ListG enc sz W v xs := by
  rcases h.2 with ⟨rfl, h0⟩ | ⟨g, cap, cur, rfl, hg, hgb, hcap, hm, hs, htk⟩
  · have : xs = [] := List.eq_nil_of_length_eq_zero h0
    subst this
    exact ⟨none, 0, 0, 0, rfl, fun h => absurd rfl h, fun i e he => by simp at he⟩
  · refine ⟨some ⟨g, 0, none⟩, cap, g, 0, rfl, fun _ => rfl, fun i x hx j u hu => ?_⟩
    have hj : j < sz := by have := (List.getElem?_eq_some_iff.1 hu).1; rwa [hsz] at this
    have := h.cells (g := g) rfl (i * sz + j) u (cellsG_get enc sz hsz xs i x hx j u hu)
    rw [Addr.add_mid] at this
    rw [Nat.zero_add]
    rw [Nat.zero_add] at this
    exact this

def marksG (mk : Nat → Nat → α) (k n : Nat) : List α := (List.range n).map (mk k)
theorem marksG_succ (k n : Nat) : marksG mk k (n + 1) = marksG mk k n ++ [mk k n] := by simp [marksG, List.range_succ]
theorem marksG_length (k n : Nat) : (marksG mk k n).length = n := by simp [marksG]
theorem marksG_get (k n i : Nat) (h : i < n) : (marksG mk k n)[i]? = some (mk k i) := by simp [marksG, h]

/-- The lists stand apart from each other and from the row that holds them. -/
structure HandedG (g : Nat) (us : List Value) : Prop where
  apart : ∀ (i j : Nat) (u v : Value), us[i]? = some u → us[j]? = some v → i ≠ j → u.ownBlock = none ∨ u.ownBlock ≠ v.ownBlock
  gap : ∀ (i : Nat) (u : Value), us[i]? = some u → u.ownBlock ≠ some g
def rowG (mk : Nat → Nat → α) (k i j : Nat) (xs : List α) : List α := if j < k then marksG mk j xs.length else if j = k then marksG mk k i ++ xs.drop i else xs
theorem rowG_length (k i j : Nat) (xs : List α) (hi : i ≤ xs.length) : (rowG mk k i j xs).length = xs.length := by
  unfold rowG
  split
  · rw [marksG_length]
  · split
    · rw [List.length_append, marksG_length, List.length_drop]; omega
    · rfl
/-- The lists ahead of the k-th are marked, and so are its first i elements. -/
def RwsG (enc : α → List Value) (sz t : Nat) (mk : Nat → Nat → α) (w : World) (B : Nat) (us : List Value) (xss : List (List α)) (k i : Nat) : Prop := ∀ (j : Nat) (u : Value) (xs : List α), us[j]? = some u → xss[j]? = some xs → w.ownsRow B t sz u xs.length (cellsG enc (rowG mk k i j xs))
theorem RwsG.below {w w' : World} {B : Nat} {us : List Value} {xss : List (List α)} {k i : Nat} (h : RwsG enc sz t mk w B us xss k i) (hb : Below w.heap.size w w') : RwsG enc sz t mk w' B us xss k i := fun j u xs h1 h2 => own_belowG (h j u xs h1 h2) hb
/-- One element of the k-th list is marked: w' is w but for the row of that list. -/
theorem RwsG.mark {w w' : World} {B g : Nat} {us : List Value} {xss : List (List α)} {k i : Nat} {u : Value} {xs : List α} (h : RwsG enc sz t mk w B us xss k i) (hA : HandedG g us) (hu : us[k]? = some u) (hx : xss[k]? = some xs)
    (hown : w'.ownsRow B t sz u xs.length (cellsG enc (rowG mk k (i + 1) k xs))) (hoth : ∀ b, u.ownBlock ≠ some b → w'.heap[b]? = w.heap[b]?) : RwsG enc sz t mk w' B us xss k (i + 1) := by
  intro j v ys hv hy
  by_cases hj : j = k
  · subst hj
    rw [hu] at hv
    rw [hx] at hy
    cases hv
    cases hy
    exact hown
  · have e : rowG mk k (i + 1) j ys = rowG mk k i j ys := by unfold rowG; simp [hj]
    rw [e]
    refine own_eq (h j v ys hv hy) (fun b hb => hoth b (fun e => ?_))
    rcases hA.apart j k v u hv hu hj with h1 | h1
    · rw [hb] at h1; cases h1
    · exact h1 (hb.trans e.symm)
theorem RwsG.next {w : World} {B : Nat} {us : List Value} {xss : List (List α)} {k : Nat} {xs : List α} (h : RwsG enc sz t mk w B us xss k xs.length) (hx : xss[k]? = some xs) : RwsG enc sz t mk w B us xss (k + 1) 0 := by
  intro j u ys hu hy
  have h2 := h j u ys hu hy
  have e : rowG mk k xs.length j ys = rowG mk (k + 1) 0 j ys := by
    unfold rowG
    by_cases h1 : j < k
    · rw [if_pos h1, if_pos (by omega)]
    · rw [if_neg h1]
      by_cases h2 : j = k
      · subst h2
        rw [hx] at hy
        cases hy
        rw [if_pos rfl, if_pos (by omega), List.drop_of_length_le (Nat.le_refl _), List.append_nil]
      · rw [if_neg h2, if_neg (by omega)]
        by_cases h3 : j = k + 1
        · rw [if_pos h3]; rfl
        · rw [if_neg h3]
  rw [← e]
  exact h2
theorem RwsG.start {w : World} {B : Nat} {us : List Value} {xss : List (List α)} (h : ∀ (j : Nat) (u : Value) (xs : List α), us[j]? = some u → xss[j]? = some xs → w.ownsRow B t sz u xs.length (cellsG enc xs)) : RwsG enc sz t mk w B us xss 0 0 := by
  intro j u xs h1 h2
  have e : rowG mk 0 0 j xs = xs := by
    unfold rowG
    rw [if_neg (by omega)]
    by_cases h : j = 0
    · rw [if_pos h]; rfl
    · rw [if_neg h]
  rw [e]; exact h j u xs h1 h2
theorem RwsG.done {w : World} {B n : Nat} {us : List Value} {xss : List (List α)} (h : RwsG enc sz t mk w B us xss n 0) (hn : n = us.length) (j : Nat) (u : Value) (xs : List α) (h1 : us[j]? = some u) (h2 : xss[j]? = some xs) : w.ownsRow B t sz u xs.length (cellsG enc (marksG mk j xs.length)) := by
  have h3 := h j u xs h1 h2
  have hj := (List.getElem?_eq_some_iff.1 h1).1
  unfold rowG at h3
  rw [if_pos (by omega)] at h3
  exact h3

/-- The first k lists have marks appended, behind the world w1. -/
structure GrewG (enc : α → List Value) (sz ts : Nat) (mk : Nat → Nat → α) (w1 wr : World) (us : List Value) (xss : List (List α)) (k : Nat) (vs : List Value) (gv : Value) : Prop where
  len : vs.length = k
  size : w1.heap.size ≤ wr.heap.size
  same : ∀ b, b < w1.heap.size → (∀ (j : Nat) (u : Value), j < k → us[j]? = some u → u.ownBlock ≠ some b) → wr.heap[b]? = w1.heap[b]?
  old : ∀ (j : Nat) (u : Value) (xs : List α), j < k → us[j]? = some u → xss[j]? = some xs → ListG enc sz wr u (marksG mk j xs.length)
  new : ∀ (j : Nat) (v : Value) (xs : List α), vs[j]? = some v → xss[j]? = some xs → ListG enc sz wr v (marksG mk j (xs.length + 64))
  row : wr.ownsRow w1.heap.size ts 1 gv k vs
  gap : ∀ (j : Nat) (v : Value), vs[j]? = some v → v.ownBlock ≠ gv.ownBlock
  blk : ∀ (j : Nat) (v u : Value), vs[j]? = some v → us[j]? = some u → v.ownBlock = u.ownBlock ∨ ∃ b, w1.heap.size ≤ b ∧ v.ownBlock = some b
/-- Of the k-th list, i marks are appended, behind the world w. -/
structure GrowsG (enc : α → List Value) (sz t : Nat) (mk : Nat → Nat → α) (w wr : World) (B k n i : Nat) (u v : Value) : Prop where
  size : w.heap.size ≤ wr.heap.size
  same : ∀ b, b < w.heap.size → u.ownBlock ≠ some b → wr.heap[b]? = w.heap[b]?
  old : ListG enc sz wr u (marksG mk k n)
  new : wr.ownsRow B t sz v (n + i) (cellsG enc (marksG mk k (n + i)))
  blk : v.ownBlock = u.ownBlock ∨ ∃ b, w.heap.size ≤ b ∧ v.ownBlock = some b
theorem GrowsG.below {w wr wr' : World} {B k n i : Nat} {u v : Value} (h : GrowsG enc sz t mk w wr B k n i u v) (hu : ∀ b, u.ownBlock = some b → b < w.heap.size) (hb : Below wr.heap.size wr wr') : GrowsG enc sz t mk w wr' B k n i u v :=
  ⟨Nat.le_trans h.size hb.size, fun b h1 h2 => (hb.block b (Nat.lt_of_lt_of_le h1 h.size)).trans (h.same b h1 h2), h.old.same (fun b h1 => hb.block b (Nat.lt_of_lt_of_le (hu b h1) h.size)), own_belowG h.new hb, h.blk⟩
theorem GrowsG.step (hsz : ∀ x, (enc x).length = sz) {w wr wr' : World} {B k n i : Nat} {u v v' : Value} (h : GrowsG enc sz t mk w wr B k n i u v) (hu : ∀ b, u.ownBlock = some b → b < w.heap.size) (hn : u.ownBlock = none → n = 0) (hv0 : ∃ a c, u = .slice a n c ∧ ∀ b, a = some b → ∃ g, b = ⟨g, 0, none⟩)
    (hown : wr'.ownsRow B t sz v' (n + i + 1) (cellsG enc (marksG mk k (n + i)) ++ enc (mk k (n + i)))) (hg : v'.ownBlock = v.ownBlock ∧ wr.grownBy wr' v.ownBlock ∨ (∃ b, wr.heap.size ≤ b ∧ v'.ownBlock = some b) ∧ wr.grownBy wr' none) :
    GrowsG enc sz t mk w wr' B k n (i + 1) u v' := by
  have e : cellsG enc (marksG mk k (n + i)) ++ enc (mk k (n + i)) = cellsG enc (marksG mk k (n + (i + 1))) := by
    rw [← Nat.add_assoc, marksG_succ, cellsG_append, cellsG_one]
  rw [e] at hown
  have hsz2 : wr.heap.size ≤ wr'.heap.size := by rcases hg with ⟨_, h1⟩ | ⟨_, h1⟩ <;> exact h1.size
  refine ⟨Nat.le_trans h.size hsz2, fun b h1 h2 => ?_, ?_, hown, ?_⟩
  · rcases hg with ⟨_, hg⟩ | ⟨_, hg⟩
    · refine (hg.block b (Nat.lt_of_lt_of_le h1 h.size) ?_).trans (h.same b h1 h2)
      rcases h.blk with h3 | ⟨b3, h3, h4⟩
      · rw [h3]; exact fun e => h2 e.symm
      · rw [h4]; intro e; cases e; omega
    · exact (hg.block b (Nat.lt_of_lt_of_le h1 h.size) (fun e => nomatch e)).trans (h.same b h1 h2)
  · rcases hg with ⟨hv, hg⟩ | ⟨_, hg⟩
    · rcases h.blk with h3 | ⟨b3, h3, h4⟩
      · obtain ⟨a, c, rfl, hb⟩ := hv0
        cases a with
        | none =>
          have hn0 := hn rfl
          subst hn0
          exact ⟨none, c, 0, 0, rfl, fun h => absurd rfl h, fun i x hx => by simp [marksG] at hx⟩
        | some ad =>
          obtain ⟨g, rfl⟩ := hb ad rfl
          refine ⟨some ⟨g, 0, none⟩, c, g, 0, by rw [marksG_length], fun _ => rfl, fun j x hx q y hy => ?_⟩
          have hjn : j < n := by have := (List.getElem?_eq_some_iff.1 hx).1; rwa [marksG_length] at this
          have hvb : v'.ownBlock = some g := by rw [hv, h3]; rfl
          have hx2 : (marksG mk k (n + (i + 1)))[j]? = some x := by
            rw [marksG_get _ _ _ hjn] at hx
            rw [marksG_get _ _ _ (by omega)]; exact hx
          have hc := hown.cells hvb (j * sz + q) y (cellsG_get enc sz hsz _ j x hx2 q y hy)
          rw [Addr.add_mid] at hc
          rw [Nat.zero_add]
          rw [Nat.zero_add] at hc
          exact hc
      · refine h.old.same (fun b hb => hg.block b (Nat.lt_of_lt_of_le (hu b hb) h.size) ?_)
        rw [h4]; intro e; cases e; have := hu _ hb; omega
    · exact h.old.same (fun b hb => hg.block b (Nat.lt_of_lt_of_le (hu b hb) h.size) (fun e => nomatch e))
  · rcases hg with ⟨hv, _⟩ | ⟨⟨b, h1, h2⟩, _⟩
    · rw [hv]; exact h.blk
    · exact .inr ⟨b, Nat.le_trans h.size h1, h2⟩
/-- Where a list with an element lies. -/
theorem ListG.blk (hsz : ∀ x, (enc x).length = sz) (h0 : 0 < sz) {W : World} {v : Value} {xs : List α} (h : ListG enc sz W v xs) (hn : 0 < xs.length) : ∃ b, v.ownBlock = some b ∧ b < W.heap.size := by
  obtain ⟨a, c, b, o, rfl, ha, hc⟩ := h
  have he := ha (fun e => by rw [e] at hn; simp at hn)
  subst he
  obtain ⟨x, hx⟩ : ∃ x, xs[0]? = some x := ⟨_, List.getElem?_eq_getElem hn⟩
  obtain ⟨u, hu⟩ : ∃ u, (enc x)[0]? = some u := ⟨_, List.getElem?_eq_getElem (by rw [hsz]; exact h0)⟩
  exact ⟨b, rfl, World.block_lt_of_cell? W _ (hc 0 x hx 0 u hu)⟩
/-- The k-th list is done: the next. -/
theorem GrewG.step (hsz : ∀ x, (enc x).length = sz) (h0 : 0 < sz) {ts : Nat} {w1 wr wr' wr2 : World} {B g k n : Nat} {us vs : List Value} {xss : List (List α)} {gv gv' u v : Value} {xs : List α} (h : GrewG enc sz ts mk w1 wr us xss k vs gv) (hA : HandedG g us) (hu : us[k]? = some u) (hx : xss[k]? = some xs) (hn : n = xs.length)
    (hlt : ∀ (j : Nat) (u : Value), us[j]? = some u → ∀ b, u.ownBlock = some b → b < w1.heap.size)
    (hG : GrowsG enc sz t mk wr wr' B k n 64 u v)
    (hown : wr2.ownsRow w1.heap.size ts 1 gv' (k + 1) (vs ++ [v])) (hg : gv'.ownBlock = gv.ownBlock ∧ wr'.grownBy wr2 gv.ownBlock ∨ (∃ b, wr'.heap.size ≤ b ∧ gv'.ownBlock = some b) ∧ wr'.grownBy wr2 none) :
    GrewG enc sz ts mk w1 wr2 us xss (k + 1) (vs ++ [v]) gv' := by
  subst hn
  have hul := hlt k u hu
  have hsz3 : wr'.heap.size ≤ wr2.heap.size := by rcases hg with ⟨_, h1⟩ | ⟨_, h1⟩ <;> exact h1.size
  have hvs : v.ownBlock ≠ none := by
    intro e
    rcases hG.new.2 with ⟨_, h0⟩ | ⟨g', cap, cur, rfl, _⟩
    · omega
    · cases e
  have hgv : ∀ b, gv.ownBlock = some b → w1.heap.size ≤ b ∧ b < wr.heap.size := fun b hb => own_lt h.row b hb
  have hvg : v.ownBlock ≠ gv.ownBlock := by
    rcases hG.blk with h1 | ⟨b, h1, h2⟩
    · intro e
      cases hb : v.ownBlock with
      | none => exact hvs hb
      | some b =>
        have := hul b (by rw [← h1]; exact hb)
        have := hgv b (by rw [← e]; exact hb)
        omega
    · intro e
      have := hgv b (by rw [← e]; exact h2)
      omega
  have hk : ∀ b, b < wr'.heap.size → gv.ownBlock ≠ some b → wr2.heap[b]? = wr'.heap[b]? := by
    intro b h1 h2
    rcases hg with ⟨_, hg⟩ | ⟨_, hg⟩
    · exact hg.block b h1 (fun e => h2 e.symm)
    · exact hg.block b h1 (fun e => nomatch e)
  have hvlt : ∀ b, v.ownBlock = some b → b < wr'.heap.size := fun b hb => (own_lt hG.new b hb).2
  have hvsl : ∀ (j : Nat) (v0 : Value), vs[j]? = some v0 → ∃ b, v0.ownBlock = some b ∧ b < wr.heap.size ∧ u.ownBlock ≠ some b := by
    intro j v0 hv0
    have hjk : j < k := by have := (List.getElem?_eq_some_iff.1 hv0).1; rw [h.len] at this; exact this
    obtain ⟨uj, huj⟩ : ∃ uj, us[j]? = some uj := ⟨_, List.getElem?_eq_getElem (by have := (List.getElem?_eq_some_iff.1 hu).1; omega)⟩
    obtain ⟨xj, hxj⟩ : ∃ xj, xss[j]? = some xj := ⟨_, List.getElem?_eq_getElem (by have := (List.getElem?_eq_some_iff.1 hx).1; omega)⟩
    obtain ⟨b, hb, hbl⟩ := (h.new j v0 xj hv0 hxj).blk hsz h0 (by rw [marksG_length]; omega)
    refine ⟨b, hb, hbl, ?_⟩
    rcases h.blk j _ uj hv0 huj with h1 | ⟨b1, h1, h2⟩
    · intro e
      rcases hA.apart j k uj u huj hu (by omega) with h5 | h5
      · rw [← h1, hb] at h5; cases h5
      · exact h5 (by rw [← h1, hb, e])
    · intro e
      have := hul _ e
      rw [hb] at h2
      cases h2
      omega
  refine ⟨by rw [List.length_append, h.len]; rfl, Nat.le_trans h.size (Nat.le_trans hG.size hsz3), fun b h1 h2 => ?_, fun j u' xs' h1 h2 h3 => ?_, fun j v' xs' h1 h2 => ?_, hown, fun j v' h1 => ?_, fun j v' u' h1 h2 => ?_⟩
  · have hb1 : b < wr.heap.size := Nat.lt_of_lt_of_le h1 h.size
    rw [hk b (Nat.lt_of_lt_of_le hb1 hG.size) (fun e => by have := (hgv b e).1; omega), hG.same b hb1 (h2 k u (by omega) hu)]
    exact h.same b h1 (fun j u' h3 h4 => h2 j u' (by omega) h4)
  · by_cases hj : j = k
    · subst hj
      rw [hu] at h2
      rw [hx] at h3
      cases h2
      cases h3
      exact hG.old.same (fun b hb => hk b (Nat.lt_of_lt_of_le (Nat.lt_of_lt_of_le (hul b hb) h.size) hG.size) (fun e => by have := (hgv b e).1; have := hul b hb; omega))
    · have hl := hlt j u' h2
      refine (h.old j u' xs' (by omega) h2 h3).same (fun b hb => ?_)
      have hb1 : b < wr.heap.size := Nat.lt_of_lt_of_le (hl b hb) h.size
      rw [hk b (Nat.lt_of_lt_of_le hb1 hG.size) (fun e => by have := (hgv b e).1; have := hl b hb; omega)]
      refine hG.same b hb1 (fun e => ?_)
      rcases hA.apart j k u' u h2 hu hj with h5 | h5
      · rw [hb] at h5; cases h5
      · exact h5 (hb.trans e.symm)
  · by_cases hj : j < vs.length
    · rw [List.getElem?_append_left hj] at h1
      refine (h.new j v' xs' h1 h2).same (fun b hb => ?_)
      obtain ⟨b2, hb2, h5, h6⟩ := hvsl j v' h1
      rw [hb] at hb2
      cases hb2
      rw [hk b (Nat.lt_of_lt_of_le h5 hG.size) (fun e => h.gap j v' h1 (by rw [hb, e]))]
      exact hG.same b h5 h6
    · have hjk : j = k := by
        have := (List.getElem?_eq_some_iff.1 h1).1
        rw [List.length_append, List.length_singleton] at this
        have := h.len
        omega
      subst hjk
      rw [List.getElem?_append_right (by omega), show j - vs.length = 0 by have := h.len; omega] at h1
      rw [hx] at h2
      cases h1
      cases h2
      have hT : ListG enc sz wr' v (marksG mk j (xs.length + 64)) := ListG.own (t := t) (B := B) hsz (by rw [marksG_length]; exact hG.new)
      exact hT.same (fun b hb => hk b (hvlt b hb) (fun e => hvg (by rw [hb, e])))
  · have hg2 : ∀ b, gv'.ownBlock = some b → gv.ownBlock = some b ∨ wr'.heap.size ≤ b := by
      intro b hb
      rcases hg with ⟨h5, _⟩ | ⟨⟨b5, h5, h6⟩, _⟩
      · exact .inl (by rw [← h5]; exact hb)
      · rw [hb] at h6; cases h6; exact .inr h5
    intro e
    by_cases hj : j < vs.length
    · rw [List.getElem?_append_left hj] at h1
      obtain ⟨b, hb, h5, _⟩ := hvsl j v' h1
      rcases hg2 b (by rw [← e]; exact hb) with h6 | h6
      · exact h.gap j v' h1 (by rw [hb, h6])
      · have := hG.size
        omega
    · rw [List.getElem?_append_right (by omega)] at h1
      have hv' : v' = v := by
        cases hd : j - vs.length with
        | zero => rw [hd] at h1; cases h1; rfl
        | succ m => rw [hd] at h1; cases h1
      subst hv'
      cases hb : v'.ownBlock with
      | none => exact hvs hb
      | some b =>
        rcases hg2 b (by rw [← e]; exact hb) with h5 | h5
        · exact hvg (by rw [hb, h5])
        · have := hvlt b hb
          omega
  · by_cases hj : j < vs.length
    · rw [List.getElem?_append_left hj] at h1
      exact h.blk j v' u' h1 h2
    · have hjk : j = k := by
        have := (List.getElem?_eq_some_iff.1 h1).1
        rw [List.length_append, List.length_singleton] at this
        have := h.len
        omega
      subst hjk
      rw [List.getElem?_append_right (by omega), show j - vs.length = 0 by have := h.len; omega] at h1
      rw [hu] at h2
      cases h1
      cases h2
      rcases hG.blk with h5 | ⟨b, h5, h6⟩
      · exact .inl h5
      · exact .inr ⟨b, Nat.le_trans h.size h5, h6⟩
end elements
end Go.Proofs.YtmnggnmgiflhjaaDoor
