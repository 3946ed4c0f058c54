/- What delta says of lists, without a program: what is unlike in two rows, what a change does; THE STAGE'S THEOREM on lists: what is unlike, done to the first tree, makes the second one. -/
import Derived.Test.YtgildlfanfbebaaGreatDoorRndW
import Derived.Test.YtgildlfanfbebaaGreatDoorDelW
import Derived.Stop.RegionWithIn

namespace Go.Proofs.YtgildlfanfbebaaGreatDoor
open Go Go.RowKit

/-- What a relation says of the world it says of the blocks of S alone; they are there. -/
structure LocalQ {α : Type} (J : List α → (Nat → Prop) → World → Prop) : Prop where
  keep : ∀ pre S A B, J pre S A → A.heap.size ≤ B.heap.size → (∀ k, S k → B.heap[k]? = A.heap[k]?) → J pre S B
  there : ∀ pre S A, J pre S A → ∀ k, S k → k < A.heap.size
theorem LocalQ.below {α : Type} {J : List α → (Nat → Prop) → World → Prop} (h : LocalQ J) {pre : List α} {S : Nat → Prop} {A B : World} (hj : J pre S A) (hb : Below A.heap.size A B) : J pre S B := h.keep pre S A B hj hb.size (fun k hk => hb.block k (h.there pre S A hj k hk))
/-- What a round owes. -/
def RoundQ {α : Type} (P : Program) (l : Nat) (va : α → Array Value) (xs : List α) (J : List α → (Nat → Prop) → World → Prop) : Prop :=
  ∀ m pre x S W1, J pre S W1 → pre ++ [x] <+: xs → YieldAt Fence.wide m P l (va x) W1 fun e W2 => e = .returned (.bool true) ∧ ∃ S2, J (pre ++ [x]) S2 W2 ∧ Rnd S S2 W1 W2
/-- The function g over lb hands on just the things xs, each as the values va x, in their order, while what I says stays. -/
def GivesQ {α : Type} (P : Program) (g : Nat) (lb : Array Value) (va : α → Array Value) (xs : List α) (I : World → Prop) (w : World) : Prop :=
  ∀ (n l : Nat) (J : List α → (Nat → Prop) → World → Prop) (S : Nat → Prop) (W : World), Below w.heap.size w W → LocalQ J → (∀ pre S W, J pre S W → I W) → RoundQ P l va xs J → J [] S W →
    CallsIn Fence.wide n P g (#[.func (.yield l) #[] #[]] ++ lb) W fun e W2 => (∃ v, e = .returned v) ∧ ∃ S2, J xs S2 W2 ∧ Rnd S S2 W W2

theorem range_lawQ {α : Type} {P : Program} {g : Operand} {ps : Array Tmp} {assign body : Code} {Q : Exit → Act → World → Prop} {a : Act} {w : World} {n : Nat}
    {gf : Nat} {lb : Array Value} (hg : a.eval g = .func (.func gf) #[] lb) (eg : ∀ args w, (callFunc gf args).run P w = .ok (.enter gf args) w)
    {xs : List α} {Iv : World → Prop} {w0 : World} {va : α → Array Value} (hva : ∀ x, (va x).size = ps.size) (hseq : GivesQ P gf lb va xs Iv w0) (hb0 : Below w0.heap.size w0 w)
    (I : List α → (Nat → Prop) → World → Prop) (S0 : Nat → Prop) (hI : LocalQ I) (hIv : ∀ pre S W, I pre S W → Iv W) (h0 : I [] S0 w) (a₁ : α → Act)
    (hassign : ∀ (m l : Nat) (x : α) (W : World) (K : Act → World → Prop), K (a₁ x) W →
      assign.wpIn (Fence.wide.inRound l) m P (Exit.then K (fun _ _ _ => False)) { tmps := (ps.zip (va x)).foldl (fun (tmps : Array Value) (x : Nat × Value) => match x with | (t, a) => tmps.setIfInBounds t a) a.tmps, defers := [] } W)
    (hbody : ∀ (m l : Nat) (pre : List α) (x : α) (S : Nat → Prop) (W : World), I pre S W → pre ++ [x] <+: xs →
      body.wpIn (Fence.wide.inRound l) m P (fun e _ W3 => e = .normal ∧ ∃ S2, I (pre ++ [x]) S2 W3 ∧ Rnd S S2 W W3) (a₁ x) W)
    (hdone : ∀ (D : Nat) (S : Nat → Prop) (W : World), w.heap.size ≤ D → I xs S W → Rnd S0 S w W → ¬ S D → W.heap[D]? = some (.deferred (some [])) → Q .normal { a with defers := { target := .collected D, args := #[] } :: a.defers } W) :
    (Code.rangeFunc g ps assign body).wpIn Fence.wide n P Q a w := by
  refine wpIn_rangeFunc fun fn hfn => ?_
  let rc : LoopState → Option Code → Loop := fun st pe => { state := st, pending := pe, fn, tmps := a.tmps, params := ps, assign, body, defers := w.heap.size }
  let L := w.heap.size + 1
  let D := w.heap.size
  have start : ∃ W1, (w.alloc (.deferred (some []))).alloc (.loop (rc .ready none)) = W1 := ⟨_, rfl⟩
  obtain ⟨W1, e1⟩ := start
  have sz : W1.heap.size = w.heap.size + 2 := by rw [← e1]; simp
  have atL : W1.heap[L]? = some (.loop (rc .ready none)) := by
    have h := World.alloc_heap_new (w.alloc (.deferred (some []))) (.loop (rc .ready none))
    rw [World.size_alloc] at h; rw [← e1]; exact h
  have atD : W1.heap[D]? = some (.deferred (some [])) := by
    rw [← e1]; exact (Below.heap_alloc _ _ _ (by simp [D])).trans (World.alloc_heap_new w _)
  have bw : Below w.heap.size w W1 := by rw [← e1]; exact ((Below.refl _ w).alloc (Nat.le_refl _) _).alloc (by simp) _
  have b1 : Below w0.heap.size w0 W1 := hb0.trans (bw.mono hb0.size)
  have i1 : I [] S0 W1 := hI.below h0 bw
  have nS : ∀ k, S0 k → k < w.heap.size := hI.there _ _ _ h0
  refine ⟨L, [{ target := .collected D, args := #[] }], W1, { target := .fn (.func gf) lb, args := #[.func (.yield L) #[] #[]] }, W1, gf, #[.func (.yield L) #[] #[]] ++ lb, W1, ?_, ?_, fun _ _ => trivial, ?_, ?_, ?_⟩
  · rw [← e1]; exact run_enterLoop_outer _ _ _ _ _
  · simp only [resolve, hg]; simp [go_sem]
  · simp [invoke, go_sem, eg]
  · intro h; exact absurd h (by simp [Fence.wide])
  refine (hseq (n - 1) L (fun pre S W => ∃ SI : Nat → Prop, I pre SI W ∧ W.heap[L]? = some (.loop (rc .ready none)) ∧ W.heap[D]? = some (.deferred (some [])) ∧ ¬ SI L ∧ ¬ SI D ∧ S = fun k => SI k ∨ k = L ∨ k = D)
    (fun k => S0 k ∨ k = L ∨ k = D) W1 b1 ?_ (fun pre S W h => by obtain ⟨SI, hi, _⟩ := h; exact hIv _ _ _ hi) ?_ ⟨S0, i1, atL, atD, fun h => by have := nS _ h; omega, fun h => by have := nS _ h; omega, rfl⟩).mono ?_
  · refine ⟨?_, ?_⟩
    · rintro pre S A B ⟨SI, h1, h2, h3, h4, h5, rfl⟩ hs hk
      exact ⟨SI, hI.keep pre SI A B h1 hs (fun k h => hk k (.inl h)), (hk L (.inr (.inl rfl))).trans h2, (hk D (.inr (.inr rfl))).trans h3, h4, h5, rfl⟩
    · rintro pre S A ⟨SI, h1, h2, h3, h4, h5, rfl⟩ k hk
      rcases hk with hk | hk | hk
      · exact hI.there pre SI A h1 k hk
      · subst hk; exact (Array.getElem?_eq_some_iff.1 h2).1
      · subst hk; exact (Array.getElem?_eq_some_iff.1 h3).1
  · rintro m pre x S W ⟨SI, hi, hl, hd, hnl, hnd, rfl⟩ hx
    have lt : L < W.heap.size := (Array.getElem?_eq_some_iff.1 hl).1
    have nSI := hI.there _ _ _ hi
    refine ⟨fn, _, assign, body, run_yield (P := P) (args := va x) hl (hva x), roundIn_of_wpIn hfn ?_⟩
    refine hassign _ _ x W _ ?_
    refine ⟨_, run_beginRound hl rfl, ?_⟩
    obtain ⟨WB, hWB⟩ : ∃ WB, W.putObj L (.loop { rc .ready none with state := .busy }) = WB := ⟨_, rfl⟩
    have szB : WB.heap.size = W.heap.size := by rw [← hWB, put_size]
    have otherB : ∀ k, k ≠ L → WB.heap[k]? = W.heap[k]? := fun k hk => by rw [← hWB]; exact World.putObj_heap_other (by omega)
    have hlB : WB.heap[L]? = some (.loop (rc .busy none)) := by rw [← hWB]; exact World.putObj_heap_same (by omega)
    have osB : WB.os = W.os ∧ WB.tape = W.tape ∧ WB.output = W.output := by rw [← hWB]; exact ⟨rfl, rfl, rfl⟩
    rw [hWB]
    have hiB : I pre SI WB := hI.keep pre SI W WB hi (by omega) (fun k hk => otherB k (fun e => hnl (e ▸ hk)))
    refine wpIn_mono (hbody _ _ pre x SI WB hiB hx) ?_
    rintro e a3 W3 ⟨rfl, S2, hi3, r3⟩
    have s3 := r3.size
    have nL2 : ∀ k, k < W.heap.size → ¬ SI k → ¬ S2 k := fun k hk h h2 => by
      rcases r3.more k h2 with h3 | h3
      · exact h h3
      · omega
    have hl3 : W3.heap[L]? = some (.loop (rc .busy none)) := (r3.same L (by omega) hnl).trans hlB
    have hd3 : W3.heap[D]? = some (.deferred (some [])) := (r3.same D (by omega) hnd).trans ((otherB D (by omega)).trans hd)
    refine ⟨_, _, run_endRound (P := P) none hl3, rfl, fun k => S2 k ∨ k = L ∨ k = D, ⟨S2, hI.keep _ S2 W3 _ hi3 (by rw [put_size]; exact Nat.le_refl _) (fun k hk => World.putObj_heap_other (fun e => nL2 L lt hnl (e ▸ hk))), World.putObj_heap_same (by omega), (World.putObj_heap_other (by omega)).trans hd3, nL2 L lt hnl, nL2 D (by omega) hnd, rfl⟩, ?_⟩
    refine ⟨r3.os.trans osB.1, r3.tape.trans osB.2.1, r3.output.trans osB.2.2, by rw [put_size]; omega, fun k hk hn => ?_, fun k hk => ?_⟩
    · have n1 : k ≠ L := fun e => hn (.inr (.inl e))
      have n2 : ¬ SI k := fun e => hn (.inl e)
      exact (World.putObj_heap_other (by omega)).trans ((r3.same k (by omega) n2).trans (otherB k n1))
    · rcases hk with hk | hk
      · rcases r3.more k hk with h3 | h3
        · exact .inl (.inl h3)
        · exact .inr ⟨by omega, by rw [put_size]; omega⟩
      · exact .inl (.inr hk)
  · rintro e W2 ⟨⟨v, rfl⟩, S2', ⟨SI, hi, hl, hd, hnl, hnd, rfl⟩, r2⟩
    have s2 := r2.size
    refine ⟨none, _, run_endLoop (P := P) hl (by simp [rc]), hdone D SI _ (Nat.le_refl _) (hI.keep _ SI W2 _ hi (by rw [put_size]; exact Nat.le_refl _) (fun k hk => World.putObj_heap_other (fun e => hnl (e ▸ hk)))) ?_ hnd ((World.putObj_heap_other (by omega)).trans hd)⟩
    refine ⟨r2.os.trans bw.os, r2.tape.trans bw.tape, r2.output.trans bw.output, by rw [put_size]; omega, fun k hk hn => ?_, fun k hk => ?_⟩
    · exact (World.putObj_heap_other (by omega)).trans ((r2.same k (by omega) (fun h => by rcases h with h | h | h; exact hn h; omega; omega)).trans (bw.block k hk))
    · rcases r2.more k (.inl hk) with h | h
      · rcases h with h | h | h
        · exact .inl h
        · exact absurd (h ▸ hk) hnl
        · exact absurd (h ▸ hk) hnd
      · exact .inr ⟨by omega, by rw [put_size]; omega⟩
end Go.Proofs.YtgildlfanfbebaaGreatDoor

namespace Go.Proofs.YtgildlfanfbebaaGreatDoor
open Go Go.RowKit
attribute [local go_sem] Oper.semAt_some

def noEnt : Ent := ⟨⟨#[]⟩, 0, 0, ⟨#[]⟩, ⟨#[]⟩⟩
/-- What the rows have at each place. -/
def togL : List Ent → List Ent → List (Ent × Ent)
  | [], [] => []
  | a :: A, [] => (a, noEnt) :: togL A []
  | [], b :: B => (noEnt, b) :: togL [] B
  | a :: A, b :: B =>
    if compareN a.path b.path < 0 then (a, noEnt) :: togL A (b :: B)
    else if 0 < compareN a.path b.path then (noEnt, b) :: togL (a :: A) B
    else (a, b) :: togL A B
termination_by A B => A.length + B.length
theorem togL_lt {A B : List Ent} (h : nearN A B < 0) (hn : A ≠ []) : ∃ a A', A = a :: A' ∧ togL A B = (a, noEnt) :: togL A' B := by
  cases A with
  | nil => exact absurd rfl hn
  | cons a A =>
    refine ⟨a, A, rfl, ?_⟩
    cases B with
    | nil => rw [togL]
    | cons b B => rw [togL]; rw [if_pos (show compareN a.path b.path < 0 from h)]
theorem togL_gt {A B : List Ent} (h : 0 < nearN A B) : ∃ b B', B = b :: B' ∧ togL A B = (noEnt, b) :: togL A B' := by
  cases B with
  | nil => cases A <;> simp [nearN] at h
  | cons b B =>
    refine ⟨b, B, rfl, ?_⟩
    cases A with
    | nil => rw [togL]
    | cons a A => rw [togL]; have h' : 0 < compareN a.path b.path := h; rw [if_neg (by omega), if_pos h']
theorem togL_eq {A B : List Ent} (h : nearN A B = 0) : ∃ a A' b B', A = a :: A' ∧ B = b :: B' ∧ togL A B = (a, b) :: togL A' B' := by
  cases B with
  | nil => cases A <;> simp [nearN] at h
  | cons b B =>
    cases A with
    | nil => simp [nearN] at h
    | cons a A =>
      refine ⟨a, A, b, B, rfl, rfl, ?_⟩
      rw [togL]; have h' : compareN a.path b.path = 0 := h; rw [if_neg (by omega), if_neg (by omega)]
/-- The rest of a row of entries, as the machine cuts it off. -/
theorem ents_drop {W : World} {a : Option Addr} {cap : Nat} {A : List Ent} (h : EntsAt W (.slice a A.length cap) A) {p : Nat} (hp : p ≤ A.length) : EntsAt W (.slice (if cap = p then a else a.map (·.add (p * 5))) (A.length - p) (cap - p)) (A.drop p) := by
  obtain ⟨a', cap', b, o, e, ha, hcap, hc⟩ := h
  cases e
  refine ⟨_, _, b, o + p * 5, by rw [List.length_drop], fun hne => ?_, by rw [List.length_drop]; omega, fun i e he => ?_⟩
  · have hpl : p < A.length := by
      rcases Nat.lt_or_ge p A.length with h | h
      · exact h
      · exact absurd (List.drop_eq_nil_of_le h) hne
    rw [if_neg (by omega), ha (fun e => by rw [e] at hpl; simp at hpl)]
    simp [Addr.add]
  · rw [List.getElem?_drop] at he
    have := hc (p + i) e he
    rw [Nat.add_mul, ← Nat.add_assoc] at this
    exact this
/-- The boxes hold the rows and the order. -/
structure TogI (ba bb bo : Nat) (u v : Value) (A B : List Ent) (W : World) : Prop where
  ca : W.cell? ⟨ba, 0, none⟩ = some u
  cb : W.cell? ⟨bb, 0, none⟩ = some v
  co : W.cell? ⟨bo, 0, none⟩ = some byV
  eu : EntsAt W u A
  ev : EntsAt W v B
end Go.Proofs.YtgildlfanfbebaaGreatDoor

namespace Go.Proofs.YtgildlfanfbebaaGreatDoor
open Go Go.RowKit

structure Chg where
  path : ByteArray
  gone : Bool
  e : Ent
def goneC (p : ByteArray) : Chg := ⟨p, true, noEnt⟩
def laidC (e : Ent) : Chg := ⟨e.path, false, e⟩
/-- Nothing is gone at top, or p does not lie below it. -/
def freeB (top p : ByteArray) : Bool := top.toList.isEmpty || !belowB top p
def lostB (top : ByteArray) (x : Ent × Ent) : Bool := (x.1.kind != 0) && (!sortB x.1 x.2 && freeB top x.1.path)
def newB (x : Ent × Ent) : Bool := (x.2.kind != 0) && !eqE x.2 x.1
def topN (top : ByteArray) (x : Ent × Ent) : ByteArray := if lostB top x then x.1.path else top
def emO (top : ByteArray) (x : Ent × Ent) : List Chg := (if lostB top x then [goneC x.1.path] else []) ++ (if newB x then [laidC x.2] else [])
def emL : ByteArray → List (Ent × Ent) → List Chg
  | _, [] => []
  | top, x :: ps => emO top x ++ emL (topN top x) ps
def topF (top : ByteArray) (ps : List (Ent × Ent)) : ByteArray := ps.foldl topN top
def unlikeL (a b : List Ent) : List Chg := emL ⟨#[]⟩ (togL a b)
theorem topF_snoc (top : ByteArray) (ps : List (Ent × Ent)) (x : Ent × Ent) : topF top (ps ++ [x]) = topN (topF top ps) x := by simp [topF]
theorem emL_snoc : ∀ (ps : List (Ent × Ent)) (top : ByteArray) (x : Ent × Ent), emL top (ps ++ [x]) = emL top ps ++ emO (topF top ps) x
  | [], top, x => by simp [emL, topF]
  | p :: ps, top, x => by
    rw [List.cons_append, emL, emL, emL_snoc ps, List.append_assoc]
    rfl

/-- What is wrong with a change, of the tree L. -/
def doN (L : List Ent) (c : Chg) : Int :=
  if c.gone then (if c.path.size = 0 then 15 else match L.find? (pathIs c.path) with | none => 10 | some _ => 0)
  else if c.e.path ≠ c.path then 1
  else if wrongN c.e ≠ 0 then wrongN c.e
  else if upN L c.e.path ≠ 0 then upN L c.e.path
  else match L.find? (pathIs c.e.path) with | none => 0 | some o => if sortB o c.e then 0 else 14
def doL (L : List Ent) (c : Chg) : List Ent := if c.gone then goneL L (namesP c.path) else laidL L c.e
/-- What comes out of changes, if none is wrong. -/
def runs : List Ent → List Chg → Option (List Ent)
  | L, [] => some L
  | L, c :: r => if doN L c = 0 then runs (doL L c) r else none
/-- A tree, but for the limits. -/
structure TrL (L : List Ent) : Prop where
  order : L.Pairwise ltE
  right : ∀ e ∈ L, wrongN e = 0
  up : ∀ e ∈ L, upN L e.path = 0

theorem eqE_iff (a b : Ent) : eqE a b = true ↔ a = b := by
  constructor
  · intro h
    unfold eqE at h
    simp only [Bool.and_eq_true, beq_iff_eq, toList_un] at h
    obtain ⟨h1, h2, h3, h4, h5, _⟩ := h
    cases a; cases b
    simp only at h1 h2 h3 h4 h5
    rw [un_inj h1, h2, h3, un_inj h4, un_inj h5]
  · rintro rfl; exact eqE_self a
theorem path_uniq {L : List Ent} (h : L.Pairwise ltE) {x y : Ent} (hx : x ∈ L) (hy : y ∈ L) (hp : x.path = y.path) : x = y := by
  obtain ⟨i, hi, rfl⟩ := List.getElem_of_mem hx
  obtain ⟨j, hj, rfl⟩ := List.getElem_of_mem hy
  rw [List.pairwise_iff_getElem] at h
  rcases Nat.lt_trichotomy i j with hij | hij | hij
  · have := h i j hi hj hij
    unfold ltE at this
    rw [hp, order_self] at this; omega
  · subst hij; rfl
  · have := h j i hj hi hij
    unfold ltE at this
    rw [hp, order_self] at this; omega
theorem find_mem {L : List Ent} (h : L.Pairwise ltE) {e : Ent} (he : e ∈ L) {p : ByteArray} (hp : e.path = p) : L.find? (pathIs p) = some e := by
  cases hf : L.find? (pathIs p) with
  | none => exact absurd (pathIs_iff.2 hp) (by simpa using List.find?_eq_none.1 hf e he)
  | some y =>
    have hy := pathIs_iff.1 (List.find?_some hf)
    rw [path_uniq h (List.mem_of_find?_eq_some hf) he (hy.trans hp.symm)]
theorem find_no {L : List Ent} {p : ByteArray} (h : ∀ e ∈ L, e.path ≠ p) : L.find? (pathIs p) = none :=
  List.find?_eq_none.2 fun e he hp => h e he (pathIs_iff.1 hp)
theorem up_iff {L : List Ent} (h : L.Pairwise ltE) (p : ByteArray) : upN L p = 0 ↔ ((parentB p).size = 0 ∨ ∃ f ∈ L, f.path = parentB p ∧ f.kind = 1) := by
  unfold upN
  by_cases hz : (parentB p).size = 0
  · rw [if_pos hz]; exact ⟨fun _ => .inl hz, fun _ => rfl⟩
  · rw [if_neg hz]
    constructor
    · intro h1
      cases hf : L.find? (pathIs (parentB p)) with
      | none => rw [hf] at h1; simp at h1
      | some y =>
        rw [hf] at h1
        refine .inr ⟨y, List.mem_of_find?_eq_some hf, pathIs_iff.1 (List.find?_some hf), ?_⟩
        simp only at h1
        by_cases hk : y.kind = 1
        · exact hk
        · rw [if_pos hk] at h1; omega
    · rintro (h1 | ⟨f, hf, hp, hk⟩)
      · exact absurd h1 hz
      · rw [find_mem h hf hp]; simp [hk]
theorem ne_empty {p : ByteArray} (h : p.size ≠ 0) : p.toList.isEmpty = false := (isEmpty_false p).2 (by omega)
theorem below_names {p q : ByteArray} (hp : p.size ≠ 0) (hq : q.size ≠ 0) : belowB p q = true ↔ ∃ y t, namesP q = namesP p ++ y :: t := by
  constructor
  · intro h
    obtain ⟨t, ht, he⟩ := below_pieces (ne_empty hp) h
    rw [pieces_names hp, pieces_names hq] at he
    have h2 := congrArg (List.map un) he
    simp only [List.map_append, List.map_map] at h2
    have hid : ∀ l : List (List UInt8), List.map (un ∘ bs) l = l := fun l => by
      induction l with
      | nil => rfl
      | cons a l ih => simp [un_bs, ih]
    rw [hid, hid] at h2
    cases t with
    | nil => exact absurd rfl ht
    | cons y t => exact ⟨un y, t.map un, by simpa using h2⟩
  · rintro ⟨y, t, h⟩
    refine pieces_below (ne_empty hp) (u := (y :: t).map bs) (by simp) ?_
    rw [pieces_names hp, pieces_names hq, h]; simp
theorem pre_cases {p q : ByteArray} (hp : p.size ≠ 0) (hq : q.size ≠ 0) : (namesP p).isPrefixOf (namesP q) = true ↔ (q = p ∨ belowB p q = true) := by
  rw [List.isPrefixOf_iff_prefix]
  constructor
  · rintro ⟨t, ht⟩
    cases t with
    | nil => exact .inl (names_inj hq hp (by rw [← ht]; simp))
    | cons y t => exact .inr ((below_names hp hq).2 ⟨y, t, ht.symm⟩)
  · rintro (rfl | h)
    · exact List.prefix_refl _
    · obtain ⟨y, t, ht⟩ := (below_names hp hq).1 h
      exact ⟨y :: t, ht.symm⟩
theorem path_full {e : Ent} (h : wrongN e = 0) : e.path.size ≠ 0 := (check_facts (wrong_check h)).1
theorem kind_full {e : Ent} (h : wrongN e = 0) : e.kind = 1 ∨ e.kind = 2 ∨ e.kind = 3 := by
  unfold wrongN at h
  by_cases h1 : e.kind ≠ 1 ∧ e.kind ≠ 2 ∧ e.kind ≠ 3
  · rw [if_pos h1] at h; omega
  · omega
/-- Below a path there is something: there is a directory at it. -/
theorem TrL.above {L : List Ent} (h : TrL L) {t : ByteArray} (ht : t.size ≠ 0) : ∀ (s : List (List UInt8)) (y : List UInt8) (e : Ent), e ∈ L → namesP e.path = namesP t ++ y :: s → ∃ f ∈ L, f.path = t ∧ f.kind = 1 := by
  have main : ∀ (n : Nat) (s : List (List UInt8)) (y : List UInt8) (e : Ent), s.length = n → e ∈ L → namesP e.path = namesP t ++ y :: s → ∃ f ∈ L, f.path = t ∧ f.kind = 1 := by
    intro n
    induction n with
    | zero =>
      intro s y e hs he hn
      obtain rfl := List.eq_nil_of_length_eq_zero hs
      have hsp := names_split (wrong_check (h.right e he))
      rw [hn] at hsp
      have hpt : namesP (parentB e.path) = namesP t := (List.append_inj' hsp (by simp)).1
      have hps : (parentB e.path).size ≠ 0 := fun h0 => by
        have : namesP (parentB e.path) = [] := by unfold namesP; rw [if_pos h0]
        rw [this] at hpt
        exact names_ne ht hpt.symm
      rcases (up_iff h.order e.path).1 (h.up e he) with h1 | ⟨f, hf, hp, hk⟩
      · exact absurd h1 hps
      · exact ⟨f, hf, by rw [hp]; exact names_inj hps ht hpt, hk⟩
    | succ n ih =>
      intro s y e hs he hn
      obtain ⟨s', z, rfl⟩ : ∃ s' z, s = s' ++ [z] := by
        rcases List.eq_nil_or_concat s with rfl | ⟨l, d, rfl⟩
        · simp at hs
        · exact ⟨l, d, by simp⟩
      have hsp := names_split (wrong_check (h.right e he))
      rw [hn, show namesP t ++ y :: (s' ++ [z]) = (namesP t ++ y :: s') ++ [z] by simp] at hsp
      have hpt : namesP (parentB e.path) = namesP t ++ y :: s' := (List.append_inj' hsp (by simp)).1
      have hps : (parentB e.path).size ≠ 0 := fun h0 => by
        have : namesP (parentB e.path) = [] := by unfold namesP; rw [if_pos h0]
        rw [this] at hpt; simp at hpt
      rcases (up_iff h.order e.path).1 (h.up e he) with h1 | ⟨f, hf, hp, hk⟩
      · exact absurd h1 hps
      · exact ih s' y f (by simpa using hs) hf (by rw [hp]; exact hpt)
  intro s y e
  exact main s.length s y e rfl
theorem TrL.dir {L : List Ent} (h : TrL L) {t : ByteArray} (ht : t.size ≠ 0) {e : Ent} (he : e ∈ L) (hb : belowB t e.path = true) : ∃ f ∈ L, f.path = t ∧ f.kind = 1 := by
  obtain ⟨y, s, hn⟩ := (below_names ht (path_full (h.right e he))).1 hb
  exact h.above ht s y e he hn
theorem free_on {top p q : ByteArray} (h : freeB top p = true) (h0 : top.size = 0 ∨ compareN top p < 0) (h1 : compareN p q < 0) : freeB top q = true := by
  unfold freeB at h ⊢
  cases ht : top.toList.isEmpty with
  | true => rfl
  | false =>
    have hs : top.size ≠ 0 := by have := (isEmpty_false top).1 ht; omega
    rw [ht] at h
    simp only [Bool.false_or, Bool.not_eq_true'] at h ⊢
    cases hb : belowB top q with
    | false => rfl
    | true =>
      rcases h0 with h0 | h0
      · exact absurd h0 hs
      · rw [order_between ht hb h0 h1] at h; cases h

/-- What there is while the changes are done: what of b is made, what of a is left. -/
def cur (top : ByteArray) (B A : List Ent) : List Ent := B ++ A.filter fun x => freeB top x.path
structure Inv (a b A0 A1 B0 B1 : List Ent) (top : ByteArray) : Prop where
  ea : a = A0 ++ A1
  eb : b = B0 ++ B1
  l1 : ∀ x ∈ B0, ∀ y ∈ A1, ltE x y
  top : top.size = 0 ∨ ∃ t ∈ A0, t.path = top ∧ ∀ e ∈ b, e.path = top → sortB t e = false

theorem laid_mid {B R : List Ent} {e : Ent} (h1 : ∀ x ∈ B, ltE x e) (h2 : ∀ y ∈ R, ltE e y) : laidL (B ++ R) e = B ++ e :: R := by
  unfold laidL
  rw [List.filter_append, List.filter_append]
  have f1 : B.filter (fun x => decide (compareN x.path e.path < 0)) = B := List.filter_eq_self.2 fun x hx => by have := h1 x hx; unfold ltE at this; simpa using this
  have f2 : R.filter (fun x => decide (compareN x.path e.path < 0)) = [] := List.filter_eq_nil_iff.2 fun y hy => by
    have := h2 y hy; unfold ltE at this; have h3 := order_neg e.path y.path; simp; omega
  have f3 : B.filter (fun x => decide (0 < compareN x.path e.path)) = [] := List.filter_eq_nil_iff.2 fun y hy => by
    have := h1 y hy; unfold ltE at this; simp; omega
  have f4 : R.filter (fun x => decide (0 < compareN x.path e.path)) = R := List.filter_eq_self.2 fun y hy => by
    have := h2 y hy; unfold ltE at this; have h3 := order_neg e.path y.path; simp; omega
  rw [f1, f2, f3, f4]; simp
theorem laid_over {B R : List Ent} {o e : Ent} (ho : o.path = e.path) (h1 : ∀ x ∈ B, ltE x e) (h2 : ∀ y ∈ R, ltE e y) : laidL (B ++ o :: R) e = B ++ e :: R := by
  rw [← laid_mid h1 h2]
  unfold laidL
  simp [List.filter_append, ho, order_self]
theorem gone_mid {B A : List Ent} {x : Ent} {top : ByteArray} (hx : x.path.size ≠ 0) (hB : ∀ y ∈ B, y.path.size ≠ 0) (hA : ∀ y ∈ A, y.path.size ≠ 0) (hf : freeB top x.path = true) (h0 : top.size = 0 ∨ compareN top x.path < 0) (h1 : ∀ y ∈ B, ltE y x) (h2 : ∀ y ∈ A, ltE x y) :
    goneL (B ++ x :: A.filter fun y => freeB top y.path) (namesP x.path) = B ++ A.filter fun y => freeB x.path y.path := by
  unfold goneL
  rw [List.filter_append]
  have f1 : B.filter (fun e => !(namesP x.path).isPrefixOf (namesP e.path)) = B := List.filter_eq_self.2 fun y hy => by
    cases hp : (namesP x.path).isPrefixOf (namesP y.path) with
    | false => rfl
    | true =>
      have hl := h1 y hy
      unfold ltE at hl
      rcases (pre_cases hx (hB y hy)).1 hp with h | h
      · rw [h, order_self] at hl; omega
      · have := order_below (ne_empty hx) h; have h3 := order_neg x.path y.path; omega
  have f2 : (x :: A.filter fun y => freeB top y.path).filter (fun e => !(namesP x.path).isPrefixOf (namesP e.path)) = A.filter fun y => freeB x.path y.path := by
    rw [List.filter_cons, if_neg (by simp), List.filter_filter]
    refine List.filter_congr fun y hy => ?_
    have hl := h2 y hy
    rw [free_on hf h0 hl, Bool.and_true]
    unfold freeB
    rw [ne_empty hx, Bool.false_or]
    congr 1
    cases hp : (namesP x.path).isPrefixOf (namesP y.path) with
    | true =>
      rcases (pre_cases hx (hA y hy)).1 hp with h | h
      · unfold ltE at hl; rw [h, order_self] at hl; omega
      · rw [h]
    | false =>
      cases hb : belowB x.path y.path with
      | false => rfl
      | true => rw [(pre_cases hx (hA y hy)).2 (.inr hb)] at hp; cases hp
  rw [f1, f2]
theorem kind_ne {e : Ent} (h : wrongN e = 0) : (e.kind != 0) = true := by
  rcases kind_full h with h | h | h <;> simp [h]
theorem sort_none (x : Ent) : sortB x noEnt = false := by simp [sortB, noEnt]
theorem sort_self {x : Ent} (h : wrongN x = 0) : sortB x x = true := by simp [sortB, kind_ne h]
theorem cur_order {a b A0 A1 B0 B1 : List Ent} {top : ByteArray} (ha : TrL a) (hb : TrL b) (hI : Inv a b A0 A1 B0 B1 top) : (cur top B0 A1).Pairwise ltE := by
  have h1 := ha.order
  have h2 := hb.order
  rw [hI.ea] at h1
  rw [hI.eb] at h2
  exact List.pairwise_append.2 ⟨(List.pairwise_append.1 h2).1, (List.pairwise_append.1 h1).2.1.filter _, fun x hx y hy => hI.l1 x hx y (List.mem_filter.1 hy).1⟩
/-- y's parent is there when it is laid. -/
theorem up_cur {b A1 B0 B1 : List Ent} {top : ByteArray} {y : Ent} (hb : TrL b) (ho : (cur top B0 A1).Pairwise ltE) (he : b = B0 ++ y :: B1) : upN (cur top B0 A1) y.path = 0 := by
  have hyb : y ∈ b := by rw [he]; simp
  have hor := hb.order
  rw [he] at hor
  obtain ⟨_, o2, o3⟩ := List.pairwise_append.1 hor
  refine (up_iff ho _).2 ?_
  rcases (up_iff hb.order y.path).1 (hb.up y hyb) with h1 | ⟨f, hf, hp, hk⟩
  · exact .inl h1
  · by_cases hz : (parentB y.path).size = 0
    · exact .inl hz
    · refine .inr ⟨f, ?_, hp, hk⟩
      have hlt : ltE f y := lt_below (y := un (lastB y.path)) (t := []) (path_full (hb.right f hf)) (path_full (hb.right y hyb)) (by rw [hp]; exact (names_split (wrong_check (hb.right y hyb))).symm)
      rw [he] at hf
      rcases List.mem_append.1 hf with h | h
      · exact List.mem_append.2 (.inl h)
      · rcases List.mem_cons.1 h with h | h
        · rw [h] at hlt; exact absurd hlt (ltE_self _)
        · exact absurd ((List.pairwise_cons.1 o2).1 _ h) (ltE_asymm hlt)
/-- A path of both trees does not lie below what is gone. -/
theorem free_both {a b A0 A1 B0 B1 : List Ent} {top : ByteArray} (ha : TrL a) (hb : TrL b) (hI : Inv a b A0 A1 B0 B1 top) {x y : Ent} (hx : x ∈ a) (hy : y ∈ b) (hp : x.path = y.path) : freeB top x.path = true := by
  unfold freeB
  cases ht : top.toList.isEmpty with
  | true => rfl
  | false =>
    have hs : top.size ≠ 0 := by have := (isEmpty_false top).1 ht; omega
    cases hbl : belowB top x.path with
    | false => rfl
    | true =>
      rcases hI.top with h0 | ⟨t, htA, htp, hts⟩
      · exact absurd h0 hs
      · obtain ⟨f, hf, hfp, hfk⟩ := ha.dir hs hx hbl
        obtain ⟨g, hg, hgp, hgk⟩ := hb.dir hs hy (by rw [← hp]; exact hbl)
        have hta : t ∈ a := by rw [hI.ea]; exact List.mem_append.2 (.inl htA)
        have := hts g hg hgp
        rw [path_uniq ha.order hta hf (htp.trans hfp.symm)] at this
        simp [sortB, hfk, hgk] at this
theorem top_lt {a b A0 A1 B0 B1 : List Ent} {top : ByteArray} (ha : TrL a) (hI : Inv a b A0 A1 B0 B1 top) {x : Ent} (hx : x ∈ A1) : top.size = 0 ∨ compareN top x.path < 0 := by
  rcases hI.top with h0 | ⟨t, htA, htp, _⟩
  · exact .inl h0
  · have h1 := ha.order
    rw [hI.ea] at h1
    have := (List.pairwise_append.1 h1).2.2 t htA x hx
    unfold ltE at this
    rw [htp] at this
    exact .inr this
theorem runs_gone {L : List Ent} {x : Ent} {r : List Chg} (ho : L.Pairwise ltE) (hx : x ∈ L) (h0 : x.path.size ≠ 0) : runs L (goneC x.path :: r) = runs (goneL L (namesP x.path)) r := by
  have hd : doN L (goneC x.path) = 0 := by
    unfold doN goneC
    simp only [if_true]
    rw [if_neg h0, find_mem ho hx rfl]
  rw [runs, if_pos hd]
  rfl
theorem runs_laid {L : List Ent} {y : Ent} {r : List Chg} (hw : wrongN y = 0) (hu : upN L y.path = 0) (hs : ∀ o, L.find? (pathIs y.path) = some o → sortB o y = true) : runs L (laidC y :: r) = runs (laidL L y) r := by
  have hd : doN L (laidC y) = 0 := by
    unfold doN laidC
    simp only [Bool.false_eq_true, if_false, ne_eq, not_true_eq_false, hw, hu]
    cases hf : L.find? (pathIs y.path) with
    | none => rfl
    | some o => simp [hs o hf]
  rw [runs, if_pos hd]
  rfl
theorem makes_go {a b : List Ent} (ha : TrL a) (hb : TrL b) : ∀ (n : Nat) (A0 A1 B0 B1 : List Ent) (top : ByteArray), A1.length + B1.length ≤ n → Inv a b A0 A1 B0 B1 top → runs (cur top B0 A1) (emL top (togL A1 B1)) = some b := by
  intro n
  induction n with
  | zero =>
    intro A0 A1 B0 B1 top hn hI
    obtain rfl : A1 = [] := List.eq_nil_of_length_eq_zero (by omega)
    obtain rfl : B1 = [] := List.eq_nil_of_length_eq_zero (by omega)
    rw [togL, emL, runs, hI.eb]; simp [cur]
  | succ n ih =>
    intro A0 A1 B0 B1 top hn hI
    by_cases hbase : A1 = [] ∧ B1 = []
    · obtain ⟨rfl, rfl⟩ := hbase
      rw [togL, emL, runs, hI.eb]; simp [cur]
    have ho := cur_order ha hb hI
    have hoa := ha.order
    have hob := hb.order
    rw [hI.ea] at hoa
    rw [hI.eb] at hob
    obtain ⟨oa1, oa2, oa3⟩ := List.pairwise_append.1 hoa
    obtain ⟨ob1, ob2, ob3⟩ := List.pairwise_append.1 hob
    have hfB : ∀ y ∈ B0, y.path.size ≠ 0 := fun y hy => path_full (hb.right y (by rw [hI.eb]; simp [hy]))
    have hfA : ∀ y ∈ A1, y.path.size ≠ 0 := fun y hy => path_full (ha.right y (by rw [hI.ea]; simp [hy]))
    rcases Int.lt_trichotomy (nearN A1 B1) 0 with hlt | heq | hgt
    · -- only the first row has something here
      have hA1 : A1 ≠ [] := by
        rintro rfl
        cases B1 with
        | nil => exact hbase ⟨rfl, rfl⟩
        | cons y B => simp [nearN] at hlt
      obtain ⟨x, A, rfl, htog⟩ := togL_lt hlt hA1
      have hxa : x ∈ a := by rw [hI.ea]; simp
      have hxw := ha.right x hxa
      have hx0 := path_full hxw
      have hn2 : newB (x, noEnt) = false := by simp [newB, noEnt]
      have hl2 : lostB top (x, noEnt) = freeB top x.path := by simp [lostB, kind_ne hxw, sort_none]
      rw [htog, emL]
      cases hf : freeB top x.path with
      | true =>
        have hemo : emO top (x, noEnt) = [goneC x.path] := by simp [emO, hn2, hl2, hf]
        have htop : topN top (x, noEnt) = x.path := by simp [topN, hl2, hf]
        have hcur : cur top B0 (x :: A) = B0 ++ x :: A.filter fun y => freeB top y.path := by simp [cur, hf]
        rw [hemo, htop, List.singleton_append, runs_gone ho (by rw [hcur]; simp) hx0, hcur, gone_mid hx0 hfB (fun y hy => hfA y (by simp [hy])) hf (top_lt ha hI (by simp)) (fun y hy => hI.l1 y hy x (by simp)) (fun y hy => (List.pairwise_cons.1 oa2).1 y hy)]
        refine ih (A0 ++ [x]) A B0 B1 x.path (by simp at hn ⊢; omega) ⟨by rw [hI.ea]; simp, hI.eb, fun u hu v hv => hI.l1 u hu v (by simp [hv]), .inr ⟨x, by simp, rfl, fun e he hp => ?_⟩⟩
        exfalso
        rw [hI.eb] at he
        rcases List.mem_append.1 he with h | h
        · have := hI.l1 e h x (by simp)
          unfold ltE at this; rw [hp, order_self] at this; omega
        · cases B1 with
          | nil => simp at h
          | cons y B =>
            have hxy : compareN x.path y.path < 0 := hlt
            rcases List.mem_cons.1 h with h | h
            · rw [← h, hp, order_self] at hxy; omega
            · have := (List.pairwise_cons.1 ob2).1 e h
              unfold ltE at this
              have h3 := order_trans hxy this
              rw [hp, order_self] at h3; omega
      | false =>
        have hemo : emO top (x, noEnt) = [] := by simp [emO, hn2, hl2, hf]
        have htop : topN top (x, noEnt) = top := by simp [topN, hl2, hf]
        have hcur : cur top B0 (x :: A) = cur top B0 A := by simp [cur, hf]
        rw [hemo, htop, List.nil_append, hcur]
        refine ih (A0 ++ [x]) A B0 B1 top (by simp at hn ⊢; omega) ⟨by rw [hI.ea]; simp, hI.eb, fun u hu v hv => hI.l1 u hu v (by simp [hv]), ?_⟩
        rcases hI.top with h0 | ⟨t, htA, h1, h2⟩
        · exact .inl h0
        · exact .inr ⟨t, by simp [htA], h1, h2⟩
    · -- both have something at one path
      obtain ⟨x, A, y, B, rfl, rfl, htog⟩ := togL_eq heq
      have hxy : x.path = y.path := order_zero heq
      have hxa : x ∈ a := by rw [hI.ea]; simp
      have hyb : y ∈ b := by rw [hI.eb]; simp
      have hxw := ha.right x hxa
      have hyw := hb.right y hyb
      have hx0 := path_full hxw
      have hf := free_both ha hb hI hxa hyb hxy
      have hcur : cur top B0 (x :: A) = B0 ++ x :: A.filter fun z => freeB top z.path := by simp [cur, hf]
      have hup := up_cur (y := y) (B1 := B) hb ho hI.eb
      have hBy : ∀ u ∈ B0, ltE u y := fun u hu => ob3 u hu y (by simp)
      have hAy : ∀ v ∈ A, ltE y v := fun v hv => by
        have := (List.pairwise_cons.1 oa2).1 v hv
        unfold ltE at this ⊢; rw [← hxy]; exact this
      have hI2 : ∀ t, (t.size = 0 ∨ ∃ q ∈ A0 ++ [x], q.path = t ∧ ∀ e ∈ b, e.path = t → sortB q e = false) → Inv a b (A0 ++ [x]) A (B0 ++ [y]) B t := fun t ht => ⟨by rw [hI.ea]; simp, by rw [hI.eb]; simp, fun u hu v hv => by
        rcases List.mem_append.1 hu with hu | hu
        · exact hI.l1 u hu v (by simp [hv])
        · simp at hu; subst hu; exact hAy v hv, ht⟩
      have hold : top.size = 0 ∨ ∃ q ∈ A0 ++ [x], q.path = top ∧ ∀ e ∈ b, e.path = top → sortB q e = false := by
        rcases hI.top with h0 | ⟨t, htA, h1, h2⟩
        · exact .inl h0
        · exact .inr ⟨t, by simp [htA], h1, h2⟩
      rw [htog, emL]
      cases hs : sortB x y with
      | true =>
        have hl2 : lostB top (x, y) = false := by simp [lostB, hs]
        have htop : topN top (x, y) = top := by simp [topN, hl2]
        cases he : eqE y x with
        | true =>
          have hyx := (eqE_iff y x).1 he
          have hemo : emO top (x, y) = [] := by simp [emO, hl2, newB, he]
          rw [hemo, htop, List.nil_append, hcur, show B0 ++ x :: A.filter (fun z => freeB top z.path) = cur top (B0 ++ [y]) A by simp [cur, hyx]]
          exact ih (A0 ++ [x]) A (B0 ++ [y]) B top (by simp at hn ⊢; omega) (hI2 top hold)
        | false =>
          have hemo : emO top (x, y) = [laidC y] := by simp [emO, hl2, newB, he, kind_ne hyw]
          rw [hemo, htop, List.singleton_append, runs_laid hyw hup (fun o hfo => by
            rw [find_mem ho (by rw [hcur]; simp) hxy] at hfo
            cases hfo; exact hs), hcur, laid_over hxy hBy (fun v hv => hAy v (List.mem_filter.1 hv).1), show B0 ++ y :: A.filter (fun z => freeB top z.path) = cur top (B0 ++ [y]) A by simp [cur]]
          exact ih (A0 ++ [x]) A (B0 ++ [y]) B top (by simp at hn ⊢; omega) (hI2 top hold)
      | false =>
        have hne : eqE y x = false := by
          cases he : eqE y x with
          | false => rfl
          | true =>
            have hyx := (eqE_iff y x).1 he
            rw [hyx, sort_self hxw] at hs; cases hs
        have hl2 : lostB top (x, y) = true := by simp [lostB, hs, hf, kind_ne hxw]
        have htop : topN top (x, y) = x.path := by simp [topN, hl2]
        have hemo : emO top (x, y) = [goneC x.path, laidC y] := by simp [emO, hl2, newB, hne, kind_ne hyw]
        have hg := gone_mid (B := B0) (A := A) hx0 hfB (fun y hy => hfA y (by simp [hy])) hf (top_lt ha hI (by simp)) (fun y hy => hI.l1 y hy x (by simp)) (fun y hy => (List.pairwise_cons.1 oa2).1 y hy)
        have hI3 : Inv a b (A0 ++ [x]) A B0 (y :: B) x.path := ⟨by rw [hI.ea]; simp, hI.eb, fun u hu v hv => hI.l1 u hu v (by simp [hv]), .inr ⟨x, by simp, rfl, fun e he hp => by rw [path_uniq hb.order he hyb (hp.trans hxy)]; exact hs⟩⟩
        have ho3 := cur_order ha hb hI3
        rw [hemo, htop, List.cons_append, List.singleton_append, runs_gone ho (by rw [hcur]; simp) hx0, hcur, hg]
        rw [show B0 ++ A.filter (fun z => freeB x.path z.path) = cur x.path B0 A from rfl]
        rw [runs_laid hyw (up_cur hb ho3 hI.eb) (fun o hfo => by
            have h1 := List.mem_of_find?_eq_some hfo
            have h2 : o.path = y.path := pathIs_iff.1 (List.find?_some hfo)
            rcases List.mem_append.1 h1 with h | h
            · have := hBy o h; unfold ltE at this; rw [h2, order_self] at this; omega
            · have := hAy o (List.mem_filter.1 h).1; unfold ltE at this; rw [h2, order_self] at this; omega)]
        rw [show laidL (cur x.path B0 A) y = cur x.path (B0 ++ [y]) A by
          unfold cur
          rw [laid_mid hBy (fun v hv => hAy v (List.mem_filter.1 hv).1)]; simp]
        exact ih (A0 ++ [x]) A (B0 ++ [y]) B x.path (by simp at hn ⊢; omega) (hI2 x.path (.inr ⟨x, by simp, rfl, fun e he hp => by rw [path_uniq hb.order he hyb (hp.trans hxy)]; exact hs⟩))
    · -- only the second row has something here
      obtain ⟨y, B, rfl, htog⟩ := togL_gt hgt
      have hyb : y ∈ b := by rw [hI.eb]; simp
      have hyw := hb.right y hyb
      have hBy : ∀ u ∈ B0, ltE u y := fun u hu => ob3 u hu y (by simp)
      have hAy : ∀ v ∈ A1, ltE y v := fun v hv => by
        cases A1 with
        | nil => simp at hv
        | cons x A =>
          have hxy : 0 < compareN x.path y.path := hgt
          have h3 := order_neg x.path y.path
          have h4 : compareN y.path x.path < 0 := by omega
          rcases List.mem_cons.1 hv with h | h
          · rw [h]; exact h4
          · have := (List.pairwise_cons.1 oa2).1 v h
            exact order_trans h4 this
      have hne : eqE y noEnt = false := by
        cases he : eqE y noEnt with
        | false => rfl
        | true =>
          have := kind_ne hyw
          rw [(eqE_iff y noEnt).1 he] at this
          simp [noEnt] at this
      have hl2 : lostB top (noEnt, y) = false := by simp [lostB, noEnt]
      have htop : topN top (noEnt, y) = top := by simp [topN, hl2]
      have hemo : emO top (noEnt, y) = [laidC y] := by simp [emO, hl2, newB, hne, kind_ne hyw]
      have hno : ∀ o, (cur top B0 A1).find? (pathIs y.path) = some o → sortB o y = true := fun o hfo => by
        have h1 := List.mem_of_find?_eq_some hfo
        have h2 : o.path = y.path := pathIs_iff.1 (List.find?_some hfo)
        rcases List.mem_append.1 h1 with h | h
        · have := hBy o h; unfold ltE at this; rw [h2, order_self] at this; omega
        · have := hAy o (List.mem_filter.1 h).1; unfold ltE at this; rw [h2, order_self] at this; omega
      rw [htog, emL, hemo, htop, List.singleton_append, runs_laid hyw (up_cur (B1 := B) hb ho hI.eb) hno]
      rw [show laidL (cur top B0 A1) y = cur top (B0 ++ [y]) A1 by
          unfold cur
          rw [laid_mid hBy (fun v hv => hAy v (List.mem_filter.1 hv).1)]; simp]
      refine ih A0 A1 (B0 ++ [y]) B top (by simp at hn ⊢; omega) ⟨hI.ea, by rw [hI.eb]; simp, fun u hu v hv => ?_, hI.top⟩
      rcases List.mem_append.1 hu with hu | hu
      · exact hI.l1 u hu v hv
      · simp at hu; subst hu; exact hAy v hv
/-- THE STAGE'S THEOREM, on lists. -/
theorem makes_pure {a b : List Ent} (ha : TrL a) (hb : TrL b) : runs a (unlikeL a b) = some b := by
  have h := makes_go ha hb (a.length + b.length) [] a [] b ⟨#[]⟩ (Nat.le_refl _) ⟨rfl, rfl, fun x hx => by simp at hx, .inl rfl⟩
  have hc : cur ⟨#[]⟩ [] a = a := by
    unfold cur
    rw [List.nil_append]
    exact List.filter_eq_self.2 fun x _ => by simp [freeB]
  rw [hc] at h
  exact h
theorem unlike_self {a : List Ent} (ha : ∀ e ∈ a, wrongN e = 0) : unlikeL a a = [] := by
  have main : ∀ (L : List Ent), (∀ e ∈ L, wrongN e = 0) → ∀ top, emL top (togL L L) = [] := by
    intro L
    induction L with
    | nil => intro _ top; rw [togL]; rfl
    | cons x L ih =>
      intro h top
      rw [togL, order_self, if_neg (by omega), if_neg (by omega), emL]
      have hxw := h x (by simp)
      have hl2 : lostB top (x, x) = false := by simp [lostB, sort_self hxw]
      have htop : topN top (x, x) = top := by simp [topN, hl2]
      have hemo : emO top (x, x) = [] := by simp [emO, hl2, newB, eqE_self]
      rw [hemo, htop, List.nil_append]
      exact ih (fun e he => h e (by simp [he])) top
  exact main a ha _
theorem makes_empty {a b : List Ent} (ha : TrL a) (hb : TrL b) : unlikeL a b = [] ↔ a = b := by
  constructor
  · intro h
    have := makes_pure ha hb
    rw [h, runs] at this
    exact Option.some.inj this
  · rintro rfl; exact unlike_self ha.right
end Go.Proofs.YtgildlfanfbebaaGreatDoor
