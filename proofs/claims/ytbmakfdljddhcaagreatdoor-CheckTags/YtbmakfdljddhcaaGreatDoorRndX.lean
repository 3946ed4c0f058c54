/- A range over a function that has boxes of its own, which it writes between the rounds; a round may leave. Its rounds write to a set of blocks alone. -/
import Derived.Test.YtbmakfdljddhcaaGreatDoorRndQ
namespace Go.Proofs.YtbmakfdljddhcaaGreatDoor
open Go Go.RowKit

/-- What a round owes: it goes on, or it leaves. -/
def RoundX {α : Type} (P : Program) (l : Nat) (va : α → Array Value) (xs : List α) (J Jx : List α → (Nat → Prop) → World → Prop) : Prop :=
  ∀ m pre x S W1, J pre S W1 → pre ++ [x] <+: xs → YieldAt Fence.wide m P l (va x) W1 fun e W2 => ∃ S2, Rnd S S2 W1 W2 ∧ ((e = .returned (.bool true) ∧ J (pre ++ [x]) S2 W2) ∨ (e = .returned (.bool false) ∧ Jx (pre ++ [x]) S2 W2))
/-- From W to W2 the blocks of S and those of own are written; S2: those of S, and new ones. -/
def RndO (own S S2 : Nat → Prop) (W W2 : World) : Prop := Rnd (fun k => S k ∨ own k) S2 W W2 ∧ ∀ k, S2 k → S k ∨ (W.heap.size ≤ k ∧ k < W2.heap.size)
theorem RndO.refl (own S : Nat → Prop) (W : World) : RndO own S S W W := ⟨⟨rfl, rfl, rfl, Nat.le_refl _, fun _ _ _ => rfl, fun _ h => .inl (.inl h)⟩, fun _ h => .inl h⟩
theorem RndO.step {own S S2 S3 : Nat → Prop} {A B C : World} (h : RndO own S S2 A B) (k : Rnd (fun j => S2 j ∨ own j) S3 B C) (k2 : ∀ i, S3 i → S2 i ∨ (B.heap.size ≤ i ∧ i < C.heap.size)) : RndO own S S3 A C := by
  obtain ⟨h, h2⟩ := h
  have hs := h.size
  have hk := k.size
  have hm : ∀ i, S3 i → S i ∨ (A.heap.size ≤ i ∧ i < C.heap.size) := fun i hi => by
    rcases k2 i hi with h1 | h1
    · rcases h2 i h1 with h3 | h3
      · exact .inl h3
      · exact .inr ⟨h3.1, by omega⟩
    · exact .inr ⟨by omega, h1.2⟩
  refine ⟨⟨k.os.trans h.os, k.tape.trans h.tape, k.output.trans h.output, Nat.le_trans h.size k.size, fun i hi hn => (k.same i (by omega) (fun hs2 => ?_)).trans (h.same i hi hn), fun i hi => ?_⟩, hm⟩
  · rcases hs2 with hs2 | hs2
    · rcases h2 i hs2 with h1 | h1
      · exact hn (.inl h1)
      · omega
    · exact hn (.inr hs2)
  · rcases hm i hi with h1 | h1
    · exact .inl (.inl h1)
    · exact .inr h1
theorem RndO.round {own S S2 S3 : Nat → Prop} {A B C : World} (h : RndO own S S2 A B) (k : Rnd S2 S3 B C) : RndO own S S3 A C :=
  h.step ⟨k.os, k.tape, k.output, k.size, fun i hi hn => k.same i hi (fun h => hn (.inl h)), fun i hi => (k.more i hi).imp .inl id⟩ k.more
theorem RndO.own' {own S S2 : Nat → Prop} {A B C : World} (h : RndO own S S2 A B) (hos : C.os = B.os) (htp : C.tape = B.tape) (hot : C.output = B.output) (hsz : B.heap.size ≤ C.heap.size) (hsm : ∀ k, k < B.heap.size → ¬ own k → C.heap[k]? = B.heap[k]?) : RndO own S S2 A C :=
  h.step ⟨hos, htp, hot, hsz, fun i hi hn => hsm i hi (fun h => hn (.inr h)), fun _ hi => .inl (.inl hi)⟩ (fun _ hi => .inl hi)
theorem RndO.set {own S S2 : Nat → Prop} {A B : World} (h : RndO own S S2 A B) {b i : Nat} (hb : own b) (v : Value) : RndO own S S2 A (B.setCell ⟨b, i, none⟩ v) :=
  h.own' rfl rfl rfl (by simp [World.setCell]) (fun k _ hk => Below.heap_setCell _ _ _ _ (fun e => hk (e ▸ hb)))
theorem RndO.below {own S S2 : Nat → Prop} {A B C : World} (h : RndO own S S2 A B) (k : Below B.heap.size B C) : RndO own S S2 A C :=
  h.own' k.os k.tape k.output k.size (fun i hi _ => k.block i hi)
/-- The function g over lb hands on just the things xs, each as the values va x, in their order; it may be left early; it writes the blocks own, which no round knows of. -/
def GivesX {α : Type} (P : Program) (g : Nat) (lb : Array Value) (va : α → Array Value) (xs : List α) (own : Nat → Prop) (w : World) : Prop :=
  ∀ (n l : Nat) (J Jx : List α → (Nat → Prop) → World → Prop) (S : Nat → Prop) (W : World), Below w.heap.size w W → LocalQ J → LocalQ Jx → (∀ k, S k → ¬ own k) → RoundX P l va xs J Jx → J [] S W →
    CallsIn Fence.wide n P g (#[.func (.yield l) #[] #[]] ++ lb) W fun e W2 => (∃ v, e = .returned v) ∧ ∃ S2, RndO own S S2 W W2 ∧ (J xs S2 W2 ∨ ∃ pre, pre <+: xs ∧ Jx pre S2 W2)
/-- How a round may be left. -/
def LeftX {α : Type} (I : List α → (Nat → Prop) → World → Prop) (Ix : Code → List α → (Nat → Prop) → World → Prop) (ys : List α) (S : Nat → Prop) (W : World) : Exit → Act → World → Prop
  | .normal, _, W2 => ∃ S2, Rnd S S2 W W2 ∧ I ys S2 W2
  | .ret, _, W2 => ∃ S2, Rnd S S2 W W2 ∧ Ix .ret ys S2 W2
  | .exit id, _, W2 => ∃ S2, Rnd S S2 W W2 ∧ Ix (.exit id) ys S2 W2
  | .goto t, _, W2 => ∃ S2, Rnd S S2 W W2 ∧ Ix (.goto t) ys S2 W2
  | _, _, _ => False

theorem range_lawX {α : Type} {P : Program} {g : Operand} {ps : Array Tmp} {assign body : Code} {Q : Exit → Act → World → Prop} {a : Act} {w : World} {n : Nat}
    {gf : Nat} {lb : Array Value} (hg : a.eval g = .func (.func gf) #[] lb) (eg : ∀ args w, (callFunc gf args).run P w = .ok (.enter gf args) w)
    {xs : List α} {own : Nat → Prop} {w0 : World} {va : α → Array Value} (hva : ∀ x, (va x).size = ps.size) (hseq : GivesX P gf lb va xs own w0) (hb0 : Below w0.heap.size w0 w)
    (I : List α → (Nat → Prop) → World → Prop) (Ix : Code → List α → (Nat → Prop) → World → Prop) (S0 : Nat → Prop) (hI : LocalQ I) (hIx : ∀ c, LocalQ (Ix c)) (hS0 : ∀ k, S0 k → ¬ own k) (hown : ∀ k, own k → k < w.heap.size) (h0 : I [] S0 w) (a₁ : α → Act)
    (hassign : ∀ (m l : Nat) (x : α) (W : World) (K : Act → World → Prop), K (a₁ x) W →
      assign.wpIn (Fence.wide.inRound l) m P (Exit.then K (fun _ _ _ => False)) { tmps := (ps.zip (va x)).foldl (fun (tmps : Array Value) (x : Nat × Value) => match x with | (t, a) => tmps.setIfInBounds t a) a.tmps, defers := [] } W)
    (hbody : ∀ (m l : Nat) (pre : List α) (x : α) (S : Nat → Prop) (W : World), I pre S W → pre ++ [x] <+: xs →
      body.wpIn (Fence.wide.inRound l) m P (LeftX I Ix (pre ++ [x]) S W) (a₁ x) W)
    (hdone : ∀ (D : Nat) (S : Nat → Prop) (W : World), w.heap.size ≤ D → I xs S W → RndO own S0 S w W → ¬ S D → W.heap[D]? = some (.deferred (some [])) → Q .normal { a with defers := { target := .collected D, args := #[] } :: a.defers } W)
    (hstop : ∀ (D : Nat) (c : Code) (pre : List α) (S : Nat → Prop) (W : World), w.heap.size ≤ D → pre <+: xs → Ix c pre S W → RndO own S0 S w W → ¬ S D → W.heap[D]? = some (.deferred (some [])) →
      c.wpIn Fence.wide n P Q { a with defers := { target := .collected D, args := #[] } :: a.defers } W) :
    (Code.rangeFunc g ps assign body).wpIn Fence.wide n P Q a w := by
  refine wpIn_rangeFunc fun fn hfn => ?_
  let rc : LoopState → Option Code → Loop := fun st pe => { state := st, pending := pe, fn, tmps := a.tmps, params := ps, assign, body, defers := w.heap.size }
  let L := w.heap.size + 1
  let D := w.heap.size
  have start : ∃ W1, (w.alloc (.deferred (some []))).alloc (.loop (rc .ready none)) = W1 := ⟨_, rfl⟩
  obtain ⟨W1, e1⟩ := start
  have sz : W1.heap.size = w.heap.size + 2 := by rw [← e1]; simp
  have atL : W1.heap[L]? = some (.loop (rc .ready none)) := by
    have h := World.alloc_heap_new (w.alloc (.deferred (some []))) (.loop (rc .ready none))
    rw [World.size_alloc] at h; rw [← e1]; exact h
  have atD : W1.heap[D]? = some (.deferred (some [])) := by
    rw [← e1]; exact (Below.heap_alloc _ _ _ (by simp [D])).trans (World.alloc_heap_new w _)
  have bw : Below w.heap.size w W1 := by rw [← e1]; exact ((Below.refl _ w).alloc (Nat.le_refl _) _).alloc (by simp) _
  have b1 : Below w0.heap.size w0 W1 := hb0.trans (bw.mono hb0.size)
  have i1 : I [] S0 W1 := hI.below h0 bw
  have nS : ∀ k, S0 k → k < w.heap.size := hI.there _ _ _ h0
  refine ⟨L, [{ target := .collected D, args := #[] }], W1, { target := .fn (.func gf) lb, args := #[.func (.yield L) #[] #[]] }, W1, gf, #[.func (.yield L) #[] #[]] ++ lb, W1, ?_, ?_, fun _ _ => trivial, ?_, ?_, ?_⟩
  · rw [← e1]; exact run_enterLoop_outer _ _ _ _ _
  · simp only [resolve, hg]; simp [go_sem]
  · simp [invoke, go_sem, eg]
  · intro h; exact absurd h (by simp [Fence.wide])
  have loc : ∀ (K : List α → (Nat → Prop) → World → Prop) (o : List α → Obj → Prop), LocalQ K → LocalQ (fun pre S W => ∃ (SI : Nat → Prop) (ob : Obj), o pre ob ∧ K pre SI W ∧ W.heap[L]? = some ob ∧ W.heap[D]? = some (.deferred (some [])) ∧ ¬ SI L ∧ ¬ SI D ∧ S = fun k => SI k ∨ k = L ∨ k = D) := by
    intro K o hK
    refine ⟨?_, ?_⟩
    · rintro pre S A B ⟨SI, ob, h0, h1, h2, h3, h4, h5, rfl⟩ hs hk
      exact ⟨SI, ob, h0, hK.keep pre SI A B h1 hs (fun k h => hk k (.inl h)), (hk L (.inr (.inl rfl))).trans h2, (hk D (.inr (.inr rfl))).trans h3, h4, h5, rfl⟩
    · rintro pre S A ⟨SI, ob, h0, h1, h2, h3, h4, h5, rfl⟩ k hk
      rcases hk with hk | hk | hk
      · exact hK.there pre SI A h1 k hk
      · subst hk; exact (Array.getElem?_eq_some_iff.1 h2).1
      · subst hk; exact (Array.getElem?_eq_some_iff.1 h3).1
  have loc2 : LocalQ (fun pre S W => ∃ c, ∃ (SI : Nat → Prop) (ob : Obj), ob = .loop (rc .done (some c)) ∧ Ix c pre SI W ∧ W.heap[L]? = some ob ∧ W.heap[D]? = some (.deferred (some [])) ∧ ¬ SI L ∧ ¬ SI D ∧ S = fun k => SI k ∨ k = L ∨ k = D) := by
    refine ⟨?_, ?_⟩
    · rintro pre S A B ⟨c, h⟩ hs hk
      exact ⟨c, (loc (Ix c) (fun _ ob => ob = .loop (rc .done (some c))) (hIx c)).keep pre S A B h hs hk⟩
    · rintro pre S A ⟨c, h⟩ k hk
      exact (loc (Ix c) (fun _ ob => ob = .loop (rc .done (some c))) (hIx c)).there pre S A h k hk
  refine (hseq (n - 1) L (fun pre S W => ∃ (SI : Nat → Prop) (ob : Obj), ob = .loop (rc .ready none) ∧ I pre SI W ∧ W.heap[L]? = some ob ∧ W.heap[D]? = some (.deferred (some [])) ∧ ¬ SI L ∧ ¬ SI D ∧ S = fun k => SI k ∨ k = L ∨ k = D)
    (fun pre S W => ∃ c, ∃ (SI : Nat → Prop) (ob : Obj), ob = .loop (rc .done (some c)) ∧ Ix c pre SI W ∧ W.heap[L]? = some ob ∧ W.heap[D]? = some (.deferred (some [])) ∧ ¬ SI L ∧ ¬ SI D ∧ S = fun k => SI k ∨ k = L ∨ k = D)
    (fun k => S0 k ∨ k = L ∨ k = D) W1 b1 (loc I (fun _ ob => ob = .loop (rc .ready none)) hI) loc2 ?_ ?_ ⟨S0, _, rfl, i1, atL, atD, fun h => by have := nS _ h; omega, fun h => by have := nS _ h; omega, rfl⟩).mono ?_
  · intro k hk ho
    have := hown k ho
    rcases hk with hk | hk | hk
    · exact hS0 k hk ho
    · omega
    · omega
  · rintro m pre x S W ⟨SI, ob, rfl, hi, hl, hd, hnl, hnd, rfl⟩ hx
    have lt : L < W.heap.size := (Array.getElem?_eq_some_iff.1 hl).1
    have nSI := hI.there _ _ _ hi
    refine ⟨fn, _, assign, body, run_yield (P := P) (args := va x) hl (hva x), roundIn_of_wpIn hfn ?_⟩
    refine hassign _ _ x W _ ?_
    refine ⟨_, run_beginRound hl rfl, ?_⟩
    obtain ⟨WB, hWB⟩ : ∃ WB, W.putObj L (.loop { rc .ready none with state := .busy }) = WB := ⟨_, rfl⟩
    have szB : WB.heap.size = W.heap.size := by rw [← hWB, put_size]
    have otherB : ∀ k, k ≠ L → WB.heap[k]? = W.heap[k]? := fun k hk => by rw [← hWB]; exact World.putObj_heap_other (by omega)
    have hlB : WB.heap[L]? = some (.loop (rc .busy none)) := by rw [← hWB]; exact World.putObj_heap_same (by omega)
    have osB : WB.os = W.os ∧ WB.tape = W.tape ∧ WB.output = W.output := by rw [← hWB]; exact ⟨rfl, rfl, rfl⟩
    rw [hWB]
    have hiB : I pre SI WB := hI.keep pre SI W WB hi (by omega) (fun k hk => otherB k (fun e => hnl (e ▸ hk)))
    -- the end of a round, whichever way it was left
    have over : ∀ (K : List α → (Nat → Prop) → World → Prop) (j : Option Code) (S2 : Nat → Prop) (W3 : World), LocalQ K → Rnd SI S2 WB W3 → K (pre ++ [x]) S2 W3 →
        (Instr.endRound L j).run P W3 = .ok (.bool j.isNone) (W3.putObj L (.loop (rc (if j.isNone then .ready else .done) j))) ∧
        (∃ (SI : Nat → Prop) (ob : Obj), ob = .loop (rc (if j.isNone then .ready else .done) j) ∧ K (pre ++ [x]) SI (W3.putObj L (.loop (rc (if j.isNone then .ready else .done) j))) ∧ (W3.putObj L (.loop (rc (if j.isNone then .ready else .done) j))).heap[L]? = some ob ∧ (W3.putObj L (.loop (rc (if j.isNone then .ready else .done) j))).heap[D]? = some (.deferred (some [])) ∧ ¬ SI L ∧ ¬ SI D ∧ (fun k => S2 k ∨ k = L ∨ k = D) = fun k => SI k ∨ k = L ∨ k = D) ∧
        Rnd (fun k => SI k ∨ k = L ∨ k = D) (fun k => S2 k ∨ k = L ∨ k = D) W (W3.putObj L (.loop (rc (if j.isNone then .ready else .done) j))) := by
      intro K j S2 W3 hK r3 hi3
      have s3 := r3.size
      have nL2 : ∀ k, k < W.heap.size → ¬ SI k → ¬ S2 k := fun k hk h h2 => by
        rcases r3.more k h2 with h3 | h3
        · exact h h3
        · omega
      have hl3 : W3.heap[L]? = some (.loop (rc .busy none)) := (r3.same L (by omega) hnl).trans hlB
      have hd3 : W3.heap[D]? = some (.deferred (some [])) := (r3.same D (by omega) hnd).trans ((otherB D (by omega)).trans hd)
      refine ⟨run_endRound (P := P) j hl3, ⟨S2, _, rfl, hK.keep _ S2 W3 _ hi3 (by rw [put_size]; exact Nat.le_refl _) (fun k hk => World.putObj_heap_other (fun e => nL2 L lt hnl (e ▸ hk))), World.putObj_heap_same (by omega), (World.putObj_heap_other (by omega)).trans hd3, nL2 L lt hnl, nL2 D (by omega) hnd, rfl⟩, ?_⟩
      refine ⟨r3.os.trans osB.1, r3.tape.trans osB.2.1, r3.output.trans osB.2.2, by rw [put_size]; omega, fun k hk hn => ?_, fun k hk => ?_⟩
      · have n1 : k ≠ L := fun e => hn (.inr (.inl e))
        have n2 : ¬ SI k := fun e => hn (.inl e)
        exact (World.putObj_heap_other (by omega)).trans ((r3.same k (by omega) n2).trans (otherB k n1))
      · rcases hk with hk | hk
        · rcases r3.more k hk with h3 | h3
          · exact .inl (.inl h3)
          · exact .inr ⟨by omega, by rw [put_size]; omega⟩
        · exact .inl (.inr hk)
    refine wpIn_mono (hbody _ _ pre x SI WB hiB hx) ?_
    rintro e a3 W3 hp
    cases e with
    | normal =>
      obtain ⟨S2, r3, hi3⟩ := hp
      obtain ⟨h1, h2, h3⟩ := over I none S2 W3 hI r3 hi3
      exact ⟨_, _, h1, _, h3, .inl ⟨rfl, h2⟩⟩
    | ret =>
      obtain ⟨S2, r3, hi3⟩ := hp
      obtain ⟨h1, h2, h3⟩ := over (Ix .ret) (some .ret) S2 W3 (hIx _) r3 hi3
      exact ⟨_, _, h1, _, h3, .inr ⟨rfl, .ret, h2⟩⟩
    | exit id =>
      obtain ⟨S2, r3, hi3⟩ := hp
      obtain ⟨h1, h2, h3⟩ := over (Ix (.exit id)) (some (.exit id)) S2 W3 (hIx _) r3 hi3
      exact ⟨_, _, h1, _, h3, .inr ⟨rfl, .exit id, h2⟩⟩
    | goto t =>
      obtain ⟨S2, r3, hi3⟩ := hp
      obtain ⟨h1, h2, h3⟩ := over (Ix (.goto t)) (some (.goto t)) S2 W3 (hIx _) r3 hi3
      exact ⟨_, _, h1, _, h3, .inr ⟨rfl, .goto t, h2⟩⟩
    | panic ch => exact hp.elim
    | outgrown => exact hp.elim
  · have fin : ∀ (SI : Nat → Prop) (W2 : World) (o2 : Obj), RndO own (fun k => S0 k ∨ k = L ∨ k = D) (fun k => SI k ∨ k = L ∨ k = D) W1 W2 → ¬ SI L → ¬ SI D → RndO own S0 SI w (W2.putObj L o2) := by
      intro SI W2 o2 r2 hnl hnd
      obtain ⟨r, rm⟩ := r2
      have s2 := r.size
      have hm : ∀ k, SI k → S0 k ∨ (w.heap.size ≤ k ∧ k < (W2.putObj L o2).heap.size) := fun k hk => by
        rcases rm k (.inl hk) with h | h
        · rcases h with h | h | h
          · exact .inl h
          · exact absurd (h ▸ hk) hnl
          · exact absurd (h ▸ hk) hnd
        · exact .inr ⟨by omega, by rw [put_size]; omega⟩
      refine ⟨⟨r.os.trans bw.os, r.tape.trans bw.tape, r.output.trans bw.output, by rw [put_size]; omega, fun k hk hn => ?_, fun k hk => (hm k hk).imp .inl id⟩, hm⟩
      exact (World.putObj_heap_other (by omega)).trans ((r.same k (by omega) (fun h => by rcases h with (h | h | h) | h; exact hn (.inl h); omega; omega; exact hn (.inr h))).trans (bw.block k hk))
    rintro e W2 ⟨⟨v, rfl⟩, S2', r2, ⟨SI, ob, rfl, hi, hl, hd, hnl, hnd, rfl⟩ | ⟨pre, hpre, c, SI, ob, rfl, hi, hl, hd, hnl, hnd, rfl⟩⟩
    · exact ⟨none, _, run_endLoop (P := P) hl (by simp [rc]), hdone D SI _ (Nat.le_refl _) (hI.keep _ SI W2 _ hi (by rw [put_size]; exact Nat.le_refl _) (fun k hk => World.putObj_heap_other (fun e => hnl (e ▸ hk)))) (fin SI W2 _ r2 hnl hnd) hnd ((World.putObj_heap_other (by omega)).trans hd)⟩
    · exact ⟨some c, _, run_endLoop (P := P) hl (by simp [rc]), hstop D c pre SI _ (Nat.le_refl _) hpre ((hIx c).keep _ SI W2 _ hi (by rw [put_size]; exact Nat.le_refl _) (fun k hk => World.putObj_heap_other (fun e => hnl (e ▸ hk)))) (fin SI W2 _ r2 hnl hnd) hnd ((World.putObj_heap_other (by omega)).trans hd)⟩
end Go.Proofs.YtbmakfdljddhcaaGreatDoor
