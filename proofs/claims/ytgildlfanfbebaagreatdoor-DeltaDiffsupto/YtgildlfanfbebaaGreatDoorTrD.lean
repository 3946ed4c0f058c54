/- delta's tree in memory: take, lay, do. -/
import Derived.Test.YtgildlfanfbebaaGreatDoorDelM
import Derived.Test.YtgildlfanfbebaaGreatDoorEvery
import Derived.Test.YtgildlfanfbebaaGreatDoorAtW
import Derived.Test.YtgildlfanfbebaaGreatDoorGrowW
import Derived.Test.YtgildlfanfbebaaGreatDoorErr
import Derived.Test.YtgildlfanfbebaaGreatDoorEntW
import Derived.Deep.RegionHeld3
import Derived.Test.YtgildlfanfbebaaGreatDoorStoW
import Derived.Deep.Cut
import Derived.Deep.MidRow

namespace Go.Proofs.YtgildlfanfbebaaGreatDoor
open Go Go.RowKit

/-- What a round owes: it goes on, or it leaves. -/
def RoundX {α : Type} (P : Program) (l : Nat) (va : α → Array Value) (xs : List α) (J Jx : List α → (Nat → Prop) → World → Prop) : Prop :=
  ∀ m pre x S W1, J pre S W1 → pre ++ [x] <+: xs → YieldAt Fence.wide m P l (va x) W1 fun e W2 => ∃ S2, Rnd S S2 W1 W2 ∧ ((e = .returned (.bool true) ∧ J (pre ++ [x]) S2 W2) ∨ (e = .returned (.bool false) ∧ Jx (pre ++ [x]) S2 W2))
/-- From W to W2 the blocks of S and those of own are written; S2: those of S, and new ones. -/
def RndO (own S S2 : Nat → Prop) (W W2 : World) : Prop := Rnd (fun k => S k ∨ own k) S2 W W2 ∧ ∀ k, S2 k → S k ∨ (W.heap.size ≤ k ∧ k < W2.heap.size)
theorem RndO.refl (own S : Nat → Prop) (W : World) : RndO own S S W W := ⟨⟨rfl, rfl, rfl, Nat.le_refl _, fun _ _ _ => rfl, fun _ h => .inl (.inl h)⟩, fun _ h => .inl h⟩
theorem RndO.step {own S S2 S3 : Nat → Prop} {A B C : World} (h : RndO own S S2 A B) (k : Rnd (fun j => S2 j ∨ own j) S3 B C) (k2 : ∀ i, S3 i → S2 i ∨ (B.heap.size ≤ i ∧ i < C.heap.size)) : RndO own S S3 A C := by
  obtain ⟨h, h2⟩ := h
  have hs := h.size
  have hk := k.size
  have hm : ∀ i, S3 i → S i ∨ (A.heap.size ≤ i ∧ i < C.heap.size) := fun i hi => by
    rcases k2 i hi with h1 | h1
    · rcases h2 i h1 with h3 | h3
      · exact .inl h3
      · exact .inr ⟨h3.1, by omega⟩
    · exact .inr ⟨by omega, h1.2⟩
  refine ⟨⟨k.os.trans h.os, k.tape.trans h.tape, k.output.trans h.output, Nat.le_trans h.size k.size, fun i hi hn => (k.same i (by omega) (fun hs2 => ?_)).trans (h.same i hi hn), fun i hi => ?_⟩, hm⟩
  · rcases hs2 with hs2 | hs2
    · rcases h2 i hs2 with h1 | h1
      · exact hn (.inl h1)
      · omega
    · exact hn (.inr hs2)
  · rcases hm i hi with h1 | h1
    · exact .inl (.inl h1)
    · exact .inr h1
theorem RndO.round {own S S2 S3 : Nat → Prop} {A B C : World} (h : RndO own S S2 A B) (k : Rnd S2 S3 B C) : RndO own S S3 A C :=
  h.step ⟨k.os, k.tape, k.output, k.size, fun i hi hn => k.same i hi (fun h => hn (.inl h)), fun i hi => (k.more i hi).imp .inl id⟩ k.more
theorem RndO.own' {own S S2 : Nat → Prop} {A B C : World} (h : RndO own S S2 A B) (hos : C.os = B.os) (htp : C.tape = B.tape) (hot : C.output = B.output) (hsz : B.heap.size ≤ C.heap.size) (hsm : ∀ k, k < B.heap.size → ¬ own k → C.heap[k]? = B.heap[k]?) : RndO own S S2 A C :=
  h.step ⟨hos, htp, hot, hsz, fun i hi hn => hsm i hi (fun h => hn (.inr h)), fun _ hi => .inl (.inl hi)⟩ (fun _ hi => .inl hi)
theorem RndO.set {own S S2 : Nat → Prop} {A B : World} (h : RndO own S S2 A B) {b i : Nat} (hb : own b) (v : Value) : RndO own S S2 A (B.setCell ⟨b, i, none⟩ v) :=
  h.own' rfl rfl rfl (by simp [World.setCell]) (fun k _ hk => Below.heap_setCell _ _ _ _ (fun e => hk (e ▸ hb)))
theorem RndO.below {own S S2 : Nat → Prop} {A B C : World} (h : RndO own S S2 A B) (k : Below B.heap.size B C) : RndO own S S2 A C :=
  h.own' k.os k.tape k.output k.size (fun i hi _ => k.block i hi)
/-- The function g over lb hands on just the things xs, each as the values va x, in their order; it may be left early; it writes the blocks own, which no round knows of. -/
def GivesX {α : Type} (P : Program) (g : Nat) (lb : Array Value) (va : α → Array Value) (xs : List α) (own : Nat → Prop) (w : World) : Prop :=
  ∀ (n l : Nat) (J Jx : List α → (Nat → Prop) → World → Prop) (S : Nat → Prop) (W : World), Below w.heap.size w W → LocalQ J → LocalQ Jx → (∀ k, S k → ¬ own k) → RoundX P l va xs J Jx → J [] S W →
    CallsIn Fence.wide n P g (#[.func (.yield l) #[] #[]] ++ lb) W fun e W2 => (∃ v, e = .returned v) ∧ ∃ S2, RndO own S S2 W W2 ∧ (J xs S2 W2 ∨ ∃ pre, pre <+: xs ∧ Jx pre S2 W2)
/-- How a round may be left. -/
def LeftX {α : Type} (I : List α → (Nat → Prop) → World → Prop) (Ix : Code → List α → (Nat → Prop) → World → Prop) (ys : List α) (S : Nat → Prop) (W : World) : Exit → Act → World → Prop
  | .normal, _, W2 => ∃ S2, Rnd S S2 W W2 ∧ I ys S2 W2
  | .ret, _, W2 => ∃ S2, Rnd S S2 W W2 ∧ Ix .ret ys S2 W2
  | .exit id, _, W2 => ∃ S2, Rnd S S2 W W2 ∧ Ix (.exit id) ys S2 W2
  | .goto t, _, W2 => ∃ S2, Rnd S S2 W W2 ∧ Ix (.goto t) ys S2 W2
  | _, _, _ => False

theorem range_lawX {α : Type} {P : Program} {g : Operand} {ps : Array Tmp} {assign body : Code} {Q : Exit → Act → World → Prop} {a : Act} {w : World} {n : Nat}
    {gf : Nat} {lb : Array Value} (hg : a.eval g = .func (.func gf) #[] lb) (eg : ∀ args w, (callFunc gf args).run P w = .ok (.enter gf args) w)
    {xs : List α} {own : Nat → Prop} {w0 : World} {va : α → Array Value} (hva : ∀ x, (va x).size = ps.size) (hseq : GivesX P gf lb va xs own w0) (hb0 : Below w0.heap.size w0 w)
    (I : List α → (Nat → Prop) → World → Prop) (Ix : Code → List α → (Nat → Prop) → World → Prop) (S0 : Nat → Prop) (hI : LocalQ I) (hIx : ∀ c, LocalQ (Ix c)) (hS0 : ∀ k, S0 k → ¬ own k) (hown : ∀ k, own k → k < w.heap.size) (h0 : I [] S0 w) (a₁ : α → Act)
    (hassign : ∀ (m l : Nat) (x : α) (W : World) (K : Act → World → Prop), K (a₁ x) W →
      assign.wpIn (Fence.wide.inRound l) m P (Exit.then K (fun _ _ _ => False)) { tmps := (ps.zip (va x)).foldl (fun (tmps : Array Value) (x : Nat × Value) => match x with | (t, a) => tmps.setIfInBounds t a) a.tmps, defers := [] } W)
    (hbody : ∀ (m l : Nat) (pre : List α) (x : α) (S : Nat → Prop) (W : World), I pre S W → pre ++ [x] <+: xs →
      body.wpIn (Fence.wide.inRound l) m P (LeftX I Ix (pre ++ [x]) S W) (a₁ x) W)
    (hdone : ∀ (D : Nat) (S : Nat → Prop) (W : World), w.heap.size ≤ D → I xs S W → RndO own S0 S w W → ¬ S D → W.heap[D]? = some (.deferred (some [])) → Q .normal { a with defers := { target := .collected D, args := #[] } :: a.defers } W)
    (hstop : ∀ (D : Nat) (c : Code) (pre : List α) (S : Nat → Prop) (W : World), w.heap.size ≤ D → pre <+: xs → Ix c pre S W → RndO own S0 S w W → ¬ S D → W.heap[D]? = some (.deferred (some [])) →
      c.wpIn Fence.wide n P Q { a with defers := { target := .collected D, args := #[] } :: a.defers } W) :
    (Code.rangeFunc g ps assign body).wpIn Fence.wide n P Q a w := by
  refine wpIn_rangeFunc fun fn hfn => ?_
  let rc : LoopState → Option Code → Loop := fun st pe => { state := st, pending := pe, fn, tmps := a.tmps, params := ps, assign, body, defers := w.heap.size }
  let L := w.heap.size + 1
  let D := w.heap.size
  have start : ∃ W1, (w.alloc (.deferred (some []))).alloc (.loop (rc .ready none)) = W1 := ⟨_, rfl⟩
  obtain ⟨W1, e1⟩ := start
  have sz : W1.heap.size = w.heap.size + 2 := by rw [← e1]; simp
  have atL : W1.heap[L]? = some (.loop (rc .ready none)) := by
    have h := World.alloc_heap_new (w.alloc (.deferred (some []))) (.loop (rc .ready none))
    rw [World.size_alloc] at h; rw [← e1]; exact h
  have atD : W1.heap[D]? = some (.deferred (some [])) := by
    rw [← e1]; exact (Below.heap_alloc _ _ _ (by simp [D])).trans (World.alloc_heap_new w _)
  have bw : Below w.heap.size w W1 := by rw [← e1]; exact ((Below.refl _ w).alloc (Nat.le_refl _) _).alloc (by simp) _
  have b1 : Below w0.heap.size w0 W1 := hb0.trans (bw.mono hb0.size)
  have i1 : I [] S0 W1 := hI.below h0 bw
  have nS : ∀ k, S0 k → k < w.heap.size := hI.there _ _ _ h0
  refine ⟨L, [{ target := .collected D, args := #[] }], W1, { target := .fn (.func gf) lb, args := #[.func (.yield L) #[] #[]] }, W1, gf, #[.func (.yield L) #[] #[]] ++ lb, W1, ?_, ?_, fun _ _ => trivial, ?_, ?_, ?_⟩
  · rw [← e1]; exact run_enterLoop_outer _ _ _ _ _
  · simp only [resolve, hg]; simp [go_sem]
  · simp [invoke, go_sem, eg]
  · intro h; exact absurd h (by simp [Fence.wide])
  have loc : ∀ (K : List α → (Nat → Prop) → World → Prop) (o : List α → Obj → Prop), LocalQ K → LocalQ (fun pre S W => ∃ (SI : Nat → Prop) (ob : Obj), o pre ob ∧ K pre SI W ∧ W.heap[L]? = some ob ∧ W.heap[D]? = some (.deferred (some [])) ∧ ¬ SI L ∧ ¬ SI D ∧ S = fun k => SI k ∨ k = L ∨ k = D) := by
    intro K o hK
    refine ⟨?_, ?_⟩
    · rintro pre S A B ⟨SI, ob, h0, h1, h2, h3, h4, h5, rfl⟩ hs hk
      exact ⟨SI, ob, h0, hK.keep pre SI A B h1 hs (fun k h => hk k (.inl h)), (hk L (.inr (.inl rfl))).trans h2, (hk D (.inr (.inr rfl))).trans h3, h4, h5, rfl⟩
    · rintro pre S A ⟨SI, ob, h0, h1, h2, h3, h4, h5, rfl⟩ k hk
      rcases hk with hk | hk | hk
      · exact hK.there pre SI A h1 k hk
      · subst hk; exact (Array.getElem?_eq_some_iff.1 h2).1
      · subst hk; exact (Array.getElem?_eq_some_iff.1 h3).1
  have loc2 : LocalQ (fun pre S W => ∃ c, ∃ (SI : Nat → Prop) (ob : Obj), ob = .loop (rc .done (some c)) ∧ Ix c pre SI W ∧ W.heap[L]? = some ob ∧ W.heap[D]? = some (.deferred (some [])) ∧ ¬ SI L ∧ ¬ SI D ∧ S = fun k => SI k ∨ k = L ∨ k = D) := by
    refine ⟨?_, ?_⟩
    · rintro pre S A B ⟨c, h⟩ hs hk
      exact ⟨c, (loc (Ix c) (fun _ ob => ob = .loop (rc .done (some c))) (hIx c)).keep pre S A B h hs hk⟩
    · rintro pre S A ⟨c, h⟩ k hk
      exact (loc (Ix c) (fun _ ob => ob = .loop (rc .done (some c))) (hIx c)).there pre S A h k hk
  refine (hseq (n - 1) L (fun pre S W => ∃ (SI : Nat → Prop) (ob : Obj), ob = .loop (rc .ready none) ∧ I pre SI W ∧ W.heap[L]? = some ob ∧ W.heap[D]? = some (.deferred (some [])) ∧ ¬ SI L ∧ ¬ SI D ∧ S = fun k => SI k ∨ k = L ∨ k = D)
    (fun pre S W => ∃ c, ∃ (SI : Nat → Prop) (ob : Obj), ob = .loop (rc .done (some c)) ∧ Ix c pre SI W ∧ W.heap[L]? = some ob ∧ W.heap[D]? = some (.deferred (some [])) ∧ ¬ SI L ∧ ¬ SI D ∧ S = fun k => SI k ∨ k = L ∨ k = D)
    (fun k => S0 k ∨ k = L ∨ k = D) W1 b1 (loc I (fun _ ob => ob = .loop (rc .ready none)) hI) loc2 ?_ ?_ ⟨S0, _, rfl, i1, atL, atD, fun h => by have := nS _ h; omega, fun h => by have := nS _ h; omega, rfl⟩).mono ?_
  · intro k hk ho
    have := hown k ho
    rcases hk with hk | hk | hk
    · exact hS0 k hk ho
    · omega
    · omega
  · rintro m pre x S W ⟨SI, ob, rfl, hi, hl, hd, hnl, hnd, rfl⟩ hx
    have lt : L < W.heap.size := (Array.getElem?_eq_some_iff.1 hl).1
    have nSI := hI.there _ _ _ hi
    refine ⟨fn, _, assign, body, run_yield (P := P) (args := va x) hl (hva x), roundIn_of_wpIn hfn ?_⟩
    refine hassign _ _ x W _ ?_
    refine ⟨_, run_beginRound hl rfl, ?_⟩
    obtain ⟨WB, hWB⟩ : ∃ WB, W.putObj L (.loop { rc .ready none with state := .busy }) = WB := ⟨_, rfl⟩
    have szB : WB.heap.size = W.heap.size := by rw [← hWB, put_size]
    have otherB : ∀ k, k ≠ L → WB.heap[k]? = W.heap[k]? := fun k hk => by rw [← hWB]; exact World.putObj_heap_other (by omega)
    have hlB : WB.heap[L]? = some (.loop (rc .busy none)) := by rw [← hWB]; exact World.putObj_heap_same (by omega)
    have osB : WB.os = W.os ∧ WB.tape = W.tape ∧ WB.output = W.output := by rw [← hWB]; exact ⟨rfl, rfl, rfl⟩
    rw [hWB]
    have hiB : I pre SI WB := hI.keep pre SI W WB hi (by omega) (fun k hk => otherB k (fun e => hnl (e ▸ hk)))
    -- the end of a round, whichever way it was left
    have over : ∀ (K : List α → (Nat → Prop) → World → Prop) (j : Option Code) (S2 : Nat → Prop) (W3 : World), LocalQ K → Rnd SI S2 WB W3 → K (pre ++ [x]) S2 W3 →
        (Instr.endRound L j).run P W3 = .ok (.bool j.isNone) (W3.putObj L (.loop (rc (if j.isNone then .ready else .done) j))) ∧
        (∃ (SI : Nat → Prop) (ob : Obj), ob = .loop (rc (if j.isNone then .ready else .done) j) ∧ K (pre ++ [x]) SI (W3.putObj L (.loop (rc (if j.isNone then .ready else .done) j))) ∧ (W3.putObj L (.loop (rc (if j.isNone then .ready else .done) j))).heap[L]? = some ob ∧ (W3.putObj L (.loop (rc (if j.isNone then .ready else .done) j))).heap[D]? = some (.deferred (some [])) ∧ ¬ SI L ∧ ¬ SI D ∧ (fun k => S2 k ∨ k = L ∨ k = D) = fun k => SI k ∨ k = L ∨ k = D) ∧
        Rnd (fun k => SI k ∨ k = L ∨ k = D) (fun k => S2 k ∨ k = L ∨ k = D) W (W3.putObj L (.loop (rc (if j.isNone then .ready else .done) j))) := by
      intro K j S2 W3 hK r3 hi3
      have s3 := r3.size
      have nL2 : ∀ k, k < W.heap.size → ¬ SI k → ¬ S2 k := fun k hk h h2 => by
        rcases r3.more k h2 with h3 | h3
        · exact h h3
        · omega
      have hl3 : W3.heap[L]? = some (.loop (rc .busy none)) := (r3.same L (by omega) hnl).trans hlB
      have hd3 : W3.heap[D]? = some (.deferred (some [])) := (r3.same D (by omega) hnd).trans ((otherB D (by omega)).trans hd)
      refine ⟨run_endRound (P := P) j hl3, ⟨S2, _, rfl, hK.keep _ S2 W3 _ hi3 (by rw [put_size]; exact Nat.le_refl _) (fun k hk => World.putObj_heap_other (fun e => nL2 L lt hnl (e ▸ hk))), World.putObj_heap_same (by omega), (World.putObj_heap_other (by omega)).trans hd3, nL2 L lt hnl, nL2 D (by omega) hnd, rfl⟩, ?_⟩
      refine ⟨r3.os.trans osB.1, r3.tape.trans osB.2.1, r3.output.trans osB.2.2, by rw [put_size]; omega, fun k hk hn => ?_, fun k hk => ?_⟩
      · have n1 : k ≠ L := fun e => hn (.inr (.inl e))
        have n2 : ¬ SI k := fun e => hn (.inl e)
        exact (World.putObj_heap_other (by omega)).trans ((r3.same k (by omega) n2).trans (otherB k n1))
      · rcases hk with hk | hk
        · rcases r3.more k hk with h3 | h3
          · exact .inl (.inl h3)
          · exact .inr ⟨by omega, by rw [put_size]; omega⟩
        · exact .inl (.inr hk)
    refine wpIn_mono (hbody _ _ pre x SI WB hiB hx) ?_
    rintro e a3 W3 hp
    cases e with
    | normal =>
      obtain ⟨S2, r3, hi3⟩ := hp
      obtain ⟨h1, h2, h3⟩ := over I none S2 W3 hI r3 hi3
      exact ⟨_, _, h1, _, h3, .inl ⟨rfl, h2⟩⟩
    | ret =>
      obtain ⟨S2, r3, hi3⟩ := hp
      obtain ⟨h1, h2, h3⟩ := over (Ix .ret) (some .ret) S2 W3 (hIx _) r3 hi3
      exact ⟨_, _, h1, _, h3, .inr ⟨rfl, .ret, h2⟩⟩
    | exit id =>
      obtain ⟨S2, r3, hi3⟩ := hp
      obtain ⟨h1, h2, h3⟩ := over (Ix (.exit id)) (some (.exit id)) S2 W3 (hIx _) r3 hi3
      exact ⟨_, _, h1, _, h3, .inr ⟨rfl, .exit id, h2⟩⟩
    | goto t =>
      obtain ⟨S2, r3, hi3⟩ := hp
      obtain ⟨h1, h2, h3⟩ := over (Ix (.goto t)) (some (.goto t)) S2 W3 (hIx _) r3 hi3
      exact ⟨_, _, h1, _, h3, .inr ⟨rfl, .goto t, h2⟩⟩
    | panic ch => exact hp.elim
    | outgrown => exact hp.elim
  · have fin : ∀ (SI : Nat → Prop) (W2 : World) (o2 : Obj), RndO own (fun k => S0 k ∨ k = L ∨ k = D) (fun k => SI k ∨ k = L ∨ k = D) W1 W2 → ¬ SI L → ¬ SI D → RndO own S0 SI w (W2.putObj L o2) := by
      intro SI W2 o2 r2 hnl hnd
      obtain ⟨r, rm⟩ := r2
      have s2 := r.size
      have hm : ∀ k, SI k → S0 k ∨ (w.heap.size ≤ k ∧ k < (W2.putObj L o2).heap.size) := fun k hk => by
        rcases rm k (.inl hk) with h | h
        · rcases h with h | h | h
          · exact .inl h
          · exact absurd (h ▸ hk) hnl
          · exact absurd (h ▸ hk) hnd
        · exact .inr ⟨by omega, by rw [put_size]; omega⟩
      refine ⟨⟨r.os.trans bw.os, r.tape.trans bw.tape, r.output.trans bw.output, by rw [put_size]; omega, fun k hk hn => ?_, fun k hk => (hm k hk).imp .inl id⟩, hm⟩
      exact (World.putObj_heap_other (by omega)).trans ((r.same k (by omega) (fun h => by rcases h with (h | h | h) | h; exact hn (.inl h); omega; omega; exact hn (.inr h))).trans (bw.block k hk))
    rintro e W2 ⟨⟨v, rfl⟩, S2', r2, ⟨SI, ob, rfl, hi, hl, hd, hnl, hnd, rfl⟩ | ⟨pre, hpre, c, SI, ob, rfl, hi, hl, hd, hnl, hnd, rfl⟩⟩
    · exact ⟨none, _, run_endLoop (P := P) hl (by simp [rc]), hdone D SI _ (Nat.le_refl _) (hI.keep _ SI W2 _ hi (by rw [put_size]; exact Nat.le_refl _) (fun k hk => World.putObj_heap_other (fun e => hnl (e ▸ hk)))) (fin SI W2 _ r2 hnl hnd) hnd ((World.putObj_heap_other (by omega)).trans hd)⟩
    · exact ⟨some c, _, run_endLoop (P := P) hl (by simp [rc]), hstop D c pre SI _ (Nat.le_refl _) hpre ((hIx c).keep _ SI W2 _ hi (by rw [put_size]; exact Nat.le_refl _) (fun k hk => World.putObj_heap_other (fun e => hnl (e ▸ hk)))) (fin SI W2 _ r2 hnl hnd) hnd ((World.putObj_heap_other (by omega)).trans hd)⟩
end Go.Proofs.YtgildlfanfbebaaGreatDoor

namespace Go.Proofs.YtgildlfanfbebaaGreatDoor
open Go Go.RowKit Go.Shelf
attribute [local go_sem] Oper.semAt_some

theorem sIndex_p (s : ByteArray) (w : World) : Calls Tryz.prog 146 #[.string s, .string ⟨#[47]⟩] w fun e w' => e = .returned (.int .i64 (ix s)) ∧ w' = w := by
  go_enter Tryz.func146, Tryz.ntmps146
  go_wp2_with (go_at_call 119; refine (index_p _ _).mono ?_; rintro e w' ⟨rfl, rfl⟩)
  go_ret
  exact ⟨rfl, rfl⟩
/-- The three boxes of splitSeq. -/
def splitBox (s : ByteArray) (w : World) : World := ((w.alloc (.cells #[.string s] 9)).alloc (.cells #[.string ⟨#[47]⟩] 9)).alloc (.cells #[.int .i64 0] 3)
theorem splitSeq_i (s : ByteArray) (w : World) : Calls Tryz.prog 128 #[.string s, .string ⟨#[47]⟩, .int .i64 0] w fun e w' => e = .returned (.func (.func 144) #[] #[.pointer (some ⟨w.heap.size + 1, 0, none⟩), .pointer (some ⟨w.heap.size, 0, none⟩), .pointer (some ⟨w.heap.size + 2, 0, none⟩)]) ∧ w' = splitBox s w := by
  go_enter Tryz.func128, Tryz.ntmps128
  go_wp2
  go_ret
  exact ⟨rfl, rfl⟩
theorem splitSeq_p (s : ByteArray) (w : World) : Calls Tryz.prog 109 #[.string s, .string ⟨#[47]⟩] w fun e w' => e = .returned (.func (.func 144) #[] #[.pointer (some ⟨w.heap.size + 1, 0, none⟩), .pointer (some ⟨w.heap.size, 0, none⟩), .pointer (some ⟨w.heap.size + 2, 0, none⟩)]) ∧ w' = splitBox s w := by
  go_enter Tryz.func109, Tryz.ntmps109
  go_wp2_with (go_at_call 128; refine (splitSeq_i _ _).mono ?_; rintro e w' ⟨rfl, rfl⟩)
  go_ret
  exact ⟨rfl, rfl⟩
theorem split_boxes (s : ByteArray) (w : World) : Boxed (splitBox s w) w.heap.size 9 (.string s) ∧ Boxed (splitBox s w) (w.heap.size + 1) 9 (.string ⟨#[47]⟩) ∧ Boxed (splitBox s w) (w.heap.size + 2) 3 (.int .i64 0) ∧ Below w.heap.size w (splitBox s w) ∧ (splitBox s w).heap.size = w.heap.size + 3 := by
  refine ⟨((Boxed.new w _ _).alloc _).alloc _, ?_, ?_, (((Below.refl _ w).alloc (Nat.le_refl _) _).alloc (by simp) _).alloc (by simp; omega) _, by simp [splitBox]⟩
  · have h := Boxed.new (w.alloc (.cells #[.string s] 9)) 9 (.string ⟨#[47]⟩); rw [World.size_alloc] at h; exact h.alloc _
  · have h := Boxed.new ((w.alloc (.cells #[.string s] 9)).alloc (.cells #[.string ⟨#[47]⟩] 9)) 3 (.int .i64 0); simp only [World.size_alloc] at h; exact h
def boxLen (B : Nat) (W : World) : Nat := match W.cell? ⟨B, 0, none⟩ with | some (.string t) => t.size | _ => 0
theorem boxLen_of {B : Nat} {W : World} {t : ByteArray} (h : Boxed W B 9 (.string t)) : boxLen B W = t.size := by unfold boxLen; rw [h.cell]
theorem boxed_same {A B : World} {b : Nat} {t : TypeId} {v : Value} (h : Boxed A b t v) (hs : B.heap[b]? = A.heap[b]?) : Boxed B b t v := hs.trans h
set_option maxRecDepth 100000 in
set_option maxHeartbeats 4000000 in
theorem split_gives (s : ByteArray) (B : Nat) (w : World) (hs : s.size ≤ 4611686018427387904) (hB : Boxed w B 9 (.string s)) (hB1 : Boxed w (B + 1) 9 (.string ⟨#[47]⟩)) (hB2 : Boxed w (B + 2) 3 (.int .i64 0)) :
    GivesX Tryz.prog 144 #[.pointer (some ⟨B + 1, 0, none⟩), .pointer (some ⟨B, 0, none⟩), .pointer (some ⟨B + 2, 0, none⟩)] (fun x : ByteArray => #[.string x]) (piecesB s) (fun k => k = B ∨ k = B + 1 ∨ k = B + 2) w := by
  intro n l J Jx S W hW hJ hJx hS hY h0
  have bW := boxed_same hB (hW.block B hB.lt)
  have bW1 := boxed_same hB1 (hW.block _ hB1.lt)
  have bW2 := boxed_same hB2 (hW.block _ hB2.lt)
  have hBs : B + 2 < W.heap.size := by have := hB2.lt; have := hW.size; omega
  have c1 := bW1.cell
  have HS : Hid (∀ k, S k → ¬ (k = B ∨ k = B + 1 ∨ k = B + 2)) := hS
  have HSl : Hid (∀ k, S k → k < W.heap.size) := hJ.there _ _ _ h0
  have HJ : Hid (LocalQ J) := hJ
  have HJx : Hid (LocalQ Jx) := hJx
  have HY : Hid (RoundX Tryz.prog l (fun x : ByteArray => #[.string x]) (piecesB s) J Jx) := hY
  have H0 : Hid (J [] S W ∧ Boxed W B 9 (.string s) ∧ Boxed W (B + 1) 9 (.string ⟨#[47]⟩) ∧ Boxed W (B + 2) 3 (.int .i64 0)) := ⟨h0, bW, bW1, bW2⟩
  -- what a round leaves of the boxes
  have KEEP : Hid (∀ (S2 : Nat → Prop) (X : World), RndO (fun k => k = B ∨ k = B + 1 ∨ k = B + 2) S S2 W X → ∀ j, j ≤ 2 → ¬ S2 (B + j)) := fun S2 X hr j hj h => by
    rcases hr.2 (B + j) h with h1 | h1
    · exact hS _ h1 (by omega)
    · omega
  clear hW hJ hJx hS hY h0 bW bW1 bW2 hB hB1 hB2
  refine callsIn_of_wp Tryz.func144 rfl trivial ?_ rfl
  simp only [Tryz.ntmps144, List.size_toArray, List.length_cons, List.length_nil, Nat.reduceAdd, Nat.reduceSub, Array.replicate_succ, Array.replicate_zero, List.push_toArray, List.append_toArray, List.nil_append, List.cons_append]
  gi_wp2
  clear c1
  gi_loopw [7, 8] (fun _ _ wr => ∃ (pre : List ByteArray) (t : ByteArray) (S2 : Nat → Prop), J pre S2 wr ∧ RndO (fun k => k = B ∨ k = B + 1 ∨ k = B + 2) S S2 W wr ∧ Boxed wr B 9 (.string t) ∧ Boxed wr (B + 1) 9 (.string ⟨#[47]⟩) ∧ Boxed wr (B + 2) 3 (.int .i64 0) ∧ t.size ≤ s.size ∧ piecesB s = pre ++ piecesB t) (fun _ _ wr => boxLen B wr)
  case atStart => exact ⟨[], s, S, H0.out.1, RndO.refl _ _ _, H0.out.2.1, H0.out.2.2.1, H0.out.2.2.2, Nat.le_refl _, rfl⟩
  case round =>
    obtain ⟨pre, t, S2, hj, hr, b0, b1, b2, hts, hp⟩ := hrel
    have HJ2 : Hid (J pre S2 wr) := hj
    have HR : Hid (RndO (fun k => k = B ∨ k = B + 1 ∨ k = B + 2) S S2 W wr) := hr
    have HB : Hid (Boxed wr B 9 (.string t) ∧ Boxed wr (B + 1) 9 (.string ⟨#[47]⟩) ∧ Boxed wr (B + 2) 3 (.int .i64 0)) := ⟨b0, b1, b2⟩
    have c0 := b0.cell
    have c1 := b1.cell
    have c2 := b2.cell
    clear hj hr b0 b1 b2
    rcases ix_cases t with hm | ⟨i, hi, hit⟩
    · have Hp : Hid (piecesB s = pre ++ [t]) := by unfold Hid; rw [hp, piecesB_miss t hm]
      have Hm : Hid (ix t = -1) := hm
      obtain ⟨fn, tmps, assign, body, hy, hR⟩ := HY.out (n - 1) pre t S2 wr HJ2.out ⟨[], by rw [Hp.out]; simp⟩
      clear hp hm
      gi_wp2_with (refine ⟨trivial, wd _, ?_⟩; gi_at_call 146; refine (callsIn_wide.2 (sIndex_p _ _)).mono ?_; rintro e w' ⟨rfl, rfl⟩; rw [Hm.out])
      refine ⟨wd _, hR.mono ?_⟩
      rintro e W3 ⟨S3, hr3, ⟨rfl, hj3⟩ | ⟨rfl, hj3⟩⟩
      · gi_wp2
        go_end0
        exact ⟨⟨_, rfl⟩, S3, HR.out.round hr3, .inl (by rw [Hp.out]; exact hj3)⟩
      · gi_wp2
        go_end0
        exact ⟨⟨_, rfl⟩, S3, HR.out.round hr3, .inr ⟨pre ++ [t], by rw [Hp.out]; exact List.prefix_refl _, hj3⟩⟩
    · have Hp : Hid (piecesB s = pre ++ [t.extract 0 i] ++ piecesB (t.extract (i + 1) t.size)) := by unfold Hid; rw [hp, piecesB_hit t i hi]; simp
      have Hi : Hid (ix t = i) := hi
      have hle : Hid ((t.extract (i + 1) t.size).size < t.size) := by unfold Hid; rw [← un_length, un_extract, ← un_length]; simp; rw [un_length]; omega
      clear hp hi
      obtain ⟨fn, tmps, assign, body, hy, hR⟩ := HY.out (n - 1) pre (t.extract 0 i) S2 wr HJ2.out ⟨piecesB (t.extract (i + 1) t.size), Hp.out.symm⟩
      gi_wp2_with (refine ⟨trivial, wd _, ?_⟩; gi_at_call 146; refine (callsIn_wide.2 (sIndex_p _ _)).mono ?_; rintro e w' ⟨rfl, rfl⟩; rw [Hi.out])
      refine ⟨wd _, hR.mono ?_⟩
      rintro e W3 ⟨S3, hr3, ⟨rfl, hj3⟩ | ⟨rfl, hj3⟩⟩
      · have hk := KEEP.out S2 _ HR.out
        have hwr := HR.out.1.size
        have d0 : Boxed W3 B 9 (.string t) := boxed_same HB.out.1 (hr3.same B (by omega) (hk 0 (by omega)))
        have d1 : Boxed W3 (B + 1) 9 (.string ⟨#[47]⟩) := boxed_same HB.out.2.1 (hr3.same _ (by omega) (hk 1 (by omega)))
        have d2 : Boxed W3 (B + 2) 3 (.int .i64 0) := boxed_same HB.out.2.2 (hr3.same _ (by omega) (hk 2 (by omega)))
        have e0 := d0.cell
        have f0 := d0.frozen
        have e1 := d1.cell
        have HJ3 : Hid (J (pre ++ [t.extract 0 i]) S3 W3 ∧ Rnd S2 S3 _ W3) := ⟨hj3, hr3⟩
        have HD : Hid (Boxed W3 B 9 (.string t) ∧ Boxed W3 (B + 1) 9 (.string ⟨#[47]⟩) ∧ Boxed W3 (B + 2) 3 (.int .i64 0)) := ⟨d0, d1, d2⟩
        clear hj3 hr3 d0 d1 d2 hk
        gi_wp2
        go_roundw
        case rel =>
          have hr4 := HR.out.round HJ3.out.2
          have hk3 := KEEP.out S3 W3 hr4 0 (by omega)
          refine ⟨pre ++ [t.extract 0 i], t.extract (i + 1) t.size, S3, HJ.out.keep _ S3 W3 _ HJ3.out.1 (by simp [World.setCell]) (fun k hk => Below.heap_setCell _ _ _ _ (fun e => hk3 ((show k = B + 0 from e) ▸ hk))), hr4.set (.inl rfl) _, Boxed.set _ HD.out.1, Boxed.other HD.out.2.1 (by omega) _, Boxed.other HD.out.2.2 (by omega) _, by have := hle.out; omega, Hp.out⟩
        case measure =>
          rw [boxLen_of HB.out.1, boxLen_of (Boxed.set _ HD.out.1)]
          exact hle.out
      · gi_wp2
        refine bodyPost_ret (results_none rfl _ _ _) rfl ?_
        exact ⟨⟨_, rfl⟩, S3, HR.out.round hr3, .inr ⟨pre ++ [t.extract 0 i], ⟨_, Hp.out.symm⟩, hj3⟩⟩
end Go.Proofs.YtgildlfanfbebaaGreatDoor

namespace Go.Proofs.YtgildlfanfbebaaGreatDoor
open Go Go.RowKit Go.Shelf

set_option maxRecDepth 100000 in
theorem new_d (x : Ent) (w : World) : Calls Tryz.prog 76 #[entV x] w fun ex w' =>
    ∃ z : Nd, ex = .returned (.pointer (some ⟨z.b, 0, none⟩)) ∧ z.e = x ∧ Below w.heap.size w w' ∧ w.heap.size ≤ z.b ∧ w'.heap[z.b]? = some (.cells (ncells z) 113) ∧ (∀ q, z.m = some q → w.heap.size ≤ q ∧ KidsAt w' Tryz.prog 9 q 0 fun _ => none) ∧ (z.m = none ↔ x.kind ≠ 1) := by
  have hmm := @run_makeMap Tryz.prog
  unfold entV
  by_cases hk : x.kind = 1
  · go_enter Tryz.func76, Tryz.ntmps76
    go_wp2
    go_ret
    generalize hW1 : w.alloc (.cells #[.string x.path, .int .i64 1, .int .i64 x.mode, .string x.data, .string x.link] 52) = W1
    have hs1 : W1.heap.size = w.heap.size + 1 := by rw [← hW1]; simp
    have hb1 : Below w.heap.size w W1 := by rw [← hW1]; exact (Below.refl _ _).alloc (Nat.le_refl _) _
    have hk2 : ncells ⟨w.heap.size + 1 + 1, some (w.heap.size + 1), x⟩ = #[.string x.path, .int .i64 1, .int .i64 x.mode, .string x.data, .string x.link, .map (some (w.heap.size + 1))] := by simp [ncells, hk]
    refine ⟨⟨w.heap.size + 1 + 1, some (w.heap.size + 1), x⟩, rfl, rfl, ?_, by simp; omega, ?_, fun q hq => ?_, by simp [hk]⟩
    · exact (hb1.alloc (by omega) _).alloc (by simp; omega) _
    · rw [hk2, show w.heap.size + 1 + 1 = (W1.alloc (.map #[] 0)).heap.size by simp [hs1]]
      exact heap_alloc_new _ _
    · cases hq
      refine ⟨by omega, ?_⟩
      have := kids_made W1 Tryz.prog 9
      rw [hs1] at this
      exact this.alloc _
  · go_enter Tryz.func76, Tryz.ntmps76
    go_wp2
    go_ret
    refine ⟨⟨w.heap.size + 1, none, x⟩, rfl, rfl, ?_, by simp, ?_, by simp, by simpa using hk⟩
    · exact ((Below.refl _ _).alloc (Nat.le_refl _) _).alloc (by simp) _
    · rw [show w.heap.size + 1 = (w.alloc (.cells #[.string x.path, .int .i64 x.kind, .int .i64 x.mode, .string x.data, .string x.link] 52)).heap.size by simp]
      exact heap_alloc_new _ _

/-- A tree stays while its blocks do. -/
theorem TreeW.frame {W W' : World} {P : Program} {k T : TypeId} {base N : Nat} {F : Pic} (h : TreeW W P k T base N F) {n₀ : Nat} (hIn : ∀ ns x, F ns = some x → x.b < n₀ ∧ ∀ m, x.m = some m → m < n₀) (hb : ∀ k, k < n₀ → W'.heap[k]? = W.heap[k]?) : TreeW W' P k T base N F :=
  ⟨fun ns x hx => ⟨(h.node ns x hx).1, (hb _ (hIn ns x hx).1).trans (h.node ns x hx).2⟩, fun ns x m hx hm => ⟨(h.kids ns x m hx hm).1, by
    obtain ⟨D, ⟨es, clock, h1, h2⟩, h3⟩ := (h.kids ns x m hx hm).2
    exact ⟨D, ⟨es, clock, (hb m ((hIn ns x hx).2 m hm)).trans h1, h2⟩, h3⟩⟩, h.leaf, h.gone, h.apart⟩
theorem TreeW.inB {W : World} {P : Program} {k T : TypeId} {base N : Nat} {F : Pic} (h : TreeW W P k T base N F) : ∀ ns x, F ns = some x → x.b < W.heap.size ∧ ∀ m, x.m = some m → m < W.heap.size :=
  fun _ _ hx => ⟨h.lt hx, fun _ hm => h.mlt hx hm⟩
theorem rnd_set {S : Nat → Prop} {b : Nat} (hb : S b) (W : World) (i : Nat) (v : Value) : Rnd S S W (W.setCell ⟨b, i, none⟩ v) :=
  ⟨rfl, rfl, rfl, by simp [World.setCell], fun k _ hk => Below.heap_setCell _ _ _ _ (fun e => hk ((show k = b from e) ▸ hb)), fun _ h => .inl h⟩
theorem names_pieces {p : ByteArray} (h : p.size ≠ 0) : (piecesB p).map un = namesP p := by
  rw [pieces_names h, List.map_map]
  have hid : ∀ l : List (List UInt8), List.map (un ∘ bs) l = l := fun l => by
    induction l with
    | nil => rfl
    | cons a l ih => simp [un_bs, ih]
  exact hid _

theorem cut_size : ∀ (l y : List UInt8), y ∈ cutL l → y.length ≤ l.length
  | [], y, h => by simp [cutL] at h; simp [h]
  | c :: l, y, h => by
    have ih := cut_size l
    have hc : ∃ z zs, cutL l = z :: zs := List.exists_cons_of_ne_nil (cutL_ne l)
    obtain ⟨z, zs, hc⟩ := hc
    rw [cutL_cons, hc] at h
    rw [hc] at ih
    split at h
    · rcases List.mem_cons.1 h with rfl | h
      · simp
      · have := ih y h; simp; omega
    · rcases List.mem_cons.1 h with rfl | h
      · have := ih z (by simp); simpa using this
      · have := ih y (by simp at h; simp [h]); simp; omega
theorem piece_size {p x : ByteArray} (h : x ∈ piecesB p) : x.size ≤ p.size := by
  unfold piecesB at h
  obtain ⟨y, hy, rfl⟩ := List.mem_map.1 h
  have := cut_size (un p) y hy
  rw [un_length] at this
  rw [size_bs]; exact this
/-- What stands between the rounds of at: where it has come to. -/
def AtI (w : World) (F : Pic) (pre : List ByteArray) (S : Nat → Prop) (W : World) : Prop :=
  S = (fun k => k < w.heap.size + 2) ∧ w.heap.size + 2 ≤ W.heap.size ∧ (∀ k, k < w.heap.size → W.heap[k]? = w.heap[k]?) ∧ Boxed W w.heap.size 72 (.pointer none) ∧ ∃ x, F (pre.map un) = some x ∧ Boxed W (w.heap.size + 1) 72 (.pointer (some ⟨x.b, 0, none⟩))
def AtX (w : World) (F : Pic) (c : Code) (pre : List ByteArray) (S : Nat → Prop) (W : World) : Prop :=
  c = .ret ∧ S = (fun k => k < w.heap.size + 2) ∧ w.heap.size + 2 ≤ W.heap.size ∧ (∀ k, k < w.heap.size → W.heap[k]? = w.heap[k]?) ∧ Boxed W w.heap.size 72 (.pointer none) ∧ F (pre.map un) = none
theorem atI_local (w : World) (F : Pic) : LocalQ (AtI w F) := by
  refine ⟨?_, ?_⟩
  · rintro pre S A B ⟨rfl, h1, h2, h3, x, h4, h5⟩ hs hk
    exact ⟨rfl, by omega, fun k hk2 => (hk k (by omega)).trans (h2 k hk2), (hk _ (by omega)).trans h3, x, h4, (hk _ (by omega)).trans h5⟩
  · rintro pre S A ⟨rfl, h1, _⟩ k hk
    omega
theorem atX_local (w : World) (F : Pic) (c : Code) : LocalQ (AtX w F c) := by
  refine ⟨?_, ?_⟩
  · rintro pre S A B ⟨h0, rfl, h1, h2, h3, h4⟩ hs hk
    exact ⟨h0, rfl, by omega, fun k hk2 => (hk k (by omega)).trans (h2 k hk2), (hk _ (by omega)).trans h3, h4⟩
  · rintro pre S A ⟨_, rfl, h1, _⟩ k hk
    omega
attribute [local go_sem] Oper.semAt_some
theorem eg_split : ∀ args w, (callFunc 144 args).run Tryz.prog w = .ok (.enter 144 args) w := enters_of Tryz.func144 (by kernel_rfl) rfl
theorem at_root (F : Pic) (rt : Nd) (p : ByteArray) (w : World) (h0 : p.size = 0) (hrt : F [] = some rt) :
    Calls Tryz.prog 77 #[.pointer (some ⟨rt.b, 0, none⟩), .string p] w fun e w' => e = .returned (toPtr ((F (namesP p)).map Nd.b)) ∧ Below w.heap.size w w' := by
  obtain rfl : p = ⟨#[]⟩ := un_inj (by apply List.eq_nil_of_length_eq_zero; rw [un_length]; exact h0)
  have hE : toPtr ((F (namesP ⟨#[]⟩)).map Nd.b) = .pointer (some ⟨rt.b, 0, none⟩) := by rw [show namesP ⟨#[]⟩ = [] from rfl, hrt]; rfl
  rw [hE]
  clear hE
  go_enter Tryz.func77, Tryz.ntmps77
  go_wp2
  refine bodyPost_ret (v := .pointer (some ⟨rt.b, 0, none⟩)) (by simp [results, Tryz.results77, go_sem]) rfl ⟨rfl, (Below.refl _ _).alloc (Nat.le_refl _) _⟩
set_option maxRecDepth 100000 in
set_option maxHeartbeats 4000000 in
theorem at_some (base N : Nat) (F : Pic) (rt : Nd) (p : ByteArray) (w : World) (hp : p.size ≤ 4611686018427387904) (h0 : p.size ≠ 0) (hrt : F [] = some rt) (hF : TreeW w Tryz.prog 9 113 base N F) :
    Calls Tryz.prog 77 #[.pointer (some ⟨rt.b, 0, none⟩), .string p] w fun e w' => e = .returned (toPtr ((F (namesP p)).map Nd.b)) ∧ Below w.heap.size w w' := by
  have he : p.toList.isEmpty = false := (isEmpty_false p).2 (by omega)
  obtain ⟨n, hn⟩ : ∃ n : Nat, n = 3 := ⟨3, rfl⟩
  clear hn
  refine (callsIn_wide (n := n)).1 ?_
  refine callsIn_of_wp_marks Tryz.func77 rfl trivial ?_ rfl
  simp only [Tryz.ntmps77, List.size_toArray, List.length_cons, List.length_nil, Nat.reduceAdd, Nat.reduceSub, Array.replicate_succ, Array.replicate_zero, List.push_toArray, List.append_toArray, List.nil_append, List.cons_append]
  gi_wp2_with (refine ⟨trivial, wd _, ?_⟩; gi_at_call 109; refine (callsIn_wide.2 (splitSeq_p _ _)).mono ?_; rintro e w' ⟨rfl, rfl⟩)
  obtain ⟨WA, hWA⟩ : ∃ WA, (w.alloc (.cells #[.pointer none] 72)).alloc (.cells #[.pointer (some ⟨rt.b, 0, none⟩)] 72) = WA := ⟨_, rfl⟩
  have hBA : Below w.heap.size w WA := by rw [← hWA]; exact ((Below.refl _ w).alloc (Nat.le_refl _) _).alloc (by simp) _
  have c0 : Boxed WA w.heap.size 72 (.pointer none) := by rw [← hWA]; exact (Boxed.new w _ _).alloc _
  have c1 : Boxed WA (w.heap.size + 1) 72 (.pointer (some ⟨rt.b, 0, none⟩)) := by
    have h := Boxed.new (w.alloc (.cells #[.pointer none] 72)) 72 (.pointer (some ⟨rt.b, 0, none⟩)); rw [World.size_alloc] at h; rw [← hWA]; exact h
  have hsA : WA.heap.size = w.heap.size + 2 := by rw [← hWA]; simp
  rw [hWA]
  obtain ⟨b0, b1, b2, hBS, hsS⟩ := split_boxes p WA
  have hG := split_gives p WA.heap.size (splitBox p WA) hp b0 b1 b2
  rw [hsA] at hG hBS hsS
  clear hWA b0 b1 b2
  generalize splitBox p WA = WS at *
  refine range_lawX (xs := piecesB p) (own := fun k => k = w.heap.size + 2 ∨ k = w.heap.size + 2 + 1 ∨ k = w.heap.size + 2 + 2) rfl eg_split (fun _ => rfl) hG (Below.refl _ _) (AtI w F) (AtX w F) (fun k => k < w.heap.size + 2) (atI_local w F) (atX_local w F) (fun k hk ho => by omega) (fun k hk => by omega)
    ⟨rfl, by omega, fun k hk => (hBS.block k (by omega)).trans (hBA.block k hk), (hBS.block _ (by omega)).trans c0, rt, hrt, (hBS.block _ (by omega)).trans c1⟩
    (fun x => { tmps := #[.pointer (some ⟨rt.b, 0, none⟩), .string p, undef, undef, .pointer (some ⟨w.heap.size, 0, none⟩), .pointer (some ⟨w.heap.size + 1, 0, none⟩), .string x, .string p, .bool false, undef, .pointer (some ⟨rt.b, 0, none⟩), .string p, .func (.func 144) #[] #[.pointer (some ⟨w.heap.size + 2 + 1, 0, none⟩), .pointer (some ⟨w.heap.size + 2, 0, none⟩), .pointer (some ⟨w.heap.size + 2 + 2, 0, none⟩)], .string x, undef, undef, undef, undef, undef, undef, undef, undef, undef], defers := [] }) ?assign ?body ?done ?stop
  case assign =>
    intro m l x W K hK
    gi_wp2
    exact hK
  case body =>
    rintro m l pre x S W ⟨rfl, hsz, hfr, hR, y, hy, hH⟩ hx
    have hT : TreeW W Tryz.prog 9 113 base N F := hF.frame hF.inB hfr
    have hxs : x.size ≤ p.size := piece_size (hx.subset (by simp))
    have hcH := hH.cell
    have hfH := hH.frozen
    have hc5 : W.cell? ⟨y.b, 5, none⟩ = some (.map y.m) := node_cell (hT.node _ y hy).2 rfl
    have hlook : (Instr.lookup 111 (.map y.m) (.string x) false).run Tryz.prog W = .ok (toPtr ((F (pre.map un ++ [un x])).map Nd.b)) W :=
      hT.look Tryz.underlying9 Tryz.underlying111 rfl hy (Nat.le_trans (by omega : _ ≤ 4611686018427387904) (by decide))
    have HI : Hid ((∀ k, k < w.heap.size → W.heap[k]? = w.heap[k]?) ∧ Boxed W w.heap.size 72 (.pointer none) ∧ Boxed W (w.heap.size + 1) 72 (.pointer (some ⟨y.b, 0, none⟩))) := ⟨hfr, hR, hH⟩
    have hfR := (Boxed.other hR (show w.heap.size ≠ w.heap.size + 1 by omega) (Value.pointer none)).frozen
    have hcR := (Boxed.other hR (show w.heap.size ≠ w.heap.size + 1 by omega) (Value.pointer none)).cell
    cases hz : F (pre.map un ++ [un x]) with
    | none =>
      have HZ : Hid (F ((pre ++ [x]).map un) = none) := by unfold Hid; rw [List.map_append]; exact hz
      rw [hz] at hlook
      replace hlook : (Instr.lookup 111 (.map y.m) (.string x) false).run Tryz.prog W = .ok (.pointer none) W := hlook
      clear hz hT hF hG hfr hR hH hy c0 c1 hBA hBS
      gi_wp2
      refine ⟨_, (rnd_set (by omega) W 0 _).trans (rnd_set (by omega) _ 0 _), rfl, rfl, by simpa [World.setCell] using hsz, fun k hk => ?_, Boxed.set _ (Boxed.other HI.out.2.1 (by omega) _), HZ.out⟩
      exact (Below.heap_setCell _ _ _ _ (show k ≠ w.heap.size by omega)).trans ((Below.heap_setCell _ _ _ _ (show k ≠ w.heap.size + 1 by omega)).trans (HI.out.1 k hk))
    | some z =>
      have HZ : Hid (F ((pre ++ [x]).map un) = some z) := by unfold Hid; rw [List.map_append]; exact hz
      rw [hz] at hlook
      replace hlook : (Instr.lookup 111 (.map y.m) (.string x) false).run Tryz.prog W = .ok (.pointer (some ⟨z.b, 0, none⟩)) W := hlook
      clear hz hT hF hG hfr hR hH hy c0 c1 hBA hBS hfR hcR
      gi_wp2
      refine ⟨_, rnd_set (by omega) W 0 _, rfl, by simpa [World.setCell] using hsz, fun k hk => ?_, Boxed.other HI.out.2.1 (by omega) _, z, HZ.out, Boxed.set _ HI.out.2.2⟩
      exact (Below.heap_setCell _ _ _ _ (show k ≠ w.heap.size + 1 by omega)).trans (HI.out.1 k hk)
  case done =>
    rintro D S W hD ⟨rfl, hsz, hfr, hR, y, hy, hH⟩ hr hSD hK
    rw [hsS] at hD
    have HZ : Hid (F (namesP p) = some y) := by unfold Hid; rw [← names_pieces h0]; exact hy
    have hcH := hH.cell
    have hfR := hR.frozen
    have hcR := hR.cell
    have HI : Hid ((∀ k, k < w.heap.size → W.heap[k]? = w.heap[k]?) ∧ Boxed W w.heap.size 72 (.pointer none) ∧ W.heap[D]? = some (.deferred (some [])) ∧ W.os = w.os ∧ W.tape = w.tape ∧ W.output = w.output) := ⟨hfr, hR, hK, hr.1.os.trans (hBS.os.trans hBA.os), hr.1.tape.trans (hBS.tape.trans hBA.tape), hr.1.output.trans (hBS.output.trans hBA.output)⟩
    clear hF hG hfr hR hH hy c0 c1 hBA hBS hr hK hSD
    gi_wp2
    have hK2 : (W.setCell ⟨w.heap.size, 0, none⟩ (.pointer (some ⟨y.b, 0, none⟩))).heap[D]? = some (.deferred (some [])) := (Below.heap_setCell _ _ _ _ (show D ≠ w.heap.size by omega)).trans HI.out.2.2.1
    refine ⟨by simp, .inl ⟨_, _, rfl, run_takeDeferred hK2, ?_⟩⟩
    have hc5 := (boxed_put (.deferred none) (Boxed.set (.pointer (some ⟨y.b, 0, none⟩)) HI.out.2.1) hK2 rfl).cell
    refine ⟨.pointer (some ⟨y.b, 0, none⟩), by simp [results, Tryz.f77, go_sem, hc5], by rw [HZ.out]; rfl, ⟨HI.out.2.2.2.1, HI.out.2.2.2.2.1, HI.out.2.2.2.2.2, by rw [put_size]; simp [World.setCell]; omega, fun k hk => ?_⟩⟩
    exact (World.putObj_heap_other (by omega)).trans ((Below.heap_setCell _ _ _ _ (show k ≠ w.heap.size by omega)).trans (HI.out.1 k hk))
  case stop =>
    rintro D c pre S W hD hpre ⟨rfl, rfl, hsz, hfr, hR, hno⟩ hr hSD hK
    rw [hsS] at hD
    have HZ : Hid (F (namesP p) = none) := by
      unfold Hid
      obtain ⟨t, ht⟩ := hpre
      rw [← names_pieces h0, ← ht, List.map_append]
      exact hF.gone_all hno _
    have HI : Hid ((∀ k, k < w.heap.size → W.heap[k]? = w.heap[k]?) ∧ Boxed W w.heap.size 72 (.pointer none) ∧ W.heap[D]? = some (.deferred (some [])) ∧ W.os = w.os ∧ W.tape = w.tape ∧ W.output = w.output) := ⟨hfr, hR, hK, hr.1.os.trans (hBS.os.trans hBA.os), hr.1.tape.trans (hBS.tape.trans hBA.tape), hr.1.output.trans (hBS.output.trans hBA.output)⟩
    clear hF hG hfr hR hno c0 c1 hBA hBS hr hK hSD
    gi_wp2
    have hK2 := HI.out.2.2.1
    refine ⟨by simp, .inl ⟨_, _, rfl, run_takeDeferred hK2, ?_⟩⟩
    have hc5 := (boxed_put (.deferred none) HI.out.2.1 hK2 rfl).cell
    refine ⟨.pointer none, by simp [results, Tryz.f77, go_sem, hc5], by rw [HZ.out]; rfl, ⟨HI.out.2.2.2.1, HI.out.2.2.2.2.1, HI.out.2.2.2.2.2, by rw [put_size]; omega, fun k hk => ?_⟩⟩
    exact (World.putObj_heap_other (by omega)).trans (HI.out.1 k hk)
theorem at_d (base N : Nat) (F : Pic) (rt : Nd) (p : ByteArray) (w : World) (hp : p.size ≤ 4611686018427387904) (hrt : F [] = some rt) (hF : TreeW w Tryz.prog 9 113 base N F) :
    Calls Tryz.prog 77 #[.pointer (some ⟨rt.b, 0, none⟩), .string p] w fun e w' => e = .returned (toPtr ((F (namesP p)).map Nd.b)) ∧ Below w.heap.size w w' := by
  by_cases h0 : p.size = 0
  · exact at_root F rt p w h0 hrt
  · exact at_some base N F rt p w hp h0 hrt hF
end Go.Proofs.YtgildlfanfbebaaGreatDoor

namespace Go.Proofs.YtgildlfanfbebaaGreatDoor
open Go Go.RowKit Go.Shelf

def putAll (L : List Ent) (x : Ent) : Int := if wrongN x ≠ 0 then wrongN x else putN L x
set_option maxRecDepth 100000 in
theorem put_p (tb base : Nat) (F : Pic) (L : List Ent) (x : Ent) (hp : x.path.size < 1152921504606846976) (w : World) (h : TreeOf w tb base F L) (hbase : base ≤ w.heap.size) :
    Calls Tryz.prog 130 #[.pointer (some ⟨tb, 0, none⟩), .agg #[.string x.path, .int .i64 x.kind, .int .i64 x.mode, .string x.data, .string x.link]] w fun e w' => e = .returned (errE (putAll L x)) ∧ Below base w w' ∧
      ((putAll L x ≠ 0 ∧ Below w.heap.size w w') ∨ (putAll L x = 0 ∧ ∃ F', TreeOf w' tb base F' (laidL L x) ∧ Rnd (MineT tb F) (MineT tb F') w w')) := by
  have bE : Below w.heap.size w (w.alloc (.cells #[.string x.path, .int .i64 x.kind, .int .i64 x.mode, .string x.data, .string x.link] 52)) := (Below.refl _ _).alloc (Nat.le_refl _) _
  have HEC : Hid (EntC (w.alloc (.cells #[.string x.path, .int .i64 x.kind, .int .i64 x.mode, .string x.data, .string x.link] 52)) w.heap.size 0 x) := ent_new w _ x
  by_cases hw : wrongN x = 0
  · have HW : Hid (errE (wrongN x) = .nilIface) := by unfold Hid; rw [hw]; rfl
    have HW0 : Hid (wrongN x = 0) := hw
    have HPA : Hid (putAll L x = putN L x) := by unfold Hid putAll; rw [if_neg (by simpa using hw)]
    clear hw
    go_enter Tryz.func130, Tryz.ntmps130
    go_wp2_with (first | (go_at_call 85; refine (wrong_p x _ hp).mono ?_; rintro e w2 ⟨rfl, hb2'⟩; rw [HW.out]; have hb2 := below_join bE hb2'; obtain ⟨c0, c1, c2, c3, c4⟩ := HEC.out.below hb2') | (go_at_call 87; refine (lay_t tb base F L x _ (h.below hb2) HW0.out).mono ?_; rintro e w3 ⟨rfl, hr3⟩))
    go_ret
    rw [HPA.out]
    have hs2 := hb2.size
    refine ⟨rfl, ?_, ?_⟩
    · rcases hr3 with ⟨_, h3⟩ | ⟨_, h3, _⟩
      · exact (hb2.mono hbase).trans (h3.mono (by omega))
      · exact (hb2.mono hbase).trans h3
    · rcases hr3 with ⟨h3, h4⟩ | ⟨h3, _, F', h5, h6⟩
      · exact .inl ⟨h3, below_join hb2 h4⟩
      · exact .inr ⟨h3, F', h5, (Rnd.of_below hb2).trans h6⟩
  · have HW : Hid (errE (wrongN x) = .iface 77 (.int .i64 (wrongN x))) := errE_some hw
    have HPA : Hid (putAll L x = wrongN x ∧ wrongN x ≠ 0) := ⟨if_pos hw, hw⟩
    clear hw
    go_enter Tryz.func130, Tryz.ntmps130
    go_wp2_with (go_at_call 85; refine (wrong_p x _ hp).mono ?_; rintro e w2 ⟨rfl, hb2'⟩; rw [HW.out]; have hb2 := below_join bE hb2')
    go_ret
    rw [HPA.out.1]
    exact ⟨congrArg Ending.returned HW.out.symm, hb2.mono hbase, .inl ⟨HPA.out.2, hb2⟩⟩
set_option maxRecDepth 100000 in
theorem is_nil (b : Int) (w : World) : Calls Tryz.prog 59 #[.nilIface, .iface 77 (.int .i64 b)] w fun e w' => e = .returned (.bool false) ∧ w' = w := by
  have heq : (binOp BinOp.eql 30 .nilIface (.iface 77 (.int .i64 b))).run Tryz.prog w = .ok (.bool false) w := by kernel_rfl
  go_enter Tryz.func59, Tryz.ntmps59
  go_wp2
  go_ret
  exact ⟨rfl, rfl⟩
theorem check_ne10 (p : ByteArray) : checkN p ≠ 10 := by
  unfold checkN
  rcases splitP_cases (whiteoutB p) with h | h
  all_goals (rw [h]; repeat' split) <;> omega
theorem wrong_ne10 (x : Ent) : wrongN x ≠ 10 := by
  unfold wrongN
  have := check_ne10 x.path
  repeat' split
  all_goals omega
theorem put_none {x : Ent} (h : wrongN x = 0) : putN [] x = 10 ∨ putN [] x = 0 := by
  have hd := wrong_data h
  have hm : manyN [] x = 0 := by
    unfold manyN bytesL
    simp only [List.find?_nil, List.length_nil, List.map_nil, List.sum_nil]
    rw [if_neg (by omega)]
  unfold putN upN
  simp only [List.find?_nil]
  by_cases hz : (parentB x.path).size = 0
  · right; simp [hz, hm]
  · left; simp [hz]
set_option maxRecDepth 100000 in
set_option maxHeartbeats 4000000 in
theorem wrong_d (x : Ent) (w : World) (hp : x.path.size < 1152921504606846976) : Calls Tryz.prog 111 #[entV x] w fun e w' => e = .returned (errE (wrongN x)) ∧ Below w.heap.size w w' := by
  have hNew := make_p
  have hPut : ∀ (tb : Nat) (z : Nd) (w1 w2 : World), z.e = rootE → Below w1.heap.size w1 w2 → ∀ W, Below w2.heap.size w2 W → TreeAt w2 tb w1.heap.size 0 (rootPic z) 0 0 → Calls Tryz.prog 130 #[.pointer (some ⟨tb, 0, none⟩), .agg #[.string x.path, .int .i64 x.kind, .int .i64 x.mode, .string x.data, .string x.link]] W fun e w' => e = .returned (errE (putAll [] x)) ∧ Below w1.heap.size W w' := by
    intro tb z w1 w2 hz hb W hb2 hT
    have hT2 := hT.below hb2
    refine (put_p tb w1.heap.size (rootPic z) [] x hp W ⟨⟨hT2.from', hT2.root, hT2.tree.mono (Nat.zero_le _), hT2.kinds⟩, says_root hz, by simp, by simp, by simp [bytesL]⟩ (by have := hb.size; have := hb2.size; omega)).mono ?_
    rintro e w' ⟨rfl, h1, _⟩
    exact ⟨rfl, h1⟩
  have hbA : Below w.heap.size w (w.alloc (.cells #[.string x.path, .int .i64 x.kind, .int .i64 x.mode, .string x.data, .string x.link] 52)) := (Below.refl _ _).alloc (Nat.le_refl _) _
  have hsA : (w.alloc (.cells #[.string x.path, .int .i64 x.kind, .int .i64 x.mode, .string x.data, .string x.link] 52)).heap.size = w.heap.size + 1 := by simp
  have hEC : EntC (w.alloc (.cells #[.string x.path, .int .i64 x.kind, .int .i64 x.mode, .string x.data, .string x.link] 52)) w.heap.size 0 x := ent_new w _ x
  unfold entV
  go_enter Tryz.func111, Tryz.ntmps111
  go_upto_region 1 with fail
  generalize w.alloc (.cells #[.string x.path, .int .i64 x.kind, .int .i64 x.mode, .string x.data, .string x.link] 52) = V at *
  obtain ⟨c0, c1, c2, c3, c4⟩ := hEC
  have hwV : w.heap.size < V.drew.heap.size := by show w.heap.size < V.heap.size; omega
  have hPA : Hid ((wrongN x ≠ 0 ∧ putAll [] x = wrongN x) ∨ (wrongN x = 0 ∧ putAll [] x = 10) ∨ (wrongN x = 0 ∧ putAll [] x = 0)) := by
    unfold Hid putAll
    by_cases h : wrongN x = 0
    · right
      simp only [h, ne_eq, not_true_eq_false, if_false, true_and]
      exact put_none h
    · left; simp [h]
  have hbV : Hid (Below w.heap.size w V) := hbA
  clear hbA
  go_region_held3 (fun W => W.cell? ⟨w.heap.size, 0, none⟩ = some (.string x.path) ∧ W.cell? ⟨w.heap.size, 1, none⟩ = some (.int .i64 x.kind) ∧ W.cell? ⟨w.heap.size, 2, none⟩ = some (.int .i64 x.mode) ∧ W.cell? ⟨w.heap.size, 3, none⟩ = some (.string x.data) ∧ W.cell? ⟨w.heap.size, 4, none⟩ = some (.string x.link))
    (first
      | exact ⟨c0, c1, c2, c3, c4⟩
      | exact ⟨(h2.cell (p := ⟨w.heap.size, 0, none⟩) hwV).trans c0, (h2.cell (p := ⟨w.heap.size, 1, none⟩) hwV).trans c1, (h2.cell (p := ⟨w.heap.size, 2, none⟩) hwV).trans c2, (h2.cell (p := ⟨w.heap.size, 3, none⟩) hwV).trans c3, (h2.cell (p := ⟨w.heap.size, 4, none⟩) hwV).trans c4⟩
      | exact ⟨(h3.cell (p := ⟨w.heap.size, 0, none⟩) hwV).trans ((h2.cell (p := ⟨w.heap.size, 0, none⟩) hwV).trans c0), (h3.cell (p := ⟨w.heap.size, 1, none⟩) hwV).trans ((h2.cell (p := ⟨w.heap.size, 1, none⟩) hwV).trans c1), (h3.cell (p := ⟨w.heap.size, 2, none⟩) hwV).trans ((h2.cell (p := ⟨w.heap.size, 2, none⟩) hwV).trans c2), (h3.cell (p := ⟨w.heap.size, 3, none⟩) hwV).trans ((h2.cell (p := ⟨w.heap.size, 3, none⟩) hwV).trans c3), (h3.cell (p := ⟨w.heap.size, 4, none⟩) hwV).trans ((h2.cell (p := ⟨w.heap.size, 4, none⟩) hwV).trans c4)⟩
      | go_keep)
    (first
      | (go_at_call 84; refine (hNew _).mono ?_; rintro e w1 ⟨tb, z, rfl, hz, h2, hT⟩)
      | (go_at_call 130; refine (hPut tb z V.drew w1 hz h2 _ (Below.refl _ _) hT).mono ?_; rintro e w2 ⟨rfl, h3⟩))
  have HB : Hid (Below w.heap.size w w2) := by
    have hb1 : Below w.heap.size w V.drew := below_drewN hbV.out 1
    have h2s := h2.size
    exact (hb1.trans (h2.mono hb1.size)).trans (h3.mono hb1.size)
  clear h3 h2 hT hPut hNew
  rcases hPA.out with ⟨hw, hp2⟩ | ⟨hw, hp2⟩ | ⟨hw, hp2⟩
  · have HW : Hid (wrongN x ≠ 0) := hw
    have hn : (wrongN x == 10) = false := by simpa using wrong_ne10 x
    rw [hp2, errE_some hw]
    clear hp2 hw
    go_wp2_with (go_at_call 59; refine (is_other _ _ _ hn).mono ?_; rintro e w3 ⟨rfl, hw3⟩; obtain rfl := hw3.symm)
    go_ret
    exact ⟨by rw [errE_some HW.out]; rfl, HB.out⟩
  · have HW : Hid (wrongN x = 0) := hw
    rw [hp2, errE_some (by decide : (10 : Int) ≠ 0)]
    clear hp2 hw
    go_wp2_with (go_at_call 59; refine (is_same _ _).mono ?_; rintro e w3 ⟨rfl, hw3⟩; obtain rfl := hw3.symm)
    go_ret
    exact ⟨by rw [HW.out]; rfl, HB.out⟩
  · have HW : Hid (wrongN x = 0) := hw
    rw [hp2, errE_zero]
    clear hp2 hw
    go_wp2_with (go_at_call 59; refine (is_nil _ _).mono ?_; rintro e w3 ⟨rfl, hw3⟩; obtain rfl := hw3.symm)
    go_ret
    exact ⟨by rw [HW.out]; rfl, HB.out⟩
end Go.Proofs.YtgildlfanfbebaaGreatDoor

namespace Go.Proofs.YtgildlfanfbebaaGreatDoor
open Go Go.RowKit Go.Shelf

/-- The tree of which the root lies in block b says the list L. -/
structure TreeD (W : World) (b base N : Nat) (F : Pic) (L : List Ent) : Prop where
  root : ∃ rt m, F [] = some rt ∧ rt.b = b ∧ rt.m = some m
  tree : TreeW W Tryz.prog 9 113 base N F
  kinds : ∀ ns x, F ns = some x → (x.m = none ↔ x.e.kind ≠ 1)
  says : Says F L
  right : ∀ e ∈ L, wrongN e = 0
theorem TreeD.below {W W' : World} {b base N : Nat} {F : Pic} {L : List Ent} (h : TreeD W b base N F L) (hb : Below W.heap.size W W') : TreeD W' b base N F L := ⟨h.root, h.tree.below hb, h.kinds, h.says, h.right⟩
theorem TreeD.mono {W : World} {b base N N' : Nat} {F : Pic} {L : List Ent} (h : TreeD W b base N F L) (hN : N ≤ N') : TreeD W b base N' F L := ⟨h.root, h.tree.mono hN, h.kinds, h.says, h.right⟩
/-- The blocks of a tree. -/
def MineD (F : Pic) (k : Nat) : Prop := ∃ ns x, F ns = some x ∧ (k = x.b ∨ x.m = some k)
theorem TreeD.mine {W : World} {b base N : Nat} {F : Pic} {L : List Ent} (h : TreeD W b base N F L) : ∀ k, MineD F k → base ≤ k ∧ k < W.heap.size := by
  rintro k ⟨ns, x, hx, rfl | hm⟩
  · exact ⟨(h.tree.node ns x hx).1, h.tree.lt hx⟩
  · exact ⟨(h.tree.kids ns x k hx hm).1, h.tree.mlt hx hm⟩
theorem TreeD.rnd {W W' : World} {b base N : Nat} {F : Pic} {L : List Ent} (h : TreeD W b base N F L) {S S2 : Nat → Prop} (hr : Rnd S S2 W W') (hS : ∀ k, MineD F k → ¬ S k) : TreeD W' b base N F L := by
  have hsame : ∀ k, MineD F k → W'.heap[k]? = W.heap[k]? := fun k hk => hr.same k (h.mine k hk).2 (hS k hk)
  refine ⟨h.root, ⟨fun ns x hx => ⟨(h.tree.node ns x hx).1, (hsame _ ⟨ns, x, hx, .inl rfl⟩).trans (h.tree.node ns x hx).2⟩, fun ns x m hx hm => ⟨(h.tree.kids ns x m hx hm).1, ?_⟩, h.tree.leaf, h.tree.gone, h.tree.apart⟩, h.kinds, h.says, h.right⟩
  obtain ⟨D, ⟨es, clock, h1, h2⟩, h3⟩ := (h.tree.kids ns x m hx hm).2
  exact ⟨D, ⟨es, clock, (hsame _ ⟨ns, x, hx, .inr hm⟩).trans h1, h2⟩, h3⟩
/-- Where something stands: its parent is a directory. -/
theorem TreeD.parent {W : World} {b base N : Nat} {F : Pic} {L : List Ent} (h : TreeD W b base N F L) {ns : List (List UInt8)} {y : List UInt8} {x : Nd} (hx : F (ns ++ [y]) = some x) : ∃ u m, F ns = some u ∧ u.m = some m := by
  obtain ⟨u, hu⟩ := h.tree.ahead hx
  cases hm : u.m with
  | none => rw [h.tree.leaf ns u y hu hm] at hx; cases hx
  | some m => exact ⟨u, m, hu, hm⟩
theorem TreeD.text {W : World} {b base N : Nat} {F : Pic} {L : List Ent} (h : TreeD W b base N F L) {p : ByteArray} (hp : p.size ≠ 0) {x : Nd} (hx : F (namesP p) = some x) : x.e ∈ L ∧ x.e.path = p ∧ checkN p = 0 := by
  obtain ⟨h1, h2⟩ := h.says.of' _ x (names_ne hp) hx
  have h3 : x.e.path = p := names_inj (h.says.full _ h1) hp h2
  exact ⟨h1, h3, by rw [← h3]; exact wrong_check (h.right _ h1)⟩
theorem rnd_turned {W V W6 : World} {F F' : Pic} {m : Nat} (hb : Below W.heap.size W V) (ht : V.mapTurned W6 m) (hm : MineD F m) (hF : ∀ k, MineD F' k → MineD F k ∨ (W.heap.size ≤ k ∧ k < W6.heap.size)) : Rnd (MineD F) (MineD F') W W6 := by
  have hg := ht.grown
  have hs := hb.size
  refine ⟨hg.os.trans hb.os, hg.tape.trans hb.tape, hg.output.trans hb.output, Nat.le_trans hb.size hg.size, fun k hk hn => ?_, hF⟩
  exact (hg.block k (by omega) (by simp; rintro rfl; exact hn hm)).trans (hb.block k hk)

def takeN (L : List Ent) (p : ByteArray) : Int := if p.size = 0 then 15 else match L.find? (pathIs p) with | none => 10 | some _ => 0
/-- What a call leaves of the tree. -/
def DPost (b base N : Nat) (F : Pic) (L' : List Ent) (n : Int) (w : World) (e : Ending) (w' : World) : Prop :=
  e = .returned (errE n) ∧ ((n ≠ 0 ∧ Below w.heap.size w w') ∨ (n = 0 ∧ ∃ F', TreeD w' b base (N + 1) F' L' ∧ Rnd (MineD F) (MineD F') w w'))
set_option maxRecDepth 100000 in
set_option maxHeartbeats 4000000 in
theorem take_d (b base N : Nat) (F : Pic) (L : List Ent) (p : ByteArray) (hp : p.size ≤ 1152921504606846976) (w : World) (h : TreeD w b base N F L) :
    Calls Tryz.prog 80 #[.pointer (some ⟨b, 0, none⟩), .string p] w (DPost b base N F (goneL L (namesP p)) (takeN L p) w) := by
  obtain ⟨rt, rm, hrt, rfl, hrm⟩ := h.root
  have hps := parentB_size p
  by_cases h0 : p.size = 0
  · obtain rfl : p = ⟨#[]⟩ := un_inj (by apply List.eq_nil_of_length_eq_zero; rw [un_length]; exact h0)
    go_enter Tryz.func80, Tryz.ntmps80
    go_wp2
    go_ret
    exact ⟨rfl, .inl ⟨by rw [show takeN L ⟨#[]⟩ = 15 from if_pos rfl]; decide, Below.refl _ _⟩⟩
  have he : p.toList.isEmpty = false := (isEmpty_false p).2 (by omega)
  have hAT := fun W (hb : Below w.heap.size w W) => at_d base N F rt p W (by omega) hrt (h.tree.below hb)
  have hfd := h.says.find p h0
  cases hx : F (namesP p) with
  | none =>
    have HN : Hid (takeN L p = 10) := by
      unfold Hid takeN
      rw [if_neg h0, ← hfd, hx]; rfl
    rw [hx] at hAT
    replace hAT : ∀ W, Below w.heap.size w W → Calls Tryz.prog 77 #[.pointer (some ⟨rt.b, 0, none⟩), .string p] W fun e w' => e = .returned (.pointer none) ∧ Below W.heap.size W w' := hAT
    go_enter Tryz.func80, Tryz.ntmps80
    go_wp2_with (go_at_call 77; refine (hAT _ (Below.refl _ _)).mono ?_; rintro e w1 ⟨rfl, h1⟩)
    go_ret
    exact ⟨by rw [HN.out]; rfl, .inl ⟨by rw [HN.out]; decide, h1⟩⟩
  | some x =>
    obtain ⟨hxL, hxp, hck⟩ := h.text h0 hx
    have hsp := names_split hck
    have HN : Hid (takeN L p = 0) := by
      unfold Hid takeN
      rw [if_neg h0, ← hfd, hx]; rfl
    obtain ⟨u, m, hu, hm⟩ := h.parent (ns := namesP (parentB p)) (y := un (lastB p)) (x := x) (by rw [hsp]; exact hx)
    rw [hx] at hAT
    replace hAT : ∀ W, Below w.heap.size w W → Calls Tryz.prog 77 #[.pointer (some ⟨rt.b, 0, none⟩), .string p] W fun e w' => e = .returned (.pointer (some ⟨x.b, 0, none⟩)) ∧ Below W.heap.size W w' := hAT
    have hAP := fun W (hb : Below w.heap.size w W) => at_d base N F rt (parentB p) W (by omega) hrt (h.tree.below hb)
    rw [hu] at hAP
    replace hAP : ∀ W, Below w.heap.size w W → Calls Tryz.prog 77 #[.pointer (some ⟨rt.b, 0, none⟩), .string (parentB p)] W fun e w' => e = .returned (.pointer (some ⟨u.b, 0, none⟩)) ∧ Below W.heap.size W w' := hAP
    have hum : ∀ W, Below w.heap.size w W → W.cell? ⟨u.b, 5, none⟩ = some (.map (some m)) := fun W hb => by
      have h5 : W.cell? ⟨u.b, 5, none⟩ = some (.map u.m) := node_cell ((h.tree.below hb).node _ u hu).2 rfl
      rw [h5, hm]
    have DEL : ∀ W, Below w.heap.size w W → ∃ W6, (Builtin.delete_ #[111, 9] 0 #[.map (some m), .string (lastB p)]).run Tryz.prog W = .ok (.tuple #[]) W6 ∧ KidsAt W6 Tryz.prog 9 m N (setKid (kidsOf F (namesP (parentB p))) (un (lastB p)) none) ∧ W.mapTurned W6 m := fun W hb =>
      ((h.tree.below hb).kids _ u m hu hm).2.drop Tryz.underlying9 Tryz.underlying111 (Nat.le_trans (lastB_size p) (Nat.le_trans hp (by decide))) 0
    have hmu : some u.b ≠ some m := by simpa using h.tree.other hu hu hm
    have HFIN : Hid (∀ V W6, Below w.heap.size w V → KidsAt W6 Tryz.prog 9 m N (setKid (kidsOf F (namesP (parentB p))) (un (lastB p)) none) → V.mapTurned W6 m → ∃ F', TreeD W6 rt.b base (N + 1) F' (goneL L (namesP p)) ∧ Rnd (MineD F) (MineD F') w W6) := by
      intro V W6 hb k6 t6
      have hT := (h.tree.below hb).taken hu hm k6 t6
      rw [hsp] at hT
      have back : ∀ ns y, cutPic F (namesP p) ns = some y → F ns = some y := fun ns y hy => by
        unfold cutPic at hy
        split at hy
        · cases hy
        · exact hy
      refine ⟨cutPic F (namesP p), ⟨⟨rt, rm, ?_, rfl, hrm⟩, hT.mono (Nat.le_succ _), fun ns y hy => h.kinds ns y (back ns y hy), h.says.taken (names_ne h0), fun e he => h.right e (List.mem_filter.1 he).1⟩, rnd_turned hb t6 ⟨_, u, hu, .inr hm⟩ ?_⟩
      · unfold cutPic
        rw [if_neg (fun hp => names_ne h0 (List.prefix_nil.1 hp))]; exact hrt
      · rintro k ⟨ns, y, hy, h1⟩
        exact .inl ⟨ns, y, back ns y hy, h1⟩
    clear h hfd hx hu hm hxL hxp hck hsp hrt
    go_enter Tryz.func80, Tryz.ntmps80
    go_upto_region 5 with (go_at_call 77; refine (hAT _ (Below.refl _ _)).mono ?_; rintro e w1 ⟨rfl, h1⟩)
    have h1d : Below w.heap.size w w1.drew := below_drewN h1 1
    have humd := hum _ h1d
    go_region_held3 (fun W => W.cell? ⟨u.b, 5, none⟩ = some (.map (some m)))
      (first | exact hum _ h1 | exact humd | exact hum _ (below_join h1d h2) | exact t6.grown.cell (hum _ (below_join h1d h2)) hmu | go_keep)
      (first
        | (go_at_call 78; refine (parent_p _ _ (by omega)).mono ?_; rintro e w' ⟨rfl, rfl⟩)
        | (go_at_call 79; refine (last_p _ _ (by omega)).mono ?_; rintro e w' ⟨rfl, rfl⟩)
        | (go_at_call 77; refine (hAP _ h1d).mono ?_; rintro e w2 ⟨rfl, h2⟩; obtain ⟨W6, r6, k6, t6⟩ := DEL w2 (below_join h1d h2)))
    go_wp2
    go_ret
    exact ⟨by rw [HN.out]; rfl, .inr ⟨HN.out, HFIN.out _ _ (below_join h1d h2) k6 t6⟩⟩
end Go.Proofs.YtgildlfanfbebaaGreatDoor
