/- A range over a function that hands on more than one value a round, of whatever type, whose loop always goes on; its rounds write to a set of blocks alone. -/
import Derived.Test.YtbmakfdljddhcaaGreatDoorRndW
namespace Go.Proofs.YtbmakfdljddhcaaGreatDoor
open Go Go.RowKit

/-- What a relation says of the world it says of the blocks of S alone; they are there. -/
structure LocalQ {α : Type} (J : List α → (Nat → Prop) → World → Prop) : Prop where
  keep : ∀ pre S A B, J pre S A → A.heap.size ≤ B.heap.size → (∀ k, S k → B.heap[k]? = A.heap[k]?) → J pre S B
  there : ∀ pre S A, J pre S A → ∀ k, S k → k < A.heap.size
theorem LocalQ.below {α : Type} {J : List α → (Nat → Prop) → World → Prop} (h : LocalQ J) {pre : List α} {S : Nat → Prop} {A B : World} (hj : J pre S A) (hb : Below A.heap.size A B) : J pre S B := h.keep pre S A B hj hb.size (fun k hk => hb.block k (h.there pre S A hj k hk))
/-- What a round owes. -/
def RoundQ {α : Type} (P : Program) (l : Nat) (va : α → Array Value) (xs : List α) (J : List α → (Nat → Prop) → World → Prop) : Prop :=
  ∀ m pre x S W1, J pre S W1 → pre ++ [x] <+: xs → YieldAt Fence.wide m P l (va x) W1 fun e W2 => e = .returned (.bool true) ∧ ∃ S2, J (pre ++ [x]) S2 W2 ∧ Rnd S S2 W1 W2
/-- The function g over lb hands on just the things xs, each as the values va x, in their order, while what I says stays. -/
def GivesQ {α : Type} (P : Program) (g : Nat) (lb : Array Value) (va : α → Array Value) (xs : List α) (I : World → Prop) (w : World) : Prop :=
  ∀ (n l : Nat) (J : List α → (Nat → Prop) → World → Prop) (S : Nat → Prop) (W : World), Below w.heap.size w W → LocalQ J → (∀ pre S W, J pre S W → I W) → RoundQ P l va xs J → J [] S W →
    CallsIn Fence.wide n P g (#[.func (.yield l) #[] #[]] ++ lb) W fun e W2 => (∃ v, e = .returned v) ∧ ∃ S2, J xs S2 W2 ∧ Rnd S S2 W W2

theorem range_lawQ {α : Type} {P : Program} {g : Operand} {ps : Array Tmp} {assign body : Code} {Q : Exit → Act → World → Prop} {a : Act} {w : World} {n : Nat}
    {gf : Nat} {lb : Array Value} (hg : a.eval g = .func (.func gf) #[] lb) (eg : ∀ args w, (callFunc gf args).run P w = .ok (.enter gf args) w)
    {xs : List α} {Iv : World → Prop} {w0 : World} {va : α → Array Value} (hva : ∀ x, (va x).size = ps.size) (hseq : GivesQ P gf lb va xs Iv w0) (hb0 : Below w0.heap.size w0 w)
    (I : List α → (Nat → Prop) → World → Prop) (S0 : Nat → Prop) (hI : LocalQ I) (hIv : ∀ pre S W, I pre S W → Iv W) (h0 : I [] S0 w) (a₁ : α → Act)
    (hassign : ∀ (m l : Nat) (x : α) (W : World) (K : Act → World → Prop), K (a₁ x) W →
      assign.wpIn (Fence.wide.inRound l) m P (Exit.then K (fun _ _ _ => False)) { tmps := (ps.zip (va x)).foldl (fun (tmps : Array Value) (x : Nat × Value) => match x with | (t, a) => tmps.setIfInBounds t a) a.tmps, defers := [] } W)
    (hbody : ∀ (m l : Nat) (pre : List α) (x : α) (S : Nat → Prop) (W : World), I pre S W → pre ++ [x] <+: xs →
      body.wpIn (Fence.wide.inRound l) m P (fun e _ W3 => e = .normal ∧ ∃ S2, I (pre ++ [x]) S2 W3 ∧ Rnd S S2 W W3) (a₁ x) W)
    (hdone : ∀ (D : Nat) (S : Nat → Prop) (W : World), w.heap.size ≤ D → I xs S W → Rnd S0 S w W → ¬ S D → W.heap[D]? = some (.deferred (some [])) → Q .normal { a with defers := { target := .collected D, args := #[] } :: a.defers } W) :
    (Code.rangeFunc g ps assign body).wpIn Fence.wide n P Q a w := by
  refine wpIn_rangeFunc fun fn hfn => ?_
  let rc : LoopState → Option Code → Loop := fun st pe => { state := st, pending := pe, fn, tmps := a.tmps, params := ps, assign, body, defers := w.heap.size }
  let L := w.heap.size + 1
  let D := w.heap.size
  have start : ∃ W1, (w.alloc (.deferred (some []))).alloc (.loop (rc .ready none)) = W1 := ⟨_, rfl⟩
  obtain ⟨W1, e1⟩ := start
  have sz : W1.heap.size = w.heap.size + 2 := by rw [← e1]; simp
  have atL : W1.heap[L]? = some (.loop (rc .ready none)) := by
    have h := World.alloc_heap_new (w.alloc (.deferred (some []))) (.loop (rc .ready none))
    rw [World.size_alloc] at h; rw [← e1]; exact h
  have atD : W1.heap[D]? = some (.deferred (some [])) := by
    rw [← e1]; exact (Below.heap_alloc _ _ _ (by simp [D])).trans (World.alloc_heap_new w _)
  have bw : Below w.heap.size w W1 := by rw [← e1]; exact ((Below.refl _ w).alloc (Nat.le_refl _) _).alloc (by simp) _
  have b1 : Below w0.heap.size w0 W1 := hb0.trans (bw.mono hb0.size)
  have i1 : I [] S0 W1 := hI.below h0 bw
  have nS : ∀ k, S0 k → k < w.heap.size := hI.there _ _ _ h0
  refine ⟨L, [{ target := .collected D, args := #[] }], W1, { target := .fn (.func gf) lb, args := #[.func (.yield L) #[] #[]] }, W1, gf, #[.func (.yield L) #[] #[]] ++ lb, W1, ?_, ?_, fun _ _ => trivial, ?_, ?_, ?_⟩
  · rw [← e1]; exact run_enterLoop_outer _ _ _ _ _
  · simp only [resolve, hg]; simp [go_sem]
  · simp [invoke, go_sem, eg]
  · intro h; exact absurd h (by simp [Fence.wide])
  refine (hseq (n - 1) L (fun pre S W => ∃ SI : Nat → Prop, I pre SI W ∧ W.heap[L]? = some (.loop (rc .ready none)) ∧ W.heap[D]? = some (.deferred (some [])) ∧ ¬ SI L ∧ ¬ SI D ∧ S = fun k => SI k ∨ k = L ∨ k = D)
    (fun k => S0 k ∨ k = L ∨ k = D) W1 b1 ?_ (fun pre S W h => by obtain ⟨SI, hi, _⟩ := h; exact hIv _ _ _ hi) ?_ ⟨S0, i1, atL, atD, fun h => by have := nS _ h; omega, fun h => by have := nS _ h; omega, rfl⟩).mono ?_
  · refine ⟨?_, ?_⟩
    · rintro pre S A B ⟨SI, h1, h2, h3, h4, h5, rfl⟩ hs hk
      exact ⟨SI, hI.keep pre SI A B h1 hs (fun k h => hk k (.inl h)), (hk L (.inr (.inl rfl))).trans h2, (hk D (.inr (.inr rfl))).trans h3, h4, h5, rfl⟩
    · rintro pre S A ⟨SI, h1, h2, h3, h4, h5, rfl⟩ k hk
      rcases hk with hk | hk | hk
      · exact hI.there pre SI A h1 k hk
      · subst hk; exact (Array.getElem?_eq_some_iff.1 h2).1
      · subst hk; exact (Array.getElem?_eq_some_iff.1 h3).1
  · rintro m pre x S W ⟨SI, hi, hl, hd, hnl, hnd, rfl⟩ hx
    have lt : L < W.heap.size := (Array.getElem?_eq_some_iff.1 hl).1
    have nSI := hI.there _ _ _ hi
    refine ⟨fn, _, assign, body, run_yield (P := P) (args := va x) hl (hva x), roundIn_of_wpIn hfn ?_⟩
    refine hassign _ _ x W _ ?_
    refine ⟨_, run_beginRound hl rfl, ?_⟩
    obtain ⟨WB, hWB⟩ : ∃ WB, W.putObj L (.loop { rc .ready none with state := .busy }) = WB := ⟨_, rfl⟩
    have szB : WB.heap.size = W.heap.size := by rw [← hWB, put_size]
    have otherB : ∀ k, k ≠ L → WB.heap[k]? = W.heap[k]? := fun k hk => by rw [← hWB]; exact World.putObj_heap_other (by omega)
    have hlB : WB.heap[L]? = some (.loop (rc .busy none)) := by rw [← hWB]; exact World.putObj_heap_same (by omega)
    have osB : WB.os = W.os ∧ WB.tape = W.tape ∧ WB.output = W.output := by rw [← hWB]; exact ⟨rfl, rfl, rfl⟩
    rw [hWB]
    have hiB : I pre SI WB := hI.keep pre SI W WB hi (by omega) (fun k hk => otherB k (fun e => hnl (e ▸ hk)))
    refine wpIn_mono (hbody _ _ pre x SI WB hiB hx) ?_
    rintro e a3 W3 ⟨rfl, S2, hi3, r3⟩
    have s3 := r3.size
    have nL2 : ∀ k, k < W.heap.size → ¬ SI k → ¬ S2 k := fun k hk h h2 => by
      rcases r3.more k h2 with h3 | h3
      · exact h h3
      · omega
    have hl3 : W3.heap[L]? = some (.loop (rc .busy none)) := (r3.same L (by omega) hnl).trans hlB
    have hd3 : W3.heap[D]? = some (.deferred (some [])) := (r3.same D (by omega) hnd).trans ((otherB D (by omega)).trans hd)
    refine ⟨_, _, run_endRound (P := P) none hl3, rfl, fun k => S2 k ∨ k = L ∨ k = D, ⟨S2, hI.keep _ S2 W3 _ hi3 (by rw [put_size]; exact Nat.le_refl _) (fun k hk => World.putObj_heap_other (fun e => nL2 L lt hnl (e ▸ hk))), World.putObj_heap_same (by omega), (World.putObj_heap_other (by omega)).trans hd3, nL2 L lt hnl, nL2 D (by omega) hnd, rfl⟩, ?_⟩
    refine ⟨r3.os.trans osB.1, r3.tape.trans osB.2.1, r3.output.trans osB.2.2, by rw [put_size]; omega, fun k hk hn => ?_, fun k hk => ?_⟩
    · have n1 : k ≠ L := fun e => hn (.inr (.inl e))
      have n2 : ¬ SI k := fun e => hn (.inl e)
      exact (World.putObj_heap_other (by omega)).trans ((r3.same k (by omega) n2).trans (otherB k n1))
    · rcases hk with hk | hk
      · rcases r3.more k hk with h3 | h3
        · exact .inl (.inl h3)
        · exact .inr ⟨by omega, by rw [put_size]; omega⟩
      · exact .inl (.inr hk)
  · rintro e W2 ⟨⟨v, rfl⟩, S2', ⟨SI, hi, hl, hd, hnl, hnd, rfl⟩, r2⟩
    have s2 := r2.size
    refine ⟨none, _, run_endLoop (P := P) hl (by simp [rc]), hdone D SI _ (Nat.le_refl _) (hI.keep _ SI W2 _ hi (by rw [put_size]; exact Nat.le_refl _) (fun k hk => World.putObj_heap_other (fun e => hnl (e ▸ hk)))) ?_ hnd ((World.putObj_heap_other (by omega)).trans hd)⟩
    refine ⟨r2.os.trans bw.os, r2.tape.trans bw.tape, r2.output.trans bw.output, by rw [put_size]; omega, fun k hk hn => ?_, fun k hk => ?_⟩
    · exact (World.putObj_heap_other (by omega)).trans ((r2.same k (by omega) (fun h => by rcases h with h | h | h; exact hn h; omega; omega)).trans (bw.block k hk))
    · rcases r2.more k (.inl hk) with h | h
      · rcases h with h | h | h
        · exact .inl h
        · exact absurd (h ▸ hk) hnl
        · exact absurd (h ▸ hk) hnd
      · exact .inr ⟨by omega, by rw [put_size]; omega⟩
end Go.Proofs.YtbmakfdljddhcaaGreatDoor
