/- A range over a function that hands on more than one value a round, of whatever type: what such a function owes, and the law by which a loop over it is gone through. -/
import Derived.Test.YthkbhcefckbcnaaGreatDoorRange
namespace Go.Proofs.YthkbhcefckbcnaaGreatDoor
open Go Go.RowKit

/-- The function g over lb hands on just the things xs, each as the values va x, in their order, to whatever loop; it may be left early; what the loop's body keeps it keeps. -/
def GivesP {α : Type} (P : Program) (g : Nat) (lb : Array Value) (va : α → Array Value) (xs : List α) (n₀ : Nat) (w : World) : Prop :=
  ∀ (n l : Nat) (J Jx : List α → World → Prop) (W : World), Below w.heap.size w W → OwnFrom W.heap.size J → OwnFrom W.heap.size Jx →
    (∀ m pre x W1, J pre W1 → pre ++ [x] <+: xs → W.heap.size ≤ W1.heap.size → YieldAt Fence.wide m P l (va x) W1 fun e W2 =>
      ((e = .returned (.bool true) ∧ J (pre ++ [x]) W2 ∧ Below n₀ W1 W2) ∨ (e = .returned (.bool false) ∧ Jx (pre ++ [x]) W2)) ∧ KeepsFrom W.heap.size W1 W2) →
    J [] W →
    CallsIn Fence.wide n P g (#[.func (.yield l) #[] #[]] ++ lb) W fun e W2 => (∃ v, e = .returned v) ∧ (J xs W2 ∨ ∃ pre, pre <+: xs ∧ Jx pre W2)
def LeftP {α : Type} (B n₀ : Nat) (I : List α → World → Prop) (Ix : Code → List α → World → Prop) (ys : List α) (W : World) : Exit → Act → World → Prop
  | .normal, _, W2 => I ys W2 ∧ Below n₀ W W2 ∧ KeepsFrom B W W2
  | .ret, _, W2 => Ix .ret ys W2 ∧ KeepsFrom B W W2
  | .exit id, _, W2 => Ix (.exit id) ys W2 ∧ KeepsFrom B W W2
  | .goto t, _, W2 => Ix (.goto t) ys W2 ∧ KeepsFrom B W W2
  | _, _, _ => False
theorem range_lawP {α : Type} {P : Program} {g : Operand} {ps : Array Tmp} {assign body : Code} {Q : Exit → Act → World → Prop} {a : Act} {w : World} {n : Nat}
    {gf : Nat} {lb : Array Value} (hg : a.eval g = .func (.func gf) #[] lb) (eg : ∀ args w, (callFunc gf args).run P w = .ok (.enter gf args) w)
    {xs : List α} {n₀ : Nat} {w0 : World} {va : α → Array Value} (hva : ∀ x, (va x).size = ps.size) (hseq : GivesP P gf lb va xs n₀ w0) (hn₀ : n₀ ≤ w.heap.size) (hb0 : Below w0.heap.size w0 w)
    (I : List α → World → Prop) (Ix : Code → List α → World → Prop) (hI : OwnFrom w.heap.size I) (hIx : ∀ c, OwnFrom w.heap.size (Ix c)) (h0 : I [] w) (ob : α → Obj) (a₁ : α → Nat → Act)
    (hassign : ∀ (m l : Nat) (x : α) (W : World) (K : Act → World → Prop), K (a₁ x W.heap.size) (W.alloc (ob x)) →
      assign.wpIn (Fence.wide.inRound l) m P (Exit.then K (fun _ _ _ => False)) { tmps := (ps.zip (va x)).foldl (fun (tmps : Array Value) (x : Nat × Value) => match x with | (t, a) => tmps.setIfInBounds t a) a.tmps, defers := [] } W)
    (hbody : ∀ (m l : Nat) (pre : List α) (x : α) (k : Nat) (W : World), I pre W → pre ++ [x] <+: xs → w.heap.size + 2 ≤ k → W.heap[k]? = some (ob x) →
      body.wpIn (Fence.wide.inRound l) m P (LeftP (w.heap.size) n₀ I Ix (pre ++ [x]) W) (a₁ x k) W)
    (hdone : ∀ (D : Nat) (W : World), w.heap.size ≤ D → I xs W → W.heap[D]? = some (.deferred (some [])) → Q .normal { a with defers := { target := .collected D, args := #[] } :: a.defers } W)
    (hstop : ∀ (D : Nat) (c : Code) (pre : List α) (W : World), w.heap.size ≤ D → pre <+: xs → Ix c pre W → W.heap[D]? = some (.deferred (some [])) →
      c.wpIn Fence.wide n P Q { a with defers := { target := .collected D, args := #[] } :: a.defers } W) :
    (Code.rangeFunc g ps assign body).wpIn Fence.wide n P Q a w := by
  refine wpIn_rangeFunc fun fn hfn => ?_
  let rc : LoopState → Option Code → Loop := fun st pe => { state := st, pending := pe, fn, tmps := a.tmps, params := ps, assign, body, defers := w.heap.size }
  let L := w.heap.size + 1
  let D := w.heap.size
  have start : ∃ W1, (w.alloc (.deferred (some []))).alloc (.loop (rc .ready none)) = W1 := ⟨_, rfl⟩
  obtain ⟨W1, e1⟩ := start
  have sz : W1.heap.size = w.heap.size + 2 := by rw [← e1]; simp
  have atL : W1.heap[L]? = some (.loop (rc .ready none)) := by
    have h := World.alloc_heap_new (w.alloc (.deferred (some []))) (.loop (rc .ready none))
    rw [World.size_alloc] at h; rw [← e1]; exact h
  have atD : W1.heap[D]? = some (.deferred (some [])) := by
    rw [← e1]; exact (Below.heap_alloc _ _ _ (by simp [D])).trans (World.alloc_heap_new w _)
  have b1 : Below w0.heap.size w0 W1 := by
    rw [← e1]; exact hb0.trans ((((Below.refl _ w).alloc (Nat.le_refl _) _).alloc (by simp) _).mono hb0.size)
  have i1 : I [] W1 := by rw [← e1]; exact hI.alloc _ (hI.alloc _ h0)
  -- what lies beside the loop's own two blocks is turned by nothing that comes later than W1
  have keep : ∀ {A B : World} {row : Option Nat} {k : Nat} {o : Obj}, A.grownBy B row → (∀ r, row = some r → W1.heap.size ≤ r ∧ ∃ o : Obj, A.heap[r]? = some o ∧ o.isCells = false) → k < W1.heap.size → A.heap[k]? = some o → B.heap[k]? = some o :=
    fun hgr hr hk ho => (hgr.block _ (Array.getElem?_eq_some_iff.1 ho).1 (fun e => by have := (hr _ e.symm).1; omega)).trans ho
  have weak : ∀ {A : World} {row : Option Nat}, (∀ r, row = some r → W1.heap.size ≤ r ∧ ∃ o : Obj, A.heap[r]? = some o ∧ o.isCells = false) → ∀ r, row = some r → w.heap.size ≤ r ∧ ∃ o : Obj, A.heap[r]? = some o ∧ o.isCells = false :=
    fun hr r e => ⟨by have := (hr r e).1; omega, (hr r e).2⟩
  refine ⟨L, [{ target := .collected D, args := #[] }], W1, { target := .fn (.func gf) lb, args := #[.func (.yield L) #[] #[]] }, W1, gf, #[.func (.yield L) #[] #[]] ++ lb, W1, ?_, ?_, fun _ _ => trivial, ?_, ?_, ?_⟩
  · rw [← e1]; exact run_enterLoop_outer _ _ _ _ _
  · simp only [resolve, hg]; simp [go_sem]
  · simp [invoke, go_sem, eg]
  · intro h; exact absurd h (by simp [Fence.wide])
  refine (hseq (n - 1) L (fun pre W => I pre W ∧ W.heap[L]? = some (.loop (rc .ready none)) ∧ W.heap[D]? = some (.deferred (some [])))
    (fun pre W => ∃ c, Ix c pre W ∧ W.heap[L]? = some (.loop (rc .done (some c))) ∧ W.heap[D]? = some (.deferred (some []))) W1 b1
    (fun s A B row hs hgr hr => ⟨hI s A B row hs.1 hgr (weak hr), keep hgr hr (by omega) hs.2.1, keep hgr hr (by omega) hs.2.2⟩)
    (fun s A B row hs hgr hr => by
      obtain ⟨c, hc, hl, hd⟩ := hs
      exact ⟨c, hIx c s A B row hc hgr (weak hr), keep hgr hr (by omega) hl, keep hgr hr (by omega) hd⟩) ?_ ⟨i1, atL, atD⟩).mono ?_
  · rintro m pre x W ⟨hi, hl, hd⟩ hx hds
    rw [sz] at hds
    have lt : L < W.heap.size := (Array.getElem?_eq_some_iff.1 hl).1
    refine ⟨fn, _, assign, body, run_yield (P := P) (args := va x) hl (hva x), roundIn_of_wpIn hfn ?_⟩
    refine hassign _ _ x W _ ?_
    obtain ⟨V, hV⟩ : ∃ V, W.alloc (ob x) = V := ⟨_, rfl⟩
    have szV : V.heap.size = W.heap.size + 1 := by rw [← hV]; simp
    have hlV : V.heap[L]? = some (.loop (rc .ready none)) := by rw [← hV]; exact (Below.heap_alloc _ _ _ lt).trans hl
    have hdV : V.heap[D]? = some (.deferred (some [])) := by rw [← hV]; exact (Below.heap_alloc _ _ _ (by omega)).trans hd
    have hiV : I pre V := by rw [← hV]; exact hI.alloc _ hi
    have belV : Below n₀ W V := by rw [← hV]; exact (Below.refl _ W).alloc (by omega) _
    have keeV : KeepsFrom W1.heap.size W V := by rw [← hV]; exact KeepsFrom.of_grownBy (World.grownBy_alloc W _ none) (fun j e => by cases e)
    have obV : V.heap[W.heap.size]? = some (ob x) := by rw [← hV]; exact World.alloc_heap_new W _
    rw [hV]
    clear hV
    have ltV : L < V.heap.size := by omega
    refine ⟨_, run_beginRound hlV rfl, ?_⟩
    have l2 : (V.putObj L (.loop (rc .busy none))).heap[L]? = some (.loop (rc .busy none)) := World.putObj_heap_same ltV
    have d2 : (V.putObj L (.loop (rc .busy none))).heap[D]? = some (.deferred (some [])) := (World.putObj_heap_other (by omega)).trans hdV
    have bel2 : Below n₀ W (V.putObj L (.loop (rc .busy none))) := belV.trans (putLoop_below _ hlV (by omega))
    have kee2 : KeepsFrom W1.heap.size W (V.putObj L (.loop (rc .busy none))) := keeV.trans (putLoop_keeps _ (by omega))
    -- the end of a round, whichever way it was left
    have over : ∀ (j : Option Code) (W3 : World), KeepsFrom w.heap.size (V.putObj L (.loop (rc .busy none))) W3 →
        (Instr.endRound L j).run P W3 = .ok (.bool j.isNone) (W3.putObj L (.loop (rc (if j.isNone then .ready else .done) j))) ∧ W3.heap[L]? = some (.loop (rc .busy none)) ∧
        (W3.putObj L (.loop (rc (if j.isNone then .ready else .done) j))).heap[L]? = some (.loop (rc (if j.isNone then .ready else .done) j)) ∧
        (W3.putObj L (.loop (rc (if j.isNone then .ready else .done) j))).heap[D]? = some (.deferred (some [])) ∧
        (Below n₀ (V.putObj L (.loop (rc .busy none))) W3 → Below n₀ W (W3.putObj L (.loop (rc (if j.isNone then .ready else .done) j)))) ∧ KeepsFrom W1.heap.size W (W3.putObj L (.loop (rc (if j.isNone then .ready else .done) j))) := fun j W3 k3 => by
      have l3 := k3.same _ _ (by omega) l2 rfl
      have d3 := k3.same _ _ (Nat.le_refl _) d2 rfl
      have k3' : KeepsFrom W1.heap.size (V.putObj L (.loop (rc .busy none))) W3 := ⟨k3.size, fun k o hk => k3.same k o (by omega)⟩
      exact ⟨run_endRound (P := P) j l3, l3, World.putObj_heap_same (Array.getElem?_eq_some_iff.1 l3).1, (World.putObj_heap_other (by omega)).trans d3,
        fun b3 => (bel2.trans b3).trans (putLoop_below _ l3 (by omega)), (kee2.trans k3').trans (putLoop_keeps _ (by omega))⟩
    refine wpIn_mono (hbody _ _ pre x W.heap.size _ (hI.putObj _ hiV (by omega) hlV rfl) hx (by omega) ((World.putObj_heap_other (by omega)).trans obV)) ?_
    rintro e a3 W3 hp
    cases e with
    | normal =>
      obtain ⟨hi3, b3, k3⟩ := hp
      obtain ⟨hr, l3, l4, d4, b4, k4⟩ := over none W3 k3
      exact ⟨_, _, hr, .inl ⟨rfl, ⟨hI.putObj _ hi3 (by omega) l3 rfl, l4, d4⟩, b4 b3⟩, k4⟩
    | ret =>
      obtain ⟨hi3, k3⟩ := hp
      obtain ⟨hr, l3, l4, d4, b4, k4⟩ := over (some .ret) W3 k3
      exact ⟨_, _, hr, .inr ⟨rfl, .ret, (hIx _).putObj _ hi3 (by omega) l3 rfl, l4, d4⟩, k4⟩
    | exit id =>
      obtain ⟨hi3, k3⟩ := hp
      obtain ⟨hr, l3, l4, d4, b4, k4⟩ := over (some (.exit id)) W3 k3
      exact ⟨_, _, hr, .inr ⟨rfl, .exit id, (hIx _).putObj _ hi3 (by omega) l3 rfl, l4, d4⟩, k4⟩
    | goto t =>
      obtain ⟨hi3, k3⟩ := hp
      obtain ⟨hr, l3, l4, d4, b4, k4⟩ := over (some (.goto t)) W3 k3
      exact ⟨_, _, hr, .inr ⟨rfl, .goto t, (hIx _).putObj _ hi3 (by omega) l3 rfl, l4, d4⟩, k4⟩
    | panic ch => exact hp.elim
    | outgrown => exact hp.elim
  · rintro e W2 ⟨⟨v, rfl⟩, ⟨hi, hl, hd⟩ | ⟨pre, hpre, c, hc, hl, hd⟩⟩
    · exact ⟨none, _, run_endLoop (P := P) hl (by simp [rc]), hdone _ _ (Nat.le_refl _) (hI.putObj _ hi (by omega) hl rfl) ((World.putObj_heap_other (by omega)).trans hd)⟩
    · exact ⟨some c, _, run_endLoop (P := P) hl (by simp [rc]), hstop _ c pre _ (Nat.le_refl _) hpre ((hIx c).putObj _ hc (by omega) hl rfl) ((World.putObj_heap_other (by omega)).trans hd)⟩

end Go.Proofs.YthkbhcefckbcnaaGreatDoor
