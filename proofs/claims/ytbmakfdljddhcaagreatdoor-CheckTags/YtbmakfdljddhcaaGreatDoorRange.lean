/- A range over a function that hands texts on: what such a function owes ('Gives'), and the one law by which a loop over it is gone through; it serves a function that itself ranges over another. -/
import Derived.RangeFuncNested
import Derived.RangeFuncBound
import Derived.RangeFuncCalls
import Derived.RangeFuncLeaves
import Derived.RangeFuncBox
import Derived.WalkKit
namespace Go.Proofs.YtbmakfdljddhcaaGreatDoor
open Go Go.RowKit

/-- Blocks B to B + d lie as they lay. -/
def SameIn (B d : Nat) (W W2 : World) : Prop := ∀ k, B ≤ k → k < B + d → W2.heap[k]? = W.heap[k]?
theorem SameIn.trans {B d : Nat} {X Y Z : World} (h : SameIn B d X Y) (k : SameIn B d Y Z) : SameIn B d X Z := fun i a b => (k i a b).trans (h i a b)
theorem SameIn.refl (B d : Nat) (W : World) : SameIn B d W W := fun _ _ _ => rfl

/-- The function g over lb hands on just the texts xs, in their order, to whatever loop; it may be left early; what the loop's body keeps it keeps. It has d blocks of its own, which it lays ahead of all rounds, and which no round may turn. -/
def GivesD (P : Program) (g : Nat) (lb : Array Value) (xs : List ByteArray) (n₀ d : Nat) (w : World) : Prop :=
  ∀ (n l : Nat) (J Jx : List ByteArray → World → Prop) (W : World), Below w.heap.size w W → OwnFrom W.heap.size J → OwnFrom W.heap.size Jx →
    (∀ m pre x W1, J pre W1 → pre ++ [x] <+: xs → W.heap.size + d ≤ W1.heap.size → YieldAt Fence.wide m P l #[.string x] W1 fun e W2 =>
      ((e = .returned (.bool true) ∧ J (pre ++ [x]) W2) ∨ (e = .returned (.bool false) ∧ Jx (pre ++ [x]) W2)) ∧ Below n₀ W1 W2 ∧ KeepsFrom W.heap.size W1 W2 ∧ SameIn W.heap.size d W1 W2) →
    J [] W →
    CallsIn Fence.wide n P g (#[.func (.yield l) #[] #[]] ++ lb) W fun e W2 => (∃ v, e = .returned v) ∧ (J xs W2 ∨ ∃ pre, pre <+: xs ∧ Jx pre W2)
/-- The same, where it has no block of its own. -/
def Gives (P : Program) (g : Nat) (lb : Array Value) (xs : List ByteArray) (n₀ : Nat) (w : World) : Prop := GivesD P g lb xs n₀ 0 w

/-- How a round may be left: what it owes at each way out. -/
def LeftD (B n₀ d : Nat) (I : List ByteArray → World → Prop) (Ix : Code → List ByteArray → World → Prop) (ys : List ByteArray) (W : World) : Exit → Act → World → Prop
  | .normal, _, W2 => I ys W2 ∧ Below n₀ W W2 ∧ KeepsFrom B W W2 ∧ SameIn (B + 2) d W W2
  | .ret, _, W2 => Ix .ret ys W2 ∧ Below n₀ W W2 ∧ KeepsFrom B W W2 ∧ SameIn (B + 2) d W W2
  | .exit id, _, W2 => Ix (.exit id) ys W2 ∧ Below n₀ W W2 ∧ KeepsFrom B W W2 ∧ SameIn (B + 2) d W W2
  | .goto t, _, W2 => Ix (.goto t) ys W2 ∧ Below n₀ W W2 ∧ KeepsFrom B W W2 ∧ SameIn (B + 2) d W W2
  | _, _, _ => False
def Left1 (B n₀ : Nat) (I : List ByteArray → World → Prop) (Ix : Code → List ByteArray → World → Prop) (ys : List ByteArray) (W : World) : Exit → Act → World → Prop
  | .normal, _, W2 => I ys W2 ∧ Below n₀ W W2 ∧ KeepsFrom B W W2
  | .ret, _, W2 => Ix .ret ys W2 ∧ Below n₀ W W2 ∧ KeepsFrom B W W2
  | .exit id, _, W2 => Ix (.exit id) ys W2 ∧ Below n₀ W W2 ∧ KeepsFrom B W W2
  | .goto t, _, W2 => Ix (.goto t) ys W2 ∧ Below n₀ W W2 ∧ KeepsFrom B W W2
  | _, _, _ => False
theorem leftD_of_left1 {B n₀ : Nat} {I : List ByteArray → World → Prop} {Ix : Code → List ByteArray → World → Prop} {ys : List ByteArray} {W : World} (e : Exit) (a : Act) (W2 : World) (h : Left1 B n₀ I Ix ys W e a W2) : LeftD B n₀ 0 I Ix ys W e a W2 := by
  have s : SameIn (B + 2) 0 W W2 := fun k h1 h2 => by omega
  cases e with
  | normal => exact ⟨h.1, h.2.1, h.2.2, s⟩
  | ret => exact ⟨h.1, h.2.1, h.2.2, s⟩
  | exit id => exact ⟨h.1, h.2.1, h.2.2, s⟩
  | goto t => exact ⟨h.1, h.2.1, h.2.2, s⟩
  | panic ch => exact h.elim
  | outgrown => exact h.elim

theorem putLoop_below {n₀ l : Nat} {W : World} {o : Obj} (o2 : Obj) (h : W.heap[l]? = some o) (hn : n₀ ≤ l) : Below n₀ W (W.putObj l o2) :=
  (Below.refl n₀ W).grown (grownBy_putObj' W l o2) (by have := (Array.getElem?_eq_some_iff.1 h).1; omega) (fun k e => by cases e; exact hn)
theorem putLoop_keeps {B l : Nat} {W : World} (o2 : Obj) (hl : l < B) : KeepsFrom B W (W.putObj l o2) :=
  KeepsFrom.of_grownBy (grownBy_putObj' W l o2) (fun j e => by cases e; exact hl)

theorem range_lawD {P : Program} {g : Operand} {p : Tmp} {assign body : Code} {Q : Exit → Act → World → Prop} {a : Act} {w : World} {n : Nat}
    {gf : Nat} {lb : Array Value} (hg : a.eval g = .func (.func gf) #[] lb) (eg : ∀ args w, (callFunc gf args).run P w = .ok (.enter gf args) w)
    {xs : List ByteArray} {n₀ d : Nat} {w0 : World} (hseq : GivesD P gf lb xs n₀ d w0) (hn₀ : n₀ ≤ w.heap.size) (hb0 : Below w0.heap.size w0 w)
    (I : List ByteArray → World → Prop) (Ix : Code → List ByteArray → World → Prop) (hI : OwnFrom w.heap.size I) (hIx : ∀ c, OwnFrom w.heap.size (Ix c)) (h0 : I [] w) (a₁ : ByteArray → Act)
    (hassign : ∀ (m l : Nat) (x : ByteArray) (W : World) (K : Act → World → Prop), K (a₁ x) W →
      assign.wpIn (Fence.wide.inRound l) m P (Exit.then K (fun _ _ _ => False)) { tmps := a.tmps.setIfInBounds p (.string x), defers := [] } W)
    (hbody : ∀ (m l : Nat) (pre : List ByteArray) (x : ByteArray) (W : World), I pre W → pre ++ [x] <+: xs → w.heap.size + 2 + d ≤ W.heap.size →
      body.wpIn (Fence.wide.inRound l) m P (LeftD (w.heap.size) n₀ d I Ix (pre ++ [x]) W) (a₁ x) W)
    (hdone : ∀ (D : Nat) (W : World), w.heap.size ≤ D → I xs W → W.heap[D]? = some (.deferred (some [])) → Q .normal { a with defers := { target := .collected D, args := #[] } :: a.defers } W)
    (hstop : ∀ (D : Nat) (c : Code) (pre : List ByteArray) (W : World), w.heap.size ≤ D → pre <+: xs → Ix c pre W → W.heap[D]? = some (.deferred (some [])) →
      c.wpIn Fence.wide n P Q { a with defers := { target := .collected D, args := #[] } :: a.defers } W) :
    (Code.rangeFunc g #[p] assign body).wpIn Fence.wide n P Q a w := by
  refine wpIn_rangeFunc fun fn hfn => ?_
  let rc : LoopState → Option Code → Loop := fun st pe => { state := st, pending := pe, fn, tmps := a.tmps, params := #[p], assign, body, defers := w.heap.size }
  let L := w.heap.size + 1
  let D := w.heap.size
  have start : ∃ W1, (w.alloc (.deferred (some []))).alloc (.loop (rc .ready none)) = W1 := ⟨_, rfl⟩
  obtain ⟨W1, e1⟩ := start
  have sz : W1.heap.size = w.heap.size + 2 := by rw [← e1]; simp
  have atL : W1.heap[L]? = some (.loop (rc .ready none)) := by
    have h := World.alloc_heap_new (w.alloc (.deferred (some []))) (.loop (rc .ready none))
    rw [World.size_alloc] at h; rw [← e1]; exact h
  have atD : W1.heap[D]? = some (.deferred (some [])) := by
    rw [← e1]; exact (Below.heap_alloc _ _ _ (by simp [D])).trans (World.alloc_heap_new w _)
  have b1 : Below w0.heap.size w0 W1 := by
    rw [← e1]; exact hb0.trans ((((Below.refl _ w).alloc (Nat.le_refl _) _).alloc (by simp) _).mono hb0.size)
  have i1 : I [] W1 := by rw [← e1]; exact hI.alloc _ (hI.alloc _ h0)
  -- what lies beside the loop's own two blocks is turned by nothing that comes later than W1
  have keep : ∀ {A B : World} {row : Option Nat} {k : Nat} {o : Obj}, A.grownBy B row → (∀ r, row = some r → W1.heap.size ≤ r ∧ ∃ o : Obj, A.heap[r]? = some o ∧ o.isCells = false) → k < W1.heap.size → A.heap[k]? = some o → B.heap[k]? = some o :=
    fun hgr hr hk ho => (hgr.block _ (Array.getElem?_eq_some_iff.1 ho).1 (fun e => by have := (hr _ e.symm).1; omega)).trans ho
  have weak : ∀ {A : World} {row : Option Nat}, (∀ r, row = some r → W1.heap.size ≤ r ∧ ∃ o : Obj, A.heap[r]? = some o ∧ o.isCells = false) → ∀ r, row = some r → w.heap.size ≤ r ∧ ∃ o : Obj, A.heap[r]? = some o ∧ o.isCells = false :=
    fun hr r e => ⟨by have := (hr r e).1; omega, (hr r e).2⟩
  refine ⟨L, [{ target := .collected D, args := #[] }], W1, { target := .fn (.func gf) lb, args := #[.func (.yield L) #[] #[]] }, W1, gf, #[.func (.yield L) #[] #[]] ++ lb, W1, ?_, ?_, fun _ _ => trivial, ?_, ?_, ?_⟩
  · rw [← e1]; exact run_enterLoop_outer _ _ _ _ _
  · simp only [resolve, hg]; simp [go_sem]
  · simp [invoke, go_sem, eg]
  · intro h; exact absurd h (by simp [Fence.wide])
  refine (hseq (n - 1) L (fun pre W => I pre W ∧ W.heap[L]? = some (.loop (rc .ready none)) ∧ W.heap[D]? = some (.deferred (some [])))
    (fun pre W => ∃ c, Ix c pre W ∧ W.heap[L]? = some (.loop (rc .done (some c))) ∧ W.heap[D]? = some (.deferred (some []))) W1 b1
    (fun s A B row hs hgr hr => ⟨hI s A B row hs.1 hgr (weak hr), keep hgr hr (by omega) hs.2.1, keep hgr hr (by omega) hs.2.2⟩)
    (fun s A B row hs hgr hr => by
      obtain ⟨c, hc, hl, hd⟩ := hs
      exact ⟨c, hIx c s A B row hc hgr (weak hr), keep hgr hr (by omega) hl, keep hgr hr (by omega) hd⟩) ?_ ⟨i1, atL, atD⟩).mono ?_
  · rintro m pre x W ⟨hi, hl, hd⟩ hx hds
    rw [sz] at hds
    have lt : L < W.heap.size := (Array.getElem?_eq_some_iff.1 hl).1
    refine ⟨fn, _, assign, body, run_yield (P := P) (args := #[.string x]) hl rfl, roundIn_of_wpIn hfn ?_⟩
    rw [show Array.foldl (fun (tmps : Array Value) (x : Nat × Value) => match x with | (t, a) => tmps.setIfInBounds t a) (rc .ready none).tmps ((rc .ready none).params.zip #[Value.string x]) = a.tmps.setIfInBounds p (.string x) from by simp [rc]]
    refine hassign _ _ x W _ ?_
    refine ⟨_, run_beginRound hl rfl, ?_⟩
    have l2 : (W.putObj L (.loop (rc .busy none))).heap[L]? = some (.loop (rc .busy none)) := World.putObj_heap_same lt
    have d2 : (W.putObj L (.loop (rc .busy none))).heap[D]? = some (.deferred (some [])) := (World.putObj_heap_other (by omega)).trans hd
    have bel2 : Below n₀ W (W.putObj L (.loop (rc .busy none))) := putLoop_below _ hl (by omega)
    have kee2 : KeepsFrom W1.heap.size W (W.putObj L (.loop (rc .busy none))) := putLoop_keeps _ (by omega)
    have sam2 : SameIn W1.heap.size d W (W.putObj L (.loop (rc .busy none))) := fun k h1 _ => World.putObj_heap_other (by omega)
    -- the end of a round, whichever way it was left
    have over : ∀ (j : Option Code) (W3 : World), KeepsFrom w.heap.size (W.putObj L (.loop (rc .busy none))) W3 → Below n₀ (W.putObj L (.loop (rc .busy none))) W3 → SameIn (w.heap.size + 2) d (W.putObj L (.loop (rc .busy none))) W3 →
        (Instr.endRound L j).run P W3 = .ok (.bool j.isNone) (W3.putObj L (.loop (rc (if j.isNone then .ready else .done) j))) ∧ W3.heap[L]? = some (.loop (rc .busy none)) ∧
        (W3.putObj L (.loop (rc (if j.isNone then .ready else .done) j))).heap[L]? = some (.loop (rc (if j.isNone then .ready else .done) j)) ∧
        (W3.putObj L (.loop (rc (if j.isNone then .ready else .done) j))).heap[D]? = some (.deferred (some [])) ∧
        Below n₀ W (W3.putObj L (.loop (rc (if j.isNone then .ready else .done) j))) ∧ KeepsFrom W1.heap.size W (W3.putObj L (.loop (rc (if j.isNone then .ready else .done) j))) ∧ SameIn W1.heap.size d W (W3.putObj L (.loop (rc (if j.isNone then .ready else .done) j))) := fun j W3 k3 b3 s3 => by
      rw [← sz] at s3
      have l3 := k3.same _ _ (by omega) l2 rfl
      have d3 := k3.same _ _ (Nat.le_refl _) d2 rfl
      have k3' : KeepsFrom W1.heap.size (W.putObj L (.loop (rc .busy none))) W3 := ⟨k3.size, fun k o hk => k3.same k o (by omega)⟩
      exact ⟨run_endRound (P := P) j l3, l3, World.putObj_heap_same (Array.getElem?_eq_some_iff.1 l3).1, (World.putObj_heap_other (by omega)).trans d3,
        (bel2.trans b3).trans (putLoop_below _ l3 (by omega)), (kee2.trans k3').trans (putLoop_keeps _ (by omega)), (sam2.trans s3).trans (fun k h1 _ => World.putObj_heap_other (by omega))⟩
    refine wpIn_mono (hbody _ _ pre x _ (hI.putObj _ hi (by omega) hl rfl) hx (by simp; omega)) ?_
    rintro e a3 W3 hp
    cases e with
    | normal =>
      obtain ⟨hi3, b3, k3, s3⟩ := hp
      obtain ⟨hr, l3, l4, d4, b4, k4, s4⟩ := over none W3 k3 b3 s3
      exact ⟨_, _, hr, .inl ⟨rfl, hI.putObj _ hi3 (by omega) l3 rfl, l4, d4⟩, b4, k4, s4⟩
    | ret =>
      obtain ⟨hi3, b3, k3, s3⟩ := hp
      obtain ⟨hr, l3, l4, d4, b4, k4, s4⟩ := over (some .ret) W3 k3 b3 s3
      exact ⟨_, _, hr, .inr ⟨rfl, .ret, (hIx _).putObj _ hi3 (by omega) l3 rfl, l4, d4⟩, b4, k4, s4⟩
    | exit id =>
      obtain ⟨hi3, b3, k3, s3⟩ := hp
      obtain ⟨hr, l3, l4, d4, b4, k4, s4⟩ := over (some (.exit id)) W3 k3 b3 s3
      exact ⟨_, _, hr, .inr ⟨rfl, .exit id, (hIx _).putObj _ hi3 (by omega) l3 rfl, l4, d4⟩, b4, k4, s4⟩
    | goto t =>
      obtain ⟨hi3, b3, k3, s3⟩ := hp
      obtain ⟨hr, l3, l4, d4, b4, k4, s4⟩ := over (some (.goto t)) W3 k3 b3 s3
      exact ⟨_, _, hr, .inr ⟨rfl, .goto t, (hIx _).putObj _ hi3 (by omega) l3 rfl, l4, d4⟩, b4, k4, s4⟩
    | panic ch => exact hp.elim
    | outgrown => exact hp.elim
  · rintro e W2 ⟨⟨v, rfl⟩, ⟨hi, hl, hd⟩ | ⟨pre, hpre, c, hc, hl, hd⟩⟩
    · exact ⟨none, _, run_endLoop (P := P) hl (by simp [rc]), hdone _ _ (Nat.le_refl _) (hI.putObj _ hi (by omega) hl rfl) ((World.putObj_heap_other (by omega)).trans hd)⟩
    · exact ⟨some c, _, run_endLoop (P := P) hl (by simp [rc]), hstop _ c pre _ (Nat.le_refl _) hpre ((hIx c).putObj _ hc (by omega) hl rfl) ((World.putObj_heap_other (by omega)).trans hd)⟩

theorem range_law {P : Program} {g : Operand} {p : Tmp} {assign body : Code} {Q : Exit → Act → World → Prop} {a : Act} {w : World} {n : Nat}
    {gf : Nat} {lb : Array Value} (hg : a.eval g = .func (.func gf) #[] lb) (eg : ∀ args w, (callFunc gf args).run P w = .ok (.enter gf args) w)
    {xs : List ByteArray} {n₀ : Nat} {w0 : World} (hseq : Gives P gf lb xs n₀ w0) (hn₀ : n₀ ≤ w.heap.size) (hb0 : Below w0.heap.size w0 w)
    (I : List ByteArray → World → Prop) (Ix : Code → List ByteArray → World → Prop) (hI : OwnFrom w.heap.size I) (hIx : ∀ c, OwnFrom w.heap.size (Ix c)) (h0 : I [] w) (a₁ : ByteArray → Act)
    (hassign : ∀ (m l : Nat) (x : ByteArray) (W : World) (K : Act → World → Prop), K (a₁ x) W →
      assign.wpIn (Fence.wide.inRound l) m P (Exit.then K (fun _ _ _ => False)) { tmps := a.tmps.setIfInBounds p (.string x), defers := [] } W)
    (hbody : ∀ (m l : Nat) (pre : List ByteArray) (x : ByteArray) (W : World), I pre W → pre ++ [x] <+: xs → w.heap.size + 2 ≤ W.heap.size →
      body.wpIn (Fence.wide.inRound l) m P (Left1 (w.heap.size) n₀ I Ix (pre ++ [x]) W) (a₁ x) W)
    (hdone : ∀ (D : Nat) (W : World), w.heap.size ≤ D → I xs W → W.heap[D]? = some (.deferred (some [])) → Q .normal { a with defers := { target := .collected D, args := #[] } :: a.defers } W)
    (hstop : ∀ (D : Nat) (c : Code) (pre : List ByteArray) (W : World), w.heap.size ≤ D → pre <+: xs → Ix c pre W → W.heap[D]? = some (.deferred (some [])) →
      c.wpIn Fence.wide n P Q { a with defers := { target := .collected D, args := #[] } :: a.defers } W) :
    (Code.rangeFunc g #[p] assign body).wpIn Fence.wide n P Q a w :=
  range_lawD (d := 0) hg eg hseq hn₀ hb0 I Ix hI hIx h0 a₁ hassign (fun m l pre x W hi hx hz => wpIn_mono (hbody m l pre x W hi hx hz) leftD_of_left1) hdone hstop

/- What a loop's relation may say, and that it abides the turn of a block that is no cells. -/
theorem bx {A B : World} {row : Option Nat} {k b : Nat} {t : TypeId} {v : Value} (h : Boxed A b t v) (hg : A.grownBy B row) (hr : ∀ r, row = some r → k ≤ r ∧ ∃ o : Obj, A.heap[r]? = some o ∧ o.isCells = false) : Boxed B b t v :=
  h.kept hg (fun e => by
    obtain ⟨_, o, ho, hc⟩ := hr b e.symm
    rw [show A.heap[b]? = _ from h] at ho; cases ho; cases hc)
theorem blw {w A B : World} {row : Option Nat} {k n₀ : Nat} (h : Below n₀ w A) (hg : A.grownBy B row) (hr : ∀ r, row = some r → k ≤ r ∧ ∃ o : Obj, A.heap[r]? = some o ∧ o.isCells = false) (hn : n₀ ≤ w.heap.size) (hk : n₀ ≤ k) : Below n₀ w B :=
  h.grown hg (Nat.le_trans hn h.size) (fun j e => Nat.le_trans hk (hr j e).1)
theorem boxed_below {W W2 : World} {b : Nat} {t : TypeId} {v : Value} (h : Boxed W b t v) (hb : Below W.heap.size W W2) : Boxed W2 b t v := (hb.block b h.lt).trans h
theorem boxed_put {W : World} {b D : Nat} {t : TypeId} {v : Value} {o : Obj} (o2 : Obj) (h : Boxed W b t v) (hD : W.heap[D]? = some o) (ho : o.isCells = false) : Boxed (W.putObj D o2) b t v :=
  bx (k := 0) h (grownBy_putObj' W D o2) (fun r e => by cases e; exact ⟨Nat.zero_le _, o, hD, ho⟩)
theorem keeps_of_below {B : Nat} {W W2 : World} (h : Below W.heap.size W W2) : KeepsFrom B W W2 :=
  ⟨h.size, fun k _ _ hk _ => (h.block k (Array.getElem?_eq_some_iff.1 hk).1).trans hk⟩
theorem keeps_set {B : Nat} (W : World) (a : Addr) (v : Value) : KeepsFrom B W (W.setCell a v) := (KeepsOthers.setCell W a v).from B
end Go.Proofs.YtbmakfdljddhcaaGreatDoor
