/- delta.unlike: what is unlike in two rows. -/
import Derived.Test.YtgildlfanfbebaaGreatDoorDelM
import Derived.Deep.RegionHeld3
import Derived.Deep.Cut
import Derived.Test.YtgildlfanfbebaaGreatDoorApD
import Derived.Test.YtgildlfanfbebaaGreatDoorBelK

namespace Go.Proofs.YtgildlfanfbebaaGreatDoor
open Go Go.RowKit

theorem range_lawB {α : Type} {P : Program} {g : Operand} {ps : Array Tmp} {assign body : Code} {Q : Exit → Act → World → Prop} {a : Act} {w : World} {n : Nat}
    {gf : Nat} {lb : Array Value} (hg : a.eval g = .func (.func gf) #[] lb) (eg : ∀ args w, (callFunc gf args).run P w = .ok (.enter gf args) w)
    {xs : List α} {Iv : World → Prop} {w0 : World} {va : α → Array Value} (hva : ∀ x, (va x).size = ps.size) (hseq : GivesQ P gf lb va xs Iv w0) (hb0 : Below w0.heap.size w0 w)
    (I : List α → (Nat → Prop) → World → Prop) (S0 : Nat → Prop) (hI : LocalQ I) (hIv : ∀ pre S W, I pre S W → Iv W) (h0 : I [] S0 w) (ob1 ob2 : α → Obj) (a₁ : α → Nat → Act)
    (hassign : ∀ (m l : Nat) (x : α) (W : World) (K : Act → World → Prop), K (a₁ x W.heap.size) ((W.alloc (ob1 x)).alloc (ob2 x)) →
      assign.wpIn (Fence.wide.inRound l) m P (Exit.then K (fun _ _ _ => False)) { tmps := (ps.zip (va x)).foldl (fun (tmps : Array Value) (x : Nat × Value) => match x with | (t, a) => tmps.setIfInBounds t a) a.tmps, defers := [] } W)
    (hbody : ∀ (m l : Nat) (pre : List α) (x : α) (S : Nat → Prop) (b : Nat) (W : World), I pre S W → pre ++ [x] <+: xs → W.heap[b]? = some (ob1 x) → W.heap[b + 1]? = some (ob2 x) → (∀ k, S k → k < b) → w.heap.size + 2 ≤ b →
      body.wpIn (Fence.wide.inRound l) m P (fun e _ W3 => e = .normal ∧ ∃ S2, I (pre ++ [x]) S2 W3 ∧ Rnd S S2 W W3) (a₁ x b) W)
    (hdone : ∀ (D : Nat) (S : Nat → Prop) (W : World), w.heap.size ≤ D → I xs S W → Rnd S0 S w W → ¬ S D → W.heap[D]? = some (.deferred (some [])) → Q .normal { a with defers := { target := .collected D, args := #[] } :: a.defers } W) :
    (Code.rangeFunc g ps assign body).wpIn Fence.wide n P Q a w := by
  refine wpIn_rangeFunc fun fn hfn => ?_
  let rc : LoopState → Option Code → Loop := fun st pe => { state := st, pending := pe, fn, tmps := a.tmps, params := ps, assign, body, defers := w.heap.size }
  let L := w.heap.size + 1
  let D := w.heap.size
  have start : ∃ W1, (w.alloc (.deferred (some []))).alloc (.loop (rc .ready none)) = W1 := ⟨_, rfl⟩
  obtain ⟨W1, e1⟩ := start
  have sz : W1.heap.size = w.heap.size + 2 := by rw [← e1]; simp
  have atL : W1.heap[L]? = some (.loop (rc .ready none)) := by
    have h := World.alloc_heap_new (w.alloc (.deferred (some []))) (.loop (rc .ready none))
    rw [World.size_alloc] at h; rw [← e1]; exact h
  have atD : W1.heap[D]? = some (.deferred (some [])) := by
    rw [← e1]; exact (Below.heap_alloc _ _ _ (by simp [D])).trans (World.alloc_heap_new w _)
  have bw : Below w.heap.size w W1 := by rw [← e1]; exact ((Below.refl _ w).alloc (Nat.le_refl _) _).alloc (by simp) _
  have b1 : Below w0.heap.size w0 W1 := hb0.trans (bw.mono hb0.size)
  have i1 : I [] S0 W1 := hI.below h0 bw
  have nS : ∀ k, S0 k → k < w.heap.size := hI.there _ _ _ h0
  refine ⟨L, [{ target := .collected D, args := #[] }], W1, { target := .fn (.func gf) lb, args := #[.func (.yield L) #[] #[]] }, W1, gf, #[.func (.yield L) #[] #[]] ++ lb, W1, ?_, ?_, fun _ _ => trivial, ?_, ?_, ?_⟩
  · rw [← e1]; exact run_enterLoop_outer _ _ _ _ _
  · simp only [resolve, hg]; simp [go_sem]
  · simp [invoke, go_sem, eg]
  · intro h; exact absurd h (by simp [Fence.wide])
  refine (hseq (n - 1) L (fun pre S W => ∃ SI : Nat → Prop, I pre SI W ∧ W.heap[L]? = some (.loop (rc .ready none)) ∧ W.heap[D]? = some (.deferred (some [])) ∧ ¬ SI L ∧ ¬ SI D ∧ S = fun k => SI k ∨ k = L ∨ k = D)
    (fun k => S0 k ∨ k = L ∨ k = D) W1 b1 ?_ (fun pre S W h => by obtain ⟨SI, hi, _⟩ := h; exact hIv _ _ _ hi) ?_ ⟨S0, i1, atL, atD, fun h => by have := nS _ h; omega, fun h => by have := nS _ h; omega, rfl⟩).mono ?_
  · refine ⟨?_, ?_⟩
    · rintro pre S A B ⟨SI, h1, h2, h3, h4, h5, rfl⟩ hs hk
      exact ⟨SI, hI.keep pre SI A B h1 hs (fun k h => hk k (.inl h)), (hk L (.inr (.inl rfl))).trans h2, (hk D (.inr (.inr rfl))).trans h3, h4, h5, rfl⟩
    · rintro pre S A ⟨SI, h1, h2, h3, h4, h5, rfl⟩ k hk
      rcases hk with hk | hk | hk
      · exact hI.there pre SI A h1 k hk
      · subst hk; exact (Array.getElem?_eq_some_iff.1 h2).1
      · subst hk; exact (Array.getElem?_eq_some_iff.1 h3).1
  · rintro m pre x S W ⟨SI, hi, hl, hd, hnl, hnd, rfl⟩ hx
    have lt : L < W.heap.size := (Array.getElem?_eq_some_iff.1 hl).1
    have nSI := hI.there _ _ _ hi
    refine ⟨fn, _, assign, body, run_yield (P := P) (args := va x) hl (hva x), roundIn_of_wpIn hfn ?_⟩
    refine hassign _ _ x W _ ?_
    obtain ⟨WA, hWA⟩ : ∃ WA, (W.alloc (ob1 x)).alloc (ob2 x) = WA := ⟨_, rfl⟩
    have szA : WA.heap.size = W.heap.size + 2 := by rw [← hWA]; simp
    have oldA : ∀ k, k < W.heap.size → WA.heap[k]? = W.heap[k]? := fun k hk => by rw [← hWA]; exact (Below.heap_alloc _ _ _ (by simp; omega)).trans (Below.heap_alloc _ _ _ hk)
    have newA : WA.heap[W.heap.size]? = some (ob1 x) := by rw [← hWA]; exact (Below.heap_alloc _ _ _ (by simp)).trans (World.alloc_heap_new _ _)
    have newB : WA.heap[W.heap.size + 1]? = some (ob2 x) := by
      have h := World.alloc_heap_new (W.alloc (ob1 x)) (ob2 x)
      rw [World.size_alloc] at h; rw [← hWA]; exact h
    have osA : WA.os = W.os ∧ WA.tape = W.tape ∧ WA.output = W.output := by rw [← hWA]; exact ⟨rfl, rfl, rfl⟩
    rw [hWA]
    have hlA : WA.heap[L]? = some (.loop (rc .ready none)) := (oldA L lt).trans hl
    refine ⟨_, run_beginRound hlA rfl, ?_⟩
    obtain ⟨WB, hWB⟩ : ∃ WB, WA.putObj L (.loop { rc .ready none with state := .busy }) = WB := ⟨_, rfl⟩
    have szB : WB.heap.size = W.heap.size + 2 := by rw [← hWB, put_size, szA]
    have otherA : ∀ k, k ≠ L → WB.heap[k]? = WA.heap[k]? := fun k hk => by rw [← hWB]; exact World.putObj_heap_other (by omega)
    have otherB : ∀ k, k < W.heap.size → k ≠ L → WB.heap[k]? = W.heap[k]? := fun k hk hne => (otherA k hne).trans (oldA k hk)
    have hlB : WB.heap[L]? = some (.loop (rc .busy none)) := by rw [← hWB]; exact World.putObj_heap_same (by omega)
    have osB : WB.os = W.os ∧ WB.tape = W.tape ∧ WB.output = W.output := by rw [← hWB]; exact osA
    rw [hWB]
    have hiB : I pre SI WB := hI.keep pre SI W WB hi (by omega) (fun k hk => otherB k (nSI k hk) (fun e => hnl (e ▸ hk)))
    refine wpIn_mono (hbody _ _ pre x SI W.heap.size WB hiB hx ((otherA _ (by omega)).trans newA) ((otherA _ (by omega)).trans newB) nSI (by omega)) ?_
    rintro e a3 W3 ⟨rfl, S2, hi3, r3⟩
    have s3 := r3.size
    have nL2 : ∀ k, k < W.heap.size → ¬ SI k → ¬ S2 k := fun k hk h h2 => by
      rcases r3.more k h2 with h3 | h3
      · exact h h3
      · omega
    have hl3 : W3.heap[L]? = some (.loop (rc .busy none)) := (r3.same L (by omega) hnl).trans hlB
    have hd3 : W3.heap[D]? = some (.deferred (some [])) := (r3.same D (by omega) hnd).trans ((otherB D (by omega) (by omega)).trans hd)
    refine ⟨_, _, run_endRound (P := P) none hl3, rfl, fun k => S2 k ∨ k = L ∨ k = D, ⟨S2, hI.keep _ S2 W3 _ hi3 (by rw [put_size]; exact Nat.le_refl _) (fun k hk => World.putObj_heap_other (fun e => nL2 L lt hnl (e ▸ hk))), World.putObj_heap_same (by omega), (World.putObj_heap_other (by omega)).trans hd3, nL2 L lt hnl, nL2 D (by omega) hnd, rfl⟩, ?_⟩
    refine ⟨r3.os.trans osB.1, r3.tape.trans osB.2.1, r3.output.trans osB.2.2, by rw [put_size]; omega, fun k hk hn => ?_, fun k hk => ?_⟩
    · have n1 : k ≠ L := fun e => hn (.inr (.inl e))
      have n2 : ¬ SI k := fun e => hn (.inl e)
      exact (World.putObj_heap_other (by omega)).trans ((r3.same k (by omega) n2).trans (otherB k hk n1))
    · rcases hk with hk | hk
      · rcases r3.more k hk with h3 | h3
        · exact .inl (.inl h3)
        · exact .inr ⟨by omega, by rw [put_size]; omega⟩
      · exact .inl (.inr hk)
  · rintro e W2 ⟨⟨v, rfl⟩, S2', ⟨SI, hi, hl, hd, hnl, hnd, rfl⟩, r2⟩
    have s2 := r2.size
    refine ⟨none, _, run_endLoop (P := P) hl (by simp [rc]), hdone D SI _ (Nat.le_refl _) (hI.keep _ SI W2 _ hi (by rw [put_size]; exact Nat.le_refl _) (fun k hk => World.putObj_heap_other (fun e => hnl (e ▸ hk)))) ?_ hnd ((World.putObj_heap_other (by omega)).trans hd)⟩
    refine ⟨r2.os.trans bw.os, r2.tape.trans bw.tape, r2.output.trans bw.output, by rw [put_size]; omega, fun k hk hn => ?_, fun k hk => ?_⟩
    · exact (World.putObj_heap_other (by omega)).trans ((r2.same k (by omega) (fun h => by rcases h with h | h | h; exact hn h; omega; omega)).trans (bw.block k hk))
    · rcases r2.more k (.inl hk) with h | h
      · rcases h with h | h | h
        · exact .inl h
        · exact absurd (h ▸ hk) hnl
        · exact absurd (h ▸ hk) hnd
      · exact .inr ⟨by omega, by rw [put_size]; omega⟩
end Go.Proofs.YtgildlfanfbebaaGreatDoor

namespace Go.Proofs.YtgildlfanfbebaaGreatDoor
open Go Go.RowKit Go.Shelf
attribute [local go_sem] Oper.semAt_some

theorem together_p (a1 : Option Addr) (n1 c1 : Nat) (a2 : Option Addr) (n2 c2 : Nat) (w : World) : Calls Tryz.prog 65 #[.slice a1 n1 c1, .slice a2 n2 c2, byV] w fun e w' => e = .returned (.func (.func 103) #[] #[.pointer (some ⟨w.heap.size, 0, none⟩), .pointer (some ⟨w.heap.size + 1, 0, none⟩), .pointer (some ⟨w.heap.size + 2, 0, none⟩)]) ∧ w' = ((w.alloc (.cells #[.slice a1 n1 c1] 22)).alloc (.cells #[.slice a2 n2 c2] 22)).alloc (.cells #[byV] 100) := by
  go_enter Tryz.func65, Tryz.ntmps65
  go_wp2
  go_ret
  exact ⟨rfl, rfl⟩
/-- An entry written into a variable. -/
def set5 (W : World) (b : Nat) (x : Ent) : World := ((((W.setCell ⟨b, 0, none⟩ (.string x.path)).setCell ⟨b, 1, none⟩ (.int .i64 x.kind)).setCell ⟨b, 2, none⟩ (.int .i64 x.mode)).setCell ⟨b, 3, none⟩ (.string x.data)).setCell ⟨b, 4, none⟩ (.string x.link)
theorem setCell_os (W : World) (a : Addr) (v : Value) : (W.setCell a v).os = W.os := rfl
theorem setCell_tape (W : World) (a : Addr) (v : Value) : (W.setCell a v).tape = W.tape := rfl
theorem setCell_out (W : World) (a : Addr) (v : Value) : (W.setCell a v).output = W.output := rfl
theorem set5_facts {W : World} {b : Nat} {t : TypeId} {c0 c1 c2 c3 c4 : Value} (h : W.heap[b]? = some (.cells #[c0, c1, c2, c3, c4] t)) (x : Ent) : (set5 W b x).heap[b]? = some (.cells (entA x) t) ∧ (∀ k, k ≠ b → (set5 W b x).heap[k]? = W.heap[k]?) ∧ (set5 W b x).heap.size = W.heap.size ∧ (set5 W b x).os = W.os ∧ (set5 W b x).tape = W.tape ∧ (set5 W b x).output = W.output := by
  refine ⟨?_, fun k hk => ?_, by simp [set5, World.setCell], ?_, ?_, ?_⟩
  · unfold set5
    rw [set_block (set_block (set_block (set_block (set_block h _) _) _) _) _]
    simp [entA]
  · unfold set5
    rw [Below.heap_setCell _ _ _ _ hk, Below.heap_setCell _ _ _ _ hk, Below.heap_setCell _ _ _ _ hk, Below.heap_setCell _ _ _ _ hk, Below.heap_setCell _ _ _ _ hk]
  · unfold set5; rw [setCell_os, setCell_os, setCell_os, setCell_os, setCell_os]
  · unfold set5; rw [setCell_tape, setCell_tape, setCell_tape, setCell_tape, setCell_tape]
  · unfold set5; rw [setCell_out, setCell_out, setCell_out, setCell_out, setCell_out]
theorem ent_block {W : World} {b : Nat} {x : Ent} {t : TypeId} (h : W.heap[b]? = some (.cells (entA x) t)) : EntC W b 0 x := by
  have h9 : ∀ j v, (entA x)[j]? = some v → W.cell? ⟨b, j, none⟩ = some v := fun j v hv => by
    unfold World.cell?; simp only [h]; exact hv
  exact ⟨h9 0 _ rfl, h9 1 _ rfl, h9 2 _ rfl, h9 3 _ rfl, h9 4 _ rfl⟩
/-- Where the rest of a row lies. -/
def dropA (a : Option Addr) (cap p : Nat) : Option Addr := if cap = p then a else a.map (·.add (p * 5))
theorem slice_drop (a : Option Addr) (n cap p : Nat) (hp : p ≤ n) : ∀ W, (Instr.slice 22 (.slice a n cap) (some (.int .i64 p)) none none).run Tryz.prog W = .ok (.slice (dropA a cap p) (n - p) (cap - p)) W := by
  intro W
  have ht : Tryz.prog.underlying 22 = some (.slice (Tryz.prog.elem 22)) := by kernel_rfl
  have he : Tryz.prog.elem 22 = 52 := by kernel_rfl
  have h := run_slice_l (P := Tryz.prog) W 22 a n cap ht .i64 p (by omega) (by omega)
  rw [he] at h
  rw [h, show (sizeOf 52).run Tryz.prog W = .ok 5 W from Tryz.sizeOf52 W]
  unfold dropA sliced
  simp only [Result.andThen, Int.toNat_natCast]
set_option maxRecDepth 100000 in
set_option maxHeartbeats 4000000 in
theorem tog_gives (ba bb bo : Nat) (u v : Value) (A B : List Ent) (w : World) (hs : ∀ e ∈ A ++ B, e.path.size ≤ 1099511627776) (hlA : A.length ≤ 1073741824) (hlB : B.length ≤ 1073741824) :
    GivesQ Tryz.prog 103 #[.pointer (some ⟨ba, 0, none⟩), .pointer (some ⟨bb, 0, none⟩), .pointer (some ⟨bo, 0, none⟩)] (fun x : Ent × Ent => #[entV x.1, entV x.2]) (togL A B) (TogI ba bb bo u v A B) w := by
  intro n l J S W hW hJ hI hY h0
  have HI : Hid (∀ pre S W, J pre S W → TogI ba bb bo u v A B W) := hI
  have HY : Hid (RoundQ Tryz.prog l (fun x : Ent × Ent => #[entV x.1, entV x.2]) (togL A B) J) := hY
  have HJ : Hid (LocalQ J) := hJ
  have H0 : Hid (J [] S W) := h0
  have HS : Hid (∀ e ∈ A ++ B, e.path.size ≤ 1099511627776) := hs
  clear hW hJ hI hY h0 hs
  refine callsIn_of_wp Tryz.func103 rfl trivial ?_ rfl
  simp only [Tryz.ntmps103, List.size_toArray, List.length_cons, List.length_nil, Nat.reduceAdd, Nat.reduceSub, Array.replicate_succ, Array.replicate_zero, List.push_toArray, List.append_toArray, List.nil_append, List.cons_append]
  gi_wp2
  gi_loopw [5, 6] (fun i k wr => ∃ (p q : Nat) (pre : List (Ent × Ent)) (S2 : Nat → Prop), i = .int .i64 p ∧ k = .int .i64 q ∧ p ≤ A.length ∧ q ≤ B.length ∧ togL A B = pre ++ togL (A.drop p) (B.drop q) ∧ J pre S2 wr ∧ Rnd S S2 W wr) (fun i k _ => (A.length - (intOf i).toNat) + (B.length - (intOf k).toNat))
  case atStart => exact ⟨0, 0, [], S, rfl, rfl, Nat.zero_le _, Nat.zero_le _, by simp, H0.out, Rnd.refl _ _⟩
  case round =>
    obtain ⟨p, q, pre, S2, rfl, rfl, hpA, hqB, htog, hj, hr⟩ := hrel
    obtain ⟨ca, cb, co, eu, ev⟩ := HI.out _ _ _ hj
    have HE : Hid (EntsAt wr u A ∧ EntsAt wr v B) := ⟨eu, ev⟩
    obtain ⟨a1, cap1, b1, o1, rfl, ha1, hcap1, hc1⟩ := eu
    obtain ⟨a2, cap2, b2, o2, rfl, ha2, hcap2, hc2⟩ := ev
    have HT : Hid (togL A B = pre ++ togL (A.drop p) (B.drop q)) := htog
    have HJR : Hid (J pre S2 wr ∧ Rnd S S2 W wr) := ⟨hj, hr⟩
    clear htog hj hr
    by_cases hend : p = A.length ∧ q = B.length
    · have h1 : ¬ (p : Int) < (A.length : Int) := by omega
      have h2 : ¬ (q : Int) < (B.length : Int) := by omega
      have HN : Hid (togL A B = pre) := by
        unfold Hid
        rw [HT.out, hend.1, hend.2, List.drop_length, List.drop_length, togL]; simp
      gi_wp2
      go_end0
      exact ⟨⟨_, rfl⟩, S2, by rw [HN.out]; exact HJR.out.1, HJR.out.2⟩
    · by_cases hpl : p < A.length
      · have h1 : (p : Int) < (A.length : Int) := by omega
        gi_upto_region 3 with fail
        have hbV : Below wr.heap.size wr ((wr.alloc (.cells #[.string ⟨#[]⟩, .int .i64 0, .int .i64 0, .string ⟨#[]⟩, .string ⟨#[]⟩] 52)).alloc (.cells #[.string ⟨#[]⟩, .int .i64 0, .int .i64 0, .string ⟨#[]⟩, .string ⟨#[]⟩] 52)) := ((Below.refl _ _).alloc (Nat.le_refl _) _).alloc (by simp) _
        have hx0 : ((wr.alloc (.cells #[.string ⟨#[]⟩, .int .i64 0, .int .i64 0, .string ⟨#[]⟩, .string ⟨#[]⟩] 52)).alloc (.cells #[.string ⟨#[]⟩, .int .i64 0, .int .i64 0, .string ⟨#[]⟩, .string ⟨#[]⟩] 52)).heap[wr.heap.size]? = some (.cells #[.string ⟨#[]⟩, .int .i64 0, .int .i64 0, .string ⟨#[]⟩, .string ⟨#[]⟩] 52) := (Below.heap_alloc _ _ _ (by simp)).trans (World.alloc_heap_new wr _)
        have hy0 : ((wr.alloc (.cells #[.string ⟨#[]⟩, .int .i64 0, .int .i64 0, .string ⟨#[]⟩, .string ⟨#[]⟩] 52)).alloc (.cells #[.string ⟨#[]⟩, .int .i64 0, .int .i64 0, .string ⟨#[]⟩, .string ⟨#[]⟩] 52)).heap[wr.heap.size + 1]? = some (.cells #[.string ⟨#[]⟩, .int .i64 0, .int .i64 0, .string ⟨#[]⟩, .string ⟨#[]⟩] 52) := by
          have h := World.alloc_heap_new (wr.alloc (.cells #[.string ⟨#[]⟩, .int .i64 0, .int .i64 0, .string ⟨#[]⟩, .string ⟨#[]⟩] 52)) (.cells #[.string ⟨#[]⟩, .int .i64 0, .int .i64 0, .string ⟨#[]⟩, .string ⟨#[]⟩] 52); rw [World.size_alloc] at h; exact h
        have hsV : ((wr.alloc (.cells #[.string ⟨#[]⟩, .int .i64 0, .int .i64 0, .string ⟨#[]⟩, .string ⟨#[]⟩] 52)).alloc (.cells #[.string ⟨#[]⟩, .int .i64 0, .int .i64 0, .string ⟨#[]⟩, .string ⟨#[]⟩] 52)).heap.size = wr.heap.size + 2 := by simp
        have cav : ((wr.alloc (.cells #[.string ⟨#[]⟩, .int .i64 0, .int .i64 0, .string ⟨#[]⟩, .string ⟨#[]⟩] 52)).alloc (.cells #[.string ⟨#[]⟩, .int .i64 0, .int .i64 0, .string ⟨#[]⟩, .string ⟨#[]⟩] 52)).cell? ⟨ba, 0, none⟩ = some (.slice a1 A.length cap1) := (hbV.cell (p := ⟨ba, 0, none⟩) (World.block_lt_of_cell? wr _ ca)).trans ca
        have cbv : ((wr.alloc (.cells #[.string ⟨#[]⟩, .int .i64 0, .int .i64 0, .string ⟨#[]⟩, .string ⟨#[]⟩] 52)).alloc (.cells #[.string ⟨#[]⟩, .int .i64 0, .int .i64 0, .string ⟨#[]⟩, .string ⟨#[]⟩] 52)).cell? ⟨bb, 0, none⟩ = some (.slice a2 B.length cap2) := (hbV.cell (p := ⟨bb, 0, none⟩) (World.block_lt_of_cell? wr _ cb)).trans cb
        have cov : ((wr.alloc (.cells #[.string ⟨#[]⟩, .int .i64 0, .int .i64 0, .string ⟨#[]⟩, .string ⟨#[]⟩] 52)).alloc (.cells #[.string ⟨#[]⟩, .int .i64 0, .int .i64 0, .string ⟨#[]⟩, .string ⟨#[]⟩] 52)).cell? ⟨bo, 0, none⟩ = some byV := (hbV.cell (p := ⟨bo, 0, none⟩) (World.block_lt_of_cell? wr _ co)).trans co
        have hla : ba < wr.heap.size := World.block_lt_of_cell? wr _ ca
        have hlb : bb < wr.heap.size := World.block_lt_of_cell? wr _ cb
        have hlo : bo < wr.heap.size := World.block_lt_of_cell? wr _ co
        clear ca cb co
        generalize ((wr.alloc (.cells #[.string ⟨#[]⟩, .int .i64 0, .int .i64 0, .string ⟨#[]⟩, .string ⟨#[]⟩] 52)).alloc (.cells #[.string ⟨#[]⟩, .int .i64 0, .int .i64 0, .string ⟨#[]⟩, .string ⟨#[]⟩] 52)) = V at *
        have hN : ∀ W, Below wr.heap.size wr W → Calls Tryz.prog 104 #[.slice (dropA a1 cap1 p) (A.length - p) (cap1 - p), .slice (dropA a2 cap2 q) (B.length - q) (cap2 - q), byV] W fun e w' => e = .returned (.int .i64 (nearN (A.drop p) (B.drop q))) ∧ Below W.heap.size W w' := fun W hb =>
          nearer_p _ _ (A.drop p) (B.drop q) W (ents_drop (HE.out.1.below hb) hpA) (ents_drop (HE.out.2.below hb) hqB) (fun e he => HS.out e (by
            rcases List.mem_append.1 he with h | h
            · exact List.mem_append.2 (.inl (List.mem_of_mem_drop h))
            · exact List.mem_append.2 (.inr (List.mem_of_mem_drop h))))
        have hsA := slice_drop a1 A.length cap1 p hpA
        have hsB := slice_drop a2 B.length cap2 q hqB
        have hbVd : Below wr.heap.size wr V.drew := below_drewN hbV 1
        have hlVd : wr.heap.size + 2 ≤ V.drew.heap.size := by show wr.heap.size + 2 ≤ V.heap.size; omega
        have hlad : ba < V.drew.heap.size := by omega
        have hlbd : bb < V.drew.heap.size := by omega
        have hlod : bo < V.drew.heap.size := by omega
        have HX : Hid (V.heap[wr.heap.size]? = some (.cells #[.string ⟨#[]⟩, .int .i64 0, .int .i64 0, .string ⟨#[]⟩, .string ⟨#[]⟩] 52) ∧ V.heap[wr.heap.size + 1]? = some (.cells #[.string ⟨#[]⟩, .int .i64 0, .int .i64 0, .string ⟨#[]⟩, .string ⟨#[]⟩] 52)) := ⟨hx0, hy0⟩
        clear hx0 hy0
        refine wpIn_wide.2 ?_
        go_region_held3 (fun W => W.cell? ⟨ba, 0, none⟩ = some (.slice a1 A.length cap1) ∧ W.cell? ⟨bb, 0, none⟩ = some (.slice a2 B.length cap2) ∧ W.cell? ⟨bo, 0, none⟩ = some byV)
          (first
            | exact ⟨cav, cbv, cov⟩
            | exact ⟨(h3.cell (p := ⟨ba, 0, none⟩) hlad).trans cav, (h3.cell (p := ⟨bb, 0, none⟩) hlbd).trans cbv, (h3.cell (p := ⟨bo, 0, none⟩) hlod).trans cov⟩
            | go_keep)
          ((go_at_call 104; refine (hN _ hbVd).mono ?_; rintro e w3 ⟨rfl, h3⟩))
        have HB3 : Hid (Below wr.heap.size wr w3) := below_join hbVd h3
        have hx3 : w3.heap[wr.heap.size]? = some (.cells #[.string ⟨#[]⟩, .int .i64 0, .int .i64 0, .string ⟨#[]⟩, .string ⟨#[]⟩] 52) := (h3.block _ (by omega)).trans HX.out.1
        have hy3 : w3.heap[wr.heap.size + 1]? = some (.cells #[.string ⟨#[]⟩, .int .i64 0, .int .i64 0, .string ⟨#[]⟩, .string ⟨#[]⟩] 52) := (h3.block _ (by omega)).trans HX.out.2
        have ca3 : w3.cell? ⟨ba, 0, none⟩ = some (.slice a1 A.length cap1) := (h3.cell (p := ⟨ba, 0, none⟩) hlad).trans cav
        have cb3 : w3.cell? ⟨bb, 0, none⟩ = some (.slice a2 B.length cap2) := (h3.cell (p := ⟨bb, 0, none⟩) hlbd).trans cbv
        have hs3 : wr.heap.size + 2 ≤ w3.heap.size := by have := h3.size; omega
        clear h3 HX hlad hlbd hlod hN hsA hsB hbVd hlVd hbV cav cbv cov hsV
        rcases Int.lt_trichotomy (nearN (A.drop p) (B.drop q)) 0 with hlt | heq | hgt
        · have hneA : A.drop p ≠ [] := fun e => by
            cases hB : B.drop q with
            | nil => exact hend ⟨by have := List.drop_eq_nil_iff.1 e; omega, by have := List.drop_eq_nil_iff.1 hB; omega⟩
            | cons y B9 => rw [e, hB] at hlt; simp [nearN] at hlt
          obtain ⟨x, A9, hA9, htog⟩ := togL_lt hlt hneA
          have hpl2 : p < A.length := by
            rcases Nat.lt_or_ge p A.length with h | h
            · exact h
            · exact absurd (List.drop_eq_nil_of_le h) hneA
          have hpl3 : (p : Int) < (A.length : Int) := by omega
          have hp0 : (0 : Int) ≤ (p : Int) := by omega
          have hxg : A[p]? = some x ∧ A9 = A.drop (p + 1) := by
            rw [List.drop_eq_getElem_cons hpl2] at hA9
            exact ⟨by rw [List.getElem?_eq_getElem hpl2]; exact congrArg some (List.cons.inj hA9).1, (List.cons.inj hA9).2.symm⟩
          obtain rfl := ha1 (fun e => by rw [e] at hpl2; simp at hpl2)
          obtain ⟨d0, d1, d2, d3, d4⟩ := (hc1 p x hxg.1).below HB3.out
          have HNX : Hid (togL A B = (pre ++ [(x, noEnt)]) ++ togL (A.drop (p + 1)) (B.drop q)) := by
            unfold Hid
            rw [HT.out, htog, hxg.2]; simp
          have hn1 : decide (nearN (A.drop p) (B.drop q) ≤ 0) = true := by simp; omega
          have hn2 : decide (0 ≤ nearN (A.drop p) (B.drop q)) = false := by simp; omega
          have x0 : w3.cell? ⟨wr.heap.size, 0, none⟩ = some (.string ⟨#[]⟩) := by unfold World.cell?; simp only [hx3]; rfl
          have fx0 : w3.frozen? ⟨wr.heap.size, 0, none⟩ = false := by simp [World.frozen?, hx3]
          have x1 : w3.cell? ⟨wr.heap.size, 1, none⟩ = some (.int .i64 0) := by unfold World.cell?; simp only [hx3]; rfl
          have fx1 : w3.frozen? ⟨wr.heap.size, 1, none⟩ = false := by simp [World.frozen?, hx3]
          have x2 : w3.cell? ⟨wr.heap.size, 2, none⟩ = some (.int .i64 0) := by unfold World.cell?; simp only [hx3]; rfl
          have fx2 : w3.frozen? ⟨wr.heap.size, 2, none⟩ = false := by simp [World.frozen?, hx3]
          have x3 : w3.cell? ⟨wr.heap.size, 3, none⟩ = some (.string ⟨#[]⟩) := by unfold World.cell?; simp only [hx3]; rfl
          have fx3 : w3.frozen? ⟨wr.heap.size, 3, none⟩ = false := by simp [World.frozen?, hx3]
          have x4 : w3.cell? ⟨wr.heap.size, 4, none⟩ = some (.string ⟨#[]⟩) := by unfold World.cell?; simp only [hx3]; rfl
          have fx4 : w3.frozen? ⟨wr.heap.size, 4, none⟩ = false := by simp [World.frozen?, hx3]
          clear hc1 hc2 ha1 ha2 hA9 htog hxg hneA hlt
          generalize nearN (A.drop p) (B.drop q) = nx at *
          gi_upto_region 10 with fail
          generalize hW5 : (((((w3.setCell ⟨wr.heap.size, 0, none⟩ (.string x.path)).setCell ⟨wr.heap.size, 1, none⟩ (.int .i64 x.kind)).setCell ⟨wr.heap.size, 2, none⟩ (.int .i64 x.mode)).setCell ⟨wr.heap.size, 3, none⟩ (.string x.data)).setCell ⟨wr.heap.size, 4, none⟩ (.string x.link)) = w5
          have h5 := set5_facts hx3 x
          rw [show set5 w3 wr.heap.size x = w5 from hW5] at h5
          have hxx5 := h5.1
          have hyy5 : w5.heap[wr.heap.size + 1]? = some (.cells (entA noEnt) 52) := (h5.2.1 _ (by omega)).trans hy3
          have hoth5 : ∀ k, k ≠ wr.heap.size → k ≠ wr.heap.size + 1 → w5.heap[k]? = w3.heap[k]? := fun k h _ => h5.2.1 k h
          have hsz5 : w5.heap.size = w3.heap.size := h5.2.2.1
          have hos5 := h5.2.2.2
          clear h5
          have hB5 : Below wr.heap.size wr w5 := ⟨hos5.1.trans HB3.out.os, hos5.2.1.trans HB3.out.tape, hos5.2.2.trans HB3.out.output, by have := HB3.out.size; omega, fun k hk => (hoth5 k (by omega) (by omega)).trans (HB3.out.block k hk)⟩
          obtain ⟨s0, s1, s2, s3, s4⟩ := ent_block hxx5
          obtain ⟨r0, r1, r2, r3, r4⟩ := ent_block hyy5
          obtain ⟨fn, tmps, assign, body, hyi, hR⟩ := HY.out (n - 1) pre (x, noEnt) S2 w5 (HJ.out.below HJR.out.1 hB5) ⟨togL (A.drop (p + 1)) (B.drop q), HNX.out.symm⟩
          simp only [entV, noEnt] at hyi s0 s1 s2 s3 s4 r0 r1 r2 r3 r4
          have HB5 : Hid (Below wr.heap.size wr w5) := hB5
          clear hW5 hB5 hxx5 hyy5 hoth5 hos5 hsz5 hx3 hy3 ca3 cb3 d0 d1 d2 d3 d4 x0 fx0 x1 fx1 x2 fx2 x3 fx3 x4 fx4
          gi_wp2
          refine ⟨wd _, hR.mono ?_⟩
          rintro e W6 ⟨rfl, S6, hj6, hr6⟩
          gi_wp2
          go_roundw
          case rel => exact ⟨(p + 1), q, pre ++ [(x, noEnt)], S6, by go_num, by go_num, by omega, by omega, HNX.out, hj6, (HJR.out.2.trans (Rnd.of_below HB5.out)).trans hr6⟩
          case measure => simp [intOf]; omega
        · obtain ⟨x, A9, y, B9, hA9, hB9, htog⟩ := togL_eq heq
          have hneA : A.drop p ≠ [] := by rw [hA9]; simp
          have hneB : B.drop q ≠ [] := by rw [hB9]; simp
          have hpl2 : p < A.length := by
            rcases Nat.lt_or_ge p A.length with h | h
            · exact h
            · exact absurd (List.drop_eq_nil_of_le h) hneA
          have hpl3 : (p : Int) < (A.length : Int) := by omega
          have hp0 : (0 : Int) ≤ (p : Int) := by omega
          have hxg : A[p]? = some x ∧ A9 = A.drop (p + 1) := by
            rw [List.drop_eq_getElem_cons hpl2] at hA9
            exact ⟨by rw [List.getElem?_eq_getElem hpl2]; exact congrArg some (List.cons.inj hA9).1, (List.cons.inj hA9).2.symm⟩
          obtain rfl := ha1 (fun e => by rw [e] at hpl2; simp at hpl2)
          obtain ⟨d0, d1, d2, d3, d4⟩ := (hc1 p x hxg.1).below HB3.out
          have hql2 : q < B.length := by
            rcases Nat.lt_or_ge q B.length with h | h
            · exact h
            · exact absurd (List.drop_eq_nil_of_le h) hneB
          have hql3 : (q : Int) < (B.length : Int) := by omega
          have hq0 : (0 : Int) ≤ (q : Int) := by omega
          have hyg : B[q]? = some y ∧ B9 = B.drop (q + 1) := by
            rw [List.drop_eq_getElem_cons hql2] at hB9
            exact ⟨by rw [List.getElem?_eq_getElem hql2]; exact congrArg some (List.cons.inj hB9).1, (List.cons.inj hB9).2.symm⟩
          obtain rfl := ha2 (fun e => by rw [e] at hql2; simp at hql2)
          obtain ⟨g0, g1, g2, g3, g4⟩ := (hc2 q y hyg.1).below HB3.out
          have HNX : Hid (togL A B = (pre ++ [(x, y)]) ++ togL (A.drop (p + 1)) (B.drop (q + 1))) := by
            unfold Hid
            rw [HT.out, htog, hxg.2, hyg.2]; simp
          have hn1 : decide (nearN (A.drop p) (B.drop q) ≤ 0) = true := by simp; omega
          have hn2 : decide (0 ≤ nearN (A.drop p) (B.drop q)) = true := by simp; omega
          have x0 : w3.cell? ⟨wr.heap.size, 0, none⟩ = some (.string ⟨#[]⟩) := by unfold World.cell?; simp only [hx3]; rfl
          have fx0 : w3.frozen? ⟨wr.heap.size, 0, none⟩ = false := by simp [World.frozen?, hx3]
          have x1 : w3.cell? ⟨wr.heap.size, 1, none⟩ = some (.int .i64 0) := by unfold World.cell?; simp only [hx3]; rfl
          have fx1 : w3.frozen? ⟨wr.heap.size, 1, none⟩ = false := by simp [World.frozen?, hx3]
          have x2 : w3.cell? ⟨wr.heap.size, 2, none⟩ = some (.int .i64 0) := by unfold World.cell?; simp only [hx3]; rfl
          have fx2 : w3.frozen? ⟨wr.heap.size, 2, none⟩ = false := by simp [World.frozen?, hx3]
          have x3 : w3.cell? ⟨wr.heap.size, 3, none⟩ = some (.string ⟨#[]⟩) := by unfold World.cell?; simp only [hx3]; rfl
          have fx3 : w3.frozen? ⟨wr.heap.size, 3, none⟩ = false := by simp [World.frozen?, hx3]
          have x4 : w3.cell? ⟨wr.heap.size, 4, none⟩ = some (.string ⟨#[]⟩) := by unfold World.cell?; simp only [hx3]; rfl
          have fx4 : w3.frozen? ⟨wr.heap.size, 4, none⟩ = false := by simp [World.frozen?, hx3]
          have hlb2 : b2 < wr.heap.size := World.block_lt_of_cell? wr _ (hc2 q y hyg.1).c0
          have hG3 : Hid (EntC w3 b2 (o2 + q * 5) y) := (hc2 q y hyg.1).below HB3.out
          clear hc1 hc2 ha1 ha2 hA9 hB9 htog hxg hyg hneA hneB heq g0 g1 g2 g3 g4
          generalize nearN (A.drop p) (B.drop q) = nx at *
          gi_upto_region 7 with fail
          generalize hW4 : (((((w3.setCell ⟨wr.heap.size, 0, none⟩ (.string x.path)).setCell ⟨wr.heap.size, 1, none⟩ (.int .i64 x.kind)).setCell ⟨wr.heap.size, 2, none⟩ (.int .i64 x.mode)).setCell ⟨wr.heap.size, 3, none⟩ (.string x.data)).setCell ⟨wr.heap.size, 4, none⟩ (.string x.link)) = w4
          have h4 := set5_facts hx3 x
          rw [show set5 w3 wr.heap.size x = w4 from hW4] at h4
          have hb4 : ∀ k j v, k ≠ wr.heap.size → w3.cell? ⟨k, j, none⟩ = some v → w4.cell? ⟨k, j, none⟩ = some v := fun k j v hk hv => by
            have h9 := h4.2.1 k hk
            unfold World.cell? at hv ⊢
            simp only [h9]; exact hv
          have cb4 := hb4 bb 0 _ (by omega) cb3
          have g0 := hb4 b2 _ _ (by omega) hG3.out.c0
          have g1 := hb4 b2 _ _ (by omega) hG3.out.c1
          have g2 := hb4 b2 _ _ (by omega) hG3.out.c2
          have g3 := hb4 b2 _ _ (by omega) hG3.out.c3
          have g4 := hb4 b2 _ _ (by omega) hG3.out.c4
          have hy4 := (h4.2.1 (wr.heap.size + 1) (by omega)).trans hy3
          have H4 : Hid ((w4.heap[wr.heap.size]? = some (.cells (entA x) 52)) ∧ (∀ k, k ≠ wr.heap.size → w4.heap[k]? = w3.heap[k]?) ∧ w4.heap.size = w3.heap.size ∧ w4.os = w3.os ∧ w4.tape = w3.tape ∧ w4.output = w3.output) := h4
          clear h4 hb4 hW4 hG3 d0 d1 d2 d3 d4 x0 fx0 x1 fx1 x2 fx2 x3 fx3 x4 fx4 ca3 cb3
          have y0 : w4.cell? ⟨wr.heap.size + 1, 0, none⟩ = some (.string ⟨#[]⟩) := by unfold World.cell?; simp only [hy4]; rfl
          have fy0 : w4.frozen? ⟨wr.heap.size + 1, 0, none⟩ = false := by simp [World.frozen?, hy4]
          have y1 : w4.cell? ⟨wr.heap.size + 1, 1, none⟩ = some (.int .i64 0) := by unfold World.cell?; simp only [hy4]; rfl
          have fy1 : w4.frozen? ⟨wr.heap.size + 1, 1, none⟩ = false := by simp [World.frozen?, hy4]
          have y2 : w4.cell? ⟨wr.heap.size + 1, 2, none⟩ = some (.int .i64 0) := by unfold World.cell?; simp only [hy4]; rfl
          have fy2 : w4.frozen? ⟨wr.heap.size + 1, 2, none⟩ = false := by simp [World.frozen?, hy4]
          have y3 : w4.cell? ⟨wr.heap.size + 1, 3, none⟩ = some (.string ⟨#[]⟩) := by unfold World.cell?; simp only [hy4]; rfl
          have fy3 : w4.frozen? ⟨wr.heap.size + 1, 3, none⟩ = false := by simp [World.frozen?, hy4]
          have y4 : w4.cell? ⟨wr.heap.size + 1, 4, none⟩ = some (.string ⟨#[]⟩) := by unfold World.cell?; simp only [hy4]; rfl
          have fy4 : w4.frozen? ⟨wr.heap.size + 1, 4, none⟩ = false := by simp [World.frozen?, hy4]
          gi_upto_region 10 with fail
          generalize hW5 : (((((w4.setCell ⟨wr.heap.size + 1, 0, none⟩ (.string y.path)).setCell ⟨wr.heap.size + 1, 1, none⟩ (.int .i64 y.kind)).setCell ⟨wr.heap.size + 1, 2, none⟩ (.int .i64 y.mode)).setCell ⟨wr.heap.size + 1, 3, none⟩ (.string y.data)).setCell ⟨wr.heap.size + 1, 4, none⟩ (.string y.link)) = w5
          have h5 := set5_facts hy4 y
          rw [show set5 w4 (wr.heap.size + 1) y = w5 from hW5] at h5
          have hyy5 := h5.1
          have hxx5 : w5.heap[wr.heap.size]? = some (.cells (entA x) 52) := (h5.2.1 _ (by omega)).trans H4.out.1
          have hoth5 : ∀ k, k ≠ wr.heap.size → k ≠ wr.heap.size + 1 → w5.heap[k]? = w3.heap[k]? := fun k h h' => (h5.2.1 k h').trans (H4.out.2.1 k h)
          have hsz5 : w5.heap.size = w3.heap.size := h5.2.2.1.trans H4.out.2.2.1
          have hos5 : w5.os = w3.os ∧ w5.tape = w3.tape ∧ w5.output = w3.output := ⟨h5.2.2.2.1.trans H4.out.2.2.2.1, h5.2.2.2.2.1.trans H4.out.2.2.2.2.1, h5.2.2.2.2.2.trans H4.out.2.2.2.2.2⟩
          clear h5
          have hB5 : Below wr.heap.size wr w5 := ⟨hos5.1.trans HB3.out.os, hos5.2.1.trans HB3.out.tape, hos5.2.2.trans HB3.out.output, by have := HB3.out.size; omega, fun k hk => (hoth5 k (by omega) (by omega)).trans (HB3.out.block k hk)⟩
          obtain ⟨s0, s1, s2, s3, s4⟩ := ent_block hxx5
          obtain ⟨r0, r1, r2, r3, r4⟩ := ent_block hyy5
          obtain ⟨fn, tmps, assign, body, hyi, hR⟩ := HY.out (n - 1) pre (x, y) S2 w5 (HJ.out.below HJR.out.1 hB5) ⟨togL (A.drop (p + 1)) (B.drop (q + 1)), HNX.out.symm⟩
          simp only [entV] at hyi s0 s1 s2 s3 s4 r0 r1 r2 r3 r4
          have HB5 : Hid (Below wr.heap.size wr w5) := hB5
          clear hW5 hB5 hxx5 hyy5 hoth5 hos5 hsz5 hx3 hy3 cb4 hy4 g0 g1 g2 g3 g4 y0 fy0 y1 fy1 y2 fy2 y3 fy3 y4 fy4
          gi_wp2
          refine ⟨wd _, hR.mono ?_⟩
          rintro e W6 ⟨rfl, S6, hj6, hr6⟩
          gi_wp2
          go_roundw
          case rel => exact ⟨(p + 1), (q + 1), pre ++ [(x, y)], S6, by go_num, by go_num, by omega, by omega, HNX.out, hj6, (HJR.out.2.trans (Rnd.of_below HB5.out)).trans hr6⟩
          case measure => simp [intOf]; omega
        · obtain ⟨y, B9, hB9, htog⟩ := togL_gt hgt
          have hneB : B.drop q ≠ [] := by rw [hB9]; simp
          have hql2 : q < B.length := by
            rcases Nat.lt_or_ge q B.length with h | h
            · exact h
            · exact absurd (List.drop_eq_nil_of_le h) hneB
          have hql3 : (q : Int) < (B.length : Int) := by omega
          have hq0 : (0 : Int) ≤ (q : Int) := by omega
          have hyg : B[q]? = some y ∧ B9 = B.drop (q + 1) := by
            rw [List.drop_eq_getElem_cons hql2] at hB9
            exact ⟨by rw [List.getElem?_eq_getElem hql2]; exact congrArg some (List.cons.inj hB9).1, (List.cons.inj hB9).2.symm⟩
          obtain rfl := ha2 (fun e => by rw [e] at hql2; simp at hql2)
          obtain ⟨g0, g1, g2, g3, g4⟩ := (hc2 q y hyg.1).below HB3.out
          have HNX : Hid (togL A B = (pre ++ [(noEnt, y)]) ++ togL (A.drop p) (B.drop (q + 1))) := by
            unfold Hid
            rw [HT.out, htog, hyg.2]; simp
          have hn1 : decide (nearN (A.drop p) (B.drop q) ≤ 0) = false := by simp; omega
          have hn2 : decide (0 ≤ nearN (A.drop p) (B.drop q)) = true := by simp; omega
          have y0 : w3.cell? ⟨wr.heap.size + 1, 0, none⟩ = some (.string ⟨#[]⟩) := by unfold World.cell?; simp only [hy3]; rfl
          have fy0 : w3.frozen? ⟨wr.heap.size + 1, 0, none⟩ = false := by simp [World.frozen?, hy3]
          have y1 : w3.cell? ⟨wr.heap.size + 1, 1, none⟩ = some (.int .i64 0) := by unfold World.cell?; simp only [hy3]; rfl
          have fy1 : w3.frozen? ⟨wr.heap.size + 1, 1, none⟩ = false := by simp [World.frozen?, hy3]
          have y2 : w3.cell? ⟨wr.heap.size + 1, 2, none⟩ = some (.int .i64 0) := by unfold World.cell?; simp only [hy3]; rfl
          have fy2 : w3.frozen? ⟨wr.heap.size + 1, 2, none⟩ = false := by simp [World.frozen?, hy3]
          have y3 : w3.cell? ⟨wr.heap.size + 1, 3, none⟩ = some (.string ⟨#[]⟩) := by unfold World.cell?; simp only [hy3]; rfl
          have fy3 : w3.frozen? ⟨wr.heap.size + 1, 3, none⟩ = false := by simp [World.frozen?, hy3]
          have y4 : w3.cell? ⟨wr.heap.size + 1, 4, none⟩ = some (.string ⟨#[]⟩) := by unfold World.cell?; simp only [hy3]; rfl
          have fy4 : w3.frozen? ⟨wr.heap.size + 1, 4, none⟩ = false := by simp [World.frozen?, hy3]
          clear hc1 hc2 ha1 ha2 hB9 htog hyg hneB hgt
          generalize nearN (A.drop p) (B.drop q) = nx at *
          gi_upto_region 10 with fail
          generalize hW5 : (((((w3.setCell ⟨wr.heap.size + 1, 0, none⟩ (.string y.path)).setCell ⟨wr.heap.size + 1, 1, none⟩ (.int .i64 y.kind)).setCell ⟨wr.heap.size + 1, 2, none⟩ (.int .i64 y.mode)).setCell ⟨wr.heap.size + 1, 3, none⟩ (.string y.data)).setCell ⟨wr.heap.size + 1, 4, none⟩ (.string y.link)) = w5
          have h5 := set5_facts hy3 y
          rw [show set5 w3 (wr.heap.size + 1) y = w5 from hW5] at h5
          have hyy5 := h5.1
          have hxx5 : w5.heap[wr.heap.size]? = some (.cells (entA noEnt) 52) := (h5.2.1 _ (by omega)).trans hx3
          have hoth5 : ∀ k, k ≠ wr.heap.size → k ≠ wr.heap.size + 1 → w5.heap[k]? = w3.heap[k]? := fun k _ h => h5.2.1 k h
          have hsz5 : w5.heap.size = w3.heap.size := h5.2.2.1
          have hos5 := h5.2.2.2
          clear h5
          have hB5 : Below wr.heap.size wr w5 := ⟨hos5.1.trans HB3.out.os, hos5.2.1.trans HB3.out.tape, hos5.2.2.trans HB3.out.output, by have := HB3.out.size; omega, fun k hk => (hoth5 k (by omega) (by omega)).trans (HB3.out.block k hk)⟩
          obtain ⟨s0, s1, s2, s3, s4⟩ := ent_block hxx5
          obtain ⟨r0, r1, r2, r3, r4⟩ := ent_block hyy5
          obtain ⟨fn, tmps, assign, body, hyi, hR⟩ := HY.out (n - 1) pre (noEnt, y) S2 w5 (HJ.out.below HJR.out.1 hB5) ⟨togL (A.drop p) (B.drop (q + 1)), HNX.out.symm⟩
          simp only [entV, noEnt] at hyi s0 s1 s2 s3 s4 r0 r1 r2 r3 r4
          have HB5 : Hid (Below wr.heap.size wr w5) := hB5
          clear hW5 hB5 hxx5 hyy5 hoth5 hos5 hsz5 hx3 hy3 ca3 cb3 g0 g1 g2 g3 g4 y0 fy0 y1 fy1 y2 fy2 y3 fy3 y4 fy4
          gi_wp2
          refine ⟨wd _, hR.mono ?_⟩
          rintro e W6 ⟨rfl, S6, hj6, hr6⟩
          gi_wp2
          go_roundw
          case rel => exact ⟨p, (q + 1), pre ++ [(noEnt, y)], S6, by go_num, by go_num, by omega, by omega, HNX.out, hj6, (HJR.out.2.trans (Rnd.of_below HB5.out)).trans hr6⟩
          case measure => simp [intOf]; omega
      · have h1 : ¬ (p : Int) < (A.length : Int) := by omega
        have h2 : (q : Int) < (B.length : Int) := by omega
        gi_upto_region 3 with fail
        have hbV : Below wr.heap.size wr ((wr.alloc (.cells #[.string ⟨#[]⟩, .int .i64 0, .int .i64 0, .string ⟨#[]⟩, .string ⟨#[]⟩] 52)).alloc (.cells #[.string ⟨#[]⟩, .int .i64 0, .int .i64 0, .string ⟨#[]⟩, .string ⟨#[]⟩] 52)) := ((Below.refl _ _).alloc (Nat.le_refl _) _).alloc (by simp) _
        have hx0 : ((wr.alloc (.cells #[.string ⟨#[]⟩, .int .i64 0, .int .i64 0, .string ⟨#[]⟩, .string ⟨#[]⟩] 52)).alloc (.cells #[.string ⟨#[]⟩, .int .i64 0, .int .i64 0, .string ⟨#[]⟩, .string ⟨#[]⟩] 52)).heap[wr.heap.size]? = some (.cells #[.string ⟨#[]⟩, .int .i64 0, .int .i64 0, .string ⟨#[]⟩, .string ⟨#[]⟩] 52) := (Below.heap_alloc _ _ _ (by simp)).trans (World.alloc_heap_new wr _)
        have hy0 : ((wr.alloc (.cells #[.string ⟨#[]⟩, .int .i64 0, .int .i64 0, .string ⟨#[]⟩, .string ⟨#[]⟩] 52)).alloc (.cells #[.string ⟨#[]⟩, .int .i64 0, .int .i64 0, .string ⟨#[]⟩, .string ⟨#[]⟩] 52)).heap[wr.heap.size + 1]? = some (.cells #[.string ⟨#[]⟩, .int .i64 0, .int .i64 0, .string ⟨#[]⟩, .string ⟨#[]⟩] 52) := by
          have h := World.alloc_heap_new (wr.alloc (.cells #[.string ⟨#[]⟩, .int .i64 0, .int .i64 0, .string ⟨#[]⟩, .string ⟨#[]⟩] 52)) (.cells #[.string ⟨#[]⟩, .int .i64 0, .int .i64 0, .string ⟨#[]⟩, .string ⟨#[]⟩] 52); rw [World.size_alloc] at h; exact h
        have hsV : ((wr.alloc (.cells #[.string ⟨#[]⟩, .int .i64 0, .int .i64 0, .string ⟨#[]⟩, .string ⟨#[]⟩] 52)).alloc (.cells #[.string ⟨#[]⟩, .int .i64 0, .int .i64 0, .string ⟨#[]⟩, .string ⟨#[]⟩] 52)).heap.size = wr.heap.size + 2 := by simp
        have cav : ((wr.alloc (.cells #[.string ⟨#[]⟩, .int .i64 0, .int .i64 0, .string ⟨#[]⟩, .string ⟨#[]⟩] 52)).alloc (.cells #[.string ⟨#[]⟩, .int .i64 0, .int .i64 0, .string ⟨#[]⟩, .string ⟨#[]⟩] 52)).cell? ⟨ba, 0, none⟩ = some (.slice a1 A.length cap1) := (hbV.cell (p := ⟨ba, 0, none⟩) (World.block_lt_of_cell? wr _ ca)).trans ca
        have cbv : ((wr.alloc (.cells #[.string ⟨#[]⟩, .int .i64 0, .int .i64 0, .string ⟨#[]⟩, .string ⟨#[]⟩] 52)).alloc (.cells #[.string ⟨#[]⟩, .int .i64 0, .int .i64 0, .string ⟨#[]⟩, .string ⟨#[]⟩] 52)).cell? ⟨bb, 0, none⟩ = some (.slice a2 B.length cap2) := (hbV.cell (p := ⟨bb, 0, none⟩) (World.block_lt_of_cell? wr _ cb)).trans cb
        have cov : ((wr.alloc (.cells #[.string ⟨#[]⟩, .int .i64 0, .int .i64 0, .string ⟨#[]⟩, .string ⟨#[]⟩] 52)).alloc (.cells #[.string ⟨#[]⟩, .int .i64 0, .int .i64 0, .string ⟨#[]⟩, .string ⟨#[]⟩] 52)).cell? ⟨bo, 0, none⟩ = some byV := (hbV.cell (p := ⟨bo, 0, none⟩) (World.block_lt_of_cell? wr _ co)).trans co
        have hla : ba < wr.heap.size := World.block_lt_of_cell? wr _ ca
        have hlb : bb < wr.heap.size := World.block_lt_of_cell? wr _ cb
        have hlo : bo < wr.heap.size := World.block_lt_of_cell? wr _ co
        clear ca cb co
        generalize ((wr.alloc (.cells #[.string ⟨#[]⟩, .int .i64 0, .int .i64 0, .string ⟨#[]⟩, .string ⟨#[]⟩] 52)).alloc (.cells #[.string ⟨#[]⟩, .int .i64 0, .int .i64 0, .string ⟨#[]⟩, .string ⟨#[]⟩] 52)) = V at *
        have hN : ∀ W, Below wr.heap.size wr W → Calls Tryz.prog 104 #[.slice (dropA a1 cap1 p) (A.length - p) (cap1 - p), .slice (dropA a2 cap2 q) (B.length - q) (cap2 - q), byV] W fun e w' => e = .returned (.int .i64 (nearN (A.drop p) (B.drop q))) ∧ Below W.heap.size W w' := fun W hb =>
          nearer_p _ _ (A.drop p) (B.drop q) W (ents_drop (HE.out.1.below hb) hpA) (ents_drop (HE.out.2.below hb) hqB) (fun e he => HS.out e (by
            rcases List.mem_append.1 he with h | h
            · exact List.mem_append.2 (.inl (List.mem_of_mem_drop h))
            · exact List.mem_append.2 (.inr (List.mem_of_mem_drop h))))
        have hsA := slice_drop a1 A.length cap1 p hpA
        have hsB := slice_drop a2 B.length cap2 q hqB
        have hbVd : Below wr.heap.size wr V.drew := below_drewN hbV 1
        have hlVd : wr.heap.size + 2 ≤ V.drew.heap.size := by show wr.heap.size + 2 ≤ V.heap.size; omega
        have hlad : ba < V.drew.heap.size := by omega
        have hlbd : bb < V.drew.heap.size := by omega
        have hlod : bo < V.drew.heap.size := by omega
        have HX : Hid (V.heap[wr.heap.size]? = some (.cells #[.string ⟨#[]⟩, .int .i64 0, .int .i64 0, .string ⟨#[]⟩, .string ⟨#[]⟩] 52) ∧ V.heap[wr.heap.size + 1]? = some (.cells #[.string ⟨#[]⟩, .int .i64 0, .int .i64 0, .string ⟨#[]⟩, .string ⟨#[]⟩] 52)) := ⟨hx0, hy0⟩
        clear hx0 hy0
        refine wpIn_wide.2 ?_
        go_region_held3 (fun W => W.cell? ⟨ba, 0, none⟩ = some (.slice a1 A.length cap1) ∧ W.cell? ⟨bb, 0, none⟩ = some (.slice a2 B.length cap2) ∧ W.cell? ⟨bo, 0, none⟩ = some byV)
          (first
            | exact ⟨cav, cbv, cov⟩
            | exact ⟨(h3.cell (p := ⟨ba, 0, none⟩) hlad).trans cav, (h3.cell (p := ⟨bb, 0, none⟩) hlbd).trans cbv, (h3.cell (p := ⟨bo, 0, none⟩) hlod).trans cov⟩
            | go_keep)
          ((go_at_call 104; refine (hN _ hbVd).mono ?_; rintro e w3 ⟨rfl, h3⟩))
        have HB3 : Hid (Below wr.heap.size wr w3) := below_join hbVd h3
        have hx3 : w3.heap[wr.heap.size]? = some (.cells #[.string ⟨#[]⟩, .int .i64 0, .int .i64 0, .string ⟨#[]⟩, .string ⟨#[]⟩] 52) := (h3.block _ (by omega)).trans HX.out.1
        have hy3 : w3.heap[wr.heap.size + 1]? = some (.cells #[.string ⟨#[]⟩, .int .i64 0, .int .i64 0, .string ⟨#[]⟩, .string ⟨#[]⟩] 52) := (h3.block _ (by omega)).trans HX.out.2
        have ca3 : w3.cell? ⟨ba, 0, none⟩ = some (.slice a1 A.length cap1) := (h3.cell (p := ⟨ba, 0, none⟩) hlad).trans cav
        have cb3 : w3.cell? ⟨bb, 0, none⟩ = some (.slice a2 B.length cap2) := (h3.cell (p := ⟨bb, 0, none⟩) hlbd).trans cbv
        have hs3 : wr.heap.size + 2 ≤ w3.heap.size := by have := h3.size; omega
        clear h3 HX hlad hlbd hlod hN hsA hsB hbVd hlVd hbV cav cbv cov hsV
        have hnil : A.drop p = [] := List.drop_eq_nil_of_le (by omega)
        have hgt : 0 < nearN (A.drop p) (B.drop q) := by
          rw [hnil]
          cases hB : B.drop q with
          | nil => have := List.drop_eq_nil_iff.1 hB; omega
          | cons y B9 => simp [nearN]
        have hpl9 : Hid (¬ p < A.length) := hpl
        clear hnil
        · obtain ⟨y, B9, hB9, htog⟩ := togL_gt hgt
          have hneB : B.drop q ≠ [] := by rw [hB9]; simp
          have hql2 : q < B.length := by
            rcases Nat.lt_or_ge q B.length with h | h
            · exact h
            · exact absurd (List.drop_eq_nil_of_le h) hneB
          have hql3 : (q : Int) < (B.length : Int) := by omega
          have hq0 : (0 : Int) ≤ (q : Int) := by omega
          have hyg : B[q]? = some y ∧ B9 = B.drop (q + 1) := by
            rw [List.drop_eq_getElem_cons hql2] at hB9
            exact ⟨by rw [List.getElem?_eq_getElem hql2]; exact congrArg some (List.cons.inj hB9).1, (List.cons.inj hB9).2.symm⟩
          obtain rfl := ha2 (fun e => by rw [e] at hql2; simp at hql2)
          obtain ⟨g0, g1, g2, g3, g4⟩ := (hc2 q y hyg.1).below HB3.out
          have HNX : Hid (togL A B = (pre ++ [(noEnt, y)]) ++ togL (A.drop p) (B.drop (q + 1))) := by
            unfold Hid
            rw [HT.out, htog, hyg.2]; simp
          have hn1 : decide (nearN (A.drop p) (B.drop q) ≤ 0) = false := by simp; omega
          have hn2 : decide (0 ≤ nearN (A.drop p) (B.drop q)) = true := by simp; omega
          have y0 : w3.cell? ⟨wr.heap.size + 1, 0, none⟩ = some (.string ⟨#[]⟩) := by unfold World.cell?; simp only [hy3]; rfl
          have fy0 : w3.frozen? ⟨wr.heap.size + 1, 0, none⟩ = false := by simp [World.frozen?, hy3]
          have y1 : w3.cell? ⟨wr.heap.size + 1, 1, none⟩ = some (.int .i64 0) := by unfold World.cell?; simp only [hy3]; rfl
          have fy1 : w3.frozen? ⟨wr.heap.size + 1, 1, none⟩ = false := by simp [World.frozen?, hy3]
          have y2 : w3.cell? ⟨wr.heap.size + 1, 2, none⟩ = some (.int .i64 0) := by unfold World.cell?; simp only [hy3]; rfl
          have fy2 : w3.frozen? ⟨wr.heap.size + 1, 2, none⟩ = false := by simp [World.frozen?, hy3]
          have y3 : w3.cell? ⟨wr.heap.size + 1, 3, none⟩ = some (.string ⟨#[]⟩) := by unfold World.cell?; simp only [hy3]; rfl
          have fy3 : w3.frozen? ⟨wr.heap.size + 1, 3, none⟩ = false := by simp [World.frozen?, hy3]
          have y4 : w3.cell? ⟨wr.heap.size + 1, 4, none⟩ = some (.string ⟨#[]⟩) := by unfold World.cell?; simp only [hy3]; rfl
          have fy4 : w3.frozen? ⟨wr.heap.size + 1, 4, none⟩ = false := by simp [World.frozen?, hy3]
          clear hc1 hc2 ha1 ha2 hB9 htog hyg hneB hgt
          generalize nearN (A.drop p) (B.drop q) = nx at *
          gi_upto_region 10 with fail
          generalize hW5 : (((((w3.setCell ⟨wr.heap.size + 1, 0, none⟩ (.string y.path)).setCell ⟨wr.heap.size + 1, 1, none⟩ (.int .i64 y.kind)).setCell ⟨wr.heap.size + 1, 2, none⟩ (.int .i64 y.mode)).setCell ⟨wr.heap.size + 1, 3, none⟩ (.string y.data)).setCell ⟨wr.heap.size + 1, 4, none⟩ (.string y.link)) = w5
          have h5 := set5_facts hy3 y
          rw [show set5 w3 (wr.heap.size + 1) y = w5 from hW5] at h5
          have hyy5 := h5.1
          have hxx5 : w5.heap[wr.heap.size]? = some (.cells (entA noEnt) 52) := (h5.2.1 _ (by omega)).trans hx3
          have hoth5 : ∀ k, k ≠ wr.heap.size → k ≠ wr.heap.size + 1 → w5.heap[k]? = w3.heap[k]? := fun k _ h => h5.2.1 k h
          have hsz5 : w5.heap.size = w3.heap.size := h5.2.2.1
          have hos5 := h5.2.2.2
          clear h5
          have hB5 : Below wr.heap.size wr w5 := ⟨hos5.1.trans HB3.out.os, hos5.2.1.trans HB3.out.tape, hos5.2.2.trans HB3.out.output, by have := HB3.out.size; omega, fun k hk => (hoth5 k (by omega) (by omega)).trans (HB3.out.block k hk)⟩
          obtain ⟨s0, s1, s2, s3, s4⟩ := ent_block hxx5
          obtain ⟨r0, r1, r2, r3, r4⟩ := ent_block hyy5
          obtain ⟨fn, tmps, assign, body, hyi, hR⟩ := HY.out (n - 1) pre (noEnt, y) S2 w5 (HJ.out.below HJR.out.1 hB5) ⟨togL (A.drop p) (B.drop (q + 1)), HNX.out.symm⟩
          simp only [entV, noEnt] at hyi s0 s1 s2 s3 s4 r0 r1 r2 r3 r4
          have HB5 : Hid (Below wr.heap.size wr w5) := hB5
          clear hW5 hB5 hxx5 hyy5 hoth5 hos5 hsz5 hx3 hy3 ca3 cb3 g0 g1 g2 g3 g4 y0 fy0 y1 fy1 y2 fy2 y3 fy3 y4 fy4
          gi_wp2
          refine ⟨wd _, hR.mono ?_⟩
          rintro e W6 ⟨rfl, S6, hj6, hr6⟩
          gi_wp2
          go_roundw
          case rel => exact ⟨p, (q + 1), pre ++ [(noEnt, y)], S6, by go_num, by go_num, by omega, by omega, HNX.out, hj6, (HJR.out.2.trans (Rnd.of_below HB5.out)).trans hr6⟩
          case measure => simp [intOf]; omega
end Go.Proofs.YtgildlfanfbebaaGreatDoor

namespace Go.Proofs.YtgildlfanfbebaaGreatDoor
open Go Go.RowKit Go.Shelf
attribute [local go_sem] Oper.semAt_some

theorem wpListIn_append_at {F : Fence} {n : Nat} {P : Program} (w : World) {ops : Array Oper} {rest : List Oper} {o : Oper} {a : Act} {Q : Exit → Act → World → Prop}
    (hg : o.guard = none) (s x : Operand) (t : TypeId) (hop : o.op = Op.call { callee := Callee.builtin Builtin.append, args := #[s, x], argTypes := #[t, t] })
    (base : Nat) (e : TypeId) (i : TypeInfo) (z : Value) (size bytes : Nat) (h1 : P.underlying t = some (.slice e)) (h2 : P.info? e = some i) (h3 : i.zero = some z) (h4 : i.size = size) (h5 : i.bytes = bytes) (h6 : z.cells.size = size) (h7 : 0 < size)
    (v : Value) (k : Nat) (xs : List Value) (hs : a.eval s = v) (hown : w.ownsRow base e size v k xs) (ad : Addr) (m c : Nat) (news : List Value) (hx : a.eval x = .slice (some ad) m c) (hn : news.length = m * size)
    (hc : ∀ j u, news[j]? = some u → w.cell? (ad.add j) = some u) (h1c : ∀ u ∈ news, u.oneCell' = true) (b1 : k + m ≤ maxLen) (b2 : (k + m) * bytes ≤ 140737488355328) (b3 : base ≤ w.heap.size)
    (hK : ∀ v' w', w'.ownsRow base e size v' (k + m) (xs ++ news) → w.grownBy w' v.ownBlock → (v'.ownBlock = v.ownBlock ∨ v'.ownBlock = some w.heap.size) → wpListIn F n P ops Q rest (a.put o.dst v') w') :
    wpListIn F n P ops Q (o :: rest) a w := by
  refine wpListIn_plain hg fun K hK' => ?_
  obtain ⟨v', w', hrun, r1, r2, _, r4⟩ := run_append_own_at (P := P) w base t o.type e i z size bytes h1 h2 h3 h4 h5 h6 h7 v k xs hown ad m c news hn hc h1c b1 b2 b3
  unfold Oper.wpIn
  refine ⟨?_, ?_⟩
  · simp [Oper.about, hop, resolve, Target.leads, Sem.run_pure]
  · rw [Oper.semAt_plain F _ _ (by rw [hop]; intro c hc'; cases hc')]
    simp [execOp, hop, resolve, invoke, builtin, hs, hx, hrun, Result.andThen]
    exact hK' _ _ (hK v' w' r1 r2 r4)


theorem EntsAt.frame {w W : World} {v : Value} {es : List Ent} (h : EntsAt w v es) (hf : ∀ k, k < w.heap.size → W.heap[k]? = w.heap[k]?) : EntsAt W v es := by
  obtain ⟨a, cap, b, o, h1, h2, h3, h4⟩ := h
  refine ⟨a, cap, b, o, h1, h2, h3, fun i e he => ?_⟩
  have hc := h4 i e he
  have hl := World.block_lt_of_cell? w _ hc.c0
  have hs : ∀ q v, w.cell? ⟨b, q, none⟩ = some v → W.cell? ⟨b, q, none⟩ = some v := fun q v hv => by
    have h9 := hf b hl
    unfold World.cell? at hv ⊢
    simp only [h9]; exact hv
  exact ⟨hs _ _ hc.c0, hs _ _ hc.c1, hs _ _ hc.c2, hs _ _ hc.c3, hs _ _ hc.c4⟩
/-- What stands between the rounds. -/
structure UnlI (w : World) (u v : Value) (top : ByteArray) (out : List Chg) (r : Value) (S : Nat → Prop) (W : World) : Prop where
  bl : Boxed W w.heap.size 23 r
  bt : Boxed W (w.heap.size + 1) 9 (.string top)
  ba : Boxed W (w.heap.size + 2) 22 u
  bb : Boxed W (w.heap.size + 3) 22 v
  bo : Boxed W (w.heap.size + 4) 100 byV
  row : W.ownsRow (w.heap.size + 5) 54 7 r out.length (ccells out)
  frame : ∀ k, k < w.heap.size → W.heap[k]? = w.heap[k]?
  eS : S = fun k => k < w.heap.size + 5 ∨ r.ownBlock = some k
  size : w.heap.size + 5 ≤ W.heap.size
variable {w : World} {u v : Value} {top : ByteArray} {o' : List Chg} {r : Value} {S : Nat → Prop} {W W' : World}
theorem UnlI.keep (h : UnlI w u v top o' r S W) (hs : W.heap.size ≤ W'.heap.size) (hk : ∀ k, S k → W'.heap[k]? = W.heap[k]?) : UnlI w u v top o' r S W' := by
  have hS : ∀ k, k < w.heap.size + 5 → W'.heap[k]? = W.heap[k]? := fun k h5 => hk k (by rw [h.eS]; exact .inl h5)
  have hz := h.size
  exact ⟨(hS _ (by omega)).trans h.bl, (hS _ (by omega)).trans h.bt, (hS _ (by omega)).trans h.ba, (hS _ (by omega)).trans h.bb, (hS _ (by omega)).trans h.bo, row_local h.row (fun k h5 => hk k (by rw [h.eS]; exact .inr h5)), fun k h5 => (hS k (by omega)).trans (h.frame k h5), h.eS, by omega⟩
theorem UnlI.there (h : UnlI w u v top o' r S W) : ∀ k, S k → k < W.heap.size := fun k hk => by
  rw [h.eS] at hk
  have hz := h.size
  rcases hk with hk | hk
  · omega
  · exact (h.row.lt k hk).2
theorem UnlI.below (h : UnlI w u v top o' r S W) (hb : Below W.heap.size W W') : UnlI w u v top o' r S W' := h.keep hb.size (fun k hk => hb.block k (h.there k hk))
theorem UnlI.turn (h : UnlI w u v top o' r S W) (t' : ByteArray) : UnlI w u v t' o' r S (W.setCell ⟨w.heap.size + 1, 0, none⟩ (.string t')) ∧ Rnd S S W (W.setCell ⟨w.heap.size + 1, 0, none⟩ (.string t')) := by
  have hz := h.size
  refine ⟨⟨Boxed.other h.bl (by omega) _, Boxed.set _ h.bt, Boxed.other h.ba (by omega) _, Boxed.other h.bb (by omega) _, Boxed.other h.bo (by omega) _, row_local h.row (fun k hk => Below.heap_setCell _ _ _ _ (show k ≠ w.heap.size + 1 by have := (h.row.lt k hk).1; omega)), fun k hk => (Below.heap_setCell _ _ _ _ (show k ≠ w.heap.size + 1 by omega)).trans (h.frame k hk), h.eS, by simpa [World.setCell] using hz⟩, rnd_set (by rw [h.eS]; exact .inl (by omega)) W 0 _⟩
theorem UnlI.add (h : UnlI w u v top o' r S W) {o : Obj} {w1 : World} {r1 : Value} {c : Chg} (hown : w1.ownsRow (w.heap.size + 5) 54 7 r1 (o'.length + 1) (ccells o' ++ ccs c)) (hg : (W.alloc o).grownBy w1 r.ownBlock) (hat : r1.ownBlock = r.ownBlock ∨ r1.ownBlock = some (W.alloc o).heap.size) :
    Boxed w1 w.heap.size 23 r ∧ ∃ S2, UnlI w u v top (o' ++ [c]) r1 S2 (w1.setCell ⟨w.heap.size, 0, none⟩ r1) ∧ Rnd S S2 W (w1.setCell ⟨w.heap.size, 0, none⟩ r1) := by
  have hz := h.size
  have hsg := hg.size
  simp at hsg
  have hge : ∀ k, r.ownBlock = some k → w.heap.size + 5 ≤ k ∧ k < W.heap.size := h.row.lt
  have hge1 : ∀ k, r1.ownBlock = some k → w.heap.size + 5 ≤ k ∧ k < w1.heap.size := hown.lt
  have hsame : ∀ k, k < w.heap.size + 5 → w1.heap[k]? = W.heap[k]? := fun k hk => (hg.block k (by simp; omega) (fun e => by have := (hge k e.symm).1; omega)).trans (Below.heap_alloc W o k (by omega))
  have b1 : Boxed w1 w.heap.size 23 r := (hsame _ (by omega)).trans h.bl
  refine ⟨b1, fun k => k < w.heap.size + 5 ∨ r1.ownBlock = some k, ⟨Boxed.set _ b1, Boxed.other ((hsame _ (by omega)).trans h.bt) (by omega) _, Boxed.other ((hsame _ (by omega)).trans h.ba) (by omega) _, Boxed.other ((hsame _ (by omega)).trans h.bb) (by omega) _, Boxed.other ((hsame _ (by omega)).trans h.bo) (by omega) _, ?_, fun k hk => (Below.heap_setCell _ _ _ _ (show k ≠ w.heap.size by omega)).trans ((hsame k (by omega)).trans (h.frame k hk)), rfl, by simp [World.setCell]; omega⟩, ⟨hg.os, hg.tape, hg.output, by simp [World.setCell]; omega, fun k hk hn => ?_, fun k hk => ?_⟩⟩
  · rw [List.length_append, ccells_append]
    have e1 : ccells [c] = ccs c := by simp [ccells]
    rw [e1]
    exact row_local hown (fun k hk => Below.heap_setCell _ _ _ _ (show k ≠ w.heap.size by have := (hge1 k hk).1; omega))
  · have k1 : ¬ k < w.heap.size + 5 := fun e => hn (by rw [h.eS]; exact .inl e)
    have k2 : some k ≠ r.ownBlock := fun e => hn (by rw [h.eS]; exact .inr e.symm)
    exact (Below.heap_setCell _ _ _ _ (show k ≠ w.heap.size by omega)).trans ((hg.block k (by simp; omega) k2).trans (Below.heap_alloc W o k hk))
  · rcases hk with hk | hk
    · exact .inl (by rw [h.eS]; exact .inl hk)
    · rcases hat with h1 | h1
      · exact .inl (by rw [h.eS]; exact .inr (by rw [← h1]; exact hk))
      · have h2 := (hge1 k hk).2
        rw [h1] at hk
        simp at hk
        exact .inr ⟨by omega, by simp [World.setCell]; omega⟩
theorem UnlI.tog {A B : List Ent} (h : UnlI w u v top o' r S W) (hu : EntsAt w u A) (hv : EntsAt w v B) : TogI (w.heap.size + 2) (w.heap.size + 3) (w.heap.size + 4) u v A B W :=
  ⟨h.ba.cell, h.bb.cell, h.bo.cell, hu.frame h.frame, hv.frame h.frame⟩
def UnlJ (w : World) (u v : Value) (pre : List (Ent × Ent)) (S : Nat → Prop) (W : World) : Prop := ∃ r, UnlI w u v (topF ⟨#[]⟩ pre) (emL ⟨#[]⟩ pre) r S W
theorem unlJ_local (w : World) (u v : Value) : LocalQ (UnlJ w u v) := by
  refine ⟨?_, ?_⟩
  · rintro pre S A B ⟨r, h⟩ hs hk
    exact ⟨r, h.keep hs hk⟩
  · rintro pre S A ⟨r, h⟩ k hk
    exact h.there k hk
theorem emL_len : ∀ (ps : List (Ent × Ent)) (top : ByteArray), (emL top ps).length ≤ 2 * ps.length
  | [], _ => by simp [emL]
  | x :: ps, top => by
    have := emL_len ps (topN top x)
    rw [emL, List.length_append, List.length_cons]
    have h1 : (emO top x).length ≤ 2 := by unfold emO; split <;> split <;> simp
    omega
theorem togL_len : ∀ (n : Nat) (A B : List Ent), A.length + B.length ≤ n → (togL A B).length ≤ A.length + B.length := by
  intro n
  induction n with
  | zero =>
    intro A B h
    obtain rfl : A = [] := List.eq_nil_of_length_eq_zero (by omega)
    obtain rfl : B = [] := List.eq_nil_of_length_eq_zero (by omega)
    rw [togL]; simp
  | succ n ih =>
    intro A B h
    by_cases hb : A = [] ∧ B = []
    · obtain ⟨rfl, rfl⟩ := hb; rw [togL]; simp
    · rcases Int.lt_trichotomy (nearN A B) 0 with hlt | heq | hgt
      · have hA : A ≠ [] := by
          rintro rfl
          cases B with
          | nil => exact hb ⟨rfl, rfl⟩
          | cons y B => simp [nearN] at hlt
        obtain ⟨x, A', rfl, ht⟩ := togL_lt hlt hA
        have := ih A' B (by simp at h; omega)
        rw [ht]; simp; omega
      · obtain ⟨x, A', y, B', rfl, rfl, ht⟩ := togL_eq heq
        have := ih A' B' (by simp at h; omega)
        rw [ht]; simp; omega
      · obtain ⟨y, B', rfl, ht⟩ := togL_gt hgt
        have := ih A B' (by simp at h; omega)
        rw [ht]; simp; omega
def UnlPost (A B : List Ent) (w : World) (e : Ending) (w' : World) : Prop := ∃ r, e = .returned r ∧ w'.ownsRow w.heap.size 54 7 r (unlikeL A B).length (ccells (unlikeL A B)) ∧ Below w.heap.size w w'
theorem eg_tog : ∀ args w, (callFunc 103 args).run Tryz.prog w = .ok (.enter 103 args) w := enters_of Tryz.func103 (by kernel_rfl) rfl
set_option maxRecDepth 100000 in
set_option maxHeartbeats 4000000 in
theorem unlike_p (u v : Value) (A B : List Ent) (w : World) (hu : EntsAt w u A) (hv : EntsAt w v B) (hs : ∀ e ∈ A ++ B, e.path.size ≤ 1099511627776) (hlA : A.length ≤ 1073741824) (hlB : B.length ≤ 1073741824) :
    Calls Tryz.prog 34 #[u, v] w (UnlPost A B w) := by
  obtain ⟨i0, hi, hz0, hz1, hz2⟩ := info_parts info_chg
  have HU : Hid (EntsAt w u A ∧ EntsAt w v B) := ⟨hu, hv⟩
  have HTL : Hid ((togL A B).length ≤ 2147483648) := by have := togL_len _ A B (Nat.le_refl _); unfold Hid; omega
  have hG := fun W => tog_gives (w.heap.size + 2) (w.heap.size + 3) (w.heap.size + 4) u v A B W hs hlA hlB
  obtain ⟨a1, c1, b1, o1, rfl, _, _, _⟩ := hu
  obtain ⟨a2, c2, b2, o2, rfl, _, _, _⟩ := hv
  clear hs
  obtain ⟨n, hn⟩ : ∃ n : Nat, n = 3 := ⟨3, rfl⟩
  clear hn
  refine (callsIn_wide (n := n)).1 ?_
  refine callsIn_of_wp_marks Tryz.func34 rfl trivial ?_ rfl
  simp only [Tryz.ntmps34, List.size_toArray, List.length_cons, List.length_nil, Nat.reduceAdd, Nat.reduceSub, Array.replicate_succ, Array.replicate_zero, List.push_toArray, List.append_toArray, List.nil_append, List.cons_append]
  gi_wp2_with (refine ⟨trivial, wd _, ?_⟩; gi_at_call 65; refine (callsIn_wide.2 (together_p _ _ _ _ _ _ _)).mono ?_; rintro e w' ⟨rfl, rfl⟩)
  have hI0 : UnlI w (.slice a1 A.length c1) (.slice a2 B.length c2) ⟨#[]⟩ [] (.slice none 0 0) (fun k => k < w.heap.size + 5 ∨ (Value.slice none 0 0).ownBlock = some k) (((((w.alloc (.cells #[.slice none 0 0] 23)).alloc (.cells #[.string ⟨#[]⟩] 9)).alloc (.cells #[.slice a1 A.length c1] 22)).alloc (.cells #[.slice a2 B.length c2] 22)).alloc (.cells #[byV] 100)) := by
    have h1 := Boxed.new (w.alloc (.cells #[.slice none 0 0] 23)) 9 (.string ⟨#[]⟩)
    have h2 := Boxed.new ((w.alloc (.cells #[.slice none 0 0] 23)).alloc (.cells #[.string ⟨#[]⟩] 9)) 22 (.slice a1 A.length c1)
    have h3 := Boxed.new (((w.alloc (.cells #[.slice none 0 0] 23)).alloc (.cells #[.string ⟨#[]⟩] 9)).alloc (.cells #[.slice a1 A.length c1] 22)) 22 (.slice a2 B.length c2)
    have h4 := Boxed.new ((((w.alloc (.cells #[.slice none 0 0] 23)).alloc (.cells #[.string ⟨#[]⟩] 9)).alloc (.cells #[.slice a1 A.length c1] 22)).alloc (.cells #[.slice a2 B.length c2] 22)) 100 byV
    simp only [World.size_alloc] at h1 h2 h3 h4
    refine ⟨((((Boxed.new w _ _).alloc _).alloc _).alloc _).alloc _, ((h1.alloc _).alloc _).alloc _, (h2.alloc _).alloc _, h3.alloc _, h4, World.ownsRow_nil _ _ _ _, fun k hk => ?_, rfl, by simp⟩
    rw [Below.heap_alloc _ _ _ (by simp; omega), Below.heap_alloc _ _ _ (by simp; omega), Below.heap_alloc _ _ _ (by simp; omega), Below.heap_alloc _ _ _ (by simp; omega), Below.heap_alloc _ _ _ hk]
  have hB0 : Below w.heap.size w (((((w.alloc (.cells #[.slice none 0 0] 23)).alloc (.cells #[.string ⟨#[]⟩] 9)).alloc (.cells #[.slice a1 A.length c1] 22)).alloc (.cells #[.slice a2 B.length c2] 22)).alloc (.cells #[byV] 100)) := (((((Below.refl _ w).alloc (Nat.le_refl _) _).alloc (by simp) _).alloc (by simp; omega) _).alloc (by simp; omega) _).alloc (by simp; omega) _
  have hsz0 : (((((w.alloc (.cells #[.slice none 0 0] 23)).alloc (.cells #[.string ⟨#[]⟩] 9)).alloc (.cells #[.slice a1 A.length c1] 22)).alloc (.cells #[.slice a2 B.length c2] 22)).alloc (.cells #[byV] 100)).heap.size ≤ w.heap.size + 5 := by simp
  generalize ((((w.alloc (.cells #[.slice none 0 0] 23)).alloc (.cells #[.string ⟨#[]⟩] 9)).alloc (.cells #[.slice a1 A.length c1] 22)).alloc (.cells #[.slice a2 B.length c2] 22)).alloc (.cells #[byV] 100) = W0 at *
  have hsW0 : W0.heap.size = w.heap.size + 5 := by
    have := hI0.size
    have h9 : W0.heap.size ≤ w.heap.size + 5 := hsz0
    omega
  refine range_lawB (xs := togL A B) (Iv := TogI (w.heap.size + 2) (w.heap.size + 3) (w.heap.size + 4) (.slice a1 A.length c1) (.slice a2 B.length c2) A B) rfl eg_tog (fun _ => rfl) (hG W0) (Below.refl _ _) (UnlJ w (.slice a1 A.length c1) (.slice a2 B.length c2)) (fun k => k < w.heap.size + 5 ∨ (Value.slice none 0 0).ownBlock = some k) (unlJ_local _ _ _) (fun pre S W h => by obtain ⟨r, h⟩ := h; exact h.tog HU.out.1 HU.out.2) ⟨_, hI0⟩ (fun x => .cells (entA x.1) 52) (fun x => .cells (entA x.2) 52)
    (fun x b => { tmps := #[.slice a1 A.length c1, .slice a2 B.length c2, undef, undef, .slice none 0 0, .pointer (some ⟨w.heap.size, 0, none⟩), .pointer (some ⟨w.heap.size + 1, 0, none⟩), .pointer (some ⟨b, 0, none⟩), .pointer (some ⟨b + 1, 0, none⟩), .slice a1 A.length c1, .slice a2 B.length c2, .func (.func 103) #[] #[.pointer (some ⟨w.heap.size + 2, 0, none⟩), .pointer (some ⟨w.heap.size + 3, 0, none⟩), .pointer (some ⟨w.heap.size + 4, 0, none⟩)], entV x.1, entV x.2, undef, undef, undef, undef, undef, undef, undef, undef, undef, undef, undef, undef, undef, undef, undef, undef, undef, undef, undef, undef, undef, undef, undef, undef, undef, undef, undef, undef, undef, undef, undef, undef, undef, undef, undef, undef, undef, undef, undef, undef, undef, undef, undef], defers := [] }) ?assign ?body ?done
  case assign =>
    intro m l x W K hK
    unfold entV at hK ⊢
    gi_wp2
    exact hK
  case body =>
    rintro m l pre ⟨x, y⟩ S b W ⟨r, hI⟩ hpx hb1 hb2' hSb hbw
    have hlen : (emL ⟨#[]⟩ pre).length ≤ 4294967296 := by
      have h1 := hpx.length_le
      have h2 := emL_len pre ⟨#[]⟩
      have h3 := HTL.out
      simp at h1; omega
    have HFIN : Hid (∀ S2 r2 U2, UnlI w (.slice a1 A.length c1) (.slice a2 B.length c2) (topN (topF ⟨#[]⟩ pre) (x, y)) (emL ⟨#[]⟩ pre ++ emO (topF ⟨#[]⟩ pre) (x, y)) r2 S2 U2 → UnlJ w (.slice a1 A.length c1) (.slice a2 B.length c2) (pre ++ [(x, y)]) S2 U2) := fun S2 r2 U2 h => ⟨r2, by rw [topF_snoc, emL_snoc]; exact h⟩
    have hbW : b + 1 < W.heap.size := (Array.getElem?_eq_some_iff.1 hb2').1
    have HX : Hid (W.heap[b]? = some (.cells (entA x) 52) ∧ W.heap[b + 1]? = some (.cells (entA y) 52)) := ⟨hb1, hb2'⟩
    have HSb : Hid (∀ k, S k → k < b) := hSb
    have HI : Hid (UnlI w (.slice a1 A.length c1) (.slice a2 B.length c2) (topF ⟨#[]⟩ pre) (emL ⟨#[]⟩ pre) r S W) := hI
    obtain ⟨s0, s1, s2, s3, s4⟩ := ent_block hb1
    obtain ⟨r0, r1, r2, r3, r4⟩ := ent_block hb2'
    have hzW := hI.size
    rw [hsW0] at hbw
    clear hI hb1 hb2' hSb hpx HU hG hI0 hB0 HTL
    generalize topF ⟨#[]⟩ pre = top at *
    generalize emL ⟨#[]⟩ pre = out at *
    have hSS := fun W => sameSort_p x y W
    have hBB := fun W => below_p top x.path W
    simp only [entV] at hSS ⊢
    cases hk : (x.kind != 0) with
    | false =>
      have HL : Hid (lostB top (x, y) = false) := by unfold Hid lostB freeB; simp [hk]
      gi_upto_region 9 with (first | (refine ⟨trivial, ?_⟩; go_at_K))
      have HIU : Hid (UnlI w _ _ top out r S W) := HI.out
      have HRU : Hid (Rnd S S W W) := Rnd.refl _ _
      have HX2 : Hid (W.heap[b]? = some (.cells (entA x) 52) ∧ W.heap[b + 1]? = some (.cells (entA y) 52)) := HX.out
      clear s0 s1 s2 s3 s4 r0 r1 r2 r3 r4 hSS hBB
      have heq : ∀ W, (Op.equalIn 10000 52 (.agg #[.string y.path, .int .i64 y.kind, .int .i64 y.mode, .string y.data, .string y.link]) (.agg #[.string x.path, .int .i64 x.kind, .int .i64 x.mode, .string x.data, .string x.link])).run Tryz.prog W = .ok (eqE y x) W := fun W => eq_ent y x W
      obtain ⟨p0, p1, p2, p3, p4⟩ := ent_block HX2.out.1
      obtain ⟨q0, q1, q2, q3, q4⟩ := ent_block HX2.out.2
      have hlc := HIU.out.bl.cell
      cases hk2 : (y.kind != 0) with
      | false =>
        have HNW : Hid (newB (x, y) = false) := by unfold Hid newB; simp [hk2]
        gi_wp2
        exact ⟨_, HFIN.out _ _ _ (by simpa [topN, emO, HL.out, HNW.out] using HIU.out), HRU.out⟩
      | true =>
        cases he : eqE y x with
        | true =>
          have HNW : Hid (newB (x, y) = false) := by unfold Hid newB; simp [hk2, he]
          rw [he] at heq
          clear he
          gi_wp2
          exact ⟨_, HFIN.out _ _ _ (by simpa [topN, emO, HL.out, HNW.out] using HIU.out), HRU.out⟩
        | false =>
          have HNW : Hid (newB (x, y) = true) := by unfold Hid newB; simp [hk2, he]
          rw [he] at heq
          clear he
          gi_wp2_with (gi_at_builtin; refine wpListIn_append_at _ rfl _ _ 23 rfl (w.heap.size + 5) 54 i0 (.agg #[.string ⟨#[]⟩, .bool false, .string ⟨#[]⟩, .int .i64 0, .int .i64 0, .string ⟨#[]⟩, .string ⟨#[]⟩]) 7 88 Tryz.underlying23 hi hz0 hz1 hz2 rfl (by decide) _ _ _ rfl (HIU.out.row.alloc _) ⟨W.heap.size, 0, none⟩ 1 1 (ccs (laidC y)) rfl rfl (chg_cells (chg_new W _ (laidC y))) (chg_one _) (by unfold maxLen; omega) (by omega) (by have := HIU.out.size; simp; omega) ?_; intro q1 w9 hown9 hgrow9 hat9; obtain ⟨g9, cap9, rfl⟩ := row_shape hown9; obtain ⟨hb9, S9, hI9, hR9⟩ := HIU.out.add hown9 hgrow9 hat9; have hbc := hb9.cell; have hbf := hb9.frozen)
          exact ⟨_, HFIN.out _ _ _ (by simpa [topN, emO, HL.out, HNW.out] using hI9), HRU.out.trans hR9⟩
    | true =>
      cases hst : sortB x y with
      | true =>
        rw [hst] at hSS
        have HL : Hid (lostB top (x, y) = false) := by unfold Hid lostB freeB; simp [hk, hst]
        gi_upto_region 9 with (first | (refine ⟨trivial, wd _, ?_⟩; gi_at_call 67; refine (CallsIn.inRound l (callsIn_wide.2 (hSS _))).mono ?_; rintro e W2 ⟨rfl, hb2⟩; have hIW2 := HI.out.below hb2; have htc := hIW2.bt.cell; obtain ⟨t0, t1, t2, t3, t4⟩ := ent_block ((hb2.block b (by omega)).trans HX.out.1); obtain ⟨v0, v1, v2, v3, v4⟩ := ent_block ((hb2.block (b + 1) (by omega)).trans HX.out.2)) | (refine ⟨trivial, ?_⟩; go_at_K))
        have HIU : Hid (UnlI w _ _ top out r S W2) := hIW2
        have HRU : Hid (Rnd S S W W2) := Rnd.of_below hb2
        have HX2 : Hid (W2.heap[b]? = some (.cells (entA x) 52) ∧ W2.heap[b + 1]? = some (.cells (entA y) 52)) := ⟨(hb2.block b (by omega)).trans HX.out.1, (hb2.block (b + 1) (by omega)).trans HX.out.2⟩
        clear hIW2 htc t0 t1 t2 t3 t4 v0 v1 v2 v3 v4 hb2 s0 s1 s2 s3 s4 r0 r1 r2 r3 r4 hSS hBB
        have heq : ∀ W, (Op.equalIn 10000 52 (.agg #[.string y.path, .int .i64 y.kind, .int .i64 y.mode, .string y.data, .string y.link]) (.agg #[.string x.path, .int .i64 x.kind, .int .i64 x.mode, .string x.data, .string x.link])).run Tryz.prog W = .ok (eqE y x) W := fun W => eq_ent y x W
        obtain ⟨p0, p1, p2, p3, p4⟩ := ent_block HX2.out.1
        obtain ⟨q0, q1, q2, q3, q4⟩ := ent_block HX2.out.2
        have hlc := HIU.out.bl.cell
        cases hk2 : (y.kind != 0) with
        | false =>
          have HNW : Hid (newB (x, y) = false) := by unfold Hid newB; simp [hk2]
          gi_wp2
          exact ⟨_, HFIN.out _ _ _ (by simpa [topN, emO, HL.out, HNW.out] using HIU.out), HRU.out⟩
        | true =>
          cases he : eqE y x with
          | true =>
            have HNW : Hid (newB (x, y) = false) := by unfold Hid newB; simp [hk2, he]
            rw [he] at heq
            clear he
            gi_wp2
            exact ⟨_, HFIN.out _ _ _ (by simpa [topN, emO, HL.out, HNW.out] using HIU.out), HRU.out⟩
          | false =>
            have HNW : Hid (newB (x, y) = true) := by unfold Hid newB; simp [hk2, he]
            rw [he] at heq
            clear he
            gi_wp2_with (gi_at_builtin; refine wpListIn_append_at _ rfl _ _ 23 rfl (w.heap.size + 5) 54 i0 (.agg #[.string ⟨#[]⟩, .bool false, .string ⟨#[]⟩, .int .i64 0, .int .i64 0, .string ⟨#[]⟩, .string ⟨#[]⟩]) 7 88 Tryz.underlying23 hi hz0 hz1 hz2 rfl (by decide) _ _ _ rfl (HIU.out.row.alloc _) ⟨W2.heap.size, 0, none⟩ 1 1 (ccs (laidC y)) rfl rfl (chg_cells (chg_new W2 _ (laidC y))) (chg_one _) (by unfold maxLen; omega) (by omega) (by have := HIU.out.size; simp; omega) ?_; intro q1 w9 hown9 hgrow9 hat9; obtain ⟨g9, cap9, rfl⟩ := row_shape hown9; obtain ⟨hb9, S9, hI9, hR9⟩ := HIU.out.add hown9 hgrow9 hat9; have hbc := hb9.cell; have hbf := hb9.frozen)
            exact ⟨_, HFIN.out _ _ _ (by simpa [topN, emO, HL.out, HNW.out] using hI9), HRU.out.trans hR9⟩
      | false =>
        rw [hst] at hSS
        cases hte : top.toList.isEmpty with
        | true =>
          have HL : Hid (lostB top (x, y) = true) := by unfold Hid lostB freeB; simp [hk, hst, hte]
          have hft : W.frozen? ⟨w.heap.size + 1, 0, none⟩ = false := HI.out.bt.frozen
          gi_upto_region 7 with (first | (refine ⟨trivial, wd _, ?_⟩; gi_at_call 67; refine (CallsIn.inRound l (callsIn_wide.2 (hSS _))).mono ?_; rintro e W2 ⟨rfl, hb2⟩; have hIW2 := HI.out.below hb2; have htc := hIW2.bt.cell; obtain ⟨t0, t1, t2, t3, t4⟩ := ent_block ((hb2.block b (by omega)).trans HX.out.1); obtain ⟨v0, v1, v2, v3, v4⟩ := ent_block ((hb2.block (b + 1) (by omega)).trans HX.out.2)) | (refine ⟨trivial, ?_⟩; go_at_K))
          have hft2 := hIW2.bt.frozen
          have HIW2 : Hid (UnlI w _ _ top out r S W2) := hIW2
          have HX3 : Hid (W2.heap[b]? = some (.cells (entA x) 52) ∧ W2.heap[b + 1]? = some (.cells (entA y) 52)) := ⟨(hb2.block b (by omega)).trans HX.out.1, (hb2.block (b + 1) (by omega)).trans HX.out.2⟩
          have hRW2 : Hid (Rnd S S W W2) := Rnd.of_below hb2
          have hsW2 := hb2.size
          clear hIW2 hb2
          gi_upto_region 8 with fail
          obtain ⟨hI3', hR3'⟩ := HIW2.out.turn x.path
          have hX4 : (W2.setCell ⟨w.heap.size + 1, 0, none⟩ (.string x.path)).heap[b]? = some (.cells (entA x) 52) ∧ (W2.setCell ⟨w.heap.size + 1, 0, none⟩ (.string x.path)).heap[b + 1]? = some (.cells (entA y) 52) := ⟨(Below.heap_setCell _ _ _ _ (show b ≠ w.heap.size + 1 by omega)).trans HX3.out.1, (Below.heap_setCell _ _ _ _ (show b + 1 ≠ w.heap.size + 1 by omega)).trans HX3.out.2⟩
          have hs3 : W2.heap.size ≤ (W2.setCell ⟨w.heap.size + 1, 0, none⟩ (.string x.path)).heap.size := by simp [World.setCell]
          clear htc t0 t1 t2 t3 t4 v0 v1 v2 v3 v4 hft2 hft s0 s1 s2 s3 s4 r0 r1 r2 r3 r4
          generalize W2.setCell ⟨w.heap.size + 1, 0, none⟩ (.string x.path) = W3 at *
          have HI3 : Hid (UnlI w _ _ x.path out r S W3) := hI3'
          have hc8 := hI3'.bl.cell
          have hc9 := hI3'.bt.cell
          have HR3 : Hid (Rnd S S W W3) := hRW2.out.trans hR3'
          have HX4 : Hid (W3.heap[b]? = some (.cells (entA x) 52) ∧ W3.heap[b + 1]? = some (.cells (entA y) 52)) := hX4
          clear hI3' hR3' hX4
          gi_upto_region 9 with (gi_at_builtin; refine wpListIn_append_at _ rfl _ _ 23 rfl (w.heap.size + 5) 54 i0 (.agg #[.string ⟨#[]⟩, .bool false, .string ⟨#[]⟩, .int .i64 0, .int .i64 0, .string ⟨#[]⟩, .string ⟨#[]⟩]) 7 88 Tryz.underlying23 hi hz0 hz1 hz2 rfl (by decide) _ _ _ rfl (HI3.out.row.alloc _) ⟨W3.heap.size, 0, none⟩ 1 1 (ccs (goneC x.path)) rfl rfl (chg_cells (chg_new W3 _ (goneC x.path))) (chg_one _) (by unfold maxLen; omega) (by omega) (by have := HI3.out.size; simp; omega) ?_; intro q1 w9 hown9 hgrow9 hat9; obtain ⟨g9, cap9, rfl⟩ := row_shape hown9; obtain ⟨hb9, S9, hI9, hR9⟩ := HI3.out.add hown9 hgrow9 hat9; have hbc := hb9.cell; have hbf := hb9.frozen)
          have HRU : Hid (Rnd S S9 W _) := HR3.out.trans hR9
          have HIU : Hid (UnlI w _ _ x.path (out ++ [goneC x.path]) _ S9 _) := hI9
          have hsU := HRU.out.size
          have hX5 : _ ∧ _ := ⟨(HRU.out.same b (by omega) (fun h => by have := HSb.out b h; omega)).trans HX.out.1, (HRU.out.same (b + 1) (by omega) (fun h => by have := HSb.out (b + 1) h; omega)).trans HX.out.2⟩
          clear hI9 hR9 hb9 hbc hbf hown9 hgrow9 hat9 hc8 hc9 HI3 HR3 HX4 HX3 hRW2 HIW2 hSS hBB
          generalize w9.setCell ⟨w.heap.size, 0, none⟩ (.slice (some ⟨g9, 0, none⟩) (out.length + 1) cap9) = U at *
          have HX2 : Hid (U.heap[b]? = some (.cells (entA x) 52) ∧ U.heap[b + 1]? = some (.cells (entA y) 52)) := hX5
          have hlen3 : (out ++ [goneC x.path]).length ≤ 4294967299 := by simp; omega
          have heq : ∀ W, (Op.equalIn 10000 52 (.agg #[.string y.path, .int .i64 y.kind, .int .i64 y.mode, .string y.data, .string y.link]) (.agg #[.string x.path, .int .i64 x.kind, .int .i64 x.mode, .string x.data, .string x.link])).run Tryz.prog W = .ok (eqE y x) W := fun W => eq_ent y x W
          obtain ⟨p0, p1, p2, p3, p4⟩ := ent_block HX2.out.1
          obtain ⟨q0, q1, q2, q3, q4⟩ := ent_block HX2.out.2
          have hlc := HIU.out.bl.cell
          cases hk2 : (y.kind != 0) with
          | false =>
            have HNW : Hid (newB (x, y) = false) := by unfold Hid newB; simp [hk2]
            gi_wp2
            exact ⟨_, HFIN.out _ _ _ (by simpa [topN, emO, HL.out, HNW.out] using HIU.out), HRU.out⟩
          | true =>
            cases he : eqE y x with
            | true =>
              have HNW : Hid (newB (x, y) = false) := by unfold Hid newB; simp [hk2, he]
              rw [he] at heq
              clear he
              gi_wp2
              exact ⟨_, HFIN.out _ _ _ (by simpa [topN, emO, HL.out, HNW.out] using HIU.out), HRU.out⟩
            | false =>
              have HNW : Hid (newB (x, y) = true) := by unfold Hid newB; simp [hk2, he]
              rw [he] at heq
              clear he
              gi_wp2_with (gi_at_builtin; refine wpListIn_append_at _ rfl _ _ 23 rfl (w.heap.size + 5) 54 i0 (.agg #[.string ⟨#[]⟩, .bool false, .string ⟨#[]⟩, .int .i64 0, .int .i64 0, .string ⟨#[]⟩, .string ⟨#[]⟩]) 7 88 Tryz.underlying23 hi hz0 hz1 hz2 rfl (by decide) _ _ _ rfl (HIU.out.row.alloc _) ⟨U.heap.size, 0, none⟩ 1 1 (ccs (laidC y)) rfl rfl (chg_cells (chg_new U _ (laidC y))) (chg_one _) (by unfold maxLen; omega) (by omega) (by have := HIU.out.size; simp; omega) ?_; intro q1 w9 hown9 hgrow9 hat9; obtain ⟨g9, cap9, rfl⟩ := row_shape hown9; obtain ⟨hb9, S9, hI9, hR9⟩ := HIU.out.add hown9 hgrow9 hat9; have hbc := hb9.cell; have hbf := hb9.frozen)
              exact ⟨S9, HFIN.out _ _ _ (by simpa [topN, emO, HL.out, HNW.out] using hI9), by simpa using HRU.out.trans hR9⟩
        | false =>
          cases hbl : belowB top x.path with
          | true =>
            rw [hbl] at hBB
            have HL : Hid (lostB top (x, y) = false) := by unfold Hid lostB freeB; simp [hk, hst, hte, hbl]
            gi_upto_region 9 with (first | (refine ⟨trivial, wd _, ?_⟩; gi_at_call 67; refine (CallsIn.inRound l (callsIn_wide.2 (hSS _))).mono ?_; rintro e W2 ⟨rfl, hb2⟩; have hIW2 := HI.out.below hb2; have htc := hIW2.bt.cell; obtain ⟨t0, t1, t2, t3, t4⟩ := ent_block ((hb2.block b (by omega)).trans HX.out.1); obtain ⟨v0, v1, v2, v3, v4⟩ := ent_block ((hb2.block (b + 1) (by omega)).trans HX.out.2)) | (refine ⟨trivial, wd _, ?_⟩; gi_at_call 28; refine (CallsIn.inRound l (callsIn_wide.2 (hBB _))).mono ?_; rintro e w' ⟨rfl, hw9⟩; obtain rfl := hw9.symm) | (refine ⟨trivial, ?_⟩; go_at_K))
            have HIU : Hid (UnlI w _ _ top out r S W2) := hIW2
            have HRU : Hid (Rnd S S W W2) := Rnd.of_below hb2
            have HX2 : Hid (W2.heap[b]? = some (.cells (entA x) 52) ∧ W2.heap[b + 1]? = some (.cells (entA y) 52)) := ⟨(hb2.block b (by omega)).trans HX.out.1, (hb2.block (b + 1) (by omega)).trans HX.out.2⟩
            clear hIW2 htc t0 t1 t2 t3 t4 v0 v1 v2 v3 v4 hb2 s0 s1 s2 s3 s4 r0 r1 r2 r3 r4 hSS hBB
            have heq : ∀ W, (Op.equalIn 10000 52 (.agg #[.string y.path, .int .i64 y.kind, .int .i64 y.mode, .string y.data, .string y.link]) (.agg #[.string x.path, .int .i64 x.kind, .int .i64 x.mode, .string x.data, .string x.link])).run Tryz.prog W = .ok (eqE y x) W := fun W => eq_ent y x W
            obtain ⟨p0, p1, p2, p3, p4⟩ := ent_block HX2.out.1
            obtain ⟨q0, q1, q2, q3, q4⟩ := ent_block HX2.out.2
            have hlc := HIU.out.bl.cell
            cases hk2 : (y.kind != 0) with
            | false =>
              have HNW : Hid (newB (x, y) = false) := by unfold Hid newB; simp [hk2]
              gi_wp2
              exact ⟨_, HFIN.out _ _ _ (by simpa [topN, emO, HL.out, HNW.out] using HIU.out), HRU.out⟩
            | true =>
              cases he : eqE y x with
              | true =>
                have HNW : Hid (newB (x, y) = false) := by unfold Hid newB; simp [hk2, he]
                rw [he] at heq
                clear he
                gi_wp2
                exact ⟨_, HFIN.out _ _ _ (by simpa [topN, emO, HL.out, HNW.out] using HIU.out), HRU.out⟩
              | false =>
                have HNW : Hid (newB (x, y) = true) := by unfold Hid newB; simp [hk2, he]
                rw [he] at heq
                clear he
                gi_wp2_with (gi_at_builtin; refine wpListIn_append_at _ rfl _ _ 23 rfl (w.heap.size + 5) 54 i0 (.agg #[.string ⟨#[]⟩, .bool false, .string ⟨#[]⟩, .int .i64 0, .int .i64 0, .string ⟨#[]⟩, .string ⟨#[]⟩]) 7 88 Tryz.underlying23 hi hz0 hz1 hz2 rfl (by decide) _ _ _ rfl (HIU.out.row.alloc _) ⟨W2.heap.size, 0, none⟩ 1 1 (ccs (laidC y)) rfl rfl (chg_cells (chg_new W2 _ (laidC y))) (chg_one _) (by unfold maxLen; omega) (by omega) (by have := HIU.out.size; simp; omega) ?_; intro q1 w9 hown9 hgrow9 hat9; obtain ⟨g9, cap9, rfl⟩ := row_shape hown9; obtain ⟨hb9, S9, hI9, hR9⟩ := HIU.out.add hown9 hgrow9 hat9; have hbc := hb9.cell; have hbf := hb9.frozen)
                exact ⟨_, HFIN.out _ _ _ (by simpa [topN, emO, HL.out, HNW.out] using hI9), HRU.out.trans hR9⟩
          | false =>
            rw [hbl] at hBB
            have HL : Hid (lostB top (x, y) = true) := by unfold Hid lostB freeB; simp [hk, hst, hte, hbl]
            have hft : W.frozen? ⟨w.heap.size + 1, 0, none⟩ = false := HI.out.bt.frozen
            gi_upto_region 7 with (first | (refine ⟨trivial, wd _, ?_⟩; gi_at_call 67; refine (CallsIn.inRound l (callsIn_wide.2 (hSS _))).mono ?_; rintro e W2 ⟨rfl, hb2⟩; have hIW2 := HI.out.below hb2; have htc := hIW2.bt.cell; obtain ⟨t0, t1, t2, t3, t4⟩ := ent_block ((hb2.block b (by omega)).trans HX.out.1); obtain ⟨v0, v1, v2, v3, v4⟩ := ent_block ((hb2.block (b + 1) (by omega)).trans HX.out.2)) | (refine ⟨trivial, wd _, ?_⟩; gi_at_call 28; refine (CallsIn.inRound l (callsIn_wide.2 (hBB _))).mono ?_; rintro e w' ⟨rfl, hw9⟩; obtain rfl := hw9.symm) | (refine ⟨trivial, ?_⟩; go_at_K))
            have hft2 := hIW2.bt.frozen
            have HIW2 : Hid (UnlI w _ _ top out r S W2) := hIW2
            have HX3 : Hid (W2.heap[b]? = some (.cells (entA x) 52) ∧ W2.heap[b + 1]? = some (.cells (entA y) 52)) := ⟨(hb2.block b (by omega)).trans HX.out.1, (hb2.block (b + 1) (by omega)).trans HX.out.2⟩
            have hRW2 : Hid (Rnd S S W W2) := Rnd.of_below hb2
            have hsW2 := hb2.size
            clear hIW2 hb2
            gi_upto_region 8 with fail
            obtain ⟨hI3', hR3'⟩ := HIW2.out.turn x.path
            have hX4 : (W2.setCell ⟨w.heap.size + 1, 0, none⟩ (.string x.path)).heap[b]? = some (.cells (entA x) 52) ∧ (W2.setCell ⟨w.heap.size + 1, 0, none⟩ (.string x.path)).heap[b + 1]? = some (.cells (entA y) 52) := ⟨(Below.heap_setCell _ _ _ _ (show b ≠ w.heap.size + 1 by omega)).trans HX3.out.1, (Below.heap_setCell _ _ _ _ (show b + 1 ≠ w.heap.size + 1 by omega)).trans HX3.out.2⟩
            have hs3 : W2.heap.size ≤ (W2.setCell ⟨w.heap.size + 1, 0, none⟩ (.string x.path)).heap.size := by simp [World.setCell]
            clear htc t0 t1 t2 t3 t4 v0 v1 v2 v3 v4 hft2 hft s0 s1 s2 s3 s4 r0 r1 r2 r3 r4
            generalize W2.setCell ⟨w.heap.size + 1, 0, none⟩ (.string x.path) = W3 at *
            have HI3 : Hid (UnlI w _ _ x.path out r S W3) := hI3'
            have hc8 := hI3'.bl.cell
            have hc9 := hI3'.bt.cell
            have HR3 : Hid (Rnd S S W W3) := hRW2.out.trans hR3'
            have HX4 : Hid (W3.heap[b]? = some (.cells (entA x) 52) ∧ W3.heap[b + 1]? = some (.cells (entA y) 52)) := hX4
            clear hI3' hR3' hX4
            gi_upto_region 9 with (gi_at_builtin; refine wpListIn_append_at _ rfl _ _ 23 rfl (w.heap.size + 5) 54 i0 (.agg #[.string ⟨#[]⟩, .bool false, .string ⟨#[]⟩, .int .i64 0, .int .i64 0, .string ⟨#[]⟩, .string ⟨#[]⟩]) 7 88 Tryz.underlying23 hi hz0 hz1 hz2 rfl (by decide) _ _ _ rfl (HI3.out.row.alloc _) ⟨W3.heap.size, 0, none⟩ 1 1 (ccs (goneC x.path)) rfl rfl (chg_cells (chg_new W3 _ (goneC x.path))) (chg_one _) (by unfold maxLen; omega) (by omega) (by have := HI3.out.size; simp; omega) ?_; intro q1 w9 hown9 hgrow9 hat9; obtain ⟨g9, cap9, rfl⟩ := row_shape hown9; obtain ⟨hb9, S9, hI9, hR9⟩ := HI3.out.add hown9 hgrow9 hat9; have hbc := hb9.cell; have hbf := hb9.frozen)
            have HRU : Hid (Rnd S S9 W _) := HR3.out.trans hR9
            have HIU : Hid (UnlI w _ _ x.path (out ++ [goneC x.path]) _ S9 _) := hI9
            have hsU := HRU.out.size
            have hX5 : _ ∧ _ := ⟨(HRU.out.same b (by omega) (fun h => by have := HSb.out b h; omega)).trans HX.out.1, (HRU.out.same (b + 1) (by omega) (fun h => by have := HSb.out (b + 1) h; omega)).trans HX.out.2⟩
            clear hI9 hR9 hb9 hbc hbf hown9 hgrow9 hat9 hc8 hc9 HI3 HR3 HX4 HX3 hRW2 HIW2 hSS hBB
            generalize w9.setCell ⟨w.heap.size, 0, none⟩ (.slice (some ⟨g9, 0, none⟩) (out.length + 1) cap9) = U at *
            have HX2 : Hid (U.heap[b]? = some (.cells (entA x) 52) ∧ U.heap[b + 1]? = some (.cells (entA y) 52)) := hX5
            have hlen3 : (out ++ [goneC x.path]).length ≤ 4294967299 := by simp; omega
            have heq : ∀ W, (Op.equalIn 10000 52 (.agg #[.string y.path, .int .i64 y.kind, .int .i64 y.mode, .string y.data, .string y.link]) (.agg #[.string x.path, .int .i64 x.kind, .int .i64 x.mode, .string x.data, .string x.link])).run Tryz.prog W = .ok (eqE y x) W := fun W => eq_ent y x W
            obtain ⟨p0, p1, p2, p3, p4⟩ := ent_block HX2.out.1
            obtain ⟨q0, q1, q2, q3, q4⟩ := ent_block HX2.out.2
            have hlc := HIU.out.bl.cell
            cases hk2 : (y.kind != 0) with
            | false =>
              have HNW : Hid (newB (x, y) = false) := by unfold Hid newB; simp [hk2]
              gi_wp2
              exact ⟨_, HFIN.out _ _ _ (by simpa [topN, emO, HL.out, HNW.out] using HIU.out), HRU.out⟩
            | true =>
              cases he : eqE y x with
              | true =>
                have HNW : Hid (newB (x, y) = false) := by unfold Hid newB; simp [hk2, he]
                rw [he] at heq
                clear he
                gi_wp2
                exact ⟨_, HFIN.out _ _ _ (by simpa [topN, emO, HL.out, HNW.out] using HIU.out), HRU.out⟩
              | false =>
                have HNW : Hid (newB (x, y) = true) := by unfold Hid newB; simp [hk2, he]
                rw [he] at heq
                clear he
                gi_wp2_with (gi_at_builtin; refine wpListIn_append_at _ rfl _ _ 23 rfl (w.heap.size + 5) 54 i0 (.agg #[.string ⟨#[]⟩, .bool false, .string ⟨#[]⟩, .int .i64 0, .int .i64 0, .string ⟨#[]⟩, .string ⟨#[]⟩]) 7 88 Tryz.underlying23 hi hz0 hz1 hz2 rfl (by decide) _ _ _ rfl (HIU.out.row.alloc _) ⟨U.heap.size, 0, none⟩ 1 1 (ccs (laidC y)) rfl rfl (chg_cells (chg_new U _ (laidC y))) (chg_one _) (by unfold maxLen; omega) (by omega) (by have := HIU.out.size; simp; omega) ?_; intro q1 w9 hown9 hgrow9 hat9; obtain ⟨g9, cap9, rfl⟩ := row_shape hown9; obtain ⟨hb9, S9, hI9, hR9⟩ := HIU.out.add hown9 hgrow9 hat9; have hbc := hb9.cell; have hbf := hb9.frozen)
                exact ⟨S9, HFIN.out _ _ _ (by simpa [topN, emO, HL.out, HNW.out] using hI9), by simpa using HRU.out.trans hR9⟩
  case done =>
    rintro D S W hD ⟨r, hI⟩ hr hSD hK
    have hlc := hI.bl.cell
    have HI : Hid (UnlI w (.slice a1 A.length c1) (.slice a2 B.length c2) (topF ⟨#[]⟩ (togL A B)) (emL ⟨#[]⟩ (togL A B)) r S W) := hI
    have HK : Hid (W.heap[D]? = some (.deferred (some [])) ∧ ¬ S D ∧ W0.heap.size ≤ D) := ⟨hK, hSD, hD⟩
    have HB : Hid (Below w.heap.size w W) := ⟨hr.os.trans hB0.os, hr.tape.trans hB0.tape, hr.output.trans hB0.output, by have := hI.size; omega, hI.frame⟩
    clear hI hr hSD hD hK hG hI0
    gi_wp2
    refine ⟨by simp, .inl ⟨_, _, rfl, run_takeDeferred HK.out.1, ?_⟩⟩
    have hD2 := HK.out.2.2
    refine ⟨r, by simp [results, Tryz.f34, go_sem], r, rfl, ?_, HB.out.trans (putLoop_below _ HK.out.1 (by omega))⟩
    have h1 := row_local (B := W.putObj D (.deferred none)) HI.out.row (fun k hk => World.putObj_heap_other (fun e => HK.out.2.1 (by rw [HI.out.eS]; exact .inr (e ▸ hk))))
    refine ⟨h1.1, ?_⟩
    rcases h1.2 with hn | ⟨g2, cap, cur, e1, e2, rest⟩
    · exact .inl hn
    · exact .inr ⟨g2, cap, cur, e1, by omega, rest⟩
end Go.Proofs.YtgildlfanfbebaaGreatDoor
