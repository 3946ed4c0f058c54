/- lead, where nothing is laid and nobody asks where the walk stands. -/
import Derived.Test.YtcefgnjgcnboeaaGreatDoorRndW
import Derived.Test.YtcefgnjgcnboeaaGreatDoorStepX

namespace Go.Proofs.YtcefgnjgcnboeaaGreatDoor
open Go Go.RowKit

/-- What a relation says of the world it says of the blocks of S alone; they are there. -/
structure LocalQ {α : Type} (J : List α → (Nat → Prop) → World → Prop) : Prop where
  keep : ∀ pre S A B, J pre S A → A.heap.size ≤ B.heap.size → (∀ k, S k → B.heap[k]? = A.heap[k]?) → J pre S B
  there : ∀ pre S A, J pre S A → ∀ k, S k → k < A.heap.size
theorem LocalQ.below {α : Type} {J : List α → (Nat → Prop) → World → Prop} (h : LocalQ J) {pre : List α} {S : Nat → Prop} {A B : World} (hj : J pre S A) (hb : Below A.heap.size A B) : J pre S B := h.keep pre S A B hj hb.size (fun k hk => hb.block k (h.there pre S A hj k hk))
/-- What a round owes. -/
def RoundQ {α : Type} (P : Program) (l : Nat) (va : α → Array Value) (xs : List α) (J : List α → (Nat → Prop) → World → Prop) : Prop :=
  ∀ m pre x S W1, J pre S W1 → pre ++ [x] <+: xs → YieldAt Fence.wide m P l (va x) W1 fun e W2 => e = .returned (.bool true) ∧ ∃ S2, J (pre ++ [x]) S2 W2 ∧ Rnd S S2 W1 W2
/-- The function g over lb hands on just the things xs, each as the values va x, in their order, while what I says stays. -/
def GivesQ {α : Type} (P : Program) (g : Nat) (lb : Array Value) (va : α → Array Value) (xs : List α) (I : World → Prop) (w : World) : Prop :=
  ∀ (n l : Nat) (J : List α → (Nat → Prop) → World → Prop) (S : Nat → Prop) (W : World), Below w.heap.size w W → LocalQ J → (∀ pre S W, J pre S W → I W) → RoundQ P l va xs J → J [] S W →
    CallsIn Fence.wide n P g (#[.func (.yield l) #[] #[]] ++ lb) W fun e W2 => (∃ v, e = .returned v) ∧ ∃ S2, J xs S2 W2 ∧ Rnd S S2 W W2

theorem range_lawQ {α : Type} {P : Program} {g : Operand} {ps : Array Tmp} {assign body : Code} {Q : Exit → Act → World → Prop} {a : Act} {w : World} {n : Nat}
    {gf : Nat} {lb : Array Value} (hg : a.eval g = .func (.func gf) #[] lb) (eg : ∀ args w, (callFunc gf args).run P w = .ok (.enter gf args) w)
    {xs : List α} {Iv : World → Prop} {w0 : World} {va : α → Array Value} (hva : ∀ x, (va x).size = ps.size) (hseq : GivesQ P gf lb va xs Iv w0) (hb0 : Below w0.heap.size w0 w)
    (I : List α → (Nat → Prop) → World → Prop) (S0 : Nat → Prop) (hI : LocalQ I) (hIv : ∀ pre S W, I pre S W → Iv W) (h0 : I [] S0 w) (a₁ : α → Act)
    (hassign : ∀ (m l : Nat) (x : α) (W : World) (K : Act → World → Prop), K (a₁ x) W →
      assign.wpIn (Fence.wide.inRound l) m P (Exit.then K (fun _ _ _ => False)) { tmps := (ps.zip (va x)).foldl (fun (tmps : Array Value) (x : Nat × Value) => match x with | (t, a) => tmps.setIfInBounds t a) a.tmps, defers := [] } W)
    (hbody : ∀ (m l : Nat) (pre : List α) (x : α) (S : Nat → Prop) (W : World), I pre S W → pre ++ [x] <+: xs →
      body.wpIn (Fence.wide.inRound l) m P (fun e _ W3 => e = .normal ∧ ∃ S2, I (pre ++ [x]) S2 W3 ∧ Rnd S S2 W W3) (a₁ x) W)
    (hdone : ∀ (D : Nat) (S : Nat → Prop) (W : World), w.heap.size ≤ D → I xs S W → Rnd S0 S w W → ¬ S D → W.heap[D]? = some (.deferred (some [])) → Q .normal { a with defers := { target := .collected D, args := #[] } :: a.defers } W) :
    (Code.rangeFunc g ps assign body).wpIn Fence.wide n P Q a w := by
  refine wpIn_rangeFunc fun fn hfn => ?_
  let rc : LoopState → Option Code → Loop := fun st pe => { state := st, pending := pe, fn, tmps := a.tmps, params := ps, assign, body, defers := w.heap.size }
  let L := w.heap.size + 1
  let D := w.heap.size
  have start : ∃ W1, (w.alloc (.deferred (some []))).alloc (.loop (rc .ready none)) = W1 := ⟨_, rfl⟩
  obtain ⟨W1, e1⟩ := start
  have sz : W1.heap.size = w.heap.size + 2 := by rw [← e1]; simp
  have atL : W1.heap[L]? = some (.loop (rc .ready none)) := by
    have h := World.alloc_heap_new (w.alloc (.deferred (some []))) (.loop (rc .ready none))
    rw [World.size_alloc] at h; rw [← e1]; exact h
  have atD : W1.heap[D]? = some (.deferred (some [])) := by
    rw [← e1]; exact (Below.heap_alloc _ _ _ (by simp [D])).trans (World.alloc_heap_new w _)
  have bw : Below w.heap.size w W1 := by rw [← e1]; exact ((Below.refl _ w).alloc (Nat.le_refl _) _).alloc (by simp) _
  have b1 : Below w0.heap.size w0 W1 := hb0.trans (bw.mono hb0.size)
  have i1 : I [] S0 W1 := hI.below h0 bw
  have nS : ∀ k, S0 k → k < w.heap.size := hI.there _ _ _ h0
  refine ⟨L, [{ target := .collected D, args := #[] }], W1, { target := .fn (.func gf) lb, args := #[.func (.yield L) #[] #[]] }, W1, gf, #[.func (.yield L) #[] #[]] ++ lb, W1, ?_, ?_, fun _ _ => trivial, ?_, ?_, ?_⟩
  · rw [← e1]; exact run_enterLoop_outer _ _ _ _ _
  · simp only [resolve, hg]; simp [go_sem]
  · simp [invoke, go_sem, eg]
  · intro h; exact absurd h (by simp [Fence.wide])
  refine (hseq (n - 1) L (fun pre S W => ∃ SI : Nat → Prop, I pre SI W ∧ W.heap[L]? = some (.loop (rc .ready none)) ∧ W.heap[D]? = some (.deferred (some [])) ∧ ¬ SI L ∧ ¬ SI D ∧ S = fun k => SI k ∨ k = L ∨ k = D)
    (fun k => S0 k ∨ k = L ∨ k = D) W1 b1 ?_ (fun pre S W h => by obtain ⟨SI, hi, _⟩ := h; exact hIv _ _ _ hi) ?_ ⟨S0, i1, atL, atD, fun h => by have := nS _ h; omega, fun h => by have := nS _ h; omega, rfl⟩).mono ?_
  · refine ⟨?_, ?_⟩
    · rintro pre S A B ⟨SI, h1, h2, h3, h4, h5, rfl⟩ hs hk
      exact ⟨SI, hI.keep pre SI A B h1 hs (fun k h => hk k (.inl h)), (hk L (.inr (.inl rfl))).trans h2, (hk D (.inr (.inr rfl))).trans h3, h4, h5, rfl⟩
    · rintro pre S A ⟨SI, h1, h2, h3, h4, h5, rfl⟩ k hk
      rcases hk with hk | hk | hk
      · exact hI.there pre SI A h1 k hk
      · subst hk; exact (Array.getElem?_eq_some_iff.1 h2).1
      · subst hk; exact (Array.getElem?_eq_some_iff.1 h3).1
  · rintro m pre x S W ⟨SI, hi, hl, hd, hnl, hnd, rfl⟩ hx
    have lt : L < W.heap.size := (Array.getElem?_eq_some_iff.1 hl).1
    have nSI := hI.there _ _ _ hi
    refine ⟨fn, _, assign, body, run_yield (P := P) (args := va x) hl (hva x), roundIn_of_wpIn hfn ?_⟩
    refine hassign _ _ x W _ ?_
    refine ⟨_, run_beginRound hl rfl, ?_⟩
    obtain ⟨WB, hWB⟩ : ∃ WB, W.putObj L (.loop { rc .ready none with state := .busy }) = WB := ⟨_, rfl⟩
    have szB : WB.heap.size = W.heap.size := by rw [← hWB, put_size]
    have otherB : ∀ k, k ≠ L → WB.heap[k]? = W.heap[k]? := fun k hk => by rw [← hWB]; exact World.putObj_heap_other (by omega)
    have hlB : WB.heap[L]? = some (.loop (rc .busy none)) := by rw [← hWB]; exact World.putObj_heap_same (by omega)
    have osB : WB.os = W.os ∧ WB.tape = W.tape ∧ WB.output = W.output := by rw [← hWB]; exact ⟨rfl, rfl, rfl⟩
    rw [hWB]
    have hiB : I pre SI WB := hI.keep pre SI W WB hi (by omega) (fun k hk => otherB k (fun e => hnl (e ▸ hk)))
    refine wpIn_mono (hbody _ _ pre x SI WB hiB hx) ?_
    rintro e a3 W3 ⟨rfl, S2, hi3, r3⟩
    have s3 := r3.size
    have nL2 : ∀ k, k < W.heap.size → ¬ SI k → ¬ S2 k := fun k hk h h2 => by
      rcases r3.more k h2 with h3 | h3
      · exact h h3
      · omega
    have hl3 : W3.heap[L]? = some (.loop (rc .busy none)) := (r3.same L (by omega) hnl).trans hlB
    have hd3 : W3.heap[D]? = some (.deferred (some [])) := (r3.same D (by omega) hnd).trans ((otherB D (by omega)).trans hd)
    refine ⟨_, _, run_endRound (P := P) none hl3, rfl, fun k => S2 k ∨ k = L ∨ k = D, ⟨S2, hI.keep _ S2 W3 _ hi3 (by rw [put_size]; exact Nat.le_refl _) (fun k hk => World.putObj_heap_other (fun e => nL2 L lt hnl (e ▸ hk))), World.putObj_heap_same (by omega), (World.putObj_heap_other (by omega)).trans hd3, nL2 L lt hnl, nL2 D (by omega) hnd, rfl⟩, ?_⟩
    refine ⟨r3.os.trans osB.1, r3.tape.trans osB.2.1, r3.output.trans osB.2.2, by rw [put_size]; omega, fun k hk hn => ?_, fun k hk => ?_⟩
    · have n1 : k ≠ L := fun e => hn (.inr (.inl e))
      have n2 : ¬ SI k := fun e => hn (.inl e)
      exact (World.putObj_heap_other (by omega)).trans ((r3.same k (by omega) n2).trans (otherB k n1))
    · rcases hk with hk | hk
      · rcases r3.more k hk with h3 | h3
        · exact .inl (.inl h3)
        · exact .inr ⟨by omega, by rw [put_size]; omega⟩
      · exact .inl (.inr hk)
  · rintro e W2 ⟨⟨v, rfl⟩, S2', ⟨SI, hi, hl, hd, hnl, hnd, rfl⟩, r2⟩
    have s2 := r2.size
    refine ⟨none, _, run_endLoop (P := P) hl (by simp [rc]), hdone D SI _ (Nat.le_refl _) (hI.keep _ SI W2 _ hi (by rw [put_size]; exact Nat.le_refl _) (fun k hk => World.putObj_heap_other (fun e => hnl (e ▸ hk)))) ?_ hnd ((World.putObj_heap_other (by omega)).trans hd)⟩
    refine ⟨r2.os.trans bw.os, r2.tape.trans bw.tape, r2.output.trans bw.output, by rw [put_size]; omega, fun k hk hn => ?_, fun k hk => ?_⟩
    · exact (World.putObj_heap_other (by omega)).trans ((r2.same k (by omega) (fun h => by rcases h with h | h | h; exact hn h; omega; omega)).trans (bw.block k hk))
    · rcases r2.more k (.inl hk) with h | h
      · rcases h with h | h | h
        · exact .inl h
        · exact absurd (h ▸ hk) hnl
        · exact absurd (h ▸ hk) hnd
      · exact .inr ⟨by omega, by rw [put_size]; omega⟩
end Go.Proofs.YtcefgnjgcnboeaaGreatDoor

namespace Go.Proofs.YtcefgnjgcnboeaaGreatDoor
open Go Go.RowKit Go.Shelf
attribute [local go_sem] Oper.semAt_some

theorem backwardS_p (o : Option Addr) (k cap : Nat) (w : World) : Calls Tryz.prog 74 #[.slice o k cap] w fun e w' => e = .returned (.func (.func 98) #[] #[.pointer (some ⟨w.heap.size, 0, none⟩)]) ∧ w' = w.alloc (.cells #[.slice o k cap] 38) := by
  go_enter Tryz.func74, Tryz.ntmps74
  go_wp2
  go_ret
  exact ⟨rfl, rfl⟩
/-- The places from j on, the last one first. -/
def backs (k j : Nat) : List Nat := ((List.range k).drop j).reverse
theorem backs_end (k : Nat) : backs k k = [] := by simp [backs]
theorem backs_all (k : Nat) : backs k 0 = (List.range k).reverse := by simp [backs]
theorem backs_step (k j : Nat) (h : j < k) : backs k j = backs k (j + 1) ++ [j] := by
  unfold backs
  rw [List.drop_eq_getElem_cons (by simpa using h)]
  simp
theorem backs_prefix (k j : Nat) (h : j < k) : backs k (j + 1) ++ [j] <+: (List.range k).reverse := by
  rw [← backs_step k j h, ← backs_all]
  refine ⟨((List.range k).take j).reverse, ?_⟩
  rw [backs_all]; unfold backs
  rw [← List.reverse_append, List.take_append_drop]
/-- The box holds the row, the row its texts. -/
def RowI (B g k cap : Nat) (o : Option Addr) (R : Nat → ByteArray) (W : World) : Prop := W.cell? ⟨B, 0, none⟩ = some (.slice o k cap) ∧ ∀ i, i < k → o = some ⟨g, 0, none⟩ ∧ W.cell? ⟨g, i, none⟩ = some (.string (R i))
set_option maxRecDepth 100000 in
set_option maxHeartbeats 4000000 in
theorem backS_gives (g cap k B : Nat) (o : Option Addr) (R : Nat → ByteArray) (w : World) (hk : k ≤ 4611686018427387904) :
    GivesQ Tryz.prog 98 #[.pointer (some ⟨B, 0, none⟩)] (fun i : Nat => #[.int .i64 (i : Nat), .string (R i)]) (List.range k).reverse (RowI B g k cap o R) w := by
  intro n l J S W hW hJ hI hY h0
  obtain ⟨hBW, _⟩ := hI _ _ _ h0
  refine callsIn_of_wp Tryz.func98 rfl trivial ?_ rfl
  simp only [Tryz.ntmps98, List.size_toArray, List.length_cons, List.length_nil, Nat.reduceAdd, Nat.reduceSub, Array.replicate_succ, Array.replicate_zero, List.push_toArray, List.append_toArray, List.nil_append, List.cons_append]
  gi_wp2
  gi_loopw [3] (fun i wr => ∃ j : Nat, i = .int .i64 ((j : Int) - 1) ∧ j ≤ k ∧ ∃ S2, J (backs k j) S2 wr ∧ Rnd S S2 W wr) (fun i _ => (intOf i + 1).toNat)
  case atStart => exact ⟨k, by go_num, Nat.le_refl _, S, by rw [backs_end]; exact h0, Rnd.refl _ _⟩
  case round =>
    obtain ⟨j, rfl, hjk, S2, hj, hr⟩ := hrel
    cases j with
    | zero =>
      gi_wp2
      go_end0
      exact ⟨⟨_, rfl⟩, S2, by rw [← backs_all]; exact hj, hr⟩
    | succ j =>
      have hj1 : ((j + 1 : Nat) : Int) - 1 = j := by omega
      rw [hj1]
      obtain ⟨cB, hrow⟩ := hI _ _ _ hj
      obtain ⟨rfl, c1⟩ := hrow j (by omega)
      obtain ⟨fn, tmps, assign, body, hy, hR⟩ := hY (n - 1) (backs k (j + 1)) j S2 wr hj (backs_prefix k j (by omega))
      clear hj1 hBW hY hrow
      gi_wp2
      refine ⟨wd _, hR.mono ?_⟩
      rintro e W3 ⟨rfl, S3, hJ3, hR3⟩
      gi_wp2
      go_roundw
      case rel => exact ⟨j, by go_num, by omega, S3, by rw [backs_step k j (by omega)]; exact hJ3, hr.trans hR3⟩
      case measure => simp [intOf]
variable {wb : Nat} {ab pas : Value} {m : Mn} {tb tbase : Nat} {F : Pic} {st : St} {lv mv lv' mv' : Value}
theorem eg_back : ∀ args w, (callFunc 98 args).run Tryz.prog w = .ok (.enter 98 args) w := enters_of Tryz.func98 (by kernel_rfl) rfl
set_option maxRecDepth 100000 in
set_option maxHeartbeats 4000000 in
theorem undo_nil (w : World) (h : Wk w wb ab pas m tb tbase F st lv mv) (hm : st.made = []) :
    Calls Tryz.prog 50 #[.pointer (some ⟨wb, 0, none⟩)] w fun e w' => e = .returned (.tuple #[]) ∧ Below w.heap.size w w' := by
  obtain ⟨_, _, _, _, _, _, _, _, c8⟩ := h.walk.cs
  obtain ⟨a, cp, rfl⟩ := row_form h.walk.made
  rw [hm] at c8
  have hwl := (h.walk.lt wb (.inl rfl)).2
  have hb1 : Below w.heap.size w (w.alloc (.cells #[.pointer (some ⟨wb, 0, none⟩)] 73)) := (Below.refl _ _).alloc (Nat.le_refl _) _
  have c8' : (w.alloc (.cells #[.pointer (some ⟨wb, 0, none⟩)] 73)).cell? ⟨wb, 8, none⟩ = some (.slice a 0 cp) := (hb1.cell (p := ⟨wb, 8, none⟩) hwl).trans c8
  obtain ⟨n, hn⟩ : ∃ n : Nat, n = 3 := ⟨3, rfl⟩
  clear hn c8
  refine (callsIn_wide (n := n)).1 ?_
  refine callsIn_of_wp_marks Tryz.func50 rfl trivial ?_ rfl
  simp only [Tryz.ntmps50, List.size_toArray, List.length_cons, List.length_nil, Nat.reduceAdd, Nat.reduceSub, Array.replicate_succ, Array.replicate_zero, List.push_toArray, List.append_toArray, List.nil_append, List.cons_append]
  gi_wp2_with (refine ⟨trivial, wd _, ?_⟩; gi_at_call 74; refine (callsIn_wide.2 (backwardS_p _ _ _ _)).mono ?_; rintro e w' ⟨rfl, rfl⟩)
  obtain ⟨W0, hW0⟩ : ∃ W0, ((w.alloc (.cells #[.pointer (some ⟨wb, 0, none⟩)] 73)).alloc (.cells #[.slice a 0 cp] 38)) = W0 := ⟨_, rfl⟩
  have hB0 : Below w.heap.size w W0 := by rw [← hW0]; exact hb1.alloc (by simp) _
  have hsz : W0.heap.size = w.heap.size + 2 := by rw [← hW0]; simp
  have hbx : Boxed W0 (w.heap.size + 1) 38 (.slice a 0 cp) := by
    have h := Boxed.new (w.alloc (.cells #[.pointer (some ⟨wb, 0, none⟩)] 73)) 38 (.slice a 0 cp); rw [World.size_alloc] at h; rw [← hW0]; exact h
  rw [hW0]
  clear hW0 c8' hb1
  refine range_lawQ (xs := (List.range 0).reverse) (Iv := RowI (w.heap.size + 1) 0 0 cp a (fun _ => ⟨#[]⟩)) (va := fun i : Nat => #[.int .i64 (i : Nat), .string ⟨#[]⟩]) rfl eg_back (fun _ => rfl) (backS_gives 0 cp 0 (w.heap.size + 1) a (fun _ => ⟨#[]⟩) W0 (by omega)) (Below.refl _ _)
    (fun _ S W => Boxed W (w.heap.size + 1) 38 (.slice a 0 cp) ∧ S = fun k => k = w.heap.size + 1) (fun k => k = w.heap.size + 1) ⟨?_, ?_⟩ (fun _ S W h => ⟨h.1.cell, fun i hi => by omega⟩) ⟨hbx, rfl⟩
    (fun x => { tmps := #[.pointer (some ⟨wb, 0, none⟩), .pointer (some ⟨w.heap.size, 0, none⟩), undef, .string ⟨#[]⟩, .pointer (some ⟨wb, 0, none⟩), .pointer (some ⟨wb, 0, none⟩), .pointer (some ⟨wb, 8, none⟩), .slice a 0 cp, .func (.func 98) #[] #[.pointer (some ⟨w.heap.size + 1, 0, none⟩)], .int .i64 (x : Nat), .string ⟨#[]⟩, undef, undef, undef, undef, undef, undef], defers := [] }) ?assign ?body ?done
  · rintro pre S A B ⟨h1, rfl⟩ _ hk
    exact ⟨(hk _ rfl).trans h1, rfl⟩
  · rintro pre S A ⟨h1, rfl⟩ k rfl
    exact h1.lt
  case body =>
    intro m l pre x S W _ hx
    have := hx.length_le
    simp at this
  case assign =>
    intro m l x W K hK
    gi_wp2
    exact hK
  case done =>
    rintro D S W hD ⟨h1, rfl⟩ hr hSD hK
    have hb : Below w.heap.size w W := hB0.trans (hr.below (by omega) (fun k hk => by omega))
    gi_wp2
    refine ⟨by simp, .inl ⟨_, _, rfl, run_takeDeferred hK, ?_⟩⟩
    exact ⟨_, results_none rfl _ _ _, rfl, hb.trans (putLoop_below _ hK (by omega))⟩
end Go.Proofs.YtcefgnjgcnboeaaGreatDoor

namespace Go.Proofs.YtcefgnjgcnboeaaGreatDoor
open Go Go.RowKit

theorem wrong_link {e : Ent} (h : wrongN e = 0) (hk : e.kind = 3) : e.link.size ≤ 100 ∧ e.link.size ≠ 0 := by
  unfold wrongN at h
  split at h
  · omega
  · split at h
    · omega
    · split at h
      · omega
      · split at h
        · omega
        · rename_i h4
          have ht : targB e.link = true := by
            cases hh : targB e.link with
            | true => rfl
            | false => exact absurd ⟨hk, hh⟩ h4
          unfold targB at ht
          rw [Bool.and_eq_true, Bool.and_eq_true] at ht
          refine ⟨by simpa using ht.1.2, fun h0 => ?_⟩
          have := (isEmpty_iff e.link).2 h0
          rw [this] at ht
          simp at ht
theorem wrong_path {e : Ent} (h : wrongN e = 0) : e.path.size ≤ 255 := (check_facts (wrong_check h)).2.1
structure Good (B : Nat) (st : St) : Prop where
  big : 100 ≤ B
  hs : st.here.size ≤ 255
  ps : ∀ c ∈ st.left, c.size ≤ B
  ln : st.left.length ≤ B + 1 + 101 * st.hops
  hh : st.hops ≤ 40
def Right (L : List Ent) : Prop := ∀ e ∈ L, wrongN e = 0
theorem lay_right {L : List Ent} {e : Ent} (h : Right L) (hw : wrongN e = 0) : Right (laidL L e) := fun x hx => by
  rcases laid_mem.1 hx with rfl | ⟨h1, _⟩
  · exact hw
  · exact h x h1
theorem putAll_wrong {L : List Ent} {e : Ent} (h : putAll L e = 0) : wrongN e = 0 := by
  unfold putAll at h
  split at h
  · exact h
  · rename_i hh; simpa using hh
theorem abs_good {B : Nat} {m : Mn} {st : St} {c : ByteArray} {rest : List ByteArray} {p : ByteArray} (h : Good B st) (hl : st.left = c :: rest) (hr : Right st.L) (h0 : (absN m st p rest).1 = 0) : Good B (absN m st p rest).2 ∧ Right (absN m st p rest).2.L := by
  have hps : ∀ x ∈ rest, x.size ≤ B := fun x hx => h.ps x (by rw [hl]; simp [hx])
  have hln := h.ln
  rw [hl] at hln
  simp at hln
  unfold absN at h0 ⊢
  split at h0
  · simp at h0
  · have hw := putAll_wrong (show putAll st.L (dirE p) = 0 from h0)
    exact ⟨⟨h.big, wrong_path hw, hps, by show rest.length ≤ B + 1 + 101 * st.hops; omega, h.hh⟩, lay_right hr hw⟩
  · split at h0
    · rename_i hrr
      rw [if_pos hrr]
      exact ⟨⟨h.big, (check_facts (show checkN p = 0 from h0)).2.1, hps, by show rest.length ≤ B + 1 + 101 * st.hops; omega, h.hh⟩, hr⟩
    · rename_i hrr
      rw [if_neg hrr]
      have hw := putAll_wrong (show putAll st.L (dirE p) = 0 from h0)
      exact ⟨⟨h.big, wrong_path hw, hps, by show rest.length ≤ B + 1 + 101 * st.hops; omega, h.hh⟩, lay_right hr hw⟩
theorem step_good {B : Nat} {m : Mn} {st : St} {c : ByteArray} {rest : List ByteArray} (h : Good B st) (hl : st.left = c :: rest) (hr : Right st.L) (h0 : (stepN m st c rest).1 = 0) : Good B (stepN m st c rest).2 ∧ Right (stepN m st c rest).2.L := by
  have hps : ∀ x ∈ rest, x.size ≤ B := fun x hx => h.ps x (by rw [hl]; simp [hx])
  have hln := h.ln
  have hb := h.big
  have hh := h.hh
  rw [hl] at hln
  simp at hln
  unfold stepN at h0 ⊢
  by_cases h1 : c = dotB
  · rw [if_pos h1]; exact ⟨⟨h.big, h.hs, hps, by show rest.length ≤ B + 1 + 101 * st.hops; omega, h.hh⟩, hr⟩
  · rw [if_neg h1] at h0 ⊢
    by_cases h2 : c = ddB
    · rw [if_pos h2]; exact ⟨⟨h.big, Nat.le_trans (parentB_size _) h.hs, hps, by show rest.length ≤ B + 1 + 101 * st.hops; omega, h.hh⟩, hr⟩
    · rw [if_neg h2] at h0 ⊢
      cases hg : getE st.L (joinB st.here c) with
      | none =>
        rw [hg] at h0
        exact abs_good h hl hr h0
      | some e =>
        rw [hg] at h0
        simp only at h0 ⊢
        obtain ⟨he, hep, _⟩ := get_mem hg
        unfold thereN at h0 ⊢
        by_cases h3 : isFile m e rest = true
        · rw [if_pos h3] at h0; simp at h0
        · rw [if_neg h3] at h0 ⊢
          by_cases h4 : isLink m e rest = true
          · rw [if_pos h4] at h0 ⊢
            unfold linkS at h0 ⊢
            by_cases h5 : st.hops = 40
            · rw [if_pos h5] at h0; simp at h0
            · rw [if_neg h5]
              obtain ⟨w1, _⟩ := wrong_link (hr e he) (link_kind h4)
              have hn := names_len e.link
              refine ⟨⟨h.big, ?_, fun x hx => ?_, ?_, ?_⟩, hr⟩
              · show (if slashed e.link then _ else _ : ByteArray).size ≤ 255
                split
                · exact Nat.zero_le _
                · exact h.hs
              · rcases List.mem_append.1 hx with hx | hx
                · have := names_sz e.link x hx; omega
                · exact hps x hx
              · show (namesB e.link ++ rest).length ≤ B + 1 + 101 * (st.hops + 1)
                rw [List.length_append]; omega
              · show st.hops + 1 ≤ 40; omega
          · rw [if_neg h4]
            exact ⟨⟨h.big, by rw [← hep]; exact wrong_path (hr e he), hps, by show rest.length ≤ B + 1 + 101 * st.hops; omega, h.hh⟩, hr⟩
theorem right_short {L : List Ent} (h : Right L) : ShortL L := fun e he hk => (wrong_link (h e he) hk).1
theorem step_keeps {m : Mn} {st : St} {c : ByteArray} {rest : List ByteArray} (hm : m.ab = 0) (h0 : (stepN m st c rest).1 = 0) : (stepN m st c rest).2.L = st.L ∧ (stepN m st c rest).2.made = st.made := by
  unfold stepN at h0 ⊢
  split
  · exact ⟨rfl, rfl⟩
  · rename_i h1
    rw [if_neg h1] at h0
    split
    · exact ⟨rfl, rfl⟩
    · rename_i h2
      rw [if_neg h2] at h0
      split
      · rename_i hg
        rw [hg] at h0
        simp only [absN, hm] at h0
        omega
      · unfold thereN
        split
        · exact ⟨rfl, rfl⟩
        · split
          · unfold linkS
            split <;> exact ⟨rfl, rfl⟩
          · exact ⟨rfl, rfl⟩
/-- One step of the whole walk. -/
theorem goF_nil {m : Mn} {f : Nat} {st : St} (h : st.left = []) : goF m f st = (0, st, []) := by
  cases f with
  | zero => rfl
  | succ f => unfold goF; rw [h]
theorem goF_err {m : Mn} {f : Nat} {st : St} {c : ByteArray} {rest : List ByteArray} (h : st.left = c :: rest) (h0 : (stepN m st c rest).1 ≠ 0) : goF m (f + 1) st = ((stepN m st c rest).1, st, []) := by
  unfold goF; rw [h]; simp only; rw [if_neg h0]
theorem goF_ok {m : Mn} {f : Nat} {st : St} {c : ByteArray} {rest : List ByteArray} (h : st.left = c :: rest) (h0 : (stepN m st c rest).1 = 0) :
    goF m (f + 1) st = ((goF m f (stepN m st c rest).2).1, (goF m f (stepN m st c rest).2).2.1, (stepN m st c rest).2.here :: (goF m f (stepN m st c rest).2).2.2) := by
  conv => lhs; unfold goF
  rw [h]; simp only; rw [if_pos h0]
/-- More breath changes nothing. -/
theorem goF_more {m : Mn} {B : Nat} : ∀ (f g : Nat) (st : St), Good B st → Right st.L → msr st < f → msr st < g → goF m f st = goF m g st
  | 0, _, _, _, _, h, _ => by omega
  | _ + 1, 0, _, _, _, _, h => by omega
  | f + 1, g + 1, st, hg, hr, h1, h2 => by
    cases hl : st.left with
    | nil => rw [goF_nil hl, goF_nil hl]
    | cons c rest =>
      by_cases h0 : (stepN m st c rest).1 = 0
      · rw [goF_ok hl h0, goF_ok hl h0]
        obtain ⟨q1, q2⟩ := step_good hg hl hr h0
        have := (step_msr m st c rest hl (right_short hr) hg.hh h0).1
        rw [goF_more f g _ q1 q2 (by omega) (by omega)]
      · rw [goF_err hl h0, goF_err hl h0]
/-- The whole walk from the root. -/
def start (L : List Ent) (way : ByteArray) : St := { L := L, here := ⟨#[]⟩, left := namesB way, hops := 0, made := [] }
def goN (m : Mn) (st : St) : Int × St × List ByteArray := goF m (msr st + 1) st
theorem start_good (L : List Ent) (way : ByteArray) : Good (max way.size 100) (start L way) :=
  ⟨Nat.le_max_right _ _, Nat.zero_le _, fun c hc => Nat.le_trans (names_sz way c hc) (Nat.le_max_left _ _), by
    have := names_len way
    have := Nat.le_max_left way.size 100
    show (namesB way).length ≤ _
    simp [start]; omega, Nat.zero_le _⟩
end Go.Proofs.YtcefgnjgcnboeaaGreatDoor

namespace Go.Proofs.YtcefgnjgcnboeaaGreatDoor
open Go Go.RowKit
theorem eqIn_nil {P : Program} (w : World) (d : Nat) (t : TypeId) (ps rs : Array TypeId) (v : Bool) (h : P.underlying t = some (.func ps rs v)) : (Op.equalIn (d + 1) t .nilFunc .nilFunc).run P w = .ok true w := by
  simp [Op.equalIn, run_underlying h]
theorem eqIn_fn {P : Program} (w : World) (d : Nat) (t : TypeId) (ps rs : Array TypeId) (v : Bool) (h : P.underlying t = some (.func ps rs v)) (f : Nat) (l : Array Value) : (Op.equalIn (d + 1) t (.func (.func f) #[] l) .nilFunc).run P w = .ok false w := by
  simp [Op.equalIn, run_underlying h]
theorem eq_nil {P : Program} (w : World) (t : TypeId) (ps rs : Array TypeId) (v : Bool) (h : P.underlying t = some (.func ps rs v)) : (Op.equal t .nilFunc .nilFunc).run P w = .ok true w := eqIn_nil w 9999 t ps rs v h
theorem eq_fn {P : Program} (w : World) (t : TypeId) (ps rs : Array TypeId) (v : Bool) (h : P.underlying t = some (.func ps rs v)) (f : Nat) (l : Array Value) : (Op.equal t (.func (.func f) #[] l) .nilFunc).run P w = .ok false w := eqIn_fn w 9999 t ps rs v h f l
theorem nf_eq (W : World) : (Go.binOp .neq 69 .nilFunc .nilFunc).run Tryz.prog W = .ok (.bool false) W := by
  simp only [Go.binOp]
  simp [eq_nil W _ _ _ _ Tryz.underlying69]
theorem nf_ne (W : World) (f : Nat) (l : Array Value) : (Go.binOp .neq 69 (.func (.func f) #[] l) .nilFunc).run Tryz.prog W = .ok (.bool true) W := by
  simp only [Go.binOp]
  simp [eq_fn W _ _ _ _ Tryz.underlying69]
end Go.Proofs.YtcefgnjgcnboeaaGreatDoor

namespace Go.Proofs.YtcefgnjgcnboeaaGreatDoor
open Go Go.RowKit Go.Shelf

variable {wb : Nat} {ab pas : Value} {m : Mn} {tb tbase : Nat} {F : Pic} {st : St} {lv mv lv' mv' : Value}
abbrev refV : Value := .func (.func 30) #[] #[]
/-- What a step owes. -/
def StepPost (w : World) (wb : Nat) (ab pas : Value) (m : Mn) (tb tbase : Nat) (F : Pic) (st : St) (lv mv : Value) (c : ByteArray) (rest : List ByteArray) (e : Ending) (w' : World) : Prop :=
  e = .returned (errE (stepN m st c rest).1) ∧
  ((stepN m st c rest).1 = 0 → ∃ lv' mv' F', (m.ab = 0 → F' = F) ∧ Wk w' wb ab pas m tb tbase F' (stepN m st c rest).2 lv' mv' ∧ Rnd (mayS m wb tb F lv mv) (mayS m wb tb F' lv' mv') w w') ∧
  ((stepN m st c rest).1 ≠ 0 → Below w.heap.size w w')
theorem post_ok {w w' : World} {c : ByteArray} {rest : List ByteArray} {st' : St} (hst : stepN m st c rest = (0, st')) {lv' mv' : Value} {F' : Pic} (hF : m.ab = 0 → F' = F) (h : Wk w' wb ab pas m tb tbase F' st' lv' mv') (hr : Rnd (mayS m wb tb F lv mv) (mayS m wb tb F' lv' mv') w w') : StepPost w wb ab pas m tb tbase F st lv mv c rest (.returned .nilIface) w' :=
  ⟨by rw [hst]; rfl, fun _ => ⟨lv', mv', F', hF, by rw [hst]; exact h, hr⟩, fun h0 => absurd (by rw [hst]) h0⟩
theorem post_err {w w' : World} {c : ByteArray} {rest : List ByteArray} {st' : St} {n : Int} (hn : n ≠ 0) (hst : stepN m st c rest = (n, st')) (h : Below w.heap.size w w') : StepPost w wb ab pas m tb tbase F st lv mv c rest (.returned (errE n)) w' :=
  ⟨by rw [hst], fun h0 => absurd (by rw [hst] at h0; exact h0) hn, fun _ => h⟩
/-- step: st is the walk ahead of next; next has taken c off. -/
theorem step_ref (c : ByteArray) (rest : List ByteArray) (w : World) (hl : st.left = c :: rest) (h : Wk w wb refV pas m tb tbase F { st with left := rest } lv mv) (hm : m.ab = 0) {B : Nat} (hg : Good B st) (hB : B ≤ 1099511627776) :
    Calls Tryz.prog 48 #[.pointer (some ⟨wb, 0, none⟩), .string c] w (StepPost w wb refV pas m tb tbase F st lv mv c rest) := by
  have hcs : c.size ≤ B := hg.ps c (by rw [hl]; simp)
  have hln := hg.ln
  rw [hl] at hln
  simp at hln
  have hh := hg.hh
  have hR : Right st.L := h.tree.right
  by_cases h1 : c = dotB
  · subst h1
    refine (step_dot w).mono ?_
    rintro e w' ⟨rfl, rfl⟩
    exact post_ok (st' := { st with left := rest }) (by unfold stepN; rw [if_pos rfl]) (fun _ => rfl) h (Rnd.refl _ _)
  · by_cases h2 : c = ddB
    · subst h2
      refine (step_dd w h hg.hs).mono ?_
      rintro e w' ⟨rfl, h3, h4⟩
      exact post_ok (by unfold stepN; rw [if_neg h1, if_pos rfl]) (fun _ => rfl) h3 h4
    · have hF : Far { st with left := rest } c := ⟨h1, h2, hg.hs, by omega⟩
      have hst : stepN m st c rest = match getE st.L (joinB st.here c) with | none => absN m st (joinB st.here c) rest | some e => thereN m st (joinB st.here c) rest e := by unfold stepN; rw [if_neg h1, if_neg h2]; rfl
      cases hge : getE st.L (joinB st.here c) with
      | none =>
        rw [hge] at hst
        refine (step_refuse c w h hF hge).mono ?_
        rintro e w' ⟨rfl, h3⟩
        exact post_err (st' := st) (by decide) (by rw [hst]; simp only [absN, hm]) h3
      | some e =>
        rw [hge] at hst
        simp only [thereN] at hst
        cases h3 : isFile m e rest with
        | true =>
          rw [if_pos h3] at hst
          refine (step_file c e w h hF hge h3).mono ?_
          rintro e w' ⟨rfl, h4⟩
          exact post_err (by decide) hst h4
        | false =>
          rw [if_neg (by rw [h3]; simp)] at hst
          cases h4 : isLink m e rest with
          | true =>
            rw [if_pos h4] at hst
            unfold linkS at hst
            by_cases h5 : st.hops = 40
            · rw [if_pos h5] at hst
              refine (step_12 c e w h hF hge h4 h5).mono ?_
              rintro e w' ⟨rfl, h6⟩
              exact post_err (by decide) hst h6
            · rw [if_neg h5] at hst
              obtain ⟨he, _, _⟩ := get_mem hge
              refine (step_link c e w h hF hge h4 (wrong_link (hR e he) (link_kind h4)).1 (by show rest.length ≤ _; omega) hh h5).mono ?_
              rintro e w' ⟨rfl, lv3, h6, h7⟩
              exact post_ok hst (fun _ => rfl) h6 h7
          | false =>
            rw [if_neg (by rw [h4]; simp)] at hst
            refine (step_at c e w h hF hge h3 h4).mono ?_
            rintro e w' ⟨rfl, h6, h7⟩
            exact post_ok hst (fun _ => rfl) h6 h7
/-- How much of the walk is left, out of its block. -/
def msrW (wb : Nat) (W : World) : Nat := match W.cell? ⟨wb, 6, none⟩, W.cell? ⟨wb, 7, none⟩ with
  | some (.slice _ n _), some (.int _ h) => n + 200 * (40 - h.toNat)
  | _, _ => 0
theorem msrW_eq {W : World} (h : Wk W wb ab pas m tb tbase F st lv mv) : msrW wb W = msr st := by
  obtain ⟨_, _, _, _, _, _, c6, c7, _⟩ := h.walk.cs
  obtain ⟨a, c, rfl⟩ := row_form h.walk.left
  unfold msrW msr
  rw [c6, c7]
  simp
theorem walk_new (w : World) (ab pas : Value) (m : Mn) (tb : Nat) : WalkAt (w.alloc (.cells (wcells ab pas m tb ⟨#[]⟩ (.slice none 0 0) 0 (.slice none 0 0)) 100)) w.heap.size ab pas m tb ⟨#[]⟩ [] 0 [] (.slice none 0 0) (.slice none 0 0) :=
  ⟨World.alloc_heap_new _ _, World.ownsRow_nil _ _ _ _, World.ownsRow_nil _ _ _ _, fun k h => by simp [Value.ownBlock] at h⟩
/-- Where a walk's way ends. -/
def ansB (r : Int × St × List ByteArray) : ByteArray := if r.1 = 0 then r.2.1.here else ⟨#[]⟩
set_option maxRecDepth 100000 in
set_option maxHeartbeats 8000000 in
theorem lead_ref (stay : Bool) (way : ByteArray) (L : List Ent) (w : World) (h : TreeOf w tb tbase F L) (hw : way.size ≤ 1099511627776) :
    Calls Tryz.prog 29 #[.pointer (some ⟨tb, 0, none⟩), .string way, .agg #[refV, .bool false, .bool stay, .nilFunc]] w fun e w' =>
      e = .returned (.tuple #[.string (ansB (goN ⟨0, false, stay⟩ (start L way))), errE (goN ⟨0, false, stay⟩ (start L way)).1]) ∧ Below w.heap.size w w' := by
  have hnl := names_len way
  have hbA : Below w.heap.size w ((w.alloc (.cells #[refV, .bool false, .bool stay, .nilFunc] 75)).alloc (.cells (wcells refV .nilFunc ⟨0, false, stay⟩ tb ⟨#[]⟩ (.slice none 0 0) 0 (.slice none 0 0)) 100)) := ((Below.refl _ _).alloc (Nat.le_refl _) _).alloc (by simp) _
  have hW0 := walk_new (w.alloc (.cells #[refV, .bool false, .bool stay, .nilFunc] 75)) refV .nilFunc ⟨0, false, stay⟩ tb
  rw [World.size_alloc] at hW0
  have hK0 : Wk ((w.alloc (.cells #[refV, .bool false, .bool stay, .nilFunc] 75)).alloc (.cells (wcells refV .nilFunc ⟨0, false, stay⟩ tb ⟨#[]⟩ (.slice none 0 0) 0 (.slice none 0 0)) 100)) (w.heap.size + 1) refV .nilFunc ⟨0, false, stay⟩ tb tbase F { L := L, here := ⟨#[]⟩, left := [], hops := 0, made := [] } (.slice none 0 0) (.slice none 0 0) :=
    ⟨hW0, h.below hbA, fun k hk => by
      rcases hk with rfl | hk | hk
      · exact h.not_mine (by omega)
      · simp [Value.ownBlock] at hk
      · simp [Value.ownBlock] at hk⟩
  have hA := ahead_p way _ hW0 (by omega) (by simp; omega)
  rw [List.append_nil] at hA
  have HK0 : Hid _ := hK0
  have HBA : Hid (Below w.heap.size w ((w.alloc (.cells #[refV, .bool false, .bool stay, .nilFunc] 75)).alloc (.cells (wcells refV .nilFunc ⟨0, false, stay⟩ tb ⟨#[]⟩ (.slice none 0 0) 0 (.slice none 0 0)) 100))) := hbA
  have hsA : ((w.alloc (.cells #[refV, .bool false, .bool stay, .nilFunc] 75)).alloc (.cells (wcells refV .nilFunc ⟨0, false, stay⟩ tb ⟨#[]⟩ (.slice none 0 0) 0 (.slice none 0 0)) 100)).heap.size = w.heap.size + 2 := by simp
  clear hK0 hbA hW0
  go_enter Tryz.func29, Tryz.ntmps29
  go_wp2_with fail
  refine hA.mono ?_
  rintro e w1 ⟨rfl, lv1, hw1, hr1⟩
  obtain ⟨hK1, hR1⟩ := HK0.out.walked hw1 hr1
  have HB1 : Hid (Below w.heap.size w w1) := HBA.out.trans (hr1.below (by omega) (fun k hk => by
    rcases hk with rfl | hk | hk
    · omega
    · simp [Value.ownBlock] at hk
    · simp [Value.ownBlock] at hk))
  have HK1 : Hid (Wk w1 (w.heap.size + 1) refV .nilFunc ⟨0, false, stay⟩ tb tbase F (start L way) lv1 (.slice none 0 0)) := hK1
  have hB : max way.size 100 ≤ 1099511627776 := by omega
  have HG : Hid (Good (max way.size 100) (start L way)) := start_good L way
  generalize max way.size 100 = B at *
  clear hA hK1 hw1 hr1 hR1 HK0 HBA hsA h
  obtain ⟨wb, hwb⟩ : ∃ wb, wb = w.heap.size + 1 := ⟨_, rfl⟩
  rw [← hwb] at HK1 ⊢
  replace hwb : w.heap.size ≤ wb := by omega
  go_wp2
  go_loopw [] (fun wr => ∃ st lv mv F f, Wk wr wb refV .nilFunc ⟨0, false, stay⟩ tb tbase F st lv mv ∧ Good B st ∧ st.made = [] ∧ msr st < f ∧ (goN ⟨0, false, stay⟩ (start L way)).1 = (goF ⟨0, false, stay⟩ f st).1 ∧ (goN ⟨0, false, stay⟩ (start L way)).2.1 = (goF ⟨0, false, stay⟩ f st).2.1 ∧ Below w.heap.size w wr) (fun wr => msrW wb wr)
  case atStart => exact ⟨start L way, lv1, _, F, _, HK1.out, HG.out, rfl, Nat.lt_succ_self _, rfl, rfl, HB1.out⟩
  case round =>
    obtain ⟨st, lv, mv, F, f, hW, hG, hmd, hf, hr1, hr2, hbl⟩ := hrel
    have HW : Hid (Wk wr wb refV .nilFunc ⟨0, false, stay⟩ tb tbase F st lv mv) := hW
    have HBL : Hid (Below w.heap.size w wr) := hbl
    have HGo : Hid (Good B st) := hG
    cases hl : st.left with
    | nil =>
      have HR1 : Hid ((goN ⟨0, false, stay⟩ (start L way)).1 = 0 ∧ ansB (goN ⟨0, false, stay⟩ (start L way)) = st.here) := by
        rw [goF_nil hl] at hr1 hr2
        refine ⟨hr1, ?_⟩
        unfold ansB
        rw [if_pos hr1, hr2]
      obtain ⟨_, _, _, _, _, c5, _, _, _⟩ := hW.walk.cs
      have hE := ends_p wr hW.walk
      rw [hl] at hE
      clear hW hG hbl hr1 hr2 HK1 HB1 HG hl
      go_wp2_with (go_at_call 47; refine hE.mono ?_; rintro e w2 ⟨rfl, hw2⟩; replace hw2 := hw2.symm; subst hw2)
      go_ret2
      exact ⟨by rw [HR1.out.1, HR1.out.2]; rfl, HBL.out⟩
    | cons c rest =>
      have hE := ends_p wr hW.walk
      rw [hl] at hE
      have hwk := hW.walk
      rw [hl] at hwk
      have hln := hG.ln
      have hhh := hG.hh
      rw [hl, List.length_cons] at hln
      have hN := next_p c rest wr hwk (by omega)
      have HL : Hid (st.left = c :: rest) := hl
      by_cases h0 : (stepN ⟨0, false, stay⟩ st c rest).1 = 0
      · have H0 : Hid ((stepN ⟨0, false, stay⟩ st c rest).1 = 0) := h0
        have HE0 : Hid (errE (stepN ⟨0, false, stay⟩ st c rest).1 = .nilIface) := by unfold Hid; rw [h0]; rfl
        have HGn : Hid (Good B (stepN ⟨0, false, stay⟩ st c rest).2 ∧ (stepN ⟨0, false, stay⟩ st c rest).2.made = []) := ⟨(step_good hG hl hW.tree.right h0).1, (step_keeps rfl h0).2.trans hmd⟩
        have HMS : Hid (msr (stepN ⟨0, false, stay⟩ st c rest).2 < msr st) := (step_msr _ st c rest hl (right_short hW.tree.right) hG.hh h0).1
        obtain ⟨f, rfl⟩ : ∃ g, f = g + 1 := ⟨f - 1, by omega⟩
        rw [goF_ok hl h0] at hr1 hr2
        have HR1 : Hid ((goN ⟨0, false, stay⟩ (start L way)).1 = (goF ⟨0, false, stay⟩ f (stepN ⟨0, false, stay⟩ st c rest).2).1 ∧ (goN ⟨0, false, stay⟩ (start L way)).2.1 = (goF ⟨0, false, stay⟩ f (stepN ⟨0, false, stay⟩ st c rest).2).2.1) := ⟨hr1, hr2⟩
        have HMW : Hid (msrW wb wr = msr st) := msrW_eq hW
        clear hW hG hbl hr1 hr2 HK1 HB1 HG hl hwk h0 hmd
        have hnf := nf_eq
        go_wp2_with (first
          | (go_at_call 47; refine hE.mono ?_; rintro e w2 ⟨rfl, hw2⟩; replace hw2 := hw2.symm; subst hw2)
          | (go_at_call 49; refine hN.mono ?_; rintro e w3 ⟨rfl, lv3, hk3, hr3⟩; have hW3 := HW.out.walked hk3 hr3)
          | (go_at_call 48; refine (step_ref c rest _ HL.out hW3.1 rfl HGo.out hB).mono ?_; rintro e w4 ⟨rfl, h4, _⟩; rw [HE0.out]; obtain ⟨lv4, mv4, F4, _, hW4, hr4⟩ := h4 H0.out; obtain ⟨_, _, _, d3, _, _, _, _, _⟩ := hW4.walk.cs))
        have hwl := (HW.out.walk.lt wb (.inl rfl)).2
        have hb3 : Below wb wr w4 := (hW3.2.trans hr4).below (n := wb) (by omega) (fun k hk => by
          rcases hk with hk | hk
          · exact (HW.out.walk.lt k hk).1
          · exact absurd rfl hk.1)
        go_roundw
        case rel => exact ⟨_, lv4, mv4, F4, f, hW4, HGn.out.1, HGn.out.2, by have := HMS.out; omega, HR1.out.1, HR1.out.2, HBL.out.trans (hb3.mono hwb)⟩
        case measure => rw [msrW_eq hW4, HMW.out]; exact HMS.out
      · have HR1 : Hid ((goN ⟨0, false, stay⟩ (start L way)).1 = (stepN ⟨0, false, stay⟩ st c rest).1 ∧ ansB (goN ⟨0, false, stay⟩ (start L way)) = ⟨#[]⟩) := by
          obtain ⟨f, rfl⟩ : ∃ g, f = g + 1 := ⟨f - 1, by omega⟩
          rw [goF_err hl h0] at hr1
          exact ⟨hr1, if_neg (by rw [hr1]; exact h0)⟩
        have H0 : Hid (errE (stepN ⟨0, false, stay⟩ st c rest).1 = .iface 56 (.int .i64 (stepN ⟨0, false, stay⟩ st c rest).1) ∧ (stepN ⟨0, false, stay⟩ st c rest).1 ≠ 0) := ⟨errE_some h0, h0⟩
        have HM : Hid (st.made = []) := hmd
        clear hW hG hbl hr1 hr2 HK1 HB1 HG hl hwk h0 hmd
        go_wp2_with (first
          | (go_at_call 47; refine hE.mono ?_; rintro e w2 ⟨rfl, hw2⟩; replace hw2 := hw2.symm; subst hw2)
          | (go_at_call 49; refine hN.mono ?_; rintro e w3 ⟨rfl, lv3, hk3, hr3⟩; have hW3 := HW.out.walked hk3 hr3)
          | (go_at_call 48; refine (step_ref c rest _ HL.out hW3.1 rfl HGo.out hB).mono ?_; rintro e w4 ⟨rfl, _, h4⟩; rw [H0.out.1]; have hb4 := h4 H0.out.2)
          | (go_at_call 50; refine (undo_nil _ (hW3.1.below hb4) HM.out).mono ?_; rintro e w5 ⟨rfl, hb5⟩))
        go_ret2
        have hs3 := HBL.out.size
        have hwl := (HW.out.walk.lt wb (.inl rfl)).2
        have hb3 : Below w.heap.size w w3 := HBL.out.trans ((hW3.2.below (n := wb) (by omega) (fun k hk => by
          rcases hk with hk | hk
          · exact (HW.out.walk.lt k hk).1
          · exact absurd rfl hk.1)).mono hwb)
        exact ⟨by rw [HR1.out.1, HR1.out.2, H0.out.1]; rfl, below_join (below_join hb3 hb4) hb5⟩
end Go.Proofs.YtcefgnjgcnboeaaGreatDoor
