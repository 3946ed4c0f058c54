/- A walk in memory; ends, next, ahead. -/
import Derived.Test.YtcefgnjgcnboeaaGreatDoorPieces
import Derived.Test.YtcefgnjgcnboeaaGreatDoorRndW
import Derived.Test.YtcefgnjgcnboeaaGreatDoorStoW
import Derived.Test.YtcefgnjgcnboeaaGreatDoorEntW

namespace Go.Proofs.YtcefgnjgcnboeaaGreatDoor
open Go Go.RowKit Go.Shelf
attribute [local go_sem] Oper.semAt_some

theorem wpListIn_app_at {F : Fence} {n : Nat} {P : Program} (w : World) {ops : Array Oper} {rest : List Oper} {o : Oper} {a : Act} {Q : Exit → Act → World → Prop}
    (hg : o.guard = none) (s x : Operand) (t : TypeId) (hop : o.op = Op.call { callee := Callee.builtin Builtin.append, args := #[s, x], argTypes := #[t, t] })
    (base : Nat) (e : TypeId) (i : TypeInfo) (z : Value) (size bytes : Nat) (h1 : P.underlying t = some (.slice e)) (h2 : P.info? e = some i) (h3 : i.zero = some z) (h4 : i.size = size) (h5 : i.bytes = bytes) (h6 : z.cells.size = size) (h7 : 0 < size)
    (v : Value) (k : Nat) (xs : List Value) (hs : a.eval s = v) (hown : w.ownsRow base e size v k xs) (ad : Addr) (m c : Nat) (news : List Value) (hx : a.eval x = .slice (some ad) m c) (hn : news.length = m * size)
    (hc : ∀ j u, news[j]? = some u → w.cell? (ad.add j) = some u) (h1c : ∀ u ∈ news, u.oneCell' = true) (b1 : k + m ≤ maxLen) (b2 : (k + m) * bytes ≤ 140737488355328) (b3 : base ≤ w.heap.size)
    (hK : ∀ v' w', w'.ownsRow base e size v' (k + m) (xs ++ news) → w.grownBy w' v.ownBlock → (v'.ownBlock = v.ownBlock ∨ v'.ownBlock = some w.heap.size) → wpListIn F n P ops Q rest (a.put o.dst v') w') :
    wpListIn F n P ops Q (o :: rest) a w := by
  refine wpListIn_plain hg fun K hK' => ?_
  obtain ⟨v', w', hrun, r1, r2, _, r4⟩ := run_append_own_at (P := P) w base t o.type e i z size bytes h1 h2 h3 h4 h5 h6 h7 v k xs hown ad m c news hn hc h1c b1 b2 b3
  unfold Oper.wpIn
  refine ⟨?_, ?_⟩
  · simp [Oper.about, hop, resolve, Target.leads, Sem.run_pure]
  · rw [Oper.semAt_plain F _ _ (by rw [hop]; intro c hc'; cases hc')]
    simp [execOp, hop, resolve, invoke, builtin, hs, hx, hrun, Result.andThen]
    exact hK' _ _ (hK v' w' r1 r2 r4)

theorem row_loc {A B : World} {base : Nat} {e : TypeId} {size n : Nat} {v : Value} {xs : List Value} (h : A.ownsRow base e size v n xs) (hk : ∀ k, v.ownBlock = some k → B.heap[k]? = A.heap[k]?) : B.ownsRow base e size v n xs := by
  refine ⟨h.1, ?_⟩
  rcases h.2 with hn | ⟨g, cap, cur, rfl, hg, hgg, rest⟩
  · exact .inl hn
  · exact .inr ⟨g, cap, cur, rfl, hg, (hk g rfl).trans hgg, rest⟩
theorem info_str' : (Tryz.prog.info? 9).map (fun i => (i.zero, i.size, i.bytes)) = some (some (.string ⟨#[]⟩), 1, 16) := by kernel_rfl
def tvs (l : List ByteArray) : List Value := l.map Value.string
theorem tvs_len (l : List ByteArray) : (tvs l).length = l.length := by simp [tvs]
theorem tvs_append (a b : List ByteArray) : tvs (a ++ b) = tvs a ++ tvs b := by simp [tvs]
/-- The block of a row. -/
def rowS (v : Value) : Nat → Prop := fun k => v.ownBlock = some k
theorem rowS_nil : rowS (.slice none 0 0) = fun _ => False := by funext k; simp [rowS, Value.ownBlock]
/-- What is gathered behind a row that lay at v0. -/
def GathS (w : World) (bx base n0 : Nat) (v0 : Value) (xs0 : List Value) (pre : List ByteArray) (X : World) : Prop :=
  (∃ v, Boxed X bx 38 v ∧ X.ownsRow base 9 1 v (n0 + pre.length) (xs0 ++ tvs pre) ∧ ∀ k, v.ownBlock = some k → v0.ownBlock = some k ∨ bx + 4 ≤ k) ∧
  (X.os = w.os ∧ X.tape = w.tape ∧ X.output = w.output ∧ w.heap.size ≤ X.heap.size ∧ ∀ k, k < w.heap.size → v0.ownBlock ≠ some k → X.heap[k]? = w.heap[k]?)
theorem gathS_own (w : World) (base n0 : Nat) (v0 : Value) (xs0 : List Value) (B : Nat) (hB : w.heap.size ≤ B) : OwnFrom B (GathS w w.heap.size base n0 v0 xs0) := by
  have h1 := Own.from (holdsRow_own base w.heap.size 38 9 1 (fun pre : List ByteArray => n0 + pre.length) (fun pre => xs0 ++ tvs pre) (fun _ v => ∀ k, v.ownBlock = some k → v0.ownBlock = some k ∨ w.heap.size + 4 ≤ k)) B
  intro pre X Y row ⟨ha, h2, h3, h4, h5, h6⟩ hg hr
  refine ⟨h1 pre X Y row ha hg hr, hg.os.trans h2, hg.tape.trans h3, hg.output.trans h4, Nat.le_trans h5 hg.size, fun k hk hn => (hg.block k (by omega) (fun e => ?_)).trans (h6 k hk hn)⟩
  have := (hr k e.symm).1
  omega
/-- A text is appended. -/
theorem gathS_step {w W w1 : World} {base n0 bx : Nat} {v0 v v1 : Value} {xs0 : List Value} {pre : List ByteArray} {x : ByteArray} {o : Obj} (hbx : bx = w.heap.size) (hbase : base ≤ bx) (hv : Boxed W bx 38 v) (hrow : W.ownsRow base 9 1 v (n0 + pre.length) (xs0 ++ tvs pre)) (hG : ∀ k, v.ownBlock = some k → v0.ownBlock = some k ∨ bx + 4 ≤ k) (h0 : ∀ k, v0.ownBlock = some k → k < bx)
    (hR : W.os = w.os ∧ W.tape = w.tape ∧ W.output = w.output ∧ w.heap.size ≤ W.heap.size ∧ ∀ k, k < w.heap.size → v0.ownBlock ≠ some k → W.heap[k]? = w.heap[k]?) (hWs : bx + 4 ≤ W.heap.size)
    (hown : w1.ownsRow base 9 1 v1 (n0 + pre.length + 1) (xs0 ++ tvs pre ++ [.string x])) (hg : (W.alloc o).grownBy w1 v.ownBlock) (hat : v1.ownBlock = v.ownBlock ∨ v1.ownBlock = some (W.alloc o).heap.size) :
    Boxed w1 bx 38 v ∧ GathS w bx base n0 v0 xs0 (pre ++ [x]) (w1.setCell ⟨bx, 0, none⟩ v1) ∧ Below base W (w1.setCell ⟨bx, 0, none⟩ v1) ∧ (∀ B, KeepsFrom B W (w1.setCell ⟨bx, 0, none⟩ v1)) ∧ (SameIn (bx + 3) 1 W (w1.setCell ⟨bx, 0, none⟩ v1)) := by
  have hlt := hv.lt
  have hne : ∀ k, v.ownBlock = some k → base ≤ k ∧ k < W.heap.size := hrow.lt
  have hsg := hg.size
  simp at hsg
  have hnb : some bx ≠ v.ownBlock := fun e => by
    rcases hG bx e.symm with h | h
    · have := h0 bx h; omega
    · omega
  have hnb1 : some bx ≠ v1.ownBlock := fun e => by
    rcases hat with h | h
    · exact hnb (e.trans h)
    · rw [h] at e; simp at e; omega
  have hv1 : Boxed w1 bx 38 v := (hg.block bx (by simp; omega) hnb).trans ((Below.heap_alloc W o bx hlt).trans hv)
  have hoth : ∀ j, j < W.heap.size → some j ≠ v.ownBlock → j ≠ bx → (w1.setCell ⟨bx, 0, none⟩ v1).heap[j]? = W.heap[j]? := fun j hj h1 h2 =>
    (Below.heap_setCell w1 ⟨bx, 0, none⟩ v1 j h2).trans ((hg.block j (by simp; omega) h1).trans (Below.heap_alloc W o j hj))
  have hsz : (w1.setCell ⟨bx, 0, none⟩ v1).heap.size = w1.heap.size := by simp [World.setCell]
  refine ⟨hv1, ⟨⟨v1, Boxed.set _ hv1, ?_, fun k hk => ?_⟩, ?_⟩, ?_, fun B => ⟨by omega, fun j o2 _ hj hc => ?_⟩, fun j h1 h2 => ?_⟩
  · have : (w1.setCell ⟨bx, 0, none⟩ v1).ownsRow base 9 1 v1 (n0 + pre.length + 1) (xs0 ++ tvs pre ++ [.string x]) := hown.kept (grownBy_setCell' w1 bx v1) (.inr hnb1.symm)
    rw [tvs_append, List.length_append]
    simpa [tvs, Nat.add_assoc] using this
  · rcases hat with h | h
    · exact hG k (h ▸ hk)
    · rw [h] at hk
      have : W.heap.size + 1 = k := by simpa using hk
      exact .inr (by omega)
  · obtain ⟨r1, r2, r3, r4, r5⟩ := hR
    refine ⟨hg.os.trans r1, hg.tape.trans r2, hg.output.trans r3, by omega, fun k hk hn => (hoth k (by omega) (fun e => ?_) (by omega)).trans (r5 k hk hn)⟩
    rcases hG k e.symm with h | h
    · exact hn h
    · omega
  · refine ⟨hg.os, hg.tape, hg.output, by omega, fun k hk => hoth k (by omega) (fun e => ?_) (by omega)⟩
    have := (hne k e.symm).1
    omega
  · have hjl := (Array.getElem?_eq_some_iff.1 hj).1
    refine (hoth j hjl (fun e => ?_) (fun e => ?_)).trans hj
    · rcases hrow.2 with ⟨rfl, _⟩ | ⟨g, cap, cur, rfl, _, hgb, _⟩
      · simp [Value.ownBlock] at e
      · have : j = g := by simpa [Value.ownBlock] using e
        subst this
        rw [hj] at hgb; cases hgb; cases hc
    · subst e
      rw [show W.heap[j]? = _ from hv] at hj; cases hj; cases hc
  · refine hoth j (by omega) (fun e => ?_) (by omega)
    rcases hG j e.symm with h | h
    · have := h0 j h; omega
    · omega
set_option maxRecDepth 100000 in
set_option maxHeartbeats 4000000 in
theorem appendTexts_p (n g : Nat) (lb : Array Value) (xs : List ByteArray) (base n0 : Nat) (v0 : Value) (xs0 : List Value) (w : World) (eg : ∀ args w, (callFunc g args).run Tryz.prog w = .ok (.enter g args) w) (hseq : GivesD Tryz.prog g lb xs base 1 w) (hown : w.ownsRow base 9 1 v0 n0 xs0) (hb : base ≤ w.heap.size) (hl : n0 + xs.length ≤ 4398046511104) :
    CallsIn Fence.wide n Tryz.prog 67 #[v0, .func (.func g) #[] lb] w fun e w' => ∃ v, e = .returned v ∧ w'.ownsRow base 9 1 v (n0 + xs.length) (xs0 ++ tvs xs) ∧ Rnd (rowS v0) (rowS v) w w' := by
  obtain ⟨i0, hi, hz0, hz1, hz2⟩ := info_parts info_str'
  have hv0 : ∀ k, v0.ownBlock = some k → k < w.heap.size := fun k hk => (hown.lt k hk).2
  obtain ⟨a0, c0, rfl⟩ : ∃ a c, v0 = .slice a n0 c := by
    rcases hown.2 with ⟨rfl, h⟩ | ⟨g, cap, cur, rfl, _⟩
    · exact ⟨none, 0, by rw [h]⟩
    · exact ⟨_, _, rfl⟩
  refine callsIn_of_wp_marks Tryz.func67 rfl trivial ?_ rfl
  simp only [Tryz.ntmps67, List.size_toArray, List.length_cons, List.length_nil, Nat.reduceAdd, Nat.reduceSub, Array.replicate_succ, Array.replicate_zero, List.push_toArray, List.append_toArray, List.nil_append, List.cons_append]
  gi_wp2
  have hbA : Below w.heap.size w (w.alloc (.cells #[.slice a0 n0 c0] 38)) := (Below.refl _ _).alloc (Nat.le_refl _) _
  have hbox : Boxed (w.alloc (.cells #[.slice a0 n0 c0] 38)) w.heap.size 38 (.slice a0 n0 c0) := Boxed.new w _ _
  have hownA := hown.alloc (.cells #[.slice a0 n0 c0] 38)
  have hszA : (w.alloc (.cells #[.slice a0 n0 c0] 38)).heap.size = w.heap.size + 1 := by simp
  generalize w.alloc (.cells #[.slice a0 n0 c0] 38) = WA at *
  have h0 : GathS w w.heap.size base n0 (.slice a0 n0 c0) xs0 [] WA := ⟨⟨_, hbox, by simpa [tvs] using hownA, fun k hk => .inl hk⟩, hbA.os, hbA.tape, hbA.output, hbA.size, fun k hk _ => hbA.block k hk⟩
  refine range_lawD (xs := xs) (n₀ := base) (d := 1) rfl eg hseq (by omega) hbA (GathS w w.heap.size base n0 (.slice a0 n0 c0) xs0) (fun _ _ _ => False) (gathS_own _ _ _ _ _ _ (by omega)) (fun _ _ _ _ _ hs _ _ => hs) h0
    (fun x => { tmps := #[.slice a0 n0 c0, .func (.func g) #[] lb, .pointer (some ⟨w.heap.size, 0, none⟩), undef, .slice none 0 0, .string x, .func (.func g) #[] lb, .string x, undef, undef, undef, undef, undef], defers := [] }) ?assign ?body ?done ?stop
  case assign =>
    intro m l x W K hK
    gi_wp2
    exact hK
  case body =>
    rintro m l pre x W ⟨⟨v, hv, hrow, hG⟩, hR⟩ hpx hsz2
    have hlen : pre.length < xs.length := by have := hpx.length_le; simp at this; omega
    have hvc := hv.cell
    have hWs : w.heap.size + 4 ≤ W.heap.size := by omega
    clear hpx hbox hbA h0 hownA
    gi_wp2_with (gi_at_builtin; refine wpListIn_app_at _ rfl _ _ 38 rfl base 9 i0 (.string ⟨#[]⟩) 1 16 Tryz.underlying38 hi hz0 hz1 hz2 rfl (by decide) _ _ _ rfl (hrow.alloc _) ⟨W.heap.size, 0, none⟩ 1 1 [.string x] rfl rfl (cell_one_new _ _ _) (by simp [Value.oneCell']) (by unfold maxLen; omega) (by omega) (by simp; omega) ?_; intro v1 w1 hown1 hgrow1 hat1; obtain ⟨g1, cap1, rfl⟩ := ownsRow_succ hown1; obtain ⟨hv1, hg2, hb2, hk2, hs2⟩ := gathS_step rfl hb hv hrow hG hv0 hR hWs hown1 hgrow1 hat1; have hvc1 := hv1.cell; have hvf1 := hv1.frozen)
    exact ⟨hg2, hb2, hk2 _, by rw [hszA]; exact hs2⟩
  case done =>
    rintro D W hD ⟨⟨v, hv, hrow, hG⟩, hR⟩ hK
    have hvc := hv.cell
    have HR : Hid (W.os = w.os ∧ W.tape = w.tape ∧ W.output = w.output ∧ w.heap.size ≤ W.heap.size ∧ ∀ k, k < w.heap.size → (Value.slice a0 n0 c0).ownBlock ≠ some k → W.heap[k]? = w.heap[k]?) := hR
    clear hR hbA hbox h0
    gi_wp2
    refine ⟨by simp, .inl ⟨_, _, rfl, run_takeDeferred hK, ?_⟩⟩
    have hDl := (Array.getElem?_eq_some_iff.1 hK).1
    obtain ⟨r1, r2, r3, r4, r5⟩ := HR.out
    refine ⟨v, by simp [results, Tryz.f67, go_sem], v, rfl, ownsRow_putObj hrow _ hK rfl, ⟨r1, r2, r3, by rw [put_size]; omega, fun k hk hn => (World.putObj_heap_other (by omega)).trans (r5 k hk hn), fun k hk => ?_⟩⟩
    rcases hG k hk with h | h
    · exact .inl h
    · exact .inr ⟨by omega, by rw [put_size]; exact (hrow.lt k hk).2⟩
  case stop =>
    rintro D c pre W hD hpre hx hK
    exact hx.elim
end Go.Proofs.YtcefgnjgcnboeaaGreatDoor

namespace Go.Proofs.YtcefgnjgcnboeaaGreatDoor
open Go Go.RowKit Go.Shelf

/-- How a walk goes: ab: 0: what is not there is refused, 1: it is laid, 2: at the end it is left free. -/
structure Mn where
  ab : Nat
  dirs : Bool
  stay : Bool
def wcells (ab pas : Value) (m : Mn) (tb : Nat) (here : ByteArray) (lv : Value) (hops : Nat) (mv : Value) : Array Value := #[ab, .bool m.dirs, .bool m.stay, pas, .pointer (some ⟨tb, 0, none⟩), .string here, lv, .int .i64 hops, mv]
/-- The walk lies at block wb; its pieces are laid last one first. -/
structure WalkAt (W : World) (wb : Nat) (ab pas : Value) (m : Mn) (tb : Nat) (here : ByteArray) (left : List ByteArray) (hops : Nat) (made : List ByteArray) (lv mv : Value) : Prop where
  head : W.heap[wb]? = some (.cells (wcells ab pas m tb here lv hops mv) 100)
  left : W.ownsRow (wb + 1) 9 1 lv left.length (tvs left.reverse)
  made : W.ownsRow (wb + 1) 9 1 mv made.length (tvs made)
  apart : ∀ k, lv.ownBlock = some k → mv.ownBlock ≠ some k
/-- The walk's blocks. -/
def walkS (wb : Nat) (lv mv : Value) (k : Nat) : Prop := k = wb ∨ lv.ownBlock = some k ∨ mv.ownBlock = some k
variable {W W' : World} {wb : Nat} {ab pas : Value} {m : Mn} {tb : Nat} {here : ByteArray} {left : List ByteArray} {hops : Nat} {made : List ByteArray} {lv mv : Value}
theorem WalkAt.lt (h : WalkAt W wb ab pas m tb here left hops made lv mv) : ∀ k, walkS wb lv mv k → wb ≤ k ∧ k < W.heap.size := by
  rintro k (rfl | hk | hk)
  · exact ⟨Nat.le_refl _, (Array.getElem?_eq_some_iff.1 h.head).1⟩
  · have := h.left.lt k hk; omega
  · have := h.made.lt k hk; omega
theorem WalkAt.keep (h : WalkAt W wb ab pas m tb here left hops made lv mv) (hk : ∀ k, walkS wb lv mv k → W'.heap[k]? = W.heap[k]?) : WalkAt W' wb ab pas m tb here left hops made lv mv :=
  ⟨(hk wb (.inl rfl)).trans h.head, row_loc h.left (fun k e => hk k (.inr (.inl e))), row_loc h.made (fun k e => hk k (.inr (.inr e))), h.apart⟩
theorem WalkAt.below (h : WalkAt W wb ab pas m tb here left hops made lv mv) (hb : Below W.heap.size W W') : WalkAt W' wb ab pas m tb here left hops made lv mv :=
  h.keep (fun k hk => hb.block k (h.lt k hk).2)
theorem wcell (h : W.heap[wb]? = some (.cells (wcells ab pas m tb here lv hops mv) 100)) {j : Nat} {v : Value} (hj : (wcells ab pas m tb here lv hops mv)[j]? = some v) : W.cell? ⟨wb, j, none⟩ = some v := by
  unfold World.cell?
  simp only [h]
  simpa using hj
theorem wfroz (h : W.heap[wb]? = some (.cells (wcells ab pas m tb here lv hops mv) 100)) (j : Nat) : W.frozen? ⟨wb, j, none⟩ = false := by simp [World.frozen?, h]
theorem WalkAt.cs (h : WalkAt W wb ab pas m tb here left hops made lv mv) : W.cell? ⟨wb, 0, none⟩ = some ab ∧ W.cell? ⟨wb, 1, none⟩ = some (.bool m.dirs) ∧ W.cell? ⟨wb, 2, none⟩ = some (.bool m.stay) ∧ W.cell? ⟨wb, 3, none⟩ = some pas ∧ W.cell? ⟨wb, 4, none⟩ = some (.pointer (some ⟨tb, 0, none⟩)) ∧ W.cell? ⟨wb, 5, none⟩ = some (.string here) ∧ W.cell? ⟨wb, 6, none⟩ = some lv ∧ W.cell? ⟨wb, 7, none⟩ = some (.int .i64 hops) ∧ W.cell? ⟨wb, 8, none⟩ = some mv :=
  ⟨wcell h.head rfl, wcell h.head rfl, wcell h.head rfl, wcell h.head rfl, wcell h.head rfl, wcell h.head rfl, wcell h.head rfl, wcell h.head rfl, wcell h.head rfl⟩
/-- A field of the walk is written. -/
theorem rnd_set (W : World) (B i : Nat) (v : Value) (S : Nat → Prop) (hS : S B) : Rnd S S W (W.setCell ⟨B, i, none⟩ v) :=
  ⟨rfl, rfl, rfl, by simp [World.setCell], fun k _ hn => Below.heap_setCell _ _ _ _ (fun e => hn (e ▸ hS)), fun _ h => .inl h⟩
theorem WalkAt.at_set (h : WalkAt W wb ab pas m tb here left hops made lv mv) (p : ByteArray) : WalkAt (W.setCell ⟨wb, 5, none⟩ (.string p)) wb ab pas m tb p left hops made lv mv :=
  ⟨set_block h.head _, row_loc h.left (fun k e => Below.heap_setCell _ _ _ _ (by have := (h.left.lt k e).1; show k ≠ wb; omega)), row_loc h.made (fun k e => Below.heap_setCell _ _ _ _ (by have := (h.made.lt k e).1; show k ≠ wb; omega)), h.apart⟩
theorem WalkAt.hops_set (h : WalkAt W wb ab pas m tb here left hops made lv mv) (n : Nat) : WalkAt (W.setCell ⟨wb, 7, none⟩ (.int .i64 n)) wb ab pas m tb here left n made lv mv :=
  ⟨set_block h.head _, row_loc h.left (fun k e => Below.heap_setCell _ _ _ _ (by have := (h.left.lt k e).1; show k ≠ wb; omega)), row_loc h.made (fun k e => Below.heap_setCell _ _ _ _ (by have := (h.made.lt k e).1; show k ≠ wb; omega)), h.apart⟩
theorem WalkAt.left_set (h : WalkAt W wb ab pas m tb here left hops made lv mv) {left' : List ByteArray} {lv' : Value} (hr : W.ownsRow (wb + 1) 9 1 lv' left'.length (tvs left'.reverse)) (hap : ∀ k, lv'.ownBlock = some k → mv.ownBlock ≠ some k) : WalkAt (W.setCell ⟨wb, 6, none⟩ lv') wb ab pas m tb here left' hops made lv' mv :=
  ⟨set_block h.head _, row_loc hr (fun k e => Below.heap_setCell _ _ _ _ (by have := (hr.lt k e).1; show k ≠ wb; omega)), row_loc h.made (fun k e => Below.heap_setCell _ _ _ _ (by have := (h.made.lt k e).1; show k ≠ wb; omega)), hap⟩
theorem WalkAt.made_set (h : WalkAt W wb ab pas m tb here left hops made lv mv) {made' : List ByteArray} {mv' : Value} (hr : W.ownsRow (wb + 1) 9 1 mv' made'.length (tvs made')) (hap : ∀ k, lv.ownBlock = some k → mv'.ownBlock ≠ some k) : WalkAt (W.setCell ⟨wb, 8, none⟩ mv') wb ab pas m tb here left hops made' lv mv' :=
  ⟨set_block h.head _, row_loc h.left (fun k e => Below.heap_setCell _ _ _ _ (by have := (h.left.lt k e).1; show k ≠ wb; omega)), row_loc hr (fun k e => Below.heap_setCell _ _ _ _ (by have := (hr.lt k e).1; show k ≠ wb; omega)), hap⟩
theorem Rnd.like {S S2 S3 : Nat → Prop} {A B : World} (h : Rnd S S2 A B) (hs : ∀ k, S3 k ↔ S2 k) : Rnd S S3 A B := ⟨h.os, h.tape, h.output, h.size, h.same, fun k hk => h.more k ((hs k).1 hk)⟩
theorem row_form {A : World} {base : Nat} {e : TypeId} {size n : Nat} {v : Value} {xs : List Value} (h : A.ownsRow base e size v n xs) : ∃ a c, v = .slice a n c := by
  rcases h.2 with ⟨rfl, h0⟩ | ⟨g, cap, cur, rfl, _⟩
  · exact ⟨none, 0, by rw [h0]⟩
  · exact ⟨_, _, rfl⟩

set_option maxRecDepth 100000 in
theorem ends_p (w : World) (h : WalkAt w wb ab pas m tb here left hops made lv mv) : Calls Tryz.prog 47 #[.pointer (some ⟨wb, 0, none⟩)] w fun e w' => e = .returned (.bool left.isEmpty) ∧ w' = w := by
  obtain ⟨a, c, rfl⟩ := row_form h.left
  obtain ⟨_, _, _, _, _, _, c6, _, _⟩ := h.cs
  cases left with
  | nil =>
    go_enter Tryz.func47, Tryz.ntmps47
    go_wp2
    go_ret
    exact ⟨rfl, rfl⟩
  | cons x xs =>
    have hd : decide (((x :: xs).length : Int) = 0) = false := by simp; omega
    generalize hL : (x :: xs).length = L at *
    go_enter Tryz.func47, Tryz.ntmps47
    go_wp2
    go_ret
    exact ⟨by have : L ≠ 0 := by rw [← hL]; simp
              simp [this], rfl⟩
set_option maxRecDepth 100000 in
theorem next_p (c : ByteArray) (rest : List ByteArray) (w : World) (h : WalkAt w wb ab pas m tb here (c :: rest) hops made lv mv) (hl : rest.length ≤ 4611686018427387904) : Calls Tryz.prog 49 #[.pointer (some ⟨wb, 0, none⟩)] w fun e w' => e = .returned (.string c) ∧ ∃ lv', WalkAt w' wb ab pas m tb here rest hops made lv' mv ∧ Rnd (walkS wb lv mv) (walkS wb lv' mv) w w' := by
  obtain ⟨g, cap, rfl⟩ := ownsRow_succ h.left
  have hrow := h.left
  rw [List.reverse_cons, tvs_append] at hrow
  have hpop := ownsRow_pop (xs := tvs rest.reverse) (last := tvs [c]) (n := rest.length) (by simp [tvs]) hrow
  have hcl := hrow.cellAt rest.length (by omega)
  rw [List.getElem?_append_right (by simp [tvs])] at hcl
  simp [tvs] at hcl
  obtain ⟨hcap1, hcap2⟩ : rest.length + 1 ≤ cap ∧ cap ≤ 9223372036854775807 := by
    rcases hrow.2 with ⟨h0, _⟩ | ⟨g', cap', cur, hv, _, _, h1, h2, _⟩
    · cases h0
    · cases hv; unfold maxLen at h2; exact ⟨h1, by omega⟩
  obtain ⟨_, _, _, _, _, _, c6, _, _⟩ := h.cs
  have f6 := wfroz h.head 6
  have H : Hid (WalkAt w wb ab pas m tb here (c :: rest) hops made (.slice (some ⟨g, 0, none⟩) (rest.length + 1) cap) mv) := h
  have HP : Hid (w.ownsRow (wb + 1) 9 1 (.slice (some ⟨g, 0, none⟩) rest.length cap) rest.length (tvs rest.reverse)) := hpop
  clear h hrow hpop
  generalize hn : rest.length = n at *
  have i1 : ((n + 1 : Nat) : Int) - 1 = n := by omega
  have i2 : (0 : Int) ≤ n := by omega
  have i3 : (n : Int) < ((n + 1 : Nat) : Int) := by omega
  have i4 : (n : Int) ≤ cap := by omega
  go_enter Tryz.func49, Tryz.ntmps49
  go_wp2
  go_ret
  have hset := H.out.left_set (left' := rest) (lv' := .slice (some ⟨g, 0, none⟩) n cap) (by rw [hn]; exact HP.out) H.out.apart
  exact ⟨rfl, _, hset, (rnd_set _ _ _ _ _ (.inl rfl)).like (fun k => Iff.rfl)⟩
theorem rev_row {w : World} {base g n0 mm cap : Nat} {xs0 : List Value} {ys : List ByteArray} (h0 : xs0.length = n0) (hm : ys.length = mm) (h : w.ownsRow base 9 1 (.slice (some ⟨g, 0, none⟩) (n0 + mm) cap) (n0 + mm) (xs0 ++ tvs ys)) (q : Nat) :
    (Go.Sort.putRow encStr (Go.Sort.ahead w q) g n0 ((ys.map un).reverse.toArray)).ownsRow base 9 1 (.slice (some ⟨g, 0, none⟩) (n0 + mm) cap) (n0 + mm) (xs0 ++ tvs ys.reverse) ∧ w.grownBy (Go.Sort.putRow encStr (Go.Sort.ahead w q) g n0 ((ys.map un).reverse.toArray)) (some g) := by
  rcases h.2 with ⟨hh, _⟩ | ⟨g', cap', cur, hv, hg, hb, hn, hc, hs, ht⟩
  · cases hh
  · cases hv
    have hb' : (Go.Sort.putRow encStr (Go.Sort.ahead w q) g n0 ((ys.map un).reverse.toArray)).heap[g]? = some (.cells (Go.Sort.putCells encStr n0 ((ys.map un).reverse.toArray) cur) 9 (0, 0)) := by
      show (w.heap.modify g _)[g]? = _
      rw [Array.getElem?_modify, if_pos rfl, hb]; rfl
    refine ⟨⟨by simp [tvs, h0, hm], .inr ⟨g, cap, _, rfl, hg, hb', hn, hc, by simpa [Go.Sort.putCells] using hs, ?_⟩⟩, rfl, rfl, rfl, by simp [Go.Sort.ahead], fun k _ hk => ?_⟩
    · simp only [Nat.mul_one] at ht hs ⊢
      apply List.ext_getElem?
      intro k
      have hk := congrArg (fun l => l[k]?) ht
      simp only [List.getElem?_take] at hk ⊢
      simp only [Go.Sort.putCells, Array.toList_mapIdx, List.getElem?_mapIdx, Array.getElem?_toList] at hk ⊢
      by_cases h1 : k < n0 + mm
      · rw [if_pos h1] at hk ⊢
        rw [hk]
        by_cases h2 : k < n0
        · rw [List.getElem?_append_left (by omega), List.getElem?_append_left (by omega)]
          have : ¬ (n0 ≤ k ∧ k < n0 + ((ys.map un).reverse.toArray).size) := by omega
          simp only [if_neg this, Option.map_id']
        · have hys : k - n0 < (ys.map un).reverse.length := by simp; omega
          rw [List.getElem?_append_right (by omega), List.getElem?_append_right (by omega), h0]
          have : n0 ≤ k ∧ k < n0 + ((ys.map un).reverse.toArray).size := by simp; omega
          simp only [if_pos this]
          rw [List.getElem?_eq_getElem (by simp [tvs]; omega), List.getElem?_eq_getElem (by simp [tvs]; omega)]
          have e1 : ((ys.map un).reverse.toArray)[k - n0]! = un (ys.reverse[k - n0]'(by simp; omega)) := by
            rw [getElem!_pos _ _ (by simpa using hys)]
            simp
          rw [e1]
          simp [tvs, encStr, un]
      · rw [if_neg h1]
        rw [List.getElem?_eq_none (by simp [tvs]; omega)]
    · show (w.heap.modify g _)[k]? = _
      rw [Array.getElem?_modify, if_neg (fun e => hk (by rw [e]))]
/-- Of a row the part behind n0 is turned round. -/
theorem rev_c {w : World} {base g n0 cap : Nat} {xs0 : List Value} {ys : List ByteArray} (cc : Nat) (h0 : xs0.length = n0) (h : w.ownsRow base 9 1 (.slice (some ⟨g, 0, none⟩) (n0 + ys.length) cap) (n0 + ys.length) (xs0 ++ tvs ys)) (hl : ys.length ≤ 9223372036854775807) :
    Calls Tryz.prog 69 #[.slice (some ⟨g, n0, none⟩) ys.length cc] w fun e w' => e = .returned (.tuple #[]) ∧ w'.ownsRow base 9 1 (.slice (some ⟨g, 0, none⟩) (n0 + ys.length) cap) (n0 + ys.length) (xs0 ++ tvs ys.reverse) ∧ w.grownBy w' (some g) := by
  have hH : Go.Sort.Holds encStr w g n0 ((ys.map un).toArray) := fun j hj => by
    have hj' : j < ys.length := by simpa using hj
    refine ⟨?_, h.frozenAt _⟩
    rw [h.cellAt (n0 + j) (by omega), List.getElem?_append_right (by omega), h0, show n0 + j - n0 = j by omega, getElem!_pos (ys.map un).toArray j hj]
    simp [tvs, hj', encStr, un]
  have h1 := Tryz.slices_Reverse_string g n0 cc (ys.map un) w hH (by simpa using hl)
  rw [List.length_map] at h1
  refine h1.mono ?_
  rintro e w' ⟨rfl, q, rfl⟩
  exact ⟨rfl, rev_row h0 rfl h q⟩
theorem grown_rnd {W W' : World} {row : Option Nat} {S : Nat → Prop} (h : W.grownBy W' row) (hS : ∀ k, row = some k → S k) : Rnd S S W W' :=
  ⟨h.os, h.tape, h.output, h.size, fun k hk hn => h.block k hk (fun e => hn (hS k e.symm)), fun _ hk => .inl hk⟩
theorem Rnd.weak {S S2 T T2 : Nat → Prop} {A B : World} (h : Rnd S S2 A B) (hs : ∀ k, S k → T k) (ht : ∀ k, T2 k → S2 k ∨ T k) : Rnd T T2 A B :=
  ⟨h.os, h.tape, h.output, h.size, fun k hk hn => h.same k hk (fun e => hn (hs k e)), fun k hk => by
    rcases ht k hk with h1 | h1
    · rcases h.more k h1 with h2 | h2
      · exact .inl (hs k h2)
      · exact .inr h2
    · exact .inl h1⟩
set_option maxRecDepth 100000 in
set_option maxHeartbeats 4000000 in
theorem ahead_p (s : ByteArray) (w : World) (h : WalkAt w wb ab pas m tb here left hops made lv mv) (hs : s.size ≤ 9223372036854775807) (hl : left.length + (namesB s).length ≤ 4398046511104) :
    Calls Tryz.prog 46 #[.pointer (some ⟨wb, 0, none⟩), .string s] w fun e w' => e = .returned (.tuple #[]) ∧ ∃ lv', WalkAt w' wb ab pas m tb here (namesB s ++ left) hops made lv' mv ∧ Rnd (walkS wb lv mv) (walkS wb lv' mv) w w' := by
  obtain ⟨_, _, _, _, _, _, c6, _, _⟩ := h.cs
  have hwl := (h.lt wb (.inl rfl)).2
  have hA := (callsIn_wide (n := 0)).1 (appendTexts_p 0 95 #[.pointer (some ⟨w.heap.size, 0, none⟩)] (namesB s) (wb + 1) left.length lv (tvs left.reverse) (w.drew.alloc (.cells #[.string s] 9)) (enters_of Tryz.func95 (by kernel_rfl) rfl) (pieces_gives s w.heap.size (wb + 1) _ hs (Boxed.new w.drew _ _).cell (by simp; omega)) (World.ownsRow.alloc (w := w.drew) h.left _) (by simp; omega) hl)
  obtain ⟨a0, cp0, hlv⟩ := row_form h.left
  subst hlv
  have H : Hid (WalkAt w wb ab pas m tb here left hops made (.slice a0 left.length cp0) mv) := h
  have HB0 : Hid (Below w.heap.size w (w.drew.alloc (.cells #[.string s] 9))) := (show Below w.heap.size w w.drew from ⟨rfl, rfl, rfl, Nat.le_refl _, fun _ _ => rfl⟩).trans ((Below.refl w.heap.size w.drew).alloc (Nat.le_refl _) _)
  have c6' : w.drew.cell? ⟨wb, 6, none⟩ = some (.slice a0 left.length cp0) := c6
  go_enter Tryz.func46, Tryz.ntmps46
  go_wp2
  go_region_with (first | (go_at_call 68; refine (pieces_p _ _).mono ?_; rintro e w1 ⟨rfl, rfl⟩) | (go_at_call 67; refine hA.mono ?_; rintro e w2 ⟨v2, rfl, hown2, hr2⟩; have hd2 : w2.heap[wb]? = some (.cells (wcells ab pas m tb here (.slice a0 left.length cp0) hops mv) 100) := (hr2.same wb (by simp; omega) (fun e => by have := (H.out.left.lt wb e).1; omega)).trans ((HB0.out.block wb hwl).trans H.out.head); have c62 := wcell (j := 6) (v := .slice a0 left.length cp0) hd2 rfl; have f62 := wfroz hd2 6; obtain ⟨a2, cp2, rfl⟩ := row_form hown2))
  all_goals
    have hK2 : WalkAt w2 wb ab pas m tb here left hops made (.slice a0 left.length cp0) mv → True := fun _ => trivial
    have hR2 : Rnd (walkS wb (.slice a0 left.length cp0) mv) (walkS wb (.slice a2 (left.length + (namesB s).length) cp2) mv) w w2 := (Rnd.of_below HB0.out).trans (hr2.weak (fun k hk => .inr (.inl hk)) (fun k hk => by
      rcases hk with hk | hk | hk
      · exact .inr (.inl hk)
      · exact .inl hk
      · exact .inr (.inr (.inr hk))))
    have hmd2 : w2.ownsRow (wb + 1) 9 1 mv made.length (tvs made) := row_loc H.out.made (fun k hk => (hr2.same k (by have := (H.out.made.lt k hk).2; simp; omega) (fun e => H.out.apart k e hk)).trans (HB0.out.block k (H.out.made.lt k hk).2))
    have hap2 : ∀ k, (Value.slice a2 (left.length + (namesB s).length) cp2).ownBlock = some k → mv.ownBlock ≠ some k := fun k hk hm => by
      rcases hr2.more k hk with h | h
      · exact H.out.apart k h hm
      · have := (H.out.made.lt k hm).2
        have := h.1
        simp at this; omega
    have hd3 := set_block (i := 6) hd2 (.slice a2 (left.length + (namesB s).length) cp2)
    have hne : ∀ k, wb + 1 ≤ k → (w2.setCell ⟨wb, 6, none⟩ (.slice a2 (left.length + (namesB s).length) cp2)).heap[k]? = w2.heap[k]? := fun k hk => Below.heap_setCell _ _ _ _ (by show k ≠ wb; omega)
    have hown3 := row_loc hown2 (fun k hk => hne k (hown2.lt k hk).1)
    have hmd3 := row_loc hmd2 (fun k hk => hne k (hmd2.lt k hk).1)
    have hR3 := hR2.trans (rnd_set w2 wb 6 (.slice a2 (left.length + (namesB s).length) cp2) _ (.inl rfl))
    have HD3 : Hid ((w2.setCell ⟨wb, 6, none⟩ (.slice a2 (left.length + (namesB s).length) cp2)).heap[wb]? = some (.cells (wcells ab pas m tb here (.slice a2 (left.length + (namesB s).length) cp2) hops mv) 100)) := hd3
    have c63 := wcell (j := 6) (v := .slice a2 (left.length + (namesB s).length) cp2) HD3.out rfl
    clear hd3 hne hown2 hmd2 hR2 hK2 hd2 c62 f62 hr2 c6 c6' hA HB0
    generalize w2.setCell ⟨wb, 6, none⟩ (.slice a2 (left.length + (namesB s).length) cp2) = w3 at *
    have HX : Hid (tvs left.reverse ++ tvs (namesB s).reverse = tvs (namesB s ++ left).reverse) := by unfold Hid; rw [List.reverse_append, tvs_append]
    have HL : Hid (left.length + (namesB s).length = (namesB s ++ left).length) := by unfold Hid; rw [List.length_append]; omega
    rcases hown3.2 with ⟨hv, h0⟩ | ⟨g, cap, cur, hv, hg, hgb, hn, hc, hsz, htk⟩
    · obtain ⟨rfl, -, rfl⟩ : a2 = none ∧ left.length + (namesB s).length = 0 ∧ cp2 = 0 := by simpa using hv
      have e1 : left.length = 0 := by omega
      have e2 : (namesB s).length = 0 := by omega
      rw [e1, e2]
      go_wp2_with (go_at_call 69; refine (Tryz.slices_Reverse_string_empty _ _ _).mono ?_; rintro e w4 ⟨rfl, hw4⟩; replace hw4 := hw4.symm; subst hw4)
      go_end0
      obtain rfl := List.eq_nil_of_length_eq_zero e1
      have e3 := List.eq_nil_of_length_eq_zero e2
      rw [e3] at hown3 hR3 HD3 ⊢
      exact ⟨rfl, _, ⟨HD3.out, hown3, hmd3, fun k hk => by simp [Value.ownBlock] at hk⟩, hR3⟩
    · obtain ⟨rfl, rfl⟩ : a2 = some ⟨g, 0, none⟩ ∧ cp2 = cap := by simpa using hv
      have hcap : cp2 ≤ 9223372036854775807 := by unfold maxLen at hc; omega
      have i1 : (0 : Int) ≤ (left.length : Int) := by omega
      have i2 : (left.length : Int) ≤ ((left.length + (namesB s).length : Nat) : Int) := by omega
      have i3 : left.length ≤ left.length + (namesB s).length := by omega
      by_cases e2 : (namesB s).length = 0
      · clear hgb htk hsz
        rw [e2]
        go_wp2_with (go_at_call 69; refine (Tryz.slices_Reverse_string_empty _ _ _).mono ?_; rintro e w4 ⟨rfl, hw4⟩; replace hw4 := hw4.symm; subst hw4)
        all_goals
          go_end0
          have e3 := List.eq_nil_of_length_eq_zero e2
          rw [e3] at hown3 hR3 HD3 hap2 ⊢
          exact ⟨rfl, _, ⟨HD3.out, by simpa [tvs] using hown3, hmd3, hap2⟩, hR3⟩
      · have HO : Hid (w3.ownsRow (wb + 1) 9 1 (.slice (some ⟨g, 0, none⟩) (left.length + (namesB s).length) cp2) (left.length + (namesB s).length) (tvs left.reverse ++ tvs (namesB s))) := hown3
        have hRv := fun cc => rev_c cc (by simp [tvs] : (tvs left.reverse).length = left.length) HO.out (by omega)
        have i5 : ¬ cp2 - left.length = 0 := by omega
        clear hown3 hgb htk hsz
        go_wp2_with (go_at_call 69; refine (hRv _).mono ?_; rintro e w4 ⟨rfl, hown4, hg4⟩)
        go_end0
        have hne4 : ∀ k, k < w3.heap.size → k ≠ g → w4.heap[k]? = w3.heap[k]? := fun k hk he => hg4.block k hk (by simpa using he)
        refine ⟨rfl, _, ⟨(hne4 wb (Array.getElem?_eq_some_iff.1 HD3.out).1 (by omega)).trans HD3.out, by rw [← HX.out, ← HL.out]; exact hown4, row_loc hmd3 (fun k hk => hne4 k (hmd3.lt k hk).2 (fun e => hap2 k (by simp [Value.ownBlock, e]) hk)), hap2⟩, hR3.trans (grown_rnd hg4 (fun k hk => .inr (.inl (by simpa [Value.ownBlock] using hk))))⟩
end Go.Proofs.YtcefgnjgcnboeaaGreatDoor
