/- PathPieces, walked, at texts of at most 2^20 bytes: the pieces of every text, all of them, left early, ranged over again. -/
import Derived.Test.YtlbckjdlfdiceabDoorWorks
import Derived.Test.YtlbckjdlfdiceabDoorRefP
namespace Go.Proofs.YtlbckjdlfdiceabDoor
open Go Go.RowKit Go.Shelf
attribute [local go_sem] Oper.semAt_some

theorem pick_p (k n : Int) (w : World) (hn : 1 ≤ n ∧ n ≤ 1099511627776) : Calls Tryd.prog 10 #[.int .i64 k, .int .i64 n] w fun e w' => ∃ r, e = .returned (.int .i64 r) ∧ w' = w := by
  have h1 : ¬ n < 1 := by omega
  have h2 : (n == 0) = false := by simp; omega
  by_cases h3 : k.tmod n < 0
  · go_enter Tryd.func10, Tryd.ntmps10
    go_wp2
    go_ret
    exact ⟨⟨_, rfl⟩, rfl⟩
  · go_enter Tryd.func10, Tryd.ntmps10
    go_wp2
    go_ret
    exact ⟨⟨_, rfl⟩, rfl⟩

/-- A list of texts, wherever it lies. -/
def RowV (w : World) (a : Option Addr) (xs : List ByteArray) : Prop := ∀ (j : Nat) x, xs[j]? = some x → ∃ g, a = some ⟨g, 0, none⟩ ∧ w.cell? ⟨g, j, none⟩ = some (.string x)
theorem cell_lt {w : World} {a : Addr} {v : Value} (h : w.cell? a = some v) : a.block < w.heap.size := by
  rcases Nat.lt_or_ge a.block w.heap.size with h1 | h1
  · exact h1
  · simp [World.cell?, Array.getElem?_eq_none h1] at h
theorem RowV.below {w w2 : World} {a : Option Addr} {xs : List ByteArray} (h : RowV w a xs) (hb : Below w.heap.size w w2) : RowV w2 a xs := fun j x hx => by
  obtain ⟨g, hg, hc⟩ := h j x hx
  exact ⟨g, hg, (hb.cell (p := ⟨g, j, none⟩) (cell_lt hc)).trans hc⟩
theorem RowV.kept {A B : World} {row : Option Nat} {k : Nat} {a : Option Addr} {xs : List ByteArray} (h : RowV A a xs) (hg : A.grownBy B row) (hr : ∀ r, row = some r → k ≤ r ∧ ∃ o : Obj, A.heap[r]? = some o ∧ o.isCells = false) : RowV B a xs := fun j x hx => by
  obtain ⟨g, e, hc⟩ := h j x hx
  exact ⟨g, e, cell_kept hc hg (fun r e => (hr r e).2)⟩
theorem RowV.set {w : World} {a : Option Addr} {xs : List ByteArray} {b : Nat} {t : TypeId} {i : Int} (h : RowV w a xs) (hb : Boxed w b t (.int .i64 i)) (v : Value) : RowV (w.setCell ⟨b, 0, none⟩ v) a xs := fun j x hx => by
  obtain ⟨g, e, hc⟩ := h j x hx
  have hne : g ≠ b := fun e2 => by
    subst e2
    have h1 : w.heap[g]? = _ := hb
    simp only [World.cell?, h1] at hc
    rcases j with _ | j
    · simp at hc
    · simp at hc
  exact ⟨g, e, (World.cell?_of_block (Below.heap_setCell w ⟨b, 0, none⟩ v g hne)).trans hc⟩
theorem rowV_of_owns {w : World} {base n : Nat} {v : Value} {xs : List ByteArray} (h : w.ownsRow base 9 1 v n (strs xs)) (hn : n = xs.length) : ∃ a c, v = .slice a xs.length c ∧ RowV w a xs := by
  subst hn
  rcases h.2 with ⟨rfl, h0⟩ | ⟨g, cap, cur, rfl, _⟩
  · exact ⟨none, 0, by rw [h0], fun j x hx => by rw [List.eq_nil_of_length_eq_zero h0] at hx; simp at hx⟩
  · exact ⟨some ⟨g, 0, none⟩, cap, rfl, fun j x hx => ⟨g, rfl, row_of_owns h j x hx⟩⟩
/-- The mark of a loop that is over. -/
def Mark (w : World) (D : Nat) : Prop := w.heap[D]? = some (.deferred (some []))
theorem Mark.kept {A B : World} {row : Option Nat} {k D : Nat} (h : Mark A D) (hg : A.grownBy B row) (hr : ∀ r, row = some r → k ≤ r ∧ ∃ o : Obj, A.heap[r]? = some o ∧ o.isCells = false) (hD : D < k) : Mark B D :=
  (hg.block D (Array.getElem?_eq_some_iff.1 h).1 (fun e => by have := (hr D e.symm).1; omega)).trans h
theorem Mark.set {w : World} {D : Nat} (h : Mark w D) (a : Addr) (v : Value) : Mark (w.setCell a v) D := (keeps_set (B := 0) w a v).same D _ (Nat.zero_le _) h rfl
theorem Mark.alloc {w : World} {D : Nat} (h : Mark w D) (o : Obj) : Mark (w.alloc o) D := h.kept (k := D + 1) (World.grownBy_alloc w o none) (fun j e => by cases e) (by omega)
theorem Mark.lt {w : World} {D : Nat} (h : Mark w D) : D < w.heap.size := (Array.getElem?_eq_some_iff.1 h).1
theorem Mark.put {w : World} {D E : Nat} (h : Mark w D) (hne : D ≠ E) (o : Obj) : Mark (w.putObj E o) D := (World.putObj_heap_other hne).trans h
theorem prefix_at {pre xs : List ByteArray} {x : ByteArray} (h : pre ++ [x] <+: xs) : xs[pre.length]? = some x := by
  obtain ⟨t, rfl⟩ := h; simp

theorem pre_len {pre xs : List ByteArray} {x : ByteArray} (h : pre ++ [x] <+: xs) : pre.length < xs.length := by have := h.length_le; simp at this; omega
/-- What lies where while the law ranges: the number, the answer, the two lists with their texts, the text whose pieces are handed on. -/
structure Com (w : World) (bw bm bt : Nat) (r : Int) (a1 a2 : Option Addr) (c1 c2 : Nat) (s t : ByteArray) (W : World) : Prop where
  q : Boxed W w.heap.size 3 (.int .i64 r)
  r : Boxed W (w.heap.size + 1) 4 (.bool false)
  b1 : Boxed W bw 23 (.slice a1 (namesB s).length c1)
  b2 : Boxed W bm 23 (.slice a2 (namesB t).length c2)
  r1 : RowV W a1 (namesB s)
  r2 : RowV W a2 (namesB t)
  bs : Boxed W bt 9 (.string s)
  bel : Below w.heap.size w W
variable {w W W2 : World} {bw bm bt : Nat} {r : Int} {a1 a2 : Option Addr} {c1 c2 : Nat} {s t : ByteArray}
theorem Com.kept {row : Option Nat} {k : Nat} (h : Com w bw bm bt r a1 a2 c1 c2 s t W) (hg : W.grownBy W2 row) (hr : ∀ j, row = some j → k ≤ j ∧ ∃ o : Obj, W.heap[j]? = some o ∧ o.isCells = false) (hk : w.heap.size ≤ k) : Com w bw bm bt r a1 a2 c1 c2 s t W2 :=
  ⟨bx h.q hg hr, bx h.r hg hr, bx h.b1 hg hr, bx h.b2 hg hr, h.r1.kept hg hr, h.r2.kept hg hr, bx h.bs hg hr, blw h.bel hg hr (Nat.le_refl _) hk⟩
theorem Com.set {b : Nat} {i : Int} (h : Com w bw bm bt r a1 a2 c1 c2 s t W) (hb : Boxed W b 3 (.int .i64 i)) (hne : w.heap.size < b) (v : Value) : Com w bw bm bt r a1 a2 c1 c2 s t (W.setCell ⟨b, 0, none⟩ v) := by
  have ne : ∀ {j : Nat} {ty : TypeId} {u : Value}, Boxed W j ty u → ty ≠ 3 → j ≠ b := fun hj hty e => by
    subst e
    have h1 := (show W.heap[_]? = _ from hj).symm.trans hb
    simp at h1; exact hty h1.2
  exact ⟨h.q.other (by omega) v, h.r.other (ne h.r (by decide)) v, h.b1.other (ne h.b1 (by decide)) v, h.b2.other (ne h.b2 (by decide)) v, h.r1.set hb v, h.r2.set hb v, h.bs.other (ne h.bs (by decide)) v, h.bel.setCell (p := ⟨b, 0, none⟩) (by simp; omega) v⟩
theorem Com.alloc (h : Com w bw bm bt r a1 a2 c1 c2 s t W) (o : Obj) : Com w bw bm bt r a1 a2 c1 c2 s t (W.alloc o) :=
  h.kept (k := w.heap.size) (World.grownBy_alloc W o none) (fun j e => by cases e) (Nat.le_refl _)

set_option maxRecDepth 100000 in
set_option maxHeartbeats 16000000 in
theorem pieces_law (s t : ByteArray) (q : Int) (w : World) (hg : ErrType w) (hp : s.size ≤ 1048576) (hq : t.size ≤ 1048576) :
    Calls Tryd.prog 3 #[.string s, .string t, .int .i64 q] w fun e w' => e = .returned (.bool true) ∧ Below w.heap.size w w' := by
  have hls : (namesB s).length ≤ 1048577 := by have h1 := length_wt (namesB s); have h2 := wt_names s; omega
  have hlt : (namesB t).length ≤ 1048577 := by have h1 := length_wt (namesB t); have h2 := wt_names t; omega
  obtain ⟨n, hn⟩ : ∃ n : Nat, n = 3 := ⟨3, rfl⟩
  clear hn
  refine (callsIn_wide (n := n)).1 ?_
  refine callsIn_of_wp_marks Tryd.func3 rfl trivial ?_ rfl
  simp only [Tryd.ntmps3, List.size_toArray, List.length_cons, List.length_nil, Nat.reduceAdd, Nat.reduceSub, Array.replicate_succ, Array.replicate_zero, List.push_toArray, List.append_toArray, List.nil_append, List.cons_append]
  obtain ⟨wA, hwA⟩ : ∃ wA, (w.alloc (.cells #[.int .i64 q] 3)).alloc (.cells #[.bool false] 4) = wA := ⟨_, rfl⟩
  have bA : Below w.heap.size w wA := by rw [← hwA]; exact ((Below.refl _ w).alloc (Nat.le_refl _) _).alloc (by simp) _
  have xq : Boxed wA w.heap.size 3 (.int .i64 q) := by rw [← hwA]; exact (Boxed.new w _ _).alloc _
  have xr : Boxed wA (w.heap.size + 1) 4 (.bool false) := by
    have h := Boxed.new (w.alloc (.cells #[.int .i64 q] 3)) 4 (.bool false); rw [World.size_alloc] at h; rw [← hwA]; exact h
  have hszA : wA.heap.size = w.heap.size + 2 := by rw [← hwA]; simp
  have HWA : Hid _ := hwA
  clear hwA
  gi_wp2_with fail
  rw [HWA.out]
  refine ⟨trivial, wd _, ?_⟩
  refine (callsIn_wide.2 (works_p _ (hg.below bA))).mono ?_
  rintro e w1 ⟨rfl, b1⟩
  have s1 := b1.size
  gi_wp2_with fail
  refine ⟨trivial, wd _, ?_⟩
  refine (callsIn_wide.2 (pieces_r s _ (by omega))).mono ?_
  rintro e w2 ⟨v1, rfl, o1, b2⟩
  obtain ⟨a1, c1, rfl, r1⟩ := rowV_of_owns o1 rfl
  clear o1
  have s2 := b2.size
  gi_wp2_with fail
  refine ⟨trivial, wd _, ?_⟩
  refine (callsIn_wide.2 (pieces_r t _ (by omega))).mono ?_
  rintro e w3 ⟨v2, rfl, o2, b3⟩
  obtain ⟨a2, c2, rfl, r2⟩ := rowV_of_owns o2 rfl
  clear o2
  have s3 := b3.size
  simp only [World.size_alloc] at s3
  -- what lies where, in the world behind the four lists' making
  have x1 : Boxed w3 w2.heap.size 23 (.slice a1 (namesB s).length c1) := boxed_below (Boxed.new w2 _ _) b3
  have xq3 : Boxed w3 w.heap.size 3 (.int .i64 q) := boxed_below ((boxed_below (boxed_below xq b1) b2).alloc _) b3
  have xr3 : Boxed w3 (w.heap.size + 1) 4 (.bool false) := boxed_below ((boxed_below (boxed_below xr b1) b2).alloc _) b3
  have r13 : RowV w3 a1 (namesB s) := (r1.below (by exact (Below.refl _ w2).alloc (Nat.le_refl _) (.cells #[.slice a1 (namesB s).length c1] 23))).below b3
  have B3 : Below w.heap.size w w3 := below_join (below_join (below_join bA b1) b2) (((Below.refl _ w2).alloc (Nat.le_refl _) _).trans (b3.mono (by simp)))
  clear xq xr r1 b1 b2 b3 bA
  have x2 := Boxed.new w3 23 (.slice a2 (namesB t).length c2)
  have hd1 := (x1.alloc (.cells #[.slice a2 (namesB t).length c2] 23)).cell
  have hdq := (xq3.alloc (.cells #[.slice a2 (namesB t).length c2] 23)).cell
  have hfq := (xq3.alloc (.cells #[.slice a2 (namesB t).length c2] 23)).frozen
  gi_wp2_with fail
  refine ⟨trivial, wd _, ?_⟩
  refine (callsIn_wide.2 (pick_p _ _ _ (by omega))).mono ?_
  rintro e w4 ⟨r, rfl, hw4⟩
  subst hw4
  gi_wp2_with fail
  refine ⟨trivial, wd _, ?_⟩
  refine (callsIn_wide.2 (pieces_p _ _)).mono ?_
  rintro e w5 ⟨rfl, hw5⟩
  obtain ⟨W0, hW0⟩ : ∃ W0, (((w3.alloc (.cells #[.slice a2 (namesB t).length c2] 23)).setCell ⟨w.heap.size, 0, none⟩ (.int .i64 r)).alloc (.cells #[.string s] 9)) = W0 := ⟨_, rfl⟩
  have hz0 : W0.heap.size = w3.heap.size + 2 := by rw [← hW0]; simp
  have hC0 : Com w w2.heap.size w3.heap.size (w3.heap.size + 1) r a1 a2 c1 c2 s t W0 := by
    have hq := xq3.alloc (.cells #[.slice a2 (namesB t).length c2] 23)
    have hsz : ((w3.alloc (.cells #[.slice a2 (namesB t).length c2] 23)).setCell ⟨w.heap.size, 0, none⟩ (.int .i64 r)).heap.size = w3.heap.size + 1 := by simp
    rw [← hW0]
    refine ⟨(Boxed.set _ hq).alloc _, ((xr3.alloc _).other (by omega) _).alloc _, ((x1.alloc _).other (by omega) _).alloc _, (x2.other (by omega) _).alloc _, ?_, ?_, ?_, ?_⟩
    · exact (((r13.below ((Below.refl _ w3).alloc (Nat.le_refl _) (.cells #[.slice a2 (namesB t).length c2] 23))).set hq _)).below ((Below.refl _ _).alloc (Nat.le_refl _) _)
    · exact (((r2.below ((Below.refl _ w3).alloc (Nat.le_refl _) (.cells #[.slice a2 (namesB t).length c2] 23))).set hq _)).below ((Below.refl _ _).alloc (Nat.le_refl _) _)
    · have h := Boxed.new ((w3.alloc (.cells #[.slice a2 (namesB t).length c2] 23)).setCell ⟨w.heap.size, 0, none⟩ (.int .i64 r)) 9 (.string s); rw [hsz] at h; exact h
    · exact ((B3.alloc (by omega) _).setCell (p := ⟨w.heap.size, 0, none⟩) (Nat.le_refl _) _).alloc (by rw [hsz]; omega) _
  rw [hW0] at hw5
  subst hw5
  clear hW0 xq3 xr3 x1 x2 r13 r2 hd1 hdq hfq B3
  gi_wp2_with fail
  -- the first loop: all of them
  have hk0 : Boxed (w5.alloc (.cells #[.int .i64 0] 3)) (w3.heap.size + 2) 3 (.int .i64 0) := by
    have h := Boxed.new w5 3 (.int .i64 0); rw [hz0] at h; exact h
  have hC1 := hC0.alloc (.cells #[.int .i64 0] 3)
  have hzL : (w5.alloc (.cells #[.int .i64 0] 3)).heap.size = w3.heap.size + 3 := by simp; omega
  clear hC0
  obtain ⟨wL, hwL⟩ : ∃ wL, w5.alloc (.cells #[.int .i64 0] 3) = wL := ⟨_, rfl⟩
  rw [hwL] at hk0 hC1 hzL ⊢
  clear hwL
  refine range_lawD (xs := namesB s) (n₀ := w.heap.size) (d := 1) rfl (enters_of Tryd.func27 (by kernel_rfl) rfl)
    (pieces_gives s (w3.heap.size + 1) w.heap.size _ (by omega) hC1.bs.cell (by omega)) (by omega) (Below.refl _ _)
    (fun pre W => Com w w2.heap.size w3.heap.size (w3.heap.size + 1) r a1 a2 c1 c2 s t W ∧ Boxed W (w3.heap.size + 2) 3 (.int .i64 (pre.length : Nat)) ∧ w3.heap.size + 3 ≤ W.heap.size)
    (fun _ _ _ => False)
    (fun _ A B row hs hg hr => ⟨hs.1.kept hg hr (by omega), bx hs.2.1 hg hr, Nat.le_trans hs.2.2 hg.size⟩)
    (fun _ _ _ _ _ hs _ _ => hs)
    ⟨hC1, hk0, by omega⟩
    ?a1 ?assign ?body ?done ?stop
  case assign =>
    intro m l x W K hK
    gi_wp2
    exact hK
  case body =>
    rintro m l pre x W ⟨hC, hk, hzW⟩ hx hz2
    have hat := prefix_at hx
    have hln : pre.length < (namesB s).length := pre_len hx
    obtain ⟨g, ha, hcx⟩ := hC.r1 _ _ hat
    subst ha
    have hdk := hk.cell
    have hfk := hk.frozen
    have hd1 := hC.b1.cell
    have l1 : ¬ ((namesB s).length : Int) ≤ (pre.length : Int) := by omega
    have l2 : (pre.length : Int) < ((namesB s).length : Int) := by omega
    have exx : (x.toList == x.toList) = true := by simp
    clear hat hx
    gi_wp2
    exact ⟨⟨hC.set hk (by omega) _, by have h := Boxed.set (.int .i64 ((pre.length : Int) + 1)) hk; simpa using h, by simpa using hzW⟩, (Below.refl _ _).setCell (p := ⟨w3.heap.size + 2, 0, none⟩) (by simp; omega) _, keeps_set _ _ _, fun j h1 h2 => Below.heap_setCell W ⟨w3.heap.size + 2, 0, none⟩ _ j (by simp; omega)⟩
  case stop =>
    rintro D c pre W _ _ h _
    exact h.elim
  case done =>
    rintro D1 W hD1 ⟨hC, hk, hzW⟩ (hK1 : Mark W D1)
    clear hC1 hk0
    have hdk := hk.cell
    have hfk := hk.frozen
    have hd1 := hC.b1.cell
    have lne : (((namesB s).length : Int) != ((namesB s).length : Int)) = false := by simp
    gi_wp2_with fail
    have hC1 := hC.set hk (by omega) (.int .i64 0)
    have hk0 := Boxed.set (.int .i64 0) hk
    have hM1 := hK1.set ⟨w3.heap.size + 2, 0, none⟩ (.int .i64 0)
    have hzL2 : w3.heap.size + 3 ≤ (W.setCell ⟨w3.heap.size + 2, 0, none⟩ (.int .i64 0)).heap.size := by simpa using hzW
    have hDL : D1 < (W.setCell ⟨w3.heap.size + 2, 0, none⟩ (.int .i64 0)).heap.size := (Array.getElem?_eq_some_iff.1 hM1).1
    obtain ⟨wL2, hwL⟩ : ∃ wL, W.setCell ⟨w3.heap.size + 2, 0, none⟩ (.int .i64 0) = wL := ⟨_, rfl⟩
    rw [hwL] at hk0 hC1 hM1 hzL2 hDL ⊢
    clear hwL hC hk hzW hK1 hdk hfk hd1
    refine range_lawD (xs := namesB s) (n₀ := w.heap.size) (d := 1) rfl (enters_of Tryd.func27 (by kernel_rfl) rfl)
      (pieces_gives s (w3.heap.size + 1) w.heap.size _ (by omega) hC1.bs.cell (by omega)) (by omega) (Below.refl _ _)
      (fun pre W => Com w w2.heap.size w3.heap.size (w3.heap.size + 1) r a1 a2 c1 c2 s t W ∧ Boxed W (w3.heap.size + 2) 3 (.int .i64 (pre.length : Nat)) ∧ w3.heap.size + 3 ≤ W.heap.size ∧ Mark W D1)
      (fun c _ W => c = .exit 2 ∧ Com w w2.heap.size w3.heap.size (w3.heap.size + 1) r a1 a2 c1 c2 s t W ∧ (∃ i : Int, Boxed W (w3.heap.size + 2) 3 (.int .i64 i)) ∧ w3.heap.size + 3 ≤ W.heap.size ∧ Mark W D1)
      (fun _ A B row hs hg hr => ⟨hs.1.kept hg hr (by omega), bx hs.2.1 hg hr, Nat.le_trans hs.2.2.1 hg.size, hs.2.2.2.kept hg hr hDL⟩)
      (fun _ _ A B row hs hg hr => by obtain ⟨h0, h1, ⟨i, h2⟩, h3, h4⟩ := hs; exact ⟨h0, h1.kept hg hr (by omega), ⟨i, bx h2 hg hr⟩, Nat.le_trans h3 hg.size, h4.kept hg hr hDL⟩)
      ⟨hC1, hk0, by omega, hM1⟩
      ?b1 ?assign ?body ?done ?stop
    case assign =>
      intro m l x W K hK
      gi_wp2
      exact hK
    case body =>
      rintro m l pre x W ⟨hC, hk, hzW, hm1⟩ hx hz2
      have hat := prefix_at hx
      have hln : pre.length < (namesB s).length := pre_len hx
      obtain ⟨g, ha, hcx⟩ := hC.r1 _ _ hat
      subst ha
      have hdk := hk.cell
      have hfk := hk.frozen
      have hd1 := hC.b1.cell
      have hdq : (W.setCell ⟨w3.heap.size + 2, 0, none⟩ (.int .i64 ((pre.length : Int) + 1))).cell? ⟨w.heap.size, 0, none⟩ = some (.int .i64 r) := (hC.set hk (by omega) _).q.cell
      have l1 : ¬ ((namesB s).length : Int) ≤ (pre.length : Int) := by omega
      have l2 : (pre.length : Int) < ((namesB s).length : Int) := by omega
      have exx : (x.toList == x.toList) = true := by simp
      clear hat hx
      by_cases hr : r ≤ (pre.length : Int) + 1
      · gi_wp2
        exact ⟨⟨rfl, hC.set hk (by omega) _, ⟨_, Boxed.set _ hk⟩, by simpa using hzW, hm1.set _ _⟩, (Below.refl _ _).setCell (p := ⟨w3.heap.size + 2, 0, none⟩) (by simp; omega) _, keeps_set _ _ _, fun j h1 h2 => Below.heap_setCell W ⟨w3.heap.size + 2, 0, none⟩ _ j (by simp; omega)⟩
      · gi_wp2
        exact ⟨⟨hC.set hk (by omega) _, by have h := Boxed.set (.int .i64 ((pre.length : Int) + 1)) hk; simpa using h, by simpa using hzW, hm1.set _ _⟩, (Below.refl _ _).setCell (p := ⟨w3.heap.size + 2, 0, none⟩) (by simp; omega) _, keeps_set _ _ _, fun j h1 h2 => Below.heap_setCell W ⟨w3.heap.size + 2, 0, none⟩ _ j (by simp; omega)⟩
    case' done =>
      rintro D2 W hD2 ⟨hC, hk, hzW, hm1⟩ (hK2 : Mark W D2)
      obtain ⟨i, hi⟩ : ∃ i : Int, ((namesB s).length : Int) = i := ⟨_, rfl⟩
      rw [hi] at hk
      clear hi
      gi_wp2_with fail
    case' stop =>
      rintro D2 c pre W hD2 hpre ⟨rfl, hC, ⟨i, hk⟩, hzW, hm1⟩ (hK2 : Mark W D2)
      gi_wp2_with fail
    all_goals
      clear hC1 hk0 hM1
      have hzD := hK2.lt
      refine ⟨trivial, wd _, ?_⟩
      refine (callsIn_wide.2 (pieces_p _ _)).mono ?_
      rintro e w6 ⟨rfl, hw6⟩
      have hC1 := (hC.alloc (.cells #[.int .i64 0] 3)).alloc (.cells #[.string t] 9)
      have hk1 := (hk.alloc (.cells #[.int .i64 0] 3)).alloc (.cells #[.string t] 9)
      have hj1 := (Boxed.new W 3 (.int .i64 0)).alloc (.cells #[.string t] 9)
      have ht1 : Boxed ((W.alloc (.cells #[.int .i64 0] 3)).alloc (.cells #[.string t] 9)) (W.heap.size + 1) 9 (.string t) := by
        have h := Boxed.new (W.alloc (.cells #[.int .i64 0] 3)) 9 (.string t); rw [World.size_alloc] at h; exact h
      have hM1 := (hm1.alloc (.cells #[.int .i64 0] 3)).alloc (.cells #[.string t] 9)
      have hM2 := (hK2.alloc (.cells #[.int .i64 0] 3)).alloc (.cells #[.string t] 9)
      have hz6 : ((W.alloc (.cells #[.int .i64 0] 3)).alloc (.cells #[.string t] 9)).heap.size = W.heap.size + 2 := by simp
      rw [← hw6] at hC1 hk1 hj1 ht1 hM1 hM2 hz6
      clear hw6 hC hk hm1 hK2
      gi_wp2_with fail
      refine' range_lawD (xs := namesB t) (n₀ := w.heap.size) (d := 1) rfl (enters_of Tryd.func27 (by kernel_rfl) rfl)
        (pieces_gives t (W.heap.size + 1) w.heap.size _ (by omega) ht1.cell (by omega)) (by omega) (Below.refl _ _)
        (fun pre X => Com w w2.heap.size w3.heap.size (w3.heap.size + 1) r a1 a2 c1 c2 s t X ∧ Boxed X (w3.heap.size + 2) 3 (.int .i64 i) ∧ Boxed X W.heap.size 3 (.int .i64 (pre.length : Nat)) ∧ W.heap.size + 2 ≤ X.heap.size ∧ Mark X D1 ∧ Mark X D2)
        (fun _ _ _ => False)
        (fun _ A B row hs hg hr => ⟨hs.1.kept hg hr (by omega), bx hs.2.1 hg hr, bx hs.2.2.1 hg hr, Nat.le_trans hs.2.2.2.1 hg.size, hs.2.2.2.2.1.kept hg hr (by omega), hs.2.2.2.2.2.kept hg hr (by omega)⟩)
        (fun _ _ _ _ _ hs _ _ => hs)
        ⟨hC1, hk1, hj1, by omega, hM1, hM2⟩
        _ ?assign3 ?body3 ?done3 ?stop3
      case assign3 =>
        intro m l x W K hK
        gi_wp2
        exact hK
      case body3 =>
        rintro m l pre x X ⟨hC, hk, hj, hzX, hm1, hm2⟩ hx hz2
        have hat := prefix_at hx
        have hln : pre.length < (namesB t).length := pre_len hx
        obtain ⟨g, ha, hcx⟩ := hC.r2 _ _ hat
        subst ha
        have hdj := hj.cell
        have hfj := hj.frozen
        have hd2 := hC.b2.cell
        have l1 : ¬ ((namesB t).length : Int) ≤ (pre.length : Int) := by omega
        have l2 : (pre.length : Int) < ((namesB t).length : Int) := by omega
        have exx : (x.toList == x.toList) = true := by simp
        clear hat hx
        gi_wp2
        exact ⟨⟨hC.set hj (by omega) _, hk.other (by omega) _, by have h := Boxed.set (.int .i64 ((pre.length : Int) + 1)) hj; simpa using h, by simpa using hzX, hm1.set _ _, hm2.set _ _⟩, (Below.refl _ _).setCell (p := ⟨W.heap.size, 0, none⟩) (by simp; omega) _, keeps_set _ _ _, fun j h1 h2 => Below.heap_setCell X ⟨W.heap.size, 0, none⟩ _ j (by simp; omega)⟩
      case stop3 =>
        rintro D c pre W _ _ h _
        exact h.elim
      case done3 =>
        rintro D3 X hD3 ⟨hC, hk, hj, hzX, hm1, hm2⟩ (hK3 : Mark X D3)
        clear hC1 hk1 hj1 ht1 hM1 hM2
        have hdk := hk.cell
        have hfk := hk.frozen
        gi_wp2_with fail
        have hC1 := hC.set hk (by omega) (.int .i64 0)
        have hk1 := Boxed.set (.int .i64 0) hk
        have hj1 := hj.other (B' := w3.heap.size + 2) (by omega) (.int .i64 0)
        have hM1 := hm1.set ⟨w3.heap.size + 2, 0, none⟩ (.int .i64 0)
        have hM2 := hm2.set ⟨w3.heap.size + 2, 0, none⟩ (.int .i64 0)
        have hM3 := hK3.set ⟨w3.heap.size + 2, 0, none⟩ (.int .i64 0)
        have hzX2 : W.heap.size + 2 ≤ (X.setCell ⟨w3.heap.size + 2, 0, none⟩ (.int .i64 0)).heap.size := by simpa using hzX
        obtain ⟨X2, hX2⟩ : ∃ wL, X.setCell ⟨w3.heap.size + 2, 0, none⟩ (.int .i64 0) = wL := ⟨_, rfl⟩
        rw [hX2] at hC1 hk1 hj1 hM1 hM2 hM3 hzX2 ⊢
        clear hX2 hC hk hj hzX hm1 hm2 hK3 hfk hdk
        have hz3 := hM3.lt
        refine' range_lawD (xs := namesB s) (n₀ := w.heap.size) (d := 1) rfl (enters_of Tryd.func27 (by kernel_rfl) rfl)
          (pieces_gives s (w3.heap.size + 1) w.heap.size _ (by omega) hC1.bs.cell (by omega)) (by omega) (Below.refl _ _)
          (fun pre Y => Com w w2.heap.size w3.heap.size (w3.heap.size + 1) r a1 a2 c1 c2 s t Y ∧ Boxed Y (w3.heap.size + 2) 3 (.int .i64 (pre.length : Nat)) ∧ Boxed Y W.heap.size 3 (.int .i64 ((namesB t).length : Nat)) ∧ W.heap.size + 2 ≤ Y.heap.size ∧ Mark Y D1 ∧ Mark Y D2 ∧ Mark Y D3)
          (fun _ _ _ => False)
          (fun _ A B row hs hg hr => ⟨hs.1.kept hg hr (by omega), bx hs.2.1 hg hr, bx hs.2.2.1 hg hr, Nat.le_trans hs.2.2.2.1 hg.size, hs.2.2.2.2.1.kept hg hr (by omega), hs.2.2.2.2.2.1.kept hg hr (by omega), hs.2.2.2.2.2.2.kept hg hr (by omega)⟩)
          (fun _ _ _ _ _ hs _ _ => hs)
          ⟨hC1, hk1, hj1, by omega, hM1, hM2, hM3⟩
          _ ?assign4 ?body4 ?done4 ?stop4
        case assign4 =>
          intro m l x W K hK
          gi_wp2
          exact hK
        case body4 =>
          rintro m l pre x Y ⟨hC, hk, hj, hzY, hm1, hm2, hm3⟩ hx hz2
          have hat := prefix_at hx
          have hln : pre.length < (namesB s).length := pre_len hx
          obtain ⟨g, ha, hcx⟩ := hC.r1 _ _ hat
          subst ha
          have hdk := hk.cell
          have hfk := hk.frozen
          have hd1 := hC.b1.cell
          have l1 : ¬ ((namesB s).length : Int) ≤ (pre.length : Int) := by omega
          have l2 : (pre.length : Int) < ((namesB s).length : Int) := by omega
          have exx : (x.toList == x.toList) = true := by simp
          clear hat hx
          gi_wp2
          exact ⟨⟨hC.set hk (by omega) _, by have h := Boxed.set (.int .i64 ((pre.length : Int) + 1)) hk; simpa using h, hj.other (by omega) _, by simpa using hzY, hm1.set _ _, hm2.set _ _, hm3.set _ _⟩, (Below.refl _ _).setCell (p := ⟨w3.heap.size + 2, 0, none⟩) (by simp; omega) _, keeps_set _ _ _, fun j h1 h2 => Below.heap_setCell Y ⟨w3.heap.size + 2, 0, none⟩ _ j (by simp; omega)⟩
        case stop4 =>
          rintro D c pre W _ _ h _
          exact h.elim
        case done4 =>
          rintro D4 Y hD4 ⟨hC, hk, hj, hzY, hm1, hm2, hm3⟩ (hK4 : Mark Y D4)
          clear hC1 hk1 hj1 hM1 hM2 hM3
          have hdk := hk.cell
          have hdj := hj.cell
          have hd1 := hC.b1.cell
          have hd2 := hC.b2.cell
          have hdr := hC.r.cell
          have hfr := hC.r.frozen
          have e1 : (((namesB s).length : Int) == ((namesB s).length : Int)) = true := by simp
          have e2 : (((namesB t).length : Int) == ((namesB t).length : Int)) = true := by simp
          gi_wp2
          have n4 := hK4.set ⟨w.heap.size + 1, 0, none⟩ (.bool true)
          have n3 := (hm3.set ⟨w.heap.size + 1, 0, none⟩ (.bool true)).put (E := D4) (by omega) (.deferred none)
          have n2 := ((hm2.set ⟨w.heap.size + 1, 0, none⟩ (.bool true)).put (E := D4) (by omega) (.deferred none)).put (E := D3) (by omega) (.deferred none)
          have n1 := (((hm1.set ⟨w.heap.size + 1, 0, none⟩ (.bool true)).put (E := D4) (by omega) (.deferred none)).put (E := D3) (by omega) (.deferred none)).put (E := D2) (by omega) (.deferred none)
          have hc5 := (boxed_put (.deferred none) (boxed_put (.deferred none) (boxed_put (.deferred none) (boxed_put (.deferred none) (Boxed.set (.bool true) hC.r) n4 rfl) n3 rfl) n2 rfl) n1 rfl).cell
          refine ⟨by simp, .inl ⟨_, _, rfl, run_takeDeferred n4, ?_⟩⟩
          refine ⟨by simp, .inl ⟨_, _, rfl, run_takeDeferred n3, ?_⟩⟩
          refine ⟨by simp, .inl ⟨_, _, rfl, run_takeDeferred n2, ?_⟩⟩
          refine ⟨by simp, .inl ⟨_, _, rfl, run_takeDeferred n1, ?_⟩⟩
          exact ⟨.bool true, by simp [results, Tryd.f3, go_sem, hc5], rfl, ((((hC.bel.setCell (p := ⟨w.heap.size + 1, 0, none⟩) (by simp) _).trans (putLoop_below _ n4 (by omega))).trans (putLoop_below _ n3 (by omega))).trans (putLoop_below _ n2 (by omega))).trans (putLoop_below _ n1 (by omega))⟩
end Go.Proofs.YtlbckjdlfdiceabDoor
