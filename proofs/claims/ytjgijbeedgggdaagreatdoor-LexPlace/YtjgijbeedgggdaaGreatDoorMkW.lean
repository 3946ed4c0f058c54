/- Marks in memory; what join holds. -/
import Derived.Test.YtjgijbeedgggdaaGreatDoorJnM
import Derived.Test.YtjgijbeedgggdaaGreatDoorBld
import Derived.Lib.BufferKept
namespace Go.Proofs.YtjgijbeedgggdaaGreatDoor
open Go Go.RowKit

def mcs (m : Mk) : List Value := [.int .i64 m.pos, .int .i64 m.line, .int .i64 m.col]
def mcells (ms : List Mk) : List Value := ms.flatMap mcs
theorem mcells_append (a b : List Mk) : mcells (a ++ b) = mcells a ++ mcells b := by simp [mcells]
theorem mk_info : (Tryz.prog.info? 73).map (fun i => (i.zero, i.size, i.bytes)) = some (some (.agg #[.int .i64 0, .int .i64 0, .int .i64 0]), 3, 24) := by kernel_rfl
theorem ln_info : (Tryz.prog.info? 64).map (·.size) = some 4 := by kernel_rfl
/-- A line of the build file, as cells. -/
def lnC (n : Nat) (t : ByteArray) (m d : Value) : Array Value := #[.int .i64 n, .string t, m, d]
abbrev nilS : Value := .slice none 0 0
theorem wp_append_row {P : Program} (w : World) {o : Oper} {a : Act} {K : Act → World → Prop} {Q : Exit → Act → World → Prop}
    (s x : Operand) (t : TypeId) (hop : o.op = Op.call { callee := Callee.builtin Builtin.append, args := #[s, x], argTypes := #[t, t] })
    (base : Nat) (e : TypeId) (i : TypeInfo) (z : Value) (size bytes : Nat) (h1 : P.underlying t = some (.slice e)) (h2 : P.info? e = some i) (h3 : i.zero = some z) (h4 : i.size = size) (h5 : i.bytes = bytes) (h6 : z.cells.size = size) (h7 : 0 < size)
    (v : Value) (k : Nat) (xs : List Value) (hs : a.eval s = v) (hown : w.ownsRow base e size v k xs) (ad : Addr) (m c : Nat) (news : List Value) (hx : a.eval x = .slice (some ad) m c) (hn : news.length = m * size)
    (hc : ∀ j u, news[j]? = some u → w.cell? (ad.add j) = some u) (h1c : ∀ u ∈ news, u.oneCell' = true) (b1 : k + m ≤ maxLen) (b2 : (k + m) * bytes ≤ 140737488355328) (b3 : base ≤ w.heap.size)
    (hK : ∀ v' w', w'.ownsRow base e size v' (k + m) (xs ++ news) → w.grownBy w' v.ownBlock → K (a.put o.dst v') w') :
    Oper.wp P o a w K Q := by
  obtain ⟨v', w', hr, r1, r2, _, _⟩ := run_append_own_at (P := P) w base t o.type e i z size bytes h1 h2 h3 h4 h5 h6 h7 v k xs hown ad m c news hn hc h1c b1 b2 b3
  unfold Oper.wp execOp
  simp only [hop, resolve, invoke, builtin, Sem.run_bind, Sem.run_pure, Result.andThen_ok, List.map_toArray, List.map_cons, List.map_nil, hs, hx, hr]
  exact hK v' w' r1 r2
theorem cells_new (W : World) (t : TypeId) (l : List Value) : ∀ (j : Nat) u, l[j]? = some u → (W.alloc (.cells l.toArray t)).cell? ((⟨W.heap.size, 0, none⟩ : Addr).add j) = some u := by
  intro j u hj
  have h := Lies.new W t l.toArray
  have := h.cell (i := j) (v := u) (by simpa using hj)
  have e : (⟨W.heap.size, 0, none⟩ : Addr).add j = ⟨W.heap.size, j, none⟩ := by simp [Addr.add]; exact fun h => h.symm
  rw [e]; exact this
/-- An own row stays where its block does. -/
theorem own_keep {A B : World} {base e size n : Nat} {v : Value} {xs : List Value} (h : A.ownsRow base e size v n xs) (hk : ∀ g cur, base ≤ g → A.heap[g]? = some (.cells cur e (0, 0)) → some g = v.ownBlock → B.heap[g]? = A.heap[g]?) : B.ownsRow base e size v n xs := by
  refine ⟨h.1, ?_⟩
  rcases h.2 with hn | ⟨g, cap, cur, rfl, hg, hgg, rest⟩
  · exact .inl hn
  · exact .inr ⟨g, cap, cur, rfl, hg, (hk g cur hg hgg (by simp [Value.ownBlock])).trans hgg, rest⟩
theorem own_ge1 {W : World} {base e size k : Nat} {v : Value} {xs : List Value} (h : W.ownsRow base e size v k xs) : ∀ j, some j = v.ownBlock → base ≤ j := by
  intro j hj
  rcases h.2 with ⟨rfl, _⟩ | ⟨g, cap, cur, rfl, hg, hgb, _⟩
  · simp [Value.ownBlock] at hj
  · simp [Value.ownBlock] at hj; subst hj; exact hg
theorem own_sl {w : World} {B e n sz : Nat} {v : Value} {cs : List Value} (h : w.ownsRow B e sz v n cs) : ∃ a k c, v = .slice a k c := by
  rcases h.2 with ⟨rfl, _⟩ | ⟨g, cap, cur, rfl, _⟩
  · exact ⟨_, _, _, rfl⟩
  · exact ⟨_, _, _, rfl⟩
/-- What join holds in memory. -/
structure JW (w : World) (B gR gT gJ gH : Nat) (ln : Nat) (s : ByteArray) (q c hn : Nat) (hx : ByteArray) (u : Value) (M : List Mk) (T : Ln) (W : World) : Prop where
  oth : Oth B w W
  rd : Rd W B s q c
  res : Lies W gR 64 (lnC 0 ⟨#[]⟩ nilS nilS)
  bld : Bld gT gT T W
  jn : Lies W gJ 64 (lnC ln ⟨#[]⟩ u nilS)
  hr : Lies W gH 155 (flC hn hx)
  own : W.ownsRow w.heap.size 73 3 u M.length (mcells M)
/-- The blocks lie apart. -/
structure JB (w : World) (B gR gT gJ gH : Nat) : Prop where
  b : B < w.heap.size
  r : w.heap.size ≤ gR
  t : w.heap.size ≤ gT
  j : w.heap.size ≤ gJ
  h : w.heap.size ≤ gH
  rt : gR ≠ gT
  rj : gR ≠ gJ
  rh : gR ≠ gH
  tj : gT ≠ gJ
  th : gT ≠ gH
  jh : gJ ≠ gH
variable {w W W' : World} {B gR gT gJ gH ln q c hn : Nat} {s hx : ByteArray} {u : Value} {M : List Mk} {T : Ln}
theorem JW.below (h : JW w B gR gT gJ gH ln s q c hn hx u M T W) (hb : Below W.heap.size W W') : JW w B gR gT gJ gH ln s q c hn hx u M T W' :=
  ⟨h.oth.on hb, h.rd.below hb, h.res.below hb, bld_below h.bld hb, h.jn.below hb, h.hr.below hb, own_below h.own hb⟩
theorem bld_oth {B gT : Nat} {T : Ln} (h : Bld gT gT T W) (ho : Oth B W W') (hne : B < gT) : Bld gT gT T W' := by
  have key : ∀ p, Lib.BuilderAt 258 5 gT gT p (Lib.byteCells T) W → Lib.BuilderAt 258 5 gT gT p (Lib.byteCells T) W' := by
    rintro p ⟨h1, v, h2, h3, h4⟩
    exact ⟨h1, v, (ho.block gT (Array.getElem?_eq_some_iff.1 h2).1 (by omega)).trans h2, own_keep h3 (fun g cur hg hgg _ => ho.block g (Array.getElem?_eq_some_iff.1 hgg).1 (by omega)), h4⟩
  rcases h with h | h
  · exact .inl (key _ h)
  · exact .inr (key _ h)
theorem JW.reader (h : JW w B gR gT gJ gH ln s q c hn hx u M T W) (hB : JB w B gR gT gJ gH) (ho : Oth B W W') {q2 c2 : Nat} (hr : Rd W' B s q2 c2) : JW w B gR gT gJ gH ln s q2 c2 hn hx u M T W' := by
  have := hB.b; have := hB.r; have := hB.t; have := hB.j; have := hB.h
  exact ⟨h.oth.trans ho, hr, ho.lies h.res (by omega), bld_oth h.bld ho (by omega), ho.lies h.jn (by omega), ho.lies h.hr (by omega), own_keep h.own (fun g cur hg hgg _ => ho.block g (Array.getElem?_eq_some_iff.1 hgg).1 (by omega))⟩
theorem kept_lies {e : TypeId} {b g : Nat} {t : TypeId} {cur : Array Value} (hk : Lib.OthersKept e (some b) W W') (h : Lies W g t cur) (hb : g ≠ b) (ht : t ≠ e) : Lies W' g t cur :=
  hk g _ h (fun e => hb (Option.some.inj e)) (fun c fz e => by injection e with _ e2 _; exact ht e2)
theorem bld_tag {B b : Nat} {T : Ln} (h : Bld B b T W) : ∃ cur, W.heap[b]? = some (.cells cur 258 (0, 0)) := by
  rcases h with ⟨_, v, h2, _⟩ | ⟨_, v, h2, _⟩
  · exact ⟨_, h2⟩
  · exact ⟨_, h2⟩
theorem JW.wrote (h : JW w B gR gT gJ gH ln s q c hn hx u M T W) (hB : JB w B gR gT gJ gH) {T2 : Ln} (hb : Bld gT gT T2 W') (hl : Below gT W W') (hk : Lib.OthersKept 5 (some gT) W W') : JW w B gR gT gJ gH ln s q c hn hx u M T2 W' := by
  have := hB.b; have := hB.t
  refine ⟨⟨hl.os.trans h.oth.os, hl.tape.trans h.oth.tape, hl.output.trans h.oth.output, Nat.le_trans h.oth.size hl.size, fun k h1 h2 => (hl.block k (by omega)).trans (h.oth.block k h1 h2)⟩, kept_lies hk h.rd (by omega) (by decide), kept_lies hk h.res hB.rt (by decide), hb, kept_lies hk h.jn (fun e => hB.tj e.symm) (by decide), kept_lies hk h.hr (fun e => hB.th e.symm) (by decide), own_keep h.own (fun g cur hg hgg _ => ?_)⟩
  refine (hk g _ hgg ?_ (fun c fz e => by injection e with _ e2 _; revert e2; decide)).trans hgg.symm
  intro e
  have e1 := Option.some.inj e
  obtain ⟨c2, h2⟩ := bld_tag h.bld
  rw [← e1, hgg] at h2
  injection h2 with h3
  injection h3 with _ h4 _
  revert h4; decide
/-- Behind the builder's String. -/
theorem JW.told (h : JW w B gR gT gJ gH ln s q c hn hx u M T W) (hB : JB w B gR gT gJ gH) (hl : Below gT W W') (hk : Lib.OthersKept 5 (some gT) W W') : Oth B w W' ∧ Rd W' B s q c ∧ Lies W' gR 64 (lnC 0 ⟨#[]⟩ nilS nilS) ∧ Lies W' gJ 64 (lnC ln ⟨#[]⟩ u nilS) ∧ W'.ownsRow w.heap.size 73 3 u M.length (mcells M) := by
  have := hB.b; have := hB.t
  refine ⟨⟨hl.os.trans h.oth.os, hl.tape.trans h.oth.tape, hl.output.trans h.oth.output, Nat.le_trans h.oth.size hl.size, fun k h1 h2 => (hl.block k (by omega)).trans (h.oth.block k h1 h2)⟩, kept_lies hk h.rd (by omega) (by decide), kept_lies hk h.res hB.rt (by decide), kept_lies hk h.jn (fun e => hB.tj e.symm) (by decide), own_keep h.own (fun g cur hg hgg _ => ?_)⟩
  refine (hk g _ hgg ?_ (fun c fz e => by injection e with _ e2 _; revert e2; decide)).trans hgg.symm
  intro e
  have e1 := Option.some.inj e
  obtain ⟨c2, h2⟩ := bld_tag h.bld
  rw [← e1, hgg] at h2
  injection h2 with h3
  injection h3 with _ h4 _
  revert h4; decide
theorem ln_one (n : Nat) (t : ByteArray) (u : Value) (hu : ∃ a k c, u = .slice a k c) : (lnC n t u nilS).all (·.oneCell') = true := by
  obtain ⟨a, k, c, rfl⟩ := hu
  simp [lnC, Value.oneCell']
/-- Here is the next line. -/
theorem JW.next (h : JW w B gR gT gJ gH ln s q c hn hx u M T W) (hB : JB w B gR gT gJ gH) (n2 : Nat) (x2 : ByteArray) : JW w B gR gT gJ gH ln s q c n2 x2 u M T (W.setRow gH (flC n2 x2)) := by
  have := hB.b; have := hB.h
  have hT : ∀ (g : Nat) (cur : Array Value) (e : TypeId), e ≠ 155 → W.heap[g]? = some (Obj.cells cur e (0, 0)) → (W.setRow gH (flC n2 x2)).heap[g]? = W.heap[g]? := fun g cur e he hg => setRow_other W gH g _ (fun eq => by
    subst eq
    have h2 := h.hr
    unfold Lies at h2
    rw [hg] at h2
    injection h2 with h3
    injection h3 with _ h4 _
    exact he h4)
  have hbld : Bld gT gT T (W.setRow gH (flC n2 x2)) := by
    have key : ∀ p, Lib.BuilderAt 258 5 gT gT p (Lib.byteCells T) W → Lib.BuilderAt 258 5 gT gT p (Lib.byteCells T) (W.setRow gH (flC n2 x2)) := by
      rintro p ⟨h1, v, h2, h3, h4⟩
      exact ⟨h1, v, (hT gT _ _ (by decide) h2).trans h2, own_keep h3 (fun g cur hg hgg _ => hT g cur _ (by decide) hgg), h4⟩
    rcases h.bld with h | h
    · exact .inl (key _ h)
    · exact .inr (key _ h)
  exact ⟨h.oth.row hB.h _, lies_setRow' h.rd (by omega) _, lies_setRow' h.res hB.rh _, hbld, lies_setRow' h.jn hB.jh _, lies_setRow h.hr _, own_keep h.own (fun g cur hg hgg _ => hT g cur _ (by decide) hgg)⟩
theorem bld_lt {B b : Nat} {T : Ln} (h : Bld B b T W) : b < W.heap.size := by
  obtain ⟨cur, h2⟩ := bld_tag h
  exact (Array.getElem?_eq_some_iff.1 h2).1
theorem JW.grew (h : JW w B gR gT gJ gH ln s q c hn hx u M T W) (hg : W.grownBy W' u.ownBlock) : Lies W' gJ 64 (lnC ln ⟨#[]⟩ u nilS) ∧ Lies W' gH 155 (flC hn hx) := by
  have hT : ∀ (g : Nat) (cur : Array Value) (e : TypeId), e ≠ 73 → W.heap[g]? = some (Obj.cells cur e (0, 0)) → W'.heap[g]? = W.heap[g]? := fun g cur e he hgg => hg.block g (Array.getElem?_eq_some_iff.1 hgg).1 (fun eq => by
    obtain ⟨c2, h2⟩ := own_tag h.own g eq
    rw [hgg] at h2
    injection h2 with h3
    injection h3 with _ h4 _
    exact he h4)
  exact ⟨(hT gJ _ _ (by decide) h.jn).trans h.jn, (hT gH _ _ (by decide) h.hr).trans h.hr⟩
/-- One more mark: the row has grown, the joined line holds it. -/
theorem JW.mark (h : JW w B gR gT gJ gH ln s q c hn hx u M T W) (hB : JB w B gR gT gJ gH) (m : Mk) {u' : Value} (hg : W.grownBy W' u.ownBlock) (ho : W'.ownsRow w.heap.size 73 3 u' (M.length + 1) (mcells M ++ mcs m)) : JW w B gR gT gJ gH ln s q c hn hx u' (M ++ [m]) T (W'.setCell ⟨gJ, 2, none⟩ u') := by
  have := hB.b; have := hB.j; have := hB.t; have := hB.r; have := hB.h
  have hT : ∀ (g : Nat) (cur : Array Value) (e : TypeId), e ≠ 73 → W.heap[g]? = some (Obj.cells cur e (0, 0)) → W'.heap[g]? = W.heap[g]? := fun g cur e he hgg => hg.block g (Array.getElem?_eq_some_iff.1 hgg).1 (fun eq => by
    obtain ⟨c2, h2⟩ := own_tag h.own g eq
    rw [hgg] at h2
    injection h2 with h3
    injection h3 with _ h4 _
    exact he h4)
  have hT2 : ∀ (g : Nat) (cur : Array Value) (e : TypeId), e ≠ 73 → g ≠ gJ → W.heap[g]? = some (Obj.cells cur e (0, 0)) → (W'.setCell ⟨gJ, 2, none⟩ u').heap[g]? = W.heap[g]? := fun g cur e he hn hgg => (Below.heap_setCell W' ⟨gJ, 2, none⟩ u' g hn).trans (hT g cur e he hgg)
  have hbld : Bld gT gT T (W'.setCell ⟨gJ, 2, none⟩ u') := by
    have key : ∀ p, Lib.BuilderAt 258 5 gT gT p (Lib.byteCells T) W → Lib.BuilderAt 258 5 gT gT p (Lib.byteCells T) (W'.setCell ⟨gJ, 2, none⟩ u') := by
      rintro p ⟨h1, v, h2, h3, h4⟩
      refine ⟨h1, v, (hT2 gT _ _ (by decide) hB.tj h2).trans h2, own_keep h3 (fun g cur hg hgg _ => hT2 g cur _ (by decide) (fun eq => ?_) hgg), h4⟩
      subst eq
      have h5 := h.jn
      unfold Lies at h5
      rw [hgg] at h5
      injection h5 with h6
      injection h6 with _ h7 _
      revert h7; decide
    rcases h.bld with h | h
    · exact .inl (key _ h)
    · exact .inr (key _ h)
  have hjn : Lies W' gJ 64 (lnC ln ⟨#[]⟩ u nilS) := (hT gJ _ _ (by decide) h.jn).trans h.jn
  refine ⟨?_, (hT2 B _ _ (by decide) (by omega) h.rd).trans h.rd, (hT2 gR _ _ (by decide) hB.rj h.res).trans h.res, hbld, Lies.set (i := 2) hjn u', (hT2 gH _ _ (by decide) (fun e => hB.jh e.symm) h.hr).trans h.hr, ?_⟩
  · have hb : Below w.heap.size W (W'.setCell ⟨gJ, 2, none⟩ u') := ((Below.refl _ W).grown hg h.oth.size (fun k hk => (own_ge1 h.own k hk.symm))).setCell (p := ⟨gJ, 2, none⟩) hB.j u'
    exact ⟨hb.os.trans h.oth.os, hb.tape.trans h.oth.tape, hb.output.trans h.oth.output, Nat.le_trans h.oth.size hb.size, fun k h1 h2 => (hb.block k h1).trans (h.oth.block k h1 h2)⟩
  · rw [mcells_append, show mcells [m] = mcs m by simp [mcells], List.length_append, List.length_singleton]
    refine own_keep ho (fun g cur hg hgg _ => Below.heap_setCell W' ⟨gJ, 2, none⟩ u' g (fun eq => ?_))
    subst eq
    unfold Lies at hjn
    rw [hgg] at hjn
    injection hjn with h6
    injection h6 with _ h7 _
    revert h7; decide
end Go.Proofs.YtjgijbeedgggdaaGreatDoor
