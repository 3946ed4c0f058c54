/- Marks that are read; the program's Place. -/
import Derived.Test.YtjgijbeedgggdaaGreatDoorMkW
import Derived.Deep.DeepCutAuto
namespace Go.Proofs.YtjgijbeedgggdaaGreatDoor
open Go Go.RowKit

structure MkZ where
  pos : Int
  line : Int
  col : Int
structure MkC (W : World) (b q : Nat) (e : MkZ) : Prop where
  c0 : W.cell? ⟨b, q, none⟩ = some (.int .i64 e.pos)
  c1 : W.cell? ⟨b, q + 1, none⟩ = some (.int .i64 e.line)
  c2 : W.cell? ⟨b, q + 2, none⟩ = some (.int .i64 e.col)
theorem MkC.below {W W2 : World} {b q : Nat} {e : MkZ} (h : MkC W b q e) (hb : Below W.heap.size W W2) : MkC W2 b q e := by
  have hl := World.block_lt_of_cell? W _ h.c0
  exact ⟨(hb.cell (p := ⟨b, q, none⟩) hl).trans h.c0, (hb.cell (p := ⟨b, q + 1, none⟩) hl).trans h.c1, (hb.cell (p := ⟨b, q + 2, none⟩) hl).trans h.c2⟩
/-- A list of marks. -/
def MksAt (W : World) (v : Value) (es : List MkZ) : Prop :=
  ∃ (a : Option Addr) (cap b o : Nat), v = .slice a es.length cap ∧ (es ≠ [] → a = some ⟨b, o, none⟩) ∧ es.length ≤ cap ∧ ∀ i e, es[i]? = some e → MkC W b (o + i * 3) e
theorem MksAt.below {W W2 : World} {v : Value} {es : List MkZ} (h : MksAt W v es) (hb : Below W.heap.size W W2) : MksAt W2 v es := by
  obtain ⟨a, cap, b, o, h1, h2, h3, h4⟩ := h
  exact ⟨a, cap, b, o, h1, h2, h3, fun i e he => (h4 i e he).below hb⟩
def Mk.z (m : Mk) : MkZ := ⟨m.pos, m.line, m.col⟩
theorem mcells_length (es : List Mk) : (mcells es).length = es.length * 3 := by
  induction es with
  | nil => rfl
  | cons e es ih => show (mcs e ++ mcells es).length = _; rw [List.length_append, ih, List.length_cons]; show 3 + _ = _; omega
theorem mcells_get : ∀ (es : List Mk) (k : Nat) (e : Mk), es[k]? = some e → ∀ j v, (mcs e)[j]? = some v → (mcells es)[k * 3 + j]? = some v
  | [], k, e, h, j, v, hj => by simp at h
  | x :: es, 0, e, h, j, v, hj => by
    simp at h; subst h
    have hl := (List.getElem?_eq_some_iff.1 hj).1
    show (mcs x ++ mcells es)[0 * 3 + j]? = some v
    rw [Nat.zero_mul, Nat.zero_add, List.getElem?_append_left hl]; exact hj
  | x :: es, k + 1, e, h, j, v, hj => by
    show (mcs x ++ mcells es)[(k + 1) * 3 + j]? = some v
    rw [List.getElem?_append_right (by show 3 ≤ _; omega), show (k + 1) * 3 + j - (mcs x).length = k * 3 + j by show _ - 3 = _; omega]
    exact mcells_get es k e (by simpa using h) j v hj
theorem mks_of_owns {W : World} {base : Nat} {v : Value} {es : List Mk} (h : W.ownsRow base 73 3 v es.length (mcells es)) : MksAt W v (es.map Mk.z) := by
  rcases h.2 with ⟨rfl, h0⟩ | ⟨g, cap, cur, rfl, hg, hgb, hcap, _⟩
  · have : es = [] := List.eq_nil_of_length_eq_zero h0
    subst this
    exact ⟨none, 0, 0, 0, rfl, fun h => absurd rfl h, Nat.le_refl _, fun i e he => by simp at he⟩
  · refine ⟨some ⟨g, 0, none⟩, cap, g, 0, by rw [List.length_map], fun _ => rfl, by rw [List.length_map]; exact hcap, fun i e he => ?_⟩
    rw [List.getElem?_map] at he
    obtain ⟨m, hm, rfl⟩ := Option.map_eq_some_iff.1 he
    have hi := (List.getElem?_eq_some_iff.1 hm).1
    have hc : ∀ j v, (mcs m)[j]? = some v → W.cell? ⟨g, 0 + i * 3 + j, none⟩ = some v := fun j v hj => by
      have hj2 : j < 3 := (List.getElem?_eq_some_iff.1 hj).1
      rw [Nat.zero_add, h.cellAt (i * 3 + j) (by omega)]
      exact mcells_get es i m hm j v hj
    exact ⟨hc 0 _ rfl, hc 1 _ rfl, hc 2 _ rfl⟩
/-- The place that marks tell of a byte. -/
def placeZ : List MkZ → Int → Int × Int → Int × Int
  | [], _, p => p
  | q :: r, k, p => placeZ r k (if q.pos ≤ k then (q.line, wrap64 (wrap64 (q.col + k) - q.pos)) else p)
theorem placeZ_snoc : ∀ (l : List MkZ) (m : MkZ) (k : Int) (p : Int × Int), placeZ (l ++ [m]) k p = if m.pos ≤ k then (m.line, wrap64 (wrap64 (m.col + k) - m.pos)) else placeZ l k p
  | [], m, k, p => rfl
  | q :: l, m, k, p => by
    rw [List.cons_append, placeZ, placeZ_snoc l]; rfl
/-- The byte that is asked for. -/
def atZ (t : ByteArray) (k : Int) : Int := min (max k 0) t.size
theorem mk_size : (Tryz.prog.info? 73).map (·.size) = some 3 := by kernel_rfl
set_option maxRecDepth 100000 in
set_option maxHeartbeats 2000000 in
theorem place_z (n : Int) (t : ByteArray) (u d : Value) (ms : List MkZ) (k : Int) (w : World) (hu : MksAt w u ms) (hs : t.size ≤ 1099511627776) (hl : ms.length ≤ 1099511627776) :
    Calls Tryz.prog 19 #[.agg #[.int .i64 n, .string t, u, d], .int .i64 k] w fun e w' => e = .returned (.tuple #[.int .i64 (placeZ ms (atZ t k) (n, atZ t k + 1)).1, .int .i64 (placeZ ms (atZ t k) (n, atZ t k + 1)).2]) ∧ Below w.heap.size w w' := by
  obtain ⟨a, cap, b, o, rfl, ha, hcap, hc⟩ := hu
  have hB0 : Below w.heap.size w (w.alloc (.cells #[.int .i64 n, .string t, .slice a ms.length cap, d] 64)) := (Below.refl _ w).alloc (Nat.le_refl _) _
  have HC : Hid (∀ W, Below w.heap.size w W → ∀ i e, ms[i]? = some e → MkC W b (o + i * 3) e) := fun W hW i e he => (hc i e he).below hW
  clear hc
  have hat0 : 0 ≤ atZ t k := by unfold atZ; omega
  have hat1 : atZ t k ≤ t.size := by unfold atZ; omega
  have hw1 : IntKind.i64.wrap (atZ t k + 1) = atZ t k + 1 := wrap_small _ (by omega) (by omega)
  have hAt : min (max k 0) (t.size : Int) = atZ t k := rfl
  generalize atZ t k = K at *
  go_enter Tryz.func19, Tryz.ntmps19
  go_wp2
  go_loopw [6, 7, 23] (fun v6 v7 v23 wr => ∃ j : Nat, j ≤ ms.length ∧ v23 = .int .i64 j ∧ v6 = .int .i64 (placeZ (ms.take j) K (n, K + 1)).1 ∧ v7 = .int .i64 (placeZ (ms.take j) K (n, K + 1)).2 ∧ Below w.heap.size w wr) (fun _ _ v23 _ => ms.length - (intOf v23).toNat)
  case atStart => exact ⟨0, Nat.zero_le _, rfl, rfl, rfl, hB0⟩
  case round =>
    obtain ⟨j, hj, rfl, rfl, rfl, hB1⟩ := hrel
    rcases Nat.lt_or_ge j ms.length with hlt | hge
    · obtain ⟨m, hm⟩ : ∃ m, ms[j]? = some m := ⟨_, List.getElem?_eq_getElem hlt⟩
      obtain ⟨c0, c1, c2⟩ := HC.out wr hB1 j m hm
      have ha' := ha (fun e => by rw [e] at hlt; exact absurd hlt (Nat.not_lt_zero _))
      subst ha'
      have d0 : (0 : Int) ≤ (j : Int) := by omega
      have d1 : (j : Int) < (ms.length : Int) := by omega
      have hT : Hid (ms.take (j + 1) = ms.take j ++ [m]) := by unfold Hid; rw [List.take_add_one, hm]; rfl
      have L2 := Lies.new wr 73 #[.int .i64 m.pos, .int .i64 m.line, .int .i64 m.col]
      have B2 := below_join hB1 ((Below.refl _ wr).alloc (Nat.le_refl _) (.cells #[.int .i64 m.pos, .int .i64 m.line, .int .i64 m.col] 73))
      generalize hw2 : wr.alloc (.cells #[.int .i64 m.pos, .int .i64 m.line, .int .i64 m.col] 73) = w2 at *
      have k0 : w2.cell? ⟨wr.heap.size, 0, none⟩ = some (.int .i64 m.pos) := L2.cell (i := 0) rfl
      have k1 : w2.cell? ⟨wr.heap.size, 1, none⟩ = some (.int .i64 m.line) := L2.cell (i := 1) rfl
      have k2 : w2.cell? ⟨wr.heap.size, 2, none⟩ = some (.int .i64 m.col) := L2.cell (i := 2) rfl
      by_cases hle : m.pos ≤ K
      · go_upto_region 6 with fail
        try rw [hw2]
        go_upto_region 7 with fail
        go_quiet (fail)
        go_wp2
        go_roundw
        case rel => exact ⟨j + 1, by omega, by go_num, by rw [hT.out, placeZ_snoc, if_pos hle], by rw [hT.out, placeZ_snoc, if_pos hle], below_drawn B2 _⟩
        case measure => simp [intOf]; omega
      · go_upto_region 6 with fail
        try rw [hw2]
        go_wp2
        go_roundw
        case rel => exact ⟨j + 1, by omega, by go_num, by rw [hT.out, placeZ_snoc, if_neg hle], by rw [hT.out, placeZ_snoc, if_neg hle], B2⟩
        case measure => simp [intOf]; omega
    · obtain rfl : j = ms.length := by omega
      rw [List.take_length]
      go_wp2
      go_ret2
      exact ⟨rfl, hB1⟩
theorem wrap64_small (n : Int) (h0 : -4611686018427387904 ≤ n) (h1 : n ≤ 4611686018427387904) : wrap64 n = n := by unfold wrap64; omega
/-- Of marks that are small numbers, the place is the one that is told purely. -/
theorem placeZ_nat : ∀ (ms : List Mk) (k : Nat) (p : Nat × Nat), k ≤ 1099511627776 → (∀ m ∈ ms, m.pos ≤ 1099511627776 ∧ m.col ≤ 1099511627776) → placeZ (ms.map Mk.z) k ((p.1 : Int), (p.2 : Int)) = (((placeG ms k p).1 : Int), ((placeG ms k p).2 : Int))
  | [], k, p, _, _ => rfl
  | m :: r, k, p, hk, hm => by
    have ⟨h1, h2⟩ := hm m List.mem_cons_self
    show placeZ (r.map Mk.z) k (if (m.pos : Int) ≤ (k : Int) then ((m.line : Int), wrap64 (wrap64 ((m.col : Int) + k) - m.pos)) else ((p.1 : Int), (p.2 : Int))) = _
    rw [placeG]
    by_cases hle : m.pos ≤ k
    · rw [if_pos (by omega), if_pos hle]
      have e : wrap64 (wrap64 ((m.col : Int) + k) - m.pos) = ((m.col + (k - m.pos) : Nat) : Int) := by
        rw [wrap64_small ((m.col : Int) + k) (by omega) (by omega), wrap64_small _ (by omega) (by omega)]; omega
      rw [e]
      exact placeZ_nat r k (m.line, m.col + (k - m.pos)) hk (fun q hq => hm q (List.mem_cons_of_mem _ hq))
    · rw [if_neg (by omega), if_neg hle]
      exact placeZ_nat r k p hk (fun q hq => hm q (List.mem_cons_of_mem _ hq))
/-- The program's Place of a line of the build file. -/
theorem place_n (n : Nat) (t : ByteArray) (u d : Value) (ms : List Mk) (k : Nat) (w : World) (hu : MksAt w u (ms.map Mk.z)) (hs : t.size ≤ 1099511627776) (hl : ms.length ≤ 1099511627776) (hm : ∀ m ∈ ms, m.pos ≤ 1099511627776 ∧ m.col ≤ 1099511627776) :
    Calls Tryz.prog 19 #[.agg #[.int .i64 n, .string t, u, d], .int .i64 k] w fun e w' => e = .returned (.tuple #[.int .i64 (placeL n (un t) ms k).1, .int .i64 (placeL n (un t) ms k).2]) ∧ Below w.heap.size w w' := by
  have h := place_z n t u d (ms.map Mk.z) k w hu hs (by rw [List.length_map]; exact hl)
  have e1 : atZ t (k : Int) = ((min k (un t).length : Nat) : Int) := by unfold atZ; rw [un_length]; omega
  have e2 := placeZ_nat ms (min k (un t).length) (n, min k (un t).length + 1) (by rw [un_length]; omega) hm
  rw [e1, show ((min k (un t).length : Nat) : Int) + 1 = ((min k (un t).length + 1 : Nat) : Int) by omega, e2] at h
  exact h
end Go.Proofs.YtjgijbeedgggdaaGreatDoor
