/- Words in memory: where their cells lie, and lists of them held against each other. -/
import Derived.Test.YtmnggnmgiflhjaaDoorWordM
import Derived.ChangeKeysEq
import Derived.Laws.StructEq
import Derived.Laws.OwnMore
import Derived.Laws.Tables
import Derived.Deep.MidRow
namespace Go.Proofs.YtmnggnmgiflhjaaDoor
open Go Go.RowKit

structure Wd where
  p : Int
  r : ByteArray
def wcs (x : Wd) : List Value := [.int .i64 x.p, .string x.r]
def wcells (xs : List Wd) : List Value := xs.flatMap wcs
theorem wcells_cons (e : Wd) (es : List Wd) : wcells (e :: es) = wcs e ++ wcells es := rfl
theorem wcells_length (es : List Wd) : (wcells es).length = es.length * 2 := by
  induction es with
  | nil => rfl
  | cons e es ih => rw [wcells_cons, List.length_append, ih, List.length_cons, show (wcs e).length = 2 from rfl]; omega
theorem wcells_append (a b : List Wd) : wcells (a ++ b) = wcells a ++ wcells b := by simp [wcells]
theorem wcells_get : ∀ (es : List Wd) (k : Nat) (e : Wd), es[k]? = some e → ∀ j v, (wcs e)[j]? = some v → (wcells es)[k * 2 + j]? = some v
  | [], k, e, h => by simp at h
  | x :: es, 0, e, h => fun j v hj => by
    simp at h; subst h
    have : j < (wcs x).length := (List.getElem?_eq_some_iff.1 hj).1
    rw [wcells_cons, Nat.zero_mul, Nat.zero_add, List.getElem?_append_left this]; exact hj
  | x :: es, k + 1, e, h => fun j v hj => by
    rw [wcells_cons, List.getElem?_append_right (by show 2 ≤ _; omega), show (k + 1) * 2 + j - (wcs x).length = k * 2 + j by show (k + 1) * 2 + j - 2 = _; omega]
    exact wcells_get es k e (by simpa using h) j v hj
theorem info_wd : (Tryd.prog.info? 41).map (fun i => (i.zero, i.size, i.bytes)) = some (some (.agg #[.int .i64 0, .string ⟨#[]⟩]), 2, 24) := by kernel_rfl
structure WdC (W : World) (b q : Nat) (e : Wd) : Prop where
  c0 : W.cell? ⟨b, q, none⟩ = some (.int .i64 e.p)
  c1 : W.cell? ⟨b, q + 1, none⟩ = some (.string e.r)
theorem WdC.below {W W2 : World} {b q : Nat} {e : Wd} (h : WdC W b q e) (hb : Below W.heap.size W W2) : WdC W2 b q e := by
  have hl := World.block_lt_of_cell? W _ h.c0
  exact ⟨(hb.cell (p := ⟨b, q, none⟩) hl).trans h.c0, (hb.cell (p := ⟨b, q + 1, none⟩) hl).trans h.c1⟩
/-- A list of words. -/
def WdsAt (W : World) (v : Value) (es : List Wd) : Prop :=
  ∃ (a : Option Addr) (cap b o : Nat), v = .slice a es.length cap ∧ (es ≠ [] → a = some ⟨b, o, none⟩) ∧ es.length ≤ cap ∧ ∀ i e, es[i]? = some e → WdC W b (o + i * 2) e
theorem WdsAt.below {W W2 : World} {v : Value} {es : List Wd} (h : WdsAt W v es) (hb : Below W.heap.size W W2) : WdsAt W2 v es := by
  obtain ⟨a, cap, b, o, h1, h2, h3, h4⟩ := h
  exact ⟨a, cap, b, o, h1, h2, h3, fun i e he => (h4 i e he).below hb⟩
theorem wds_of_owns {W : World} {base : Nat} {v : Value} {es : List Wd} (h : W.ownsRow base 41 2 v es.length (wcells es)) : WdsAt W v es := by
  rcases h.2 with ⟨rfl, h0⟩ | ⟨g, cap, cur, rfl, hg, hgb, hcap, _⟩
  · have : es = [] := List.eq_nil_of_length_eq_zero h0
    subst this
    exact ⟨none, 0, 0, 0, rfl, fun h => absurd rfl h, Nat.le_refl _, fun i e he => by simp at he⟩
  · refine ⟨some ⟨g, 0, none⟩, cap, g, 0, rfl, fun _ => rfl, hcap, fun i e he => ?_⟩
    have hi := (List.getElem?_eq_some_iff.1 he).1
    have hc : ∀ j v, (wcs e)[j]? = some v → W.cell? ⟨g, 0 + i * 2 + j, none⟩ = some v := fun j v hj => by
      have hj2 : j < 2 := (List.getElem?_eq_some_iff.1 hj).1
      rw [Nat.zero_add, h.cellAt (i * 2 + j) (by omega)]
      exact wcells_get es i e he j v hj
    exact ⟨hc 0 _ rfl, hc 1 _ rfl⟩
theorem wd_new (W : World) (t : TypeId) (x y : Value) : ∀ j u, [x, y][j]? = some u → (W.alloc (.cells #[x, y] t)).cell? ((⟨W.heap.size, 0, none⟩ : Addr).add j) = some u := by
  intro j u hj
  rw [Addr.add_mid, Nat.zero_add]
  unfold World.cell?
  rw [World.alloc_heap_new]
  simpa using hj
theorem own_ge {W : World} {base e size k : Nat} {v : Value} {xs : List Value} (h : W.ownsRow base e size v k xs) : ∀ j, some j = v.ownBlock → base ≤ j ∧ ∃ cur, W.heap[j]? = some (.cells cur e (0, 0)) := by
  intro j hj
  rcases h.2 with ⟨rfl, _⟩ | ⟨g, cap, cur, rfl, hg, hgb, _⟩
  · simp [Value.ownBlock] at hj
  · simp [Value.ownBlock] at hj; subst hj; exact ⟨hg, cur, hgb⟩
theorem own_up {A B : World} {base e size n : Nat} {v : Value} {xs : List Value} (h : A.ownsRow base e size v n xs) (hb : Below A.heap.size A B) : B.ownsRow base e size v n xs := by
  refine ⟨h.1, ?_⟩
  rcases h.2 with hn | ⟨g, cap, cur, rfl, hg, hgg, rest⟩
  · exact .inl hn
  · exact .inr ⟨g, cap, cur, rfl, hg, (hb.block g (Array.getElem?_eq_some_iff.1 hgg).1).trans hgg, rest⟩
theorem eqF_cons {P : Program} {w : World} (d : Nat) (f : Field) (fs : List Field) (xs ys : Array Value) (a b : Value) (r R : Bool) (hn : f.name ≠ "_") (ha : (part f.type xs f.offset).run P w = .ok a w) (hb : (part f.type ys f.offset).run P w = .ok b w)
    (hr : (Op.equalIn d f.type a b).run P w = .ok r w) (hR : (Op.eqFields d xs ys fs).run P w = .ok R w) : (Op.eqFields d xs ys (f :: fs)).run P w = .ok (r && R) w := by
  simp only [Op.eqFields, if_pos hn, Sem.run_bind, ha, hb, hr, Result.andThen_ok]
  cases r with
  | false => simp
  | true => simpa using hR
theorem eqF_nil {P : Program} {w : World} (d : Nat) (xs ys : Array Value) : (Op.eqFields d xs ys []).run P w = .ok true w := rfl
def wva (e : Wd) : Array Value := #[.int .i64 e.p, .string e.r]
def eqW (a b : Wd) : Bool := (a.p == b.p) && ((a.r.toList == b.r.toList) && true)
set_option maxRecDepth 100000 in
theorem eq_wd (a b : Wd) (w : World) : (Op.equalIn 10000 41 (.agg (wva a)) (.agg (wva b))).run Tryd.prog w = .ok (eqW a b) w := by
  rw [run_equalIn_struct w 9999 41 (wva a) (wva b) (by kernel_rfl) (by kernel_rfl)]
  have hs : ∀ x y : ByteArray, (Op.equalIn 9999 9 (.string x) (.string y)).run Tryd.prog w = .ok (x.toList == y.toList) w := fun x y => run_equalIn_string w 9998 _ x y Tryd.underlying9
  have hi : ∀ x y : Int, (Op.equalIn 9999 3 (.int .i64 x) (.int .i64 y)).run Tryd.prog w = .ok (x == y) w := fun x y => run_equalIn_int w 9998 _ .i64 .i64 _ _ Tryd.underlying3
  have pt : ∀ (h : Wd) (k : Nat) (v : Value) (t : TypeId), (isAgg t).run Tryd.prog w = .ok false w → (wva h)[k]? = some v → (part t (wva h) k).run Tryd.prog w = .ok v w := fun h k v t ht hv => by simp [part, ht, hv]
  have aS := Tryd.isAgg9 w
  have ai := Tryd.isAgg3 w
  unfold eqW
  rw [show (Tryd.prog.fieldsOf 41) = _ from by unfold Program.fieldsOf; rw [Tryd.underlying41]]
  exact eqF_cons 9999 _ _ _ _ _ _ _ _ (by decide) (pt a 0 _ _ ai rfl) (pt b 0 _ _ ai rfl) (hi _ _) (eqF_cons 9999 _ _ _ _ _ _ _ _ (by decide) (pt a 1 _ _ aS rfl) (pt b 1 _ _ aS rfl) (hs _ _) (eqF_nil 9999 _ _))
theorem eq_self (a : Wd) (w : World) : (Op.equalIn 10000 41 (.agg #[.int .i64 a.p, .string a.r]) (.agg #[.int .i64 a.p, .string a.r])).run Tryd.prog w = .ok true w := by
  have := eq_wd a a w
  rw [show eqW a a = true by simp [eqW]] at this; exact this

set_option maxRecDepth 100000 in
set_option maxHeartbeats 2000000 in
theorem same_p (u v : Value) (es : List Wd) (w : World) (hu : WdsAt w u es) (hv : WdsAt w v es) (hl : es.length ≤ 1073741824) : Calls Tryd.prog 12 #[u, v] w fun e w' => e = .returned (.bool true) ∧ Below w.heap.size w w' := by
  obtain ⟨a, cap, b, o, rfl, ha, hcap, hc⟩ := hu
  obtain ⟨a2, cap2, b2, o2, rfl, ha2, hcap2, hc2⟩ := hv
  go_enter Tryd.func12, Tryd.ntmps12
  go_wp2
  go_loopw [5] (fun i wr => ∃ k q : Nat, i = .int .i64 k ∧ k ≤ es.length ∧ wr = w.drewN q) (fun i _ => es.length - (intOf i).toNat)
  case atStart => exact ⟨0, 0, rfl, Nat.zero_le _, rfl⟩
  case round =>
    obtain ⟨k, q, rfl, hk, rfl⟩ := hrel
    by_cases hlt : k < es.length
    · have hlt' : (k : Int) < (es.length : Int) := by omega
      have hk0 : (0 : Int) ≤ (k : Int) := by omega
      obtain ⟨x, hx⟩ : ∃ x, es[k]? = some x := ⟨_, List.getElem?_eq_getElem hlt⟩
      obtain rfl := ha (fun e => by rw [e] at hlt; simp at hlt)
      obtain rfl := ha2 (fun e => by rw [e] at hlt; simp at hlt)
      obtain ⟨c0, c1⟩ := hc k x hx
      obtain ⟨d0, d1⟩ := hc2 k x hx
      have heq := fun W => eq_self x W
      clear hx hc ha hc2 ha2
      go_wp2
      go_quiet (fail)
      go_wp2
      go_roundw
      case rel => exact ⟨k + 1, _, by go_num, by omega, rfl⟩
      case measure => simp [intOf]; omega
    · have hge : ¬ (k : Int) < (es.length : Int) := by omega
      go_wp2
      go_ret
      exact ⟨rfl, ⟨rfl, rfl, rfl, Nat.le_refl _, fun _ _ => rfl⟩⟩
end Go.Proofs.YtmnggnmgiflhjaaDoor
