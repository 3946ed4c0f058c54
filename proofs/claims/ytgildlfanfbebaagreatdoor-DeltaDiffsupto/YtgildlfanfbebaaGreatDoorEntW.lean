/- Entries in memory: where their cells lie, lists of them copied, and held against each other. -/
import Derived.Test.YtgildlfanfbebaaGreatDoorKeepM
import Derived.Test.YtgildlfanfbebaaGreatDoorOwnM
import Derived.ChangeKeysEq
import Derived.Laws.StructEq
import Derived.Laws.OwnMore
import Derived.Laws.Tables
import Derived.Deep.MidRow
namespace Go.Proofs.YtgildlfanfbebaaGreatDoor
open Go Go.RowKit

theorem info_ent : (Tryz.prog.info? 52).map (fun i => (i.zero, i.size, i.bytes)) = some (some (.agg #[.string ⟨#[]⟩, .int .i64 0, .int .i64 0, .string ⟨#[]⟩, .string ⟨#[]⟩]), 5, 64) := by kernel_rfl
/-- An entry's cells, from a place on. -/
structure EntC (W : World) (b q : Nat) (e : Ent) : Prop where
  c0 : W.cell? ⟨b, q, none⟩ = some (.string e.path)
  c1 : W.cell? ⟨b, q + 1, none⟩ = some (.int .i64 e.kind)
  c2 : W.cell? ⟨b, q + 2, none⟩ = some (.int .i64 e.mode)
  c3 : W.cell? ⟨b, q + 3, none⟩ = some (.string e.data)
  c4 : W.cell? ⟨b, q + 4, none⟩ = some (.string e.link)
theorem EntC.below {W W2 : World} {b q : Nat} {e : Ent} (h : EntC W b q e) (hb : Below W.heap.size W W2) : EntC W2 b q e := by
  have hl := World.block_lt_of_cell? W _ h.c0
  exact ⟨(hb.cell (p := ⟨b, q, none⟩) hl).trans h.c0, (hb.cell (p := ⟨b, q + 1, none⟩) hl).trans h.c1, (hb.cell (p := ⟨b, q + 2, none⟩) hl).trans h.c2, (hb.cell (p := ⟨b, q + 3, none⟩) hl).trans h.c3, (hb.cell (p := ⟨b, q + 4, none⟩) hl).trans h.c4⟩
/-- A list of entries. -/
def EntsAt (W : World) (v : Value) (es : List Ent) : Prop :=
  ∃ (a : Option Addr) (cap b o : Nat), v = .slice a es.length cap ∧ (es ≠ [] → a = some ⟨b, o, none⟩) ∧ es.length ≤ cap ∧ ∀ i e, es[i]? = some e → EntC W b (o + i * 5) e
theorem EntsAt.below {W W2 : World} {v : Value} {es : List Ent} (h : EntsAt W v es) (hb : Below W.heap.size W W2) : EntsAt W2 v es := by
  obtain ⟨a, cap, b, o, h1, h2, h3, h4⟩ := h
  exact ⟨a, cap, b, o, h1, h2, h3, fun i e he => (h4 i e he).below hb⟩
theorem ents_of_owns {W : World} {base : Nat} {v : Value} {es : List Ent} (h : W.ownsRow base 52 5 v es.length (ecells es)) : EntsAt W v es := by
  rcases h.2 with ⟨rfl, h0⟩ | ⟨g, cap, cur, rfl, hg, hgb, hcap, _⟩
  · have : es = [] := List.eq_nil_of_length_eq_zero h0
    subst this
    exact ⟨none, 0, 0, 0, rfl, fun h => absurd rfl h, Nat.le_refl _, fun i e he => by simp at he⟩
  · refine ⟨some ⟨g, 0, none⟩, cap, g, 0, rfl, fun _ => rfl, hcap, fun i e he => ?_⟩
    have hi := (List.getElem?_eq_some_iff.1 he).1
    have hc : ∀ j v, (ecs e)[j]? = some v → W.cell? ⟨g, 0 + i * 5 + j, none⟩ = some v := fun j v hj => by
      have hj2 : j < 5 := (List.getElem?_eq_some_iff.1 hj).1
      rw [Nat.zero_add, h.cellAt (i * 5 + j) (by omega)]
      exact ecells_get es i e he j v hj
    exact ⟨hc 0 _ rfl, hc 1 _ rfl, hc 2 _ rfl, hc 3 _ rfl, hc 4 _ rfl⟩
theorem ents_take {W : World} {a : Option Addr} {cap b o : Nat} {es : List Ent} (h2 : es ≠ [] → a = some ⟨b, o, none⟩) (h3 : es.length ≤ cap) (h4 : ∀ i e, es[i]? = some e → EntC W b (o + i * 5) e) (n : Nat) (hn : n ≤ es.length) : EntsAt W (.slice a n cap) (es.take n) := by
  have hl : (es.take n).length = n := by rw [List.length_take]; omega
  refine ⟨a, cap, b, o, by rw [hl], fun h => h2 (fun e => h (by rw [e]; simp)), by omega, fun i e he => ?_⟩
  have : i < n := by have := (List.getElem?_eq_some_iff.1 he).1; omega
  rw [List.getElem?_take_of_lt this] at he
  exact h4 i e he

theorem eqF_cons {P : Program} {w : World} (d : Nat) (f : Field) (fs : List Field) (xs ys : Array Value) (a b : Value) (r R : Bool) (hn : f.name ≠ "_") (ha : (part f.type xs f.offset).run P w = .ok a w) (hb : (part f.type ys f.offset).run P w = .ok b w)
    (hr : (Op.equalIn d f.type a b).run P w = .ok r w) (hR : (Op.eqFields d xs ys fs).run P w = .ok R w) : (Op.eqFields d xs ys (f :: fs)).run P w = .ok (r && R) w := by
  simp only [Op.eqFields, if_pos hn, Sem.run_bind, ha, hb, hr, Result.andThen_ok]
  cases r with
  | false => simp
  | true => simpa using hR
theorem eqF_nil {P : Program} {w : World} (d : Nat) (xs ys : Array Value) : (Op.eqFields d xs ys []).run P w = .ok true w := rfl
def eva (e : Ent) : Array Value := #[.string e.path, .int .i64 e.kind, .int .i64 e.mode, .string e.data, .string e.link]
def eqE (a b : Ent) : Bool := (a.path.toList == b.path.toList) && ((a.kind == b.kind) && ((a.mode == b.mode) && ((a.data.toList == b.data.toList) && ((a.link.toList == b.link.toList) && true))))
theorem eqE_self (a : Ent) : eqE a a = true := by unfold eqE; simp
set_option maxRecDepth 100000 in
theorem eq_ent (a b : Ent) (w : World) : (Op.equalIn 10000 52 (.agg (eva a)) (.agg (eva b))).run Tryz.prog w = .ok (eqE a b) w := by
  rw [run_equalIn_struct w 9999 52 (eva a) (eva b) (by kernel_rfl) (by kernel_rfl)]
  have hs : ∀ x y : ByteArray, (Op.equalIn 9999 9 (.string x) (.string y)).run Tryz.prog w = .ok (x.toList == y.toList) w := fun x y => run_equalIn_string w 9998 _ x y Tryz.underlying9
  have hi : ∀ x y : Int, (Op.equalIn 9999 3 (.int .i64 x) (.int .i64 y)).run Tryz.prog w = .ok (x == y) w := fun x y => run_equalIn_int w 9998 _ .i64 .i64 _ _ Tryz.underlying3
  have hk : ∀ x y : Int, (Op.equalIn 9999 50 (.int .i64 x) (.int .i64 y)).run Tryz.prog w = .ok (x == y) w := fun x y => run_equalIn_int w 9998 _ .i64 .i64 _ _ Tryz.underlying50
  have pt : ∀ (h : Ent) (k : Nat) (v : Value) (t : TypeId), (isAgg t).run Tryz.prog w = .ok false w → (eva h)[k]? = some v → (part t (eva h) k).run Tryz.prog w = .ok v w := fun h k v t ht hv => by simp [part, ht, hv]
  have aS := Tryz.isAgg9 w
  have ai := Tryz.isAgg3 w
  have ak := Tryz.isAgg50 w
  unfold eqE
  rw [show (Tryz.prog.fieldsOf 52) = _ from by unfold Program.fieldsOf; rw [Tryz.underlying52]]
  exact eqF_cons 9999 _ _ _ _ _ _ _ _ (by decide) (pt a 0 _ _ aS rfl) (pt b 0 _ _ aS rfl) (hs _ _) (eqF_cons 9999 _ _ _ _ _ _ _ _ (by decide) (pt a 1 _ _ ak rfl) (pt b 1 _ _ ak rfl) (hk _ _) (eqF_cons 9999 _ _ _ _ _ _ _ _ (by decide) (pt a 2 _ _ ai rfl) (pt b 2 _ _ ai rfl) (hi _ _) (eqF_cons 9999 _ _ _ _ _ _ _ _ (by decide) (pt a 3 _ _ aS rfl) (pt b 3 _ _ aS rfl) (hs _ _) (eqF_cons 9999 _ _ _ _ _ _ _ _ (by decide) (pt a 4 _ _ aS rfl) (pt b 4 _ _ aS rfl) (hs _ _) (eqF_nil _ _ _)))))
theorem eq_self (a : Ent) (w : World) : (Op.equalIn 10000 52 (.agg #[.string a.path, .int .i64 a.kind, .int .i64 a.mode, .string a.data, .string a.link]) (.agg #[.string a.path, .int .i64 a.kind, .int .i64 a.mode, .string a.data, .string a.link])).run Tryz.prog w = .ok true w := by
  have := eq_ent a a w
  rw [eqE_self] at this; exact this
theorem ent_new (W : World) (t : TypeId) (e : Ent) : EntC (W.alloc (.cells #[.string e.path, .int .i64 e.kind, .int .i64 e.mode, .string e.data, .string e.link] t)) W.heap.size 0 e := by
  have h : ∀ (j : Nat) (v : Value), (#[.string e.path, .int .i64 e.kind, .int .i64 e.mode, .string e.data, .string e.link] : Array Value)[j]? = some v → (W.alloc (.cells #[.string e.path, .int .i64 e.kind, .int .i64 e.mode, .string e.data, .string e.link] t)).cell? ⟨W.heap.size, j, none⟩ = some v := fun j v hv => by
    unfold World.cell?
    rw [World.alloc_heap_new]
    exact hv
  exact ⟨h 0 _ rfl, h 1 _ rfl, h 2 _ rfl, h 3 _ rfl, h 4 _ rfl⟩
theorem ent_cells {W : World} {b : Nat} {e : Ent} (h : EntC W b 0 e) : ∀ j u, (ecs e)[j]? = some u → W.cell? ((⟨b, 0, none⟩ : Addr).add j) = some u := by
  intro j u hj
  rw [Addr.add_mid, Nat.zero_add]
  rcases j with _ | _ | _ | _ | _ | j
  · cases hj; exact h.c0
  · cases hj; exact h.c1
  · cases hj; exact h.c2
  · cases hj; exact h.c3
  · cases hj; exact h.c4
  · simp [ecs] at hj
theorem ent_one (e : Ent) : ∀ u ∈ ecs e, u.oneCell' = true := by
  intro u hu
  simp [ecs] at hu
  rcases hu with rfl | rfl | rfl | rfl | rfl <;> rfl

set_option maxRecDepth 100000 in
set_option maxHeartbeats 2000000 in
theorem copy_p (v : Value) (es : List Ent) (w : World) (hv : EntsAt w v es) (hl : es.length ≤ 1073741824) : Calls Tryz.prog 42 #[v] w fun e w' => ∃ u, e = .returned u ∧ w'.ownsRow w.heap.size 52 5 u es.length (ecells es) ∧ Below w.heap.size w w' := by
  obtain ⟨i0, hi, hz0, hz1, hz2⟩ := info_parts info_ent
  obtain ⟨a, cap, b, o, rfl, ha, hcap, hc⟩ := hv
  go_enter Tryz.func42, Tryz.ntmps42
  go_wp2
  go_loopw [3, 4] (fun v i wr => ∃ k : Nat, i = .int .i64 k ∧ k ≤ es.length ∧ wr.ownsRow w.heap.size 52 5 v (es.take k).length (ecells (es.take k)) ∧ Below w.heap.size w wr) (fun _ i _ => es.length - (intOf i).toNat)
  case atStart => exact ⟨0, rfl, Nat.zero_le _, World.ownsRow_nil _ _ _ _, Below.refl _ _⟩
  case round =>
    obtain ⟨k, rfl, hk, hown, hB⟩ := hrel
    have hsz := hB.size
    by_cases hlt : k < es.length
    · have hlt' : (k : Int) < (es.length : Int) := by omega
      have hk0 : (0 : Int) ≤ (k : Int) := by omega
      obtain ⟨x, hx⟩ : ∃ x, es[k]? = some x := ⟨_, List.getElem?_eq_getElem hlt⟩
      obtain rfl := ha (fun e => by rw [e] at hlt; simp at hlt)
      obtain ⟨c0, c1, c2, c3, c4⟩ := (hc k x hx).below hB
      have hlk : (es.take k).length ≤ es.length := by rw [List.length_take]; omega
      have HX : Hid (es.take (k + 1) = es.take k ++ [x]) := by unfold Hid; rw [List.take_add_one, hx]; rfl
      clear hx hc ha
      go_wp2_with (at_builtin; refine wpList_append_own _ rfl _ _ 22 rfl w.heap.size 52 i0 (.agg #[.string ⟨#[]⟩, .int .i64 0, .int .i64 0, .string ⟨#[]⟩, .string ⟨#[]⟩]) 5 64 Tryz.underlying22 hi hz0 hz1 hz2 rfl (by decide) _ _ _ rfl (hown.alloc _) ⟨wr.heap.size, 0, none⟩ 1 1 (ecs x) rfl rfl (ent_cells (ent_new wr _ x)) (ent_one x) (by unfold maxLen; omega) (by omega) (by simp; omega) ?_; intro v1 w1 hown1 hgrow1 _)
      have hb1 : Below w.heap.size w w1 := (hB.alloc hsz _).grown hgrow1 (by simp; omega) (fun j hj => (own_ge hown j hj.symm).1)
      have hown2 : w1.ownsRow w.heap.size 52 5 v1 (es.take (k + 1)).length (ecells (es.take (k + 1))) := by
        rw [HX.out, ecells_append, List.length_append]; simpa [ecells] using hown1
      clear hown1 hgrow1 hown
      go_roundw
      case rel => exact ⟨k + 1, by go_num, by omega, hown2, hb1⟩
      case measure => simp [intOf]; omega
    · have hge : ¬ (k : Int) < (es.length : Int) := by omega
      have hall : es.take k = es := List.take_of_length_le (by omega)
      rw [hall] at hown
      go_wp2
      go_ret
      exact ⟨_, rfl, hown, hB⟩

set_option maxRecDepth 100000 in
set_option maxHeartbeats 2000000 in
theorem same_p (u v : Value) (es : List Ent) (w : World) (hu : EntsAt w u es) (hv : EntsAt w v es) (hl : es.length ≤ 1073741824) : Calls Tryz.prog 20 #[u, v] w fun e w' => e = .returned (.bool true) ∧ Below w.heap.size w w' := by
  obtain ⟨a, cap, b, o, rfl, ha, hcap, hc⟩ := hu
  obtain ⟨a2, cap2, b2, o2, rfl, ha2, hcap2, hc2⟩ := hv
  go_enter Tryz.func20, Tryz.ntmps20
  go_wp2
  go_loopw [5] (fun i wr => ∃ k q : Nat, i = .int .i64 k ∧ k ≤ es.length ∧ wr = w.drewN q) (fun i _ => es.length - (intOf i).toNat)
  case atStart => exact ⟨0, 0, rfl, Nat.zero_le _, rfl⟩
  case round =>
    obtain ⟨k, q, rfl, hk, rfl⟩ := hrel
    by_cases hlt : k < es.length
    · have hlt' : (k : Int) < (es.length : Int) := by omega
      have hk0 : (0 : Int) ≤ (k : Int) := by omega
      obtain ⟨x, hx⟩ : ∃ x, es[k]? = some x := ⟨_, List.getElem?_eq_getElem hlt⟩
      obtain rfl := ha (fun e => by rw [e] at hlt; simp at hlt)
      obtain rfl := ha2 (fun e => by rw [e] at hlt; simp at hlt)
      obtain ⟨c0, c1, c2, c3, c4⟩ := hc k x hx
      obtain ⟨d0, d1, d2, d3, d4⟩ := hc2 k x hx
      have heq := fun W => eq_self x W
      clear hx hc ha hc2 ha2
      go_wp2
      go_quiet (fail)
      go_wp2
      go_roundw
      case rel => exact ⟨k + 1, _, by go_num, by omega, rfl⟩
      case measure => simp [intOf]; omega
    · have hge : ¬ (k : Int) < (es.length : Int) := by omega
      go_wp2
      go_ret
      exact ⟨rfl, ⟨rfl, rfl, rfl, Nat.le_refl _, fun _ _ => rfl⟩⟩
end Go.Proofs.YtgildlfanfbebaaGreatDoor
