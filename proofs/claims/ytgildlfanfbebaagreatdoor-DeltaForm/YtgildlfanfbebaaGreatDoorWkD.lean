/- What every statement of layer 10 asks besides. -/
import Derived.Test.YtgildlfanfbebaaGreatDoorChgW
import Derived.Deep.QuietTactic
import Derived.Test.YtgildlfanfbebaaGreatDoorDifD

namespace Go.Proofs.YtgildlfanfbebaaGreatDoor
open Go Go.RowKit Go.Shelf

set_option maxRecDepth 100000 in
theorem eq_entD (a b : Ent) (w : World) : (Op.equalIn 9999 52 (.agg (eva a)) (.agg (eva b))).run Tryz.prog w = .ok (eqE a b) w := by
  rw [run_equalIn_struct w 9998 52 (eva a) (eva b) (by kernel_rfl) (by kernel_rfl)]
  have hs : ∀ x y : ByteArray, (Op.equalIn 9998 9 (.string x) (.string y)).run Tryz.prog w = .ok (x.toList == y.toList) w := fun x y => run_equalIn_string w 9997 _ x y Tryz.underlying9
  have hi : ∀ x y : Int, (Op.equalIn 9998 3 (.int .i64 x) (.int .i64 y)).run Tryz.prog w = .ok (x == y) w := fun x y => run_equalIn_int w 9997 _ .i64 .i64 _ _ Tryz.underlying3
  have hk : ∀ x y : Int, (Op.equalIn 9998 50 (.int .i64 x) (.int .i64 y)).run Tryz.prog w = .ok (x == y) w := fun x y => run_equalIn_int w 9997 _ .i64 .i64 _ _ Tryz.underlying50
  have pt : ∀ (h : Ent) (k : Nat) (v : Value) (t : TypeId), (isAgg t).run Tryz.prog w = .ok false w → (eva h)[k]? = some v → (part t (eva h) k).run Tryz.prog w = .ok v w := fun h k v t ht hv => by simp [part, ht, hv]
  have aS := Tryz.isAgg9 w
  have ai := Tryz.isAgg3 w
  have ak := Tryz.isAgg50 w
  unfold eqE
  rw [show (Tryz.prog.fieldsOf 52) = _ from by unfold Program.fieldsOf; rw [Tryz.underlying52]]
  exact eqF_cons 9998 _ _ _ _ _ _ _ _ (by decide) (pt a 0 _ _ aS rfl) (pt b 0 _ _ aS rfl) (hs _ _) (eqF_cons 9998 _ _ _ _ _ _ _ _ (by decide) (pt a 1 _ _ ak rfl) (pt b 1 _ _ ak rfl) (hk _ _) (eqF_cons 9998 _ _ _ _ _ _ _ _ (by decide) (pt a 2 _ _ ai rfl) (pt b 2 _ _ ai rfl) (hi _ _) (eqF_cons 9998 _ _ _ _ _ _ _ _ (by decide) (pt a 3 _ _ aS rfl) (pt b 3 _ _ aS rfl) (hs _ _) (eqF_cons 9998 _ _ _ _ _ _ _ _ (by decide) (pt a 4 _ _ aS rfl) (pt b 4 _ _ aS rfl) (hs _ _) (eqF_nil _ _ _)))))
theorem eq_entN (a : Ent) (w : World) : (Op.equalIn 9999 52 (.agg (eva a)) (.agg (eva a))).run Tryz.prog w = .ok true w := by
  have := eq_entD a a w
  rw [eqE_self] at this; exact this
def cva (c : Chg) : Array Value := #[.string c.path, .bool c.gone, .string c.e.path, .int .i64 c.e.kind, .int .i64 c.e.mode, .string c.e.data, .string c.e.link]
set_option maxRecDepth 100000 in
theorem eq_chg (c : Chg) (w : World) : (Op.equalIn 10000 54 (.agg #[.string c.path, .bool c.gone, .string c.e.path, .int .i64 c.e.kind, .int .i64 c.e.mode, .string c.e.data, .string c.e.link]) (.agg #[.string c.path, .bool c.gone, .string c.e.path, .int .i64 c.e.kind, .int .i64 c.e.mode, .string c.e.data, .string c.e.link])).run Tryz.prog w = .ok true w := by
  show (Op.equalIn 10000 54 (.agg (cva c)) (.agg (cva c))).run Tryz.prog w = .ok true w
  rw [run_equalIn_struct w 9999 54 (cva c) (cva c) (by kernel_rfl) (by kernel_rfl)]
  have hs : ∀ x y : ByteArray, (Op.equalIn 9999 9 (.string x) (.string y)).run Tryz.prog w = .ok (x.toList == y.toList) w := fun x y => run_equalIn_string w 9998 _ x y Tryz.underlying9
  have hb : ∀ x y : Bool, (Op.equalIn 9999 4 (.bool x) (.bool y)).run Tryz.prog w = .ok (x == y) w := fun x y => run_equalIn_bool w 9998 _ x y Tryz.underlying4
  have he : (Op.equalIn 9999 52 (.agg (eva c.e)) (.agg (eva c.e))).run Tryz.prog w = .ok true w := eq_entN c.e w
  have pt : ∀ (k : Nat) (v : Value) (t : TypeId), (isAgg t).run Tryz.prog w = .ok false w → (cva c)[k]? = some v → (part t (cva c) k).run Tryz.prog w = .ok v w := fun k v t ht hv => by simp [part, ht, hv]
  have pe : (part 52 (cva c) 2).run Tryz.prog w = .ok (.agg (eva c.e)) w := by
    simp [part, Tryz.isAgg52 w, cva, eva]
  have aS := Tryz.isAgg9 w
  have ab := Tryz.isAgg4 w
  rw [show (Tryz.prog.fieldsOf 54) = _ from by unfold Program.fieldsOf; rw [Tryz.underlying54]]
  refine (?_ : _ = Result.ok ((c.path.toList == c.path.toList) && ((c.gone == c.gone) && (true && true))) w).trans (by simp)
  exact eqF_cons 9999 _ _ _ _ _ _ _ _ (by decide) (pt 0 _ _ aS rfl) (pt 0 _ _ aS rfl) (hs _ _) (eqF_cons 9999 _ _ _ _ _ _ _ _ (by decide) (pt 1 _ _ ab rfl) (pt 1 _ _ ab rfl) (hb _ _) (eqF_cons 9999 _ _ _ _ _ _ _ _ (by decide) pe pe he (eqF_nil _ _ _)))
def SamePost (a b : List Ent) (w : World) (e : Ending) (w' : World) : Prop := ∃ r : Bool, e = .returned (.bool r) ∧ (r = true ↔ a = b) ∧ Below w.heap.size w w'
set_option maxRecDepth 100000 in
set_option maxHeartbeats 2000000 in
theorem sameE_p (u v : Value) (xs ys : List Ent) (w : World) (hu : EntsAt w u xs) (hv : EntsAt w v ys) (hl : xs.length ≤ 1073741824) : Calls Tryz.prog 20 #[u, v] w (SamePost xs ys w) := by
  obtain ⟨a, cap, b, o, rfl, ha, hcap, hc⟩ := hu
  obtain ⟨a2, cap2, b2, o2, rfl, ha2, hcap2, hc2⟩ := hv
  by_cases hlen : xs.length = ys.length
  · have hl2 : ((xs.length : Int) != (ys.length : Int)) = false := by simp; omega
    go_enter Tryz.func20, Tryz.ntmps20
    go_wp2
    go_loopw [5] (fun i wr => ∃ k q : Nat, i = .int .i64 k ∧ k ≤ xs.length ∧ wr = w.drewN q ∧ xs.take k = ys.take k) (fun i _ => xs.length - (intOf i).toNat)
    case atStart => exact ⟨0, 0, rfl, Nat.zero_le _, rfl, by simp⟩
    case round =>
      obtain ⟨k, q, rfl, hk, rfl, hsame⟩ := hrel
      have HSM : Hid (xs.take k = ys.take k) := hsame
      clear hsame
      by_cases hlt : k < xs.length
      · have hlt' : (k : Int) < (xs.length : Int) := by omega
        have hlt2 : (k : Int) < (ys.length : Int) := by omega
        have hk0 : (0 : Int) ≤ (k : Int) := by omega
        obtain ⟨x, hx⟩ : ∃ x, xs[k]? = some x := ⟨_, List.getElem?_eq_getElem hlt⟩
        obtain ⟨y, hy⟩ : ∃ y, ys[k]? = some y := ⟨_, List.getElem?_eq_getElem (by omega)⟩
        obtain rfl := ha (fun e => by rw [e] at hlt; simp at hlt)
        obtain rfl := ha2 (fun e => by rw [e] at hlen; simp at hlen; rw [hlen] at hlt; simp at hlt)
        obtain ⟨c0, c1, c2, c3, c4⟩ := hc k x hx
        obtain ⟨d0, d1, d2, d3, d4⟩ := hc2 k y hy
        have heq : ∀ W, (Op.equalIn 10000 52 (.agg #[.string x.path, .int .i64 x.kind, .int .i64 x.mode, .string x.data, .string x.link]) (.agg #[.string y.path, .int .i64 y.kind, .int .i64 y.mode, .string y.data, .string y.link])).run Tryz.prog W = .ok (eqE x y) W := fun W => eq_ent x y W
        cases hq : eqE x y with
        | true =>
          have HT : Hid (xs.take (k + 1) = ys.take (k + 1)) := by
            unfold Hid
            rw [List.take_add_one, List.take_add_one, hx, hy, HSM.out, (eqE_iff x y).1 hq]
          rw [hq] at heq
          clear hx hy hc ha hc2 ha2 hq hlen
          go_wp2
          go_quiet (fail)
          go_wp2
          go_roundw
          case rel => exact ⟨k + 1, _, by go_num, by omega, rfl, HT.out⟩
          case measure => simp [intOf]; omega
        | false =>
          have HT : Hid (xs ≠ ys) := fun e => by
            rw [e, hy] at hx
            rw [Option.some.inj hx, eqE_self] at hq
            cases hq
          rw [hq] at heq
          clear hx hy hc ha hc2 ha2 hq hlen
          go_wp2
          go_quiet (fail)
          go_wp2
          go_ret
          exact ⟨false, rfl, by simp [HT.out], ⟨rfl, rfl, rfl, Nat.le_refl _, fun _ _ => rfl⟩⟩
      · have hge : ¬ (k : Int) < (xs.length : Int) := by omega
        have HT : Hid (xs = ys) := by
          have h1 := HSM.out
          rw [List.take_of_length_le (by omega), List.take_of_length_le (by omega)] at h1
          exact h1
        clear hlen
        go_wp2
        go_ret
        exact ⟨true, rfl, by simp [HT.out], ⟨rfl, rfl, rfl, Nat.le_refl _, fun _ _ => rfl⟩⟩
  · have hl2 : ((xs.length : Int) != (ys.length : Int)) = true := by simp; omega
    have HT : Hid (xs ≠ ys) := fun e => hlen (by rw [e])
    go_enter Tryz.func20, Tryz.ntmps20
    go_wp2
    go_ret
    exact ⟨false, rfl, by simp [HT.out], ⟨rfl, rfl, rfl, Nat.le_refl _, fun _ _ => rfl⟩⟩
set_option maxRecDepth 100000 in
set_option maxHeartbeats 2000000 in
theorem sameC_p (u v : Value) (es : List Chg) (w : World) (hu : ChgsAt w u es) (hv : ChgsAt w v es) (hl : es.length ≤ 1073741824) : Calls Tryz.prog 13 #[u, v] w fun e w' => e = .returned (.bool true) ∧ Below w.heap.size w w' := by
  obtain ⟨a, cap, b, o, rfl, ha, hcap, hc⟩ := hu
  obtain ⟨a2, cap2, b2, o2, rfl, ha2, hcap2, hc2⟩ := hv
  go_enter Tryz.func13, Tryz.ntmps13
  go_wp2
  go_loopw [5] (fun i wr => ∃ k q : Nat, i = .int .i64 k ∧ k ≤ es.length ∧ wr = w.drewN q) (fun i _ => es.length - (intOf i).toNat)
  case atStart => exact ⟨0, 0, rfl, Nat.zero_le _, rfl⟩
  case round =>
    obtain ⟨k, q, rfl, hk, rfl⟩ := hrel
    by_cases hlt : k < es.length
    · have hlt' : (k : Int) < (es.length : Int) := by omega
      have hk0 : (0 : Int) ≤ (k : Int) := by omega
      obtain ⟨x, hx⟩ : ∃ x, es[k]? = some x := ⟨_, List.getElem?_eq_getElem hlt⟩
      obtain rfl := ha (fun e => by rw [e] at hlt; simp at hlt)
      obtain rfl := ha2 (fun e => by rw [e] at hlt; simp at hlt)
      obtain ⟨c0, c1, c2, c3, c4, c5, c6⟩ := hc k x hx
      obtain ⟨d0, d1, d2, d3, d4, d5, d6⟩ := hc2 k x hx
      have heq := fun W => eq_chg x W
      clear hx hc ha hc2 ha2
      go_wp2
      go_quiet (fail)
      go_wp2
      go_roundw
      case rel => exact ⟨k + 1, _, by go_num, by omega, rfl⟩
      case measure => simp [intOf]; omega
    · have hge : ¬ (k : Int) < (es.length : Int) := by omega
      go_wp2
      go_ret
      exact ⟨rfl, ⟨rfl, rfl, rfl, Nat.le_refl _, fun _ _ => rfl⟩⟩
/-- A row of entries that a literal makes. -/
theorem ents_new (W : World) (t : TypeId) (es : List Ent) (cs : Array Value) (h : cs.toList = ecells es) : EntsAt (W.alloc (.cells cs t)) (.slice (some ⟨W.heap.size, 0, none⟩) es.length es.length) es := by
  refine ⟨_, _, W.heap.size, 0, rfl, fun _ => rfl, Nat.le_refl _, fun i e he => ?_⟩
  have hc : ∀ j v, (ecs e)[j]? = some v → (W.alloc (.cells cs t)).cell? ⟨W.heap.size, 0 + i * 5 + j, none⟩ = some v := fun j v hj => by
    unfold World.cell?
    rw [World.alloc_heap_new]
    have h9 := ecells_get es i e he j v hj
    rw [← h] at h9
    rw [Nat.zero_add]
    simpa using h9
  exact ⟨hc 0 _ rfl, hc 1 _ rfl, hc 2 _ rfl, hc 3 _ rfl, hc 4 _ rfl⟩
theorem chgs_new (W : World) (t : TypeId) (es : List Chg) (cs : Array Value) (h : cs.toList = ccells es) : ChgsAt (W.alloc (.cells cs t)) (.slice (some ⟨W.heap.size, 0, none⟩) es.length es.length) es := by
  refine ⟨_, _, W.heap.size, 0, rfl, fun _ => rfl, Nat.le_refl _, fun i e he => ?_⟩
  have hc : ∀ j v, (ccs e)[j]? = some v → (W.alloc (.cells cs t)).cell? ⟨W.heap.size, 0 + i * 7 + j, none⟩ = some v := fun j v hj => by
    unfold World.cell?
    rw [World.alloc_heap_new]
    have h9 := ccells_get es i e he j v hj
    rw [← h] at h9
    rw [Nat.zero_add]
    simpa using h9
  exact ⟨hc 0 _ rfl, hc 1 _ rfl, hc 2 _ rfl, hc 3 _ rfl, hc 4 _ rfl, hc 5 _ rfl, hc 6 _ rfl⟩
def kD (p : ByteArray) : Ent := ⟨p, 1, 493, ⟨#[]⟩, ⟨#[]⟩⟩
def kF (p d : ByteArray) : Ent := ⟨p, 2, 420, d, ⟨#[]⟩⟩
theorem info_five (a b c : ByteArray) (i j : Int) : (Tryz.prog.info? 52).map (·.size) = some (#[Value.string a, .int .i64 i, .int .i64 j, .string b, .string c] : Array Value).size := by kernel_rfl
theorem info_seven (a b c d : ByteArray) (g : Bool) (i j : Int) : (Tryz.prog.info? 54).map (·.size) = some (#[Value.string a, .bool g, .string b, .int .i64 i, .int .i64 j, .string c, .string d] : Array Value).size := by kernel_rfl
end Go.Proofs.YtgildlfanfbebaaGreatDoor

namespace Go.Proofs.YtgildlfanfbebaaGreatDoor
open Go Go.RowKit

theorem at_nil (l a : Int) (w : World) : Calls Tryz.prog 35 #[.nilIface, .int .i64 0, .int .i64 l, .int .i64 a] w fun e w' => e = .returned (.bool true) ∧ w' = w := by
  go_enter Tryz.func35, Tryz.ntmps35
  go_wp2
  go_ret
  exact ⟨rfl, rfl⟩
theorem num_nil' (w : World) : Calls Tryz.prog 29 #[.nilIface] w fun e w' => e = .returned (.int .i64 0) ∧ w' = w := by
  go_enter Tryz.func29, Tryz.ntmps29
  go_wp2
  go_ret
  exact ⟨rfl, rfl⟩
end Go.Proofs.YtgildlfanfbebaaGreatDoor

namespace Go.Proofs.YtgildlfanfbebaaGreatDoor
open Go Go.RowKit Go.Shelf

theorem results_c1 {P : Program} {fn : Func} {p : Tmp} {ty : TypeId} (h : fn.results = #[.cell p ty]) (tmps : Array Value) (w : World) (g : Nat) (t : TypeId) (cs : Array Value) (d : TypeDesc)
    (hp : tmps.getD p undef = .pointer (some ⟨g, 0, none⟩)) (hg : Lies w g t cs)
    (hu : P.underlying ty = some d) (hd : (match d with | .struct _ | .array _ _ => true | _ => false) = true) (hi : (P.info? ty).map (·.size) = some cs.size) :
    (results fn tmps).run P w = .ok (.agg cs) w := by
  have hp' : tmps[p]?.getD undef = .pointer (some ⟨g, 0, none⟩) := by simpa using hp
  simp [results, h, hp', asAddr, run_loadVar_row w g t ty cs (0, 0) d hg hu hd hi]
set_option maxRecDepth 100000 in
theorem dirK_p (p : ByteArray) (w : World) : Calls Tryz.prog 38 #[.string p] w fun e w' => e = .returned (entV (kD p)) ∧ Below w.heap.size w w' := by
  go_enter Tryz.func38, Tryz.ntmps38
  go_wp2
  refine bodyPost_ret (results_c1 rfl _ _ w.heap.size 52 _ _ rfl (Lies.new w _ _) Tryz.underlying52 rfl (info_five _ _ _ _ _)) rfl ?_
  exact ⟨rfl, (Below.refl _ _).alloc (Nat.le_refl _) _⟩
set_option maxRecDepth 100000 in
theorem fileK_p (p d : ByteArray) (w : World) : Calls Tryz.prog 39 #[.string p, .string d] w fun e w' => e = .returned (entV (kF p d)) ∧ Below w.heap.size w w' := by
  go_enter Tryz.func39, Tryz.ntmps39
  go_wp2
  refine bodyPost_ret (results_c1 rfl _ _ w.heap.size 52 _ _ rfl (Lies.new w _ _) Tryz.underlying52 rfl (info_five _ _ _ _ _)) rfl ?_
  exact ⟨rfl, (Below.refl _ _).alloc (Nat.le_refl _) _⟩
set_option maxRecDepth 100000 in
theorem goneK_p (p : ByteArray) (w : World) : Calls Tryz.prog 41 #[.string p] w fun e w' => e = .returned (chgV (goneC p)) ∧ Below w.heap.size w w' := by
  go_enter Tryz.func41, Tryz.ntmps41
  go_wp2
  refine bodyPost_ret (results_c1 rfl _ _ w.heap.size 54 _ _ rfl (Lies.new w _ _) Tryz.underlying54 rfl (info_seven _ _ _ _ _ _ _)) rfl ?_
  exact ⟨rfl, (Below.refl _ _).alloc (Nat.le_refl _) _⟩
set_option maxRecDepth 100000 in
theorem laidK_p (x : Ent) (w : World) : Calls Tryz.prog 40 #[entV x] w fun e w' => e = .returned (chgV (laidC x)) ∧ Below w.heap.size w w' := by
  have hL : Lies ((w.alloc (.cells #[.string x.path, .int .i64 x.kind, .int .i64 x.mode, .string x.data, .string x.link] 52)).alloc (.cells #[.string x.path, .bool false, .string x.path, .int .i64 x.kind, .int .i64 x.mode, .string x.data, .string x.link] 54)) (w.heap.size + 1) 54 #[.string x.path, .bool false, .string x.path, .int .i64 x.kind, .int .i64 x.mode, .string x.data, .string x.link] := by
    have h := Lies.new (w.alloc (.cells #[.string x.path, .int .i64 x.kind, .int .i64 x.mode, .string x.data, .string x.link] 52)) 54 #[.string x.path, .bool false, .string x.path, .int .i64 x.kind, .int .i64 x.mode, .string x.data, .string x.link]
    rw [World.size_alloc] at h; exact h
  unfold entV
  go_enter Tryz.func40, Tryz.ntmps40
  go_wp2
  refine bodyPost_ret (results_c1 rfl _ _ (w.heap.size + 1) 54 _ _ rfl hL Tryz.underlying54 rfl (info_seven _ _ _ _ _ _ _)) rfl ?_
  exact ⟨rfl, ((Below.refl _ _).alloc (Nat.le_refl _) _).alloc (by simp) _⟩
def KA : List Ent := [kD ⟨#[97]⟩, kF ⟨#[97, 47, 98]⟩ ⟨#[120]⟩, kF ⟨#[99]⟩ ⟨#[121]⟩]
def KB : List Ent := [kD ⟨#[97]⟩, kF ⟨#[97, 47, 98]⟩ ⟨#[122]⟩, kF ⟨#[100]⟩ ⟨#[121]⟩]
def KW : List Chg := [laidC (kF ⟨#[97, 47, 98]⟩ ⟨#[122]⟩), goneC ⟨#[99]⟩, laidC (kF ⟨#[100]⟩ ⟨#[121]⟩)]
set_option maxRecDepth 100000 in
theorem kn_a : checkGo [] KA = (0, 0) := by kernel_rfl
set_option maxRecDepth 100000 in
theorem kn_b : checkGo [] KB = (0, 0) := by kernel_rfl
set_option maxRecDepth 100000 in
theorem kn_diff : diffR KA KB = ((0, 0, 0), KW) := by kernel_rfl
set_option maxRecDepth 100000 in
theorem kn_apply : applyR KA KW = ((0, 0, 0), KB) := by kernel_rfl
set_option maxRecDepth 100000 in
theorem kn_back : backR KA [goneC ⟨#[99]⟩] = ((0, 0, 0), [laidC (kF ⟨#[99]⟩ ⟨#[121]⟩)]) := by kernel_rfl
set_option maxRecDepth 100000 in
theorem kn_none : applyR KA [goneC ⟨#[122]⟩] = ((10, 1, 0), []) := by kernel_rfl
theorem cells_of {W : World} {v : Value} {es : List Ent} (h : EntsAt W v es) (hne : es ≠ []) : ∃ g o cap, v = .slice (some ⟨g, o, none⟩) es.length cap ∧ ∀ i e, es[i]? = some e → EntC W g (o + i * 5) e := by
  obtain ⟨a, cap, g, o, rfl, h1, h2, h3⟩ := h
  obtain rfl := h1 hne
  exact ⟨g, o, cap, rfl, h3⟩
theorem chg_cell {W : World} {base : Nat} {v : Value} {c : Chg} (h : W.ownsRow base 54 7 v [c].length (ccells [c])) : ∃ g cap, v = .slice (some ⟨g, 0, none⟩) 1 cap ∧ ChgC W g 0 c := by
  rcases h.2 with ⟨_, h0⟩ | ⟨g, cap, cur, rfl, hg, hgb, hcap, _⟩
  · simp at h0
  · refine ⟨g, cap, rfl, ?_⟩
    have hc : ∀ j v, (ccs c)[j]? = some v → W.cell? ⟨g, 0 + j, none⟩ = some v := fun j v hj => by
      have hj2 : j < 7 := (List.getElem?_eq_some_iff.1 hj).1
      rw [Nat.zero_add, h.cellAt j (by simp; omega)]
      have := ccells_get [c] 0 c rfl j v hj
      simpa using this
    exact ⟨hc 0 _ rfl, hc 1 _ rfl, hc 2 _ rfl, hc 3 _ rfl, hc 4 _ rfl, hc 5 _ rfl, hc 6 _ rfl⟩
set_option maxRecDepth 100000 in
set_option maxHeartbeats 8000000 in
theorem works_d (w : World) (hg : ErrType w) : Calls Tryz.prog 16 #[] w fun e w' => e = .returned (.bool true) ∧ Below w.heap.size w w' := by
  have hD := fun p W => dirK_p p W
  have hF := fun p d W => fileK_p p d W
  have hGn := fun p W => goneK_p p W
  have hL1 := fun W => laidK_p (kF ⟨#[97, 47, 98]⟩ ⟨#[122]⟩) W
  have hL2 := fun W => laidK_p (kF ⟨#[100]⟩ ⟨#[121]⟩) W
  have hL3 := fun W => laidK_p (kF ⟨#[99]⟩ ⟨#[121]⟩) W
  simp only [entV, chgV, kD, kF, goneC, laidC, noEnt] at hD hF hGn hL1 hL2 hL3
  have HG : Hid (ErrType w) := hg
  clear hg
  go_enter Tryz.func16, Tryz.ntmps16
  go_wp2_with fail
  refine (hD _ _).mono ?_
  rintro e w1 ⟨rfl, h1⟩
  go_wp2_with fail
  refine (hF _ _ _).mono ?_
  rintro e w2 ⟨rfl, h2⟩
  go_wp2_with fail
  refine (hF _ _ _).mono ?_
  rintro e w3 ⟨rfl, h3⟩
  go_wp2_with fail
  have eA := ents_new w3 52 KA #[.string ⟨#[97]⟩, .int .i64 1, .int .i64 493, .string ⟨#[]⟩, .string ⟨#[]⟩, .string ⟨#[97, 47, 98]⟩, .int .i64 2, .int .i64 420, .string ⟨#[120]⟩, .string ⟨#[]⟩, .string ⟨#[99]⟩, .int .i64 2, .int .i64 420, .string ⟨#[121]⟩, .string ⟨#[]⟩] rfl
  have hB3 : Hid (Below w.heap.size w (w3.alloc (.cells #[.string ⟨#[97]⟩, .int .i64 1, .int .i64 493, .string ⟨#[]⟩, .string ⟨#[]⟩, .string ⟨#[97, 47, 98]⟩, .int .i64 2, .int .i64 420, .string ⟨#[120]⟩, .string ⟨#[]⟩, .string ⟨#[99]⟩, .int .i64 2, .int .i64 420, .string ⟨#[121]⟩, .string ⟨#[]⟩] 52))) := by
    have h9 := below_join (below_join h1 h2) h3
    exact h9.alloc h9.size _
  clear h1 h2 h3
  generalize hV1 : (w3.alloc (.cells #[.string ⟨#[97]⟩, .int .i64 1, .int .i64 493, .string ⟨#[]⟩, .string ⟨#[]⟩, .string ⟨#[97, 47, 98]⟩, .int .i64 2, .int .i64 420, .string ⟨#[120]⟩, .string ⟨#[]⟩, .string ⟨#[99]⟩, .int .i64 2, .int .i64 420, .string ⟨#[121]⟩, .string ⟨#[]⟩] 52)) = V1 at *
  generalize hg1 : w3.heap.size = g1 at *
  refine (hD _ _).mono ?_
  rintro e w4 ⟨rfl, h4⟩
  go_wp2_with fail
  refine (hF _ _ _).mono ?_
  rintro e w5 ⟨rfl, h5⟩
  go_wp2_with fail
  refine (hF _ _ _).mono ?_
  rintro e w6 ⟨rfl, h6⟩
  go_wp2_with fail
  have eB := ents_new w6 52 KB #[.string ⟨#[97]⟩, .int .i64 1, .int .i64 493, .string ⟨#[]⟩, .string ⟨#[]⟩, .string ⟨#[97, 47, 98]⟩, .int .i64 2, .int .i64 420, .string ⟨#[122]⟩, .string ⟨#[]⟩, .string ⟨#[100]⟩, .int .i64 2, .int .i64 420, .string ⟨#[121]⟩, .string ⟨#[]⟩] rfl
  have hB6 : Hid (Below V1.heap.size V1 (w6.alloc (.cells #[.string ⟨#[97]⟩, .int .i64 1, .int .i64 493, .string ⟨#[]⟩, .string ⟨#[]⟩, .string ⟨#[97, 47, 98]⟩, .int .i64 2, .int .i64 420, .string ⟨#[122]⟩, .string ⟨#[]⟩, .string ⟨#[100]⟩, .int .i64 2, .int .i64 420, .string ⟨#[121]⟩, .string ⟨#[]⟩] 52))) := by
    have h9 := below_join (below_join h4 h5) h6
    exact h9.alloc h9.size _
  clear h4 h5 h6 hV1
  generalize hV2 : (w6.alloc (.cells #[.string ⟨#[97]⟩, .int .i64 1, .int .i64 493, .string ⟨#[]⟩, .string ⟨#[]⟩, .string ⟨#[97, 47, 98]⟩, .int .i64 2, .int .i64 420, .string ⟨#[122]⟩, .string ⟨#[]⟩, .string ⟨#[100]⟩, .int .i64 2, .int .i64 420, .string ⟨#[121]⟩, .string ⟨#[]⟩] 52)) = V2 at *
  generalize hg2 : w6.heap.size = g2 at *
  have HB2 : Hid (Below w.heap.size w V2) := below_join hB3.out hB6.out
  have EA : Hid (EntsAt V2 (.slice (some ⟨g1, 0, none⟩) 3 3) KA) := eA.below hB6.out
  have EB : Hid (EntsAt V2 (.slice (some ⟨g2, 0, none⟩) 3 3) KB) := eB
  clear eA eB hV2 hB3 hB6 hg1 hg2
  have pA : ∀ e ∈ KA, e.path.size < 1152921504606846976 := fun e he => by have := tree_paths (by rw [kn_a]) e he; omega
  have pB : ∀ e ∈ KB, e.path.size < 1152921504606846976 := fun e he => by have := tree_paths (by rw [kn_b]) e he; omega
  have HP : Hid (∀ e ∈ KA, e.path.size < 1152921504606846976) := pA
  have hDf := diff_d (.slice (some ⟨g1, 0, none⟩) 3 3) (.slice (some ⟨g2, 0, none⟩) 3 3) KA KB V2 (HG.out.below HB2.out) EA.out EB.out (by decide) (by decide) pA pB
  rw [kn_diff] at hDf
  clear pA pB
  refine hDf.mono ?_
  rintro e w7 ⟨ul, rfl, hul, h7⟩
  clear hDf
  have HL : Hid (ChgsAt w7 ul KW) := chgs_of_owns hul
  have hul2 : ∃ a n cap, ul = .slice a n cap := by
    obtain ⟨a, cap, _, _, rfl, _⟩ := HL.out
    exact ⟨a, _, cap, rfl⟩
  obtain ⟨la, ln, lc, rfl⟩ := hul2
  rw [show errF (0, 0, 0) = .nilIface from rfl]
  have HB7 : Hid (Below w.heap.size w w7) := below_join HB2.out h7
  have EA7 : Hid (EntsAt w7 (.slice (some ⟨g1, 0, none⟩) 3 3) KA) := EA.out.below h7
  have EB7 : Hid (EntsAt w7 (.slice (some ⟨g2, 0, none⟩) 3 3) KB) := EB.out.below h7
  clear hul h7 EA EB HB2
  obtain ⟨g9, o9, cap9, e9, hc9⟩ := cells_of EB7.out (by decide)
  cases e9
  obtain ⟨p0, p1, p2, p3, p4⟩ := hc9 1 _ rfl
  obtain ⟨q0, q1, q2, q3, q4⟩ := hc9 2 _ rfl
  simp only [kF, Nat.zero_add, Nat.reduceMul, Nat.reduceAdd] at p0 p1 p2 p3 p4 q0 q1 q2 q3 q4
  have hgl : g2 < w7.drew.heap.size := World.block_lt_of_cell? w7 _ p0
  clear hc9
  go_upto_region 4 with fail
  go_region_held3 (fun W => W.cell? ⟨g2, 5, none⟩ = some (.string ⟨#[97, 47, 98]⟩) ∧ W.cell? ⟨g2, 6, none⟩ = some (.int .i64 2) ∧ W.cell? ⟨g2, 7, none⟩ = some (.int .i64 420) ∧ W.cell? ⟨g2, 8, none⟩ = some (.string ⟨#[122]⟩) ∧ W.cell? ⟨g2, 9, none⟩ = some (.string ⟨#[]⟩) ∧ W.cell? ⟨g2, 10, none⟩ = some (.string ⟨#[100]⟩) ∧ W.cell? ⟨g2, 11, none⟩ = some (.int .i64 2) ∧ W.cell? ⟨g2, 12, none⟩ = some (.int .i64 420) ∧ W.cell? ⟨g2, 13, none⟩ = some (.string ⟨#[121]⟩) ∧ W.cell? ⟨g2, 14, none⟩ = some (.string ⟨#[]⟩))
    (first
      | exact ⟨p0, p1, p2, p3, p4, q0, q1, q2, q3, q4⟩
      | exact ⟨((k1.cell (p := ⟨g2, 5, none⟩) hgl).trans p0), ((k1.cell (p := ⟨g2, 6, none⟩) hgl).trans p1), ((k1.cell (p := ⟨g2, 7, none⟩) hgl).trans p2), ((k1.cell (p := ⟨g2, 8, none⟩) hgl).trans p3), ((k1.cell (p := ⟨g2, 9, none⟩) hgl).trans p4), ((k1.cell (p := ⟨g2, 10, none⟩) hgl).trans q0), ((k1.cell (p := ⟨g2, 11, none⟩) hgl).trans q1), ((k1.cell (p := ⟨g2, 12, none⟩) hgl).trans q2), ((k1.cell (p := ⟨g2, 13, none⟩) hgl).trans q3), ((k1.cell (p := ⟨g2, 14, none⟩) hgl).trans q4)⟩
      | exact ⟨((k2.cell (p := ⟨g2, 5, none⟩) (Nat.lt_of_lt_of_le hgl k1.size)).trans ((k1.cell (p := ⟨g2, 5, none⟩) hgl).trans p0)), ((k2.cell (p := ⟨g2, 6, none⟩) (Nat.lt_of_lt_of_le hgl k1.size)).trans ((k1.cell (p := ⟨g2, 6, none⟩) hgl).trans p1)), ((k2.cell (p := ⟨g2, 7, none⟩) (Nat.lt_of_lt_of_le hgl k1.size)).trans ((k1.cell (p := ⟨g2, 7, none⟩) hgl).trans p2)), ((k2.cell (p := ⟨g2, 8, none⟩) (Nat.lt_of_lt_of_le hgl k1.size)).trans ((k1.cell (p := ⟨g2, 8, none⟩) hgl).trans p3)), ((k2.cell (p := ⟨g2, 9, none⟩) (Nat.lt_of_lt_of_le hgl k1.size)).trans ((k1.cell (p := ⟨g2, 9, none⟩) hgl).trans p4)), ((k2.cell (p := ⟨g2, 10, none⟩) (Nat.lt_of_lt_of_le hgl k1.size)).trans ((k1.cell (p := ⟨g2, 10, none⟩) hgl).trans q0)), ((k2.cell (p := ⟨g2, 11, none⟩) (Nat.lt_of_lt_of_le hgl k1.size)).trans ((k1.cell (p := ⟨g2, 11, none⟩) hgl).trans q1)), ((k2.cell (p := ⟨g2, 12, none⟩) (Nat.lt_of_lt_of_le hgl k1.size)).trans ((k1.cell (p := ⟨g2, 12, none⟩) hgl).trans q2)), ((k2.cell (p := ⟨g2, 13, none⟩) (Nat.lt_of_lt_of_le hgl k1.size)).trans ((k1.cell (p := ⟨g2, 13, none⟩) hgl).trans q3)), ((k2.cell (p := ⟨g2, 14, none⟩) (Nat.lt_of_lt_of_le hgl k1.size)).trans ((k1.cell (p := ⟨g2, 14, none⟩) hgl).trans q4))⟩
      | exact ⟨((k3.cell (p := ⟨g2, 5, none⟩) (Nat.lt_of_lt_of_le hgl (Nat.le_trans k1.size k2.size))).trans ((k2.cell (p := ⟨g2, 5, none⟩) (Nat.lt_of_lt_of_le hgl k1.size)).trans ((k1.cell (p := ⟨g2, 5, none⟩) hgl).trans p0))), ((k3.cell (p := ⟨g2, 6, none⟩) (Nat.lt_of_lt_of_le hgl (Nat.le_trans k1.size k2.size))).trans ((k2.cell (p := ⟨g2, 6, none⟩) (Nat.lt_of_lt_of_le hgl k1.size)).trans ((k1.cell (p := ⟨g2, 6, none⟩) hgl).trans p1))), ((k3.cell (p := ⟨g2, 7, none⟩) (Nat.lt_of_lt_of_le hgl (Nat.le_trans k1.size k2.size))).trans ((k2.cell (p := ⟨g2, 7, none⟩) (Nat.lt_of_lt_of_le hgl k1.size)).trans ((k1.cell (p := ⟨g2, 7, none⟩) hgl).trans p2))), ((k3.cell (p := ⟨g2, 8, none⟩) (Nat.lt_of_lt_of_le hgl (Nat.le_trans k1.size k2.size))).trans ((k2.cell (p := ⟨g2, 8, none⟩) (Nat.lt_of_lt_of_le hgl k1.size)).trans ((k1.cell (p := ⟨g2, 8, none⟩) hgl).trans p3))), ((k3.cell (p := ⟨g2, 9, none⟩) (Nat.lt_of_lt_of_le hgl (Nat.le_trans k1.size k2.size))).trans ((k2.cell (p := ⟨g2, 9, none⟩) (Nat.lt_of_lt_of_le hgl k1.size)).trans ((k1.cell (p := ⟨g2, 9, none⟩) hgl).trans p4))), ((k3.cell (p := ⟨g2, 10, none⟩) (Nat.lt_of_lt_of_le hgl (Nat.le_trans k1.size k2.size))).trans ((k2.cell (p := ⟨g2, 10, none⟩) (Nat.lt_of_lt_of_le hgl k1.size)).trans ((k1.cell (p := ⟨g2, 10, none⟩) hgl).trans q0))), ((k3.cell (p := ⟨g2, 11, none⟩) (Nat.lt_of_lt_of_le hgl (Nat.le_trans k1.size k2.size))).trans ((k2.cell (p := ⟨g2, 11, none⟩) (Nat.lt_of_lt_of_le hgl k1.size)).trans ((k1.cell (p := ⟨g2, 11, none⟩) hgl).trans q1))), ((k3.cell (p := ⟨g2, 12, none⟩) (Nat.lt_of_lt_of_le hgl (Nat.le_trans k1.size k2.size))).trans ((k2.cell (p := ⟨g2, 12, none⟩) (Nat.lt_of_lt_of_le hgl k1.size)).trans ((k1.cell (p := ⟨g2, 12, none⟩) hgl).trans q2))), ((k3.cell (p := ⟨g2, 13, none⟩) (Nat.lt_of_lt_of_le hgl (Nat.le_trans k1.size k2.size))).trans ((k2.cell (p := ⟨g2, 13, none⟩) (Nat.lt_of_lt_of_le hgl k1.size)).trans ((k1.cell (p := ⟨g2, 13, none⟩) hgl).trans q3))), ((k3.cell (p := ⟨g2, 14, none⟩) (Nat.lt_of_lt_of_le hgl (Nat.le_trans k1.size k2.size))).trans ((k2.cell (p := ⟨g2, 14, none⟩) (Nat.lt_of_lt_of_le hgl k1.size)).trans ((k1.cell (p := ⟨g2, 14, none⟩) hgl).trans q4)))⟩
      | go_keep)
    (first
      | (go_at_call 40; with_reducible refine (hL1 _).mono ?_; rintro e x1 ⟨rfl, k1⟩)
      | (go_at_call 40; with_reducible refine (hL2 _).mono ?_; rintro e x3 ⟨rfl, k3⟩)
      | (go_at_call 41; with_reducible refine (hGn _ _).mono ?_; rintro e x2 ⟨rfl, k2⟩))
  have HB8 : Hid (Below w7.heap.size w7 x3) := below_join (below_join (below_join (below_drewN (Below.refl _ _) 1) k1) k2) k3
  have eW := chgs_new x3 54 KW #[.string ⟨#[97, 47, 98]⟩, .bool false, .string ⟨#[97, 47, 98]⟩, .int .i64 2, .int .i64 420, .string ⟨#[122]⟩, .string ⟨#[]⟩, .string ⟨#[99]⟩, .bool true, .string ⟨#[]⟩, .int .i64 0, .int .i64 0, .string ⟨#[]⟩, .string ⟨#[]⟩, .string ⟨#[100]⟩, .bool false, .string ⟨#[100]⟩, .int .i64 2, .int .i64 420, .string ⟨#[121]⟩, .string ⟨#[]⟩] rfl
  have HB9 : Hid (Below w7.heap.size w7 (x3.alloc (.cells #[.string ⟨#[97, 47, 98]⟩, .bool false, .string ⟨#[97, 47, 98]⟩, .int .i64 2, .int .i64 420, .string ⟨#[122]⟩, .string ⟨#[]⟩, .string ⟨#[99]⟩, .bool true, .string ⟨#[]⟩, .int .i64 0, .int .i64 0, .string ⟨#[]⟩, .string ⟨#[]⟩, .string ⟨#[100]⟩, .bool false, .string ⟨#[100]⟩, .int .i64 2, .int .i64 420, .string ⟨#[121]⟩, .string ⟨#[]⟩] 54))) := HB8.out.alloc HB8.out.size _
  clear k1 k2 k3 p0 p1 p2 p3 p4 q0 q1 q2 q3 q4 hgl
  generalize hV3 : (x3.alloc (.cells #[.string ⟨#[97, 47, 98]⟩, .bool false, .string ⟨#[97, 47, 98]⟩, .int .i64 2, .int .i64 420, .string ⟨#[122]⟩, .string ⟨#[]⟩, .string ⟨#[99]⟩, .bool true, .string ⟨#[]⟩, .int .i64 0, .int .i64 0, .string ⟨#[]⟩, .string ⟨#[]⟩, .string ⟨#[100]⟩, .bool false, .string ⟨#[100]⟩, .int .i64 2, .int .i64 420, .string ⟨#[121]⟩, .string ⟨#[]⟩] 54)) = V3 at *
  generalize hg3 : x3.heap.size = g3 at *
  have EW : Hid (ChgsAt V3 (.slice (some ⟨g3, 0, none⟩) 3 3) KW) := eW
  have HB3' : Hid (Below w.heap.size w V3) := below_join HB7.out HB9.out
  have EA8 : Hid (EntsAt V3 (.slice (some ⟨g1, 0, none⟩) 3 3) KA) := EA7.out.below HB9.out
  have EB8 : Hid (EntsAt V3 (.slice (some ⟨g2, 0, none⟩) 3 3) KB) := EB7.out.below HB9.out
  have HL8 : Hid (ChgsAt V3 (.slice la ln lc) KW) := HL.out.below HB9.out
  clear eW hV3 hg3 HB8 HB9 HB7 EA7 EB7 HL
  have hAp := apply_d (.slice (some ⟨g1, 0, none⟩) 3 3) (.slice (some ⟨g3, 0, none⟩) 3 3) KA KW V3 (HG.out.below HB3'.out) EA8.out EW.out (by decide) (by decide) HP.out (by decide)
  unfold ApplyPost at hAp
  rw [kn_apply] at hAp
  go_wp2_with fail
  refine hAp.mono ?_
  rintro e w10 ⟨uc, rfl, huc, h10⟩
  rw [show errF (0, 0, 0) = .nilIface from rfl]
  clear hAp
  have EC : Hid (EntsAt w10 uc KB) := ents_of_owns huc
  have huc2 : ∃ a n cap, uc = .slice a n cap := by
    obtain ⟨a, cap, _, _, rfl, _⟩ := EC.out
    exact ⟨a, _, cap, rfl⟩
  obtain ⟨ca, cn, cc, rfl⟩ := huc2
  have HB10 : Hid (Below w.heap.size w w10) := below_join HB3'.out h10
  have EA10 : Hid (EntsAt w10 (.slice (some ⟨g1, 0, none⟩) 3 3) KA) := EA8.out.below h10
  have EB10 : Hid (EntsAt w10 (.slice (some ⟨g2, 0, none⟩) 3 3) KB) := EB8.out.below h10
  have EW10 : Hid (ChgsAt w10 (.slice (some ⟨g3, 0, none⟩) 3 3) KW) := EW.out.below h10
  have HL10 : Hid (ChgsAt w10 (.slice la ln lc) KW) := HL8.out.below h10
  clear huc h10 HB3' EA8 EB8 EW HL8
  go_wp2_with fail
  refine (hGn _ _).mono ?_
  rintro e w11 ⟨rfl, h11⟩
  go_wp2_with fail
  have eM := chgs_new w11 54 [goneC ⟨#[99]⟩] #[.string ⟨#[99]⟩, .bool true, .string ⟨#[]⟩, .int .i64 0, .int .i64 0, .string ⟨#[]⟩, .string ⟨#[]⟩] rfl
  have HB11 : Hid (Below w10.heap.size w10 (w11.alloc (.cells #[.string ⟨#[99]⟩, .bool true, .string ⟨#[]⟩, .int .i64 0, .int .i64 0, .string ⟨#[]⟩, .string ⟨#[]⟩] 54))) := h11.alloc h11.size _
  clear h11
  generalize hV4 : (w11.alloc (.cells #[.string ⟨#[99]⟩, .bool true, .string ⟨#[]⟩, .int .i64 0, .int .i64 0, .string ⟨#[]⟩, .string ⟨#[]⟩] 54)) = V4 at *
  generalize hg4 : w11.heap.size = g5 at *
  have hBk := back_d (.slice (some ⟨g1, 0, none⟩) 3 3) (.slice (some ⟨g5, 0, none⟩) 1 1) KA [goneC ⟨#[99]⟩] V4 (HG.out.below (below_join HB10.out HB11.out)) (EA10.out.below HB11.out) eM (by decide) (by decide) HP.out (by decide)
  rw [kn_back] at hBk
  refine hBk.mono ?_
  rintro e w12 ⟨um, rfl, hum, h12⟩
  rw [show errF (0, 0, 0) = .nilIface from rfl]
  obtain ⟨g4, mcap, rfl, hmc⟩ := chg_cell hum
  have HM : Hid (ChgC w12 g4 0 (laidC (kF ⟨#[99]⟩ ⟨#[121]⟩))) := hmc
  have HB12 : Hid (Below w10.heap.size w10 w12) := below_join HB11.out h12
  clear hBk hum h12 hmc eM HB11 hV4 hg4
  go_wp2_with fail
  refine (hGn _ _).mono ?_
  rintro e w13 ⟨rfl, h13⟩
  go_wp2_with fail
  have eN := chgs_new w13 54 [goneC ⟨#[122]⟩] #[.string ⟨#[122]⟩, .bool true, .string ⟨#[]⟩, .int .i64 0, .int .i64 0, .string ⟨#[]⟩, .string ⟨#[]⟩] rfl
  have HB13 : Hid (Below w12.heap.size w12 (w13.alloc (.cells #[.string ⟨#[122]⟩, .bool true, .string ⟨#[]⟩, .int .i64 0, .int .i64 0, .string ⟨#[]⟩, .string ⟨#[]⟩] 54))) := h13.alloc h13.size _
  clear h13
  generalize hV5 : (w13.alloc (.cells #[.string ⟨#[122]⟩, .bool true, .string ⟨#[]⟩, .int .i64 0, .int .i64 0, .string ⟨#[]⟩, .string ⟨#[]⟩] 54)) = V5 at *
  generalize hg5 : w13.heap.size = g6 at *
  have hAn := apply_d (.slice (some ⟨g1, 0, none⟩) 3 3) (.slice (some ⟨g6, 0, none⟩) 1 1) KA [goneC ⟨#[122]⟩] V5 (HG.out.below (below_join HB10.out (below_join HB12.out HB13.out))) (EA10.out.below (below_join HB12.out HB13.out)) eN (by decide) (by decide) HP.out (by decide)
  unfold ApplyPost at hAn
  rw [kn_none] at hAn
  refine hAn.mono ?_
  rintro e w14 ⟨un9, rfl, hun, h14⟩
  rw [show errF (10, 1, 0) = fltL 10 1 0 from rfl]
  unfold fltL
  have HB14 : Hid (Below w12.heap.size w12 w14) := below_join HB13.out h14
  clear hAn h14 eN HB13 hV5 hg5 hun
  have hAt := kitAt_p 10 1 0 (by decide) (by decide) w14 (HG.out.below (below_join HB10.out (below_join HB12.out HB14.out)))
  unfold fltV at hAt
  go_wp2_with fail
  refine hAt.mono ?_
  rintro e w15 ⟨rfl, h15⟩
  have HB15 : Hid (Below w12.heap.size w12 w15) := below_join HB14.out h15
  have HBA : Hid (Below w10.heap.size w10 w15) := below_join HB12.out HB15.out
  clear hAt h15 HB14
  go_upto_region 10 with fail
  obtain ⟨m0, m1, m2, m3, m4, m5, m6⟩ := HM.out.below HB15.out
  obtain ⟨g8, o8, cap8, e8, hc8⟩ := cells_of (EA10.out.below HBA.out) (by decide)
  cases e8
  obtain ⟨n0, n1, n2, n3, n4⟩ := hc8 2 _ rfl
  simp only [kF, laidC, Nat.zero_add, Nat.reduceMul, Nat.reduceAdd] at m0 m1 m2 m3 m4 m5 m6 n0 n1 n2 n3 n4
  have d1m : g4 < w15.drew.heap.size := World.block_lt_of_cell? w15 _ m0
  have d1a : g1 < w15.drew.heap.size := World.block_lt_of_cell? w15 _ n0
  have hBd : Below w10.heap.size w10 w15.drew := below_drewN HBA.out 1
  have hSC := sameC_p (.slice la ln lc) (.slice (some ⟨g3, 0, none⟩) 3 3) KW w15.drew (HL10.out.below hBd) (EW10.out.below hBd) (by decide)
  have hSE := fun W (hb : Below w15.drew.heap.size w15.drew W) => same_p (.slice ca cn cc) (.slice (some ⟨g2, 0, none⟩) 3 3) KB W (EC.out.below (below_join hBd hb)) (EB10.out.below (below_join hBd hb)) (by decide)
  have heq := fun W => eq_chg (laidC (kF ⟨#[99]⟩ ⟨#[121]⟩)) W
  simp only [kF, laidC] at heq
  clear hc8
  go_region_held3 (fun W => W.cell? ⟨g4, 0, none⟩ = some (.string ⟨#[99]⟩) ∧ W.cell? ⟨g4, 1, none⟩ = some (.bool false) ∧ W.cell? ⟨g4, 2, none⟩ = some (.string ⟨#[99]⟩) ∧ W.cell? ⟨g4, 3, none⟩ = some (.int .i64 2) ∧ W.cell? ⟨g4, 4, none⟩ = some (.int .i64 420) ∧ W.cell? ⟨g4, 5, none⟩ = some (.string ⟨#[121]⟩) ∧ W.cell? ⟨g4, 6, none⟩ = some (.string ⟨#[]⟩) ∧ W.cell? ⟨g1, 10, none⟩ = some (.string ⟨#[99]⟩) ∧ W.cell? ⟨g1, 11, none⟩ = some (.int .i64 2) ∧ W.cell? ⟨g1, 12, none⟩ = some (.int .i64 420) ∧ W.cell? ⟨g1, 13, none⟩ = some (.string ⟨#[121]⟩) ∧ W.cell? ⟨g1, 14, none⟩ = some (.string ⟨#[]⟩))
    (first
      | exact ⟨m0, m1, m2, m3, m4, m5, m6, n0, n1, n2, n3, n4⟩
      | exact ⟨((l1.cell (p := ⟨g4, 0, none⟩) d1m).trans m0), ((l1.cell (p := ⟨g4, 1, none⟩) d1m).trans m1), ((l1.cell (p := ⟨g4, 2, none⟩) d1m).trans m2), ((l1.cell (p := ⟨g4, 3, none⟩) d1m).trans m3), ((l1.cell (p := ⟨g4, 4, none⟩) d1m).trans m4), ((l1.cell (p := ⟨g4, 5, none⟩) d1m).trans m5), ((l1.cell (p := ⟨g4, 6, none⟩) d1m).trans m6), ((l1.cell (p := ⟨g1, 10, none⟩) d1a).trans n0), ((l1.cell (p := ⟨g1, 11, none⟩) d1a).trans n1), ((l1.cell (p := ⟨g1, 12, none⟩) d1a).trans n2), ((l1.cell (p := ⟨g1, 13, none⟩) d1a).trans n3), ((l1.cell (p := ⟨g1, 14, none⟩) d1a).trans n4)⟩
      | exact ⟨((l2.cell (p := ⟨g4, 0, none⟩) d2m).trans ((l1.cell (p := ⟨g4, 0, none⟩) d1m).trans m0)), ((l2.cell (p := ⟨g4, 1, none⟩) d2m).trans ((l1.cell (p := ⟨g4, 1, none⟩) d1m).trans m1)), ((l2.cell (p := ⟨g4, 2, none⟩) d2m).trans ((l1.cell (p := ⟨g4, 2, none⟩) d1m).trans m2)), ((l2.cell (p := ⟨g4, 3, none⟩) d2m).trans ((l1.cell (p := ⟨g4, 3, none⟩) d1m).trans m3)), ((l2.cell (p := ⟨g4, 4, none⟩) d2m).trans ((l1.cell (p := ⟨g4, 4, none⟩) d1m).trans m4)), ((l2.cell (p := ⟨g4, 5, none⟩) d2m).trans ((l1.cell (p := ⟨g4, 5, none⟩) d1m).trans m5)), ((l2.cell (p := ⟨g4, 6, none⟩) d2m).trans ((l1.cell (p := ⟨g4, 6, none⟩) d1m).trans m6)), ((l2.cell (p := ⟨g1, 10, none⟩) d2a).trans ((l1.cell (p := ⟨g1, 10, none⟩) d1a).trans n0)), ((l2.cell (p := ⟨g1, 11, none⟩) d2a).trans ((l1.cell (p := ⟨g1, 11, none⟩) d1a).trans n1)), ((l2.cell (p := ⟨g1, 12, none⟩) d2a).trans ((l1.cell (p := ⟨g1, 12, none⟩) d1a).trans n2)), ((l2.cell (p := ⟨g1, 13, none⟩) d2a).trans ((l1.cell (p := ⟨g1, 13, none⟩) d1a).trans n3)), ((l2.cell (p := ⟨g1, 14, none⟩) d2a).trans ((l1.cell (p := ⟨g1, 14, none⟩) d1a).trans n4))⟩
      | exact ⟨((l3.cell (p := ⟨g4, 0, none⟩) d3m).trans ((l2.cell (p := ⟨g4, 0, none⟩) d2m).trans ((l1.cell (p := ⟨g4, 0, none⟩) d1m).trans m0))), ((l3.cell (p := ⟨g4, 1, none⟩) d3m).trans ((l2.cell (p := ⟨g4, 1, none⟩) d2m).trans ((l1.cell (p := ⟨g4, 1, none⟩) d1m).trans m1))), ((l3.cell (p := ⟨g4, 2, none⟩) d3m).trans ((l2.cell (p := ⟨g4, 2, none⟩) d2m).trans ((l1.cell (p := ⟨g4, 2, none⟩) d1m).trans m2))), ((l3.cell (p := ⟨g4, 3, none⟩) d3m).trans ((l2.cell (p := ⟨g4, 3, none⟩) d2m).trans ((l1.cell (p := ⟨g4, 3, none⟩) d1m).trans m3))), ((l3.cell (p := ⟨g4, 4, none⟩) d3m).trans ((l2.cell (p := ⟨g4, 4, none⟩) d2m).trans ((l1.cell (p := ⟨g4, 4, none⟩) d1m).trans m4))), ((l3.cell (p := ⟨g4, 5, none⟩) d3m).trans ((l2.cell (p := ⟨g4, 5, none⟩) d2m).trans ((l1.cell (p := ⟨g4, 5, none⟩) d1m).trans m5))), ((l3.cell (p := ⟨g4, 6, none⟩) d3m).trans ((l2.cell (p := ⟨g4, 6, none⟩) d2m).trans ((l1.cell (p := ⟨g4, 6, none⟩) d1m).trans m6))), ((l3.cell (p := ⟨g1, 10, none⟩) d3a).trans ((l2.cell (p := ⟨g1, 10, none⟩) d2a).trans ((l1.cell (p := ⟨g1, 10, none⟩) d1a).trans n0))), ((l3.cell (p := ⟨g1, 11, none⟩) d3a).trans ((l2.cell (p := ⟨g1, 11, none⟩) d2a).trans ((l1.cell (p := ⟨g1, 11, none⟩) d1a).trans n1))), ((l3.cell (p := ⟨g1, 12, none⟩) d3a).trans ((l2.cell (p := ⟨g1, 12, none⟩) d2a).trans ((l1.cell (p := ⟨g1, 12, none⟩) d1a).trans n2))), ((l3.cell (p := ⟨g1, 13, none⟩) d3a).trans ((l2.cell (p := ⟨g1, 13, none⟩) d2a).trans ((l1.cell (p := ⟨g1, 13, none⟩) d1a).trans n3))), ((l3.cell (p := ⟨g1, 14, none⟩) d3a).trans ((l2.cell (p := ⟨g1, 14, none⟩) d2a).trans ((l1.cell (p := ⟨g1, 14, none⟩) d1a).trans n4)))⟩
      | go_keep)
    (first
      | (go_at_call 13; refine hSC.mono ?_; rintro e y1 ⟨rfl, l1⟩; have d2m := Nat.lt_of_lt_of_le d1m l1.size; have d2a := Nat.lt_of_lt_of_le d1a l1.size)
      | (go_at_call 20; refine (hSE _ l1).mono ?_; rintro e y2 ⟨rfl, l2⟩; have d3m := Nat.lt_of_lt_of_le d2m l2.size; have d3a := Nat.lt_of_lt_of_le d2a l2.size)
      | (go_at_call 40; refine (hL3 _).mono ?_; rintro e y3 ⟨rfl, l3⟩))
  go_wp2
  go_ret
  exact ⟨rfl, below_join HB10.out (below_join (below_join (below_join hBd l1) l2) l3)⟩
end Go.Proofs.YtgildlfanfbebaaGreatDoor
