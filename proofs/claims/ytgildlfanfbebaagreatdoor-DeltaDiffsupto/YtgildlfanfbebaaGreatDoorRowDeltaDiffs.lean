/- DeltaDiffs, where the entries are of bulk at most 1048576: from its walk to its row and its card. -/
import Derived.Test.YtgildlfanfbebaaGreatDoorDocC
import Derived.Test.YtgildlfanfbebaaGreatDoorDifD
import Derived.Test.YtgildlfanfbebaaGreatDoorChgW
import Derived.Deep.QuietTactic
import Derived.Deep.RegionWith
import Derived.Maps.AppendAt
import Derived.Test.YtgildlfanfbebaaGreatDoorRows
import Derived.Test.YtgildlfanfbebaaGreatDoorPlain
import Derived.LaidHandle
import Derived.LaidLaws
import Derived.Stop.Joined
import Derived.Lib.LaidTab
import Derived.SliceStrings
import Derived.Laws.Tables
import Derived.Test.YtgildlfanfbebaaGreatDoorEntW
import Derived.Deep.Slices
import Derived.Deep.Strs
import Derived.ChangeArms
import Derived.Test.YtgildlfanfbebaaGreatDoorCards
import Derived.Test.YtgildlfanfbebaaGreatDoorTie
import Derived.ProofKit
import Derived.OpenShut
import Derived.SizedLaws
import Derived.Deep.DeepHandedRow
import Derived.SevenTiedAt

namespace Go.Proofs.YtgildlfanfbebaaGreatDoor
open Go Go.RowKit

def faultV (r : Int × Int × Int) : Value := .agg #[.int .i64 r.1, .int .i64 r.2.1, .int .i64 r.2.2]
def DiffD (r : (Int × Int × Int) × List Chg) (w : World) (e : Ending) (w' : World) : Prop :=
  ∃ u, e = .returned (.tuple #[u, faultV r.1]) ∧ w'.ownsRow w.heap.size 54 7 u r.2.length (ccells r.2) ∧ Below w.heap.size w w'
theorem row_lower {W : World} {base b2 e size n : Nat} {v : Value} {xs : List Value} (h : W.ownsRow base e size v n xs) (hb : b2 ≤ base) : W.ownsRow b2 e size v n xs := by
  refine ⟨h.1, ?_⟩
  rcases h.2 with hn | ⟨g, cap, cur, e1, e2, rest⟩
  · exact .inl hn
  · exact .inr ⟨g, cap, cur, e1, by omega, rest⟩
theorem results_tmp_row {P : Program} {fn : Func} {u p : Tmp} {ty : TypeId} (h : fn.results = #[.tmp u, .cell p ty]) (tmps : Array Value) (w : World) (g : Nat) (t : TypeId) (cs : Array Value) (fr : Nat × Nat) (d : TypeDesc)
    (hp : tmps.getD p undef = .pointer (some ⟨g, 0, none⟩)) (hg : w.heap[g]? = some (.cells cs t fr))
    (hu : P.underlying ty = some d) (hd : (match d with | .struct _ | .array _ _ => true | _ => false) = true) (hi : (P.info? ty).map (·.size) = some cs.size) :
    (results fn tmps).run P w = .ok (.tuple #[tmps.getD u undef, .agg cs]) w := by
  have hp' : tmps[p]?.getD undef = .pointer (some ⟨g, 0, none⟩) := by simpa using hp
  simp [results, h, hp', asAddr, run_loadVar_row w g t ty cs fr d hg hu hd hi]
theorem own_row {W : World} {base e size n g : Nat} {v : Value} {xs : List Value} (h : W.ownsRow base e size v n xs) (hg : g < base) (cs : Array Value) : (W.setRow g cs).ownsRow base e size v n xs := by
  refine ⟨h.1, ?_⟩
  rcases h.2 with hn | ⟨g2, cap, cur, e1, e2, e3, rest⟩
  · exact .inl hn
  · exact .inr ⟨g2, cap, cur, e1, e2, (setRow_other W g g2 cs (by omega)).trans e3, rest⟩
set_option maxRecDepth 100000 in
set_option maxHeartbeats 2000000 in
theorem diff_r (u v : Value) (a b : List Ent) (w : World) (hu : EntsAt w u a) (hv : EntsAt w v b) (hsa : Small a) (hsb : Small b) : Calls Tryz.prog 9 #[u, v] w (DiffD (diffR a b) w) := by
  have B0 : Hid (Below w.heap.size w (w.alloc (.cells #[.int .i64 0, .int .i64 0, .int .i64 0] 25))) := (Below.refl _ w).alloc (Nat.le_refl _) _
  have L0 : Hid (Lies (w.alloc (.cells #[.int .i64 0, .int .i64 0, .int .i64 0] 25)) w.heap.size 25 #[.int .i64 0, .int .i64 0, .int .i64 0]) := Lies.new _ _ _
  have hinf : (Tryz.prog.info? 25).map (·.size) = some 3 := by kernel_rfl
  have hone : ∀ x y z : Int, (#[.int .i64 x, .int .i64 y, .int .i64 z] : Array Value).all (·.oneCell') = true := fun x y z => by simp [Value.oneCell']
  have hCa := fun W (h : Below w.heap.size w W) => check_d u a W (hu.below h) hsa
  have hCb := fun W (h : Below w.heap.size w W) => check_d v b W (hv.below h) hsb
  by_cases ha : (checkGo [] a).1 = 0
  · rw [ha] at hCa
    by_cases hb : (checkGo [] b).1 = 0
    · rw [hb] at hCb
      have HR : Hid (diffR a b = ((0, 0, 0), unlikeL a b)) := by unfold Hid diffR; rw [if_neg (by simpa using ha), if_neg (by simpa using hb)]
      have hU := fun W (hbw : Below w.heap.size w W) => changes_r u v a b W (hu.below hbw) (hv.below hbw) (tree_tr ha) (tree_tr hb) (by have := (tree_few ha).1; omega) (by have := (tree_few hb).1; omega)
      clear ha hb hu hv
      generalize ((checkGo [] a).2 : Int) = at1 at *
      generalize ((checkGo [] b).2 : Int) = at2 at *
      go_enter Tryz.func9, Tryz.ntmps9
      go_wp2_with fail
      refine (hCa _ B0.out).mono ?_
      rintro e w1 ⟨rfl, h1⟩
      have L1 := L0.out.below h1
      have b1 := below_join B0.out h1
      go_wp2_with fail
      refine (hCb _ b1).mono ?_
      rintro e w2 ⟨rfl, h2⟩
      have L2 := L1.below h2
      have b2 := below_join b1 h2
      go_wp2_with fail
      refine (hU _ b2).mono ?_
      rintro e w3 ⟨r, rfl, h3, h4⟩
      have L3 := L2.below h4
      have b3 := below_join b2 h4
      go_wp2_with (refine wpList_store_row rfl 25 (.tmp 5) (.tmp 31) rfl w.heap.size #[.int .i64 0, .int .i64 0, .int .i64 0] rfl rfl 25 #[.int .i64 0, .int .i64 0, .int .i64 0] L3 hinf rfl (hone _ _ _) ?_)
      dsimp only [Act.put]
      refine bodyPost_ret (results_tmp_row rfl _ _ w.heap.size 25 #[.int .i64 0, .int .i64 0, .int .i64 0] (0, 0) _ rfl (setRow_heap w3 w.heap.size _ _ _ (0, 0) L3) Tryz.underlying25 rfl hinf) rfl ?_
      refine ⟨r, by rw [HR.out]; rfl, ?_, below_setRow b3 (Nat.le_refl _) _⟩
      rw [HR.out]
      exact row_lower (own_row h3 (L2.lt) _) b2.size
    · have HR : Hid (diffR a b = (((checkGo [] b).1, (1 : Int), ((checkGo [] b).2 : Int)), ([] : List Chg))) := by unfold Hid diffR; rw [if_neg (by simpa using ha), if_pos hb]
      have hne : ((checkGo [] b).1 == 0) = false := by simpa using hb
      clear ha hb hu hv
      generalize ((checkGo [] a).2 : Int) = at1 at *
      generalize ((checkGo [] b).2 : Int) = at2 at *
      generalize (checkGo [] b).1 = no at *
      go_enter Tryz.func9, Tryz.ntmps9
      go_wp2_with fail
      refine (hCa _ B0.out).mono ?_
      rintro e w1 ⟨rfl, h1⟩
      have L1 := L0.out.below h1
      have b1 := below_join B0.out h1
      go_wp2_with fail
      refine (hCb _ b1).mono ?_
      rintro e w2 ⟨rfl, h2⟩
      have L2 := L1.below h2
      have b2 := below_join b1 h2
      go_wp2_with (refine wpList_store_row rfl 25 (.tmp 5) (.tmp 27) rfl w.heap.size #[.int .i64 no, .int .i64 1, .int .i64 at2] rfl rfl 25 #[.int .i64 0, .int .i64 0, .int .i64 0] L2 hinf rfl (hone _ _ _) ?_)
      dsimp only [Act.put]
      refine bodyPost_ret (results_tmp_row rfl _ _ w.heap.size 25 #[.int .i64 no, .int .i64 1, .int .i64 at2] (0, 0) _ rfl (setRow_heap w2 w.heap.size _ _ _ (0, 0) L2) Tryz.underlying25 rfl hinf) rfl ?_
      refine ⟨.slice none 0 0, by rw [HR.out]; rfl, ?_, below_setRow b2 (Nat.le_refl _) _⟩
      rw [HR.out]; exact World.ownsRow_nil _ _ _ _
  · have HR : Hid (diffR a b = (((checkGo [] a).1, (0 : Int), ((checkGo [] a).2 : Int)), ([] : List Chg))) := by unfold Hid diffR; rw [if_pos ha]
    have hne : ((checkGo [] a).1 == 0) = false := by simpa using ha
    clear ha hu hv hCb
    generalize ((checkGo [] a).2 : Int) = at' at *
    generalize (checkGo [] a).1 = no at *
    go_enter Tryz.func9, Tryz.ntmps9
    go_wp2_with fail
    refine (hCa _ B0.out).mono ?_
    rintro e w1 ⟨rfl, h1⟩
    have L1 := L0.out.below h1
    have b1 := below_join B0.out h1
    go_wp2_with (refine wpList_store_row rfl 25 (.tmp 5) (.tmp 17) rfl w.heap.size #[.int .i64 no, .int .i64 0, .int .i64 at'] rfl rfl 25 #[.int .i64 0, .int .i64 0, .int .i64 0] L1 hinf rfl (hone _ _ _) ?_)
    dsimp only [Act.put]
    refine bodyPost_ret (results_tmp_row rfl _ _ w.heap.size 25 #[.int .i64 no, .int .i64 0, .int .i64 at'] (0, 0) _ rfl (setRow_heap w1 w.heap.size _ _ _ (0, 0) L1) Tryz.underlying25 rfl hinf) rfl ?_
    refine ⟨.slice none 0 0, by rw [HR.out]; rfl, ?_, below_setRow b1 (Nat.le_refl _) _⟩
    rw [HR.out]; exact World.ownsRow_nil _ _ _ _
end Go.Proofs.YtgildlfanfbebaaGreatDoor


namespace Go.Proofs.YtgildlfanfbebaaGreatDoor
open Go Go.RowKit Go.Shelf

set_option maxRecDepth 100000 in
theorem eq_entD (a b : Ent) (w : World) : (Op.equalIn 9999 52 (.agg (eva a)) (.agg (eva b))).run Tryz.prog w = .ok (eqE a b) w := by
  rw [run_equalIn_struct w 9998 52 (eva a) (eva b) (by kernel_rfl) (by kernel_rfl)]
  have hs : ∀ x y : ByteArray, (Op.equalIn 9998 9 (.string x) (.string y)).run Tryz.prog w = .ok (x.toList == y.toList) w := fun x y => run_equalIn_string w 9997 _ x y Tryz.underlying9
  have hi : ∀ x y : Int, (Op.equalIn 9998 3 (.int .i64 x) (.int .i64 y)).run Tryz.prog w = .ok (x == y) w := fun x y => run_equalIn_int w 9997 _ .i64 .i64 _ _ Tryz.underlying3
  have hk : ∀ x y : Int, (Op.equalIn 9998 50 (.int .i64 x) (.int .i64 y)).run Tryz.prog w = .ok (x == y) w := fun x y => run_equalIn_int w 9997 _ .i64 .i64 _ _ Tryz.underlying50
  have pt : ∀ (h : Ent) (k : Nat) (v : Value) (t : TypeId), (isAgg t).run Tryz.prog w = .ok false w → (eva h)[k]? = some v → (part t (eva h) k).run Tryz.prog w = .ok v w := fun h k v t ht hv => by simp [part, ht, hv]
  have aS := Tryz.isAgg9 w
  have ai := Tryz.isAgg3 w
  have ak := Tryz.isAgg50 w
  unfold eqE
  rw [show (Tryz.prog.fieldsOf 52) = _ from by unfold Program.fieldsOf; rw [Tryz.underlying52]]
  exact eqF_cons 9998 _ _ _ _ _ _ _ _ (by decide) (pt a 0 _ _ aS rfl) (pt b 0 _ _ aS rfl) (hs _ _) (eqF_cons 9998 _ _ _ _ _ _ _ _ (by decide) (pt a 1 _ _ ak rfl) (pt b 1 _ _ ak rfl) (hk _ _) (eqF_cons 9998 _ _ _ _ _ _ _ _ (by decide) (pt a 2 _ _ ai rfl) (pt b 2 _ _ ai rfl) (hi _ _) (eqF_cons 9998 _ _ _ _ _ _ _ _ (by decide) (pt a 3 _ _ aS rfl) (pt b 3 _ _ aS rfl) (hs _ _) (eqF_cons 9998 _ _ _ _ _ _ _ _ (by decide) (pt a 4 _ _ aS rfl) (pt b 4 _ _ aS rfl) (hs _ _) (eqF_nil _ _ _)))))
theorem eq_entN (a : Ent) (w : World) : (Op.equalIn 9999 52 (.agg (eva a)) (.agg (eva a))).run Tryz.prog w = .ok true w := by
  have := eq_entD a a w
  rw [eqE_self] at this; exact this
def cva (c : Chg) : Array Value := #[.string c.path, .bool c.gone, .string c.e.path, .int .i64 c.e.kind, .int .i64 c.e.mode, .string c.e.data, .string c.e.link]
set_option maxRecDepth 100000 in
theorem eq_chg (c : Chg) (w : World) : (Op.equalIn 10000 54 (.agg #[.string c.path, .bool c.gone, .string c.e.path, .int .i64 c.e.kind, .int .i64 c.e.mode, .string c.e.data, .string c.e.link]) (.agg #[.string c.path, .bool c.gone, .string c.e.path, .int .i64 c.e.kind, .int .i64 c.e.mode, .string c.e.data, .string c.e.link])).run Tryz.prog w = .ok true w := by
  show (Op.equalIn 10000 54 (.agg (cva c)) (.agg (cva c))).run Tryz.prog w = .ok true w
  rw [run_equalIn_struct w 9999 54 (cva c) (cva c) (by kernel_rfl) (by kernel_rfl)]
  have hs : ∀ x y : ByteArray, (Op.equalIn 9999 9 (.string x) (.string y)).run Tryz.prog w = .ok (x.toList == y.toList) w := fun x y => run_equalIn_string w 9998 _ x y Tryz.underlying9
  have hb : ∀ x y : Bool, (Op.equalIn 9999 4 (.bool x) (.bool y)).run Tryz.prog w = .ok (x == y) w := fun x y => run_equalIn_bool w 9998 _ x y Tryz.underlying4
  have he : (Op.equalIn 9999 52 (.agg (eva c.e)) (.agg (eva c.e))).run Tryz.prog w = .ok true w := eq_entN c.e w
  have pt : ∀ (k : Nat) (v : Value) (t : TypeId), (isAgg t).run Tryz.prog w = .ok false w → (cva c)[k]? = some v → (part t (cva c) k).run Tryz.prog w = .ok v w := fun k v t ht hv => by simp [part, ht, hv]
  have pe : (part 52 (cva c) 2).run Tryz.prog w = .ok (.agg (eva c.e)) w := by
    simp [part, Tryz.isAgg52 w, cva, eva]
  have aS := Tryz.isAgg9 w
  have ab := Tryz.isAgg4 w
  rw [show (Tryz.prog.fieldsOf 54) = _ from by unfold Program.fieldsOf; rw [Tryz.underlying54]]
  refine (?_ : _ = Result.ok ((c.path.toList == c.path.toList) && ((c.gone == c.gone) && (true && true))) w).trans (by simp)
  exact eqF_cons 9999 _ _ _ _ _ _ _ _ (by decide) (pt 0 _ _ aS rfl) (pt 0 _ _ aS rfl) (hs _ _) (eqF_cons 9999 _ _ _ _ _ _ _ _ (by decide) (pt 1 _ _ ab rfl) (pt 1 _ _ ab rfl) (hb _ _) (eqF_cons 9999 _ _ _ _ _ _ _ _ (by decide) pe pe he (eqF_nil _ _ _)))
def SamePost (a b : List Ent) (w : World) (e : Ending) (w' : World) : Prop := ∃ r : Bool, e = .returned (.bool r) ∧ (r = true ↔ a = b) ∧ Below w.heap.size w w'
set_option maxRecDepth 100000 in
set_option maxHeartbeats 2000000 in
theorem sameE_p (u v : Value) (xs ys : List Ent) (w : World) (hu : EntsAt w u xs) (hv : EntsAt w v ys) (hl : xs.length ≤ 1073741824) : Calls Tryz.prog 20 #[u, v] w (SamePost xs ys w) := by
  obtain ⟨a, cap, b, o, rfl, ha, hcap, hc⟩ := hu
  obtain ⟨a2, cap2, b2, o2, rfl, ha2, hcap2, hc2⟩ := hv
  by_cases hlen : xs.length = ys.length
  · have hl2 : ((xs.length : Int) != (ys.length : Int)) = false := by simp; omega
    go_enter Tryz.func20, Tryz.ntmps20
    go_wp2
    go_loopw [5] (fun i wr => ∃ k q : Nat, i = .int .i64 k ∧ k ≤ xs.length ∧ wr = w.drewN q ∧ xs.take k = ys.take k) (fun i _ => xs.length - (intOf i).toNat)
    case atStart => exact ⟨0, 0, rfl, Nat.zero_le _, rfl, by simp⟩
    case round =>
      obtain ⟨k, q, rfl, hk, rfl, hsame⟩ := hrel
      have HSM : Hid (xs.take k = ys.take k) := hsame
      clear hsame
      by_cases hlt : k < xs.length
      · have hlt' : (k : Int) < (xs.length : Int) := by omega
        have hlt2 : (k : Int) < (ys.length : Int) := by omega
        have hk0 : (0 : Int) ≤ (k : Int) := by omega
        obtain ⟨x, hx⟩ : ∃ x, xs[k]? = some x := ⟨_, List.getElem?_eq_getElem hlt⟩
        obtain ⟨y, hy⟩ : ∃ y, ys[k]? = some y := ⟨_, List.getElem?_eq_getElem (by omega)⟩
        obtain rfl := ha (fun e => by rw [e] at hlt; simp at hlt)
        obtain rfl := ha2 (fun e => by rw [e] at hlen; simp at hlen; rw [hlen] at hlt; simp at hlt)
        obtain ⟨c0, c1, c2, c3, c4⟩ := hc k x hx
        obtain ⟨d0, d1, d2, d3, d4⟩ := hc2 k y hy
        have heq : ∀ W, (Op.equalIn 10000 52 (.agg #[.string x.path, .int .i64 x.kind, .int .i64 x.mode, .string x.data, .string x.link]) (.agg #[.string y.path, .int .i64 y.kind, .int .i64 y.mode, .string y.data, .string y.link])).run Tryz.prog W = .ok (eqE x y) W := fun W => eq_ent x y W
        cases hq : eqE x y with
        | true =>
          have HT : Hid (xs.take (k + 1) = ys.take (k + 1)) := by
            unfold Hid
            rw [List.take_add_one, List.take_add_one, hx, hy, HSM.out, (eqE_iff x y).1 hq]
          rw [hq] at heq
          clear hx hy hc ha hc2 ha2 hq hlen
          go_wp2
          go_quiet (fail)
          go_wp2
          go_roundw
          case rel => exact ⟨k + 1, _, by go_num, by omega, rfl, HT.out⟩
          case measure => simp [intOf]; omega
        | false =>
          have HT : Hid (xs ≠ ys) := fun e => by
            rw [e, hy] at hx
            rw [Option.some.inj hx, eqE_self] at hq
            cases hq
          rw [hq] at heq
          clear hx hy hc ha hc2 ha2 hq hlen
          go_wp2
          go_quiet (fail)
          go_wp2
          go_ret
          exact ⟨false, rfl, by simp [HT.out], ⟨rfl, rfl, rfl, Nat.le_refl _, fun _ _ => rfl⟩⟩
      · have hge : ¬ (k : Int) < (xs.length : Int) := by omega
        have HT : Hid (xs = ys) := by
          have h1 := HSM.out
          rw [List.take_of_length_le (by omega), List.take_of_length_le (by omega)] at h1
          exact h1
        clear hlen
        go_wp2
        go_ret
        exact ⟨true, rfl, by simp [HT.out], ⟨rfl, rfl, rfl, Nat.le_refl _, fun _ _ => rfl⟩⟩
  · have hl2 : ((xs.length : Int) != (ys.length : Int)) = true := by simp; omega
    have HT : Hid (xs ≠ ys) := fun e => hlen (by rw [e])
    go_enter Tryz.func20, Tryz.ntmps20
    go_wp2
    go_ret
    exact ⟨false, rfl, by simp [HT.out], ⟨rfl, rfl, rfl, Nat.le_refl _, fun _ _ => rfl⟩⟩
set_option maxRecDepth 100000 in
set_option maxHeartbeats 2000000 in
theorem sameC_p (u v : Value) (es : List Chg) (w : World) (hu : ChgsAt w u es) (hv : ChgsAt w v es) (hl : es.length ≤ 1073741824) : Calls Tryz.prog 13 #[u, v] w fun e w' => e = .returned (.bool true) ∧ Below w.heap.size w w' := by
  obtain ⟨a, cap, b, o, rfl, ha, hcap, hc⟩ := hu
  obtain ⟨a2, cap2, b2, o2, rfl, ha2, hcap2, hc2⟩ := hv
  go_enter Tryz.func13, Tryz.ntmps13
  go_wp2
  go_loopw [5] (fun i wr => ∃ k q : Nat, i = .int .i64 k ∧ k ≤ es.length ∧ wr = w.drewN q) (fun i _ => es.length - (intOf i).toNat)
  case atStart => exact ⟨0, 0, rfl, Nat.zero_le _, rfl⟩
  case round =>
    obtain ⟨k, q, rfl, hk, rfl⟩ := hrel
    by_cases hlt : k < es.length
    · have hlt' : (k : Int) < (es.length : Int) := by omega
      have hk0 : (0 : Int) ≤ (k : Int) := by omega
      obtain ⟨x, hx⟩ : ∃ x, es[k]? = some x := ⟨_, List.getElem?_eq_getElem hlt⟩
      obtain rfl := ha (fun e => by rw [e] at hlt; simp at hlt)
      obtain rfl := ha2 (fun e => by rw [e] at hlt; simp at hlt)
      obtain ⟨c0, c1, c2, c3, c4, c5, c6⟩ := hc k x hx
      obtain ⟨d0, d1, d2, d3, d4, d5, d6⟩ := hc2 k x hx
      have heq := fun W => eq_chg x W
      clear hx hc ha hc2 ha2
      go_wp2
      go_quiet (fail)
      go_wp2
      go_roundw
      case rel => exact ⟨k + 1, _, by go_num, by omega, rfl⟩
      case measure => simp [intOf]; omega
    · have hge : ¬ (k : Int) < (es.length : Int) := by omega
      go_wp2
      go_ret
      exact ⟨rfl, ⟨rfl, rfl, rfl, Nat.le_refl _, fun _ _ => rfl⟩⟩
/-- A row of entries that a literal makes. -/
theorem ents_new (W : World) (t : TypeId) (es : List Ent) (cs : Array Value) (h : cs.toList = ecells es) : EntsAt (W.alloc (.cells cs t)) (.slice (some ⟨W.heap.size, 0, none⟩) es.length es.length) es := by
  refine ⟨_, _, W.heap.size, 0, rfl, fun _ => rfl, Nat.le_refl _, fun i e he => ?_⟩
  have hc : ∀ j v, (ecs e)[j]? = some v → (W.alloc (.cells cs t)).cell? ⟨W.heap.size, 0 + i * 5 + j, none⟩ = some v := fun j v hj => by
    unfold World.cell?
    rw [World.alloc_heap_new]
    have h9 := ecells_get es i e he j v hj
    rw [← h] at h9
    rw [Nat.zero_add]
    simpa using h9
  exact ⟨hc 0 _ rfl, hc 1 _ rfl, hc 2 _ rfl, hc 3 _ rfl, hc 4 _ rfl⟩
theorem chgs_new (W : World) (t : TypeId) (es : List Chg) (cs : Array Value) (h : cs.toList = ccells es) : ChgsAt (W.alloc (.cells cs t)) (.slice (some ⟨W.heap.size, 0, none⟩) es.length es.length) es := by
  refine ⟨_, _, W.heap.size, 0, rfl, fun _ => rfl, Nat.le_refl _, fun i e he => ?_⟩
  have hc : ∀ j v, (ccs e)[j]? = some v → (W.alloc (.cells cs t)).cell? ⟨W.heap.size, 0 + i * 7 + j, none⟩ = some v := fun j v hj => by
    unfold World.cell?
    rw [World.alloc_heap_new]
    have h9 := ccells_get es i e he j v hj
    rw [← h] at h9
    rw [Nat.zero_add]
    simpa using h9
  exact ⟨hc 0 _ rfl, hc 1 _ rfl, hc 2 _ rfl, hc 3 _ rfl, hc 4 _ rfl, hc 5 _ rfl, hc 6 _ rfl⟩
def kD (p : ByteArray) : Ent := ⟨p, 1, 493, ⟨#[]⟩, ⟨#[]⟩⟩
def kF (p d : ByteArray) : Ent := ⟨p, 2, 420, d, ⟨#[]⟩⟩
theorem info_five (a b c : ByteArray) (i j : Int) : (Tryz.prog.info? 52).map (·.size) = some (#[Value.string a, .int .i64 i, .int .i64 j, .string b, .string c] : Array Value).size := by kernel_rfl
theorem info_seven (a b c d : ByteArray) (g : Bool) (i j : Int) : (Tryz.prog.info? 54).map (·.size) = some (#[Value.string a, .bool g, .string b, .int .i64 i, .int .i64 j, .string c, .string d] : Array Value).size := by kernel_rfl
end Go.Proofs.YtgildlfanfbebaaGreatDoor

namespace Go.Proofs.YtgildlfanfbebaaGreatDoor
open Go Go.RowKit

theorem at_nil (l a : Int) (w : World) : Calls Tryz.prog 35 #[.nilIface, .int .i64 0, .int .i64 l, .int .i64 a] w fun e w' => e = .returned (.bool true) ∧ w' = w := by
  go_enter Tryz.func35, Tryz.ntmps35
  go_wp2
  go_ret
  exact ⟨rfl, rfl⟩
theorem num_nil' (w : World) : Calls Tryz.prog 29 #[.nilIface] w fun e w' => e = .returned (.int .i64 0) ∧ w' = w := by
  go_enter Tryz.func29, Tryz.ntmps29
  go_wp2
  go_ret
  exact ⟨rfl, rfl⟩
end Go.Proofs.YtgildlfanfbebaaGreatDoor

namespace Go.Proofs.YtgildlfanfbebaaGreatDoor
open Go Go.RowKit Go.Shelf

theorem results_c1 {P : Program} {fn : Func} {p : Tmp} {ty : TypeId} (h : fn.results = #[.cell p ty]) (tmps : Array Value) (w : World) (g : Nat) (t : TypeId) (cs : Array Value) (d : TypeDesc)
    (hp : tmps.getD p undef = .pointer (some ⟨g, 0, none⟩)) (hg : Lies w g t cs)
    (hu : P.underlying ty = some d) (hd : (match d with | .struct _ | .array _ _ => true | _ => false) = true) (hi : (P.info? ty).map (·.size) = some cs.size) :
    (results fn tmps).run P w = .ok (.agg cs) w := by
  have hp' : tmps[p]?.getD undef = .pointer (some ⟨g, 0, none⟩) := by simpa using hp
  simp [results, h, hp', asAddr, run_loadVar_row w g t ty cs (0, 0) d hg hu hd hi]
set_option maxRecDepth 100000 in
theorem dirK_p (p : ByteArray) (w : World) : Calls Tryz.prog 38 #[.string p] w fun e w' => e = .returned (entV (kD p)) ∧ Below w.heap.size w w' := by
  go_enter Tryz.func38, Tryz.ntmps38
  go_wp2
  refine bodyPost_ret (results_c1 rfl _ _ w.heap.size 52 _ _ rfl (Lies.new w _ _) Tryz.underlying52 rfl (info_five _ _ _ _ _)) rfl ?_
  exact ⟨rfl, (Below.refl _ _).alloc (Nat.le_refl _) _⟩
set_option maxRecDepth 100000 in
theorem fileK_p (p d : ByteArray) (w : World) : Calls Tryz.prog 39 #[.string p, .string d] w fun e w' => e = .returned (entV (kF p d)) ∧ Below w.heap.size w w' := by
  go_enter Tryz.func39, Tryz.ntmps39
  go_wp2
  refine bodyPost_ret (results_c1 rfl _ _ w.heap.size 52 _ _ rfl (Lies.new w _ _) Tryz.underlying52 rfl (info_five _ _ _ _ _)) rfl ?_
  exact ⟨rfl, (Below.refl _ _).alloc (Nat.le_refl _) _⟩
set_option maxRecDepth 100000 in
theorem goneK_p (p : ByteArray) (w : World) : Calls Tryz.prog 41 #[.string p] w fun e w' => e = .returned (chgV (goneC p)) ∧ Below w.heap.size w w' := by
  go_enter Tryz.func41, Tryz.ntmps41
  go_wp2
  refine bodyPost_ret (results_c1 rfl _ _ w.heap.size 54 _ _ rfl (Lies.new w _ _) Tryz.underlying54 rfl (info_seven _ _ _ _ _ _ _)) rfl ?_
  exact ⟨rfl, (Below.refl _ _).alloc (Nat.le_refl _) _⟩
set_option maxRecDepth 100000 in
theorem laidK_p (x : Ent) (w : World) : Calls Tryz.prog 40 #[entV x] w fun e w' => e = .returned (chgV (laidC x)) ∧ Below w.heap.size w w' := by
  have hL : Lies ((w.alloc (.cells #[.string x.path, .int .i64 x.kind, .int .i64 x.mode, .string x.data, .string x.link] 52)).alloc (.cells #[.string x.path, .bool false, .string x.path, .int .i64 x.kind, .int .i64 x.mode, .string x.data, .string x.link] 54)) (w.heap.size + 1) 54 #[.string x.path, .bool false, .string x.path, .int .i64 x.kind, .int .i64 x.mode, .string x.data, .string x.link] := by
    have h := Lies.new (w.alloc (.cells #[.string x.path, .int .i64 x.kind, .int .i64 x.mode, .string x.data, .string x.link] 52)) 54 #[.string x.path, .bool false, .string x.path, .int .i64 x.kind, .int .i64 x.mode, .string x.data, .string x.link]
    rw [World.size_alloc] at h; exact h
  unfold entV
  go_enter Tryz.func40, Tryz.ntmps40
  go_wp2
  refine bodyPost_ret (results_c1 rfl _ _ (w.heap.size + 1) 54 _ _ rfl hL Tryz.underlying54 rfl (info_seven _ _ _ _ _ _ _)) rfl ?_
  exact ⟨rfl, ((Below.refl _ _).alloc (Nat.le_refl _) _).alloc (by simp) _⟩
def KA : List Ent := [kD ⟨#[97]⟩, kF ⟨#[97, 47, 98]⟩ ⟨#[120]⟩, kF ⟨#[99]⟩ ⟨#[121]⟩]
def KB : List Ent := [kD ⟨#[97]⟩, kF ⟨#[97, 47, 98]⟩ ⟨#[122]⟩, kF ⟨#[100]⟩ ⟨#[121]⟩]
def KW : List Chg := [laidC (kF ⟨#[97, 47, 98]⟩ ⟨#[122]⟩), goneC ⟨#[99]⟩, laidC (kF ⟨#[100]⟩ ⟨#[121]⟩)]
set_option maxRecDepth 100000 in
theorem kn_a : checkGo [] KA = (0, 0) := by kernel_rfl
set_option maxRecDepth 100000 in
theorem kn_b : checkGo [] KB = (0, 0) := by kernel_rfl
set_option maxRecDepth 100000 in
theorem kn_diff : diffR KA KB = ((0, 0, 0), KW) := by kernel_rfl
set_option maxRecDepth 100000 in
theorem kn_apply : applyR KA KW = ((0, 0, 0), KB) := by kernel_rfl
set_option maxRecDepth 100000 in
theorem kn_back : backR KA [goneC ⟨#[99]⟩] = ((0, 0, 0), [laidC (kF ⟨#[99]⟩ ⟨#[121]⟩)]) := by kernel_rfl
set_option maxRecDepth 100000 in
theorem kn_none : applyR KA [goneC ⟨#[122]⟩] = ((10, 1, 0), []) := by kernel_rfl
theorem cells_of {W : World} {v : Value} {es : List Ent} (h : EntsAt W v es) (hne : es ≠ []) : ∃ g o cap, v = .slice (some ⟨g, o, none⟩) es.length cap ∧ ∀ i e, es[i]? = some e → EntC W g (o + i * 5) e := by
  obtain ⟨a, cap, g, o, rfl, h1, h2, h3⟩ := h
  obtain rfl := h1 hne
  exact ⟨g, o, cap, rfl, h3⟩
theorem chg_cell {W : World} {base : Nat} {v : Value} {c : Chg} (h : W.ownsRow base 54 7 v [c].length (ccells [c])) : ∃ g cap, v = .slice (some ⟨g, 0, none⟩) 1 cap ∧ ChgC W g 0 c := by
  rcases h.2 with ⟨_, h0⟩ | ⟨g, cap, cur, rfl, hg, hgb, hcap, _⟩
  · simp at h0
  · refine ⟨g, cap, rfl, ?_⟩
    have hc : ∀ j v, (ccs c)[j]? = some v → W.cell? ⟨g, 0 + j, none⟩ = some v := fun j v hj => by
      have hj2 : j < 7 := (List.getElem?_eq_some_iff.1 hj).1
      rw [Nat.zero_add, h.cellAt j (by simp; omega)]
      have := ccells_get [c] 0 c rfl j v hj
      simpa using this
    exact ⟨hc 0 _ rfl, hc 1 _ rfl, hc 2 _ rfl, hc 3 _ rfl, hc 4 _ rfl, hc 5 _ rfl, hc 6 _ rfl⟩
set_option maxRecDepth 100000 in
set_option maxHeartbeats 8000000 in
theorem works_d (w : World) (hg : ErrType w) : Calls Tryz.prog 16 #[] w fun e w' => e = .returned (.bool true) ∧ Below w.heap.size w w' := by
  have hD := fun p W => dirK_p p W
  have hF := fun p d W => fileK_p p d W
  have hGn := fun p W => goneK_p p W
  have hL1 := fun W => laidK_p (kF ⟨#[97, 47, 98]⟩ ⟨#[122]⟩) W
  have hL2 := fun W => laidK_p (kF ⟨#[100]⟩ ⟨#[121]⟩) W
  have hL3 := fun W => laidK_p (kF ⟨#[99]⟩ ⟨#[121]⟩) W
  simp only [entV, chgV, kD, kF, goneC, laidC, noEnt] at hD hF hGn hL1 hL2 hL3
  have HG : Hid (ErrType w) := hg
  clear hg
  go_enter Tryz.func16, Tryz.ntmps16
  go_wp2_with fail
  refine (hD _ _).mono ?_
  rintro e w1 ⟨rfl, h1⟩
  go_wp2_with fail
  refine (hF _ _ _).mono ?_
  rintro e w2 ⟨rfl, h2⟩
  go_wp2_with fail
  refine (hF _ _ _).mono ?_
  rintro e w3 ⟨rfl, h3⟩
  go_wp2_with fail
  have eA := ents_new w3 52 KA #[.string ⟨#[97]⟩, .int .i64 1, .int .i64 493, .string ⟨#[]⟩, .string ⟨#[]⟩, .string ⟨#[97, 47, 98]⟩, .int .i64 2, .int .i64 420, .string ⟨#[120]⟩, .string ⟨#[]⟩, .string ⟨#[99]⟩, .int .i64 2, .int .i64 420, .string ⟨#[121]⟩, .string ⟨#[]⟩] rfl
  have hB3 : Hid (Below w.heap.size w (w3.alloc (.cells #[.string ⟨#[97]⟩, .int .i64 1, .int .i64 493, .string ⟨#[]⟩, .string ⟨#[]⟩, .string ⟨#[97, 47, 98]⟩, .int .i64 2, .int .i64 420, .string ⟨#[120]⟩, .string ⟨#[]⟩, .string ⟨#[99]⟩, .int .i64 2, .int .i64 420, .string ⟨#[121]⟩, .string ⟨#[]⟩] 52))) := by
    have h9 := below_join (below_join h1 h2) h3
    exact h9.alloc h9.size _
  clear h1 h2 h3
  generalize hV1 : (w3.alloc (.cells #[.string ⟨#[97]⟩, .int .i64 1, .int .i64 493, .string ⟨#[]⟩, .string ⟨#[]⟩, .string ⟨#[97, 47, 98]⟩, .int .i64 2, .int .i64 420, .string ⟨#[120]⟩, .string ⟨#[]⟩, .string ⟨#[99]⟩, .int .i64 2, .int .i64 420, .string ⟨#[121]⟩, .string ⟨#[]⟩] 52)) = V1 at *
  generalize hg1 : w3.heap.size = g1 at *
  refine (hD _ _).mono ?_
  rintro e w4 ⟨rfl, h4⟩
  go_wp2_with fail
  refine (hF _ _ _).mono ?_
  rintro e w5 ⟨rfl, h5⟩
  go_wp2_with fail
  refine (hF _ _ _).mono ?_
  rintro e w6 ⟨rfl, h6⟩
  go_wp2_with fail
  have eB := ents_new w6 52 KB #[.string ⟨#[97]⟩, .int .i64 1, .int .i64 493, .string ⟨#[]⟩, .string ⟨#[]⟩, .string ⟨#[97, 47, 98]⟩, .int .i64 2, .int .i64 420, .string ⟨#[122]⟩, .string ⟨#[]⟩, .string ⟨#[100]⟩, .int .i64 2, .int .i64 420, .string ⟨#[121]⟩, .string ⟨#[]⟩] rfl
  have hB6 : Hid (Below V1.heap.size V1 (w6.alloc (.cells #[.string ⟨#[97]⟩, .int .i64 1, .int .i64 493, .string ⟨#[]⟩, .string ⟨#[]⟩, .string ⟨#[97, 47, 98]⟩, .int .i64 2, .int .i64 420, .string ⟨#[122]⟩, .string ⟨#[]⟩, .string ⟨#[100]⟩, .int .i64 2, .int .i64 420, .string ⟨#[121]⟩, .string ⟨#[]⟩] 52))) := by
    have h9 := below_join (below_join h4 h5) h6
    exact h9.alloc h9.size _
  clear h4 h5 h6 hV1
  generalize hV2 : (w6.alloc (.cells #[.string ⟨#[97]⟩, .int .i64 1, .int .i64 493, .string ⟨#[]⟩, .string ⟨#[]⟩, .string ⟨#[97, 47, 98]⟩, .int .i64 2, .int .i64 420, .string ⟨#[122]⟩, .string ⟨#[]⟩, .string ⟨#[100]⟩, .int .i64 2, .int .i64 420, .string ⟨#[121]⟩, .string ⟨#[]⟩] 52)) = V2 at *
  generalize hg2 : w6.heap.size = g2 at *
  have HB2 : Hid (Below w.heap.size w V2) := below_join hB3.out hB6.out
  have EA : Hid (EntsAt V2 (.slice (some ⟨g1, 0, none⟩) 3 3) KA) := eA.below hB6.out
  have EB : Hid (EntsAt V2 (.slice (some ⟨g2, 0, none⟩) 3 3) KB) := eB
  clear eA eB hV2 hB3 hB6 hg1 hg2
  have pA : ∀ e ∈ KA, e.path.size < 1152921504606846976 := fun e he => by have := tree_paths (by rw [kn_a]) e he; omega
  have pB : ∀ e ∈ KB, e.path.size < 1152921504606846976 := fun e he => by have := tree_paths (by rw [kn_b]) e he; omega
  have HP : Hid (∀ e ∈ KA, e.path.size < 1152921504606846976) := pA
  have hDf := diff_d (.slice (some ⟨g1, 0, none⟩) 3 3) (.slice (some ⟨g2, 0, none⟩) 3 3) KA KB V2 (HG.out.below HB2.out) EA.out EB.out (by decide) (by decide) pA pB
  rw [kn_diff] at hDf
  clear pA pB
  refine hDf.mono ?_
  rintro e w7 ⟨ul, rfl, hul, h7⟩
  clear hDf
  have HL : Hid (ChgsAt w7 ul KW) := chgs_of_owns hul
  have hul2 : ∃ a n cap, ul = .slice a n cap := by
    obtain ⟨a, cap, _, _, rfl, _⟩ := HL.out
    exact ⟨a, _, cap, rfl⟩
  obtain ⟨la, ln, lc, rfl⟩ := hul2
  rw [show errF (0, 0, 0) = .nilIface from rfl]
  have HB7 : Hid (Below w.heap.size w w7) := below_join HB2.out h7
  have EA7 : Hid (EntsAt w7 (.slice (some ⟨g1, 0, none⟩) 3 3) KA) := EA.out.below h7
  have EB7 : Hid (EntsAt w7 (.slice (some ⟨g2, 0, none⟩) 3 3) KB) := EB.out.below h7
  clear hul h7 EA EB HB2
  obtain ⟨g9, o9, cap9, e9, hc9⟩ := cells_of EB7.out (by decide)
  cases e9
  obtain ⟨p0, p1, p2, p3, p4⟩ := hc9 1 _ rfl
  obtain ⟨q0, q1, q2, q3, q4⟩ := hc9 2 _ rfl
  simp only [kF, Nat.zero_add, Nat.reduceMul, Nat.reduceAdd] at p0 p1 p2 p3 p4 q0 q1 q2 q3 q4
  have hgl : g2 < w7.drew.heap.size := World.block_lt_of_cell? w7 _ p0
  clear hc9
  go_upto_region 4 with fail
  go_region_held3 (fun W => W.cell? ⟨g2, 5, none⟩ = some (.string ⟨#[97, 47, 98]⟩) ∧ W.cell? ⟨g2, 6, none⟩ = some (.int .i64 2) ∧ W.cell? ⟨g2, 7, none⟩ = some (.int .i64 420) ∧ W.cell? ⟨g2, 8, none⟩ = some (.string ⟨#[122]⟩) ∧ W.cell? ⟨g2, 9, none⟩ = some (.string ⟨#[]⟩) ∧ W.cell? ⟨g2, 10, none⟩ = some (.string ⟨#[100]⟩) ∧ W.cell? ⟨g2, 11, none⟩ = some (.int .i64 2) ∧ W.cell? ⟨g2, 12, none⟩ = some (.int .i64 420) ∧ W.cell? ⟨g2, 13, none⟩ = some (.string ⟨#[121]⟩) ∧ W.cell? ⟨g2, 14, none⟩ = some (.string ⟨#[]⟩))
    (first
      | exact ⟨p0, p1, p2, p3, p4, q0, q1, q2, q3, q4⟩
      | exact ⟨((k1.cell (p := ⟨g2, 5, none⟩) hgl).trans p0), ((k1.cell (p := ⟨g2, 6, none⟩) hgl).trans p1), ((k1.cell (p := ⟨g2, 7, none⟩) hgl).trans p2), ((k1.cell (p := ⟨g2, 8, none⟩) hgl).trans p3), ((k1.cell (p := ⟨g2, 9, none⟩) hgl).trans p4), ((k1.cell (p := ⟨g2, 10, none⟩) hgl).trans q0), ((k1.cell (p := ⟨g2, 11, none⟩) hgl).trans q1), ((k1.cell (p := ⟨g2, 12, none⟩) hgl).trans q2), ((k1.cell (p := ⟨g2, 13, none⟩) hgl).trans q3), ((k1.cell (p := ⟨g2, 14, none⟩) hgl).trans q4)⟩
      | exact ⟨((k2.cell (p := ⟨g2, 5, none⟩) (Nat.lt_of_lt_of_le hgl k1.size)).trans ((k1.cell (p := ⟨g2, 5, none⟩) hgl).trans p0)), ((k2.cell (p := ⟨g2, 6, none⟩) (Nat.lt_of_lt_of_le hgl k1.size)).trans ((k1.cell (p := ⟨g2, 6, none⟩) hgl).trans p1)), ((k2.cell (p := ⟨g2, 7, none⟩) (Nat.lt_of_lt_of_le hgl k1.size)).trans ((k1.cell (p := ⟨g2, 7, none⟩) hgl).trans p2)), ((k2.cell (p := ⟨g2, 8, none⟩) (Nat.lt_of_lt_of_le hgl k1.size)).trans ((k1.cell (p := ⟨g2, 8, none⟩) hgl).trans p3)), ((k2.cell (p := ⟨g2, 9, none⟩) (Nat.lt_of_lt_of_le hgl k1.size)).trans ((k1.cell (p := ⟨g2, 9, none⟩) hgl).trans p4)), ((k2.cell (p := ⟨g2, 10, none⟩) (Nat.lt_of_lt_of_le hgl k1.size)).trans ((k1.cell (p := ⟨g2, 10, none⟩) hgl).trans q0)), ((k2.cell (p := ⟨g2, 11, none⟩) (Nat.lt_of_lt_of_le hgl k1.size)).trans ((k1.cell (p := ⟨g2, 11, none⟩) hgl).trans q1)), ((k2.cell (p := ⟨g2, 12, none⟩) (Nat.lt_of_lt_of_le hgl k1.size)).trans ((k1.cell (p := ⟨g2, 12, none⟩) hgl).trans q2)), ((k2.cell (p := ⟨g2, 13, none⟩) (Nat.lt_of_lt_of_le hgl k1.size)).trans ((k1.cell (p := ⟨g2, 13, none⟩) hgl).trans q3)), ((k2.cell (p := ⟨g2, 14, none⟩) (Nat.lt_of_lt_of_le hgl k1.size)).trans ((k1.cell (p := ⟨g2, 14, none⟩) hgl).trans q4))⟩
      | exact ⟨((k3.cell (p := ⟨g2, 5, none⟩) (Nat.lt_of_lt_of_le hgl (Nat.le_trans k1.size k2.size))).trans ((k2.cell (p := ⟨g2, 5, none⟩) (Nat.lt_of_lt_of_le hgl k1.size)).trans ((k1.cell (p := ⟨g2, 5, none⟩) hgl).trans p0))), ((k3.cell (p := ⟨g2, 6, none⟩) (Nat.lt_of_lt_of_le hgl (Nat.le_trans k1.size k2.size))).trans ((k2.cell (p := ⟨g2, 6, none⟩) (Nat.lt_of_lt_of_le hgl k1.size)).trans ((k1.cell (p := ⟨g2, 6, none⟩) hgl).trans p1))), ((k3.cell (p := ⟨g2, 7, none⟩) (Nat.lt_of_lt_of_le hgl (Nat.le_trans k1.size k2.size))).trans ((k2.cell (p := ⟨g2, 7, none⟩) (Nat.lt_of_lt_of_le hgl k1.size)).trans ((k1.cell (p := ⟨g2, 7, none⟩) hgl).trans p2))), ((k3.cell (p := ⟨g2, 8, none⟩) (Nat.lt_of_lt_of_le hgl (Nat.le_trans k1.size k2.size))).trans ((k2.cell (p := ⟨g2, 8, none⟩) (Nat.lt_of_lt_of_le hgl k1.size)).trans ((k1.cell (p := ⟨g2, 8, none⟩) hgl).trans p3))), ((k3.cell (p := ⟨g2, 9, none⟩) (Nat.lt_of_lt_of_le hgl (Nat.le_trans k1.size k2.size))).trans ((k2.cell (p := ⟨g2, 9, none⟩) (Nat.lt_of_lt_of_le hgl k1.size)).trans ((k1.cell (p := ⟨g2, 9, none⟩) hgl).trans p4))), ((k3.cell (p := ⟨g2, 10, none⟩) (Nat.lt_of_lt_of_le hgl (Nat.le_trans k1.size k2.size))).trans ((k2.cell (p := ⟨g2, 10, none⟩) (Nat.lt_of_lt_of_le hgl k1.size)).trans ((k1.cell (p := ⟨g2, 10, none⟩) hgl).trans q0))), ((k3.cell (p := ⟨g2, 11, none⟩) (Nat.lt_of_lt_of_le hgl (Nat.le_trans k1.size k2.size))).trans ((k2.cell (p := ⟨g2, 11, none⟩) (Nat.lt_of_lt_of_le hgl k1.size)).trans ((k1.cell (p := ⟨g2, 11, none⟩) hgl).trans q1))), ((k3.cell (p := ⟨g2, 12, none⟩) (Nat.lt_of_lt_of_le hgl (Nat.le_trans k1.size k2.size))).trans ((k2.cell (p := ⟨g2, 12, none⟩) (Nat.lt_of_lt_of_le hgl k1.size)).trans ((k1.cell (p := ⟨g2, 12, none⟩) hgl).trans q2))), ((k3.cell (p := ⟨g2, 13, none⟩) (Nat.lt_of_lt_of_le hgl (Nat.le_trans k1.size k2.size))).trans ((k2.cell (p := ⟨g2, 13, none⟩) (Nat.lt_of_lt_of_le hgl k1.size)).trans ((k1.cell (p := ⟨g2, 13, none⟩) hgl).trans q3))), ((k3.cell (p := ⟨g2, 14, none⟩) (Nat.lt_of_lt_of_le hgl (Nat.le_trans k1.size k2.size))).trans ((k2.cell (p := ⟨g2, 14, none⟩) (Nat.lt_of_lt_of_le hgl k1.size)).trans ((k1.cell (p := ⟨g2, 14, none⟩) hgl).trans q4)))⟩
      | go_keep)
    (first
      | (go_at_call 40; with_reducible refine (hL1 _).mono ?_; rintro e x1 ⟨rfl, k1⟩)
      | (go_at_call 40; with_reducible refine (hL2 _).mono ?_; rintro e x3 ⟨rfl, k3⟩)
      | (go_at_call 41; with_reducible refine (hGn _ _).mono ?_; rintro e x2 ⟨rfl, k2⟩))
  have HB8 : Hid (Below w7.heap.size w7 x3) := below_join (below_join (below_join (below_drewN (Below.refl _ _) 1) k1) k2) k3
  have eW := chgs_new x3 54 KW #[.string ⟨#[97, 47, 98]⟩, .bool false, .string ⟨#[97, 47, 98]⟩, .int .i64 2, .int .i64 420, .string ⟨#[122]⟩, .string ⟨#[]⟩, .string ⟨#[99]⟩, .bool true, .string ⟨#[]⟩, .int .i64 0, .int .i64 0, .string ⟨#[]⟩, .string ⟨#[]⟩, .string ⟨#[100]⟩, .bool false, .string ⟨#[100]⟩, .int .i64 2, .int .i64 420, .string ⟨#[121]⟩, .string ⟨#[]⟩] rfl
  have HB9 : Hid (Below w7.heap.size w7 (x3.alloc (.cells #[.string ⟨#[97, 47, 98]⟩, .bool false, .string ⟨#[97, 47, 98]⟩, .int .i64 2, .int .i64 420, .string ⟨#[122]⟩, .string ⟨#[]⟩, .string ⟨#[99]⟩, .bool true, .string ⟨#[]⟩, .int .i64 0, .int .i64 0, .string ⟨#[]⟩, .string ⟨#[]⟩, .string ⟨#[100]⟩, .bool false, .string ⟨#[100]⟩, .int .i64 2, .int .i64 420, .string ⟨#[121]⟩, .string ⟨#[]⟩] 54))) := HB8.out.alloc HB8.out.size _
  clear k1 k2 k3 p0 p1 p2 p3 p4 q0 q1 q2 q3 q4 hgl
  generalize hV3 : (x3.alloc (.cells #[.string ⟨#[97, 47, 98]⟩, .bool false, .string ⟨#[97, 47, 98]⟩, .int .i64 2, .int .i64 420, .string ⟨#[122]⟩, .string ⟨#[]⟩, .string ⟨#[99]⟩, .bool true, .string ⟨#[]⟩, .int .i64 0, .int .i64 0, .string ⟨#[]⟩, .string ⟨#[]⟩, .string ⟨#[100]⟩, .bool false, .string ⟨#[100]⟩, .int .i64 2, .int .i64 420, .string ⟨#[121]⟩, .string ⟨#[]⟩] 54)) = V3 at *
  generalize hg3 : x3.heap.size = g3 at *
  have EW : Hid (ChgsAt V3 (.slice (some ⟨g3, 0, none⟩) 3 3) KW) := eW
  have HB3' : Hid (Below w.heap.size w V3) := below_join HB7.out HB9.out
  have EA8 : Hid (EntsAt V3 (.slice (some ⟨g1, 0, none⟩) 3 3) KA) := EA7.out.below HB9.out
  have EB8 : Hid (EntsAt V3 (.slice (some ⟨g2, 0, none⟩) 3 3) KB) := EB7.out.below HB9.out
  have HL8 : Hid (ChgsAt V3 (.slice la ln lc) KW) := HL.out.below HB9.out
  clear eW hV3 hg3 HB8 HB9 HB7 EA7 EB7 HL
  have hAp := apply_d (.slice (some ⟨g1, 0, none⟩) 3 3) (.slice (some ⟨g3, 0, none⟩) 3 3) KA KW V3 (HG.out.below HB3'.out) EA8.out EW.out (by decide) (by decide) HP.out (by decide)
  unfold ApplyPost at hAp
  rw [kn_apply] at hAp
  go_wp2_with fail
  refine hAp.mono ?_
  rintro e w10 ⟨uc, rfl, huc, h10⟩
  rw [show errF (0, 0, 0) = .nilIface from rfl]
  clear hAp
  have EC : Hid (EntsAt w10 uc KB) := ents_of_owns huc
  have huc2 : ∃ a n cap, uc = .slice a n cap := by
    obtain ⟨a, cap, _, _, rfl, _⟩ := EC.out
    exact ⟨a, _, cap, rfl⟩
  obtain ⟨ca, cn, cc, rfl⟩ := huc2
  have HB10 : Hid (Below w.heap.size w w10) := below_join HB3'.out h10
  have EA10 : Hid (EntsAt w10 (.slice (some ⟨g1, 0, none⟩) 3 3) KA) := EA8.out.below h10
  have EB10 : Hid (EntsAt w10 (.slice (some ⟨g2, 0, none⟩) 3 3) KB) := EB8.out.below h10
  have EW10 : Hid (ChgsAt w10 (.slice (some ⟨g3, 0, none⟩) 3 3) KW) := EW.out.below h10
  have HL10 : Hid (ChgsAt w10 (.slice la ln lc) KW) := HL8.out.below h10
  clear huc h10 HB3' EA8 EB8 EW HL8
  go_wp2_with fail
  refine (hGn _ _).mono ?_
  rintro e w11 ⟨rfl, h11⟩
  go_wp2_with fail
  have eM := chgs_new w11 54 [goneC ⟨#[99]⟩] #[.string ⟨#[99]⟩, .bool true, .string ⟨#[]⟩, .int .i64 0, .int .i64 0, .string ⟨#[]⟩, .string ⟨#[]⟩] rfl
  have HB11 : Hid (Below w10.heap.size w10 (w11.alloc (.cells #[.string ⟨#[99]⟩, .bool true, .string ⟨#[]⟩, .int .i64 0, .int .i64 0, .string ⟨#[]⟩, .string ⟨#[]⟩] 54))) := h11.alloc h11.size _
  clear h11
  generalize hV4 : (w11.alloc (.cells #[.string ⟨#[99]⟩, .bool true, .string ⟨#[]⟩, .int .i64 0, .int .i64 0, .string ⟨#[]⟩, .string ⟨#[]⟩] 54)) = V4 at *
  generalize hg4 : w11.heap.size = g5 at *
  have hBk := back_d (.slice (some ⟨g1, 0, none⟩) 3 3) (.slice (some ⟨g5, 0, none⟩) 1 1) KA [goneC ⟨#[99]⟩] V4 (HG.out.below (below_join HB10.out HB11.out)) (EA10.out.below HB11.out) eM (by decide) (by decide) HP.out (by decide)
  rw [kn_back] at hBk
  refine hBk.mono ?_
  rintro e w12 ⟨um, rfl, hum, h12⟩
  rw [show errF (0, 0, 0) = .nilIface from rfl]
  obtain ⟨g4, mcap, rfl, hmc⟩ := chg_cell hum
  have HM : Hid (ChgC w12 g4 0 (laidC (kF ⟨#[99]⟩ ⟨#[121]⟩))) := hmc
  have HB12 : Hid (Below w10.heap.size w10 w12) := below_join HB11.out h12
  clear hBk hum h12 hmc eM HB11 hV4 hg4
  go_wp2_with fail
  refine (hGn _ _).mono ?_
  rintro e w13 ⟨rfl, h13⟩
  go_wp2_with fail
  have eN := chgs_new w13 54 [goneC ⟨#[122]⟩] #[.string ⟨#[122]⟩, .bool true, .string ⟨#[]⟩, .int .i64 0, .int .i64 0, .string ⟨#[]⟩, .string ⟨#[]⟩] rfl
  have HB13 : Hid (Below w12.heap.size w12 (w13.alloc (.cells #[.string ⟨#[122]⟩, .bool true, .string ⟨#[]⟩, .int .i64 0, .int .i64 0, .string ⟨#[]⟩, .string ⟨#[]⟩] 54))) := h13.alloc h13.size _
  clear h13
  generalize hV5 : (w13.alloc (.cells #[.string ⟨#[122]⟩, .bool true, .string ⟨#[]⟩, .int .i64 0, .int .i64 0, .string ⟨#[]⟩, .string ⟨#[]⟩] 54)) = V5 at *
  generalize hg5 : w13.heap.size = g6 at *
  have hAn := apply_d (.slice (some ⟨g1, 0, none⟩) 3 3) (.slice (some ⟨g6, 0, none⟩) 1 1) KA [goneC ⟨#[122]⟩] V5 (HG.out.below (below_join HB10.out (below_join HB12.out HB13.out))) (EA10.out.below (below_join HB12.out HB13.out)) eN (by decide) (by decide) HP.out (by decide)
  unfold ApplyPost at hAn
  rw [kn_none] at hAn
  refine hAn.mono ?_
  rintro e w14 ⟨un9, rfl, hun, h14⟩
  rw [show errF (10, 1, 0) = fltL 10 1 0 from rfl]
  unfold fltL
  have HB14 : Hid (Below w12.heap.size w12 w14) := below_join HB13.out h14
  clear hAn h14 eN HB13 hV5 hg5 hun
  have hAt := kitAt_p 10 1 0 (by decide) (by decide) w14 (HG.out.below (below_join HB10.out (below_join HB12.out HB14.out)))
  unfold fltV at hAt
  go_wp2_with fail
  refine hAt.mono ?_
  rintro e w15 ⟨rfl, h15⟩
  have HB15 : Hid (Below w12.heap.size w12 w15) := below_join HB14.out h15
  have HBA : Hid (Below w10.heap.size w10 w15) := below_join HB12.out HB15.out
  clear hAt h15 HB14
  go_upto_region 10 with fail
  obtain ⟨m0, m1, m2, m3, m4, m5, m6⟩ := HM.out.below HB15.out
  obtain ⟨g8, o8, cap8, e8, hc8⟩ := cells_of (EA10.out.below HBA.out) (by decide)
  cases e8
  obtain ⟨n0, n1, n2, n3, n4⟩ := hc8 2 _ rfl
  simp only [kF, laidC, Nat.zero_add, Nat.reduceMul, Nat.reduceAdd] at m0 m1 m2 m3 m4 m5 m6 n0 n1 n2 n3 n4
  have d1m : g4 < w15.drew.heap.size := World.block_lt_of_cell? w15 _ m0
  have d1a : g1 < w15.drew.heap.size := World.block_lt_of_cell? w15 _ n0
  have hBd : Below w10.heap.size w10 w15.drew := below_drewN HBA.out 1
  have hSC := sameC_p (.slice la ln lc) (.slice (some ⟨g3, 0, none⟩) 3 3) KW w15.drew (HL10.out.below hBd) (EW10.out.below hBd) (by decide)
  have hSE := fun W (hb : Below w15.drew.heap.size w15.drew W) => same_p (.slice ca cn cc) (.slice (some ⟨g2, 0, none⟩) 3 3) KB W (EC.out.below (below_join hBd hb)) (EB10.out.below (below_join hBd hb)) (by decide)
  have heq := fun W => eq_chg (laidC (kF ⟨#[99]⟩ ⟨#[121]⟩)) W
  simp only [kF, laidC] at heq
  clear hc8
  go_region_held3 (fun W => W.cell? ⟨g4, 0, none⟩ = some (.string ⟨#[99]⟩) ∧ W.cell? ⟨g4, 1, none⟩ = some (.bool false) ∧ W.cell? ⟨g4, 2, none⟩ = some (.string ⟨#[99]⟩) ∧ W.cell? ⟨g4, 3, none⟩ = some (.int .i64 2) ∧ W.cell? ⟨g4, 4, none⟩ = some (.int .i64 420) ∧ W.cell? ⟨g4, 5, none⟩ = some (.string ⟨#[121]⟩) ∧ W.cell? ⟨g4, 6, none⟩ = some (.string ⟨#[]⟩) ∧ W.cell? ⟨g1, 10, none⟩ = some (.string ⟨#[99]⟩) ∧ W.cell? ⟨g1, 11, none⟩ = some (.int .i64 2) ∧ W.cell? ⟨g1, 12, none⟩ = some (.int .i64 420) ∧ W.cell? ⟨g1, 13, none⟩ = some (.string ⟨#[121]⟩) ∧ W.cell? ⟨g1, 14, none⟩ = some (.string ⟨#[]⟩))
    (first
      | exact ⟨m0, m1, m2, m3, m4, m5, m6, n0, n1, n2, n3, n4⟩
      | exact ⟨((l1.cell (p := ⟨g4, 0, none⟩) d1m).trans m0), ((l1.cell (p := ⟨g4, 1, none⟩) d1m).trans m1), ((l1.cell (p := ⟨g4, 2, none⟩) d1m).trans m2), ((l1.cell (p := ⟨g4, 3, none⟩) d1m).trans m3), ((l1.cell (p := ⟨g4, 4, none⟩) d1m).trans m4), ((l1.cell (p := ⟨g4, 5, none⟩) d1m).trans m5), ((l1.cell (p := ⟨g4, 6, none⟩) d1m).trans m6), ((l1.cell (p := ⟨g1, 10, none⟩) d1a).trans n0), ((l1.cell (p := ⟨g1, 11, none⟩) d1a).trans n1), ((l1.cell (p := ⟨g1, 12, none⟩) d1a).trans n2), ((l1.cell (p := ⟨g1, 13, none⟩) d1a).trans n3), ((l1.cell (p := ⟨g1, 14, none⟩) d1a).trans n4)⟩
      | exact ⟨((l2.cell (p := ⟨g4, 0, none⟩) d2m).trans ((l1.cell (p := ⟨g4, 0, none⟩) d1m).trans m0)), ((l2.cell (p := ⟨g4, 1, none⟩) d2m).trans ((l1.cell (p := ⟨g4, 1, none⟩) d1m).trans m1)), ((l2.cell (p := ⟨g4, 2, none⟩) d2m).trans ((l1.cell (p := ⟨g4, 2, none⟩) d1m).trans m2)), ((l2.cell (p := ⟨g4, 3, none⟩) d2m).trans ((l1.cell (p := ⟨g4, 3, none⟩) d1m).trans m3)), ((l2.cell (p := ⟨g4, 4, none⟩) d2m).trans ((l1.cell (p := ⟨g4, 4, none⟩) d1m).trans m4)), ((l2.cell (p := ⟨g4, 5, none⟩) d2m).trans ((l1.cell (p := ⟨g4, 5, none⟩) d1m).trans m5)), ((l2.cell (p := ⟨g4, 6, none⟩) d2m).trans ((l1.cell (p := ⟨g4, 6, none⟩) d1m).trans m6)), ((l2.cell (p := ⟨g1, 10, none⟩) d2a).trans ((l1.cell (p := ⟨g1, 10, none⟩) d1a).trans n0)), ((l2.cell (p := ⟨g1, 11, none⟩) d2a).trans ((l1.cell (p := ⟨g1, 11, none⟩) d1a).trans n1)), ((l2.cell (p := ⟨g1, 12, none⟩) d2a).trans ((l1.cell (p := ⟨g1, 12, none⟩) d1a).trans n2)), ((l2.cell (p := ⟨g1, 13, none⟩) d2a).trans ((l1.cell (p := ⟨g1, 13, none⟩) d1a).trans n3)), ((l2.cell (p := ⟨g1, 14, none⟩) d2a).trans ((l1.cell (p := ⟨g1, 14, none⟩) d1a).trans n4))⟩
      | exact ⟨((l3.cell (p := ⟨g4, 0, none⟩) d3m).trans ((l2.cell (p := ⟨g4, 0, none⟩) d2m).trans ((l1.cell (p := ⟨g4, 0, none⟩) d1m).trans m0))), ((l3.cell (p := ⟨g4, 1, none⟩) d3m).trans ((l2.cell (p := ⟨g4, 1, none⟩) d2m).trans ((l1.cell (p := ⟨g4, 1, none⟩) d1m).trans m1))), ((l3.cell (p := ⟨g4, 2, none⟩) d3m).trans ((l2.cell (p := ⟨g4, 2, none⟩) d2m).trans ((l1.cell (p := ⟨g4, 2, none⟩) d1m).trans m2))), ((l3.cell (p := ⟨g4, 3, none⟩) d3m).trans ((l2.cell (p := ⟨g4, 3, none⟩) d2m).trans ((l1.cell (p := ⟨g4, 3, none⟩) d1m).trans m3))), ((l3.cell (p := ⟨g4, 4, none⟩) d3m).trans ((l2.cell (p := ⟨g4, 4, none⟩) d2m).trans ((l1.cell (p := ⟨g4, 4, none⟩) d1m).trans m4))), ((l3.cell (p := ⟨g4, 5, none⟩) d3m).trans ((l2.cell (p := ⟨g4, 5, none⟩) d2m).trans ((l1.cell (p := ⟨g4, 5, none⟩) d1m).trans m5))), ((l3.cell (p := ⟨g4, 6, none⟩) d3m).trans ((l2.cell (p := ⟨g4, 6, none⟩) d2m).trans ((l1.cell (p := ⟨g4, 6, none⟩) d1m).trans m6))), ((l3.cell (p := ⟨g1, 10, none⟩) d3a).trans ((l2.cell (p := ⟨g1, 10, none⟩) d2a).trans ((l1.cell (p := ⟨g1, 10, none⟩) d1a).trans n0))), ((l3.cell (p := ⟨g1, 11, none⟩) d3a).trans ((l2.cell (p := ⟨g1, 11, none⟩) d2a).trans ((l1.cell (p := ⟨g1, 11, none⟩) d1a).trans n1))), ((l3.cell (p := ⟨g1, 12, none⟩) d3a).trans ((l2.cell (p := ⟨g1, 12, none⟩) d2a).trans ((l1.cell (p := ⟨g1, 12, none⟩) d1a).trans n2))), ((l3.cell (p := ⟨g1, 13, none⟩) d3a).trans ((l2.cell (p := ⟨g1, 13, none⟩) d2a).trans ((l1.cell (p := ⟨g1, 13, none⟩) d1a).trans n3))), ((l3.cell (p := ⟨g1, 14, none⟩) d3a).trans ((l2.cell (p := ⟨g1, 14, none⟩) d2a).trans ((l1.cell (p := ⟨g1, 14, none⟩) d1a).trans n4)))⟩
      | go_keep)
    (first
      | (go_at_call 13; refine hSC.mono ?_; rintro e y1 ⟨rfl, l1⟩; have d2m := Nat.lt_of_lt_of_le d1m l1.size; have d2a := Nat.lt_of_lt_of_le d1a l1.size)
      | (go_at_call 20; refine (hSE _ l1).mono ?_; rintro e y2 ⟨rfl, l2⟩; have d3m := Nat.lt_of_lt_of_le d2m l2.size; have d3a := Nat.lt_of_lt_of_le d2a l2.size)
      | (go_at_call 40; refine (hL3 _).mono ?_; rintro e y3 ⟨rfl, l3⟩))
  go_wp2
  go_ret
  exact ⟨rfl, below_join HB10.out (below_join (below_join (below_join hBd l1) l2) l3)⟩
end Go.Proofs.YtgildlfanfbebaaGreatDoor

namespace Go.Proofs.YtgildlfanfbebaaGreatDoor
open Go Go.RowKit

/-- A mark. -/
def markC (k i : Int) : Chg := ⟨mkTx k i, false, ⟨⟨#[]⟩, 0, -7 - k, ⟨#[]⟩, ⟨#[]⟩⟩⟩
set_option maxRecDepth 100000 in
set_option maxHeartbeats 2000000 in
theorem markC_p (k i : Int) (h0 : 0 ≤ k) (h1 : k ≤ 1000000) (w : World) : Calls Tryz.prog 36 #[.int .i64 k, .int .i64 i] w fun e w' => e = .returned (.agg #[.string (markC k i).path, .bool (markC k i).gone, .string (markC k i).e.path, .int .i64 (markC k i).e.kind, .int .i64 (markC k i).e.mode, .string (markC k i).e.data, .string (markC k i).e.link]) ∧ Below w.heap.size w w' := by
  have b0 : Below w.heap.size w (w.alloc (.cells #[.string ⟨#[]⟩, .bool false, .string ⟨#[]⟩, .int .i64 0, .int .i64 0, .string ⟨#[]⟩, .string ⟨#[]⟩] 54)) := (Below.refl _ w).alloc (Nat.le_refl _) _
  have L0 := Lies.new w 54 #[.string ⟨#[]⟩, .bool false, .string ⟨#[]⟩, .int .i64 0, .int .i64 0, .string ⟨#[]⟩, .string ⟨#[]⟩]
  have hw : IntKind.i64.wrap (-7 - k) = -7 - k := by
    simp only [IntKind.wrap, IntKind.bits, IntKind.signed]
    simp
    omega
  have hinf : (Tryz.prog.info? 54).map (·.size) = some 7 := by kernel_rfl
  have hone : (#[.string (mkTx k i), .bool false, .string ⟨#[]⟩, .int .i64 0, .int .i64 (-7 - k), .string ⟨#[]⟩, .string ⟨#[]⟩] : Array Value).all (·.oneCell') = true := by simp [Value.oneCell']
  go_enter Tryz.func36, Tryz.ntmps36
  go_wp2_with (first
    | (go_at_call 69; refine (mkTx_p k i _).mono ?_; rintro e w1 ⟨rfl, b1⟩; have L1 := L0.below b1)
    | (refine wpList_store_row rfl 54 (.tmp 4) (.tmp 11) rfl w.heap.size #[.string (mkTx k i), .bool false, .string ⟨#[]⟩, .int .i64 0, .int .i64 (-7 - k), .string ⟨#[]⟩, .string ⟨#[]⟩] rfl rfl 54 #[.string ⟨#[]⟩, .bool false, .string ⟨#[]⟩, .int .i64 0, .int .i64 0, .string ⟨#[]⟩, .string ⟨#[]⟩] L1 hinf rfl hone ?_))
  dsimp only [Act.put]
  refine bodyPost_ret (results_cell_row rfl _ _ w.heap.size 54 #[.string (mkTx k i), .bool false, .string ⟨#[]⟩, .int .i64 0, .int .i64 (-7 - k), .string ⟨#[]⟩, .string ⟨#[]⟩] (0, 0) _ rfl (setRow_heap w1 w.heap.size _ _ _ (0, 0) L1) Tryz.underlying54 rfl hinf) rfl ?_
  exact ⟨rfl, below_setRow (b0.trans (b1.mono b0.size)) (Nat.le_refl _) _⟩
def mkC (k i : Nat) : Chg := markC (k : Int) (i : Int)
theorem ccs_len (x : Chg) : (ccs x).length = 7 := rfl
theorem cellsG_ccs (xs : List Chg) : cellsG ccs xs = ccells xs := rfl
theorem sl_infoC : (Tryz.prog.info? 23).map (fun i => (i.zero, i.size, i.bytes)) = some (some (.slice none 0 0), 1, 24) := by kernel_rfl
theorem setA7 (A C : List Value) (n : Nat) (hn : A.length = n) (b0 b1 b2 b3 b4 b5 b6 c0 c1 c2 c3 c4 c5 c6 : Value) : ((((((((A ++ ([b0, b1, b2, b3, b4, b5, b6] ++ C)).set n c0).set (n + 1) c1).set (n + 2) c2).set (n + 3) c3).set (n + 4) c4).set (n + 5) c5).set (n + 6) c6) = A ++ ([c0, c1, c2, c3, c4, c5, c6] ++ C) := by
  have h0 := set_app A ([b0, b1, b2, b3, b4, b5, b6] ++ C) n 0 c0 hn
  rw [Nat.add_zero] at h0
  rw [h0, set_app _ _ _ _ _ hn, set_app _ _ _ _ _ hn, set_app _ _ _ _ _ hn, set_app _ _ _ _ _ hn, set_app _ _ _ _ _ hn, set_app _ _ _ _ _ hn]
  rfl
/-- A list's element is marked. -/
theorem mark_ownC {w : World} {B gk cap k i : Nat} {xs : List Chg} {us : List Value} {xss : List (List Chg)} {g : Nat} (h : RwsG ccs 7 54 mkC w B us xss k i) (hA : HandedG g us) (hu : us[k]? = some (.slice (some ⟨gk, 0, none⟩) xs.length cap)) (hx : xss[k]? = some xs) (hi : i < xs.length) :
    RwsG ccs 7 54 mkC (((((((w.setCell ⟨gk, i * 7, none⟩ (.string (mkC k i).path)).setCell ⟨gk, i * 7 + 1, none⟩ (.bool (mkC k i).gone)).setCell ⟨gk, i * 7 + 2, none⟩ (.string (mkC k i).e.path)).setCell ⟨gk, i * 7 + 3, none⟩ (.int .i64 (mkC k i).e.kind)).setCell ⟨gk, i * 7 + 4, none⟩ (.int .i64 (mkC k i).e.mode)).setCell ⟨gk, i * 7 + 5, none⟩ (.string (mkC k i).e.data)).setCell ⟨gk, i * 7 + 6, none⟩ (.string (mkC k i).e.link)) B us xss k (i + 1) := by
  refine h.mark hA hu hx ?_ ?_
  · have h2 := (own_setG (i := i * 7 + 6) (own_setG (i := i * 7 + 5) (own_setG (i := i * 7 + 4) (own_setG (i := i * 7 + 3) (own_setG (i := i * 7 + 2) (own_setG (i := i * 7 + 1) (own_setG (i := i * 7) (h k _ _ hu hx) (.string (mkC k i).path)) (.bool (mkC k i).gone)) (.string (mkC k i).e.path)) (.int .i64 (mkC k i).e.kind)) (.int .i64 (mkC k i).e.mode)) (.string (mkC k i).e.data)) (.string (mkC k i).e.link))
    obtain ⟨x, hxi⟩ : ∃ x, xs[i]? = some x := ⟨_, List.getElem?_eq_getElem hi⟩
    have e1 : rowG mkC k i k xs = marksG mkC k i ++ (x :: xs.drop (i + 1)) := by
      unfold rowG
      rw [if_neg (Nat.lt_irrefl k), if_pos rfl, List.drop_eq_getElem_cons hi]
      rw [List.getElem?_eq_getElem hi] at hxi
      rw [Option.some.inj hxi]
    have e2 : rowG mkC k (i + 1) k xs = marksG mkC k i ++ (mkC k i :: xs.drop (i + 1)) := by
      unfold rowG
      rw [if_neg (Nat.lt_irrefl k), if_pos rfl, marksG_succ, List.append_assoc]; rfl
    rw [e1] at h2
    rw [e2]
    have hl : (cellsG ccs (marksG mkC k i)).length = i * 7 := by rw [cellsG_length ccs 7 ccs_len, marksG_length]
    rw [cellsG_append, cellsG_cons, show ccs x = [.string x.path, .bool x.gone, .string x.e.path, .int .i64 x.e.kind, .int .i64 x.e.mode, .string x.e.data, .string x.e.link] from rfl, setA7 _ _ _ hl] at h2
    rw [cellsG_append, cellsG_cons]
    exact h2
  · intro b hb
    have hne : gk ≠ b := fun e => hb (by rw [e]; rfl)
    rw [set_otherG _ hne, set_otherG _ hne, set_otherG _ hne, set_otherG _ hne, set_otherG _ hne, set_otherG _ hne, set_otherG _ hne]
theorem chgG {W W2 : World} {b q : Nat} {e : Chg} (h : ∀ j u, (ccs e)[j]? = some u → W.cell? ⟨b, q + j, none⟩ = some u) (hb : Below W.heap.size W W2) : ChgC W2 b q e := ChgC.below ⟨h 0 _ rfl, h 1 _ rfl, h 2 _ rfl, h 3 _ rfl, h 4 _ rfl, h 5 _ rfl, h 6 _ rfl⟩ hb
set_option maxRecDepth 100000 in
set_option maxHeartbeats 8000000 in
theorem apartC_p (B g c : Nat) (us : List Value) (xss : List (List Chg)) (w : World) (hl : us.length = xss.length) (hm : us.length ≤ 1000) (hB : B ≤ w.heap.size) (hL : Lies w g 23 us.toArray)
    (hA : HandedG g us) (hR : RwsG ccs 7 54 mkC w B us xss 0 0) (hz : ∀ xs ∈ xss, xs.length ≤ 1073741824) :
    Calls Tryz.prog 14 #[.slice (some ⟨g, 0, none⟩) us.length c] w fun e w' => e = .returned (.bool true) ∧ OthE us w w' ∧ Below B w w' := by
  obtain ⟨i0, hi, z0, z1, z2⟩ := info_parts info_chg
  obtain ⟨j0, hj, y0, y1, y2⟩ := info_parts sl_infoC
  have HL0 : Hid (Lies w g 23 us.toArray) := hL
  have HR0 : Hid (RwsG ccs 7 54 mkC w B us xss 0 0) := hR
  have HA : Hid (HandedG g us) := hA
  have HZ : Hid (∀ xs ∈ xss, xs.length ≤ 1073741824) := hz
  have HLL : Hid (us.length = xss.length) := hl
  clear hL hR hA hz hl
  go_enter Tryz.func14, Tryz.ntmps14
  go_wp2
  go_loopw [3, 4] (fun n _ wr => ∃ k : Nat, k ≤ us.length ∧ n = .int .i64 k ∧ Hid (Lies wr g 23 us.toArray) ∧ Hid (RwsG ccs 7 54 mkC wr B us xss k 0) ∧ Hid (OthE us w wr) ∧ Below B w wr) (fun n _ _ => us.length - (intOf n).toNat)
  case atStart => exact ⟨0, Nat.zero_le _, rfl, HL0, HR0, fun _ _ _ => rfl, Below.refl _ _⟩
  case round =>
    clear HL0 HR0
    obtain ⟨k, hk, rfl, HL, HR, HOT, hB1⟩ := hrel
    by_cases hlt : k < us.length
    · obtain ⟨u, hu⟩ : ∃ u, us[k]? = some u := ⟨_, List.getElem?_eq_getElem hlt⟩
      obtain ⟨xs, hx⟩ : ∃ xs, xss[k]? = some xs := ⟨_, List.getElem?_eq_getElem (by rw [← HLL.out]; exact hlt)⟩
      have hzx := HZ.out xs (List.mem_of_getElem? hx)
      obtain ⟨a, cu, rfl, hac, hab, _, _⟩ := own_shapeG (HR.out k u xs hu hx)
      have hcell := HL.out.cell (i := k) (by simpa using hu)
      have HU : Hid (us[k]? = some (.slice a xs.length cu)) := hu
      have HX : Hid (xss[k]? = some xs) := hx
      clear hu hx
      have d1 : (0 : Int) ≤ (k : Int) := by omega
      have d2 : (k : Int) < (us.length : Int) := by omega
      go_wp2
      go_loopw [4] (fun n wr2 => ∃ i : Nat, i ≤ xs.length ∧ n = .int .i64 i ∧ Hid (Lies wr2 g 23 us.toArray) ∧ Hid (RwsG ccs 7 54 mkC wr2 B us xss k i) ∧ Hid (OthE us w wr2) ∧ Below B w wr2) (fun n _ => xs.length - (intOf n).toNat)
      case atStart => exact ⟨0, Nat.zero_le _, rfl, HL, HR, HOT, hB1⟩
      case round =>
        clear HL HR hB1 hcell HOT
        obtain ⟨i, hi2, rfl, HL, HR, HOT, hB1⟩ := hrel
        have hcell := HL.out.cell (i := k) (by simpa using HU.out)
        by_cases hin : i < xs.length
        · cases a with
          | none => exact absurd (hac rfl).2 (by omega)
          | some ad =>
            obtain ⟨gk, rfl⟩ := hab ad rfl
            have e1 : (0 : Int) ≤ (i : Int) := by omega
            have e2 : (i : Int) < (xs.length : Int) := by omega
            have hM : Calls Tryz.prog 36 #[.int .i64 (k : Int), .int .i64 (i : Int)] wr.drew fun e w' => e = .returned (.agg #[.string (mkC k i).path, .bool (mkC k i).gone, .string (mkC k i).e.path, .int .i64 (mkC k i).e.kind, .int .i64 (mkC k i).e.mode, .string (mkC k i).e.data, .string (mkC k i).e.link]) ∧ Below wr.drew.heap.size wr.drew w' := markC_p (k : Int) (i : Int) (by omega) (by omega) wr.drew
            have hrow := HR.out k _ xs HU.out HX.out
            have hrl : (cellsG ccs (rowG mkC k i k xs)).length = xs.length * 7 := by rw [cellsG_length ccs 7 ccs_len, rowG_length _ _ _ _ hi2]
            have HF : Hid (∀ w2, Below wr.drew.heap.size wr.drew w2 → w2.cell? ⟨g, k, none⟩ = some (.slice (some ⟨gk, 0, none⟩) xs.length cu) ∧ ∃ y0 y1 y2 y3 y4 y5 y6, (w2.cell? ⟨gk, i * 7, none⟩ = some y0 ∧ w2.frozen? ⟨gk, i * 7, none⟩ = false) ∧ (w2.cell? ⟨gk, i * 7 + 1, none⟩ = some y1 ∧ w2.frozen? ⟨gk, i * 7 + 1, none⟩ = false) ∧ (w2.cell? ⟨gk, i * 7 + 2, none⟩ = some y2 ∧ w2.frozen? ⟨gk, i * 7 + 2, none⟩ = false) ∧ (w2.cell? ⟨gk, i * 7 + 3, none⟩ = some y3 ∧ w2.frozen? ⟨gk, i * 7 + 3, none⟩ = false) ∧ (w2.cell? ⟨gk, i * 7 + 4, none⟩ = some y4 ∧ w2.frozen? ⟨gk, i * 7 + 4, none⟩ = false) ∧ (w2.cell? ⟨gk, i * 7 + 5, none⟩ = some y5 ∧ w2.frozen? ⟨gk, i * 7 + 5, none⟩ = false) ∧ (w2.cell? ⟨gk, i * 7 + 6, none⟩ = some y6 ∧ w2.frozen? ⟨gk, i * 7 + 6, none⟩ = false)) := by
              intro w2 b2
              have b3 : Below wr.heap.size wr w2 := (show Below wr.heap.size wr wr.drew from ⟨rfl, rfl, rfl, Nat.le_refl _, fun _ _ => rfl⟩).trans b2
              have r2 := own_below hrow b3
              have hat : ∀ j, j < 7 → ∃ y, w2.cell? ⟨gk, i * 7 + j, none⟩ = some y := fun j hj => by
                obtain ⟨y, hy⟩ : ∃ y, (cellsG ccs (rowG mkC k i k xs))[i * 7 + j]? = some y := ⟨_, List.getElem?_eq_getElem (by rw [hrl]; omega)⟩
                exact ⟨y, by have := r2.cells (g := gk) rfl (i * 7 + j) y hy; rw [Addr.add_mid, Nat.zero_add] at this; exact this⟩
              obtain ⟨y0, h0⟩ := hat 0 (by decide)
              obtain ⟨y1, h1⟩ := hat 1 (by decide)
              obtain ⟨y2, h2⟩ := hat 2 (by decide)
              obtain ⟨y3, h3⟩ := hat 3 (by decide)
              obtain ⟨y4, h4⟩ := hat 4 (by decide)
              obtain ⟨y5, h5⟩ := hat 5 (by decide)
              obtain ⟨y6, h6⟩ := hat 6 (by decide)
              exact ⟨(HL.out.below b3).cell (i := k) (by simpa using HU.out), y0, y1, y2, y3, y4, y5, y6, ⟨h0, own_frozenG r2 _⟩, ⟨h1, own_frozenG r2 _⟩, ⟨h2, own_frozenG r2 _⟩, ⟨h3, own_frozenG r2 _⟩, ⟨h4, own_frozenG r2 _⟩, ⟨h5, own_frozenG r2 _⟩, ⟨h6, own_frozenG r2 _⟩⟩
            have hBg := (own_lt hrow gk rfl).1
            have hne : gk ≠ g := fun e => HA.out.gap k _ HU.out (by rw [e]; rfl)
            have HMK : Hid (∀ w2, Below wr.heap.size wr w2 → RwsG ccs 7 54 mkC (((((((w2.setCell ⟨gk, i * 7, none⟩ (.string (mkC k i).path)).setCell ⟨gk, i * 7 + 1, none⟩ (.bool (mkC k i).gone)).setCell ⟨gk, i * 7 + 2, none⟩ (.string (mkC k i).e.path)).setCell ⟨gk, i * 7 + 3, none⟩ (.int .i64 (mkC k i).e.kind)).setCell ⟨gk, i * 7 + 4, none⟩ (.int .i64 (mkC k i).e.mode)).setCell ⟨gk, i * 7 + 5, none⟩ (.string (mkC k i).e.data)).setCell ⟨gk, i * 7 + 6, none⟩ (.string (mkC k i).e.link)) B us xss k (i + 1)) := fun w2 b3 => mark_ownC (HR.out.below b3) HA.out HU.out HX.out hin
            clear hrow hrl
            generalize mkC k i = mx at *
            go_wp2
            go_region_with (first | (go_at_call 36; refine hM.mono ?_; rintro e w2 ⟨rfl, b2⟩; obtain ⟨k0, y0', y1', y2', y3', y4', y5', y6', ⟨p0, q0⟩, ⟨p1, q1⟩, ⟨p2, q2⟩, ⟨p3, q3⟩, ⟨p4, q4⟩, ⟨p5, q5⟩, ⟨p6, q6⟩⟩ := HF.out w2 b2))
            all_goals go_wp2
            all_goals
              have b3 : Below wr.heap.size wr w2 := (show Below wr.heap.size wr wr.drew from ⟨rfl, rfl, rfl, Nat.le_refl _, fun _ _ => rfl⟩).trans b2
              have hs1 := hB1.size
              go_roundw
              case rel => exact ⟨i + 1, by omega, by go_num, (lies_other (lies_other (lies_other (lies_other (lies_other (lies_other (lies_other (HL.out.below b3) _ hne) _ hne) _ hne) _ hne) _ hne) _ hne) _ hne), HMK.out w2 b3, ((((((((HOT.out.below hs1 b3).set _ HU.out rfl).set _ HU.out rfl).set _ HU.out rfl).set _ HU.out rfl).set _ HU.out rfl).set _ HU.out rfl).set _ HU.out rfl), ((((((((hB1.trans (b3.mono (by omega))).setCell (p := ⟨gk, i * 7, none⟩) hBg _).setCell (p := ⟨gk, i * 7 + 1, none⟩) hBg _).setCell (p := ⟨gk, i * 7 + 2, none⟩) hBg _).setCell (p := ⟨gk, i * 7 + 3, none⟩) hBg _).setCell (p := ⟨gk, i * 7 + 4, none⟩) hBg _).setCell (p := ⟨gk, i * 7 + 5, none⟩) hBg _).setCell (p := ⟨gk, i * 7 + 6, none⟩) hBg _)⟩
              case measure => simp [intOf]; omega
        · obtain rfl : i = xs.length := by omega
          have HR2 : Hid (RwsG ccs 7 54 mkC wr B us xss (k + 1) 0) := HR.out.next HX.out
          go_wp2
          go_roundw
          case rel => exact ⟨k + 1, by omega, by go_num, HL, HR2, HOT, hB1⟩
          case measure => simp [intOf]; omega
    · obtain rfl : k = us.length := by omega
      have HD : Hid (∀ (j : Nat) (u : Value) (xs : List Chg), us[j]? = some u → xss[j]? = some xs → wr.ownsRow B 54 7 u xs.length (cellsG ccs (marksG mkC j xs.length))) := fun j u xs h1 h2 => HR.out.done rfl j u xs h1 h2
      clear HR
      go_wp2
      obtain ⟨w1, hw1⟩ : ∃ w1, w1 = wr := ⟨_, rfl⟩
      subst hw1
      have hBw : B ≤ w1.heap.size := by have := hB1.size; omega
      go_loopw [5, 6, 7, 8] (fun gv n _ _ wr2 => ∃ (k : Nat) (vs : List Value), k ≤ us.length ∧ n = .int .i64 k ∧ Hid (GrewG ccs 7 23 mkC w1 wr2 us xss k vs gv) ∧ Below B w wr2) (fun _ n _ _ _ => us.length - (intOf n).toNat)
      case atStart => exact ⟨0, [], Nat.zero_le _, rfl, ⟨rfl, Nat.le_refl _, fun _ _ _ => rfl, fun j _ _ h => absurd h (Nat.not_lt_zero j), fun j v xs h => by simp at h, World.ownsRow_nil _ _ _ _, fun j v h => by simp at h, fun j v u h => by simp at h⟩, hB1⟩
      case round =>
        obtain ⟨k, vs, hk, rfl, HG, hB2⟩ := hrel
        by_cases hlt : k < us.length
        · obtain ⟨u, hu⟩ : ∃ u, us[k]? = some u := ⟨_, List.getElem?_eq_getElem hlt⟩
          obtain ⟨xs, hx⟩ : ∃ xs, xss[k]? = some xs := ⟨_, List.getElem?_eq_getElem (by rw [← HLL.out]; exact hlt)⟩
          have hzx := HZ.out xs (List.mem_of_getElem? hx)
          have hul : ∀ b, u.ownBlock = some b → b < w1.heap.size := fun b hb => (own_lt (HD.out k u xs hu hx) b hb).2
          have hown2 : wr.ownsRow B 54 7 u xs.length (cellsG ccs (marksG mkC k xs.length)) := own_eq (HD.out k u xs hu hx) (fun b hb => HG.out.same b (hul b hb) (fun j u' hj hu' e => by
            rcases HA.out.apart j k u' u hu' hu (by omega) with h | h
            · rw [e] at h; cases h
            · exact h (e.trans hb.symm)))
          have hgl : Lies wr g 23 us.toArray := (HG.out.same g HL.out.lt (fun j u' _ hu' => HA.out.gap j u' hu')).trans HL.out
          have hcell := hgl.cell (i := k) (by simpa using hu)
          have hsz2 := HG.out.size
          have HUL : Hid (∀ b, u.ownBlock = some b → b < wr.heap.size) := fun b hb => Nat.lt_of_lt_of_le (hul b hb) hsz2
          have HUL1 : Hid (∀ b, u.ownBlock = some b → b < w1.heap.size) := hul
          have HUG : Hid (u.ownBlock ≠ some g) := HA.out.gap k u hu
          have HGL : Hid (Lies wr g 23 us.toArray) := hgl
          obtain ⟨a, cu, rfl, hac, hab, _, _⟩ := own_shapeG hown2
          have HU : Hid (us[k]? = some (.slice a xs.length cu)) := hu
          have HX : Hid (xss[k]? = some xs) := hx
          clear hu hx hul hgl
          have d1 : (0 : Int) ≤ (k : Int) := by omega
          have d2 : (k : Int) < (us.length : Int) := by omega
          go_wp2
          obtain ⟨w2, hw2⟩ : ∃ w2, w2 = wr := ⟨_, rfl⟩
          subst hw2
          go_loopw [7, 8] (fun v n wr3 => ∃ i : Nat, i ≤ 64 ∧ n = .int .i64 i ∧ Hid (GrowsG ccs 7 54 mkC w2 wr3 B k xs.length i (.slice a xs.length cu) v) ∧ Below B w wr3) (fun _ n _ => 64 - (intOf n).toNat)
          case atStart => exact ⟨0, by omega, rfl, ⟨Nat.le_refl _, fun _ _ _ => rfl, ListG.own (t := 54) (B := B) ccs_len (by rw [marksG_length]; exact hown2), hown2, .inl rfl⟩, hB2⟩
          case round =>
            clear hcell
            obtain ⟨i, hi2, rfl, HS, hB3⟩ := hrel
            have hcell : wr.cell? ⟨g, k, none⟩ = some (.slice a xs.length cu) := Lies.cell (t := 23) (cur := us.toArray) ((HS.out.same g HGL.out.lt HUG.out).trans HGL.out) (by simpa using HU.out)
            by_cases hin : i < 64
            · have e1 : (0 : Int) ≤ (i : Int) := by omega
              have e2 : (i : Int) < 64 := by omega
              have hM : ∀ W, Calls Tryz.prog 36 #[.int .i64 (k : Int), .int .i64 ((xs.length : Int) + (i : Int))] W fun e w' => e = .returned (.agg #[.string (mkC k (xs.length + i)).path, .bool (mkC k (xs.length + i)).gone, .string (mkC k (xs.length + i)).e.path, .int .i64 (mkC k (xs.length + i)).e.kind, .int .i64 (mkC k (xs.length + i)).e.mode, .string (mkC k (xs.length + i)).e.data, .string (mkC k (xs.length + i)).e.link]) ∧ Below W.heap.size W w' := fun W => by
                have := markC_p (k : Int) ((xs.length : Int) + (i : Int)) (by omega) (by omega) W
                unfold mkC
                rw [show ((xs.length + i : Nat) : Int) = (xs.length : Int) + (i : Int) by omega]
                exact this
              obtain ⟨x, hxm⟩ : ∃ x, mkC k (xs.length + i) = x := ⟨_, rfl⟩
              have HXM : Hid (mkC k (xs.length + i) = x) := hxm
              rw [hxm] at hM
              clear hxm
              go_wp2_with fail
              refine (hM wr).mono ?_
              rintro e w3 ⟨rfl, b3⟩
              have hB4 : Below B w w3 := hB3.trans (b3.mono (by have := hB3.size; omega))
              have hs4 := hB4.size
              have HS3 := HS.out.below HUL.out b3
              have HS4 : Hid (GrowsG ccs 7 54 mkC w2 (w3.alloc (.cells #[.string x.path, .bool x.gone, .string x.e.path, .int .i64 x.e.kind, .int .i64 x.e.mode, .string x.e.data, .string x.e.link] 54)) B k xs.length i (.slice a xs.length cu) u7) := HS3.below HUL.out ((Below.refl _ w3).alloc (Nat.le_refl _) _)
              clear HS3 HS hM
              go_wp2_with (at_builtin; refine wpList_append_keepG _ rfl _ _ 23 rfl B 54 i0 (.agg #[.string ⟨#[]⟩, .bool false, .string ⟨#[]⟩, .int .i64 0, .int .i64 0, .string ⟨#[]⟩, .string ⟨#[]⟩]) 7 88 Tryz.underlying23 hi z0 z1 z2 rfl (by decide) _ _ _ rfl HS4.out.new ⟨w3.heap.size, 0, none⟩ 1 (ccs x) rfl rfl (chg_cells (chg_new w3 _ x)) (chg_one x) ?c3 ?c4 ?c5 ?_)
              case c3 => unfold maxLen; omega
              case c4 => omega
              case c5 => simp; omega
              intro v' w4 hown' hg
              rw [show w3.heap.size + 1 = (w3.alloc (.cells #[.string x.path, .bool x.gone, .string x.e.path, .int .i64 x.e.kind, .int .i64 x.e.mode, .string x.e.data, .string x.e.link] 54)).heap.size from (World.size_alloc _ _).symm] at hg
              have hgs := grown_belowG hg HS4.out.new (by simp; omega)
              have HS5 : Hid (GrowsG ccs 7 54 mkC w2 w4 B k xs.length (i + 1) (.slice a xs.length cu) v') := HS4.out.step ccs_len HUL.out (fun e => by cases a with | none => exact (hac rfl).2 | some _ => cases e) ⟨a, cu, rfl, hab⟩ (by rw [HXM.out]; exact hown') hg
              clear hown' hg HS4
              go_wp2
              go_roundw
              case rel => exact ⟨i + 1, by omega, by go_num, HS5, (hB4.alloc (by omega) _).trans hgs⟩
              case measure => simp [intOf]; omega
            · obtain rfl : i = 64 := by omega
              obtain ⟨av, cv, rfl, _⟩ := own_shapeG HS.out.new
              have hgo : wr.ownsRow w1.heap.size 23 1 u5 k vs := own_eq HG.out.row (fun b hb => HS.out.same b (own_lt HG.out.row b hb).2 (fun e => by have h1 := (own_lt HG.out.row b hb).1; have h2 := HUL1.out b e; omega))
              go_wp2_with (at_builtin; refine wpList_append_keepG _ rfl _ _ 36 rfl w1.heap.size 23 j0 (.slice none 0 0) 1 24 Tryz.underlying36 hj y0 y1 y2 rfl (by decide) _ _ _ rfl (hgo.alloc _) ⟨wr.heap.size, 0, none⟩ 1 [.slice av (xs.length + 64) cv] rfl rfl (cell_one_new _ _ _) (by simp [Value.oneCell']) ?c3 ?c4 ?c5 ?_)
              case c3 => unfold maxLen; omega
              case c4 => omega
              case c5 => have := HG.out.size; have := HS.out.size; simp; omega
              intro gv' w4 hown' hg
              rw [show wr.heap.size + 1 = (wr.alloc (.cells #[.slice av (xs.length + 64) cv] 23)).heap.size from (World.size_alloc _ _).symm] at hg
              have hs3 := hB3.size
              have hgs := grown_belowG hg ((own_baseG hgo hBw).alloc _) (by simp; omega)
              have HS5 : Hid (GrewG ccs 7 23 mkC w1 w4 us xss (k + 1) (vs ++ [.slice av (xs.length + 64) cv]) gv') := HG.out.step (t := 54) (B := B) ccs_len (by decide) HA.out HU.out HX.out rfl (fun j u hu b hb => by
                obtain ⟨xj, hxj⟩ : ∃ xj, xss[j]? = some xj := ⟨_, List.getElem?_eq_getElem (by rw [← HLL.out]; exact (List.getElem?_eq_some_iff.1 hu).1)⟩
                exact (own_lt (HD.out j u xj hu hxj) b hb).2) (HS.out.below HUL.out ((Below.refl _ wr).alloc (Nat.le_refl _) _)) hown' hg
              clear hown' hg hgo
              go_wp2
              go_roundw
              case rel => exact ⟨k + 1, _, by omega, by go_num, HS5, (hB3.alloc (by omega) _).trans hgs⟩
              case measure => simp [intOf]; omega
        · obtain rfl : k = us.length := by omega
          obtain ⟨w2, hw2⟩ : ∃ w2, w2 = wr := ⟨_, rfl⟩
          subst hw2
          have hsz2 := HG.out.size
          have hsw1 := hB1.size
          have HO2 : Hid (OthE us w w2) := fun b h1 h2 => (HG.out.same b (by omega) (fun j u' _ hu' => h2 j u' hu')).trans (HOT.out b h1 h2)
          have HGL : Hid (Lies w2 g 23 us.toArray) := (HG.out.same g HL.out.lt (fun j u' _ hu' => HA.out.gap j u' hu')).trans HL.out
          go_wp2
          go_loopw [9, 10, 11] (fun n _ _ wr => ∃ k : Nat, k ≤ us.length ∧ n = .int .i64 k ∧ Below w2.heap.size w2 wr) (fun n _ _ _ => us.length - (intOf n).toNat)
          case atStart => exact ⟨0, Nat.zero_le _, rfl, Below.refl _ _⟩
          case round =>
            obtain ⟨k, hk, rfl, hb⟩ := hrel
            by_cases hlt : k < us.length
            · obtain ⟨u, hu⟩ : ∃ u, us[k]? = some u := ⟨_, List.getElem?_eq_getElem hlt⟩
              obtain ⟨v, hv⟩ : ∃ v, vs[k]? = some v := ⟨_, List.getElem?_eq_getElem (by rw [HG.out.len]; exact hlt)⟩
              obtain ⟨xs, hx⟩ : ∃ xs, xss[k]? = some xs := ⟨_, List.getElem?_eq_getElem (by rw [← HLL.out]; exact hlt)⟩
              have hzx := HZ.out xs (List.mem_of_getElem? hx)
              obtain ⟨a, ca, bu, ou, hua, ha1, ha2⟩ := HG.out.old k u xs hlt hu hx
              obtain ⟨av, cv, bv, ov, hva, hv1, hv2⟩ := HG.out.new k v xs hv hx
              rw [marksG_length] at hua hva
              subst hua
              subst hva
              have HUA : Hid (∀ i, i < xs.length → ∀ W, Below w2.heap.size w2 W → a = some ⟨bu, ou, none⟩ ∧ ChgC W bu (ou + i * 7) (mkC k i)) := fun i h W bb => ⟨ha1 (fun e => by have := congrArg List.length e; rw [marksG_length, List.length_nil] at this; omega), chgG (ha2 i _ (marksG_get k xs.length i h)) bb⟩
              have HVA : Hid (∀ i, i < xs.length + 64 → ∀ W, Below w2.heap.size w2 W → av = some ⟨bv, ov, none⟩ ∧ ChgC W bv (ov + i * 7) (mkC k i)) := fun i h W bb => ⟨hv1 (fun e => by have := congrArg List.length e; rw [marksG_length, List.length_nil] at this; omega), chgG (hv2 i _ (marksG_get k (xs.length + 64) i h)) bb⟩
              have hrow := HG.out.row
              rcases hrow.2 with ⟨_, h0⟩ | ⟨gg, cg, cur, hgv, _, _, _, hcg, _⟩
              · omega
              subst hgv
              have HC : Hid (∀ wr, Below w2.heap.size w2 wr → wr.cell? ⟨g, k, none⟩ = some (.slice a xs.length ca) ∧ wr.cell? ⟨gg, k, none⟩ = some (.slice av (xs.length + 64) cv)) := fun wr hb => ⟨(HGL.out.below hb).cell (by simpa using hu), row_cell (own_below hrow hb) k _ hv⟩
              obtain ⟨q1, q2⟩ := HC.out wr hb
              unfold maxLen at hcg
              clear hrow hu hv hx ha2 hv2 ha1 hv1
              have d1 : (0 : Int) ≤ (k : Int) := by omega
              have d2 : (k : Int) < (us.length : Int) := by omega
              go_wp2
              go_loopw [10, 11] (fun n _ wr => ∃ i : Nat, i ≤ xs.length + 64 ∧ n = .int .i64 i ∧ Below w2.heap.size w2 wr) (fun n _ _ => xs.length + 64 - (intOf n).toNat)
              case atStart => exact ⟨0, Nat.zero_le _, rfl, hb⟩
              case round =>
                clear q1 q2 hb
                obtain ⟨i, hi2, rfl, hb⟩ := hrel
                obtain ⟨q1, q2⟩ := HC.out wr hb
                by_cases hin : i < xs.length + 64
                · obtain ⟨rfl, _⟩ := HVA.out i hin wr hb
                  have e1 : (0 : Int) ≤ (i : Int) := by omega
                  have e2 : (i : Int) < (xs.length : Int) + 64 := by omega
                  have hM : ∀ W, Calls Tryz.prog 36 #[.int .i64 (k : Int), .int .i64 (i : Int)] W fun e w' => e = .returned (.agg #[.string (mkC k i).path, .bool (mkC k i).gone, .string (mkC k i).e.path, .int .i64 (mkC k i).e.kind, .int .i64 (mkC k i).e.mode, .string (mkC k i).e.data, .string (mkC k i).e.link]) ∧ Below W.heap.size W w' := fun W => markC_p (k : Int) (i : Int) (by omega) (by omega) W
                  have HV2 : Hid (∀ W, Below w2.heap.size w2 W → ChgC W bv (ov + i * 7) (mkC k i)) := fun W bb => (HVA.out i hin W bb).2
                  have HU2 : Hid (i < xs.length → ∀ W, Below w2.heap.size w2 W → a = some ⟨bu, ou, none⟩ ∧ ChgC W bu (ou + i * 7) (mkC k i)) := fun h => HUA.out i h
                  generalize mkC k i = x at *
                  have heq := fun W => eq_chg x W
                  go_upto_region 25 with (go_at_call 36; refine (hM _).mono ?_; rintro e w3 ⟨rfl, b3⟩)
                  have hb3 : Below w2.heap.size w2 w3 := hb.trans (b3.mono hb.size)
                  have L3 := Lies.new w3 54 #[.string x.path, .bool x.gone, .string x.e.path, .int .i64 x.e.kind, .int .i64 x.e.mode, .string x.e.data, .string x.e.link]
                  have hb4 : Below w2.heap.size w2 (w3.alloc (.cells #[.string x.path, .bool x.gone, .string x.e.path, .int .i64 x.e.kind, .int .i64 x.e.mode, .string x.e.data, .string x.e.link] 54)) := hb3.alloc hb3.size _
                  clear q1 q2 hb b3 hM hb3
                  generalize (w3.alloc (.cells #[.string x.path, .bool x.gone, .string x.e.path, .int .i64 x.e.kind, .int .i64 x.e.mode, .string x.e.data, .string x.e.link] 54)) = W4 at *
                  generalize w3.heap.size = ge at *
                  obtain ⟨p1, p2⟩ := HC.out W4 hb4
                  obtain ⟨g0, g1, g2, g3, g4, g5, g6⟩ := HV2.out W4 hb4
                  have f0 := L3.cell (i := 0) rfl
                  have f1 := L3.cell (i := 1) rfl
                  have f2 := L3.cell (i := 2) rfl
                  have f3 := L3.cell (i := 3) rfl
                  have f4 := L3.cell (i := 4) rfl
                  have f5 := L3.cell (i := 5) rfl
                  have f6 := L3.cell (i := 6) rfl
                  clear L3
                  by_cases hin2 : i < xs.length
                  · obtain ⟨rfl, h0, h1, h2, h3, h4, h5, h6⟩ := HU2.out hin2 W4 hb4
                    have e3 : (i : Int) < (xs.length : Int) := by omega
                    go_wp2
                    go_quiet (fail)
                    go_wp2
                    go_roundw
                    case rel => exact ⟨i + 1, by omega, by go_num, hb4.trans ⟨rfl, rfl, rfl, Nat.le_refl _, fun _ _ => rfl⟩⟩
                    case measure => simp [intOf]; omega
                  · have e3 : decide ((i : Int) < (xs.length : Int)) = false := by simp; omega
                    have e3' : decide (i < xs.length) = false := by simp; omega
                    go_wp2
                    go_quiet (fail)
                    go_wp2
                    go_roundw
                    case rel => exact ⟨i + 1, by omega, by go_num, hb4.trans ⟨rfl, rfl, rfl, Nat.le_refl _, fun _ _ => rfl⟩⟩
                    case measure => simp [intOf]; omega
                · obtain rfl : i = xs.length + 64 := by omega
                  go_wp2
                  go_roundw
                  case rel => exact ⟨k + 1, by omega, by go_num, hb⟩
                  case measure => simp [intOf]; omega
            · obtain rfl : k = us.length := by omega
              go_wp2
              go_ret
              exact ⟨rfl, HO2.out.below (by omega) hb, hB2.trans (hb.mono (by have := hB2.size; omega))⟩
end Go.Proofs.YtgildlfanfbebaaGreatDoor

namespace Go.Proofs.YtgildlfanfbebaaGreatDoor
open Go Go.RowKit Go.Shelf

theorem row_form {W : World} {base : Nat} {e : TypeId} {size n : Nat} {v : Value} {xs : List Value} (h : W.ownsRow base e size v n xs) : ∃ a cap, v = .slice a n cap := by
  rcases h.2 with ⟨rfl, rfl⟩ | ⟨g, cap, cur, rfl, _⟩
  · exact ⟨none, 0, rfl⟩
  · exact ⟨_, _, rfl⟩
theorem runs_apply : ∀ (l : List Chg) (L L' : List Ent) (k : Nat), runs L l = some L' → applyGo L l k = if overB L' then ((5, 1, ((k + l.length : Nat) : Int)), []) else ((0, 0, 0), L')
  | [], L, L', k, h => by
    rw [runs] at h
    rw [applyGo, Option.some.inj h]; rfl
  | c :: l, L, L', k, h => by
    rw [runs] at h
    split at h
    · rename_i hd
      rw [applyGo, if_neg (by simpa using hd), runs_apply l _ L' (k + 1) h]
      simp only [List.length_cons]
      rw [show k + 1 + l.length = k + (l.length + 1) by omega]
    · cases h
theorem tree_over {b : List Ent} (h : (checkGo [] b).1 = 0) : overB b = false := by
  have := tree_few h
  unfold overB
  simp; omega
theorem makes_apply {a b : List Ent} (ha : (checkGo [] a).1 = 0) (hb : (checkGo [] b).1 = 0) : applyR a (unlikeL a b) = ((0, 0, 0), b) := by
  unfold applyR
  rw [if_neg (by simpa using ha), runs_apply _ a b 0 (makes_pure (tree_tr ha) (tree_tr hb)), tree_over hb]; rfl
theorem togL_mem : ∀ (n : Nat) (A B : List Ent), A.length + B.length ≤ n → ∀ p ∈ togL A B, (p.1 ∈ A ∨ p.1 = noEnt) ∧ (p.2 ∈ B ∨ p.2 = noEnt) := by
  intro n
  induction n with
  | zero =>
    intro A B h p hp
    obtain rfl : A = [] := List.eq_nil_of_length_eq_zero (by omega)
    obtain rfl : B = [] := List.eq_nil_of_length_eq_zero (by omega)
    rw [togL] at hp; simp at hp
  | succ n ih =>
    intro A B h p hp
    by_cases hb : A = [] ∧ B = []
    · obtain ⟨rfl, rfl⟩ := hb; rw [togL] at hp; simp at hp
    · rcases Int.lt_trichotomy (nearN A B) 0 with hlt | heq | hgt
      · have hA : A ≠ [] := by
          rintro rfl
          cases B with
          | nil => exact hb ⟨rfl, rfl⟩
          | cons y B => simp [nearN] at hlt
        obtain ⟨x, A', rfl, ht⟩ := togL_lt hlt hA
        rw [ht] at hp
        rcases List.mem_cons.1 hp with rfl | hp
        · exact ⟨.inl (by simp), .inr rfl⟩
        · obtain ⟨h1, h2⟩ := ih A' B (by simp at h; omega) p hp
          exact ⟨h1.imp (fun h => by simp [h]) id, h2⟩
      · obtain ⟨x, A', y, B', rfl, rfl, ht⟩ := togL_eq heq
        rw [ht] at hp
        rcases List.mem_cons.1 hp with rfl | hp
        · exact ⟨.inl (by simp), .inl (by simp)⟩
        · obtain ⟨h1, h2⟩ := ih A' B' (by simp at h; omega) p hp
          exact ⟨h1.imp (fun h => by simp [h]) id, h2.imp (fun h => by simp [h]) id⟩
      · obtain ⟨y, B', rfl, ht⟩ := togL_gt hgt
        rw [ht] at hp
        rcases List.mem_cons.1 hp with rfl | hp
        · exact ⟨.inr rfl, .inl (by simp)⟩
        · obtain ⟨h1, h2⟩ := ih A B' (by simp at h; omega) p hp
          exact ⟨h1, h2.imp (fun h => by simp [h]) id⟩
theorem emL_mem : ∀ (ps : List (Ent × Ent)) (top : ByteArray) (c : Chg), c ∈ emL top ps → ∃ x ∈ ps, (c = goneC x.1.path ∧ x.1.kind ≠ 0) ∨ (c = laidC x.2 ∧ x.2.kind ≠ 0)
  | [], top, c, h => by simp [emL] at h
  | x :: ps, top, c, h => by
    rw [emL] at h
    rcases List.mem_append.1 h with h | h
    · refine ⟨x, by simp, ?_⟩
      unfold emO at h
      rcases List.mem_append.1 h with h | h
      · split at h
        · rename_i hl
          simp at h
          unfold lostB at hl
          simp only [Bool.and_eq_true, bne_iff_ne] at hl
          exact .inl ⟨h, hl.1⟩
        · simp at h
      · split at h
        · rename_i hl
          simp at h
          unfold newB at hl
          simp only [Bool.and_eq_true, bne_iff_ne] at hl
          exact .inr ⟨h, hl.1⟩
        · simp at h
    · obtain ⟨y, hy, h2⟩ := emL_mem ps _ c h
      exact ⟨y, by simp [hy], h2⟩
theorem unlike_mem {a b : List Ent} {c : Chg} (h : c ∈ unlikeL a b) : (∃ x ∈ a, c = goneC x.path) ∨ (∃ y ∈ b, c = laidC y) := by
  obtain ⟨p, hp, h2⟩ := emL_mem _ _ c h
  obtain ⟨h3, h4⟩ := togL_mem _ a b (Nat.le_refl _) p hp
  rcases h2 with ⟨rfl, hk⟩ | ⟨rfl, hk⟩
  · rcases h3 with h3 | h3
    · exact .inl ⟨_, h3, rfl⟩
    · rw [h3] at hk; exact absurd rfl hk
  · rcases h4 with h4 | h4
    · exact .inr ⟨_, h4, rfl⟩
    · rw [h4] at hk; exact absurd rfl hk
theorem unlike_len (a b : List Ent) : (unlikeL a b).length ≤ 2 * (a.length + b.length) := by
  have h1 := emL_len (togL a b) ⟨#[]⟩
  have h2 := togL_len _ a b (Nat.le_refl _)
  unfold unlikeL
  omega
theorem unlike_paths {a b : List Ent} (ha : ∀ e ∈ a, e.path.size ≤ 255) (hb : ∀ e ∈ b, e.path.size ≤ 255) : ∀ c ∈ unlikeL a b, c.path.size < 1152921504606846976 ∧ c.e.path.size < 1152921504606846976 := fun c hc => by
  rcases unlike_mem hc with ⟨x, hx, rfl⟩ | ⟨y, hy, rfl⟩
  · have := ha x hx
    exact ⟨by show x.path.size < _; omega, by show (0 : Nat) < _; omega⟩
  · have := hb y hy
    exact ⟨by show y.path.size < _; omega, by show y.path.size < _; omega⟩
theorem chkV_no {a : List Ent} (h : (checkGo [] a).1 ≠ 0) : chkV a = .iface 94 (.agg #[.int .i64 (checkGo [] a).1, .int .i64 0, .int .i64 (checkGo [] a).2]) := if_neg h
set_option maxRecDepth 100000 in
set_option maxHeartbeats 4000000 in
theorem deltamakes_law (u v : Value) (a b : List Ent) (w : World) (hg : ErrType w) (hu : EntsAt w u a) (hv : EntsAt w v b) (hla : a.length ≤ 4611686018427387904) (hlb : b.length ≤ 4611686018427387904) (hpa : ∀ e ∈ a, e.path.size < 1152921504606846976) (hpb : ∀ e ∈ b, e.path.size < 1152921504606846976) :
    Calls Tryz.prog 6 #[u, v] w fun e w' => e = .returned (.bool true) ∧ Below w.heap.size w w' := by
  have hDf := diff_d u v a b w hg hu hv hla hlb hpa hpb
  have HCa : Hid (∀ W, Below w.heap.size w W → Calls Tryz.prog 25 #[u] W fun e w' => e = .returned (chkV a) ∧ Below W.heap.size W w') := fun W hb => check_t u a W (hg.below hb) (hu.below hb) hla hpa
  have HCb : Hid (∀ W, Below w.heap.size w W → Calls Tryz.prog 25 #[v] W fun e w' => e = .returned (chkV b) ∧ Below W.heap.size W w') := fun W hb => check_t v b W (hg.below hb) (hv.below hb) hlb hpb
  have HW : Hid (∀ W, Below w.heap.size w W → Calls Tryz.prog 16 #[] W fun e w' => e = .returned (.bool true) ∧ Below W.heap.size W w') := fun W hb => works_d W (hg.below hb)
  have HU : Hid (EntsAt w u a ∧ EntsAt w v b ∧ ErrType w) := ⟨hu, hv, hg⟩
  by_cases ha : (checkGo [] a).1 = 0
  · have HA : Hid (chkV a = .nilIface) := if_pos ha
    by_cases hb : (checkGo [] b).1 = 0
    · have HB : Hid (chkV b = .nilIface) := if_pos hb
      have HR : Hid (diffR a b = ((0, 0, 0), unlikeL a b)) := by unfold Hid diffR; rw [if_neg (by simpa using ha), if_neg (by simpa using hb)]
      rw [HR.out] at hDf
      have HAP : Hid (∀ (l : Value) W, Below w.heap.size w W → ChgsAt W l (unlikeL a b) → Calls Tryz.prog 19 #[u, l] W fun e w' => ∃ c, e = .returned (.tuple #[c, .nilIface]) ∧ EntsAt w' c b ∧ Below W.heap.size W w') := fun l W hbw hl => (apply_d u l a (unlikeL a b) W (hg.below hbw) (hu.below hbw) hl hla (by have h1 := unlike_len a b; have h2 := (tree_few ha).1; have h3 := (tree_few hb).1; omega) hpa (unlike_paths (tree_paths ha) (tree_paths hb))).mono (by
        rintro e w' ⟨c, rfl, h1, h2⟩
        rw [makes_apply ha hb] at h1 ⊢
        exact ⟨c, rfl, ents_of_owns h1, h2⟩)
      have HEM : Hid (unlikeL a b = [] ↔ a = b) := makes_empty (tree_tr ha) (tree_tr hb)
      have HLN : Hid (a.length ≤ 4096 ∧ b.length ≤ 4096) := ⟨(tree_few ha).1, (tree_few hb).1⟩
      clear ha hb hu hv hpa hpb hg
      go_enter Tryz.func6, Tryz.ntmps6
      go_wp2_with fail
      refine hDf.mono ?_
      rintro e w1 ⟨l, rfl, hl, h1⟩
      rw [show errF (0, 0, 0) = .nilIface from rfl]
      obtain ⟨la, lc, rfl⟩ := row_form hl
      have HL : Hid (ChgsAt w1 (.slice la (unlikeL a b).length lc) (unlikeL a b)) := chgs_of_owns hl
      clear hDf hl
      go_wp2_with fail
      refine (HCa.out _ h1).mono ?_
      rintro e w2 ⟨rfl, h2⟩
      rw [HA.out]
      go_wp2_with fail
      refine (HCb.out _ (below_join h1 h2)).mono ?_
      rintro e w3 ⟨rfl, h3⟩
      rw [HB.out]
      have hB3 := below_join (below_join h1 h2) h3
      have hC := HAP.out _ w3 hB3 (HL.out.below (below_join h2 h3))
      go_wp2_with fail
      refine hC.mono ?_
      rintro e w4 ⟨c, rfl, hc, h4⟩
      have hB4 := below_join hB3 h4
      have hcf : ∃ x n y, c = .slice x n y := by
        obtain ⟨x, y, _, _, rfl, _⟩ := hc
        exact ⟨x, _, y, rfl⟩
      obtain ⟨cx, cn, cy, rfl⟩ := hcf
      have hS1 := same_p _ v b w4 hc (HU.out.2.1.below hB4) (by have := HLN.out.2; omega)
      go_wp2_with fail
      refine hS1.mono ?_
      rintro e w5 ⟨rfl, h5⟩
      have hB5 := below_join hB4 h5
      have hS2 := sameE_p u v a b w5 (HU.out.1.below hB5) (HU.out.2.1.below hB5) (by have := HLN.out.1; omega)
      clear hS1 hC
      go_wp2_with fail
      refine hS2.mono ?_
      rintro e w6 ⟨r, rfl, hr, h6⟩
      have hB6 := below_join hB5 h6
      have hwk := HW.out _ hB6
      have HRR : Hid (((((unlikeL a b).length : Int) == 0) == r) = true) := by
        unfold Hid
        cases r with
        | true =>
          have := HEM.out.2 (hr.1 rfl)
          simp [this]
        | false =>
          have : unlikeL a b ≠ [] := fun e => by have := hr.2 (HEM.out.1 e); cases this
          have h9 : (unlikeL a b).length ≠ 0 := fun e => this (List.eq_nil_of_length_eq_zero e)
          simp; exact this
      have hRR := HRR.out
      clear hS2 hr
      generalize ((unlikeL a b).length : Int) = ln at *
      go_wp2_with (go_at_call 16; refine hwk.mono ?_; rintro e w7 ⟨rfl, h7⟩)
      go_ret
      exact ⟨rfl, below_join hB6 h7⟩
    · have HB : Hid (chkV b = .iface 94 (.agg #[.int .i64 (checkGo [] b).1, .int .i64 0, .int .i64 (checkGo [] b).2])) := chkV_no hb
      have HR : Hid (diffR a b = (((checkGo [] b).1, (1 : Int), ((checkGo [] b).2 : Int)), ([] : List Chg)) ∧ errF ((checkGo [] b).1, (1 : Int), ((checkGo [] b).2 : Int)) = .iface 94 (.agg #[.int .i64 (checkGo [] b).1, .int .i64 1, .int .i64 (checkGo [] b).2])) := ⟨by unfold diffR; rw [if_neg (by simpa using ha), if_pos hb], if_neg hb⟩
      rw [HR.out.1] at hDf
      clear ha hb hu hv hpa hpb hg
      go_enter Tryz.func6, Tryz.ntmps6
      go_wp2_with fail
      refine hDf.mono ?_
      rintro e w1 ⟨l, rfl, hl, h1⟩
      rw [HR.out.2]
      obtain ⟨la, lc, rfl⟩ := row_form hl
      clear hDf hl
      go_wp2_with fail
      refine (HCa.out _ h1).mono ?_
      rintro e w2 ⟨rfl, h2⟩
      rw [HA.out]
      go_wp2_with fail
      refine (HCb.out _ (below_join h1 h2)).mono ?_
      rintro e w3 ⟨rfl, h3⟩
      rw [HB.out]
      have hB3 := below_join (below_join h1 h2) h3
      have hwk := HW.out _ hB3
      go_wp2_with (go_at_call 16; refine hwk.mono ?_; rintro e w7 ⟨rfl, h7⟩)
      go_ret
      exact ⟨rfl, below_join hB3 h7⟩
  · have HA : Hid (chkV a = .iface 94 (.agg #[.int .i64 (checkGo [] a).1, .int .i64 0, .int .i64 (checkGo [] a).2])) := chkV_no ha
    have HR : Hid (diffR a b = (((checkGo [] a).1, (0 : Int), ((checkGo [] a).2 : Int)), ([] : List Chg)) ∧ errF ((checkGo [] a).1, (0 : Int), ((checkGo [] a).2 : Int)) = .iface 94 (.agg #[.int .i64 (checkGo [] a).1, .int .i64 0, .int .i64 (checkGo [] a).2])) := ⟨by unfold diffR; rw [if_pos ha], if_neg ha⟩
    rw [HR.out.1] at hDf
    clear ha hu hv hpa hpb hg
    go_enter Tryz.func6, Tryz.ntmps6
    go_wp2_with fail
    refine hDf.mono ?_
    rintro e w1 ⟨l, rfl, hl, h1⟩
    rw [HR.out.2]
    obtain ⟨la, lc, rfl⟩ := row_form hl
    clear hDf hl
    go_wp2_with fail
    refine (HCa.out _ h1).mono ?_
    rintro e w2 ⟨rfl, h2⟩
    rw [HA.out]
    have hB3 := below_join h1 h2
    have hwk := HW.out _ hB3
    go_wp2_with (go_at_call 16; refine hwk.mono ?_; rintro e w7 ⟨rfl, h7⟩)
    go_ret
    exact ⟨rfl, below_join hB3 h7⟩
end Go.Proofs.YtgildlfanfbebaaGreatDoor

namespace Go.Proofs.YtgildlfanfbebaaGreatDoor
open Go Go.RowKit Go.Shelf

/-- What is done keeps a tree one. -/
theorem TrL.done {L : List Ent} (h : TrL L) {c : Chg} (hd : doN L c = 0) : TrL (doL L c) := by
  unfold doL
  cases hg : c.gone with
  | true =>
    rw [if_pos rfl]
    have ho : (goneL L (namesP c.path)).Pairwise ltE := h.order.filter _
    refine ⟨ho, fun e he => h.right e (List.mem_filter.1 he).1, fun e he => ?_⟩
    obtain ⟨he1, he2⟩ := List.mem_filter.1 he
    rcases (up_iff h.order e.path).1 (h.up e he1) with h1 | ⟨f, hf, hp, hk⟩
    · exact (up_iff ho _).2 (.inl h1)
    · refine (up_iff ho _).2 (.inr ⟨f, List.mem_filter.2 ⟨hf, ?_⟩, hp, hk⟩)
      simp only [Bool.not_eq_true'] at he2 ⊢
      cases hq : (namesP c.path).isPrefixOf (namesP f.path) with
      | false => rfl
      | true =>
        have h1 := List.isPrefixOf_iff_prefix.1 hq
        have h2 : namesP f.path <+: namesP e.path := by
          rw [hp]
          exact ⟨[un (lastB e.path)], names_split (wrong_check (h.right e he1))⟩
        rw [List.isPrefixOf_iff_prefix.2 (h1.trans h2)] at he2
        cases he2
  | false =>
    rw [if_neg (by simp)]
    unfold doN at hd
    rw [hg] at hd
    simp only [Bool.false_eq_true, if_false] at hd
    split at hd
    · omega
    · split at hd
      · rename_i h1; exact absurd hd h1
      · rename_i hw
        split at hd
        · rename_i h1; exact absurd hd h1
        · rename_i hu
          have hw' : wrongN c.e = 0 := by simpa using hw
          have hu' : upN L c.e.path = 0 := by simpa using hu
          have ho : (laidL L c.e).Pairwise ltE := laid_order h.order c.e
          have hkind : ∀ o ∈ L, o.path = c.e.path → o.kind = 1 → c.e.kind = 1 := fun o ho9 hp hk => by
            rw [find_mem h.order ho9 hp] at hd
            simp only at hd
            split at hd
            · rename_i hs
              unfold sortB at hs
              rw [hk] at hs
              have h9 : ¬ c.e.kind = 0 ∧ c.e.kind = 1 := by simpa using hs
              exact h9.2
            · omega
          have dir : ∀ p, (∃ f ∈ L, f.path = parentB p ∧ f.kind = 1) → ∃ f ∈ laidL L c.e, f.path = parentB p ∧ f.kind = 1 := by
            rintro p ⟨f, hf, hp, hk⟩
            by_cases he : f.path = c.e.path
            · exact ⟨c.e, laid_mem.2 (.inl rfl), he.symm.trans hp, hkind f hf he hk⟩
            · exact ⟨f, laid_mem.2 (.inr ⟨hf, he⟩), hp, hk⟩
          refine ⟨ho, fun e he => ?_, fun e he => ?_⟩
          · rcases laid_mem.1 he with rfl | ⟨h1, _⟩
            · exact hw'
            · exact h.right e h1
          · refine (up_iff ho _).2 ?_
            rcases laid_mem.1 he with rfl | ⟨h1, _⟩
            · rcases (up_iff h.order _).1 hu' with h2 | h2
              · exact .inl h2
              · exact .inr (dir _ h2)
            · rcases (up_iff h.order _).1 (h.up e h1) with h2 | h2
              · exact .inl h2
              · exact .inr (dir _ h2)
theorem apply_tr : ∀ (l : List Chg) (L : List Ent) (k : Nat), TrL L → (applyGo L l k).1.1 = 0 → TrL (applyGo L l k).2
  | [], L, k, h, h0 => by
    rw [applyGo] at h0 ⊢
    split at h0
    · simp at h0
    · rename_i ho; rw [if_neg ho]; exact h
  | c :: l, L, k, h, h0 => by
    rw [applyGo] at h0 ⊢
    split at h0
    · rename_i hd; exact absurd h0 hd
    · rename_i hd
      rw [if_neg hd]
      exact apply_tr l _ _ (h.done (by simpa using hd)) h0
theorem TrL.one {L : List Ent} (h : TrL L) (hf : L.length ≤ 4096) (hl : bytesL L ≤ 16777216) {pre r : List Ent} {e : Ent} (hL : L = pre ++ e :: r) : oneN pre e = 0 := by
  have heL : e ∈ L := by rw [hL]; simp
  have ho := h.order
  rw [hL] at ho
  obtain ⟨ho1, ho2, ho3⟩ := List.pairwise_append.1 ho
  have hlt : ∀ x ∈ pre, ltE x e := fun x hx => ho3 x hx e (by simp)
  have hw := h.right e heL
  have hck := wrong_check hw
  have hoo : ooN (lastP pre) e.path = 0 := by
    rcases List.eq_nil_or_concat pre with rfl | ⟨l, d, rfl⟩
    · exact oo_start hck
    · have hd : lastP (l.concat d) = d.path := by simp [lastP]
      have hde := hlt d (by simp)
      unfold ltE at hde
      rw [hd]
      unfold ooN
      rw [if_neg (by omega), if_neg (by omega)]
  have hup : upN pre e.path = 0 := by
    refine (up_iff ho1 _).2 ?_
    rcases (up_iff h.order e.path).1 (h.up e heL) with h1 | ⟨f, hf9, hp, hk⟩
    · exact .inl h1
    · by_cases hz : (parentB e.path).size = 0
      · exact .inl hz
      · refine .inr ⟨f, ?_, hp, hk⟩
        have hlt9 : ltE f e := lt_below (y := un (lastB e.path)) (t := []) (path_full (h.right f hf9)) (path_full hw) (by rw [hp]; exact (names_split hck).symm)
        rw [hL] at hf9
        rcases List.mem_append.1 hf9 with h1 | h1
        · exact h1
        · rcases List.mem_cons.1 h1 with h1 | h1
          · rw [h1] at hlt9; exact absurd hlt9 (ltE_self _)
          · exact absurd ((List.pairwise_cons.1 ho2).1 _ h1) (ltE_asymm hlt9)
  have hmany : manyN pre e = 0 := by
    unfold manyN
    rw [put_end hlt]
    simp only
    rw [hL] at hf hl
    have e1 : bytesL (pre ++ e :: r) = bytesL pre + (e.data.size + bytesL r) := by simp [bytesL]
    rw [e1] at hl
    simp at hf
    rw [if_neg (by omega)]
  unfold oneN putN
  rw [if_neg (by simpa using hw), if_neg (by simpa using hoo), if_neg (by simpa using hup), hmany]
theorem TrL.check {L : List Ent} (h : TrL L) (hf : L.length ≤ 4096) (hl : bytesL L ≤ 16777216) : (checkGo [] L).1 = 0 := by
  have main : ∀ (r pre : List Ent), L = pre ++ r → (checkGo pre r).1 = 0 := by
    intro r
    induction r with
    | nil => intro pre _; rfl
    | cons e r ih =>
      intro pre hL
      rw [checkGo, if_neg (by simpa using h.one hf hl hL)]
      exact ih (pre ++ [e]) (by rw [hL]; simp)
  exact main L [] rfl
theorem apply_tree {t : List Ent} {l : List Chg} (h : (applyR t l).1.1 = 0) : (checkGo [] (applyR t l).2).1 = 0 := by
  obtain ⟨hc, he, _, hf, hb⟩ := applyR_facts h
  have htr := apply_tr l t 0 (tree_tr hc) (by rw [← he]; exact h)
  rw [← he] at htr
  exact htr.check hf hb
theorem checkN_range (p : ByteArray) : 0 ≤ checkN p ∧ checkN p ≤ 32 := by
  unfold checkN
  repeat' split
  all_goals first | omega | (rcases splitP_cases (whiteoutB p) with h | h <;> rw [h] <;> omega)
theorem wrong_range (e : Ent) : 0 ≤ wrongN e ∧ wrongN e ≤ 32 := by
  have := checkN_range e.path
  unfold wrongN
  repeat' split
  all_goals omega
theorem up_range (L : List Ent) (p : ByteArray) : 0 ≤ upN L p ∧ upN L p ≤ 32 := by
  unfold upN
  repeat' split
  all_goals omega
theorem one_range (L : List Ent) (e : Ent) : 0 ≤ oneN L e ∧ oneN L e ≤ 32 := by
  have h1 := wrong_range e
  have h2 : 0 ≤ ooN (lastP L) e.path ∧ ooN (lastP L) e.path ≤ 32 := by
    unfold ooN
    repeat' split
    all_goals omega
  have h3 := up_range L e.path
  have h4 : 0 ≤ manyN L e ∧ manyN L e ≤ 32 := by
    unfold manyN
    repeat' split
    all_goals omega
  unfold oneN putN
  repeat' split
  all_goals omega
theorem go_range : ∀ (r L : List Ent), 0 ≤ (checkGo L r).1 ∧ (checkGo L r).1 ≤ 32 ∧ ((checkGo L r).1 = 0 → (checkGo L r).2 = 0)
  | [], L => by simp [checkGo]
  | e :: r, L => by
    unfold checkGo
    split
    · rename_i h
      have := one_range L e
      exact ⟨this.1, this.2, fun h0 => absurd h0 h⟩
    · exact go_range r _
theorem do_range (L : List Ent) (c : Chg) : 0 ≤ doN L c ∧ doN L c ≤ 32 := by
  have h1 := wrong_range c.e
  have h2 := up_range L c.e.path
  unfold doN
  repeat' split
  all_goals omega
theorem apGo_range : ∀ (l : List Chg) (L : List Ent) (k : Nat), 0 ≤ (applyGo L l k).1.1 ∧ (applyGo L l k).1.1 ≤ 32 ∧ ((applyGo L l k).1.1 = 0 → (applyGo L l k).1 = (0, 0, 0)) ∧ ((applyGo L l k).1.1 ≠ 0 → (applyGo L l k).2 = [])
  | [], L, k => by
    rw [applyGo]
    split <;> simp
  | c :: l, L, k => by
    rw [applyGo]
    split
    · rename_i h
      have := do_range L c
      exact ⟨this.1, this.2, fun h0 => absurd h0 h, fun _ => rfl⟩
    · exact apGo_range l _ _
theorem ap_range (t : List Ent) (l : List Chg) : 0 ≤ (applyR t l).1.1 ∧ (applyR t l).1.1 ≤ 32 ∧ ((applyR t l).1.1 = 0 → (applyR t l).1 = (0, 0, 0)) ∧ ((applyR t l).1.1 ≠ 0 → (applyR t l).2 = []) := by
  unfold applyR
  split
  · rename_i h
    have := go_range t []
    exact ⟨this.1, this.2.1, fun h0 => absurd h0 h, fun _ => rfl⟩
  · exact apGo_range l t 0
end Go.Proofs.YtgildlfanfbebaaGreatDoor

namespace Go.Proofs.YtgildlfanfbebaaGreatDoor
open Go Go.RowKit Go.Shelf

theorem handed_three {a b c : Value} {g n0 n1 n2 n3 n4 n5 : Nat} (ha : ∀ x, a.ownBlock = some x → n0 ≤ x ∧ x < n1) (hb : ∀ x, b.ownBlock = some x → n2 ≤ x ∧ x < n3) (hc : ∀ x, c.ownBlock = some x → n4 ≤ x ∧ x < n5) (h12 : n1 ≤ n2) (h34 : n3 ≤ n4) (h23 : n2 ≤ n3) (hg : n5 ≤ g) (h45 : n4 ≤ n5) : HandedG g [a, b, c] := by
  refine ⟨fun i j u v hu hv hij => ?_, fun i u hu e => ?_⟩
  · have key : ∀ x, u.ownBlock = some x → v.ownBlock = some x → False := fun x h1 h2 => by
      rcases i with _ | _ | _ | i <;> rcases j with _ | _ | _ | j <;> (first | (simp at hu; done) | (simp at hv; done) | (exact hij rfl) | skip)
      all_goals cases hu; cases hv
      · have := ha x h1; have := hb x h2; omega
      · have := ha x h1; have := hc x h2; omega
      · have := hb x h1; have := ha x h2; omega
      · have := hb x h1; have := hc x h2; omega
      · have := hc x h1; have := ha x h2; omega
      · have := hc x h1; have := hb x h2; omega
    cases hx : u.ownBlock with
    | none => exact .inl rfl
    | some x => exact .inr (fun e => key x hx e.symm)
  · rcases i with _ | _ | _ | i
    · cases hu; have := ha g e; omega
    · cases hu; have := hb g e; omega
    · cases hu; have := hc g e; omega
    · simp at hu
theorem three_startC {W : World} {B : Nat} {a b c : Value} {la lb lc : List Chg} (ha : W.ownsRow B 54 7 a la.length (ccells la)) (hb : W.ownsRow B 54 7 b lb.length (ccells lb)) (hc : W.ownsRow B 54 7 c lc.length (ccells lc)) :
    ∀ (j : Nat) (u : Value) (xs : List Chg), [a, b, c][j]? = some u → [la, lb, lc][j]? = some xs → W.ownsRow B 54 7 u xs.length (cellsG ccs xs) := fun j u xs hu hx => by
  rcases j with _ | _ | _ | j
  · cases hu; cases hx; exact ha
  · cases hu; cases hx; exact hb
  · cases hu; cases hx; exact hc
  · simp at hu
theorem own_shC {W : World} {B : Nat} {v : Value} {es : List Chg} (h : W.ownsRow B 54 7 v es.length (ccells es)) : ∃ a c, v = .slice a es.length c := by
  obtain ⟨a, c, h1, _⟩ := own_shapeG h
  exact ⟨a, c, h1⟩
theorem dif_len (a b : List Ent) : (diffR a b).2.length ≤ 2 * (a.length + b.length) := by
  unfold diffR
  split
  · simp
  · split
    · simp
    · have h1 := emL_len (togL a b) ⟨#[]⟩
      have h2 := togL_len _ a b (Nat.le_refl _)
      show (unlikeL a b).length ≤ _
      unfold unlikeL; omega
set_option maxRecDepth 100000 in
theorem saidD_p (n l t : Int) (h0 : 0 ≤ n) (h1 : n ≤ 32) (w : World) (hg : ErrType w) : Calls Tryz.prog 12 #[errF (n, l, t), .agg #[.int .i64 n, .int .i64 l, .int .i64 t]] w fun e w' => e = .returned (.bool true) ∧ Below w.heap.size w w' := by
  have hb0 : ∀ z, Below w.heap.size w (w.alloc z) := fun z => (Below.refl _ _).alloc (Nat.le_refl _) _
  by_cases hn : n = 0
  · subst hn
    rw [show errF (0, l, t) = .nilIface from rfl]
    go_enter Tryz.func12, Tryz.ntmps12
    go_wp2_with (go_at_call 35; refine (at_nil l t _).mono ?_; rintro e w1 ⟨rfl, hw⟩; subst hw)
    go_ret
    exact ⟨rfl, hb0 _⟩
  · rw [show errF (n, l, t) = fltV n l t from if_neg hn]
    have hA := fun W (h : ErrType W) => kitAt_p n l t (by omega) h1 W h
    go_enter Tryz.func12, Tryz.ntmps12
    go_wp2_with (go_at_call 35; refine (hA _ (hg.below (hb0 _))).mono ?_; rintro e w1 ⟨rfl, hb1⟩)
    go_ret
    exact ⟨rfl, below_join (hb0 _) hb1⟩
theorem dif_range (a b : List Ent) : 0 ≤ (diffR a b).1.1 ∧ (diffR a b).1.1 ≤ 32 := by
  have h1 := go_range a []
  have h2 := go_range b []
  unfold diffR
  split
  · exact ⟨h1.1, h1.2.1⟩
  · split
    · exact ⟨h2.1, h2.2.1⟩
    · simp
/-- The document's answer, parted. -/
theorem diff_rp (u v : Value) (a b : List Ent) (n l t : Int) (C : List Chg) (hr : diffR a b = ((n, l, t), C)) (w : World) (hu : EntsAt w u a) (hv : EntsAt w v b) (hsa : Small a) (hsb : Small b) :
    Calls Tryz.prog 9 #[u, v] w fun e w' => ∃ x, e = .returned (.tuple #[x, .agg #[.int .i64 n, .int .i64 l, .int .i64 t]]) ∧ w'.ownsRow w.heap.size 54 7 x C.length (ccells C) ∧ Below w.heap.size w w' := by
  have h := diff_r u v a b w hu hv hsa hsb
  rw [hr] at h
  exact h
theorem diff_pp (u v : Value) (a b : List Ent) (n l t : Int) (C : List Chg) (hr : diffR a b = ((n, l, t), C)) (w : World) (hg : ErrType w) (hu : EntsAt w u a) (hv : EntsAt w v b) (hsa : Small a) (hsb : Small b) :
    Calls Tryz.prog 11 #[u, v] w fun e w' => ∃ x, e = .returned (.tuple #[x, errF (n, l, t)]) ∧ w'.ownsRow w.heap.size 54 7 x C.length (ccells C) ∧ Below w.heap.size w w' := by
  have h := diff_d u v a b w hg hu hv (by have := hsa.1; omega) (by have := hsb.1; omega) (fun e he => by have := (hsa.2 e he).1; omega) (fun e he => by have := (hsb.2 e he).1; omega)
  rw [hr] at h
  exact h
set_option maxRecDepth 100000 in
set_option maxHeartbeats 4000000 in
theorem deltadiffs_law (u v : Value) (a b : List Ent) (w : World) (hg : ErrType w) (hu : EntsAt w u a) (hv : EntsAt w v b) (hsa : Small a) (hsb : Small b) :
    Calls Tryz.prog 3 #[u, v] w fun e w' => e = .returned (.bool true) ∧ Below w.heap.size w w' := by
  have hla := hsa.1
  have hlb := hsb.1
  have q1 := dif_len a b
  have q2 := dif_len b a
  obtain ⟨r1, r2⟩ := dif_range a b
  obtain ⟨r3, r4⟩ := dif_range b a
  obtain ⟨n, l, t, C, hr⟩ : ∃ n l t C, diffR a b = ((n, l, t), C) := ⟨_, _, _, _, rfl⟩
  obtain ⟨n', l', t', C', hr'⟩ : ∃ n l t C, diffR b a = ((n, l, t), C) := ⟨_, _, _, _, rfl⟩
  rw [hr] at q1 r1 r2
  rw [hr'] at q2 r3 r4
  simp only at q1 q2 r1 r2 r3 r4
  go_enter Tryz.func3, Tryz.ntmps3
  go_wp2_with fail
  refine (diff_rp u v a b n l t C hr w hu hv hsa hsb).mono ?_
  rintro e w1 ⟨d1, rfl, od1, hb1⟩
  have A1 : Below w.heap.size w (w1.alloc (.cells #[.int .i64 n, .int .i64 l, .int .i64 t] 25)) := hb1.alloc hb1.size _
  have L1 := Lies.new w1 25 #[.int .i64 n, .int .i64 l, .int .i64 t]
  have od1 := od1.alloc (.cells #[.int .i64 n, .int .i64 l, .int .i64 t] 25)
  go_wp2_with fail
  generalize (w1.alloc (.cells #[.int .i64 n, .int .i64 l, .int .i64 t] 25)) = V1 at *
  generalize w1.heap.size = g1 at *
  refine (diff_rp v u b a n' l' t' C' hr' V1 (hv.below A1) (hu.below A1) hsb hsa).mono ?_
  rintro e w2 ⟨d2, rfl, od2, hb2⟩
  have A2 : Below V1.heap.size V1 (w2.alloc (.cells #[.int .i64 n', .int .i64 l', .int .i64 t'] 25)) := hb2.alloc hb2.size _
  have L2 := Lies.new w2 25 #[.int .i64 n', .int .i64 l', .int .i64 t']
  have od2 := od2.alloc (.cells #[.int .i64 n', .int .i64 l', .int .i64 t'] 25)
  go_wp2_with fail
  generalize (w2.alloc (.cells #[.int .i64 n', .int .i64 l', .int .i64 t'] 25)) = V2 at *
  generalize w2.heap.size = g2 at *
  have L1 := L1.below A2
  have od1 := own_below od1 A2
  have HB2 := below_join A1 A2
  clear A1 A2 hb1 hb2
  refine (lentE_p a u V2 (hu.below HB2) (by omega)).mono ?_
  rintro e w3 ⟨x, rfl, hL3, hrow3, hb3⟩
  have HB3 := below_join HB2 hb3
  go_wp2_with fail
  refine (lentE_p b v w3 (hv.below HB3) (by omega)).mono ?_
  rintro e w4 ⟨y, rfl, hL4, hrow4, hb4⟩
  have HB4 := below_join HB3 hb4
  have hL3 := hL3.below hb4
  have ex := hL3.ents
  have ey := hL4.ents
  have G4 := hg.below HB4
  have c4 := below_join hb3 hb4
  have L1 := L1.below c4
  have L2 := L2.below c4
  have od1 := own_below od1 c4
  have od2 := own_below od2 c4
  go_wp2_with fail
  refine (diff_pp x y a b n l t C hr w4 G4 ex ey hsa hsb).mono ?_
  rintro e w5 ⟨ua, rfl, oa, hb5⟩
  go_wp2_with fail
  refine (diff_pp x y a b n l t C hr w5 (G4.below hb5) (ex.below hb5) (ey.below hb5) hsa hsb).mono ?_
  rintro e w6 ⟨ub, rfl, ob, hb6⟩
  have c6 := below_join hb5 hb6
  go_wp2_with fail
  refine (diff_pp y x b a n' l' t' C' hr' w6 (G4.below c6) (ey.below c6) (ex.below c6) hsb hsa).mono ?_
  rintro e w7 ⟨uc, rfl, oc, hb7⟩
  have c7 := below_join c6 hb7
  have G7 := G4.below c7
  have L17 := L1.below c7
  have L27 := L2.below c7
  have oa7 := own_below oa (below_join hb6 hb7)
  have ob7 := own_below ob hb7
  have od1 := own_below od1 c7
  have od2 := own_below od2 c7
  have f0 := L17.cell (i := 0) rfl
  have f1 := L17.cell (i := 1) rfl
  have f2 := L17.cell (i := 2) rfl
  go_wp2_with fail
  refine (saidD_p n l t r1 r2 w7 G7).mono ?_
  rintro e w8 ⟨rfl, hb8⟩
  clear f0 f1 f2
  have f0 := (L17.below hb8).cell (i := 0) rfl
  have f1 := (L17.below hb8).cell (i := 1) rfl
  have f2 := (L17.below hb8).cell (i := 2) rfl
  go_wp2_with fail
  refine (saidD_p n l t r1 r2 w8 (G7.below hb8)).mono ?_
  rintro e w9 ⟨rfl, hb9⟩
  have c9 := below_join hb8 hb9
  clear f0 f1 f2
  have f0 := (L27.below c9).cell (i := 0) rfl
  have f1 := (L27.below c9).cell (i := 1) rfl
  have f2 := (L27.below c9).cell (i := 2) rfl
  go_wp2_with fail
  refine (saidD_p n' l' t' r3 r4 w9 (G7.below c9)).mono ?_
  rintro e w10 ⟨rfl, hb10⟩
  have c10 := below_join c9 hb10
  clear f0 f1 f2
  have ea := chgs_of_owns oa7
  have eb := chgs_of_owns ob7
  have ec := chgs_of_owns oc
  have e1 := chgs_of_owns od1
  have e2 := chgs_of_owns od2
  go_wp2_with fail
  refine (sameC_p ua d1 C w10 (ea.below c10) (e1.below c10) (by omega)).mono ?_
  rintro e w11 ⟨rfl, hb11⟩
  have c11 := below_join c10 hb11
  go_wp2_with fail
  refine (sameC_p ub d1 C w11 (eb.below c11) (e1.below c11) (by omega)).mono ?_
  rintro e w12 ⟨rfl, hb12⟩
  have c12 := below_join c11 hb12
  go_wp2_with fail
  refine (sameC_p uc d2 C' w12 (ec.below c12) (e2.below c12) (by omega)).mono ?_
  rintro e w13 ⟨rfl, hb13⟩
  have c13 := below_join c12 hb13
  have oa13 := own_below oa7 c13
  have ob13 := own_below ob7 c13
  have oc13 := own_below oc c13
  have s5 := hb5.size
  have s6 := hb6.size
  have s7 := hb7.size
  have s13 := c13.size
  have LA := own_lt oa
  have LB := own_lt ob
  have LC := own_lt oc
  have hH : HandedG w13.heap.size [ua, ub, uc] := handed_three LA LB LC (Nat.le_refl _) (Nat.le_refl _) s6 s13 s7
  have AP := apartC_p w4.heap.size w13.heap.size 3 [ua, ub, uc] [C, C, C'] (w13.alloc (.cells #[ua, ub, uc] 23)) rfl (by simp) (by simp; omega) (Lies.new w13 _ _) hH
    (RwsG.start (three_startC (own_baseG (oa13.alloc _) (Nat.le_refl _)) (own_baseG (ob13.alloc _) s5) (own_baseG (oc13.alloc _) (Nat.le_trans s5 s6))))
    (fun q hq => by
      simp only [List.mem_cons, List.not_mem_nil, or_false] at hq
      rcases hq with rfl | rfl | rfl <;> omega)
  have hbA : Below w4.heap.size w4 (w13.alloc (.cells #[ua, ub, uc] 23)) := (below_join c7 c13).alloc (by omega) _
  obtain ⟨aa, ca, rfl⟩ := own_shC oa
  obtain ⟨ab, cb, rfl⟩ := own_shC ob
  obtain ⟨ac, cc, rfl⟩ := own_shC oc
  clear oa ob oc oa7 ob7 oa13 ob13 oc13 ea eb ec e1 e2 od1 od2 LA LB LC hH L17 L27 L1 L2
  go_wp2_with fail
  refine AP.mono ?_
  rintro e w14 ⟨rfl, -, hb14⟩
  have c14 := hbA.trans hb14
  have HB14 := below_join HB4 c14
  go_wp2_with fail
  refine (keptE_p a x u w14 (hL3.below c14) (hu.below HB14) (by omega)).mono ?_
  rintro e w15 ⟨rfl, hb15⟩
  have HB15 := below_join HB14 hb15
  go_wp2_with fail
  refine (keptE_p b y v w15 (hL4.below (below_join c14 hb15)) (hv.below HB15) (by omega)).mono ?_
  rintro e w16 ⟨rfl, hb16⟩
  have HB16 := below_join HB15 hb16
  go_wp2_with fail
  refine (works_d w16 (hg.below HB16)).mono ?_
  rintro e w17 ⟨rfl, hb17⟩
  go_wp2
  go_ret
  exact ⟨rfl, below_join HB16 hb17⟩
end Go.Proofs.YtgildlfanfbebaaGreatDoor

namespace Go.Proofs.YtgildlfanfbebaaGreatDoor
open Go.ChangeShapes Go.WideShapes Go.RowKit

theorem own : ownKnob Tryz.prog.godebug = none := by kernel_rfl
theorem l_et : Tryz.prog.globalNamed "errors.errorType" = some 0 := by kernel_rfl
theorem l_rt : (Tryz.prog.cutTypes.find? (·.1 == "internal/reflectlite.rtype")).map (·.2) = some 157 := by kernel_rfl
theorem l_oneRow : ((List.range 252).filter fun t => Tryz.prog.rowNamed t [101, 114, 114, 111, 114]) = [30] := by kernel_rfl
theorem l_size : Tryz.prog.types.size = 252 := by kernel_rfl

abbrev listedU : List (String × DataW Unit) := [("unicode/utf8.acceptRanges", Rows.laid_unicode_utf8_acceptRanges), ("errors.errorType", Rows.laid_errors_errorType), ("unicode/utf8.first", Rows.laid_unicode_utf8_first)]
set_option maxRecDepth 100000 in
theorem handle_of_laidU {W : World} (h : laidMetH Tryz.prog listedU W) : ErrType W := by
  have h2 : laidMet Tryz.prog [("unicode/utf8.acceptRanges", Rows.laid_unicode_utf8_acceptRanges), ("unicode/utf8.first", Rows.laid_unicode_utf8_first)] W ∧ handlesMet Tryz.prog [("errors.errorType", Rows.laid_errors_errorType)] W := h
  obtain ⟨name, u, ty, e1, e2, e3, e4, e5⟩ := h2.2 _ (List.mem_singleton.2 rfl)
  have en : name = [101, 114, 114, 111, 114] := (Option.some.inj e1).symm
  subst en
  obtain rfl := Option.some.inj (l_rt.symm.trans e2)
  have hm : ty ∈ (List.range 252).filter fun t => Tryz.prog.rowNamed t [101, 114, 114, 111, 114] := List.mem_filter.2 ⟨List.mem_range.2 (by rw [← l_size]; exact e3), e4⟩
  rw [l_oneRow] at hm
  obtain rfl := List.mem_singleton.1 hm
  have hh : typeHandle Tryz.prog 30 = .pointer (some ⟨4, 30, none⟩) := by kernel_rfl
  rw [hh] at e5
  have h3 := World.var?_cell l_et e5 0
  unfold ErrType
  simpa using h3
def numsOf : DataW Unit → List Value
  | .lit (.int k n) => [.int k n]
  | .agg ds => ds.flatMap fun
    | .lit (.int k n) => [Value.int k n]
    | .agg es => es.map fun
      | .lit (.int k n) => Value.int k n
      | _ => .int .i64 0
    | _ => []
  | _ => []
noncomputable def laidWorldU (os : Os) : World :=
  (((World.holding Tryz.prog os ⟨#[], #[], []⟩).setRow 3 (numsOf Rows.laid_unicode_utf8_acceptRanges).toArray).setRow 2 (numsOf Rows.laid_unicode_utf8_first).toArray).setRow 0 #[.iface 157 (.agg #[.pointer (some ⟨4, 30, none⟩)])]
end Go.Proofs.YtgildlfanfbebaaGreatDoor

namespace Go.Proofs.YtgildlfanfbebaaGreatDoor
open Go.ChangeShapes Go.WideShapes Go.RowKit

theorem ent_size : Tryz.prog.cellsOf 52 = 5 := by kernel_rfl
theorem bulk_mem {H : Type} : ∀ {ds : List (DataW H)} {d : DataW H}, d ∈ ds → Rows.uptoBulk d ≤ Rows.uptoBulkAll ds
  | [], _, h => by cases h
  | y :: ds, d, h => by
    rw [Rows.uptoBulkAll]
    rcases List.mem_cons.1 h with rfl | h
    · omega
    · have := bulk_mem h; omega
theorem bulk_len {H : Type} : ∀ {ds : List (DataW H)}, (∀ d ∈ ds, 1 ≤ Rows.uptoBulk d) → ds.length ≤ Rows.uptoBulkAll ds
  | [], _ => by simp
  | y :: ds, h => by
    rw [Rows.uptoBulkAll, List.length_cons]
    have h1 := h y (by simp)
    have h2 := bulk_len (ds := ds) (fun d hd => h d (by simp [hd]))
    omega
set_option maxRecDepth 100000 in
/-- One entry's cells and datum. -/
theorem open_one {H : Type} {enc : TypeId × Value → H} {W : World} {n : Nat} {cs : List Value} {x : DataW H × List MemPlace} (hlen : cs.length = 5) (hf : DataW.trod enc Tryz.prog W 0 (fun _ => true) true n 52 cs = some x) :
    ∃ e : Ent, cs = ecs e ∧ x.1 = .agg [.lit (.string e.path.data.toList), .lit (.int .i64 e.kind), .lit (.int .i64 e.mode), .lit (.string e.data.data.toList), .lit (.string e.link.data.toList)] := by
  obtain ⟨xs, n, _, hx, hl, hlen2, hff⟩ := DataW.trod_struct Tryz.underlying52 hf
  obtain ⟨v0, v1, v2, v3, v4, hvs⟩ : ∃ v0 v1 v2 v3 v4, cs = [v0, v1, v2, v3, v4] := by
    match cs, hlen with
    | [v0, v1, v2, v3, v4], _ => exact ⟨v0, v1, v2, v3, v4, rfl⟩
  obtain ⟨y0, y1, y2, y3, y4, hys⟩ : ∃ y0 y1 y2 y3 y4, xs = [y0, y1, y2, y3, y4] := by
    match xs, hlen2 with
    | [y0, y1, y2, y3, y4], _ => exact ⟨y0, y1, y2, y3, y4, rfl⟩
  subst hys
  subst hvs
  have m0 : Tryz.prog.cellsOf 50 = 1 := by kernel_rfl
  have m1 : Tryz.prog.cellsOf 3 = 1 := by kernel_rfl
  have m2 : Tryz.prog.cellsOf 9 = 1 := by kernel_rfl
  have g0 : DataW.trod enc Tryz.prog W 0 (fun _ => true) true n 9 [v0] = some y0 := by
    have e : DataW.trod enc Tryz.prog W 0 (fun _ => true) true n 9 ((([v0, v1, v2, v3, v4] : List Value).drop 0).take (Tryz.prog.cellsOf 9)) = some y0 := hff 0 _ rfl
    rw [m2] at e
    exact e
  have g1 : DataW.trod enc Tryz.prog W 0 (fun _ => true) true n 50 [v1] = some y1 := by
    have e : DataW.trod enc Tryz.prog W 0 (fun _ => true) true n 50 ((([v0, v1, v2, v3, v4] : List Value).drop 1).take (Tryz.prog.cellsOf 50)) = some y1 := hff 1 _ rfl
    rw [m0] at e
    exact e
  have g2 : DataW.trod enc Tryz.prog W 0 (fun _ => true) true n 3 [v2] = some y2 := by
    have e : DataW.trod enc Tryz.prog W 0 (fun _ => true) true n 3 ((([v0, v1, v2, v3, v4] : List Value).drop 2).take (Tryz.prog.cellsOf 3)) = some y2 := hff 2 _ rfl
    rw [m1] at e
    exact e
  have g3 : DataW.trod enc Tryz.prog W 0 (fun _ => true) true n 9 [v3] = some y3 := by
    have e : DataW.trod enc Tryz.prog W 0 (fun _ => true) true n 9 ((([v0, v1, v2, v3, v4] : List Value).drop 3).take (Tryz.prog.cellsOf 9)) = some y3 := hff 3 _ rfl
    rw [m2] at e
    exact e
  have g4 : DataW.trod enc Tryz.prog W 0 (fun _ => true) true n 9 [v4] = some y4 := by
    have e : DataW.trod enc Tryz.prog W 0 (fun _ => true) true n 9 ((([v0, v1, v2, v3, v4] : List Value).drop 4).take (Tryz.prog.cellsOf 9)) = some y4 := hff 4 _ rfl
    rw [m2] at e
    exact e
  clear hff
  obtain ⟨s0, a0, b0, _⟩ := DataW.trod_string Tryz.underlying9 g0
  obtain rfl := (List.cons.inj a0).1
  subst b0
  obtain ⟨i1, a1, b1, w1⟩ := DataW.trod_int Tryz.underlying50 g1
  obtain rfl := (List.cons.inj a1).1
  subst b1
  obtain ⟨i2, a2, b2, w2⟩ := DataW.trod_int Tryz.underlying3 g2
  obtain rfl := (List.cons.inj a2).1
  subst b2
  obtain ⟨s3, a3, b3, _⟩ := DataW.trod_string Tryz.underlying9 g3
  obtain rfl := (List.cons.inj a3).1
  subst b3
  obtain ⟨s4, a4, b4, _⟩ := DataW.trod_string Tryz.underlying9 g4
  obtain rfl := (List.cons.inj a4).1
  subst b4
  exact ⟨⟨s0, i1, i2, s3, s4⟩, rfl, congrArg Prod.fst hx⟩
set_option maxRecDepth 100000 in
theorem open_ents {H : Type} {enc : TypeId × Value → H} {W : World} {b0 : Nat} {v : Value} {d : DataW H} {p : List MemPlace}
    (hv : Value.okWide Tryz.prog W .any b0 22 v) (h : DataW.Trod enc Tryz.prog W 0 (fun _ => true) true 22 v d p) : ∃ l : List Ent, EntsAt W v l ∧ l.length ≤ Rows.uptoBulk d ∧ ∀ x ∈ l, x.path.size ≤ Rows.uptoBulk d ∧ x.link.size ≤ Rows.uptoBulk d ∧ x.data.size ≤ Rows.uptoBulk d := by
  obtain ⟨a0, len0, cap0, rfl⟩ := okWide_slice Tryz.underlying22 hv
  obtain ⟨fuel, hf⟩ := h
  rcases Go.Deep.open_slice Tryz.underlying22 hf with ⟨hcs, hx⟩ | ⟨a, len, cap, m, n, D, Pl, hcs, _, hl, hm, hmm, hx, hall⟩
  · have e : Value.slice a0 len0 cap0 = .slice none 0 0 := by simpa [Value.cells] using hcs
    rw [e]
    exact ⟨[], ⟨none, 0, 0, 0, rfl, fun h => absurd rfl h, Nat.le_refl _, fun i x h => by simp at h⟩, by simp, fun x h => by cases h⟩
  · have e : Value.slice a0 len0 cap0 = .slice (some a) len cap := by simpa [Value.cells] using hcs
    rw [e]
    rw [if_pos rfl] at hmm
    have e2 : d = .slice ((List.range len).map D) ((List.range (m - len)).map fun j => D (len + j)) := congrArg Prod.fst hx
    have each : ∀ i, i < len → ∃ x : Ent, (∀ j v, (ecs x)[j]? = some v → W.cell? (a.add (i * 5 + j)) = some v) ∧ D i = .agg [.lit (.string x.path.data.toList), .lit (.int .i64 x.kind), .lit (.int .i64 x.mode), .lit (.string x.data.data.toList), .lit (.string x.link.data.toList)] := by
      intro i hi
      obtain ⟨cs', h1, h2⟩ := hall i (by omega)
      rw [ent_size] at h1
      obtain ⟨_, hlen, hcell⟩ := World.cells?_some h1
      obtain ⟨x, hxe, hxd⟩ := open_one hlen h2
      refine ⟨x, fun j v hj => ?_, hxd⟩
      have hj5 : j < 5 := (List.getElem?_eq_some_iff.1 hj).1
      have c := hcell j (by omega)
      rw [Go.Deep.add_add] at c
      rw [c]
      subst hxe
      first | exact hj | (rw [← hj]; simp) | simpa using hj
    obtain ⟨f, hfx⟩ : ∃ f : Nat → Ent, ∀ i, i < len → (∀ j v, (ecs (f i))[j]? = some v → W.cell? (a.add (i * 5 + j)) = some v) ∧ D i = .agg [.lit (.string (f i).path.data.toList), .lit (.int .i64 (f i).kind), .lit (.int .i64 (f i).mode), .lit (.string (f i).data.data.toList), .lit (.string (f i).link.data.toList)] :=
      ⟨fun i => if h : i < len then Classical.choose (each i h) else ⟨⟨#[]⟩, 0, 0, ⟨#[]⟩, ⟨#[]⟩⟩, fun i hi => by simp only [dif_pos hi]; exact Classical.choose_spec (each i hi)⟩
    have hD : ∀ i, i < len → (f i).path.size + (f i).data.size + (f i).link.size + 2 ≤ Rows.uptoBulk (D i) := fun i hi => by
      rw [(hfx i hi).2]
      have hs : (f i).path.data.toList.length = (f i).path.size := un_length _
      have hs2 : (f i).data.data.toList.length = (f i).data.size := un_length _
      have hs3 : (f i).link.data.toList.length = (f i).link.size := un_length _
      simp only [Rows.uptoBulk, Rows.uptoBulkAll, hs, hs2, hs3]
      omega
    have hmem : ∀ i, i < len → D i ∈ (List.range len).map D := fun i hi => List.mem_map_of_mem (List.mem_range.2 hi)
    have hbk : Rows.uptoBulkAll ((List.range len).map D) ≤ Rows.uptoBulk d := by rw [e2]; simp only [Rows.uptoBulk]; omega
    refine ⟨(List.range len).map f, ?_, ?_, ?_⟩
    · by_cases h0 : len = 0
      · subst h0
        exact ⟨some a, cap, 0, 0, by simp, fun h => absurd rfl h, by simp, fun i x h => by simp at h⟩
      · obtain ⟨b, off, spot⟩ := a
        have hc0 := (hfx 0 (by omega)).1 0 _ rfl
        have hspot : spot = none := by simpa [Addr.add] using World.cell?_spot hc0
        subst hspot
        refine ⟨some ⟨b, off, none⟩, cap, b, off, by simp, fun _ => rfl, by simpa using hl, fun i x hi => ?_⟩
        have h1 : i < len := by have := (List.getElem?_eq_some_iff.1 hi).1; simpa using this
        have hx2 : x = f i := by simpa [h1] using hi.symm
        subst hx2
        have hc : ∀ j v, (ecs (f i))[j]? = some v → W.cell? ⟨b, off + i * 5 + j, none⟩ = some v := fun j v hj => by
          have := (hfx i h1).1 j v hj
          rw [Addr.add_mid] at this
          rw [Nat.add_assoc]; exact this
        exact ⟨hc 0 _ rfl, hc 1 _ rfl, hc 2 _ rfl, hc 3 _ rfl, hc 4 _ rfl⟩
    · have := bulk_len (ds := (List.range len).map D) (fun y hy => by
        obtain ⟨i, hi, rfl⟩ := List.mem_map.1 hy
        have := hD i (List.mem_range.1 hi); omega)
      rw [List.length_map] at this ⊢
      omega
    · intro x hx3
      obtain ⟨i, hi, rfl⟩ := List.mem_map.1 hx3
      have h1 := hD i (List.mem_range.1 hi)
      have h2 := bulk_mem (hmem i (List.mem_range.1 hi))
      exact ⟨by omega, by omega, by omega⟩
end Go.Proofs.YtgildlfanfbebaaGreatDoor

namespace Go.Proofs.YtgildlfanfbebaaGreatDoor.fnDeltaDiffsUpto
open Go.ChangeShapes Go.WideShapes Go.ChangeAt Go.RowKit
open Go.WideMaps Go.WideElems
open Go.ChangeMaps (open_string shut_string)

abbrev listed : List (String × DataW Unit) := listedU
set_option maxRecDepth 100000 in
theorem contract (H : Type) (enc : TypeId × Value → H) (W : World) (base : Nat) (args : Array Value) (ds gs : List (DataW H)) (before : List MemPlace)
    (hval : ∀ (j : Nat) t v, Tryz.f3.params[j]? = some t → args[j]? = some v → Value.okWide Tryz.prog W .any base t v)
    (hW : DataW.Whole enc Tryz.prog Tryz.f3.params.toList Rows.deltaDiffsSpec.vars false W args.toList ds gs before)
    (hk : Rows.uptoSmall H (ds ++ gs) = true)
    (hL : laidMetH Tryz.prog listed W) :
    Calls Tryz.prog 3 args W fun e W' => ∃ v, e = .returned v ∧ Rows.deltaDiffsSpec.post enc Tryz.prog Tryz.f3 false true false false W args v W' := by
  have hW' := hW
  obtain ⟨p, q, hA0, hV, rfl, hfz, hnd⟩ := hW
  have hA : DataW.TrodAll enc Tryz.prog W 0 (fun _ => true) true Tryz.f3.params.toList args.toList ds p := hA0
  rw [Tryz.params3] at hA hval
  obtain ⟨v0, vs0, d0, ds0, p0, q0, hargs, rfl, rfl, h0, r0⟩ := trodAll_cons hA
  obtain ⟨v1, vs1, d1, ds1, p1, q1, rfl, rfl, rfl, h1, r1⟩ := trodAll_cons r0
  obtain ⟨rfl, rfl, rfl⟩ := trodAll_nil r1
  obtain rfl : args = #[v0, v1] := by cases args; simp_all
  obtain ⟨rfl, rfl⟩ := trodVars_none hV
  clear hA0
  simp only [List.append_nil] at hW'
  have hb := of_decide_eq_true hk
  simp only [List.append_nil, Rows.uptoBulkAll] at hb
  have k0 := fun (W' : World) (hg : Below W.heap.size W W') => Below.trod (by kernel_rfl) (by kernel_rfl) (of_decide_eq_true (by kernel_rfl)) h0 hg (by obtain ⟨fu, hf⟩ := h0; exact DataW.trod_lt _ _ _ _ hf)
  obtain ⟨l0, t0, y0, x0⟩ := open_ents (hval 0 22 v0 rfl rfl) h0
  have k1 := fun (W' : World) (hg : Below W.heap.size W W') => Below.trod (by kernel_rfl) (by kernel_rfl) (of_decide_eq_true (by kernel_rfl)) h1 hg (by obtain ⟨fu, hf⟩ := h1; exact DataW.trod_lt _ _ _ _ hf)
  obtain ⟨l1, t1, y1, x1⟩ := open_ents (hval 1 22 v1 rfl rfl) h1
  refine (deltadiffs_law v0 v1 l0 l1 W (handle_of_laidU hL) t0 t1 ⟨by omega, fun x hx => by obtain ⟨q1, q2, q3⟩ := x0 x hx; exact ⟨by omega, by omega, by omega⟩⟩ ⟨by omega, fun x hx => by obtain ⟨q1, q2, q3⟩ := x1 x hx; exact ⟨by omega, by omega, by omega⟩⟩).mono fun e W' ⟨he, hg⟩ => ?_
  subst he
  have e1 : Rows.deltaDiffsSpec.fn H ([d0, d1] ++ []) = { results := [.lit (.bool true)], args := [d0, d1] } := by simp [Rows.deltaDiffsSpec]
  refine ⟨_, rfl, _, _, _, [], p0 ++ (p1 ++ []), [], hW', ?_, ?_, ?_, hg.frame _, fun h => by cases h⟩
  · rw [e1]; exact trodAll_mk1 (shut_bool Tryz.underlying4 true)
  · rw [e1]; exact trodAll_cons_mk (k0 W' hg) (trodAll_cons_mk (k1 W' hg) trodAll_mk0)
  · rw [e1]; rfl

set_option maxRecDepth 100000 in
theorem met (os : Os) (args : Array Value) : laidMetH Tryz.prog listed ((laidWorldU os).forCall (fun _ _ => 0) ⟨#[], args, []⟩).memory :=
  laidMetH_of_parts (laidMet_of_run' 8 (by kernel_rfl) (by kernel_rfl)) (by kernel_rfl)
theorem reads (os : Os) {H : Type} (enc : TypeId × Value → H) : ∃ places, DataW.whole enc Tryz.prog ((laidWorldU os).forCall (fun _ _ => 0) ⟨#[], #[.slice none 0 0, .slice none 0 0], []⟩).memory Tryz.f3.params.toList Rows.deltaDiffsSpec.vars false #[Value.slice none 0 0, Value.slice none 0 0].toList 8 = some ([.nil, .nil], [], places) :=
  ⟨[], by kernel_rfl⟩

set_option maxRecDepth 100000 in
theorem lifted (os : Os) (started : os.Started) (H : Type) (enc : TypeId × Value → H) (F : Stop.Interp) :
    ReturnsInHanded {} Tryz.checked os 3 .any ((Rows.OpenSpec.upto Rows.deltaDiffsSpec).preRow enc Tryz.prog Tryz.f3 Rows.deltaDiffsUptoRow.domain false Rows.deltaDiffsUptoRow.laid) (((Rows.OpenSpec.upto Rows.deltaDiffsSpec).at F).post enc Tryz.prog Tryz.f3 false true false false) := by
  obtain ⟨places, hx⟩ := reads os enc
  refine returnsInHanded_of_row (C := Tryz.checked) (s := Rows.OpenSpec.upto Rows.deltaDiffsSpec) own started (by kernel_rfl) Tryz.func3
    (witness_row_at (enc := enc) (C := Tryz.checked) false (laidWorldU os) #[.slice none 0 0, .slice none 0 0] rfl (by kernel_rfl) (by kernel_rfl) (by kernel_rfl)
      (OpenSpec.preRow_of_cond 8 hx (by kernel_rfl) (fun k hk => by cases hk; kernel_rfl) (by kernel_rfl) (met os _))) ?_
  intro W base args ds gs before hval hW _ hcond _ hL _ _
  exact contract H enc W base args ds gs before hval hW (hcond _ rfl) hL

theorem said : Rows.DeltaDiffsUptoSaid :=
  OpenClaim.holds_of_cond 3 Tryz.f3 rfl rfl rfl rfl rfl rfl rfl ⟨rfl, rfl, rfl, rfl, rfl⟩ rfl rfl rfl rfl rfl (by kernel_rfl) Tryz.func3 (by kernel_rfl)
    (of_decide_eq_true (by kernel_rfl)) (by unfold Func.isWrapper; rw [if_neg (of_decide_eq_false (by kernel_rfl))]; exact ⟨rfl, rfl⟩)
    (fun os started H enc _ F => by rw [OpenClaim.pre_eq_preRow]; exact lifted os started H enc F)

theorem plainly (f : FuncId) (fn : Func) (hf : Tryz.pinned.checked.prog.funcNamed "strata/stratalaw10.DeltaDiffs" = some f) (hfn : Tryz.pinned.checked.prog.funcs[f]? = some fn) :
    true = Tryz.pinned.checked.prog.looks [] ∧ ∀ (j : Nat) t, fn.params[j]? = some t → Tryz.pinned.checked.prog.wantsStandIn t = false := by
  obtain rfl : f = 3 := Option.some.inj ((show Tryz.prog.funcNamed "strata/stratalaw10.DeltaDiffs" = some 3 by kernel_rfl).symm.trans hf) |>.symm
  obtain rfl : fn = Tryz.f3 := (Option.some.inj (Tryz.func3.symm.trans hfn)).symm
  refine ⟨by kernel_rfl, fun j t ht => ?_⟩
  rw [Tryz.params3] at ht
  have hm : t ∈ [22, 22] := by simpa using Array.mem_of_getElem? ht
  have hall : ([22, 22].all fun u => !Tryz.prog.wantsStandIn u) = true := by kernel_rfl
  exact (show Tryz.prog.wantsStandIn t = false by simpa using List.all_eq_true.1 hall t hm)

theorem card : Rows.DeltaDiffsUptoCardSaid :=
  Claim7.holds_tied_plain_at .later [] _ _ _ _ said (fun _ h => by cases h) (by kernel_rfl) (fun _ h => by cases h) deltaDiffsUpto_row_tie rfl ⟨rfl, rfl⟩ (by kernel_rfl) rfl plainly (by kernel_rfl)
end Go.Proofs.YtgildlfanfbebaaGreatDoor.fnDeltaDiffsUpto
namespace Go.Proofs.YtgildlfanfbebaaGreatDoor
theorem deltaDiffsUpto_card : Rows.DeltaDiffsUptoCardSaid := fnDeltaDiffsUpto.card
end Go.Proofs.YtgildlfanfbebaaGreatDoor
