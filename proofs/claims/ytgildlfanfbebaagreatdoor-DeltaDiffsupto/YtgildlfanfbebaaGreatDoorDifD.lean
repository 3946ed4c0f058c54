/- delta.Diff and delta.Back. -/
import Derived.Test.YtgildlfanfbebaaGreatDoorPlain
import Derived.Test.YtgildlfanfbebaaGreatDoorBaseO
import Derived.Laws.Tables
import Derived.Deep.RegionWith
import Derived.Test.YtgildlfanfbebaaGreatDoorUnlW

namespace Go.Proofs.YtgildlfanfbebaaGreatDoor
open Go.RowKit Go.Extern.Stop Go.Stop Go.Extern

abbrev fltV (no line at' : Int) : Value := .iface 94 (.agg #[.int .i64 no, .int .i64 line, .int .i64 at'])
theorem f_noIs (v : Value) (xT : TypeId) (w : World) : (Instr.typeAssert (.iface 94 v) xT 159 true).run Tryz.prog w = .ok (.tuple #[.nilIface, .bool false]) w := run_typeAssert_lacksB Tryz.underlying159 (by kernel_rfl) (by kernel_rfl) v xT w
theorem f_hasUnwrap (v : Value) (xT : TypeId) (w : World) : (Instr.typeAssert (.iface 94 v) xT 162 true).run Tryz.prog w = .ok (.tuple #[.iface 94 v, .bool true]) w := run_typeAssert_hasB Tryz.underlying162 (by kernel_rfl) v xT w
theorem f_methodUnwrap (v : Value) (w : World) : (Go.method 352 94 v "Unwrap").run Tryz.prog w = .ok (196, v) w := by kernel_rfl
theorem run_equalIn_iface_other {P : Program} (w : World) (d : Nat) {ti t1 t2 : TypeId} {ms : Array (String × TypeId)} (v u : Value) (hi : P.underlying ti = some (.interface ms)) (hne : t1 ≠ t2) :
    (Op.equalIn (d + 1) ti (.iface t1 v) (.iface t2 u)).run P w = .ok false w := by
  simp [Op.equalIn, run_underlying hi, hne]
theorem f_eql (v u : Value) (w : World) : (binOp .eql 30 (.iface 94 v) (.iface 77 u)).run Tryz.prog w = .ok (.bool false) w := by
  simp only [binOp]
  simp [Op.equal, Op.maxDepth, run_equalIn_iface_other w 9999 v u Tryz.underlying30 (show (94 : Nat) ≠ 77 by decide)]

set_option maxRecDepth 100000 in
set_option maxHeartbeats 2000000 in
theorem is_fault (no line at' b : Int) (r : Bool) (hab : (no == b) = r) (w : World) :
    Calls Tryz.prog 59 #[fltV no line at', .iface 77 (.int .i64 b)] w fun e w' => e = .returned (.bool r) ∧ Below w.heap.size w w' := by
  obtain ⟨i, hi, hcmp⟩ := Option.map_eq_some_iff.1 e_isComp
  have h8 := @run_callFunc_extern Tryz.prog 94 _ Extern.ReflectliteType.typeOf Tryz.func94 (by kernel_rfl) (by kernel_rfl) (by kernel_rfl) (by kernel_rfl)
  have h32 := @run_callFunc_extern Tryz.prog 203 _ cmpE Tryz.func203 (by kernel_rfl) (by kernel_rfl) (by kernel_rfl) (by kernel_rfl)
  have tT := e_isTypeOf
  have cT := e_isComparable
  have mR := e_isMethodComparable
  have fE := f_noIs
  have fU := f_hasUnwrap
  have fM := f_methodUnwrap
  have fQ := f_eql
  have nE := e_noIs
  have uE := e_noUnwrap
  have vE := e_noUnwraps
  have heq := fun W => run_eql_iface_int (P := Tryz.prog) W no b Tryz.underlying30 Tryz.underlying77 hi hcmp
  rw [hab] at heq
  clear hab
  go_enter Tryz.func59, Tryz.ntmps59
  go_wp2
  refine wp_loop_rounds 2 ?_
  rw [rounds_succ]
  go_wp2
  rw [rounds_succ]
  cases r with
  | true =>
    go_wp2
    go_ret
    exact ⟨rfl, (Below.refl _ w).alloc (Nat.le_refl _) _⟩
  | false =>
    go_wp2
    go_ret
    exact ⟨rfl, (Below.refl _ w).alloc (Nat.le_refl _) _⟩

set_option maxHeartbeats 1000000 in
theorem num_fault (a line at' : Int) (h1 : 1 ≤ a) (h2 : a ≤ 32) (w : World) : Calls Tryz.prog 29 #[fltV a line at'] w fun e w' => e = .returned (.int .i64 a) ∧ Below w.heap.size w w' := by
  go_enter Tryz.func29, Tryz.ntmps29
  go_wp2
  go_loopw [3, 4] (fun f n wr => ∃ k : Int, 1 ≤ k ∧ k ≤ 33 ∧ n = .int .i64 k ∧ f = .int .i64 (if a < k then a else 0) ∧ Below w.heap.size w wr) (fun _ n _ => (33 - intOf n).toNat)
  case atStart => exact ⟨1, by omega, by omega, rfl, by rw [if_neg (by omega)], Below.refl _ _⟩
  case round =>
    obtain ⟨k, hk1, hk2, rfl, rfl, hB⟩ := hrel
    by_cases hlt : k ≤ 32
    · rcases Int.lt_trichotomy a k with h | h | h
      · have hne : (a == k) = false := by simp; omega
        rw [if_pos h]
        go_wp2_with fail
        refine (is_fault a line at' k false hne wr).mono ?_
        rintro e w' ⟨rfl, b1⟩
        have hB1 := below_join hB b1
        go_wp2
        go_roundw
        case rel => exact ⟨k + 1, by omega, by omega, rfl, by rw [if_pos (by omega)], hB1⟩
        case measure => simp [intOf]; omega
      · subst h
        rw [if_neg (by omega)]
        go_wp2_with fail
        refine (is_fault a line at' a true (by simp) wr).mono ?_
        rintro e w' ⟨rfl, b1⟩
        have hB1 := below_join hB b1
        go_wp2
        go_roundw
        case rel => exact ⟨a + 1, by omega, by omega, rfl, by rw [if_pos (by omega)], hB1⟩
        case measure => simp [intOf]; omega
      · have hne : (a == k) = false := by simp; omega
        rw [if_neg (by omega)]
        go_wp2_with fail
        refine (is_fault a line at' k false hne wr).mono ?_
        rintro e w' ⟨rfl, b1⟩
        have hB1 := below_join hB b1
        go_wp2
        go_roundw
        case rel => exact ⟨k + 1, by omega, by omega, rfl, by rw [if_neg (by omega)], hB1⟩
        case measure => simp [intOf]; omega
    · have hne : (a == 0) = false := by simp; omega
      have hle : ¬ k ≤ 32 := hlt
      rw [if_pos (by omega)]
      go_wp2_with fail
      refine (is_fault a line at' 0 false hne wr).mono ?_
      rintro e w' ⟨rfl, b1⟩
      have hB1 := below_join hB b1
      go_wp2
      go_ret
      exact ⟨rfl, hB1⟩
end Go.Proofs.YtgildlfanfbebaaGreatDoor

namespace Go.Proofs.YtgildlfanfbebaaGreatDoor
open Go.RowKit Go.Extern.Stop Go.Stop Go.Extern

abbrev fltC (no line at' : Int) : Array Value := #[.int .i64 no, .int .i64 line, .int .i64 at']
theorem g_typeOf (v : Value) (w : World) : (Extern.ReflectliteType.typeOf #[.iface 94 v]).run Tryz.prog w = .ok (.iface 157 (.agg #[.pointer (some ⟨4, 94, none⟩)])) w := by kernel_rfl
theorem g_valueOf (no line at' : Int) (w : World) : (unpackE #[fltV no line at']).run Tryz.prog w
    = .ok (.agg #[.pointer (some ⟨4, 94, none⟩), .pointer (some ⟨w.heap.size, 0, none⟩), .int .u64 153]) (w.alloc (.cells (fltC no line at') 94)) := by kernel_rfl
theorem g_assignable (w : World) : (asgnE #[.agg #[.pointer (some ⟨4, 94, none⟩)], .iface 157 (.agg #[.pointer (some ⟨4, 94, none⟩)])]).run Tryz.prog w = .ok (.bool true) w := by kernel_rfl
theorem g_elemOf (w : World) : (Rtype.elem? 96).run Tryz.prog w = .ok (some 94) w := by kernel_rfl
theorem g_mk (p : Addr) (w : World) : (ReflectliteValue.mk 94 p ReflectliteValue.flagAddr).run Tryz.prog w = .ok (.agg #[.pointer (some ⟨4, 94, none⟩), .pointer (some p), .int .u64 409]) w := by kernel_rfl
theorem g_elemV (a p : Addr) (W : World) (ha : W.cell? a = some (.pointer (some p))) :
    (elemVE #[.agg #[.pointer (some ⟨4, 96, none⟩), .pointer (some a), .int .u64 150]]).run Tryz.prog W
      = .ok (.agg #[.pointer (some ⟨4, 94, none⟩), .pointer (some p), .int .u64 409]) W := by
  unfold elemVE
  rw [a_rlm]
  simp only [Sem.run_bind, a_parts, Result.andThen]
  simp [ReflectliteValue.elem, loadVar, isAgg, underlying, Tryz.underlying96, ha, Result.andThen, g_elemOf, g_mk]
theorem g_partsA (a : Addr) (w : World) : (ReflectliteValue.parts (.agg #[.pointer (some ⟨4, 94, none⟩), .pointer (some a), .int .u64 409])).run Tryz.prog w = .ok (some (94, a, 409)) w := by kernel_rfl
theorem g_partsB (a : Addr) (w : World) : (ReflectliteValue.parts (.agg #[.pointer (some ⟨4, 94, none⟩), .pointer (some a), .int .u64 153])).run Tryz.prog w = .ok (some (94, a, 153)) w := by kernel_rfl
theorem g_direct (w : World) : (Rtype.directlyAssignable 94 94).run Tryz.prog w = .ok true w := by kernel_rfl
theorem g_size : (Tryz.prog.info? 94).map (·.size) = some 3 := by kernel_rfl
theorem g_set (g b : Nat) (no line at' : Int) (old : Array Value) (W : World) (hb : Lies W b 94 (fltC no line at')) (ht : Lies W g 94 old) (ho : old.size = 3) :
    (setVE #[.agg #[.pointer (some ⟨4, 94, none⟩), .pointer (some ⟨g, 0, none⟩), .int .u64 409], .agg #[.pointer (some ⟨4, 94, none⟩), .pointer (some ⟨b, 0, none⟩), .int .u64 153]]).run Tryz.prog W
      = .ok (.tuple #[]) (W.setRow g (fltC no line at')) := by
  unfold setVE
  change (Bind.bind (ReflectliteValue.parts (.agg #[.pointer (some ⟨4, 94, none⟩), .pointer (some ⟨g, 0, none⟩), .int .u64 409])) fun y => Bind.bind (ReflectliteValue.parts (.agg #[.pointer (some ⟨4, 94, none⟩), .pointer (some ⟨b, 0, none⟩), .int .u64 153])) fun z => _ : Sem Value).run Tryz.prog W = _
  have hl := run_loadVar_row (P := Tryz.prog) W b 94 94 (fltC no line at') (0, 0) _ hb Tryz.underlying94 rfl g_size
  have hs := run_storeVar_row (P := Tryz.prog) W g 94 94 old (fltC no line at') ht g_size ho (by simp [Value.oneCell'])
  simp only [Sem.run_bind, g_partsA, g_partsB, Result.andThen]
  simp [ReflectliteValue.flagAddr, hl, hs, Result.andThen, g_direct]
/-- The world behind: three copies of the target's Value, one of the error, and the target set. -/
def asWF (g : Nat) (no line at' : Int) (w : World) : World := ((((w.alloc (.cells #[.pointer (some ⟨g, 0, none⟩)] 96)).alloc (.cells #[.pointer (some ⟨4, 96, none⟩), .pointer (some ⟨w.heap.size, 0, none⟩), .int .u64 150] 134)).alloc (.cells #[.pointer (some ⟨4, 96, none⟩), .pointer (some ⟨w.heap.size, 0, none⟩), .int .u64 150] 134)).alloc (.cells (fltC no line at') 94)).setRow g (fltC no line at')

set_option maxRecDepth 100000 in
set_option maxHeartbeats 4000000 in
theorem as_hitF (no line at' : Int) (g : Nat) (old : Array Value) (w : World) (hg : w.cell? ⟨0, 0, none⟩ = some (.iface 157 (.agg #[.pointer (some ⟨4, 30, none⟩)]))) (ht0 : Lies w g 94 old) (ho : old.size = 3) :
    Calls Tryz.prog 64 #[fltV no line at', .iface 96 (.pointer (some ⟨g, 0, none⟩))] w fun ev w' => ev = .returned (.bool true) ∧ w' = asWF g no line at' w := by
  have h6 := @run_callFunc_extern Tryz.prog 99 _ unpackE Tryz.func99 (by kernel_rfl) (by kernel_rfl) (by kernel_rfl) (by kernel_rfl)
  have h7 := @run_callFunc_extern Tryz.prog 100 _ typeE Tryz.func100 (by kernel_rfl) (by kernel_rfl) (by kernel_rfl) (by kernel_rfl)
  have h8 := @run_callFunc_extern Tryz.prog 101 _ isNilE Tryz.func101 (by kernel_rfl) (by kernel_rfl) (by kernel_rfl) (by kernel_rfl)
  have h27 := @run_callFunc_extern Tryz.prog 190 _ kindE Tryz.func190 (by kernel_rfl) (by kernel_rfl) (by kernel_rfl) (by kernel_rfl)
  have h37 := @run_callFunc_extern Tryz.prog 204 _ elemE Tryz.func204 (by kernel_rfl) (by kernel_rfl) (by kernel_rfl) (by kernel_rfl)
  have h38 := @run_callFunc_extern Tryz.prog 205 _ implE Tryz.func205 (by kernel_rfl) (by kernel_rfl) (by kernel_rfl) (by kernel_rfl)
  have h10 := @run_callFunc_extern Tryz.prog 94 _ ReflectliteType.typeOf Tryz.func94 (by kernel_rfl) (by kernel_rfl) (by kernel_rfl) (by kernel_rfl)
  have h35 := @run_callFunc_extern Tryz.prog 202 _ asgnE Tryz.func202 (by kernel_rfl) (by kernel_rfl) (by kernel_rfl) (by kernel_rfl)
  have h11 := @run_callFunc_extern Tryz.prog 122 _ elemVE Tryz.func122 (by kernel_rfl) (by kernel_rfl) (by kernel_rfl) (by kernel_rfl)
  have h12 := @run_callFunc_extern Tryz.prog 123 _ setVE Tryz.func123 (by kernel_rfl) (by kernel_rfl) (by kernel_rfl) (by kernel_rfl)
  have tO := g_typeOf
  have mA := a_methodAssignableTo
  have aF := g_assignable
  have vE := g_valueOf
  have f6 := a_valueOf
  have f7 := a_type
  have mK := a_methodKind
  have mE := a_methodElem
  have mI := a_methodImplements
  have kP := a_kindP
  have kF := a_kindF
  have eP := a_elem
  have iF := a_implements
  have n8 := a_isNil ⟨w.heap.size, 0, none⟩ ⟨g, 0, none⟩ ((w.alloc (.cells #[.pointer (some ⟨g, 0, none⟩)] 96)).alloc (.cells #[.pointer (some ⟨4, 96, none⟩), .pointer (some ⟨w.heap.size, 0, none⟩), .int .u64 150] 134)) (by simp)
  have hlt : 0 < w.heap.size := by
    rcases Nat.lt_or_ge 0 w.heap.size with h | h
    · exact h
    · simp [World.cell?, Array.getElem?_eq_none h] at hg
  have hg2 : ((w.alloc (.cells #[.pointer (some ⟨g, 0, none⟩)] 96)).alloc (.cells #[.pointer (some ⟨4, 96, none⟩), .pointer (some ⟨w.heap.size, 0, none⟩), .int .u64 150] 134)).cell? ⟨0, 0, none⟩ = some (.iface 157 (.agg #[.pointer (some ⟨4, 30, none⟩)])) := by
    rw [World.cell?_alloc_lt _ _ ⟨0, 0, none⟩ (by simp <;> omega), World.cell?_alloc_lt _ _ ⟨0, 0, none⟩ hlt]; exact hg
  have htl : g < w.heap.size := ht0.lt
  have el := g_elemV ⟨w.heap.size, 0, none⟩ ⟨g, 0, none⟩ (((w.alloc (.cells #[.pointer (some ⟨g, 0, none⟩)] 96)).alloc (.cells #[.pointer (some ⟨4, 96, none⟩), .pointer (some ⟨w.heap.size, 0, none⟩), .int .u64 150] 134)).alloc (.cells #[.pointer (some ⟨4, 96, none⟩), .pointer (some ⟨w.heap.size, 0, none⟩), .int .u64 150] 134)) (by rw [World.cell?_alloc_lt _ _ _ (by simp; omega), World.cell?_alloc_lt _ _ _ (by simp)]; rw [World.cell?_alloc_at _ _ _ _ (by simp)]; rfl)
  have st := g_set g (w.heap.size + 1 + 1 + 1) no line at' old ((((w.alloc (.cells #[.pointer (some ⟨g, 0, none⟩)] 96)).alloc (.cells #[.pointer (some ⟨4, 96, none⟩), .pointer (some ⟨w.heap.size, 0, none⟩), .int .u64 150] 134)).alloc (.cells #[.pointer (some ⟨4, 96, none⟩), .pointer (some ⟨w.heap.size, 0, none⟩), .int .u64 150] 134)).alloc (.cells (fltC no line at') 94))
    (by have h := Lies.new (((w.alloc (.cells #[.pointer (some ⟨g, 0, none⟩)] 96)).alloc (.cells #[.pointer (some ⟨4, 96, none⟩), .pointer (some ⟨w.heap.size, 0, none⟩), .int .u64 150] 134)).alloc (.cells #[.pointer (some ⟨4, 96, none⟩), .pointer (some ⟨w.heap.size, 0, none⟩), .int .u64 150] 134)) 94 (fltC no line at'); simpa only [World.size_alloc] using h)
    ((((ht0.alloc _).alloc _).alloc _).alloc _) ho
  go_enter Tryz.func64, Tryz.ntmps64
  go_wp2
  refine wp_loop_rounds 1 ?_
  rw [rounds_succ]
  go_wp2
  go_ret
  exact ⟨rfl, rfl⟩
end Go.Proofs.YtgildlfanfbebaaGreatDoor

namespace Go.Proofs.YtgildlfanfbebaaGreatDoor
open Go.RowKit Go.Extern.Stop Go.Stop Go.Extern

theorem below_drawn {B : Nat} {a w : World} (h : Below B a w) (n : Nat) : Below B a (w.drewN n) := h.trans ⟨rfl, rfl, rfl, Nat.le_refl _, fun _ _ => rfl⟩
theorem asWF_lies (g : Nat) (no line at' : Int) (old : Array Value) (w : World) (h : Lies w g 94 old) : Lies (asWF g no line at' w) g 94 (fltC no line at') := ((((h.alloc _).alloc _).alloc _).alloc _).row _
theorem asWF_below (g B : Nat) (no line at' : Int) (w w0 : World) (hb : Below B w0 w) (hB : B ≤ g) (hB2 : B ≤ w.heap.size) : Below B w0 (asWF g no line at' w) :=
  below_setRow ((((hb.alloc hB2 _).alloc (by simp; omega) _).alloc (by simp; omega) _).alloc (by simp; omega) _) hB _
set_option maxRecDepth 100000 in
set_option maxHeartbeats 2000000 in
theorem place_p (no line at' : Int) (h1 : 1 ≤ no) (h2 : no ≤ 32) (w : World) (he : ErrType w) : Calls Tryz.prog 68 #[fltV no line at'] w fun e w' => e = .returned (.tuple #[.int .i64 line, .int .i64 at', .bool true]) ∧ Below w.heap.size w w' := by
  have B0 : Below w.heap.size w (w.alloc (.cells (fltC 0 0 0) 94)) := (Below.refl _ w).alloc (Nat.le_refl _) _
  have L0 : Lies (w.alloc (.cells (fltC 0 0 0) 94)) w.heap.size 94 (fltC 0 0 0) := Lies.new _ _ _
  have hE := he.below B0
  have L1 := asWF_lies w.heap.size no line at' _ _ L0
  have B1 := asWF_below w.heap.size w.heap.size no line at' _ _ B0 (Nat.le_refl _) (by simp)
  have hA := as_hitF no line at' w.heap.size (fltC 0 0 0) (w.alloc (.cells (fltC 0 0 0) 94)) hE L0 rfl
  have hnn : (no == no) = true := by simp
  go_enter Tryz.func68, Tryz.ntmps68
  go_wp2_with fail
  refine hA.mono ?_
  rintro e w1 ⟨rfl, hw1⟩
  rw [← hw1] at L1 B1
  clear hw1 hA L0 B0 hE
  have c0 : w1.cell? ⟨w.heap.size, 0, none⟩ = some (.int .i64 no) := L1.cell rfl
  have c1 : w1.cell? ⟨w.heap.size, 1, none⟩ = some (.int .i64 line) := L1.cell rfl
  have c2 : w1.cell? ⟨w.heap.size, 2, none⟩ = some (.int .i64 at') := L1.cell rfl
  have hlt := L1.lt
  have hN := num_fault no line at' h1 h2 w1.drew
  have BD : Below w.heap.size w w1.drew := below_drawn B1 1
  have HF : Hid (∀ w2, Below w1.drew.heap.size w1.drew w2 → w2.cell? ⟨w.heap.size, 0, none⟩ = some (.int .i64 no) ∧ w2.cell? ⟨w.heap.size, 1, none⟩ = some (.int .i64 line) ∧ w2.cell? ⟨w.heap.size, 2, none⟩ = some (.int .i64 at') ∧ Below w.heap.size w w2) := by
    intro w2 b2
    have L2 := (L1.drew 1).below b2
    exact ⟨L2.cell rfl, L2.cell rfl, L2.cell rfl, below_join BD b2⟩
  clear L1 B1 BD
  go_wp2
  go_region_with (first | (go_at_call 29; refine hN.mono ?_; rintro e w2 ⟨rfl, b2⟩; obtain ⟨k0, k1, k2, k3⟩ := HF.out w2 b2))
  all_goals go_wp2
  all_goals go_ret3
  all_goals exact ⟨rfl, k3⟩

set_option maxRecDepth 100000 in
set_option maxHeartbeats 2000000 in
theorem kitAt_p (no line at' : Int) (h1 : 1 ≤ no) (h2 : no ≤ 32) (w : World) (he : ErrType w) : Calls Tryz.prog 35 #[fltV no line at', .int .i64 no, .int .i64 line, .int .i64 at'] w fun e w' => e = .returned (.bool true) ∧ Below w.heap.size w w' := by
  have e1 : (no == no) = true := by simp
  have e2 : (line == line) = true := by simp
  have e3 : (at' == at') = true := by simp
  have e0 : ¬ no = 0 := by omega
  go_enter Tryz.func35, Tryz.ntmps35
  go_wp2_with fail
  refine (place_p no line at' h1 h2 w he).mono ?_
  rintro e w1 ⟨rfl, B1⟩
  go_wp2_with fail
  refine (num_fault no line at' h1 h2 w1).mono ?_
  rintro e w2 ⟨rfl, b2⟩
  have B2 := below_join B1 b2
  go_wp2
  go_ret
  exact ⟨rfl, B2⟩
end Go.Proofs.YtgildlfanfbebaaGreatDoor

namespace Go.Proofs.YtgildlfanfbebaaGreatDoor
open Go Go.RowKit Go.Shelf

set_option maxRecDepth 100000 in
set_option maxHeartbeats 2000000 in
theorem ofSecond_p (no at' : Int) (w : World) (he : ErrType w) : Calls Tryz.prog 33 #[fltA no at'] w fun e w' => e = .returned (fltL no 1 at') ∧ Below w.heap.size w w' := by
  have B0 : Below w.heap.size w (w.alloc (.cells (fltC 0 0 0) 94)) := (Below.refl _ w).alloc (Nat.le_refl _) _
  have L0 : Lies (w.alloc (.cells (fltC 0 0 0) 94)) w.heap.size 94 (fltC 0 0 0) := Lies.new _ _ _
  have hE := he.below B0
  have L1 := asWF_lies w.heap.size no 0 at' _ _ L0
  have B1 := asWF_below w.heap.size w.heap.size no 0 at' _ _ B0 (Nat.le_refl _) (by simp)
  have hA := as_hitF no 0 at' w.heap.size (fltC 0 0 0) (w.alloc (.cells (fltC 0 0 0) 94)) hE L0 rfl
  unfold fltA
  go_enter Tryz.func33, Tryz.ntmps33
  go_wp2_with fail
  refine hA.mono ?_
  rintro e w1 ⟨rfl, hw1⟩
  rw [← hw1] at L1 B1
  clear hw1 hA L0 B0 hE
  have c0 : w1.cell? ⟨w.heap.size, 0, none⟩ = some (.int .i64 no) := L1.cell rfl
  have c1 : w1.cell? ⟨w.heap.size, 1, none⟩ = some (.int .i64 0) := L1.cell rfl
  have c2 : w1.cell? ⟨w.heap.size, 2, none⟩ = some (.int .i64 at') := L1.cell rfl
  have f1 := L1.frozen 1
  go_wp2
  go_ret
  exact ⟨rfl, B1.setCell (p := ⟨w.heap.size, 1, none⟩) (Nat.le_refl _) _⟩
/-- What Diff answers. -/
def diffR (a b : List Ent) : (Int × Int × Int) × List Chg :=
  if (checkGo [] a).1 ≠ 0 then (((checkGo [] a).1, (0 : Int), ((checkGo [] a).2 : Int)), ([] : List Chg)) else if (checkGo [] b).1 ≠ 0 then (((checkGo [] b).1, (1 : Int), ((checkGo [] b).2 : Int)), ([] : List Chg)) else ((0, 0, 0), unlikeL a b)
def DiffPost (r : (Int × Int × Int) × List Chg) (w : World) (e : Ending) (w' : World) : Prop :=
  ∃ u, e = .returned (.tuple #[u, errF r.1]) ∧ w'.ownsRow w.heap.size 54 7 u r.2.length (ccells r.2) ∧ Below w.heap.size w w'
theorem tree_paths {t : List Ent} (h : (checkGo [] t).1 = 0) : ∀ e ∈ t, e.path.size ≤ 255 := fun e he => (check_facts (wrong_check ((tree_tr h).right e he))).2.1
set_option maxRecDepth 100000 in
set_option maxHeartbeats 2000000 in
theorem diff_d (u v : Value) (a b : List Ent) (w : World) (hg : ErrType w) (hu : EntsAt w u a) (hv : EntsAt w v b) (hla : a.length ≤ 4611686018427387904) (hlb : b.length ≤ 4611686018427387904) (hpa : ∀ e ∈ a, e.path.size < 1152921504606846976) (hpb : ∀ e ∈ b, e.path.size < 1152921504606846976) :
    Calls Tryz.prog 11 #[u, v] w (DiffPost (diffR a b) w) := by
  have hCa := check_t u a w hg hu hla hpa
  by_cases ha : (checkGo [] a).1 = 0
  · have HV : Hid (chkV a = .nilIface) := if_pos ha
    rw [HV.out] at hCa
    have hCb := fun W (hb : Below w.heap.size w W) => check_t v b W (hg.below hb) (hv.below hb) hlb hpb
    by_cases hb : (checkGo [] b).1 = 0
    · have HV2 : Hid (chkV b = .nilIface) := if_pos hb
      rw [HV2.out] at hCb
      have HR : Hid (diffR a b = ((0, 0, 0), unlikeL a b)) := by unfold Hid diffR; rw [if_neg (by simpa using ha), if_neg (by simpa using hb)]
      have hU := fun W (hbw : Below w.heap.size w W) => unlike_p u v a b W (hu.below hbw) (hv.below hbw) (fun e he => by
        rcases List.mem_append.1 he with h | h
        · have := tree_paths ha e h; omega
        · have := tree_paths hb e h; omega) (by have := (tree_few ha).1; omega) (by have := (tree_few hb).1; omega)
      clear ha hb hu hv hpa hpb
      go_enter Tryz.func11, Tryz.ntmps11
      go_wp2_with fail
      refine hCa.mono ?_
      rintro e w1 ⟨rfl, h1⟩
      go_wp2_with fail
      refine (hCb _ h1).mono ?_
      rintro e w2 ⟨rfl, h2⟩
      go_wp2_with fail
      refine (hU _ (below_join h1 h2)).mono ?_
      rintro e w3 ⟨r, rfl, h3, h4⟩
      go_wp2
      go_ret2
      have hB := below_join h1 h2
      refine ⟨r, by rw [HR.out]; rfl, ?_, below_join hB h4⟩
      rw [HR.out]
      refine ⟨h3.1, ?_⟩
      have := hB.size
      rcases h3.2 with hn | ⟨g, cap, cur, e1, e2, rest⟩
      · exact .inl hn
      · exact .inr ⟨g, cap, cur, e1, by omega, rest⟩
    · have HV2 : Hid (chkV b = fltA (checkGo [] b).1 (checkGo [] b).2) := if_neg hb
      rw [HV2.out] at hCb
      have HR : Hid (diffR a b = (((checkGo [] b).1, (1 : Int), ((checkGo [] b).2 : Int)), ([] : List Chg)) ∧ (checkGo [] b).1 ≠ 0) := ⟨by unfold diffR; rw [if_neg (by simpa using ha), if_pos hb], hb⟩
      have hO := fun W (hbw : Below w.heap.size w W) => ofSecond_p (checkGo [] b).1 (checkGo [] b).2 W (hg.below hbw)
      unfold fltA at hCb hO
      clear ha hb hu hv hpa hpb
      generalize ((checkGo [] b).2 : Int) = at' at *
      generalize (checkGo [] b).1 = no at *
      go_enter Tryz.func11, Tryz.ntmps11
      go_wp2_with fail
      refine hCa.mono ?_
      rintro e w1 ⟨rfl, h1⟩
      go_wp2_with fail
      refine (hCb _ h1).mono ?_
      rintro e w2 ⟨rfl, h2⟩
      go_wp2_with fail
      refine (hO _ (below_join h1 h2)).mono ?_
      rintro e w3 ⟨rfl, h3⟩
      go_wp2
      go_ret2
      refine ⟨.slice none 0 0, ?_, ?_, below_join (below_join h1 h2) h3⟩
      · rw [HR.out.1]; unfold errF; rw [if_neg HR.out.2]; rfl
      · rw [HR.out.1]; exact World.ownsRow_nil _ _ _ _
  · have HV : Hid (chkV a = fltA (checkGo [] a).1 (checkGo [] a).2) := if_neg ha
    rw [HV.out] at hCa
    have HR : Hid (diffR a b = (((checkGo [] a).1, (0 : Int), ((checkGo [] a).2 : Int)), ([] : List Chg)) ∧ (checkGo [] a).1 ≠ 0) := ⟨by unfold diffR; rw [if_pos ha], ha⟩
    unfold fltA at hCa
    clear ha hu hv hpa hpb
    go_enter Tryz.func11, Tryz.ntmps11
    go_wp2_with fail
    refine hCa.mono ?_
    rintro e w1 ⟨rfl, h1⟩
    go_wp2
    go_ret2
    refine ⟨.slice none 0 0, ?_, ?_, h1⟩
    · rw [HR.out.1]; unfold errF; rw [if_neg HR.out.2]; rfl
    · rw [HR.out.1]; exact World.ownsRow_nil _ _ _ _
/-- What Back answers. -/
def backR (t : List Ent) (l : List Chg) : (Int × Int × Int) × List Chg := if (applyR t l).1.1 ≠ 0 then ((applyR t l).1, []) else ((0, 0, 0), unlikeL (applyR t l).2 t)
theorem apply_facts : ∀ (l : List Chg) (L : List Ent) (k : Nat), (∀ e ∈ L, wrongN e = 0) → (applyGo L l k).1.1 = 0 → (∀ e ∈ (applyGo L l k).2, wrongN e = 0) ∧ overB (applyGo L l k).2 = false
  | [], L, k, hw, h => by
    rw [applyGo] at h ⊢
    split at h
    · simp at h
    · rename_i ho
      rw [if_neg ho]
      exact ⟨hw, by simpa using ho⟩
  | c :: l, L, k, hw, h => by
    rw [applyGo] at h ⊢
    split at h
    · rename_i hd; exact absurd h hd
    · rename_i hd
      rw [if_neg hd]
      refine apply_facts l _ _ (fun e he => ?_) h
      unfold doL at he
      split at he
      · exact hw e (List.mem_filter.1 he).1
      · rcases laid_mem.1 he with rfl | ⟨h9, _⟩
        · rename_i hg
          unfold doN at hd
          rw [if_neg hg] at hd
          split at hd
          · simp at hd
          · split at hd
            · rename_i h1; exact absurd (by simpa using hd) h1
            · rename_i h1; simpa using h1
        · exact hw e h9
theorem over_len {L : List Ent} (h : overB L = false) : L.length ≤ 4096 ∧ bytesL L ≤ 16777216 := by
  unfold overB at h
  simp at h
  omega
theorem applyR_facts {t : List Ent} {l : List Chg} (h : (applyR t l).1.1 = 0) : (checkGo [] t).1 = 0 ∧ applyR t l = applyGo t l 0 ∧ (∀ e ∈ (applyR t l).2, wrongN e = 0) ∧ (applyR t l).2.length ≤ 4096 ∧ bytesL (applyR t l).2 ≤ 16777216 := by
  by_cases hc : (checkGo [] t).1 = 0
  · have he : applyR t l = applyGo t l 0 := if_neg (by simpa using hc)
    rw [he] at h
    obtain ⟨h1, h2⟩ := apply_facts l t 0 (tree_tr hc).right h
    rw [he]
    exact ⟨hc, rfl, h1, over_len h2⟩
  · have he : applyR t l = (((checkGo [] t).1, (0 : Int), ((checkGo [] t).2 : Int)), ([] : List Ent)) := if_pos hc
    rw [he] at h
    exact absurd h hc
set_option maxRecDepth 100000 in
set_option maxHeartbeats 2000000 in
theorem back_d (v cv : Value) (t : List Ent) (l : List Chg) (w : World) (hg : ErrType w) (hv : EntsAt w v t) (hcv : ChgsAt w cv l) (hlt : t.length ≤ 4611686018427387904) (hl : l.length ≤ 1700000000000) (hp : ∀ e ∈ t, e.path.size < 1152921504606846976) (hcp : ∀ c ∈ l, c.path.size < 1152921504606846976 ∧ c.e.path.size < 1152921504606846976) :
    Calls Tryz.prog 24 #[v, cv] w (DiffPost (backR t l) w) := by
  have hA := apply_d v cv t l w hg hv hcv hlt hl hp hcp
  by_cases hz : (applyR t l).1.1 = 0
  · obtain ⟨hc, _, hw, hfew, _⟩ := applyR_facts hz
    have HR : Hid (backR t l = ((0, 0, 0), unlikeL (applyR t l).2 t) ∧ errF (applyR t l).1 = .nilIface) := ⟨if_neg (by simpa using hz), if_pos hz⟩
    have hU := fun u W (hbw : Below w.heap.size w W) (hu : EntsAt W u (applyR t l).2) => unlike_p u v (applyR t l).2 t W hu (hv.below hbw) (fun e he => by
      rcases List.mem_append.1 he with h | h
      · have := (check_facts (wrong_check (hw e h))).2.1; omega
      · have := tree_paths hc e h; omega) (by omega) (by have := (tree_few hc).1; omega)
    clear hz hc hw hfew hv hcv hp hcp
    go_enter Tryz.func24, Tryz.ntmps24
    go_wp2_with fail
    refine hA.mono ?_
    rintro e w1 ⟨u, rfl, h1, hb1⟩
    rw [HR.out.2]
    go_wp2_with fail
    refine (hU u _ hb1 (ents_of_owns h1)).mono ?_
    rintro e w3 ⟨r, rfl, h3, h4⟩
    go_wp2
    go_ret2
    refine ⟨r, by rw [HR.out.1]; rfl, ?_, below_join hb1 h4⟩
    rw [HR.out.1]
    refine ⟨h3.1, ?_⟩
    have := hb1.size
    rcases h3.2 with hn | ⟨g, cap, cur, e1, e2, rest⟩
    · exact .inl hn
    · exact .inr ⟨g, cap, cur, e1, by omega, rest⟩
  · have HR : Hid (backR t l = ((applyR t l).1, []) ∧ errF (applyR t l).1 = fltL (applyR t l).1.1 (applyR t l).1.2.1 (applyR t l).1.2.2) := ⟨if_pos hz, if_neg hz⟩
    clear hz hv hcv hp hcp
    go_enter Tryz.func24, Tryz.ntmps24
    go_wp2_with fail
    refine hA.mono ?_
    rintro e w1 ⟨u, rfl, h1, hb1⟩
    rw [HR.out.2]
    unfold fltL
    go_wp2
    go_ret2
    refine ⟨.slice none 0 0, ?_, ?_, hb1⟩
    · rw [HR.out.1, HR.out.2]; rfl
    · rw [HR.out.1]; exact World.ownsRow_nil _ _ _ _
end Go.Proofs.YtgildlfanfbebaaGreatDoor
