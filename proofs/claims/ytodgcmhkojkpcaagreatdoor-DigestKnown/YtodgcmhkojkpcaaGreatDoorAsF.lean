/- errors.As at an error that tells a place and a target of that type: it is true, and the target holds it; the kit's Place and At. -/
import Derived.Test.YtodgcmhkojkpcaaGreatDoorPlain
import Derived.Test.YtodgcmhkojkpcaaGreatDoorBytes
import Derived.Laws.Tables

namespace Go.Proofs.YtodgcmhkojkpcaaGreatDoor
open Go.RowKit Go.Extern.Stop Go.Stop Go.Extern

abbrev fltV (no line at' : Int) : Value := .iface 90 (.agg #[.int .i64 no, .int .i64 line, .int .i64 at'])
theorem f_noIs (v : Value) (xT : TypeId) (w : World) : (Instr.typeAssert (.iface 90 v) xT 151 true).run Tryz.prog w = .ok (.tuple #[.nilIface, .bool false]) w := run_typeAssert_lacksB Tryz.underlying151 (by kernel_rfl) (by kernel_rfl) v xT w
theorem f_hasUnwrap (v : Value) (xT : TypeId) (w : World) : (Instr.typeAssert (.iface 90 v) xT 141 true).run Tryz.prog w = .ok (.tuple #[.iface 90 v, .bool true]) w := run_typeAssert_hasB Tryz.underlying141 (by kernel_rfl) v xT w
theorem f_methodUnwrap (v : Value) (w : World) : (Go.method 287 90 v "Unwrap").run Tryz.prog w = .ok (124, v) w := by kernel_rfl
theorem run_equalIn_iface_other {P : Program} (w : World) (d : Nat) {ti t1 t2 : TypeId} {ms : Array (String × TypeId)} (v u : Value) (hi : P.underlying ti = some (.interface ms)) (hne : t1 ≠ t2) :
    (Op.equalIn (d + 1) ti (.iface t1 v) (.iface t2 u)).run P w = .ok false w := by
  simp [Op.equalIn, run_underlying hi, hne]
theorem f_eql (v u : Value) (w : World) : (binOp .eql 46 (.iface 90 v) (.iface 88 u)).run Tryz.prog w = .ok (.bool false) w := by
  simp only [binOp]
  simp [Op.equal, Op.maxDepth, run_equalIn_iface_other w 9999 v u Tryz.underlying46 (show (90 : Nat) ≠ 88 by decide)]

set_option maxRecDepth 100000 in
set_option maxHeartbeats 2000000 in
theorem is_fault (no line at' b : Int) (r : Bool) (hab : (no == b) = r) (w : World) :
    Calls Tryz.prog 75 #[fltV no line at', .iface 88 (.int .i64 b)] w fun e w' => e = .returned (.bool r) ∧ Below w.heap.size w w' := by
  obtain ⟨i, hi, hcmp⟩ := Option.map_eq_some_iff.1 e_isComp
  have h8 := @run_callFunc_extern Tryz.prog 88 _ Extern.ReflectliteType.typeOf Tryz.func88 (by kernel_rfl) (by kernel_rfl) (by kernel_rfl) (by kernel_rfl)
  have h32 := @run_callFunc_extern Tryz.prog 130 _ cmpE Tryz.func130 (by kernel_rfl) (by kernel_rfl) (by kernel_rfl) (by kernel_rfl)
  have tT := e_isTypeOf
  have cT := e_isComparable
  have mR := e_isMethodComparable
  have fE := f_noIs
  have fU := f_hasUnwrap
  have fM := f_methodUnwrap
  have fQ := f_eql
  have nE := e_noIs
  have uE := e_noUnwrap
  have vE := e_noUnwraps
  have heq := fun W => run_eql_iface_int (P := Tryz.prog) W no b Tryz.underlying46 Tryz.underlying88 hi hcmp
  rw [hab] at heq
  clear hab
  go_enter Tryz.func75, Tryz.ntmps75
  go_wp2
  refine wp_loop_rounds 2 ?_
  rw [rounds_succ]
  go_wp2
  rw [rounds_succ]
  cases r with
  | true =>
    go_wp2
    go_ret
    exact ⟨rfl, (Below.refl _ w).alloc (Nat.le_refl _) _⟩
  | false =>
    go_wp2
    go_ret
    exact ⟨rfl, (Below.refl _ w).alloc (Nat.le_refl _) _⟩

set_option maxHeartbeats 1000000 in
theorem num_fault (a line at' : Int) (h1 : 1 ≤ a) (h2 : a ≤ 32) (w : World) : Calls Tryz.prog 59 #[fltV a line at'] w fun e w' => e = .returned (.int .i64 a) ∧ Below w.heap.size w w' := by
  go_enter Tryz.func59, Tryz.ntmps59
  go_wp2
  go_loopw [3, 4] (fun f n wr => ∃ k : Int, 1 ≤ k ∧ k ≤ 33 ∧ n = .int .i64 k ∧ f = .int .i64 (if a < k then a else 0) ∧ Below w.heap.size w wr) (fun _ n _ => (33 - intOf n).toNat)
  case atStart => exact ⟨1, by omega, by omega, rfl, by rw [if_neg (by omega)], Below.refl _ _⟩
  case round =>
    obtain ⟨k, hk1, hk2, rfl, rfl, hB⟩ := hrel
    by_cases hlt : k ≤ 32
    · rcases Int.lt_trichotomy a k with h | h | h
      · have hne : (a == k) = false := by simp; omega
        rw [if_pos h]
        go_wp2_with fail
        refine (is_fault a line at' k false hne wr).mono ?_
        rintro e w' ⟨rfl, b1⟩
        have hB1 := below_join hB b1
        go_wp2
        go_roundw
        case rel => exact ⟨k + 1, by omega, by omega, rfl, by rw [if_pos (by omega)], hB1⟩
        case measure => simp [intOf]; omega
      · subst h
        rw [if_neg (by omega)]
        go_wp2_with fail
        refine (is_fault a line at' a true (by simp) wr).mono ?_
        rintro e w' ⟨rfl, b1⟩
        have hB1 := below_join hB b1
        go_wp2
        go_roundw
        case rel => exact ⟨a + 1, by omega, by omega, rfl, by rw [if_pos (by omega)], hB1⟩
        case measure => simp [intOf]; omega
      · have hne : (a == k) = false := by simp; omega
        rw [if_neg (by omega)]
        go_wp2_with fail
        refine (is_fault a line at' k false hne wr).mono ?_
        rintro e w' ⟨rfl, b1⟩
        have hB1 := below_join hB b1
        go_wp2
        go_roundw
        case rel => exact ⟨k + 1, by omega, by omega, rfl, by rw [if_neg (by omega)], hB1⟩
        case measure => simp [intOf]; omega
    · have hne : (a == 0) = false := by simp; omega
      have hle : ¬ k ≤ 32 := hlt
      rw [if_pos (by omega)]
      go_wp2_with fail
      refine (is_fault a line at' 0 false hne wr).mono ?_
      rintro e w' ⟨rfl, b1⟩
      have hB1 := below_join hB b1
      go_wp2
      go_ret
      exact ⟨rfl, hB1⟩
end Go.Proofs.YtodgcmhkojkpcaaGreatDoor

namespace Go.Proofs.YtodgcmhkojkpcaaGreatDoor
open Go.RowKit Go.Extern.Stop Go.Stop Go.Extern

def elemVE : Array Value → Sem Value := ReflectliteValue.method (ReflectliteValue.valueError "reflectlite.Value.Elem" 0) ReflectliteValue.elem
def setVE : Array Value → Sem Value := ReflectliteValue.set
abbrev fltC (no line at' : Int) : Array Value := #[.int .i64 no, .int .i64 line, .int .i64 at']
theorem g_typeOf (v : Value) (w : World) : (Extern.ReflectliteType.typeOf #[.iface 90 v]).run Tryz.prog w = .ok (.iface 134 (.agg #[.pointer (some ⟨8, 90, none⟩)])) w := by kernel_rfl
theorem g_valueOf (no line at' : Int) (w : World) : (unpackE #[fltV no line at']).run Tryz.prog w
    = .ok (.agg #[.pointer (some ⟨8, 90, none⟩), .pointer (some ⟨w.heap.size, 0, none⟩), .int .u64 153]) (w.alloc (.cells (fltC no line at') 90)) := by kernel_rfl
theorem g_assignable (w : World) : (asgnE #[.agg #[.pointer (some ⟨8, 90, none⟩)], .iface 134 (.agg #[.pointer (some ⟨8, 90, none⟩)])]).run Tryz.prog w = .ok (.bool true) w := by kernel_rfl
theorem g_elemOf (w : World) : (Rtype.elem? 101).run Tryz.prog w = .ok (some 90) w := by kernel_rfl
theorem g_mk (p : Addr) (w : World) : (ReflectliteValue.mk 90 p ReflectliteValue.flagAddr).run Tryz.prog w = .ok (.agg #[.pointer (some ⟨8, 90, none⟩), .pointer (some p), .int .u64 409]) w := by kernel_rfl
theorem g_elemV (a p : Addr) (W : World) (ha : W.cell? a = some (.pointer (some p))) :
    (elemVE #[.agg #[.pointer (some ⟨8, 101, none⟩), .pointer (some a), .int .u64 150]]).run Tryz.prog W
      = .ok (.agg #[.pointer (some ⟨8, 90, none⟩), .pointer (some p), .int .u64 409]) W := by
  unfold elemVE
  rw [a_rlm]
  simp only [Sem.run_bind, a_parts, Result.andThen]
  simp [ReflectliteValue.elem, loadVar, isAgg, underlying, Tryz.underlying101, ha, Result.andThen, g_elemOf, g_mk]
theorem g_partsA (a : Addr) (w : World) : (ReflectliteValue.parts (.agg #[.pointer (some ⟨8, 90, none⟩), .pointer (some a), .int .u64 409])).run Tryz.prog w = .ok (some (90, a, 409)) w := by kernel_rfl
theorem g_partsB (a : Addr) (w : World) : (ReflectliteValue.parts (.agg #[.pointer (some ⟨8, 90, none⟩), .pointer (some a), .int .u64 153])).run Tryz.prog w = .ok (some (90, a, 153)) w := by kernel_rfl
theorem g_direct (w : World) : (Rtype.directlyAssignable 90 90).run Tryz.prog w = .ok true w := by kernel_rfl
theorem g_size : (Tryz.prog.info? 90).map (·.size) = some 3 := by kernel_rfl
theorem g_set (g b : Nat) (no line at' : Int) (old : Array Value) (W : World) (hb : Lies W b 90 (fltC no line at')) (ht : Lies W g 90 old) (ho : old.size = 3) :
    (setVE #[.agg #[.pointer (some ⟨8, 90, none⟩), .pointer (some ⟨g, 0, none⟩), .int .u64 409], .agg #[.pointer (some ⟨8, 90, none⟩), .pointer (some ⟨b, 0, none⟩), .int .u64 153]]).run Tryz.prog W
      = .ok (.tuple #[]) (W.setRow g (fltC no line at')) := by
  unfold setVE
  change (Bind.bind (ReflectliteValue.parts (.agg #[.pointer (some ⟨8, 90, none⟩), .pointer (some ⟨g, 0, none⟩), .int .u64 409])) fun y => Bind.bind (ReflectliteValue.parts (.agg #[.pointer (some ⟨8, 90, none⟩), .pointer (some ⟨b, 0, none⟩), .int .u64 153])) fun z => _ : Sem Value).run Tryz.prog W = _
  have hl := run_loadVar_row (P := Tryz.prog) W b 90 90 (fltC no line at') (0, 0) _ hb Tryz.underlying90 rfl g_size
  have hs := run_storeVar_row (P := Tryz.prog) W g 90 90 old (fltC no line at') ht g_size ho (by simp [Value.oneCell'])
  simp only [Sem.run_bind, g_partsA, g_partsB, Result.andThen]
  simp [ReflectliteValue.flagAddr, hl, hs, Result.andThen, g_direct]
/-- The world behind: three copies of the target's Value, one of the error, and the target set. -/
def asWF (g : Nat) (no line at' : Int) (w : World) : World := ((((w.alloc (.cells #[.pointer (some ⟨g, 0, none⟩)] 101)).alloc (.cells #[.pointer (some ⟨8, 101, none⟩), .pointer (some ⟨w.heap.size, 0, none⟩), .int .u64 150] 120)).alloc (.cells #[.pointer (some ⟨8, 101, none⟩), .pointer (some ⟨w.heap.size, 0, none⟩), .int .u64 150] 120)).alloc (.cells (fltC no line at') 90)).setRow g (fltC no line at')

set_option maxRecDepth 100000 in
set_option maxHeartbeats 4000000 in
theorem as_hitF (no line at' : Int) (g : Nat) (old : Array Value) (w : World) (hg : w.cell? ⟨3, 0, none⟩ = some (.iface 134 (.agg #[.pointer (some ⟨8, 46, none⟩)]))) (ht0 : Lies w g 90 old) (ho : old.size = 3) :
    Calls Tryz.prog 60 #[fltV no line at', .iface 101 (.pointer (some ⟨g, 0, none⟩))] w fun ev w' => ev = .returned (.bool true) ∧ w' = asWF g no line at' w := by
  have h6 := @run_callFunc_extern Tryz.prog 76 _ unpackE Tryz.func76 (by kernel_rfl) (by kernel_rfl) (by kernel_rfl) (by kernel_rfl)
  have h7 := @run_callFunc_extern Tryz.prog 77 _ typeE Tryz.func77 (by kernel_rfl) (by kernel_rfl) (by kernel_rfl) (by kernel_rfl)
  have h8 := @run_callFunc_extern Tryz.prog 78 _ isNilE Tryz.func78 (by kernel_rfl) (by kernel_rfl) (by kernel_rfl) (by kernel_rfl)
  have h27 := @run_callFunc_extern Tryz.prog 118 _ kindE Tryz.func118 (by kernel_rfl) (by kernel_rfl) (by kernel_rfl) (by kernel_rfl)
  have h37 := @run_callFunc_extern Tryz.prog 131 _ elemE Tryz.func131 (by kernel_rfl) (by kernel_rfl) (by kernel_rfl) (by kernel_rfl)
  have h38 := @run_callFunc_extern Tryz.prog 132 _ implE Tryz.func132 (by kernel_rfl) (by kernel_rfl) (by kernel_rfl) (by kernel_rfl)
  have h10 := @run_callFunc_extern Tryz.prog 88 _ ReflectliteType.typeOf Tryz.func88 (by kernel_rfl) (by kernel_rfl) (by kernel_rfl) (by kernel_rfl)
  have h35 := @run_callFunc_extern Tryz.prog 129 _ asgnE Tryz.func129 (by kernel_rfl) (by kernel_rfl) (by kernel_rfl) (by kernel_rfl)
  have h11 := @run_callFunc_extern Tryz.prog 90 _ elemVE Tryz.func90 (by kernel_rfl) (by kernel_rfl) (by kernel_rfl) (by kernel_rfl)
  have h12 := @run_callFunc_extern Tryz.prog 91 _ setVE Tryz.func91 (by kernel_rfl) (by kernel_rfl) (by kernel_rfl) (by kernel_rfl)
  have tO := g_typeOf
  have mA := a_methodAssignableTo
  have aF := g_assignable
  have vE := g_valueOf
  have f6 := a_valueOf
  have f7 := a_type
  have mK := a_methodKind
  have mE := a_methodElem
  have mI := a_methodImplements
  have kP := a_kindP
  have kF := a_kindF
  have eP := a_elem
  have iF := a_implements
  have n8 := a_isNil ⟨w.heap.size, 0, none⟩ ⟨g, 0, none⟩ ((w.alloc (.cells #[.pointer (some ⟨g, 0, none⟩)] 101)).alloc (.cells #[.pointer (some ⟨8, 101, none⟩), .pointer (some ⟨w.heap.size, 0, none⟩), .int .u64 150] 120)) (by simp)
  have hlt : 3 < w.heap.size := by
    rcases Nat.lt_or_ge 3 w.heap.size with h | h
    · exact h
    · simp [World.cell?, Array.getElem?_eq_none h] at hg
  have hg2 : ((w.alloc (.cells #[.pointer (some ⟨g, 0, none⟩)] 101)).alloc (.cells #[.pointer (some ⟨8, 101, none⟩), .pointer (some ⟨w.heap.size, 0, none⟩), .int .u64 150] 120)).cell? ⟨3, 0, none⟩ = some (.iface 134 (.agg #[.pointer (some ⟨8, 46, none⟩)])) := by
    rw [World.cell?_alloc_lt _ _ ⟨3, 0, none⟩ (by simp <;> omega), World.cell?_alloc_lt _ _ ⟨3, 0, none⟩ hlt]; exact hg
  have htl : g < w.heap.size := ht0.lt
  have el := g_elemV ⟨w.heap.size, 0, none⟩ ⟨g, 0, none⟩ (((w.alloc (.cells #[.pointer (some ⟨g, 0, none⟩)] 101)).alloc (.cells #[.pointer (some ⟨8, 101, none⟩), .pointer (some ⟨w.heap.size, 0, none⟩), .int .u64 150] 120)).alloc (.cells #[.pointer (some ⟨8, 101, none⟩), .pointer (some ⟨w.heap.size, 0, none⟩), .int .u64 150] 120)) (by rw [World.cell?_alloc_lt _ _ _ (by simp; omega), World.cell?_alloc_lt _ _ _ (by simp)]; rw [World.cell?_alloc_at _ _ _ _ (by simp)]; rfl)
  have st := g_set g (w.heap.size + 1 + 1 + 1) no line at' old ((((w.alloc (.cells #[.pointer (some ⟨g, 0, none⟩)] 101)).alloc (.cells #[.pointer (some ⟨8, 101, none⟩), .pointer (some ⟨w.heap.size, 0, none⟩), .int .u64 150] 120)).alloc (.cells #[.pointer (some ⟨8, 101, none⟩), .pointer (some ⟨w.heap.size, 0, none⟩), .int .u64 150] 120)).alloc (.cells (fltC no line at') 90))
    (by have h := Lies.new (((w.alloc (.cells #[.pointer (some ⟨g, 0, none⟩)] 101)).alloc (.cells #[.pointer (some ⟨8, 101, none⟩), .pointer (some ⟨w.heap.size, 0, none⟩), .int .u64 150] 120)).alloc (.cells #[.pointer (some ⟨8, 101, none⟩), .pointer (some ⟨w.heap.size, 0, none⟩), .int .u64 150] 120)) 90 (fltC no line at'); simpa only [World.size_alloc] using h)
    ((((ht0.alloc _).alloc _).alloc _).alloc _) ho
  go_enter Tryz.func60, Tryz.ntmps60
  go_wp2
  refine wp_loop_rounds 1 ?_
  rw [rounds_succ]
  go_wp2
  go_ret
  exact ⟨rfl, rfl⟩
end Go.Proofs.YtodgcmhkojkpcaaGreatDoor
