/- errors.As at an error that tells a place and a target of that type: it is true, and the target holds it; the kit's Place and At. -/
import Derived.Test.YtbmakfdljddhcaaGreatDoorFault
import Derived.Laws.Tables
namespace Go.Proofs.YtbmakfdljddhcaaGreatDoor
open Go.RowKit Go.Extern.Stop Go.Stop Go.Extern

def elemVE : Array Value → Sem Value := ReflectliteValue.method (ReflectliteValue.valueError "reflectlite.Value.Elem" 0) ReflectliteValue.elem
def setVE : Array Value → Sem Value := ReflectliteValue.set
abbrev fltC (no line at' : Int) : Array Value := #[.int .i64 no, .int .i64 line, .int .i64 at']
theorem g_typeOf (v : Value) (w : World) : (Extern.ReflectliteType.typeOf #[.iface 34 v]).run Tryz.prog w = .ok (.iface 78 (.agg #[.pointer (some ⟨4, 34, none⟩)])) w := by kernel_rfl
theorem g_valueOf (no line at' : Int) (w : World) : (unpackE #[fltV no line at']).run Tryz.prog w
    = .ok (.agg #[.pointer (some ⟨4, 34, none⟩), .pointer (some ⟨w.heap.size, 0, none⟩), .int .u64 153]) (w.alloc (.cells (fltC no line at') 34)) := by kernel_rfl
theorem g_assignable (w : World) : (asgnE #[.agg #[.pointer (some ⟨4, 34, none⟩)], .iface 78 (.agg #[.pointer (some ⟨4, 34, none⟩)])]).run Tryz.prog w = .ok (.bool true) w := by kernel_rfl
theorem g_elemOf (w : World) : (Rtype.elem? 37).run Tryz.prog w = .ok (some 34) w := by kernel_rfl
theorem g_mk (p : Addr) (w : World) : (ReflectliteValue.mk 34 p ReflectliteValue.flagAddr).run Tryz.prog w = .ok (.agg #[.pointer (some ⟨4, 34, none⟩), .pointer (some p), .int .u64 409]) w := by kernel_rfl
theorem g_elemV (a p : Addr) (W : World) (ha : W.cell? a = some (.pointer (some p))) :
    (elemVE #[.agg #[.pointer (some ⟨4, 37, none⟩), .pointer (some a), .int .u64 150]]).run Tryz.prog W
      = .ok (.agg #[.pointer (some ⟨4, 34, none⟩), .pointer (some p), .int .u64 409]) W := by
  unfold elemVE
  rw [a_rlm]
  simp only [Sem.run_bind, a_parts, Result.andThen]
  simp [ReflectliteValue.elem, loadVar, isAgg, underlying, Tryz.underlying37, ha, Result.andThen, g_elemOf, g_mk]
theorem g_partsA (a : Addr) (w : World) : (ReflectliteValue.parts (.agg #[.pointer (some ⟨4, 34, none⟩), .pointer (some a), .int .u64 409])).run Tryz.prog w = .ok (some (34, a, 409)) w := by kernel_rfl
theorem g_partsB (a : Addr) (w : World) : (ReflectliteValue.parts (.agg #[.pointer (some ⟨4, 34, none⟩), .pointer (some a), .int .u64 153])).run Tryz.prog w = .ok (some (34, a, 153)) w := by kernel_rfl
theorem g_direct (w : World) : (Rtype.directlyAssignable 34 34).run Tryz.prog w = .ok true w := by kernel_rfl
theorem g_size : (Tryz.prog.info? 34).map (·.size) = some 3 := by kernel_rfl
theorem g_set (g b : Nat) (no line at' : Int) (old : Array Value) (W : World) (hb : Lies W b 34 (fltC no line at')) (ht : Lies W g 34 old) (ho : old.size = 3) :
    (setVE #[.agg #[.pointer (some ⟨4, 34, none⟩), .pointer (some ⟨g, 0, none⟩), .int .u64 409], .agg #[.pointer (some ⟨4, 34, none⟩), .pointer (some ⟨b, 0, none⟩), .int .u64 153]]).run Tryz.prog W
      = .ok (.tuple #[]) (W.setRow g (fltC no line at')) := by
  unfold setVE
  change (Bind.bind (ReflectliteValue.parts (.agg #[.pointer (some ⟨4, 34, none⟩), .pointer (some ⟨g, 0, none⟩), .int .u64 409])) fun y => Bind.bind (ReflectliteValue.parts (.agg #[.pointer (some ⟨4, 34, none⟩), .pointer (some ⟨b, 0, none⟩), .int .u64 153])) fun z => _ : Sem Value).run Tryz.prog W = _
  have hl := run_loadVar_row (P := Tryz.prog) W b 34 34 (fltC no line at') (0, 0) _ hb Tryz.underlying34 rfl g_size
  have hs := run_storeVar_row (P := Tryz.prog) W g 34 34 old (fltC no line at') ht g_size ho (by simp [Value.oneCell'])
  simp only [Sem.run_bind, g_partsA, g_partsB, Result.andThen]
  simp [ReflectliteValue.flagAddr, hl, hs, Result.andThen, g_direct]
/-- The world behind: three copies of the target's Value, one of the error, and the target set. -/
def asWF (g : Nat) (no line at' : Int) (w : World) : World := ((((w.alloc (.cells #[.pointer (some ⟨g, 0, none⟩)] 37)).alloc (.cells #[.pointer (some ⟨4, 37, none⟩), .pointer (some ⟨w.heap.size, 0, none⟩), .int .u64 150] 59)).alloc (.cells #[.pointer (some ⟨4, 37, none⟩), .pointer (some ⟨w.heap.size, 0, none⟩), .int .u64 150] 59)).alloc (.cells (fltC no line at') 34)).setRow g (fltC no line at')

set_option maxRecDepth 100000 in
set_option maxHeartbeats 4000000 in
theorem as_hitF (no line at' : Int) (g : Nat) (old : Array Value) (w : World) (hg : w.cell? ⟨0, 0, none⟩ = some (.iface 78 (.agg #[.pointer (some ⟨4, 25, none⟩)]))) (ht0 : Lies w g 34 old) (ho : old.size = 3) :
    Calls Tryz.prog 11 #[fltV no line at', .iface 37 (.pointer (some ⟨g, 0, none⟩))] w fun ev w' => ev = .returned (.bool true) ∧ w' = asWF g no line at' w := by
  have h6 := @run_callFunc_extern Tryz.prog 19 _ unpackE Tryz.func19 (by kernel_rfl) (by kernel_rfl) (by kernel_rfl) (by kernel_rfl)
  have h7 := @run_callFunc_extern Tryz.prog 20 _ typeE Tryz.func20 (by kernel_rfl) (by kernel_rfl) (by kernel_rfl) (by kernel_rfl)
  have h8 := @run_callFunc_extern Tryz.prog 21 _ isNilE Tryz.func21 (by kernel_rfl) (by kernel_rfl) (by kernel_rfl) (by kernel_rfl)
  have h27 := @run_callFunc_extern Tryz.prog 134 _ kindE Tryz.func134 (by kernel_rfl) (by kernel_rfl) (by kernel_rfl) (by kernel_rfl)
  have h37 := @run_callFunc_extern Tryz.prog 146 _ elemE Tryz.func146 (by kernel_rfl) (by kernel_rfl) (by kernel_rfl) (by kernel_rfl)
  have h38 := @run_callFunc_extern Tryz.prog 147 _ implE Tryz.func147 (by kernel_rfl) (by kernel_rfl) (by kernel_rfl) (by kernel_rfl)
  have h10 := @run_callFunc_extern Tryz.prog 33 _ ReflectliteType.typeOf Tryz.func33 (by kernel_rfl) (by kernel_rfl) (by kernel_rfl) (by kernel_rfl)
  have h35 := @run_callFunc_extern Tryz.prog 144 _ asgnE Tryz.func144 (by kernel_rfl) (by kernel_rfl) (by kernel_rfl) (by kernel_rfl)
  have h11 := @run_callFunc_extern Tryz.prog 35 _ elemVE Tryz.func35 (by kernel_rfl) (by kernel_rfl) (by kernel_rfl) (by kernel_rfl)
  have h12 := @run_callFunc_extern Tryz.prog 36 _ setVE Tryz.func36 (by kernel_rfl) (by kernel_rfl) (by kernel_rfl) (by kernel_rfl)
  have tO := g_typeOf
  have mA := a_methodAssignableTo
  have aF := g_assignable
  have vE := g_valueOf
  have f6 := a_valueOf
  have f7 := a_type
  have mK := a_methodKind
  have mE := a_methodElem
  have mI := a_methodImplements
  have kP := a_kindP
  have kF := a_kindF
  have eP := a_elem
  have iF := a_implements
  have n8 := a_isNil ⟨w.heap.size, 0, none⟩ ⟨g, 0, none⟩ ((w.alloc (.cells #[.pointer (some ⟨g, 0, none⟩)] 37)).alloc (.cells #[.pointer (some ⟨4, 37, none⟩), .pointer (some ⟨w.heap.size, 0, none⟩), .int .u64 150] 59)) (by simp)
  have hlt : 0 < w.heap.size := by
    rcases Nat.lt_or_ge 0 w.heap.size with h | h
    · exact h
    · simp [World.cell?, Array.getElem?_eq_none h] at hg
  have hg2 : ((w.alloc (.cells #[.pointer (some ⟨g, 0, none⟩)] 37)).alloc (.cells #[.pointer (some ⟨4, 37, none⟩), .pointer (some ⟨w.heap.size, 0, none⟩), .int .u64 150] 59)).cell? ⟨0, 0, none⟩ = some (.iface 78 (.agg #[.pointer (some ⟨4, 25, none⟩)])) := by
    rw [World.cell?_alloc_lt _ _ ⟨0, 0, none⟩ (by simp <;> omega), World.cell?_alloc_lt _ _ ⟨0, 0, none⟩ hlt]; exact hg
  have htl : g < w.heap.size := ht0.lt
  have el := g_elemV ⟨w.heap.size, 0, none⟩ ⟨g, 0, none⟩ (((w.alloc (.cells #[.pointer (some ⟨g, 0, none⟩)] 37)).alloc (.cells #[.pointer (some ⟨4, 37, none⟩), .pointer (some ⟨w.heap.size, 0, none⟩), .int .u64 150] 59)).alloc (.cells #[.pointer (some ⟨4, 37, none⟩), .pointer (some ⟨w.heap.size, 0, none⟩), .int .u64 150] 59)) (by rw [World.cell?_alloc_lt _ _ _ (by simp; omega), World.cell?_alloc_lt _ _ _ (by simp)]; rw [World.cell?_alloc_at _ _ _ _ (by simp)]; rfl)
  have st := g_set g (w.heap.size + 1 + 1 + 1) no line at' old ((((w.alloc (.cells #[.pointer (some ⟨g, 0, none⟩)] 37)).alloc (.cells #[.pointer (some ⟨4, 37, none⟩), .pointer (some ⟨w.heap.size, 0, none⟩), .int .u64 150] 59)).alloc (.cells #[.pointer (some ⟨4, 37, none⟩), .pointer (some ⟨w.heap.size, 0, none⟩), .int .u64 150] 59)).alloc (.cells (fltC no line at') 34))
    (by have h := Lies.new (((w.alloc (.cells #[.pointer (some ⟨g, 0, none⟩)] 37)).alloc (.cells #[.pointer (some ⟨4, 37, none⟩), .pointer (some ⟨w.heap.size, 0, none⟩), .int .u64 150] 59)).alloc (.cells #[.pointer (some ⟨4, 37, none⟩), .pointer (some ⟨w.heap.size, 0, none⟩), .int .u64 150] 59)) 34 (fltC no line at'); simpa only [World.size_alloc] using h)
    ((((ht0.alloc _).alloc _).alloc _).alloc _) ho
  go_enter Tryz.func11, Tryz.ntmps11
  go_wp2
  refine wp_loop_rounds 1 ?_
  rw [rounds_succ]
  go_wp2
  go_ret
  exact ⟨rfl, rfl⟩
end Go.Proofs.YtbmakfdljddhcaaGreatDoor
