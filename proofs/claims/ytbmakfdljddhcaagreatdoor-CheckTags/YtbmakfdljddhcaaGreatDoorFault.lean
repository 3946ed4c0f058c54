/- Errors that tell a place (api.Fault), held against the numbers and looked at: errors.Is, errors.As, the kit's Num, Place and At. -/
import Derived.Test.YtbmakfdljddhcaaGreatDoorPlain
import Derived.Test.YtbmakfdljddhcaaGreatDoorBytes
namespace Go.Proofs.YtbmakfdljddhcaaGreatDoor
open Go.RowKit Go.Extern.Stop Go.Stop Go.Extern

abbrev fltV (no line at' : Int) : Value := .iface 34 (.agg #[.int .i64 no, .int .i64 line, .int .i64 at'])
theorem f_noIs (v : Value) (xT : TypeId) (w : World) : (Instr.typeAssert (.iface 34 v) xT 101 true).run Tryz.prog w = .ok (.tuple #[.nilIface, .bool false]) w := run_typeAssert_lacksB Tryz.underlying101 (by kernel_rfl) (by kernel_rfl) v xT w
theorem f_hasUnwrap (v : Value) (xT : TypeId) (w : World) : (Instr.typeAssert (.iface 34 v) xT 85 true).run Tryz.prog w = .ok (.tuple #[.iface 34 v, .bool true]) w := run_typeAssert_hasB Tryz.underlying85 (by kernel_rfl) v xT w
theorem f_methodUnwrap (v : Value) (w : World) : (Go.method 315 34 v "Unwrap").run Tryz.prog w = .ok (139, v) w := by kernel_rfl
theorem run_equalIn_iface_other {P : Program} (w : World) (d : Nat) {ti t1 t2 : TypeId} {ms : Array (String × TypeId)} (v u : Value) (hi : P.underlying ti = some (.interface ms)) (hne : t1 ≠ t2) :
    (Op.equalIn (d + 1) ti (.iface t1 v) (.iface t2 u)).run P w = .ok false w := by
  simp [Op.equalIn, run_underlying hi, hne]
theorem f_eql (v u : Value) (w : World) : (binOp .eql 25 (.iface 34 v) (.iface 32 u)).run Tryz.prog w = .ok (.bool false) w := by
  simp only [binOp]
  simp [Op.equal, Op.maxDepth, run_equalIn_iface_other w 9999 v u Tryz.underlying25 (show (34 : Nat) ≠ 32 by decide)]

set_option maxRecDepth 100000 in
set_option maxHeartbeats 2000000 in
theorem is_fault (no line at' b : Int) (r : Bool) (hab : (no == b) = r) (w : World) :
    Calls Tryz.prog 18 #[fltV no line at', .iface 32 (.int .i64 b)] w fun e w' => e = .returned (.bool r) ∧ Below w.heap.size w w' := by
  obtain ⟨i, hi, hcmp⟩ := Option.map_eq_some_iff.1 e_isComp
  have h8 := @run_callFunc_extern Tryz.prog 33 _ Extern.ReflectliteType.typeOf Tryz.func33 (by kernel_rfl) (by kernel_rfl) (by kernel_rfl) (by kernel_rfl)
  have h32 := @run_callFunc_extern Tryz.prog 145 _ cmpE Tryz.func145 (by kernel_rfl) (by kernel_rfl) (by kernel_rfl) (by kernel_rfl)
  have tT := e_isTypeOf
  have cT := e_isComparable
  have mR := e_isMethodComparable
  have fE := f_noIs
  have fU := f_hasUnwrap
  have fM := f_methodUnwrap
  have fQ := f_eql
  have nE := e_noIs
  have uE := e_noUnwrap
  have vE := e_noUnwraps
  have heq := fun W => run_eql_iface_int (P := Tryz.prog) W no b Tryz.underlying25 Tryz.underlying32 hi hcmp
  rw [hab] at heq
  clear hab
  go_enter Tryz.func18, Tryz.ntmps18
  go_wp2
  refine wp_loop_rounds 2 ?_
  rw [rounds_succ]
  go_wp2
  rw [rounds_succ]
  cases r with
  | true =>
    go_wp2
    go_ret
    exact ⟨rfl, (Below.refl _ w).alloc (Nat.le_refl _) _⟩
  | false =>
    go_wp2
    go_ret
    exact ⟨rfl, (Below.refl _ w).alloc (Nat.le_refl _) _⟩

set_option maxHeartbeats 1000000 in
theorem num_fault (a line at' : Int) (h1 : 1 ≤ a) (h2 : a ≤ 32) (w : World) : Calls Tryz.prog 10 #[fltV a line at'] w fun e w' => e = .returned (.int .i64 a) ∧ Below w.heap.size w w' := by
  go_enter Tryz.func10, Tryz.ntmps10
  go_wp2
  go_loopw [3, 4] (fun f n wr => ∃ k : Int, 1 ≤ k ∧ k ≤ 33 ∧ n = .int .i64 k ∧ f = .int .i64 (if a < k then a else 0) ∧ Below w.heap.size w wr) (fun _ n _ => (33 - intOf n).toNat)
  case atStart => exact ⟨1, by omega, by omega, rfl, by rw [if_neg (by omega)], Below.refl _ _⟩
  case round =>
    obtain ⟨k, hk1, hk2, rfl, rfl, hB⟩ := hrel
    by_cases hlt : k ≤ 32
    · rcases Int.lt_trichotomy a k with h | h | h
      · have hne : (a == k) = false := by simp; omega
        rw [if_pos h]
        go_wp2_with fail
        refine (is_fault a line at' k false hne wr).mono ?_
        rintro e w' ⟨rfl, b1⟩
        have hB1 := below_join hB b1
        go_wp2
        go_roundw
        case rel => exact ⟨k + 1, by omega, by omega, rfl, by rw [if_pos (by omega)], hB1⟩
        case measure => simp [intOf]; omega
      · subst h
        rw [if_neg (by omega)]
        go_wp2_with fail
        refine (is_fault a line at' a true (by simp) wr).mono ?_
        rintro e w' ⟨rfl, b1⟩
        have hB1 := below_join hB b1
        go_wp2
        go_roundw
        case rel => exact ⟨a + 1, by omega, by omega, rfl, by rw [if_pos (by omega)], hB1⟩
        case measure => simp [intOf]; omega
      · have hne : (a == k) = false := by simp; omega
        rw [if_neg (by omega)]
        go_wp2_with fail
        refine (is_fault a line at' k false hne wr).mono ?_
        rintro e w' ⟨rfl, b1⟩
        have hB1 := below_join hB b1
        go_wp2
        go_roundw
        case rel => exact ⟨k + 1, by omega, by omega, rfl, by rw [if_neg (by omega)], hB1⟩
        case measure => simp [intOf]; omega
    · have hne : (a == 0) = false := by simp; omega
      have hle : ¬ k ≤ 32 := hlt
      rw [if_pos (by omega)]
      go_wp2_with fail
      refine (is_fault a line at' 0 false hne wr).mono ?_
      rintro e w' ⟨rfl, b1⟩
      have hB1 := below_join hB b1
      go_wp2
      go_ret
      exact ⟨rfl, hB1⟩
end Go.Proofs.YtbmakfdljddhcaaGreatDoor
