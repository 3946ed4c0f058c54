/- Package ustar's Of, and the document's. -/
import Derived.Test.YtgdkgdlgalinbaaGreatDoorDecU
import Derived.Test.YtgdkgdlgalinbaaGreatDoorWorksU
namespace Go.Proofs.YtgdkgdlgalinbaaGreatDoor
open Go Go.RowKit

/-- An entry. -/
structure En where
  (path : ByteArray) (kind mode : Int) (data link : ByteArray)
def ecs (e : En) : Array Value := #[.string e.path, .int .i64 e.kind, .int .i64 e.mode, .string e.data, .string e.link]

/-- An entry's header. -/
def ofP (e : En) : Hd :=
  if e.kind = 1 then ⟨e.path, e.mode, 0, 0, 0, 0, 53, ⟨#[]⟩, ⟨#[]⟩, ⟨#[]⟩, 0, 0⟩
  else if e.kind = 2 then ⟨e.path, e.mode, 0, 0, e.data.size, 0, 48, ⟨#[]⟩, ⟨#[]⟩, ⟨#[]⟩, 0, 0⟩
  else if e.kind = 3 then ⟨e.path, 511, 0, 0, 0, 0, 50, e.link, ⟨#[]⟩, ⟨#[]⟩, 0, 0⟩
  else zeroHd
theorem results_c1 {P : Program} {fn : Func} {p : Tmp} {ty : TypeId} (h : fn.results = #[.cell p ty]) (tmps : Array Value) (w : World) (g : Nat) (t : TypeId) (cs : Array Value) (d : TypeDesc)
    (hp : tmps.getD p undef = .pointer (some ⟨g, 0, none⟩)) (hg : Lies w g t cs)
    (hu : P.underlying ty = some d) (hd : (match d with | .struct _ | .array _ _ => true | _ => false) = true) (hi : (P.info? ty).map (·.size) = some cs.size) :
    (results fn tmps).run P w = .ok (.agg cs) w := by
  have hp' : tmps[p]?.getD undef = .pointer (some ⟨g, 0, none⟩) := by simpa using hp
  simp [results, h, hp', asAddr, run_loadVar_row w g t ty cs (0, 0) d hg hu hd hi]
set_option maxRecDepth 100000 in
set_option maxHeartbeats 1000000 in
theorem of_p (e : En) (w : World) : Calls Tryz.prog 13 #[.agg (ecs e)] w fun r w' => r = .returned (.agg (hcs (ofP e))) ∧ Below w.heap.size w w' := by
  have L0 := (Lies.new w 41 (ecs e)).alloc (.cells (hcs zeroHd) 28)
  have R0 : Lies ((w.alloc (.cells (ecs e) 41)).alloc (.cells (hcs zeroHd) 28)) (w.heap.size + 1) 28 (hcs zeroHd) := by
    have := Lies.new (w.alloc (.cells (ecs e) 41)) 28 (hcs zeroHd)
    rwa [show (w.alloc (.cells (ecs e) 41)).heap.size = w.heap.size + 1 by simp] at this
  have B0 := ((Below.refl _ w).alloc (Nat.le_refl _) (.cells (ecs e) 41)).alloc (by simp) (.cells (hcs zeroHd) 28)
  have BR := fun cs => below_setRow B0 (show w.heap.size ≤ w.heap.size + 1 by omega) cs
  have RR := fun cs => R0.row cs
  have HBR : Hid _ := BR
  have HRR : Hid _ := RR
  have c0 : ((w.alloc (.cells (ecs e) 41)).alloc (.cells (hcs zeroHd) 28)).cell? ⟨w.heap.size, 0, none⟩ = some (.string e.path) := L0.cell rfl
  have c1 : ((w.alloc (.cells (ecs e) 41)).alloc (.cells (hcs zeroHd) 28)).cell? ⟨w.heap.size, 1, none⟩ = some (.int .i64 e.kind) := L0.cell rfl
  have c2 : ((w.alloc (.cells (ecs e) 41)).alloc (.cells (hcs zeroHd) 28)).cell? ⟨w.heap.size, 2, none⟩ = some (.int .i64 e.mode) := L0.cell rfl
  have c3 : ((w.alloc (.cells (ecs e) 41)).alloc (.cells (hcs zeroHd) 28)).cell? ⟨w.heap.size, 3, none⟩ = some (.string e.data) := L0.cell rfl
  have c4 : ((w.alloc (.cells (ecs e) 41)).alloc (.cells (hcs zeroHd) 28)).cell? ⟨w.heap.size, 4, none⟩ = some (.string e.link) := L0.cell rfl
  have HLZ : Hid ((#[.string ⟨#[]⟩, .int .i64 0, .int .i64 0, .int .i64 0, .int .i64 0, .int .i64 0, .int .u8 0, .string ⟨#[]⟩, .string ⟨#[]⟩, .string ⟨#[]⟩, .int .i64 0, .int .i64 0] : Array Value) = hcs zeroHd) := rfl
  rw [← HLZ.out] at c0 c1 c2 c3 c4
  clear BR RR L0
  by_cases k1 : e.kind = 1
  · have d1 : (e.kind == 1) = true := beq_iff_eq.2 k1
    have HO : Hid (ofP e = ⟨e.path, e.mode, 0, 0, 0, 0, 53, ⟨#[]⟩, ⟨#[]⟩, ⟨#[]⟩, 0, 0⟩) := by
      unfold Hid ofP; rw [if_pos k1]
    have hi := info_hd
    clear k1
    rw [HO.out]
    go_enter Tryz.func13, Tryz.ntmps13
    go_wp2_with (refine wpList_store_row rfl 28 (.tmp 2) (.tmp 11) rfl (w.heap.size + 1) (hcs ⟨e.path, e.mode, 0, 0, 0, 0, 53, ⟨#[]⟩, ⟨#[]⟩, ⟨#[]⟩, 0, 0⟩) rfl rfl 28 (hcs zeroHd) R0 info_hd rfl (hcs_one _) ?_)
    refine bodyPost_ret (results_c1 rfl _ _ (w.heap.size + 1) 28 (hcs ⟨e.path, e.mode, 0, 0, 0, 0, 53, ⟨#[]⟩, ⟨#[]⟩, ⟨#[]⟩, 0, 0⟩) _ rfl (HRR.out _) Tryz.underlying28 rfl info_hd) rfl ?_
    exact ⟨rfl, HBR.out _⟩
  have d1 : (e.kind == 1) = false := beq_eq_false_iff_ne.2 k1
  by_cases k2 : e.kind = 2
  · have d2 : (e.kind == 2) = true := beq_iff_eq.2 k2
    have HO : Hid (ofP e = ⟨e.path, e.mode, 0, 0, e.data.size, 0, 48, ⟨#[]⟩, ⟨#[]⟩, ⟨#[]⟩, 0, 0⟩) := by
      unfold Hid ofP; rw [if_neg k1, if_pos k2]
    have hi := info_hd
    clear k1 k2
    rw [HO.out]
    go_enter Tryz.func13, Tryz.ntmps13
    go_wp2_with (refine wpList_store_row rfl 28 (.tmp 2) (.tmp 21) rfl (w.heap.size + 1) (hcs ⟨e.path, e.mode, 0, 0, e.data.size, 0, 48, ⟨#[]⟩, ⟨#[]⟩, ⟨#[]⟩, 0, 0⟩) rfl rfl 28 (hcs zeroHd) R0 info_hd rfl (hcs_one _) ?_)
    refine bodyPost_ret (results_c1 rfl _ _ (w.heap.size + 1) 28 (hcs ⟨e.path, e.mode, 0, 0, e.data.size, 0, 48, ⟨#[]⟩, ⟨#[]⟩, ⟨#[]⟩, 0, 0⟩) _ rfl (HRR.out _) Tryz.underlying28 rfl info_hd) rfl ?_
    exact ⟨rfl, HBR.out _⟩
  have d2 : (e.kind == 2) = false := beq_eq_false_iff_ne.2 k2
  by_cases k3 : e.kind = 3
  · have d3 : (e.kind == 3) = true := beq_iff_eq.2 k3
    have HO : Hid (ofP e = ⟨e.path, 511, 0, 0, 0, 0, 50, e.link, ⟨#[]⟩, ⟨#[]⟩, 0, 0⟩) := by
      unfold Hid ofP; rw [if_neg k1, if_neg k2, if_pos k3]
    have hi := info_hd
    clear k1 k2 k3
    rw [HO.out]
    go_enter Tryz.func13, Tryz.ntmps13
    go_wp2_with (refine wpList_store_row rfl 28 (.tmp 2) (.tmp 28) rfl (w.heap.size + 1) (hcs ⟨e.path, 511, 0, 0, 0, 0, 50, e.link, ⟨#[]⟩, ⟨#[]⟩, 0, 0⟩) rfl rfl 28 (hcs zeroHd) R0 info_hd rfl (hcs_one _) ?_)
    refine bodyPost_ret (results_c1 rfl _ _ (w.heap.size + 1) 28 (hcs ⟨e.path, 511, 0, 0, 0, 0, 50, e.link, ⟨#[]⟩, ⟨#[]⟩, 0, 0⟩) _ rfl (HRR.out _) Tryz.underlying28 rfl info_hd) rfl ?_
    exact ⟨rfl, HBR.out _⟩
  have d3 : (e.kind == 3) = false := beq_eq_false_iff_ne.2 k3
  have HO : Hid (ofP e = zeroHd) := by
    unfold Hid ofP; rw [if_neg k1, if_neg k2, if_neg k3]
  have hi := info_hd
  clear k1 k2 k3
  rw [HO.out]
  go_enter Tryz.func13, Tryz.ntmps13
  go_wp2_with (refine wpList_store_row rfl 28 (.tmp 2) (.tmp 29) rfl (w.heap.size + 1) (hcs zeroHd) rfl rfl 28 (hcs zeroHd) R0 info_hd rfl (hcs_one _) ?_)
  refine bodyPost_ret (results_c1 rfl _ _ (w.heap.size + 1) 28 (hcs zeroHd) _ rfl (HRR.out _) Tryz.underlying28 rfl info_hd) rfl ?_
  exact ⟨rfl, HBR.out _⟩
end Go.Proofs.YtgdkgdlgalinbaaGreatDoor
