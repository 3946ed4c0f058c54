/- The kit's Place and At at an error that tells a place. -/
import Derived.Test.YtbmakfdljddhcaaGreatDoorAsF
import Derived.Deep.RegionWith
namespace Go.Proofs.YtbmakfdljddhcaaGreatDoor
open Go.RowKit Go.Extern.Stop Go.Stop Go.Extern

theorem asWF_lies (g : Nat) (no line at' : Int) (old : Array Value) (w : World) (h : Lies w g 34 old) : Lies (asWF g no line at' w) g 34 (fltC no line at') := ((((h.alloc _).alloc _).alloc _).alloc _).row _
theorem asWF_below (g B : Nat) (no line at' : Int) (w w0 : World) (hb : Below B w0 w) (hB : B ≤ g) (hB2 : B ≤ w.heap.size) : Below B w0 (asWF g no line at' w) :=
  below_setRow ((((hb.alloc hB2 _).alloc (by simp; omega) _).alloc (by simp; omega) _).alloc (by simp; omega) _) hB _
set_option maxRecDepth 100000 in
set_option maxHeartbeats 2000000 in
theorem place_p (no line at' : Int) (h1 : 1 ≤ no) (h2 : no ≤ 32) (w : World) (he : ErrType w) : Calls Tryz.prog 46 #[fltV no line at'] w fun e w' => e = .returned (.tuple #[.int .i64 line, .int .i64 at', .bool true]) ∧ Below w.heap.size w w' := by
  have B0 : Below w.heap.size w (w.alloc (.cells (fltC 0 0 0) 34)) := (Below.refl _ w).alloc (Nat.le_refl _) _
  have L0 : Lies (w.alloc (.cells (fltC 0 0 0) 34)) w.heap.size 34 (fltC 0 0 0) := Lies.new _ _ _
  have hE := he.below B0
  have L1 := asWF_lies w.heap.size no line at' _ _ L0
  have B1 := asWF_below w.heap.size w.heap.size no line at' _ _ B0 (Nat.le_refl _) (by simp)
  have hA := as_hitF no line at' w.heap.size (fltC 0 0 0) (w.alloc (.cells (fltC 0 0 0) 34)) hE L0 rfl
  have hnn : (no == no) = true := by simp
  go_enter Tryz.func46, Tryz.ntmps46
  go_wp2_with fail
  refine hA.mono ?_
  rintro e w1 ⟨rfl, hw1⟩
  rw [← hw1] at L1 B1
  clear hw1 hA L0 B0 hE
  have c0 : w1.cell? ⟨w.heap.size, 0, none⟩ = some (.int .i64 no) := L1.cell rfl
  have c1 : w1.cell? ⟨w.heap.size, 1, none⟩ = some (.int .i64 line) := L1.cell rfl
  have c2 : w1.cell? ⟨w.heap.size, 2, none⟩ = some (.int .i64 at') := L1.cell rfl
  have hlt := L1.lt
  have hN := num_fault no line at' h1 h2 w1.drew
  have BD : Below w.heap.size w w1.drew := below_drawn B1 1
  have HF : Hid (∀ w2, Below w1.drew.heap.size w1.drew w2 → w2.cell? ⟨w.heap.size, 0, none⟩ = some (.int .i64 no) ∧ w2.cell? ⟨w.heap.size, 1, none⟩ = some (.int .i64 line) ∧ w2.cell? ⟨w.heap.size, 2, none⟩ = some (.int .i64 at') ∧ Below w.heap.size w w2) := by
    intro w2 b2
    have L2 := (L1.drew 1).below b2
    exact ⟨L2.cell rfl, L2.cell rfl, L2.cell rfl, below_join BD b2⟩
  clear L1 B1 BD
  go_wp2
  go_region_with (first | (go_at_call 10; refine hN.mono ?_; rintro e w2 ⟨rfl, b2⟩; obtain ⟨k0, k1, k2, k3⟩ := HF.out w2 b2))
  all_goals go_wp2
  all_goals go_ret3
  all_goals exact ⟨rfl, k3⟩

set_option maxRecDepth 100000 in
set_option maxHeartbeats 2000000 in
theorem at_p (no line at' : Int) (h1 : 1 ≤ no) (h2 : no ≤ 32) (w : World) (he : ErrType w) : Calls Tryz.prog 29 #[fltV no line at', .int .i64 no, .int .i64 line, .int .i64 at'] w fun e w' => e = .returned (.bool true) ∧ Below w.heap.size w w' := by
  have e1 : (no == no) = true := by simp
  have e2 : (line == line) = true := by simp
  have e3 : (at' == at') = true := by simp
  have e0 : ¬ no = 0 := by omega
  go_enter Tryz.func29, Tryz.ntmps29
  go_wp2_with fail
  refine (place_p no line at' h1 h2 w he).mono ?_
  rintro e w1 ⟨rfl, B1⟩
  go_wp2_with fail
  refine (num_fault no line at' h1 h2 w1).mono ?_
  rintro e w2 ⟨rfl, b2⟩
  have B2 := below_join B1 b2
  go_wp2
  go_ret
  exact ⟨rfl, B2⟩
end Go.Proofs.YtbmakfdljddhcaaGreatDoor
