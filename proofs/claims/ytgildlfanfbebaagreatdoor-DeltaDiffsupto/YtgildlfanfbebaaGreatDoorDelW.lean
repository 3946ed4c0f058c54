/- delta's small functions: byPath, sameSort, nearer. -/
import Derived.Test.YtgildlfanfbebaaGreatDoorGrowW
import Derived.Test.YtgildlfanfbebaaGreatDoorBelK
import Derived.Deep.RegionHeld3
namespace Go.Proofs.YtgildlfanfbebaaGreatDoor
open Go Go.RowKit

set_option maxRecDepth 100000 in
theorem byPath_p (a b : Ent) (w : World) (ha : a.path.size ≤ 9223372036854775807) (hb : b.path.size ≤ 9223372036854775807) : Calls Tryz.prog 66 #[entV a, entV b] w fun e w' => e = .returned (.int .i64 (compareN a.path b.path)) ∧ Below w.heap.size w w' := by
  have hbB : Below w.heap.size w ((w.alloc (.cells #[.string a.path, .int .i64 a.kind, .int .i64 a.mode, .string a.data, .string a.link] 52)).alloc (.cells #[.string b.path, .int .i64 b.kind, .int .i64 b.mode, .string b.data, .string b.link] 52)) := ((Below.refl _ _).alloc (Nat.le_refl _) _).alloc (by simp) _
  have hC := fun W => compare_p a.path b.path W ha hb
  generalize compareN a.path b.path = C at *
  unfold entV
  go_enter Tryz.func66, Tryz.ntmps66
  go_wp2_with (go_at_call 26; refine (hC _).mono ?_; rintro e w1 ⟨rfl, hb1⟩)
  go_ret
  exact ⟨rfl, below_join hbB hb1⟩
/-- Are both directories, or neither? -/
def sortB (x y : Ent) : Bool := (y.kind != 0) && ((x.kind == 1) == (y.kind == 1))
set_option maxRecDepth 100000 in
theorem sameSort_p (a b : Ent) (w : World) : Calls Tryz.prog 67 #[entV a, entV b] w fun e w' => e = .returned (.bool (sortB a b)) ∧ Below w.heap.size w w' := by
  have hbB : Below w.heap.size w ((w.alloc (.cells #[.string a.path, .int .i64 a.kind, .int .i64 a.mode, .string a.data, .string a.link] 52)).alloc (.cells #[.string b.path, .int .i64 b.kind, .int .i64 b.mode, .string b.data, .string b.link] 52)) := ((Below.refl _ _).alloc (Nat.le_refl _) _).alloc (by simp) _
  have HS : Hid (sortB a b = ((b.kind != 0) && ((a.kind == 1) == (b.kind == 1)))) := rfl
  unfold entV
  cases h : (b.kind != 0) with
  | false =>
    rw [h] at HS
    go_enter Tryz.func67, Tryz.ntmps67
    go_wp2
    go_ret
    exact ⟨by rw [HS.out]; rfl, hbB⟩
  | true =>
    rw [h] at HS
    cases h1 : (a.kind == 1) with
    | false =>
      cases h2 : (b.kind == 1) with
      | false =>
        rw [h1, h2] at HS
        go_enter Tryz.func67, Tryz.ntmps67
        go_wp2
        go_ret
        exact ⟨by rw [HS.out]; rfl, hbB⟩
      | true =>
        rw [h1, h2] at HS
        go_enter Tryz.func67, Tryz.ntmps67
        go_wp2
        go_ret
        exact ⟨by rw [HS.out]; rfl, hbB⟩
    | true =>
      cases h2 : (b.kind == 1) with
      | false =>
        rw [h1, h2] at HS
        go_enter Tryz.func67, Tryz.ntmps67
        go_wp2
        go_ret
        exact ⟨by rw [HS.out]; rfl, hbB⟩
      | true =>
        rw [h1, h2] at HS
        go_enter Tryz.func67, Tryz.ntmps67
        go_wp2
        go_ret
        exact ⟨by rw [HS.out]; rfl, hbB⟩
/-- Which row comes first. -/
def nearN : List Ent → List Ent → Int
  | _, [] => -1
  | [], _ :: _ => 1
  | a :: _, b :: _ => compareN a.path b.path
abbrev byV : Value := .func (.func 66) #[] #[]
set_option maxRecDepth 100000 in
set_option maxHeartbeats 2000000 in
theorem nearer_p (u v : Value) (A B : List Ent) (w : World) (hu : EntsAt w u A) (hv : EntsAt w v B) (hs : ∀ e ∈ A ++ B, e.path.size ≤ 1099511627776) : Calls Tryz.prog 104 #[u, v, byV] w fun e w' => e = .returned (.int .i64 (nearN A B)) ∧ Below w.heap.size w w' := by
  obtain ⟨a, cap, b, o, rfl, ha, hcap, hc⟩ := hu
  obtain ⟨a2, cap2, b2, o2, rfl, ha2, hcap2, hc2⟩ := hv
  cases B with
  | nil =>
    go_enter Tryz.func104, Tryz.ntmps104
    go_wp2
    go_ret
    exact ⟨by cases A <;> rfl, Below.refl _ _⟩
  | cons y B =>
    have hy : ¬ ((B.length : Int) + 1 = 0) := by omega
    cases A with
    | nil =>
      go_enter Tryz.func104, Tryz.ntmps104
      go_wp2
      go_ret
      exact ⟨rfl, Below.refl _ _⟩
    | cons x A =>
      obtain rfl := ha (by simp)
      obtain rfl := ha2 (by simp)
      obtain ⟨c0, c1, c2, c3, c4⟩ := hc 0 x rfl
      obtain ⟨d0, d1, d2, d3, d4⟩ := hc2 0 y rfl
      simp only [Nat.zero_mul, Nat.add_zero] at c0 c1 c2 c3 c4 d0 d1 d2 d3 d4
      have hP := fun W => byPath_p x y W (by have := hs x (by simp); omega) (by have := hs y (by simp); omega)
      have HN : Hid (nearN (x :: A) (y :: B) = compareN x.path y.path) := rfl
      clear hc hc2 ha ha2 hs
      go_enter Tryz.func104, Tryz.ntmps104
      go_wp2
      go_region_with (first | (refine (hP _).mono ?_; rintro e w1 ⟨rfl, hb1⟩))
      all_goals (go_wp2; go_ret; exact ⟨by rw [HN.out]; rfl, below_join (below_draw w 1) hb1⟩)
end Go.Proofs.YtgildlfanfbebaaGreatDoor
