/- Package check's isOneOf; the statement's own right step in memory. -/
import Derived.Test.YtbmakfdljddhcaaGreatDoorStpC
namespace Go.Proofs.YtbmakfdljddhcaaGreatDoor
open Go Go.RowKit

def IntsAt (W : World) (g : Nat) (L : List Int) : Prop := ∀ (j : Nat) (x : Int), L[j]? = some x → W.cell? ⟨g, j, none⟩ = some (.int .i64 x)
theorem ints_new (W : World) (L : List Int) (t : TypeId) : IntsAt (W.alloc (.cells (L.map (Value.int .i64)).toArray t)) W.heap.size L := fun j x hx => by
  refine (Lies.new W t _).cell ?_
  rw [List.getElem?_toArray, List.getElem?_map, hx]; rfl
theorem idx_p (op : Int) (L : List Int) (g c : Nat) (W : World) (h : IntsAt W g L) (hl : L.length ≤ 100) : Calls Tryz.prog 96 #[.slice (some ⟨g, 0, none⟩) L.length c, .int .i64 op] W fun e w' => (∃ i : Int, e = .returned (.int .i64 i) ∧ decide (0 ≤ i) = decide (op ∈ L)) ∧ w' = W := by
  have HH : Hid (IntsAt W g L) := h
  clear h
  go_enter Tryz.func96, Tryz.ntmps96
  go_wp2
  go_loop [5, 8] (fun _ i => ∃ k : Nat, k ≤ L.length ∧ i = .int .i64 k ∧ Hid (op ∉ L.take k)) (fun _ i => L.length - (intOf i).toNat)
  case atStart => exact ⟨0, Nat.zero_le _, rfl, by simp [Hid]⟩
  case round =>
    obtain ⟨k, hk, rfl, HN⟩ := hrel
    have k0 : (0 : Int) ≤ (k : Int) := by omega
    by_cases hlt : k < L.length
    · have kk : (k : Int) < (L.length : Int) := by omega
      have HKL : Hid (k + 1 ≤ L.length) := hlt
      have hx : L[k]? = some L[k] := List.getElem?_eq_getElem hlt
      have hcell := HH.out k _ hx
      generalize L[k] = x at *
      by_cases he : op = x
      · have q1 : (op == x) = true := by simp [he]
        have HR : Hid (decide (0 ≤ (k : Int)) = decide (op ∈ L)) := by
          unfold Hid
          rw [decide_eq_true (by omega), decide_eq_true (by rw [he]; exact List.mem_of_getElem? hx)]
        clear he hx
        go_wp2
        go_ret
        exact ⟨⟨_, rfl, decide_eq_decide.1 HR.out⟩, rfl⟩
      · have q1 : (op == x) = false := by simp [he]
        have HN2 : Hid (op ∉ L.take (k + 1)) := by
          unfold Hid
          rw [List.take_add_one, hx, List.mem_append]
          rintro (h | h)
          · exact HN.out h
          · simp at h; exact he h
        clear he hx
        go_wp2
        first
          | exact ⟨⟨k + 1, HKL.out, by go_num, HN2⟩, by have := HKL.out; simp [intOf]; omega⟩
          | (go_round
             case rel => exact ⟨k + 1, HKL.out, by go_num, HN2⟩
             case measure => have := HKL.out; simp [intOf]; omega)
    · obtain rfl : k = L.length := by omega
      have kk : ¬ (L.length : Int) < (L.length : Int) := by omega
      have HR : Hid (decide (0 ≤ (-1 : Int)) = decide (op ∈ L)) := by
        unfold Hid
        have := HN.out
        rw [List.take_length] at this
        rw [decide_eq_false this]; rfl
      go_wp2
      go_ret
      exact ⟨⟨_, rfl, decide_eq_decide.1 HR.out⟩, rfl⟩
theorem one_p (op : Int) (L : List Int) (g c : Nat) (W : World) (h : IntsAt W g L) (hl : L.length ≤ 100) : Calls Tryz.prog 70 #[.int .i64 op, .slice (some ⟨g, 0, none⟩) L.length c] W fun e w' => e = .returned (.bool (decide (op ∈ L))) ∧ w' = W := by
  have hi : Calls Tryz.prog 87 #[.slice (some ⟨g, 0, none⟩) L.length c, .int .i64 op] W fun e w' => e = .returned (.bool (decide (op ∈ L))) ∧ w' = W := by
    have hx := idx_p op L g c W h hl
    clear h
    go_enter Tryz.func87, Tryz.ntmps87
    go_wp2_with (go_at_call 96; with_reducible refine hx.mono ?_; rintro e w1 ⟨⟨i, rfl, hd⟩, hw⟩; replace hw := hw.symm; subst hw)
    go_ret
    exact ⟨by rw [← hd]; rfl, rfl⟩
  clear h
  go_enter Tryz.func70, Tryz.ntmps70
  go_wp2_with (go_at_call 87; with_reducible refine hi.mono ?_; rintro e w1 ⟨rfl, hw⟩; replace hw := hw.symm; subst hw)
  go_ret
  exact ⟨rfl, rfl⟩
/-- The step ENV A='x', whose pair lies in block b. -/
def stpC (b : Nat) : Array Value := #[.int .i64 2, .int .i64 2, .string ⟨#[]⟩, .string ⟨#[]⟩, .bool false, .slice (some ⟨b, 0, none⟩) 1 1, .bool false, .slice none 0 0, .slice none 0 0, .slice none 0 0]
def stpV (b : Nat) : Value := .agg (stpC b)
/-- The receiver's box, the step's box, and what lay ahead of the call. -/
structure PS (w W : World) (ln es : Int) (b : Nat) : Prop where
  lp : Lies W w.heap.size 94 #[.int .i64 ln, .int .u8 es]
  ls : Lies W (w.heap.size + 1) 45 (stpC b)
  B : Below w.heap.size w W
theorem PS.below {w W wn : World} {ln es : Int} {b : Nat} (h : PS w W ln es b) (bn : Below W.heap.size W wn) : PS w wn ln es b := ⟨h.lp.below bn, h.ls.below bn, h.B.trans (bn.mono h.B.size)⟩
theorem PS.alloc {w W : World} {ln es : Int} {b : Nat} (h : PS w W ln es b) (o : Obj) : PS w (W.alloc o) ln es b := h.below (plc_below W o)
theorem PS.drew {w W : World} {ln es : Int} {b : Nat} (h : PS w W ln es b) : PS w W.drew ln es b := ⟨h.lp, h.ls, below_drew h.B⟩
theorem PS.new (w : World) (ln es : Int) (b : Nat) : PS w ((w.alloc (.cells #[.int .i64 ln, .int .u8 es] 94)).alloc (.cells (stpC b) 45)) ln es b := by
  refine ⟨(Lies.new w _ _).alloc _, ?_, (plc_below w _).trans ((plc_below _ _).mono (by simp))⟩
  have h := Lies.new (w.alloc (.cells #[.int .i64 ln, .int .u8 es] 94)) 45 (stpC b)
  rwa [World.size_alloc] at h
theorem PS.cells {w W : World} {ln es : Int} {b : Nat} (h : PS w W ln es b) : W.cell? ⟨w.heap.size, 0, none⟩ = some (.int .i64 ln) ∧ W.cell? ⟨w.heap.size, 1, none⟩ = some (.int .u8 es) ∧
    W.cell? ⟨w.heap.size + 1, 0, none⟩ = some (.int .i64 2) ∧ W.cell? ⟨w.heap.size + 1, 2, none⟩ = some (.string ⟨#[]⟩) ∧ W.cell? ⟨w.heap.size + 1, 3, none⟩ = some (.string ⟨#[]⟩) ∧ W.cell? ⟨w.heap.size + 1, 4, none⟩ = some (.bool false) ∧ W.cell? ⟨w.heap.size + 1, 5, none⟩ = some (.slice (some ⟨b, 0, none⟩) 1 1) ∧ W.cell? ⟨w.heap.size + 1, 6, none⟩ = some (.bool false) ∧ W.cell? ⟨w.heap.size + 1, 7, none⟩ = some (.slice none 0 0) ∧ W.cell? ⟨w.heap.size + 1, 8, none⟩ = some (.slice none 0 0) ∧ W.cell? ⟨w.heap.size + 1, 9, none⟩ = some (.slice none 0 0) :=
  ⟨h.lp.cell rfl, h.lp.cell rfl, h.ls.cell rfl, h.ls.cell rfl, h.ls.cell rfl, h.ls.cell rfl, h.ls.cell rfl, h.ls.cell rfl, h.ls.cell rfl, h.ls.cell rfl, h.ls.cell rfl⟩
end Go.Proofs.YtbmakfdljddhcaaGreatDoor
