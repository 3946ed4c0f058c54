/- The fixed codes. -/
import Derived.Test.YtcoinfancoeepabDoorCodeU
import Derived.Test.YtcoinfancoeepabDoorCodeN
namespace Go.Proofs.YtcoinfancoeepabDoor
open Go Go.RowKit

def litN (n : Nat) : Nat × Nat := if n < 144 then (48 + n, 8) else if n < 256 then (400 + n - 144, 9) else if n < 280 then (n - 256, 7) else (192 + n - 280, 8)
set_option maxRecDepth 100000 in
theorem lit_p (n : Nat) (hn : n < 288) (w : World) : Calls Tryd.prog 59 #[.int .i64 n] w fun e w' => e = .returned (.tuple #[.int .i64 ((litN n).1 : Nat), .int .i64 ((litN n).2 : Nat)]) ∧ w' = w := by
  by_cases h1 : n < 144
  · have h1' : (n : Int) < 144 := by omega
    have HE : Hid (litN n = (48 + n, 8)) := by unfold Hid litN; rw [if_pos h1]
    have s1 : IntKind.i64.wrap (48 + (n : Int)) = ((48 + n : Nat) : Int) := by rw [wrapZ _ (by omega)]; omega
    go_enter Tryd.func59, Tryd.ntmps59
    go_wp2
    go_ret2
    exact ⟨by rw [HE.out]; simp, rfl⟩
  have h1' : ¬ (n : Int) < 144 := by omega
  by_cases h2 : n < 256
  · have h2' : (n : Int) < 256 := by omega
    have HE : Hid (litN n = (400 + n - 144, 9)) := by unfold Hid litN; rw [if_neg h1, if_pos h2]
    go_enter Tryd.func59, Tryd.ntmps59
    go_wp2
    go_ret2
    exact ⟨by rw [HE.out]; simp; omega, rfl⟩
  have h2' : ¬ (n : Int) < 256 := by omega
  by_cases h3 : n < 280
  · have h3' : (n : Int) < 280 := by omega
    have HE : Hid (litN n = (n - 256, 7)) := by unfold Hid litN; rw [if_neg h1, if_neg h2, if_pos h3]
    go_enter Tryd.func59, Tryd.ntmps59
    go_wp2
    go_ret2
    exact ⟨by rw [HE.out]; simp; omega, rfl⟩
  have h3' : ¬ (n : Int) < 280 := by omega
  have HE : Hid (litN n = (192 + n - 280, 8)) := by unfold Hid litN; rw [if_neg h1, if_neg h2, if_neg h3]
  go_enter Tryd.func59, Tryd.ntmps59
  go_wp2
  go_ret2
  exact ⟨by rw [HE.out]; simp; omega, rfl⟩
/-- The sizes of the fixed codes. -/
def szRun : Nat → List Nat
  | 0 => List.replicate 288 0
  | k + 1 => (szRun k).set k (litN k).2
def fvRun : Nat → List Nat
  | 0 => szRun 288
  | k + 1 => (fvRun k).set k 5
theorem szRun_length : ∀ k, (szRun k).length = 288
  | 0 => by rw [szRun, List.length_replicate]
  | k + 1 => by rw [szRun, List.length_set, szRun_length k]
theorem fvRun_length : ∀ k, (fvRun k).length = 288
  | 0 => szRun_length 288
  | k + 1 => by rw [fvRun, List.length_set, fvRun_length k]
def fix1 : List Nat := szRun 288
def fix2 : List Nat := List.replicate 32 5
set_option maxRecDepth 100000 in
theorem fix1_le : ∀ x ∈ fix1, x ≤ 15 := fun x hx => of_decide_eq_true ((List.all_eq_true.1 (show (fix1.all fun x => decide (x ≤ 15)) = true by kernel_rfl)) x hx)
theorem fix2_le : ∀ x ∈ fix2, x ≤ 15 := fun x hx => by rw [List.eq_of_mem_replicate hx]; decide
theorem fv_get : ∀ (n k : Nat), n ≤ 288 → k < n → (fvRun n).getD k 0 = 5
  | 0, k, _, h => by omega
  | n + 1, k, hn, h => by
    rw [fvRun, getD_set', fvRun_length]
    by_cases e : n = k
    · rw [if_pos ⟨e, by omega⟩]
    · rw [if_neg (fun h => e h.1)]; exact fv_get n k (by omega) (by omega)
structure CodeAt (W : World) (g s : Nat) (xs : List Nat) : Prop where
  code : Lies W g 143 (codeC (counts xs) (.slice (some ⟨s, 0, none⟩) (manyN xs) (manyN xs)) (lngRun xs xs.length))
  syms : Lies W s 3 (ints (symRun xs xs.length).2).toArray
theorem CodeAt.below {W W2 : World} {g s : Nat} {xs : List Nat} (h : CodeAt W g s xs) (b : Below W.heap.size W W2) : CodeAt W2 g s xs := ⟨h.code.below b, h.syms.below b⟩
theorem CodeAt.other {W : World} {g s : Nat} {xs : List Nat} (h : CodeAt W g s xs) (b i : Nat) (v : Value) (h1 : b ≠ g) (h2 : b ≠ s) : CodeAt (W.setCell ⟨b, i, none⟩ v) g s xs := ⟨h.code.other v h1, h.syms.other v h2⟩
theorem CodeAt.turned {b : Nat} {W W2 : World} {g s : Nat} {xs : List Nat} (h : CodeAt W g s xs) (k : Turned b W W2) (h1 : g ≠ b) (h2 : s ≠ b) : CodeAt W2 g s xs := ⟨h.code.turned k h1, h.syms.turned k h2⟩
theorem codeOf_q (gz cap n : Nat) (xs : List Nat) (hx : ∀ x ∈ xs, x ≤ 15) (h400 : xs.length ≤ 400) (hn : n = xs.length) (w : World)
    (hI : ∀ k, k < xs.length → w.cell? ⟨gz, k, none⟩ = some (.int .i64 (xs.getD k 0 : Nat))) (hgz : gz < w.heap.size) :
    Calls Tryd.prog 65 #[.slice (some ⟨gz, 0, none⟩) n cap] w fun e w' => ∃ gc gs, e = .returned (.pointer (some ⟨gc, 0, none⟩)) ∧ CodeAt w' gc gs xs ∧ w.heap.size ≤ gc ∧ gc < gs ∧ Below w.heap.size w w' := by
  subst hn
  refine (codeOf_p gz cap xs hx h400 (fun k hk h0 => sym_in xs hx k hk h0) w hI hgz).mono ?_
  rintro e w1 ⟨gc, gs, he, C1, S1, h1, h2, b⟩
  exact ⟨gc, gs, he, ⟨C1, S1⟩, h1, h2, b⟩
set_option maxRecDepth 100000 in
set_option maxHeartbeats 4000000 in
theorem fixed_p (w : World) : Calls Tryd.prog 38 #[] w fun e w' => ∃ g1 s1 g2 s2, e = .returned (.tuple #[.pointer (some ⟨g1, 0, none⟩), .pointer (some ⟨g2, 0, none⟩)]) ∧ CodeAt w' g1 s1 fix1 ∧ CodeAt w' g2 s2 fix2 ∧ w.heap.size ≤ g1 ∧ w.heap.size ≤ s1 ∧ w.heap.size ≤ g2 ∧ w.heap.size ≤ s2 ∧ Below w.heap.size w w' := by
  have hmk : (Instr.makeSlice 113 (.int .i64 288) (.int .i64 288)).run Tryd.prog w = .ok (.slice (some ⟨w.heap.size, 0, none⟩) 288 288) (w.alloc (.cells (ints (List.replicate 288 0)).toArray 3)) := make_ints 288 (by omega) w
  have HL0 : Hid (Lies (w.alloc (.cells (ints (List.replicate 288 0)).toArray 3)) w.heap.size 3 (ints (szRun 0)).toArray) := Lies.new w _ _
  have HB0 : Hid (Below w.heap.size w (w.alloc (.cells (ints (List.replicate 288 0)).toArray 3))) := (Below.refl _ w).alloc (Nat.le_refl _) _
  obtain ⟨Z, hZ⟩ : ∃ Z, (ints (List.replicate 288 0)).toArray = Z := ⟨_, rfl⟩
  rw [hZ] at hmk HL0 HB0
  clear hZ
  go_enter Tryd.func38, Tryd.ntmps38
  go_wp2
  go_loopw [8] (fun i wr => ∃ k : Nat, k ≤ 288 ∧ i = .int .i64 k ∧ Lies wr w.heap.size 3 (ints (szRun k)).toArray ∧ Below w.heap.size w wr) (fun i _ => 288 - (intOf i).toNat)
  case atStart => exact ⟨0, Nat.zero_le _, rfl, HL0.out, HB0.out⟩
  case round =>
    obtain ⟨k, hk, rfl, hL, hB⟩ := hrel
    have hl := szRun_length k
    by_cases hlt : k < 288
    · have hlt' : (k : Int) < 288 := by omega
      have hk0 : (0 : Int) ≤ (k : Int) := by omega
      have c1 := hL.cell (arr_get _ k (by omega))
      have f1 := hL.frozen k
      have L1 := hL.set (i := k) (.int .i64 ((litN k).2 : Nat))
      rw [arr_set] at L1
      have HL1 : Hid (Lies (wr.setCell ⟨w.heap.size, k, none⟩ (.int .i64 ((litN k).2 : Nat))) w.heap.size 3 (ints (szRun (k + 1))).toArray) := L1
      have HB1 : Hid (Below w.heap.size w (wr.setCell ⟨w.heap.size, k, none⟩ (.int .i64 ((litN k).2 : Nat)))) := hB.setCell (p := ⟨w.heap.size, k, none⟩) (Nat.le_refl _) _
      have hlit := lit_p k hlt wr
      clear L1 hL hB hl
      generalize (szRun k).getD k 0 = C at *
      generalize (litN k).1 = V1 at *
      generalize (litN k).2 = V2 at *
      go_wp2_with (go_at_call 59; refine hlit.mono ?_; rintro e w2 ⟨rfl, hw⟩; have hw' := hw.symm; clear hw; subst hw')
      exact ⟨⟨k + 1, by omega, by go_num, HL1.out, HB1.out⟩, by simp [intOf]; omega⟩
    · obtain rfl : k = 288 := by omega
      have hlt' : ¬ (288 : Int) < 288 := by omega
      have HCO : Hid (Calls Tryd.prog 65 #[.slice (some ⟨w.heap.size, 0, none⟩) 288 288] wr fun e w' => ∃ gc gs, e = .returned (.pointer (some ⟨gc, 0, none⟩)) ∧ CodeAt w' gc gs fix1 ∧ wr.heap.size ≤ gc ∧ gc < gs ∧ Below wr.heap.size wr w') := codeOf_q w.heap.size 288 288 fix1 fix1_le (by rw [show fix1.length = 288 from szRun_length 288]; omega) (szRun_length 288).symm wr (fun k hk => hL.cell (arr_get _ k hk)) hL.lt
      clear hmk HL0 HB0
      have HL : Hid (Lies wr w.heap.size 3 (ints (szRun 288)).toArray) := hL
      have hgl := hL.lt
      have hBs := hB.size
      clear hL hl
      go_wp2_with (go_at_call 65; refine HCO.out.mono ?_; rintro e w1 ⟨g1, s1, rfl, hCA, hg1, hs1, b1⟩)
      have hL1 : Lies w1 w.heap.size 3 (ints (fvRun 0)).toArray := HL.out.below b1
      have hB1 : Below w.heap.size w w1 := below_join hB b1
      have n1 : w.heap.size ≠ g1 := by omega
      have n2 : w.heap.size ≠ s1 := by omega
      clear b1 HL HCO hB
      go_loopw [26] (fun i wr => ∃ k : Nat, k ≤ 32 ∧ i = .int .i64 k ∧ Lies wr w.heap.size 3 (ints (fvRun k)).toArray ∧ CodeAt wr g1 s1 fix1 ∧ Below w.heap.size w wr) (fun i _ => 32 - (intOf i).toNat)
      case atStart => exact ⟨0, Nat.zero_le _, rfl, hL1, hCA, hB1⟩
      case round =>
        clear hL1 hCA hB1
        obtain ⟨k, hk, rfl, hL, hC, hB⟩ := hrel
        have hl := fvRun_length k
        by_cases hlt : k < 32
        · have hltX : (k : Int) < 32 := by omega
          have hk0 : (0 : Int) ≤ (k : Int) := by omega
          have c1 := hL.cell (arr_get _ k (by omega))
          have f1 := hL.frozen k
          have L1 := hL.set (i := k) (.int .i64 (5 : Nat))
          rw [arr_set] at L1
          have HL1 : Hid (Lies (wr.setCell ⟨w.heap.size, k, none⟩ (.int .i64 5)) w.heap.size 3 (ints (fvRun (k + 1))).toArray) := L1
          have HB1 : Hid (Below w.heap.size w (wr.setCell ⟨w.heap.size, k, none⟩ (.int .i64 5))) := hB.setCell (p := ⟨w.heap.size, k, none⟩) (Nat.le_refl _) _
          have HC1 : Hid (CodeAt (wr.setCell ⟨w.heap.size, k, none⟩ (.int .i64 5)) g1 s1 fix1) := hC.other _ _ _ n1 n2
          clear L1 hL hB hl hC
          generalize (fvRun k).getD k 0 = C at *
          go_wp2
          exact ⟨⟨k + 1, by omega, by go_num, HL1.out, HC1.out, HB1.out⟩, by simp [intOf]; omega⟩
        · obtain rfl : k = 32 := by omega
          have hltX : ¬ (32 : Int) < 32 := by omega
          have HCO : Hid (Calls Tryd.prog 65 #[.slice (some ⟨w.heap.size, 0, none⟩) 32 288] wr fun e w' => ∃ gc gs, e = .returned (.pointer (some ⟨gc, 0, none⟩)) ∧ CodeAt w' gc gs fix2 ∧ wr.heap.size ≤ gc ∧ gc < gs ∧ Below wr.heap.size wr w') := codeOf_q w.heap.size 288 32 fix2 fix2_le (by decide) (by decide) wr (fun k hk => by
            have hk32 : k < 32 := by simpa [fix2] using hk
            have := hL.cell (arr_get (fvRun 32) k (by omega))
            rw [fv_get 32 k (by omega) hk32] at this
            rw [show fix2.getD k 0 = 5 by unfold fix2; rw [List.getD_eq_getElem?_getD, List.getElem?_replicate, if_pos hk32]; rfl]
            exact this) hL.lt
          have hlt2 := hL.lt
          clear hL hl
          go_wp2_with (go_at_call 65; refine HCO.out.mono ?_; rintro e w2 ⟨g2, s2, rfl, hC2, hg2, hs2, b2⟩)
          go_ret2
          exact ⟨g1, s1, g2, s2, rfl, hC.below b2, hC2, by omega, by omega, by omega, by omega, below_join hB b2⟩
end Go.Proofs.YtcoinfancoeepabDoor
