/- The statements' own texts: each byte in each place of a digest's text. -/
import Derived.Test.YtodgcmhkojkpcaaGreatDoorKnowD
import Derived.Test.YtodgcmhkojkpcaaGreatDoorSumsD
import Derived.Test.YtodgcmhkojkpcaaGreatDoorWrapD
import Derived.Deep.RegionHeld3
namespace Go.Proofs.YtodgcmhkojkpcaaGreatDoor
open Go Go.RowKit

/-- A digest lies in this block. -/
def DigIn (W : World) (g : Nat) : Prop := ∃ l : List UInt8, l.length = 32 ∧ Lies W g 25 (dig32 l)
theorem DigIn.below {W W2 : World} {g : Nat} (h : DigIn W g) (b : Below W.heap.size W W2) : DigIn W2 g := by
  obtain ⟨l, hl, h⟩ := h; exact ⟨l, hl, h.below b⟩
theorem DigIn.set {W : World} {g : Nat} (h : DigIn W g) (i : Nat) (u : UInt8) (b : Int) (hb : (u.toNat : Int) = b) : DigIn (W.setCell ⟨g, i, none⟩ (.int .u8 b)) g := by
  subst hb
  obtain ⟨l, hl, h⟩ := h
  refine ⟨l.set i u, by rw [List.length_set]; exact hl, ?_⟩
  have := h.set (i := i) (.int .u8 u.toNat)
  rw [dig32_set] at this; exact this
theorem DigIn.cell {W : World} {g : Nat} (h : DigIn W g) (i : Nat) (hi : i < 32) : ∃ v, W.cell? ⟨g, i, none⟩ = some v ∧ W.frozen? ⟨g, i, none⟩ = false := by
  obtain ⟨l, hl, h⟩ := h
  exact ⟨_, h.cell (dig32_get l i (by omega)), h.frozen i⟩
set_option maxRecDepth 100000 in
set_option maxHeartbeats 8000000 in
theorem texts_p (G : World → Prop) (hGb : ∀ {u v : World}, G u → Below u.heap.size u v → G v) (HP : Hid (Says1 G 16)) (HD : Hid (SaysD G 17)) (HT : Hid (∀ l : List UInt8, l.length = 32 → ∀ W, Calls Tryz.prog 9 #[.agg (dig32 l)] W fun e w' => (∃ s : ByteArray, e = .returned (.string s) ∧ s.size ≤ 100) ∧ Below W.heap.size W w')) (w : World) (hG : G w) : Calls Tryz.prog 6 #[] w (True' w) := by
  have HG : Hid (G w) := hG
  clear hG
  have hz := (zero_of_info (P := Tryz.prog) info_digest).1
  have hz2 := (zero_of_info (P := Tryz.prog) info_digest).2
  have HZ : Hid (DigIn (w.alloc (.cells (dig32 zeros) 25)) w.heap.size) := ⟨zeros, rfl, Lies.new w _ _⟩
  have HB0 : Hid (Below w.heap.size w (w.alloc (.cells (dig32 zeros) 25))) := (Below.refl _ w).alloc (Nat.le_refl _) _
  go_enter Tryz.func6, Tryz.ntmps6
  go_wp2
  go_loopw [2] (fun i wr => ∃ k : Nat, k ≤ 32 ∧ i = .int .i64 k ∧ DigIn wr w.heap.size ∧ Below w.heap.size w wr) (fun i _ => 32 - (intOf i).toNat)
  case atStart => exact ⟨0, by omega, rfl, HZ.out, HB0.out⟩
  case round =>
    obtain ⟨k, hk, rfl, hD, hB⟩ := hrel
    by_cases hlt : k < 32
    · have hlt' : (k : Int) < 32 := by omega
      have hk0 : (0 : Int) ≤ (k : Int) := by omega
      obtain ⟨v, c0, f0⟩ := hD.cell k hlt
      have HD2 : Hid (DigIn (wr.setCell ⟨w.heap.size, k, none⟩ (.int .u8 (((k : Int) * 37 + 9) % 256))) w.heap.size) := hD.set k (UInt8.ofNat (k * 37 + 9)) _ (by show (((k * 37 + 9) % 256 : Nat) : Int) = _; omega)
      have HB2 : Hid (Below w.heap.size w (wr.setCell ⟨w.heap.size, k, none⟩ (.int .u8 (((k : Int) * 37 + 9) % 256)))) := hB.setCell (p := ⟨w.heap.size, k, none⟩) (Nat.le_refl _) _
      go_wp2
      go_roundw
      case rel => exact ⟨k + 1, by omega, by go_num, HD2.out, HB2.out⟩
      case measure => simp [intOf]; omega
    · have hge : ¬ (k : Int) < 32 := by omega
      obtain ⟨l, hl, hL⟩ := hD
      have hinf : (Tryz.prog.info? 25).map (·.size) = some (dig32 l).size := by rw [dig32_size, hl]; kernel_rfl
      have HTl := HT.out l hl
      go_wp2_with (first
        | (refine wpList_load_row rfl 25 (.tmp 1) rfl w.heap.size rfl 25 (dig32 l) (0, 0) _ hL Tryz.underlying25 rfl hinf ?_)
        | (go_at_call 9; refine (HTl _).mono ?_; rintro e w1 ⟨⟨x, rfl, hx⟩, b1⟩))
      have hD1 : DigIn w1 w.heap.size := ⟨l, hl, hL.below b1⟩
      have hB1 := below_join hB b1
      clear hL hB b1 HTl hinf
      have hx4 : (x.size : Int) ≤ 100 := by omega
      go_loopw [4] (fun n wr => ∃ i : Nat, i ≤ x.size + 1 ∧ n = .int .i64 i ∧ DigIn wr w.heap.size ∧ Below w.heap.size w wr) (fun n _ => x.size + 1 - (intOf n).toNat)
      case atStart => exact ⟨0, by omega, rfl, hD1, hB1⟩
      case round =>
        obtain ⟨i, hi, rfl, hD, hB⟩ := hrel
        clear hD1 hB1
        by_cases hlt2 : i ≤ x.size
        · have hlt2' : (i : Int) ≤ (x.size : Int) := by omega
          have hi0 : (0 : Int) ≤ (i : Int) := by omega
          have hBi : Below w.heap.size w wr := hB
          have hDi : DigIn wr w.heap.size := hD
          clear hB hD
          have e1 := size_ext x 0 i
          have e2 := size_ext x i x.size
          have e3 := size_ext x (i + 1) x.size
          have Ze1 : Hid ((x.extract 0 i).size ≤ x.size) := e1
          go_wp2
          go_loopw [5] (fun n wr => ∃ c : Nat, c ≤ 256 ∧ n = .int .i64 c ∧ DigIn wr w.heap.size ∧ Below w.heap.size w wr) (fun n _ => 256 - (intOf n).toNat)
          case atStart => exact ⟨0, by omega, rfl, hDi, hBi⟩
          case round =>
            obtain ⟨c, hc, rfl, hD, hB⟩ := hrel
            clear hDi hBi
            by_cases hlt3 : c < 256
            · have hlt3' : (c : Int) < 256 := by omega
              have hc0 : (0 : Int) ≤ (c : Int) := by omega
              have hcv := conv_byte (UInt8.ofNat c) (c : Int) (by show ((c % 256 : Nat) : Int) = _; omega) wr
              have zS : (bs [UInt8.ofNat c]).size = 1 := rfl
              generalize bs [UInt8.ofNat c] = S at *
              have Bw : Below w.heap.size w ((wr.alloc (.cells #[.int .u8 (c : Int)] 5)).drew) := below_drawn (hB.alloc hB.size _) 1
              have Dw : DigIn ((wr.alloc (.cells #[.int .u8 (c : Int)] 5)).drew) w.heap.size := hD.below (below_drawn ((Below.refl _ wr).alloc (Nat.le_refl _) _) 1)
              obtain ⟨m, hm⟩ : ∃ m : Int, (c : Int).tmod 32 = m := ⟨_, rfl⟩
              have HP1 := fun W hW => HP.out (x.extract 0 i ++ S ++ x.extract (i + 1) x.size) (by rw [size_app, size_app]; omega) W hW
              have HP2 := fun W hW => HP.out (x.extract 0 i ++ S ++ x.extract i x.size) (by rw [size_app, size_app]; omega) W hW
              obtain ⟨j, hj⟩ : ∃ j : Nat, i + 1 = j := ⟨_, rfl⟩
              rw [hj] at HP1 e3
              have Hj : Hid (i + 1 = j) := hj
              have hji : (i : Int) + 1 = (j : Int) := by omega
              have hwr : IntKind.i64.wrap (j : Int) = (j : Int) := wrap_small j (by omega)
              clear hj hB hD
              by_cases hin : i < x.size
              · have hB1 : (i : Int) < (x.size : Int) := by omega
                have hj2 : (j : Int) ≤ (x.size : Int) := by have := Hj.out; omega
                by_cases hm1 : m = 1
                · have hB2 : (m == 1) = true := by simp [hm1]
                  clear hm1
                  go_wp2
                  refine wp_region_noPanic ?_
                  refine wp_region_held_drew (S := fun _ => True) (by kernel_rfl) trivial (fun h0 => ?_)
                  have Gd := hGb HG.out Bw
                  generalize (wr.alloc (.cells #[.int .u8 (c : Int)] 5)).drew = wd at *
                  refine wpAnyH_take (i := 0) (v := .int .i64 i) rfl (by kernel_rfl) (by kernel_rfl) (by kernel_rfl) (fun _ _ _ h => h) (Or.inl ⟨by rfl, fun w hSw => by clear hSw; go_simp <;> first | omega | (simp [*]; done)⟩) trivial ?_
                  try dsimp [Act.put]
                  try simp only [List.setIfInBounds_toArray, List.set_cons_succ, List.set_cons_zero]
                  refine wpAnyH_take (i := 1) (v := .string x) rfl (by kernel_rfl) (by kernel_rfl) (by kernel_rfl) (fun _ _ _ h => h) (Or.inl ⟨by rfl, fun w hSw => by clear hSw; go_simp <;> first | omega | (simp [*]; done)⟩) trivial ?_
                  try dsimp [Act.put]
                  try simp only [List.setIfInBounds_toArray, List.set_cons_succ, List.set_cons_zero]
                  refine wpAnyH_take (i := 2) (v := .int .i64 x.size) rfl (by kernel_rfl) (by kernel_rfl) (by kernel_rfl) (fun _ _ _ h => h) (Or.inl ⟨by rfl, fun w hSw => by clear hSw; go_simp <;> first | omega | (simp [*]; done)⟩) trivial ?_
                  try dsimp [Act.put]
                  try simp only [List.setIfInBounds_toArray, List.set_cons_succ, List.set_cons_zero]
                  refine wpAnyH_take (i := 3) (v := .bool true) rfl (by kernel_rfl) (by kernel_rfl) (by kernel_rfl) (fun _ _ _ h => h) (Or.inl ⟨by rfl, fun w hSw => by clear hSw; go_simp <;> first | omega | (simp [*]; done)⟩) trivial ?_
                  try dsimp [Act.put]
                  try simp only [List.setIfInBounds_toArray, List.set_cons_succ, List.set_cons_zero]
                  refine wpAnyH_take (i := 4) (v := .bool true) rfl (by kernel_rfl) (by kernel_rfl) (by kernel_rfl) (fun _ _ _ h => h) (Or.inl ⟨by rfl, fun w hSw => by clear hSw; go_simp <;> first | omega | (simp [*]; done)⟩) trivial ?_
                  try dsimp [Act.put]
                  try simp only [List.setIfInBounds_toArray, List.set_cons_succ, List.set_cons_zero]
                  refine wpAnyH_take (i := 5) (v := .string x) rfl (by kernel_rfl) (by kernel_rfl) (by kernel_rfl) (fun _ _ _ h => h) (Or.inl ⟨by rfl, fun w hSw => by clear hSw; go_simp <;> first | omega | (simp [*]; done)⟩) trivial ?_
                  try dsimp [Act.put]
                  try simp only [List.setIfInBounds_toArray, List.set_cons_succ, List.set_cons_zero]
                  refine wpAnyH_take (i := 6) (v := .int .i64 i) rfl (by kernel_rfl) (by kernel_rfl) (by kernel_rfl) (fun _ _ _ h => h) (Or.inl ⟨by rfl, fun w hSw => by clear hSw; go_simp <;> first | omega | (simp [*]; done)⟩) trivial ?_
                  try dsimp [Act.put]
                  try simp only [List.setIfInBounds_toArray, List.set_cons_succ, List.set_cons_zero]
                  refine wpAnyH_take (i := 7) (v := .string (x.extract 0 i)) rfl (by kernel_rfl) (by kernel_rfl) (by kernel_rfl) (fun _ _ _ h => h) (Or.inl ⟨by rfl, fun w hSw => by clear hSw; go_simp <;> first | omega | (simp [*]; done)⟩) trivial ?_
                  try dsimp [Act.put]
                  try simp only [List.setIfInBounds_toArray, List.set_cons_succ, List.set_cons_zero]
                  refine wpAnyH_take (i := 8) (v := .string S) rfl (by kernel_rfl) (by kernel_rfl) (by kernel_rfl) (fun _ _ _ h => h) (Or.inl ⟨by rfl, fun w hSw => by clear hSw; go_simp <;> first | omega | (simp [*]; done)⟩) trivial ?_
                  try dsimp [Act.put]
                  try simp only [List.setIfInBounds_toArray, List.set_cons_succ, List.set_cons_zero]
                  refine wpAnyH_take (i := 9) (v := .string (x.extract 0 i ++ S)) rfl (by kernel_rfl) (by kernel_rfl) (by kernel_rfl) (fun _ _ _ h => h) (Or.inl ⟨by rfl, fun w hSw => by clear hSw; go_simp <;> first | omega | (simp [*]; done)⟩) trivial ?_
                  try dsimp [Act.put]
                  try simp only [List.setIfInBounds_toArray, List.set_cons_succ, List.set_cons_zero]
                  refine wpAnyH_take (i := 10) (v := .string x) rfl (by kernel_rfl) (by kernel_rfl) (by kernel_rfl) (fun _ _ _ h => h) (Or.inl ⟨by rfl, fun w hSw => by clear hSw; go_simp <;> first | omega | (simp [*]; done)⟩) trivial ?_
                  try dsimp [Act.put]
                  try simp only [List.setIfInBounds_toArray, List.set_cons_succ, List.set_cons_zero]
                  refine wpAnyH_take (i := 11) (v := .int .i64 i) rfl (by kernel_rfl) (by kernel_rfl) (by kernel_rfl) (fun _ _ _ h => h) (Or.inl ⟨by rfl, fun w hSw => by clear hSw; go_simp <;> first | omega | (simp [*]; done)⟩) trivial ?_
                  try dsimp [Act.put]
                  try simp only [List.setIfInBounds_toArray, List.set_cons_succ, List.set_cons_zero]
                  refine wpAnyH_take (i := 12) (v := .int .i64 j) rfl (by kernel_rfl) (by kernel_rfl) (by kernel_rfl) (fun _ _ _ h => h) (Or.inl ⟨by rfl, fun w hSw => by clear hSw; go_simp <;> first | omega | (simp [*]; done)⟩) trivial ?_
                  try dsimp [Act.put]
                  try simp only [List.setIfInBounds_toArray, List.set_cons_succ, List.set_cons_zero]
                  refine wpAnyH_take (i := 13) (v := .string (x.extract j x.size)) rfl (by kernel_rfl) (by kernel_rfl) (by kernel_rfl) (fun _ _ _ h => h) (Or.inl ⟨by rfl, fun w hSw => by clear hSw; go_simp <;> first | omega | (simp [*]; done)⟩) trivial ?_
                  try dsimp [Act.put]
                  try simp only [List.setIfInBounds_toArray, List.set_cons_succ, List.set_cons_zero]
                  refine wpAnyH_take (i := 14) (v := .string (x.extract 0 i ++ S ++ x.extract j x.size)) rfl (by kernel_rfl) (by kernel_rfl) (by kernel_rfl) (fun _ _ _ h => h) (Or.inl ⟨by rfl, fun w hSw => by clear hSw; go_simp <;> first | omega | (simp [*]; done)⟩) trivial ?_
                  try dsimp [Act.put]
                  try simp only [List.setIfInBounds_toArray, List.set_cons_succ, List.set_cons_zero]
                  refine wpAnyH_ready (rs := [15]) (by kernel_rfl) (by simp) ?_
                  refine AllReadyH.cons rfl ?_ AllReadyH.nil
                  intro K' hK
                  rw [if_pos (by rfl)]
                  go_simp
                  refine (HP1 wd Gd).mono ?_
                  rintro e w1 ⟨rfl, b1⟩
                  have B1 := below_join Bw b1
                  have D1 := Dw.below b1
                  refine hK.out _ _ trivial (fun _ => ?_)
                  clear hK
                  try dsimp [Act.put]
                  try simp only [List.setIfInBounds_toArray, List.set_cons_succ, List.set_cons_zero]
                  refine wpAnyH_take (i := 16) (v := .bool false) rfl (by kernel_rfl) (by kernel_rfl) (by kernel_rfl) (fun _ _ _ h => h) (Or.inl ⟨by rfl, fun w hSw => by clear hSw; go_simp <;> first | omega | (simp [*]; done)⟩) trivial ?_
                  try dsimp [Act.put]
                  try simp only [List.setIfInBounds_toArray, List.set_cons_succ, List.set_cons_zero]
                  refine wpAnyH_take (i := 17) (v := .bool false) rfl (by kernel_rfl) (by kernel_rfl) (by kernel_rfl) (fun _ _ _ h => h) (Or.inl ⟨by rfl, fun w hSw => by clear hSw; go_simp <;> first | omega | (simp [*]; done)⟩) trivial ?_
                  try dsimp [Act.put]
                  try simp only [List.setIfInBounds_toArray, List.set_cons_succ, List.set_cons_zero]
                  refine wpAnyH_take (i := 18) (v := .bool false) rfl (by kernel_rfl) (by kernel_rfl) (by kernel_rfl) (fun _ _ _ h => h) (Or.inl ⟨by rfl, fun w hSw => by clear hSw; go_simp <;> first | omega | (simp [*]; done)⟩) trivial ?_
                  try dsimp [Act.put]
                  try simp only [List.setIfInBounds_toArray, List.set_cons_succ, List.set_cons_zero]
                  refine wpAnyH_take (i := 19) (v := .int .i64 c) rfl (by kernel_rfl) (by kernel_rfl) (by kernel_rfl) (fun _ _ _ h => h) (Or.inl ⟨by rfl, fun w hSw => by clear hSw; go_simp <;> first | omega | (simp [*]; done)⟩) trivial ?_
                  try dsimp [Act.put]
                  try simp only [List.setIfInBounds_toArray, List.set_cons_succ, List.set_cons_zero]
                  refine wpAnyH_take (i := 20) (v := .int .i64 m) rfl (by kernel_rfl) (by kernel_rfl) (by kernel_rfl) (fun _ _ _ h => h) (Or.inl ⟨by rfl, fun w hSw => by clear hSw; go_simp <;> first | omega | (simp [*]; done)⟩) trivial ?_
                  try dsimp [Act.put]
                  try simp only [List.setIfInBounds_toArray, List.set_cons_succ, List.set_cons_zero]
                  refine wpAnyH_take (i := 21) (v := .bool true) rfl (by kernel_rfl) (by kernel_rfl) (by kernel_rfl) (fun _ _ _ h => h) (Or.inl ⟨by rfl, fun w hSw => by clear hSw; go_simp <;> first | omega | (simp [*]; done)⟩) trivial ?_
                  try dsimp [Act.put]
                  try simp only [List.setIfInBounds_toArray, List.set_cons_succ, List.set_cons_zero]
                  refine wpAnyH_take (i := 22) (v := .bool true) rfl (by kernel_rfl) (by kernel_rfl) (by kernel_rfl) (fun _ _ _ h => h) (Or.inl ⟨by rfl, fun w hSw => by clear hSw; go_simp <;> first | omega | (simp [*]; done)⟩) trivial ?_
                  try dsimp [Act.put]
                  try simp only [List.setIfInBounds_toArray, List.set_cons_succ, List.set_cons_zero]
                  refine wpAnyH_take (i := 23) (v := .string x) rfl (by kernel_rfl) (by kernel_rfl) (by kernel_rfl) (fun _ _ _ h => h) (Or.inl ⟨by rfl, fun w hSw => by clear hSw; go_simp <;> first | omega | (simp [*]; done)⟩) trivial ?_
                  try dsimp [Act.put]
                  try simp only [List.setIfInBounds_toArray, List.set_cons_succ, List.set_cons_zero]
                  refine wpAnyH_take (i := 24) (v := .int .i64 i) rfl (by kernel_rfl) (by kernel_rfl) (by kernel_rfl) (fun _ _ _ h => h) (Or.inl ⟨by rfl, fun w hSw => by clear hSw; go_simp <;> first | omega | (simp [*]; done)⟩) trivial ?_
                  try dsimp [Act.put]
                  try simp only [List.setIfInBounds_toArray, List.set_cons_succ, List.set_cons_zero]
                  refine wpAnyH_take (i := 25) (v := .string (x.extract 0 i)) rfl (by kernel_rfl) (by kernel_rfl) (by kernel_rfl) (fun _ _ _ h => h) (Or.inl ⟨by rfl, fun w hSw => by clear hSw; go_simp <;> first | omega | (simp [*]; done)⟩) trivial ?_
                  try dsimp [Act.put]
                  try simp only [List.setIfInBounds_toArray, List.set_cons_succ, List.set_cons_zero]
                  refine wpAnyH_take (i := 26) (v := .string S) rfl (by kernel_rfl) (by kernel_rfl) (by kernel_rfl) (fun _ _ _ h => h) (Or.inl ⟨by rfl, fun w hSw => by clear hSw; go_simp <;> first | omega | (simp [*]; done)⟩) trivial ?_
                  try dsimp [Act.put]
                  try simp only [List.setIfInBounds_toArray, List.set_cons_succ, List.set_cons_zero]
                  refine wpAnyH_take (i := 27) (v := .string (x.extract 0 i ++ S)) rfl (by kernel_rfl) (by kernel_rfl) (by kernel_rfl) (fun _ _ _ h => h) (Or.inl ⟨by rfl, fun w hSw => by clear hSw; go_simp <;> first | omega | (simp [*]; done)⟩) trivial ?_
                  try dsimp [Act.put]
                  try simp only [List.setIfInBounds_toArray, List.set_cons_succ, List.set_cons_zero]
                  refine wpAnyH_take (i := 28) (v := .string x) rfl (by kernel_rfl) (by kernel_rfl) (by kernel_rfl) (fun _ _ _ h => h) (Or.inl ⟨by rfl, fun w hSw => by clear hSw; go_simp <;> first | omega | (simp [*]; done)⟩) trivial ?_
                  try dsimp [Act.put]
                  try simp only [List.setIfInBounds_toArray, List.set_cons_succ, List.set_cons_zero]
                  refine wpAnyH_take (i := 29) (v := .int .i64 i) rfl (by kernel_rfl) (by kernel_rfl) (by kernel_rfl) (fun _ _ _ h => h) (Or.inl ⟨by rfl, fun w hSw => by clear hSw; go_simp <;> first | omega | (simp [*]; done)⟩) trivial ?_
                  try dsimp [Act.put]
                  try simp only [List.setIfInBounds_toArray, List.set_cons_succ, List.set_cons_zero]
                  refine wpAnyH_take (i := 30) (v := .string (x.extract i x.size)) rfl (by kernel_rfl) (by kernel_rfl) (by kernel_rfl) (fun _ _ _ h => h) (Or.inl ⟨by rfl, fun w hSw => by clear hSw; go_simp <;> first | omega | (simp [*]; done)⟩) trivial ?_
                  try dsimp [Act.put]
                  try simp only [List.setIfInBounds_toArray, List.set_cons_succ, List.set_cons_zero]
                  refine wpAnyH_take (i := 31) (v := .string (x.extract 0 i ++ S ++ x.extract i x.size)) rfl (by kernel_rfl) (by kernel_rfl) (by kernel_rfl) (fun _ _ _ h => h) (Or.inl ⟨by rfl, fun w hSw => by clear hSw; go_simp <;> first | omega | (simp [*]; done)⟩) trivial ?_
                  try dsimp [Act.put]
                  try simp only [List.setIfInBounds_toArray, List.set_cons_succ, List.set_cons_zero]
                  refine wpAnyH_ready (rs := [32]) (by kernel_rfl) (by simp) ?_
                  refine AllReadyH.cons rfl ?_ AllReadyH.nil
                  intro K' hK
                  rw [if_pos (by rfl)]
                  go_simp
                  refine (HP2 w1 (hGb HG.out B1)).mono ?_
                  rintro e w2 ⟨rfl, b2⟩
                  have B2 := below_join B1 b2
                  have D2 := D1.below b2
                  refine hK.out _ _ trivial (fun _ => ?_)
                  clear hK
                  try dsimp [Act.put]
                  try simp only [List.setIfInBounds_toArray, List.set_cons_succ, List.set_cons_zero]
                  refine wpAnyH_take (i := 33) (v := .bool false) rfl (by kernel_rfl) (by kernel_rfl) (by kernel_rfl) (fun _ _ _ h => h) (Or.inl ⟨by rfl, fun w hSw => by clear hSw; go_simp <;> first | omega | (simp [*]; done)⟩) trivial ?_
                  try dsimp [Act.put]
                  try simp only [List.setIfInBounds_toArray, List.set_cons_succ, List.set_cons_zero]
                  refine wpAnyH_take (i := 34) (v := .bool false) rfl (by kernel_rfl) (by kernel_rfl) (by kernel_rfl) (fun _ _ _ h => h) (Or.inl ⟨by rfl, fun w hSw => by clear hSw; go_simp <;> first | omega | (simp [*]; done)⟩) trivial ?_
                  try dsimp [Act.put]
                  try simp only [List.setIfInBounds_toArray, List.set_cons_succ, List.set_cons_zero]
                  refine wpAnyH_take (i := 35) (v := .bool false) rfl (by kernel_rfl) (by kernel_rfl) (by kernel_rfl) (fun _ _ _ h => h) (Or.inl ⟨by rfl, fun w hSw => by clear hSw; go_simp <;> first | omega | (simp [*]; done)⟩) trivial ?_
                  try dsimp [Act.put]
                  try simp only [List.setIfInBounds_toArray, List.set_cons_succ, List.set_cons_zero]
                  refine wpAnyH_done (by kernel_rfl) ?_ _
                  refine NoPanic.normal ?_
                  clear hji hwr
                  go_wp2
                  go_roundw
                  case rel => exact ⟨c + 1, by omega, by go_num, D2, B2⟩
                  case measure => simp [intOf]; omega
                · have hB2 : (m == 1) = false := by simp [hm1]
                  clear hm1
                  go_wp2
                  refine wp_region_noPanic ?_
                  refine wp_region_held_drew (S := fun _ => True) (by kernel_rfl) trivial (fun h0 => ?_)
                  have Gd := hGb HG.out Bw
                  generalize (wr.alloc (.cells #[.int .u8 (c : Int)] 5)).drew = wd at *
                  refine wpAnyH_take (i := 0) (v := .int .i64 i) rfl (by kernel_rfl) (by kernel_rfl) (by kernel_rfl) (fun _ _ _ h => h) (Or.inl ⟨by rfl, fun w hSw => by clear hSw; go_simp <;> first | omega | (simp [*]; done)⟩) trivial ?_
                  try dsimp [Act.put]
                  try simp only [List.setIfInBounds_toArray, List.set_cons_succ, List.set_cons_zero]
                  refine wpAnyH_take (i := 1) (v := .string x) rfl (by kernel_rfl) (by kernel_rfl) (by kernel_rfl) (fun _ _ _ h => h) (Or.inl ⟨by rfl, fun w hSw => by clear hSw; go_simp <;> first | omega | (simp [*]; done)⟩) trivial ?_
                  try dsimp [Act.put]
                  try simp only [List.setIfInBounds_toArray, List.set_cons_succ, List.set_cons_zero]
                  refine wpAnyH_take (i := 2) (v := .int .i64 x.size) rfl (by kernel_rfl) (by kernel_rfl) (by kernel_rfl) (fun _ _ _ h => h) (Or.inl ⟨by rfl, fun w hSw => by clear hSw; go_simp <;> first | omega | (simp [*]; done)⟩) trivial ?_
                  try dsimp [Act.put]
                  try simp only [List.setIfInBounds_toArray, List.set_cons_succ, List.set_cons_zero]
                  refine wpAnyH_take (i := 3) (v := .bool true) rfl (by kernel_rfl) (by kernel_rfl) (by kernel_rfl) (fun _ _ _ h => h) (Or.inl ⟨by rfl, fun w hSw => by clear hSw; go_simp <;> first | omega | (simp [*]; done)⟩) trivial ?_
                  try dsimp [Act.put]
                  try simp only [List.setIfInBounds_toArray, List.set_cons_succ, List.set_cons_zero]
                  refine wpAnyH_take (i := 4) (v := .bool true) rfl (by kernel_rfl) (by kernel_rfl) (by kernel_rfl) (fun _ _ _ h => h) (Or.inl ⟨by rfl, fun w hSw => by clear hSw; go_simp <;> first | omega | (simp [*]; done)⟩) trivial ?_
                  try dsimp [Act.put]
                  try simp only [List.setIfInBounds_toArray, List.set_cons_succ, List.set_cons_zero]
                  refine wpAnyH_take (i := 5) (v := .string x) rfl (by kernel_rfl) (by kernel_rfl) (by kernel_rfl) (fun _ _ _ h => h) (Or.inl ⟨by rfl, fun w hSw => by clear hSw; go_simp <;> first | omega | (simp [*]; done)⟩) trivial ?_
                  try dsimp [Act.put]
                  try simp only [List.setIfInBounds_toArray, List.set_cons_succ, List.set_cons_zero]
                  refine wpAnyH_take (i := 6) (v := .int .i64 i) rfl (by kernel_rfl) (by kernel_rfl) (by kernel_rfl) (fun _ _ _ h => h) (Or.inl ⟨by rfl, fun w hSw => by clear hSw; go_simp <;> first | omega | (simp [*]; done)⟩) trivial ?_
                  try dsimp [Act.put]
                  try simp only [List.setIfInBounds_toArray, List.set_cons_succ, List.set_cons_zero]
                  refine wpAnyH_take (i := 7) (v := .string (x.extract 0 i)) rfl (by kernel_rfl) (by kernel_rfl) (by kernel_rfl) (fun _ _ _ h => h) (Or.inl ⟨by rfl, fun w hSw => by clear hSw; go_simp <;> first | omega | (simp [*]; done)⟩) trivial ?_
                  try dsimp [Act.put]
                  try simp only [List.setIfInBounds_toArray, List.set_cons_succ, List.set_cons_zero]
                  refine wpAnyH_take (i := 8) (v := .string S) rfl (by kernel_rfl) (by kernel_rfl) (by kernel_rfl) (fun _ _ _ h => h) (Or.inl ⟨by rfl, fun w hSw => by clear hSw; go_simp <;> first | omega | (simp [*]; done)⟩) trivial ?_
                  try dsimp [Act.put]
                  try simp only [List.setIfInBounds_toArray, List.set_cons_succ, List.set_cons_zero]
                  refine wpAnyH_take (i := 9) (v := .string (x.extract 0 i ++ S)) rfl (by kernel_rfl) (by kernel_rfl) (by kernel_rfl) (fun _ _ _ h => h) (Or.inl ⟨by rfl, fun w hSw => by clear hSw; go_simp <;> first | omega | (simp [*]; done)⟩) trivial ?_
                  try dsimp [Act.put]
                  try simp only [List.setIfInBounds_toArray, List.set_cons_succ, List.set_cons_zero]
                  refine wpAnyH_take (i := 10) (v := .string x) rfl (by kernel_rfl) (by kernel_rfl) (by kernel_rfl) (fun _ _ _ h => h) (Or.inl ⟨by rfl, fun w hSw => by clear hSw; go_simp <;> first | omega | (simp [*]; done)⟩) trivial ?_
                  try dsimp [Act.put]
                  try simp only [List.setIfInBounds_toArray, List.set_cons_succ, List.set_cons_zero]
                  refine wpAnyH_take (i := 11) (v := .int .i64 i) rfl (by kernel_rfl) (by kernel_rfl) (by kernel_rfl) (fun _ _ _ h => h) (Or.inl ⟨by rfl, fun w hSw => by clear hSw; go_simp <;> first | omega | (simp [*]; done)⟩) trivial ?_
                  try dsimp [Act.put]
                  try simp only [List.setIfInBounds_toArray, List.set_cons_succ, List.set_cons_zero]
                  refine wpAnyH_take (i := 12) (v := .int .i64 j) rfl (by kernel_rfl) (by kernel_rfl) (by kernel_rfl) (fun _ _ _ h => h) (Or.inl ⟨by rfl, fun w hSw => by clear hSw; go_simp <;> first | omega | (simp [*]; done)⟩) trivial ?_
                  try dsimp [Act.put]
                  try simp only [List.setIfInBounds_toArray, List.set_cons_succ, List.set_cons_zero]
                  refine wpAnyH_take (i := 13) (v := .string (x.extract j x.size)) rfl (by kernel_rfl) (by kernel_rfl) (by kernel_rfl) (fun _ _ _ h => h) (Or.inl ⟨by rfl, fun w hSw => by clear hSw; go_simp <;> first | omega | (simp [*]; done)⟩) trivial ?_
                  try dsimp [Act.put]
                  try simp only [List.setIfInBounds_toArray, List.set_cons_succ, List.set_cons_zero]
                  refine wpAnyH_take (i := 14) (v := .string (x.extract 0 i ++ S ++ x.extract j x.size)) rfl (by kernel_rfl) (by kernel_rfl) (by kernel_rfl) (fun _ _ _ h => h) (Or.inl ⟨by rfl, fun w hSw => by clear hSw; go_simp <;> first | omega | (simp [*]; done)⟩) trivial ?_
                  try dsimp [Act.put]
                  try simp only [List.setIfInBounds_toArray, List.set_cons_succ, List.set_cons_zero]
                  refine wpAnyH_ready (rs := [15]) (by kernel_rfl) (by simp) ?_
                  refine AllReadyH.cons rfl ?_ AllReadyH.nil
                  intro K' hK
                  rw [if_pos (by rfl)]
                  go_simp
                  refine (HP1 wd Gd).mono ?_
                  rintro e w1 ⟨rfl, b1⟩
                  have B1 := below_join Bw b1
                  have D1 := Dw.below b1
                  refine hK.out _ _ trivial (fun _ => ?_)
                  clear hK
                  try dsimp [Act.put]
                  try simp only [List.setIfInBounds_toArray, List.set_cons_succ, List.set_cons_zero]
                  refine wpAnyH_take (i := 16) (v := .bool false) rfl (by kernel_rfl) (by kernel_rfl) (by kernel_rfl) (fun _ _ _ h => h) (Or.inl ⟨by rfl, fun w hSw => by clear hSw; go_simp <;> first | omega | (simp [*]; done)⟩) trivial ?_
                  try dsimp [Act.put]
                  try simp only [List.setIfInBounds_toArray, List.set_cons_succ, List.set_cons_zero]
                  refine wpAnyH_take (i := 17) (v := .bool false) rfl (by kernel_rfl) (by kernel_rfl) (by kernel_rfl) (fun _ _ _ h => h) (Or.inl ⟨by rfl, fun w hSw => by clear hSw; go_simp <;> first | omega | (simp [*]; done)⟩) trivial ?_
                  try dsimp [Act.put]
                  try simp only [List.setIfInBounds_toArray, List.set_cons_succ, List.set_cons_zero]
                  refine wpAnyH_take (i := 18) (v := .bool false) rfl (by kernel_rfl) (by kernel_rfl) (by kernel_rfl) (fun _ _ _ h => h) (Or.inl ⟨by rfl, fun w hSw => by clear hSw; go_simp <;> first | omega | (simp [*]; done)⟩) trivial ?_
                  try dsimp [Act.put]
                  try simp only [List.setIfInBounds_toArray, List.set_cons_succ, List.set_cons_zero]
                  refine wpAnyH_take (i := 19) (v := .int .i64 c) rfl (by kernel_rfl) (by kernel_rfl) (by kernel_rfl) (fun _ _ _ h => h) (Or.inl ⟨by rfl, fun w hSw => by clear hSw; go_simp <;> first | omega | (simp [*]; done)⟩) trivial ?_
                  try dsimp [Act.put]
                  try simp only [List.setIfInBounds_toArray, List.set_cons_succ, List.set_cons_zero]
                  refine wpAnyH_take (i := 20) (v := .int .i64 m) rfl (by kernel_rfl) (by kernel_rfl) (by kernel_rfl) (fun _ _ _ h => h) (Or.inl ⟨by rfl, fun w hSw => by clear hSw; go_simp <;> first | omega | (simp [*]; done)⟩) trivial ?_
                  try dsimp [Act.put]
                  try simp only [List.setIfInBounds_toArray, List.set_cons_succ, List.set_cons_zero]
                  refine wpAnyH_take (i := 21) (v := .bool false) rfl (by kernel_rfl) (by kernel_rfl) (by kernel_rfl) (fun _ _ _ h => h) (Or.inl ⟨by rfl, fun w hSw => by clear hSw; go_simp <;> first | omega | (simp [*]; done)⟩) trivial ?_
                  try dsimp [Act.put]
                  try simp only [List.setIfInBounds_toArray, List.set_cons_succ, List.set_cons_zero]
                  refine wpAnyH_take (i := 22) (v := .bool false) rfl (by kernel_rfl) (by kernel_rfl) (by kernel_rfl) (fun _ _ _ h => h) (Or.inl ⟨by rfl, fun w hSw => by clear hSw; go_simp <;> first | omega | (simp [*]; done)⟩) trivial ?_
                  try dsimp [Act.put]
                  try simp only [List.setIfInBounds_toArray, List.set_cons_succ, List.set_cons_zero]
                  refine wpAnyH_take (i := 23) (v := undef) rfl (by kernel_rfl) (by kernel_rfl) (by kernel_rfl) (fun _ _ _ h => h) (Or.inr ⟨by rfl, rfl⟩) trivial ?_
                  try dsimp [Act.put]
                  try simp only [List.setIfInBounds_toArray, List.set_cons_succ, List.set_cons_zero]
                  refine wpAnyH_take (i := 24) (v := undef) rfl (by kernel_rfl) (by kernel_rfl) (by kernel_rfl) (fun _ _ _ h => h) (Or.inr ⟨by rfl, rfl⟩) trivial ?_
                  try dsimp [Act.put]
                  try simp only [List.setIfInBounds_toArray, List.set_cons_succ, List.set_cons_zero]
                  refine wpAnyH_take (i := 25) (v := undef) rfl (by kernel_rfl) (by kernel_rfl) (by kernel_rfl) (fun _ _ _ h => h) (Or.inr ⟨by rfl, rfl⟩) trivial ?_
                  try dsimp [Act.put]
                  try simp only [List.setIfInBounds_toArray, List.set_cons_succ, List.set_cons_zero]
                  refine wpAnyH_take (i := 26) (v := undef) rfl (by kernel_rfl) (by kernel_rfl) (by kernel_rfl) (fun _ _ _ h => h) (Or.inr ⟨by rfl, rfl⟩) trivial ?_
                  try dsimp [Act.put]
                  try simp only [List.setIfInBounds_toArray, List.set_cons_succ, List.set_cons_zero]
                  refine wpAnyH_take (i := 27) (v := undef) rfl (by kernel_rfl) (by kernel_rfl) (by kernel_rfl) (fun _ _ _ h => h) (Or.inr ⟨by rfl, rfl⟩) trivial ?_
                  try dsimp [Act.put]
                  try simp only [List.setIfInBounds_toArray, List.set_cons_succ, List.set_cons_zero]
                  refine wpAnyH_take (i := 28) (v := undef) rfl (by kernel_rfl) (by kernel_rfl) (by kernel_rfl) (fun _ _ _ h => h) (Or.inr ⟨by rfl, rfl⟩) trivial ?_
                  try dsimp [Act.put]
                  try simp only [List.setIfInBounds_toArray, List.set_cons_succ, List.set_cons_zero]
                  refine wpAnyH_take (i := 29) (v := undef) rfl (by kernel_rfl) (by kernel_rfl) (by kernel_rfl) (fun _ _ _ h => h) (Or.inr ⟨by rfl, rfl⟩) trivial ?_
                  try dsimp [Act.put]
                  try simp only [List.setIfInBounds_toArray, List.set_cons_succ, List.set_cons_zero]
                  refine wpAnyH_take (i := 30) (v := undef) rfl (by kernel_rfl) (by kernel_rfl) (by kernel_rfl) (fun _ _ _ h => h) (Or.inr ⟨by rfl, rfl⟩) trivial ?_
                  try dsimp [Act.put]
                  try simp only [List.setIfInBounds_toArray, List.set_cons_succ, List.set_cons_zero]
                  refine wpAnyH_take (i := 31) (v := undef) rfl (by kernel_rfl) (by kernel_rfl) (by kernel_rfl) (fun _ _ _ h => h) (Or.inr ⟨by rfl, rfl⟩) trivial ?_
                  try dsimp [Act.put]
                  try simp only [List.setIfInBounds_toArray, List.set_cons_succ, List.set_cons_zero]
                  refine wpAnyH_take (i := 32) (v := undef) rfl (by kernel_rfl) (by kernel_rfl) (by kernel_rfl) (fun _ _ _ h => h) (Or.inr ⟨by rfl, rfl⟩) trivial ?_
                  try dsimp [Act.put]
                  try simp only [List.setIfInBounds_toArray, List.set_cons_succ, List.set_cons_zero]
                  refine wpAnyH_take (i := 33) (v := undef) rfl (by kernel_rfl) (by kernel_rfl) (by kernel_rfl) (fun _ _ _ h => h) (Or.inr ⟨by rfl, rfl⟩) trivial ?_
                  try dsimp [Act.put]
                  try simp only [List.setIfInBounds_toArray, List.set_cons_succ, List.set_cons_zero]
                  refine wpAnyH_take (i := 34) (v := .bool false) rfl (by kernel_rfl) (by kernel_rfl) (by kernel_rfl) (fun _ _ _ h => h) (Or.inl ⟨by rfl, fun w hSw => by clear hSw; go_simp <;> first | omega | (simp [*]; done)⟩) trivial ?_
                  try dsimp [Act.put]
                  try simp only [List.setIfInBounds_toArray, List.set_cons_succ, List.set_cons_zero]
                  refine wpAnyH_take (i := 35) (v := .bool false) rfl (by kernel_rfl) (by kernel_rfl) (by kernel_rfl) (fun _ _ _ h => h) (Or.inl ⟨by rfl, fun w hSw => by clear hSw; go_simp <;> first | omega | (simp [*]; done)⟩) trivial ?_
                  try dsimp [Act.put]
                  try simp only [List.setIfInBounds_toArray, List.set_cons_succ, List.set_cons_zero]
                  refine wpAnyH_done (by kernel_rfl) ?_ _
                  refine NoPanic.normal ?_
                  clear hji hwr
                  go_wp2
                  go_roundw
                  case rel => exact ⟨c + 1, by omega, by go_num, D1, B1⟩
                  case measure => simp [intOf]; omega
              · have hB1 : decide ((i : Int) < (x.size : Int)) = false := by simp; omega
                by_cases hm1 : m = 1
                · have hB2 : (m == 1) = true := by simp [hm1]
                  clear hm1
                  go_wp2
                  refine wp_region_noPanic ?_
                  refine wp_region_held_drew (S := fun _ => True) (by kernel_rfl) trivial (fun h0 => ?_)
                  have Gd := hGb HG.out Bw
                  generalize (wr.alloc (.cells #[.int .u8 (c : Int)] 5)).drew = wd at *
                  refine wpAnyH_take (i := 0) (v := .int .i64 i) rfl (by kernel_rfl) (by kernel_rfl) (by kernel_rfl) (fun _ _ _ h => h) (Or.inl ⟨by rfl, fun w hSw => by clear hSw; go_simp <;> first | omega | (simp [*]; done)⟩) trivial ?_
                  try dsimp [Act.put]
                  try simp only [List.setIfInBounds_toArray, List.set_cons_succ, List.set_cons_zero]
                  refine wpAnyH_take (i := 1) (v := .string x) rfl (by kernel_rfl) (by kernel_rfl) (by kernel_rfl) (fun _ _ _ h => h) (Or.inl ⟨by rfl, fun w hSw => by clear hSw; go_simp <;> first | omega | (simp [*]; done)⟩) trivial ?_
                  try dsimp [Act.put]
                  try simp only [List.setIfInBounds_toArray, List.set_cons_succ, List.set_cons_zero]
                  refine wpAnyH_take (i := 2) (v := .int .i64 x.size) rfl (by kernel_rfl) (by kernel_rfl) (by kernel_rfl) (fun _ _ _ h => h) (Or.inl ⟨by rfl, fun w hSw => by clear hSw; go_simp <;> first | omega | (simp [*]; done)⟩) trivial ?_
                  try dsimp [Act.put]
                  try simp only [List.setIfInBounds_toArray, List.set_cons_succ, List.set_cons_zero]
                  refine wpAnyH_take (i := 3) (v := .bool false) rfl (by kernel_rfl) (by kernel_rfl) (by kernel_rfl) (fun _ _ _ h => h) (Or.inl ⟨by rfl, fun w hSw => by clear hSw; go_simp <;> first | omega | (simp [*]; done)⟩) trivial ?_
                  try dsimp [Act.put]
                  try simp only [List.setIfInBounds_toArray, List.set_cons_succ, List.set_cons_zero]
                  refine wpAnyH_take (i := 4) (v := .bool false) rfl (by kernel_rfl) (by kernel_rfl) (by kernel_rfl) (fun _ _ _ h => h) (Or.inl ⟨by rfl, fun w hSw => by clear hSw; go_simp <;> first | omega | (simp [*]; done)⟩) trivial ?_
                  try dsimp [Act.put]
                  try simp only [List.setIfInBounds_toArray, List.set_cons_succ, List.set_cons_zero]
                  refine wpAnyH_take (i := 5) (v := undef) rfl (by kernel_rfl) (by kernel_rfl) (by kernel_rfl) (fun _ _ _ h => h) (Or.inr ⟨by rfl, rfl⟩) trivial ?_
                  try dsimp [Act.put]
                  try simp only [List.setIfInBounds_toArray, List.set_cons_succ, List.set_cons_zero]
                  refine wpAnyH_take (i := 6) (v := undef) rfl (by kernel_rfl) (by kernel_rfl) (by kernel_rfl) (fun _ _ _ h => h) (Or.inr ⟨by rfl, rfl⟩) trivial ?_
                  try dsimp [Act.put]
                  try simp only [List.setIfInBounds_toArray, List.set_cons_succ, List.set_cons_zero]
                  refine wpAnyH_take (i := 7) (v := undef) rfl (by kernel_rfl) (by kernel_rfl) (by kernel_rfl) (fun _ _ _ h => h) (Or.inr ⟨by rfl, rfl⟩) trivial ?_
                  try dsimp [Act.put]
                  try simp only [List.setIfInBounds_toArray, List.set_cons_succ, List.set_cons_zero]
                  refine wpAnyH_take (i := 8) (v := undef) rfl (by kernel_rfl) (by kernel_rfl) (by kernel_rfl) (fun _ _ _ h => h) (Or.inr ⟨by rfl, rfl⟩) trivial ?_
                  try dsimp [Act.put]
                  try simp only [List.setIfInBounds_toArray, List.set_cons_succ, List.set_cons_zero]
                  refine wpAnyH_take (i := 9) (v := undef) rfl (by kernel_rfl) (by kernel_rfl) (by kernel_rfl) (fun _ _ _ h => h) (Or.inr ⟨by rfl, rfl⟩) trivial ?_
                  try dsimp [Act.put]
                  try simp only [List.setIfInBounds_toArray, List.set_cons_succ, List.set_cons_zero]
                  refine wpAnyH_take (i := 10) (v := undef) rfl (by kernel_rfl) (by kernel_rfl) (by kernel_rfl) (fun _ _ _ h => h) (Or.inr ⟨by rfl, rfl⟩) trivial ?_
                  try dsimp [Act.put]
                  try simp only [List.setIfInBounds_toArray, List.set_cons_succ, List.set_cons_zero]
                  refine wpAnyH_take (i := 11) (v := undef) rfl (by kernel_rfl) (by kernel_rfl) (by kernel_rfl) (fun _ _ _ h => h) (Or.inr ⟨by rfl, rfl⟩) trivial ?_
                  try dsimp [Act.put]
                  try simp only [List.setIfInBounds_toArray, List.set_cons_succ, List.set_cons_zero]
                  refine wpAnyH_take (i := 12) (v := undef) rfl (by kernel_rfl) (by kernel_rfl) (by kernel_rfl) (fun _ _ _ h => h) (Or.inr ⟨by rfl, rfl⟩) trivial ?_
                  try dsimp [Act.put]
                  try simp only [List.setIfInBounds_toArray, List.set_cons_succ, List.set_cons_zero]
                  refine wpAnyH_take (i := 13) (v := undef) rfl (by kernel_rfl) (by kernel_rfl) (by kernel_rfl) (fun _ _ _ h => h) (Or.inr ⟨by rfl, rfl⟩) trivial ?_
                  try dsimp [Act.put]
                  try simp only [List.setIfInBounds_toArray, List.set_cons_succ, List.set_cons_zero]
                  refine wpAnyH_take (i := 14) (v := undef) rfl (by kernel_rfl) (by kernel_rfl) (by kernel_rfl) (fun _ _ _ h => h) (Or.inr ⟨by rfl, rfl⟩) trivial ?_
                  try dsimp [Act.put]
                  try simp only [List.setIfInBounds_toArray, List.set_cons_succ, List.set_cons_zero]
                  refine wpAnyH_take (i := 15) (v := undef) rfl (by kernel_rfl) (by kernel_rfl) (by kernel_rfl) (fun _ _ _ h => h) (Or.inr ⟨by rfl, rfl⟩) trivial ?_
                  try dsimp [Act.put]
                  try simp only [List.setIfInBounds_toArray, List.set_cons_succ, List.set_cons_zero]
                  refine wpAnyH_take (i := 16) (v := undef) rfl (by kernel_rfl) (by kernel_rfl) (by kernel_rfl) (fun _ _ _ h => h) (Or.inr ⟨by rfl, rfl⟩) trivial ?_
                  try dsimp [Act.put]
                  try simp only [List.setIfInBounds_toArray, List.set_cons_succ, List.set_cons_zero]
                  refine wpAnyH_take (i := 17) (v := .bool false) rfl (by kernel_rfl) (by kernel_rfl) (by kernel_rfl) (fun _ _ _ h => h) (Or.inl ⟨by rfl, fun w hSw => by clear hSw; go_simp <;> first | omega | (simp [*]; done)⟩) trivial ?_
                  try dsimp [Act.put]
                  try simp only [List.setIfInBounds_toArray, List.set_cons_succ, List.set_cons_zero]
                  refine wpAnyH_take (i := 18) (v := .bool false) rfl (by kernel_rfl) (by kernel_rfl) (by kernel_rfl) (fun _ _ _ h => h) (Or.inl ⟨by rfl, fun w hSw => by clear hSw; go_simp <;> first | omega | (simp [*]; done)⟩) trivial ?_
                  try dsimp [Act.put]
                  try simp only [List.setIfInBounds_toArray, List.set_cons_succ, List.set_cons_zero]
                  refine wpAnyH_take (i := 19) (v := .int .i64 c) rfl (by kernel_rfl) (by kernel_rfl) (by kernel_rfl) (fun _ _ _ h => h) (Or.inl ⟨by rfl, fun w hSw => by clear hSw; go_simp <;> first | omega | (simp [*]; done)⟩) trivial ?_
                  try dsimp [Act.put]
                  try simp only [List.setIfInBounds_toArray, List.set_cons_succ, List.set_cons_zero]
                  refine wpAnyH_take (i := 20) (v := .int .i64 m) rfl (by kernel_rfl) (by kernel_rfl) (by kernel_rfl) (fun _ _ _ h => h) (Or.inl ⟨by rfl, fun w hSw => by clear hSw; go_simp <;> first | omega | (simp [*]; done)⟩) trivial ?_
                  try dsimp [Act.put]
                  try simp only [List.setIfInBounds_toArray, List.set_cons_succ, List.set_cons_zero]
                  refine wpAnyH_take (i := 21) (v := .bool true) rfl (by kernel_rfl) (by kernel_rfl) (by kernel_rfl) (fun _ _ _ h => h) (Or.inl ⟨by rfl, fun w hSw => by clear hSw; go_simp <;> first | omega | (simp [*]; done)⟩) trivial ?_
                  try dsimp [Act.put]
                  try simp only [List.setIfInBounds_toArray, List.set_cons_succ, List.set_cons_zero]
                  refine wpAnyH_take (i := 22) (v := .bool true) rfl (by kernel_rfl) (by kernel_rfl) (by kernel_rfl) (fun _ _ _ h => h) (Or.inl ⟨by rfl, fun w hSw => by clear hSw; go_simp <;> first | omega | (simp [*]; done)⟩) trivial ?_
                  try dsimp [Act.put]
                  try simp only [List.setIfInBounds_toArray, List.set_cons_succ, List.set_cons_zero]
                  refine wpAnyH_take (i := 23) (v := .string x) rfl (by kernel_rfl) (by kernel_rfl) (by kernel_rfl) (fun _ _ _ h => h) (Or.inl ⟨by rfl, fun w hSw => by clear hSw; go_simp <;> first | omega | (simp [*]; done)⟩) trivial ?_
                  try dsimp [Act.put]
                  try simp only [List.setIfInBounds_toArray, List.set_cons_succ, List.set_cons_zero]
                  refine wpAnyH_take (i := 24) (v := .int .i64 i) rfl (by kernel_rfl) (by kernel_rfl) (by kernel_rfl) (fun _ _ _ h => h) (Or.inl ⟨by rfl, fun w hSw => by clear hSw; go_simp <;> first | omega | (simp [*]; done)⟩) trivial ?_
                  try dsimp [Act.put]
                  try simp only [List.setIfInBounds_toArray, List.set_cons_succ, List.set_cons_zero]
                  refine wpAnyH_take (i := 25) (v := .string (x.extract 0 i)) rfl (by kernel_rfl) (by kernel_rfl) (by kernel_rfl) (fun _ _ _ h => h) (Or.inl ⟨by rfl, fun w hSw => by clear hSw; go_simp <;> first | omega | (simp [*]; done)⟩) trivial ?_
                  try dsimp [Act.put]
                  try simp only [List.setIfInBounds_toArray, List.set_cons_succ, List.set_cons_zero]
                  refine wpAnyH_take (i := 26) (v := .string S) rfl (by kernel_rfl) (by kernel_rfl) (by kernel_rfl) (fun _ _ _ h => h) (Or.inl ⟨by rfl, fun w hSw => by clear hSw; go_simp <;> first | omega | (simp [*]; done)⟩) trivial ?_
                  try dsimp [Act.put]
                  try simp only [List.setIfInBounds_toArray, List.set_cons_succ, List.set_cons_zero]
                  refine wpAnyH_take (i := 27) (v := .string (x.extract 0 i ++ S)) rfl (by kernel_rfl) (by kernel_rfl) (by kernel_rfl) (fun _ _ _ h => h) (Or.inl ⟨by rfl, fun w hSw => by clear hSw; go_simp <;> first | omega | (simp [*]; done)⟩) trivial ?_
                  try dsimp [Act.put]
                  try simp only [List.setIfInBounds_toArray, List.set_cons_succ, List.set_cons_zero]
                  refine wpAnyH_take (i := 28) (v := .string x) rfl (by kernel_rfl) (by kernel_rfl) (by kernel_rfl) (fun _ _ _ h => h) (Or.inl ⟨by rfl, fun w hSw => by clear hSw; go_simp <;> first | omega | (simp [*]; done)⟩) trivial ?_
                  try dsimp [Act.put]
                  try simp only [List.setIfInBounds_toArray, List.set_cons_succ, List.set_cons_zero]
                  refine wpAnyH_take (i := 29) (v := .int .i64 i) rfl (by kernel_rfl) (by kernel_rfl) (by kernel_rfl) (fun _ _ _ h => h) (Or.inl ⟨by rfl, fun w hSw => by clear hSw; go_simp <;> first | omega | (simp [*]; done)⟩) trivial ?_
                  try dsimp [Act.put]
                  try simp only [List.setIfInBounds_toArray, List.set_cons_succ, List.set_cons_zero]
                  refine wpAnyH_take (i := 30) (v := .string (x.extract i x.size)) rfl (by kernel_rfl) (by kernel_rfl) (by kernel_rfl) (fun _ _ _ h => h) (Or.inl ⟨by rfl, fun w hSw => by clear hSw; go_simp <;> first | omega | (simp [*]; done)⟩) trivial ?_
                  try dsimp [Act.put]
                  try simp only [List.setIfInBounds_toArray, List.set_cons_succ, List.set_cons_zero]
                  refine wpAnyH_take (i := 31) (v := .string (x.extract 0 i ++ S ++ x.extract i x.size)) rfl (by kernel_rfl) (by kernel_rfl) (by kernel_rfl) (fun _ _ _ h => h) (Or.inl ⟨by rfl, fun w hSw => by clear hSw; go_simp <;> first | omega | (simp [*]; done)⟩) trivial ?_
                  try dsimp [Act.put]
                  try simp only [List.setIfInBounds_toArray, List.set_cons_succ, List.set_cons_zero]
                  refine wpAnyH_ready (rs := [32]) (by kernel_rfl) (by simp) ?_
                  refine AllReadyH.cons rfl ?_ AllReadyH.nil
                  intro K' hK
                  rw [if_pos (by rfl)]
                  go_simp
                  refine (HP2 wd (hGb HG.out Bw)).mono ?_
                  rintro e w2 ⟨rfl, b2⟩
                  have B2 := below_join Bw b2
                  have D2 := Dw.below b2
                  refine hK.out _ _ trivial (fun _ => ?_)
                  clear hK
                  try dsimp [Act.put]
                  try simp only [List.setIfInBounds_toArray, List.set_cons_succ, List.set_cons_zero]
                  refine wpAnyH_take (i := 33) (v := .bool false) rfl (by kernel_rfl) (by kernel_rfl) (by kernel_rfl) (fun _ _ _ h => h) (Or.inl ⟨by rfl, fun w hSw => by clear hSw; go_simp <;> first | omega | (simp [*]; done)⟩) trivial ?_
                  try dsimp [Act.put]
                  try simp only [List.setIfInBounds_toArray, List.set_cons_succ, List.set_cons_zero]
                  refine wpAnyH_take (i := 34) (v := .bool false) rfl (by kernel_rfl) (by kernel_rfl) (by kernel_rfl) (fun _ _ _ h => h) (Or.inl ⟨by rfl, fun w hSw => by clear hSw; go_simp <;> first | omega | (simp [*]; done)⟩) trivial ?_
                  try dsimp [Act.put]
                  try simp only [List.setIfInBounds_toArray, List.set_cons_succ, List.set_cons_zero]
                  refine wpAnyH_take (i := 35) (v := .bool false) rfl (by kernel_rfl) (by kernel_rfl) (by kernel_rfl) (fun _ _ _ h => h) (Or.inl ⟨by rfl, fun w hSw => by clear hSw; go_simp <;> first | omega | (simp [*]; done)⟩) trivial ?_
                  try dsimp [Act.put]
                  try simp only [List.setIfInBounds_toArray, List.set_cons_succ, List.set_cons_zero]
                  refine wpAnyH_done (by kernel_rfl) ?_ _
                  refine NoPanic.normal ?_
                  clear hji hwr
                  go_wp2
                  go_roundw
                  case rel => exact ⟨c + 1, by omega, by go_num, D2, B2⟩
                  case measure => simp [intOf]; omega
                · have hB2 : (m == 1) = false := by simp [hm1]
                  clear hm1
                  go_wp2
                  refine wp_region_noPanic ?_
                  refine wp_region_held_drew (S := fun _ => True) (by kernel_rfl) trivial (fun h0 => ?_)
                  have Gd := hGb HG.out Bw
                  generalize (wr.alloc (.cells #[.int .u8 (c : Int)] 5)).drew = wd at *
                  refine wpAnyH_take (i := 0) (v := .int .i64 i) rfl (by kernel_rfl) (by kernel_rfl) (by kernel_rfl) (fun _ _ _ h => h) (Or.inl ⟨by rfl, fun w hSw => by clear hSw; go_simp <;> first | omega | (simp [*]; done)⟩) trivial ?_
                  try dsimp [Act.put]
                  try simp only [List.setIfInBounds_toArray, List.set_cons_succ, List.set_cons_zero]
                  refine wpAnyH_take (i := 1) (v := .string x) rfl (by kernel_rfl) (by kernel_rfl) (by kernel_rfl) (fun _ _ _ h => h) (Or.inl ⟨by rfl, fun w hSw => by clear hSw; go_simp <;> first | omega | (simp [*]; done)⟩) trivial ?_
                  try dsimp [Act.put]
                  try simp only [List.setIfInBounds_toArray, List.set_cons_succ, List.set_cons_zero]
                  refine wpAnyH_take (i := 2) (v := .int .i64 x.size) rfl (by kernel_rfl) (by kernel_rfl) (by kernel_rfl) (fun _ _ _ h => h) (Or.inl ⟨by rfl, fun w hSw => by clear hSw; go_simp <;> first | omega | (simp [*]; done)⟩) trivial ?_
                  try dsimp [Act.put]
                  try simp only [List.setIfInBounds_toArray, List.set_cons_succ, List.set_cons_zero]
                  refine wpAnyH_take (i := 3) (v := .bool false) rfl (by kernel_rfl) (by kernel_rfl) (by kernel_rfl) (fun _ _ _ h => h) (Or.inl ⟨by rfl, fun w hSw => by clear hSw; go_simp <;> first | omega | (simp [*]; done)⟩) trivial ?_
                  try dsimp [Act.put]
                  try simp only [List.setIfInBounds_toArray, List.set_cons_succ, List.set_cons_zero]
                  refine wpAnyH_take (i := 4) (v := .bool false) rfl (by kernel_rfl) (by kernel_rfl) (by kernel_rfl) (fun _ _ _ h => h) (Or.inl ⟨by rfl, fun w hSw => by clear hSw; go_simp <;> first | omega | (simp [*]; done)⟩) trivial ?_
                  try dsimp [Act.put]
                  try simp only [List.setIfInBounds_toArray, List.set_cons_succ, List.set_cons_zero]
                  refine wpAnyH_take (i := 5) (v := undef) rfl (by kernel_rfl) (by kernel_rfl) (by kernel_rfl) (fun _ _ _ h => h) (Or.inr ⟨by rfl, rfl⟩) trivial ?_
                  try dsimp [Act.put]
                  try simp only [List.setIfInBounds_toArray, List.set_cons_succ, List.set_cons_zero]
                  refine wpAnyH_take (i := 6) (v := undef) rfl (by kernel_rfl) (by kernel_rfl) (by kernel_rfl) (fun _ _ _ h => h) (Or.inr ⟨by rfl, rfl⟩) trivial ?_
                  try dsimp [Act.put]
                  try simp only [List.setIfInBounds_toArray, List.set_cons_succ, List.set_cons_zero]
                  refine wpAnyH_take (i := 7) (v := undef) rfl (by kernel_rfl) (by kernel_rfl) (by kernel_rfl) (fun _ _ _ h => h) (Or.inr ⟨by rfl, rfl⟩) trivial ?_
                  try dsimp [Act.put]
                  try simp only [List.setIfInBounds_toArray, List.set_cons_succ, List.set_cons_zero]
                  refine wpAnyH_take (i := 8) (v := undef) rfl (by kernel_rfl) (by kernel_rfl) (by kernel_rfl) (fun _ _ _ h => h) (Or.inr ⟨by rfl, rfl⟩) trivial ?_
                  try dsimp [Act.put]
                  try simp only [List.setIfInBounds_toArray, List.set_cons_succ, List.set_cons_zero]
                  refine wpAnyH_take (i := 9) (v := undef) rfl (by kernel_rfl) (by kernel_rfl) (by kernel_rfl) (fun _ _ _ h => h) (Or.inr ⟨by rfl, rfl⟩) trivial ?_
                  try dsimp [Act.put]
                  try simp only [List.setIfInBounds_toArray, List.set_cons_succ, List.set_cons_zero]
                  refine wpAnyH_take (i := 10) (v := undef) rfl (by kernel_rfl) (by kernel_rfl) (by kernel_rfl) (fun _ _ _ h => h) (Or.inr ⟨by rfl, rfl⟩) trivial ?_
                  try dsimp [Act.put]
                  try simp only [List.setIfInBounds_toArray, List.set_cons_succ, List.set_cons_zero]
                  refine wpAnyH_take (i := 11) (v := undef) rfl (by kernel_rfl) (by kernel_rfl) (by kernel_rfl) (fun _ _ _ h => h) (Or.inr ⟨by rfl, rfl⟩) trivial ?_
                  try dsimp [Act.put]
                  try simp only [List.setIfInBounds_toArray, List.set_cons_succ, List.set_cons_zero]
                  refine wpAnyH_take (i := 12) (v := undef) rfl (by kernel_rfl) (by kernel_rfl) (by kernel_rfl) (fun _ _ _ h => h) (Or.inr ⟨by rfl, rfl⟩) trivial ?_
                  try dsimp [Act.put]
                  try simp only [List.setIfInBounds_toArray, List.set_cons_succ, List.set_cons_zero]
                  refine wpAnyH_take (i := 13) (v := undef) rfl (by kernel_rfl) (by kernel_rfl) (by kernel_rfl) (fun _ _ _ h => h) (Or.inr ⟨by rfl, rfl⟩) trivial ?_
                  try dsimp [Act.put]
                  try simp only [List.setIfInBounds_toArray, List.set_cons_succ, List.set_cons_zero]
                  refine wpAnyH_take (i := 14) (v := undef) rfl (by kernel_rfl) (by kernel_rfl) (by kernel_rfl) (fun _ _ _ h => h) (Or.inr ⟨by rfl, rfl⟩) trivial ?_
                  try dsimp [Act.put]
                  try simp only [List.setIfInBounds_toArray, List.set_cons_succ, List.set_cons_zero]
                  refine wpAnyH_take (i := 15) (v := undef) rfl (by kernel_rfl) (by kernel_rfl) (by kernel_rfl) (fun _ _ _ h => h) (Or.inr ⟨by rfl, rfl⟩) trivial ?_
                  try dsimp [Act.put]
                  try simp only [List.setIfInBounds_toArray, List.set_cons_succ, List.set_cons_zero]
                  refine wpAnyH_take (i := 16) (v := undef) rfl (by kernel_rfl) (by kernel_rfl) (by kernel_rfl) (fun _ _ _ h => h) (Or.inr ⟨by rfl, rfl⟩) trivial ?_
                  try dsimp [Act.put]
                  try simp only [List.setIfInBounds_toArray, List.set_cons_succ, List.set_cons_zero]
                  refine wpAnyH_take (i := 17) (v := .bool false) rfl (by kernel_rfl) (by kernel_rfl) (by kernel_rfl) (fun _ _ _ h => h) (Or.inl ⟨by rfl, fun w hSw => by clear hSw; go_simp <;> first | omega | (simp [*]; done)⟩) trivial ?_
                  try dsimp [Act.put]
                  try simp only [List.setIfInBounds_toArray, List.set_cons_succ, List.set_cons_zero]
                  refine wpAnyH_take (i := 18) (v := .bool false) rfl (by kernel_rfl) (by kernel_rfl) (by kernel_rfl) (fun _ _ _ h => h) (Or.inl ⟨by rfl, fun w hSw => by clear hSw; go_simp <;> first | omega | (simp [*]; done)⟩) trivial ?_
                  try dsimp [Act.put]
                  try simp only [List.setIfInBounds_toArray, List.set_cons_succ, List.set_cons_zero]
                  refine wpAnyH_take (i := 19) (v := .int .i64 c) rfl (by kernel_rfl) (by kernel_rfl) (by kernel_rfl) (fun _ _ _ h => h) (Or.inl ⟨by rfl, fun w hSw => by clear hSw; go_simp <;> first | omega | (simp [*]; done)⟩) trivial ?_
                  try dsimp [Act.put]
                  try simp only [List.setIfInBounds_toArray, List.set_cons_succ, List.set_cons_zero]
                  refine wpAnyH_take (i := 20) (v := .int .i64 m) rfl (by kernel_rfl) (by kernel_rfl) (by kernel_rfl) (fun _ _ _ h => h) (Or.inl ⟨by rfl, fun w hSw => by clear hSw; go_simp <;> first | omega | (simp [*]; done)⟩) trivial ?_
                  try dsimp [Act.put]
                  try simp only [List.setIfInBounds_toArray, List.set_cons_succ, List.set_cons_zero]
                  refine wpAnyH_take (i := 21) (v := .bool false) rfl (by kernel_rfl) (by kernel_rfl) (by kernel_rfl) (fun _ _ _ h => h) (Or.inl ⟨by rfl, fun w hSw => by clear hSw; go_simp <;> first | omega | (simp [*]; done)⟩) trivial ?_
                  try dsimp [Act.put]
                  try simp only [List.setIfInBounds_toArray, List.set_cons_succ, List.set_cons_zero]
                  refine wpAnyH_take (i := 22) (v := .bool false) rfl (by kernel_rfl) (by kernel_rfl) (by kernel_rfl) (fun _ _ _ h => h) (Or.inl ⟨by rfl, fun w hSw => by clear hSw; go_simp <;> first | omega | (simp [*]; done)⟩) trivial ?_
                  try dsimp [Act.put]
                  try simp only [List.setIfInBounds_toArray, List.set_cons_succ, List.set_cons_zero]
                  refine wpAnyH_take (i := 23) (v := undef) rfl (by kernel_rfl) (by kernel_rfl) (by kernel_rfl) (fun _ _ _ h => h) (Or.inr ⟨by rfl, rfl⟩) trivial ?_
                  try dsimp [Act.put]
                  try simp only [List.setIfInBounds_toArray, List.set_cons_succ, List.set_cons_zero]
                  refine wpAnyH_take (i := 24) (v := undef) rfl (by kernel_rfl) (by kernel_rfl) (by kernel_rfl) (fun _ _ _ h => h) (Or.inr ⟨by rfl, rfl⟩) trivial ?_
                  try dsimp [Act.put]
                  try simp only [List.setIfInBounds_toArray, List.set_cons_succ, List.set_cons_zero]
                  refine wpAnyH_take (i := 25) (v := undef) rfl (by kernel_rfl) (by kernel_rfl) (by kernel_rfl) (fun _ _ _ h => h) (Or.inr ⟨by rfl, rfl⟩) trivial ?_
                  try dsimp [Act.put]
                  try simp only [List.setIfInBounds_toArray, List.set_cons_succ, List.set_cons_zero]
                  refine wpAnyH_take (i := 26) (v := undef) rfl (by kernel_rfl) (by kernel_rfl) (by kernel_rfl) (fun _ _ _ h => h) (Or.inr ⟨by rfl, rfl⟩) trivial ?_
                  try dsimp [Act.put]
                  try simp only [List.setIfInBounds_toArray, List.set_cons_succ, List.set_cons_zero]
                  refine wpAnyH_take (i := 27) (v := undef) rfl (by kernel_rfl) (by kernel_rfl) (by kernel_rfl) (fun _ _ _ h => h) (Or.inr ⟨by rfl, rfl⟩) trivial ?_
                  try dsimp [Act.put]
                  try simp only [List.setIfInBounds_toArray, List.set_cons_succ, List.set_cons_zero]
                  refine wpAnyH_take (i := 28) (v := undef) rfl (by kernel_rfl) (by kernel_rfl) (by kernel_rfl) (fun _ _ _ h => h) (Or.inr ⟨by rfl, rfl⟩) trivial ?_
                  try dsimp [Act.put]
                  try simp only [List.setIfInBounds_toArray, List.set_cons_succ, List.set_cons_zero]
                  refine wpAnyH_take (i := 29) (v := undef) rfl (by kernel_rfl) (by kernel_rfl) (by kernel_rfl) (fun _ _ _ h => h) (Or.inr ⟨by rfl, rfl⟩) trivial ?_
                  try dsimp [Act.put]
                  try simp only [List.setIfInBounds_toArray, List.set_cons_succ, List.set_cons_zero]
                  refine wpAnyH_take (i := 30) (v := undef) rfl (by kernel_rfl) (by kernel_rfl) (by kernel_rfl) (fun _ _ _ h => h) (Or.inr ⟨by rfl, rfl⟩) trivial ?_
                  try dsimp [Act.put]
                  try simp only [List.setIfInBounds_toArray, List.set_cons_succ, List.set_cons_zero]
                  refine wpAnyH_take (i := 31) (v := undef) rfl (by kernel_rfl) (by kernel_rfl) (by kernel_rfl) (fun _ _ _ h => h) (Or.inr ⟨by rfl, rfl⟩) trivial ?_
                  try dsimp [Act.put]
                  try simp only [List.setIfInBounds_toArray, List.set_cons_succ, List.set_cons_zero]
                  refine wpAnyH_take (i := 32) (v := undef) rfl (by kernel_rfl) (by kernel_rfl) (by kernel_rfl) (fun _ _ _ h => h) (Or.inr ⟨by rfl, rfl⟩) trivial ?_
                  try dsimp [Act.put]
                  try simp only [List.setIfInBounds_toArray, List.set_cons_succ, List.set_cons_zero]
                  refine wpAnyH_take (i := 33) (v := undef) rfl (by kernel_rfl) (by kernel_rfl) (by kernel_rfl) (fun _ _ _ h => h) (Or.inr ⟨by rfl, rfl⟩) trivial ?_
                  try dsimp [Act.put]
                  try simp only [List.setIfInBounds_toArray, List.set_cons_succ, List.set_cons_zero]
                  refine wpAnyH_take (i := 34) (v := .bool false) rfl (by kernel_rfl) (by kernel_rfl) (by kernel_rfl) (fun _ _ _ h => h) (Or.inl ⟨by rfl, fun w hSw => by clear hSw; go_simp <;> first | omega | (simp [*]; done)⟩) trivial ?_
                  try dsimp [Act.put]
                  try simp only [List.setIfInBounds_toArray, List.set_cons_succ, List.set_cons_zero]
                  refine wpAnyH_take (i := 35) (v := .bool false) rfl (by kernel_rfl) (by kernel_rfl) (by kernel_rfl) (fun _ _ _ h => h) (Or.inl ⟨by rfl, fun w hSw => by clear hSw; go_simp <;> first | omega | (simp [*]; done)⟩) trivial ?_
                  try dsimp [Act.put]
                  try simp only [List.setIfInBounds_toArray, List.set_cons_succ, List.set_cons_zero]
                  refine wpAnyH_done (by kernel_rfl) ?_ _
                  refine NoPanic.normal ?_
                  clear hji hwr
                  go_wp2
                  go_roundw
                  case rel => exact ⟨c + 1, by omega, by go_num, Dw, Bw⟩
                  case measure => simp [intOf]; omega
            · have hge3 : ¬ (c : Int) < 256 := by omega
              have Bw : Below w.heap.size w wr.drew := below_drawn hB 1
              have Dw : DigIn wr.drew w.heap.size := hD.below (below_drawn (Below.refl _ wr) 1)
              have HQ1 := fun W hW => HP.out (x.extract 0 i) (by omega) W hW
              have HQ2 := fun W hW => HP.out (x.extract i x.size) (by omega) W hW
              have HQ3 := fun W hW => HP.out (x.extract 0 i ++ x.extract (i + 1) x.size) (by rw [size_app]; omega) W hW
              obtain ⟨j, hj⟩ : ∃ j : Nat, i + 1 = j := ⟨_, rfl⟩
              rw [hj] at HQ3 e3
              have Hj : Hid (i + 1 = j) := hj
              have hji : (i : Int) + 1 = (j : Int) := by omega
              have hwr : IntKind.i64.wrap (j : Int) = (j : Int) := wrap_small j (by omega)
              clear hj hB hD
              by_cases hin : i < x.size
              · have hB1 : (i : Int) < (x.size : Int) := by omega
                have hj2 : (j : Int) ≤ (x.size : Int) := by have := Hj.out; omega
                go_wp2
                refine wp_region_noPanic ?_
                refine wp_region_held_drew (S := fun _ => True) (by kernel_rfl) trivial (fun h0 => ?_)
                have Gd := hGb HG.out Bw
                generalize wr.drew = wd at *
                refine wpAnyH_take (i := 0) (v := .string x) rfl (by kernel_rfl) (by kernel_rfl) (by kernel_rfl) (fun _ _ _ h => h) (Or.inl ⟨by rfl, fun w hSw => by clear hSw; go_simp <;> first | omega | (simp [*]; done)⟩) trivial ?_
                try dsimp [Act.put]
                try simp only [List.setIfInBounds_toArray, List.set_cons_succ, List.set_cons_zero]
                refine wpAnyH_take (i := 1) (v := .int .i64 i) rfl (by kernel_rfl) (by kernel_rfl) (by kernel_rfl) (fun _ _ _ h => h) (Or.inl ⟨by rfl, fun w hSw => by clear hSw; go_simp <;> first | omega | (simp [*]; done)⟩) trivial ?_
                try dsimp [Act.put]
                try simp only [List.setIfInBounds_toArray, List.set_cons_succ, List.set_cons_zero]
                refine wpAnyH_take (i := 2) (v := .string (x.extract 0 i)) rfl (by kernel_rfl) (by kernel_rfl) (by kernel_rfl) (fun _ _ _ h => h) (Or.inl ⟨by rfl, fun w hSw => by clear hSw; go_simp <;> first | omega | (simp [*]; done)⟩) trivial ?_
                try dsimp [Act.put]
                try simp only [List.setIfInBounds_toArray, List.set_cons_succ, List.set_cons_zero]
                refine wpAnyH_ready (rs := [3]) (by kernel_rfl) (by simp) ?_
                refine AllReadyH.cons rfl ?_ AllReadyH.nil
                intro K' hK
                rw [if_pos (by rfl)]
                go_simp
                refine (HQ1 wd Gd).mono ?_
                rintro e w1 ⟨rfl, b1⟩
                have B1 := below_join Bw b1
                have D1 := Dw.below b1
                refine hK.out _ _ trivial (fun _ => ?_)
                clear hK
                try dsimp [Act.put]
                try simp only [List.setIfInBounds_toArray, List.set_cons_succ, List.set_cons_zero]
                refine wpAnyH_take (i := 4) (v := .bool false) rfl (by kernel_rfl) (by kernel_rfl) (by kernel_rfl) (fun _ _ _ h => h) (Or.inl ⟨by rfl, fun w hSw => by clear hSw; go_simp <;> first | omega | (simp [*]; done)⟩) trivial ?_
                try dsimp [Act.put]
                try simp only [List.setIfInBounds_toArray, List.set_cons_succ, List.set_cons_zero]
                refine wpAnyH_take (i := 5) (v := .bool false) rfl (by kernel_rfl) (by kernel_rfl) (by kernel_rfl) (fun _ _ _ h => h) (Or.inl ⟨by rfl, fun w hSw => by clear hSw; go_simp <;> first | omega | (simp [*]; done)⟩) trivial ?_
                try dsimp [Act.put]
                try simp only [List.setIfInBounds_toArray, List.set_cons_succ, List.set_cons_zero]
                refine wpAnyH_take (i := 6) (v := .string x) rfl (by kernel_rfl) (by kernel_rfl) (by kernel_rfl) (fun _ _ _ h => h) (Or.inl ⟨by rfl, fun w hSw => by clear hSw; go_simp <;> first | omega | (simp [*]; done)⟩) trivial ?_
                try dsimp [Act.put]
                try simp only [List.setIfInBounds_toArray, List.set_cons_succ, List.set_cons_zero]
                refine wpAnyH_take (i := 7) (v := .int .i64 i) rfl (by kernel_rfl) (by kernel_rfl) (by kernel_rfl) (fun _ _ _ h => h) (Or.inl ⟨by rfl, fun w hSw => by clear hSw; go_simp <;> first | omega | (simp [*]; done)⟩) trivial ?_
                try dsimp [Act.put]
                try simp only [List.setIfInBounds_toArray, List.set_cons_succ, List.set_cons_zero]
                refine wpAnyH_take (i := 8) (v := .string (x.extract i x.size)) rfl (by kernel_rfl) (by kernel_rfl) (by kernel_rfl) (fun _ _ _ h => h) (Or.inl ⟨by rfl, fun w hSw => by clear hSw; go_simp <;> first | omega | (simp [*]; done)⟩) trivial ?_
                try dsimp [Act.put]
                try simp only [List.setIfInBounds_toArray, List.set_cons_succ, List.set_cons_zero]
                refine wpAnyH_ready (rs := [9]) (by kernel_rfl) (by simp) ?_
                refine AllReadyH.cons rfl ?_ AllReadyH.nil
                intro K' hK
                rw [if_pos (by rfl)]
                go_simp
                refine (HQ2 w1 (hGb HG.out B1)).mono ?_
                rintro e w2 ⟨rfl, b2⟩
                have B2 := below_join B1 b2
                have D2 := D1.below b2
                refine hK.out _ _ trivial (fun _ => ?_)
                clear hK
                try dsimp [Act.put]
                try simp only [List.setIfInBounds_toArray, List.set_cons_succ, List.set_cons_zero]
                refine wpAnyH_take (i := 10) (v := .bool false) rfl (by kernel_rfl) (by kernel_rfl) (by kernel_rfl) (fun _ _ _ h => h) (Or.inl ⟨by rfl, fun w hSw => by clear hSw; go_simp <;> first | omega | (simp [*]; done)⟩) trivial ?_
                try dsimp [Act.put]
                try simp only [List.setIfInBounds_toArray, List.set_cons_succ, List.set_cons_zero]
                refine wpAnyH_take (i := 11) (v := .bool false) rfl (by kernel_rfl) (by kernel_rfl) (by kernel_rfl) (fun _ _ _ h => h) (Or.inl ⟨by rfl, fun w hSw => by clear hSw; go_simp <;> first | omega | (simp [*]; done)⟩) trivial ?_
                try dsimp [Act.put]
                try simp only [List.setIfInBounds_toArray, List.set_cons_succ, List.set_cons_zero]
                refine wpAnyH_take (i := 12) (v := .bool false) rfl (by kernel_rfl) (by kernel_rfl) (by kernel_rfl) (fun _ _ _ h => h) (Or.inl ⟨by rfl, fun w hSw => by clear hSw; go_simp <;> first | omega | (simp [*]; done)⟩) trivial ?_
                try dsimp [Act.put]
                try simp only [List.setIfInBounds_toArray, List.set_cons_succ, List.set_cons_zero]
                refine wpAnyH_take (i := 13) (v := .int .i64 i) rfl (by kernel_rfl) (by kernel_rfl) (by kernel_rfl) (fun _ _ _ h => h) (Or.inl ⟨by rfl, fun w hSw => by clear hSw; go_simp <;> first | omega | (simp [*]; done)⟩) trivial ?_
                try dsimp [Act.put]
                try simp only [List.setIfInBounds_toArray, List.set_cons_succ, List.set_cons_zero]
                refine wpAnyH_take (i := 14) (v := .string x) rfl (by kernel_rfl) (by kernel_rfl) (by kernel_rfl) (fun _ _ _ h => h) (Or.inl ⟨by rfl, fun w hSw => by clear hSw; go_simp <;> first | omega | (simp [*]; done)⟩) trivial ?_
                try dsimp [Act.put]
                try simp only [List.setIfInBounds_toArray, List.set_cons_succ, List.set_cons_zero]
                refine wpAnyH_take (i := 15) (v := .int .i64 x.size) rfl (by kernel_rfl) (by kernel_rfl) (by kernel_rfl) (fun _ _ _ h => h) (Or.inl ⟨by rfl, fun w hSw => by clear hSw; go_simp <;> first | omega | (simp [*]; done)⟩) trivial ?_
                try dsimp [Act.put]
                try simp only [List.setIfInBounds_toArray, List.set_cons_succ, List.set_cons_zero]
                refine wpAnyH_take (i := 16) (v := .bool true) rfl (by kernel_rfl) (by kernel_rfl) (by kernel_rfl) (fun _ _ _ h => h) (Or.inl ⟨by rfl, fun w hSw => by clear hSw; go_simp <;> first | omega | (simp [*]; done)⟩) trivial ?_
                try dsimp [Act.put]
                try simp only [List.setIfInBounds_toArray, List.set_cons_succ, List.set_cons_zero]
                refine wpAnyH_take (i := 17) (v := .bool true) rfl (by kernel_rfl) (by kernel_rfl) (by kernel_rfl) (fun _ _ _ h => h) (Or.inl ⟨by rfl, fun w hSw => by clear hSw; go_simp <;> first | omega | (simp [*]; done)⟩) trivial ?_
                try dsimp [Act.put]
                try simp only [List.setIfInBounds_toArray, List.set_cons_succ, List.set_cons_zero]
                refine wpAnyH_take (i := 18) (v := .string x) rfl (by kernel_rfl) (by kernel_rfl) (by kernel_rfl) (fun _ _ _ h => h) (Or.inl ⟨by rfl, fun w hSw => by clear hSw; go_simp <;> first | omega | (simp [*]; done)⟩) trivial ?_
                try dsimp [Act.put]
                try simp only [List.setIfInBounds_toArray, List.set_cons_succ, List.set_cons_zero]
                refine wpAnyH_take (i := 19) (v := .int .i64 i) rfl (by kernel_rfl) (by kernel_rfl) (by kernel_rfl) (fun _ _ _ h => h) (Or.inl ⟨by rfl, fun w hSw => by clear hSw; go_simp <;> first | omega | (simp [*]; done)⟩) trivial ?_
                try dsimp [Act.put]
                try simp only [List.setIfInBounds_toArray, List.set_cons_succ, List.set_cons_zero]
                refine wpAnyH_take (i := 20) (v := .string (x.extract 0 i)) rfl (by kernel_rfl) (by kernel_rfl) (by kernel_rfl) (fun _ _ _ h => h) (Or.inl ⟨by rfl, fun w hSw => by clear hSw; go_simp <;> first | omega | (simp [*]; done)⟩) trivial ?_
                try dsimp [Act.put]
                try simp only [List.setIfInBounds_toArray, List.set_cons_succ, List.set_cons_zero]
                refine wpAnyH_take (i := 21) (v := .string x) rfl (by kernel_rfl) (by kernel_rfl) (by kernel_rfl) (fun _ _ _ h => h) (Or.inl ⟨by rfl, fun w hSw => by clear hSw; go_simp <;> first | omega | (simp [*]; done)⟩) trivial ?_
                try dsimp [Act.put]
                try simp only [List.setIfInBounds_toArray, List.set_cons_succ, List.set_cons_zero]
                refine wpAnyH_take (i := 22) (v := .int .i64 i) rfl (by kernel_rfl) (by kernel_rfl) (by kernel_rfl) (fun _ _ _ h => h) (Or.inl ⟨by rfl, fun w hSw => by clear hSw; go_simp <;> first | omega | (simp [*]; done)⟩) trivial ?_
                try dsimp [Act.put]
                try simp only [List.setIfInBounds_toArray, List.set_cons_succ, List.set_cons_zero]
                refine wpAnyH_take (i := 23) (v := .int .i64 j) rfl (by kernel_rfl) (by kernel_rfl) (by kernel_rfl) (fun _ _ _ h => h) (Or.inl ⟨by rfl, fun w hSw => by clear hSw; go_simp <;> first | omega | (simp [*]; done)⟩) trivial ?_
                try dsimp [Act.put]
                try simp only [List.setIfInBounds_toArray, List.set_cons_succ, List.set_cons_zero]
                refine wpAnyH_take (i := 24) (v := .string (x.extract j x.size)) rfl (by kernel_rfl) (by kernel_rfl) (by kernel_rfl) (fun _ _ _ h => h) (Or.inl ⟨by rfl, fun w hSw => by clear hSw; go_simp <;> first | omega | (simp [*]; done)⟩) trivial ?_
                try dsimp [Act.put]
                try simp only [List.setIfInBounds_toArray, List.set_cons_succ, List.set_cons_zero]
                refine wpAnyH_take (i := 25) (v := .string (x.extract 0 i ++ x.extract j x.size)) rfl (by kernel_rfl) (by kernel_rfl) (by kernel_rfl) (fun _ _ _ h => h) (Or.inl ⟨by rfl, fun w hSw => by clear hSw; go_simp <;> first | omega | (simp [*]; done)⟩) trivial ?_
                try dsimp [Act.put]
                try simp only [List.setIfInBounds_toArray, List.set_cons_succ, List.set_cons_zero]
                refine wpAnyH_ready (rs := [26]) (by kernel_rfl) (by simp) ?_
                refine AllReadyH.cons rfl ?_ AllReadyH.nil
                intro K' hK
                rw [if_pos (by rfl)]
                go_simp
                refine (HQ3 w2 (hGb HG.out B2)).mono ?_
                rintro e w3 ⟨rfl, b3⟩
                have B3 := below_join B2 b3
                have D3 := D2.below b3
                refine hK.out _ _ trivial (fun _ => ?_)
                clear hK
                try dsimp [Act.put]
                try simp only [List.setIfInBounds_toArray, List.set_cons_succ, List.set_cons_zero]
                refine wpAnyH_take (i := 27) (v := .bool false) rfl (by kernel_rfl) (by kernel_rfl) (by kernel_rfl) (fun _ _ _ h => h) (Or.inl ⟨by rfl, fun w hSw => by clear hSw; go_simp <;> first | omega | (simp [*]; done)⟩) trivial ?_
                try dsimp [Act.put]
                try simp only [List.setIfInBounds_toArray, List.set_cons_succ, List.set_cons_zero]
                refine wpAnyH_take (i := 28) (v := .bool false) rfl (by kernel_rfl) (by kernel_rfl) (by kernel_rfl) (fun _ _ _ h => h) (Or.inl ⟨by rfl, fun w hSw => by clear hSw; go_simp <;> first | omega | (simp [*]; done)⟩) trivial ?_
                try dsimp [Act.put]
                try simp only [List.setIfInBounds_toArray, List.set_cons_succ, List.set_cons_zero]
                refine wpAnyH_take (i := 29) (v := .bool false) rfl (by kernel_rfl) (by kernel_rfl) (by kernel_rfl) (fun _ _ _ h => h) (Or.inl ⟨by rfl, fun w hSw => by clear hSw; go_simp <;> first | omega | (simp [*]; done)⟩) trivial ?_
                try dsimp [Act.put]
                try simp only [List.setIfInBounds_toArray, List.set_cons_succ, List.set_cons_zero]
                refine wpAnyH_done (by kernel_rfl) ?_ _
                refine NoPanic.normal ?_
                clear hji hwr
                go_wp2
                go_roundw
                case rel => exact ⟨i + 1, by omega, by go_num, D3, B3⟩
                case measure => simp [intOf]; omega
              · have hB1 : decide ((i : Int) < (x.size : Int)) = false := by simp; omega
                go_wp2
                refine wp_region_noPanic ?_
                refine wp_region_held_drew (S := fun _ => True) (by kernel_rfl) trivial (fun h0 => ?_)
                have Gd := hGb HG.out Bw
                generalize wr.drew = wd at *
                refine wpAnyH_take (i := 0) (v := .string x) rfl (by kernel_rfl) (by kernel_rfl) (by kernel_rfl) (fun _ _ _ h => h) (Or.inl ⟨by rfl, fun w hSw => by clear hSw; go_simp <;> first | omega | (simp [*]; done)⟩) trivial ?_
                try dsimp [Act.put]
                try simp only [List.setIfInBounds_toArray, List.set_cons_succ, List.set_cons_zero]
                refine wpAnyH_take (i := 1) (v := .int .i64 i) rfl (by kernel_rfl) (by kernel_rfl) (by kernel_rfl) (fun _ _ _ h => h) (Or.inl ⟨by rfl, fun w hSw => by clear hSw; go_simp <;> first | omega | (simp [*]; done)⟩) trivial ?_
                try dsimp [Act.put]
                try simp only [List.setIfInBounds_toArray, List.set_cons_succ, List.set_cons_zero]
                refine wpAnyH_take (i := 2) (v := .string (x.extract 0 i)) rfl (by kernel_rfl) (by kernel_rfl) (by kernel_rfl) (fun _ _ _ h => h) (Or.inl ⟨by rfl, fun w hSw => by clear hSw; go_simp <;> first | omega | (simp [*]; done)⟩) trivial ?_
                try dsimp [Act.put]
                try simp only [List.setIfInBounds_toArray, List.set_cons_succ, List.set_cons_zero]
                refine wpAnyH_ready (rs := [3]) (by kernel_rfl) (by simp) ?_
                refine AllReadyH.cons rfl ?_ AllReadyH.nil
                intro K' hK
                rw [if_pos (by rfl)]
                go_simp
                refine (HQ1 wd Gd).mono ?_
                rintro e w1 ⟨rfl, b1⟩
                have B1 := below_join Bw b1
                have D1 := Dw.below b1
                refine hK.out _ _ trivial (fun _ => ?_)
                clear hK
                try dsimp [Act.put]
                try simp only [List.setIfInBounds_toArray, List.set_cons_succ, List.set_cons_zero]
                refine wpAnyH_take (i := 4) (v := .bool false) rfl (by kernel_rfl) (by kernel_rfl) (by kernel_rfl) (fun _ _ _ h => h) (Or.inl ⟨by rfl, fun w hSw => by clear hSw; go_simp <;> first | omega | (simp [*]; done)⟩) trivial ?_
                try dsimp [Act.put]
                try simp only [List.setIfInBounds_toArray, List.set_cons_succ, List.set_cons_zero]
                refine wpAnyH_take (i := 5) (v := .bool false) rfl (by kernel_rfl) (by kernel_rfl) (by kernel_rfl) (fun _ _ _ h => h) (Or.inl ⟨by rfl, fun w hSw => by clear hSw; go_simp <;> first | omega | (simp [*]; done)⟩) trivial ?_
                try dsimp [Act.put]
                try simp only [List.setIfInBounds_toArray, List.set_cons_succ, List.set_cons_zero]
                refine wpAnyH_take (i := 6) (v := .string x) rfl (by kernel_rfl) (by kernel_rfl) (by kernel_rfl) (fun _ _ _ h => h) (Or.inl ⟨by rfl, fun w hSw => by clear hSw; go_simp <;> first | omega | (simp [*]; done)⟩) trivial ?_
                try dsimp [Act.put]
                try simp only [List.setIfInBounds_toArray, List.set_cons_succ, List.set_cons_zero]
                refine wpAnyH_take (i := 7) (v := .int .i64 i) rfl (by kernel_rfl) (by kernel_rfl) (by kernel_rfl) (fun _ _ _ h => h) (Or.inl ⟨by rfl, fun w hSw => by clear hSw; go_simp <;> first | omega | (simp [*]; done)⟩) trivial ?_
                try dsimp [Act.put]
                try simp only [List.setIfInBounds_toArray, List.set_cons_succ, List.set_cons_zero]
                refine wpAnyH_take (i := 8) (v := .string (x.extract i x.size)) rfl (by kernel_rfl) (by kernel_rfl) (by kernel_rfl) (fun _ _ _ h => h) (Or.inl ⟨by rfl, fun w hSw => by clear hSw; go_simp <;> first | omega | (simp [*]; done)⟩) trivial ?_
                try dsimp [Act.put]
                try simp only [List.setIfInBounds_toArray, List.set_cons_succ, List.set_cons_zero]
                refine wpAnyH_ready (rs := [9]) (by kernel_rfl) (by simp) ?_
                refine AllReadyH.cons rfl ?_ AllReadyH.nil
                intro K' hK
                rw [if_pos (by rfl)]
                go_simp
                refine (HQ2 w1 (hGb HG.out B1)).mono ?_
                rintro e w2 ⟨rfl, b2⟩
                have B2 := below_join B1 b2
                have D2 := D1.below b2
                refine hK.out _ _ trivial (fun _ => ?_)
                clear hK
                try dsimp [Act.put]
                try simp only [List.setIfInBounds_toArray, List.set_cons_succ, List.set_cons_zero]
                refine wpAnyH_take (i := 10) (v := .bool false) rfl (by kernel_rfl) (by kernel_rfl) (by kernel_rfl) (fun _ _ _ h => h) (Or.inl ⟨by rfl, fun w hSw => by clear hSw; go_simp <;> first | omega | (simp [*]; done)⟩) trivial ?_
                try dsimp [Act.put]
                try simp only [List.setIfInBounds_toArray, List.set_cons_succ, List.set_cons_zero]
                refine wpAnyH_take (i := 11) (v := .bool false) rfl (by kernel_rfl) (by kernel_rfl) (by kernel_rfl) (fun _ _ _ h => h) (Or.inl ⟨by rfl, fun w hSw => by clear hSw; go_simp <;> first | omega | (simp [*]; done)⟩) trivial ?_
                try dsimp [Act.put]
                try simp only [List.setIfInBounds_toArray, List.set_cons_succ, List.set_cons_zero]
                refine wpAnyH_take (i := 12) (v := .bool false) rfl (by kernel_rfl) (by kernel_rfl) (by kernel_rfl) (fun _ _ _ h => h) (Or.inl ⟨by rfl, fun w hSw => by clear hSw; go_simp <;> first | omega | (simp [*]; done)⟩) trivial ?_
                try dsimp [Act.put]
                try simp only [List.setIfInBounds_toArray, List.set_cons_succ, List.set_cons_zero]
                refine wpAnyH_take (i := 13) (v := .int .i64 i) rfl (by kernel_rfl) (by kernel_rfl) (by kernel_rfl) (fun _ _ _ h => h) (Or.inl ⟨by rfl, fun w hSw => by clear hSw; go_simp <;> first | omega | (simp [*]; done)⟩) trivial ?_
                try dsimp [Act.put]
                try simp only [List.setIfInBounds_toArray, List.set_cons_succ, List.set_cons_zero]
                refine wpAnyH_take (i := 14) (v := .string x) rfl (by kernel_rfl) (by kernel_rfl) (by kernel_rfl) (fun _ _ _ h => h) (Or.inl ⟨by rfl, fun w hSw => by clear hSw; go_simp <;> first | omega | (simp [*]; done)⟩) trivial ?_
                try dsimp [Act.put]
                try simp only [List.setIfInBounds_toArray, List.set_cons_succ, List.set_cons_zero]
                refine wpAnyH_take (i := 15) (v := .int .i64 x.size) rfl (by kernel_rfl) (by kernel_rfl) (by kernel_rfl) (fun _ _ _ h => h) (Or.inl ⟨by rfl, fun w hSw => by clear hSw; go_simp <;> first | omega | (simp [*]; done)⟩) trivial ?_
                try dsimp [Act.put]
                try simp only [List.setIfInBounds_toArray, List.set_cons_succ, List.set_cons_zero]
                refine wpAnyH_take (i := 16) (v := .bool false) rfl (by kernel_rfl) (by kernel_rfl) (by kernel_rfl) (fun _ _ _ h => h) (Or.inl ⟨by rfl, fun w hSw => by clear hSw; go_simp <;> first | omega | (simp [*]; done)⟩) trivial ?_
                try dsimp [Act.put]
                try simp only [List.setIfInBounds_toArray, List.set_cons_succ, List.set_cons_zero]
                refine wpAnyH_take (i := 17) (v := .bool false) rfl (by kernel_rfl) (by kernel_rfl) (by kernel_rfl) (fun _ _ _ h => h) (Or.inl ⟨by rfl, fun w hSw => by clear hSw; go_simp <;> first | omega | (simp [*]; done)⟩) trivial ?_
                try dsimp [Act.put]
                try simp only [List.setIfInBounds_toArray, List.set_cons_succ, List.set_cons_zero]
                refine wpAnyH_take (i := 18) (v := undef) rfl (by kernel_rfl) (by kernel_rfl) (by kernel_rfl) (fun _ _ _ h => h) (Or.inr ⟨by rfl, rfl⟩) trivial ?_
                try dsimp [Act.put]
                try simp only [List.setIfInBounds_toArray, List.set_cons_succ, List.set_cons_zero]
                refine wpAnyH_take (i := 19) (v := undef) rfl (by kernel_rfl) (by kernel_rfl) (by kernel_rfl) (fun _ _ _ h => h) (Or.inr ⟨by rfl, rfl⟩) trivial ?_
                try dsimp [Act.put]
                try simp only [List.setIfInBounds_toArray, List.set_cons_succ, List.set_cons_zero]
                refine wpAnyH_take (i := 20) (v := undef) rfl (by kernel_rfl) (by kernel_rfl) (by kernel_rfl) (fun _ _ _ h => h) (Or.inr ⟨by rfl, rfl⟩) trivial ?_
                try dsimp [Act.put]
                try simp only [List.setIfInBounds_toArray, List.set_cons_succ, List.set_cons_zero]
                refine wpAnyH_take (i := 21) (v := undef) rfl (by kernel_rfl) (by kernel_rfl) (by kernel_rfl) (fun _ _ _ h => h) (Or.inr ⟨by rfl, rfl⟩) trivial ?_
                try dsimp [Act.put]
                try simp only [List.setIfInBounds_toArray, List.set_cons_succ, List.set_cons_zero]
                refine wpAnyH_take (i := 22) (v := undef) rfl (by kernel_rfl) (by kernel_rfl) (by kernel_rfl) (fun _ _ _ h => h) (Or.inr ⟨by rfl, rfl⟩) trivial ?_
                try dsimp [Act.put]
                try simp only [List.setIfInBounds_toArray, List.set_cons_succ, List.set_cons_zero]
                refine wpAnyH_take (i := 23) (v := undef) rfl (by kernel_rfl) (by kernel_rfl) (by kernel_rfl) (fun _ _ _ h => h) (Or.inr ⟨by rfl, rfl⟩) trivial ?_
                try dsimp [Act.put]
                try simp only [List.setIfInBounds_toArray, List.set_cons_succ, List.set_cons_zero]
                refine wpAnyH_take (i := 24) (v := undef) rfl (by kernel_rfl) (by kernel_rfl) (by kernel_rfl) (fun _ _ _ h => h) (Or.inr ⟨by rfl, rfl⟩) trivial ?_
                try dsimp [Act.put]
                try simp only [List.setIfInBounds_toArray, List.set_cons_succ, List.set_cons_zero]
                refine wpAnyH_take (i := 25) (v := undef) rfl (by kernel_rfl) (by kernel_rfl) (by kernel_rfl) (fun _ _ _ h => h) (Or.inr ⟨by rfl, rfl⟩) trivial ?_
                try dsimp [Act.put]
                try simp only [List.setIfInBounds_toArray, List.set_cons_succ, List.set_cons_zero]
                refine wpAnyH_take (i := 26) (v := undef) rfl (by kernel_rfl) (by kernel_rfl) (by kernel_rfl) (fun _ _ _ h => h) (Or.inr ⟨by rfl, rfl⟩) trivial ?_
                try dsimp [Act.put]
                try simp only [List.setIfInBounds_toArray, List.set_cons_succ, List.set_cons_zero]
                refine wpAnyH_take (i := 27) (v := undef) rfl (by kernel_rfl) (by kernel_rfl) (by kernel_rfl) (fun _ _ _ h => h) (Or.inr ⟨by rfl, rfl⟩) trivial ?_
                try dsimp [Act.put]
                try simp only [List.setIfInBounds_toArray, List.set_cons_succ, List.set_cons_zero]
                refine wpAnyH_take (i := 28) (v := .bool false) rfl (by kernel_rfl) (by kernel_rfl) (by kernel_rfl) (fun _ _ _ h => h) (Or.inl ⟨by rfl, fun w hSw => by clear hSw; go_simp <;> first | omega | (simp [*]; done)⟩) trivial ?_
                try dsimp [Act.put]
                try simp only [List.setIfInBounds_toArray, List.set_cons_succ, List.set_cons_zero]
                refine wpAnyH_take (i := 29) (v := .bool false) rfl (by kernel_rfl) (by kernel_rfl) (by kernel_rfl) (fun _ _ _ h => h) (Or.inl ⟨by rfl, fun w hSw => by clear hSw; go_simp <;> first | omega | (simp [*]; done)⟩) trivial ?_
                try dsimp [Act.put]
                try simp only [List.setIfInBounds_toArray, List.set_cons_succ, List.set_cons_zero]
                refine wpAnyH_done (by kernel_rfl) ?_ _
                refine NoPanic.normal ?_
                clear hji hwr
                go_wp2
                go_roundw
                case rel => exact ⟨i + 1, by omega, by go_num, D2, B2⟩
                case measure => simp [intOf]; omega
        · have hge2 : ¬ (i : Int) ≤ (x.size : Int) := by omega
          have hBi : Below w.heap.size w wr := hB
          have hDi : DigIn wr w.heap.size := hD
          clear hB hD
          go_wp2
          go_loopw [7] (fun n wr => ∃ c : Nat, c ≤ 256 ∧ n = .int .i64 c ∧ DigIn wr w.heap.size ∧ Below w.heap.size w wr) (fun n _ => 256 - (intOf n).toNat)
          case atStart => exact ⟨0, by omega, rfl, hDi, hBi⟩
          case round =>
            obtain ⟨c, hc, rfl, hD, hB⟩ := hrel
            clear hDi hBi
            by_cases hlt3 : c < 256
            · have hlt3' : (c : Int) < 256 := by omega
              have hc0 : (0 : Int) ≤ (c : Int) := by omega
              obtain ⟨q, hq, hq32⟩ : ∃ q : Nat, (c : Int).tmod 32 = (q : Int) ∧ q < 32 := ⟨c % 32, by rw [Int.tmod_eq_emod_of_nonneg hc0]; omega, by omega⟩
              have q0 : (0 : Int) ≤ (q : Int) := by omega
              have q1 : (q : Int) < 32 := by omega
              obtain ⟨v, c0, f0⟩ := hD.cell q hq32
              have hD2 := hD.set q (UInt8.ofNat c) (c : Int) (by show ((c % 256 : Nat) : Int) = _; omega)
              have hB2 : Below w.heap.size w (wr.setCell ⟨w.heap.size, q, none⟩ (.int .u8 (c : Int))) := hB.setCell (p := ⟨w.heap.size, q, none⟩) (Nat.le_refl _) _
              obtain ⟨l, hl, hL⟩ := hD2
              have hinf : (Tryz.prog.info? 25).map (·.size) = some (dig32 l).size := by rw [dig32_size, hl]; kernel_rfl
              have HDl := fun W hW => HD.out l hl W hW
              have G1 := hGb HG.out hB2
              go_wp2_with (first
                | (refine wpList_load_row rfl 25 (.tmp 1) rfl w.heap.size rfl 25 (dig32 l) (0, 0) _ hL Tryz.underlying25 rfl hinf ?_)
                | (go_at_call 17; refine (HDl _ G1).mono ?_; rintro e w1 ⟨rfl, b1⟩))
              go_roundw
              case rel => exact ⟨c + 1, by omega, by go_num, ⟨l, hl, hL.below b1⟩, below_join hB2 b1⟩
              case measure => simp [intOf]; omega
            · have hge3 : ¬ (c : Int) < 256 := by omega
              have HD0 := fun W hW => HD.out zeros rfl W hW
              have HP0 := fun W hW => HP.out ⟨#[]⟩ (by decide) W hW
              have G1 := hGb HG.out hB
              go_wp2_with (first
                | (go_at_call 17; refine (HD0 _ G1).mono ?_; rintro e w1 ⟨rfl, b1⟩; have B1 := below_join hB b1; have G2 := hGb HG.out B1)
                | (go_at_call 16; refine (HP0 _ G2).mono ?_; rintro e w2 ⟨rfl, b2⟩))
              go_ret
              exact ⟨rfl, below_join B1 b2⟩
end Go.Proofs.YtodgcmhkojkpcaaGreatDoor
