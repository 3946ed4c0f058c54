/- The statements' own laid: each byte in each place of pieces; lengths with noughts, of ten digits, of eleven, beyond the end. -/
import Derived.Test.YtodgcmhkojkpcaaGreatDoorKnowD
import Derived.Test.YtodgcmhkojkpcaaGreatDoorSumsD
import Derived.Test.YtodgcmhkojkpcaaGreatDoorWrapD
import Derived.Deep.RegionHeld3
namespace Go.Proofs.YtodgcmhkojkpcaaGreatDoor
open Go Go.RowKit

def ls4 : List ByteArray := [⟨#[50, 58, 97, 98, 48, 58, 51, 58, 51, 58, 120]⟩, ⟨#[48, 58]⟩, ⟨#[49, 58, 97]⟩, ⟨#[49, 48, 58, 97, 98, 99, 100, 101, 102, 103, 104, 105, 106, 49, 58, 58]⟩]
def ls23 : List ByteArray := [⟨#[48, 48, 58]⟩, ⟨#[48, 49, 58, 97]⟩, ⟨#[48, 48, 48]⟩, ⟨#[58]⟩, ⟨#[58, 58]⟩, ⟨#[45, 49, 58]⟩, ⟨#[43, 49, 58, 97]⟩, ⟨#[32, 49, 58, 97]⟩, ⟨#[49, 32, 58, 97]⟩, ⟨#[48, 120, 49, 58, 97]⟩, ⟨#[57, 57, 57, 57, 57, 57, 57, 57, 57, 57, 58]⟩, ⟨#[48, 57, 57, 57, 57, 57, 57, 57, 57, 57, 57, 58]⟩, ⟨#[48, 48, 48, 48, 48, 48, 48, 48, 48, 48, 48, 58]⟩, ⟨#[57, 57, 57, 57, 57, 57, 57, 57, 57, 57, 57, 58]⟩, ⟨#[57, 50, 50, 51, 51, 55, 50, 48, 51, 54, 56, 53, 52, 55, 55, 53, 56, 48, 55, 58]⟩, ⟨#[57, 50, 50, 51, 51, 55, 50, 48, 51, 54, 56, 53, 52, 55, 55, 53, 56, 48, 56, 58]⟩, ⟨#[49, 56, 52, 52, 54, 55, 52, 52, 48, 55, 51, 55, 48, 57, 53, 53, 49, 54, 49, 55, 58, 97]⟩, ⟨#[57, 57, 57, 57, 57, 57, 57, 57, 57, 57]⟩, ⟨#[48, 48, 48, 48, 48, 48, 48, 48, 48, 49, 58, 97]⟩, ⟨#[49, 48, 48, 48, 48, 48, 48, 48, 48, 48, 58, 97]⟩, ⟨#[49, 58]⟩, ⟨#[50, 58, 97]⟩, ⟨#[49, 58, 97, 98]⟩]
theorem ls4_at (k : Nat) (hk : k < 4) : ∃ x : ByteArray, (strs ls4).toArray[k]? = some (.string x) ∧ x.size ≤ 100 := by
  obtain rfl | rfl | rfl | rfl : k = 0 ∨ k = 1 ∨ k = 2 ∨ k = 3 := by omega
  all_goals exact ⟨_, rfl, by decide⟩
theorem ls23_at (k : Nat) (hk : k < 23) : ∃ x : ByteArray, (strs ls23).toArray[k]? = some (.string x) ∧ x.size ≤ 100 := by
  obtain rfl | rfl | rfl | rfl | rfl | rfl | rfl | rfl | rfl | rfl | rfl | rfl | rfl | rfl | rfl | rfl | rfl | rfl | rfl | rfl | rfl | rfl | rfl : k = 0 ∨ k = 1 ∨ k = 2 ∨ k = 3 ∨ k = 4 ∨ k = 5 ∨ k = 6 ∨ k = 7 ∨ k = 8 ∨ k = 9 ∨ k = 10 ∨ k = 11 ∨ k = 12 ∨ k = 13 ∨ k = 14 ∨ k = 15 ∨ k = 16 ∨ k = 17 ∨ k = 18 ∨ k = 19 ∨ k = 20 ∨ k = 21 ∨ k = 22 := by omega
  all_goals exact ⟨_, rfl, by decide⟩
theorem two_blocks (w : World) (A B : Array Value) (t u : TypeId) : ((w.alloc (.cells A t)).alloc (.cells B u)).heap[w.heap.size]? = some (.cells A t (0, 0)) ∧ ((w.alloc (.cells A t)).alloc (.cells B u)).heap[w.heap.size + 1]? = some (.cells B u (0, 0)) := by
  refine ⟨(Below.heap_alloc _ _ _ (by simp)).trans (Lies.new' w t A), ?_⟩
  have := Lies.new' (w.alloc (.cells A t)) u B
  rwa [World.size_alloc] at this
set_option maxRecDepth 100000 in
set_option maxHeartbeats 8000000 in
theorem laid_p (G : World → Prop) (hGb : ∀ {u v : World}, G u → Below u.heap.size u v → G v) (HC : Hid (Says1 G 18)) (HP : Hid (SaysP G 19)) (HL : Hid (SaysT G 20)) (HK : Hid (SaysB G 21)) (w : World) (hG : G w) : Calls Tryz.prog 7 #[] w (True' w) := by
  have HG : Hid (G w) := hG
  clear hG
  have HL0 : Hid (Lies (w.alloc (.cells (strs ls4).toArray 9)) w.heap.size 9 (strs ls4).toArray) := Lies.new w _ _
  have HB0 : Hid (Below w.heap.size w (w.alloc (.cells (strs ls4).toArray 9))) := (Below.refl _ w).alloc (Nat.le_refl _) _
  go_enter Tryz.func7, Tryz.ntmps7
  go_wp2
  go_loopw [12] (fun n wr => ∃ k : Nat, k ≤ 4 ∧ n = .int .i64 k ∧ Lies wr w.heap.size 9 (strs ls4).toArray ∧ Below w.heap.size w wr) (fun n _ => 4 - (intOf n).toNat)
  case atStart => exact ⟨0, by omega, rfl, HL0.out, HB0.out⟩
  case round =>
    obtain ⟨k, hk, rfl, hL, hB⟩ := hrel
    by_cases hlt : k < 4
    · have hlt' : (k : Int) < 4 := by omega
      have hk0 : (0 : Int) ≤ (k : Int) := by omega
      obtain ⟨x, hx, hx1⟩ := ls4_at k hlt
      have c0 := hL.cell hx
      have hx4 : (x.size : Int) ≤ 100 := by omega
      have hLk : Lies wr w.heap.size 9 (strs ls4).toArray := hL
      have hBk : Below w.heap.size w wr := hB
      clear hx hL hB
      go_wp2
      clear c0
      go_loopw [3] (fun n wr => ∃ i : Nat, i ≤ x.size + 1 ∧ n = .int .i64 i ∧ Lies wr w.heap.size 9 (strs ls4).toArray ∧ Below w.heap.size w wr) (fun n _ => x.size + 1 - (intOf n).toNat)
      case atStart => exact ⟨0, by omega, rfl, hLk, hBk⟩
      case round =>
        obtain ⟨i, hi, rfl, hL, hB⟩ := hrel
        clear hLk hBk
        by_cases hlt2 : i ≤ x.size
        · have hlt2' : (i : Int) ≤ (x.size : Int) := by omega
          have hi0 : (0 : Int) ≤ (i : Int) := by omega
          have hLi : Lies wr w.heap.size 9 (strs ls4).toArray := hL
          have hBi : Below w.heap.size w wr := hB
          clear hL hB
          have e1 := size_ext x 0 i
          have e2 := size_ext x i x.size
          have e3 := size_ext x (i + 1) x.size
          go_wp2
          go_loopw [4] (fun n wr => ∃ c : Nat, c ≤ 256 ∧ n = .int .i64 c ∧ Lies wr w.heap.size 9 (strs ls4).toArray ∧ Below w.heap.size w wr) (fun n _ => 256 - (intOf n).toNat)
          case atStart => exact ⟨0, by omega, rfl, hLi, hBi⟩
          case round =>
            obtain ⟨c, hc, rfl, hD, hB⟩ := hrel
            clear hLi hBi
            by_cases hlt3 : c < 256
            · have hlt3' : (c : Int) < 256 := by omega
              have hc0 : (0 : Int) ≤ (c : Int) := by omega
              have hcv := conv_byte (UInt8.ofNat c) (c : Int) (by show ((c % 256 : Nat) : Int) = _; omega) wr
              have zS : (bs [UInt8.ofNat c]).size = 1 := rfl
              generalize bs [UInt8.ofNat c] = S at *
              have Bw : Below w.heap.size w ((wr.alloc (.cells #[.int .u8 (c : Int)] 5)).drew) := below_drawn (hB.alloc hB.size _) 1
              have Dw : Lies ((wr.alloc (.cells #[.int .u8 (c : Int)] 5)).drew) w.heap.size 9 (strs ls4).toArray := hD.below (below_drawn ((Below.refl _ wr).alloc (Nat.le_refl _) _) 1)
              have HP1 := fun W hW => HC.out (x.extract 0 i ++ S ++ x.extract i x.size) (by rw [size_app, size_app]; omega) W hW
              have HP2 := fun W hW => HC.out (x.extract 0 i ++ S ++ x.extract (i + 1) x.size) (by rw [size_app, size_app]; omega) W hW
              obtain ⟨j, hj⟩ : ∃ j : Nat, i + 1 = j := ⟨_, rfl⟩
              rw [hj] at HP2 e3
              have Hj : Hid (i + 1 = j) := hj
              have hji : (i : Int) + 1 = (j : Int) := by omega
              have hwr : IntKind.i64.wrap (j : Int) = (j : Int) := wrap_small j (by omega)
              clear hj hB hD
              by_cases hin : i < x.size
              · have hB1 : (i : Int) < (x.size : Int) := by omega
                have hj2 : (j : Int) ≤ (x.size : Int) := by have := Hj.out; omega
                go_wp2
                refine wp_region_noPanic ?_
                refine wp_region_held_drew (S := fun _ => True) (by kernel_rfl) trivial (fun h0 => ?_)
                have Gd := hGb HG.out Bw
                generalize (wr.alloc (.cells #[.int .u8 (c : Int)] 5)).drew = wd at *
                refine wpAnyH_take (i := 0) (v := .string x) rfl (by kernel_rfl) (by kernel_rfl) (by kernel_rfl) (fun _ _ _ h => h) (Or.inl ⟨by rfl, fun w hSw => by clear hSw; go_simp <;> first | omega | (simp [*]; done)⟩) trivial ?_
                try dsimp [Act.put]
                try simp only [List.setIfInBounds_toArray, List.set_cons_succ, List.set_cons_zero]
                refine wpAnyH_take (i := 1) (v := .int .i64 i) rfl (by kernel_rfl) (by kernel_rfl) (by kernel_rfl) (fun _ _ _ h => h) (Or.inl ⟨by rfl, fun w hSw => by clear hSw; go_simp <;> first | omega | (simp [*]; done)⟩) trivial ?_
                try dsimp [Act.put]
                try simp only [List.setIfInBounds_toArray, List.set_cons_succ, List.set_cons_zero]
                refine wpAnyH_take (i := 2) (v := .string (x.extract 0 i)) rfl (by kernel_rfl) (by kernel_rfl) (by kernel_rfl) (fun _ _ _ h => h) (Or.inl ⟨by rfl, fun w hSw => by clear hSw; go_simp <;> first | omega | (simp [*]; done)⟩) trivial ?_
                try dsimp [Act.put]
                try simp only [List.setIfInBounds_toArray, List.set_cons_succ, List.set_cons_zero]
                refine wpAnyH_take (i := 3) (v := .string S) rfl (by kernel_rfl) (by kernel_rfl) (by kernel_rfl) (fun _ _ _ h => h) (Or.inl ⟨by rfl, fun w hSw => by clear hSw; go_simp <;> first | omega | (simp [*]; done)⟩) trivial ?_
                try dsimp [Act.put]
                try simp only [List.setIfInBounds_toArray, List.set_cons_succ, List.set_cons_zero]
                refine wpAnyH_take (i := 4) (v := .string (x.extract 0 i ++ S)) rfl (by kernel_rfl) (by kernel_rfl) (by kernel_rfl) (fun _ _ _ h => h) (Or.inl ⟨by rfl, fun w hSw => by clear hSw; go_simp <;> first | omega | (simp [*]; done)⟩) trivial ?_
                try dsimp [Act.put]
                try simp only [List.setIfInBounds_toArray, List.set_cons_succ, List.set_cons_zero]
                refine wpAnyH_take (i := 5) (v := .string x) rfl (by kernel_rfl) (by kernel_rfl) (by kernel_rfl) (fun _ _ _ h => h) (Or.inl ⟨by rfl, fun w hSw => by clear hSw; go_simp <;> first | omega | (simp [*]; done)⟩) trivial ?_
                try dsimp [Act.put]
                try simp only [List.setIfInBounds_toArray, List.set_cons_succ, List.set_cons_zero]
                refine wpAnyH_take (i := 6) (v := .int .i64 i) rfl (by kernel_rfl) (by kernel_rfl) (by kernel_rfl) (fun _ _ _ h => h) (Or.inl ⟨by rfl, fun w hSw => by clear hSw; go_simp <;> first | omega | (simp [*]; done)⟩) trivial ?_
                try dsimp [Act.put]
                try simp only [List.setIfInBounds_toArray, List.set_cons_succ, List.set_cons_zero]
                refine wpAnyH_take (i := 7) (v := .string (x.extract i x.size)) rfl (by kernel_rfl) (by kernel_rfl) (by kernel_rfl) (fun _ _ _ h => h) (Or.inl ⟨by rfl, fun w hSw => by clear hSw; go_simp <;> first | omega | (simp [*]; done)⟩) trivial ?_
                try dsimp [Act.put]
                try simp only [List.setIfInBounds_toArray, List.set_cons_succ, List.set_cons_zero]
                refine wpAnyH_take (i := 8) (v := .string (x.extract 0 i ++ S ++ x.extract i x.size)) rfl (by kernel_rfl) (by kernel_rfl) (by kernel_rfl) (fun _ _ _ h => h) (Or.inl ⟨by rfl, fun w hSw => by clear hSw; go_simp <;> first | omega | (simp [*]; done)⟩) trivial ?_
                try dsimp [Act.put]
                try simp only [List.setIfInBounds_toArray, List.set_cons_succ, List.set_cons_zero]
                refine wpAnyH_ready (rs := [9]) (by kernel_rfl) (by simp) ?_
                refine AllReadyH.cons rfl ?_ AllReadyH.nil
                intro K' hK
                rw [if_pos (by rfl)]
                go_simp
                refine (HP1 wd Gd).mono ?_
                rintro e w1 ⟨rfl, b1⟩
                have B1 := below_join Bw b1
                have D1 := Dw.below b1
                refine hK.out _ _ trivial (fun _ => ?_)
                clear hK
                try dsimp [Act.put]
                try simp only [List.setIfInBounds_toArray, List.set_cons_succ, List.set_cons_zero]
                refine wpAnyH_take (i := 10) (v := .bool false) rfl (by kernel_rfl) (by kernel_rfl) (by kernel_rfl) (fun _ _ _ h => h) (Or.inl ⟨by rfl, fun w hSw => by clear hSw; go_simp <;> first | omega | (simp [*]; done)⟩) trivial ?_
                try dsimp [Act.put]
                try simp only [List.setIfInBounds_toArray, List.set_cons_succ, List.set_cons_zero]
                refine wpAnyH_take (i := 11) (v := .bool false) rfl (by kernel_rfl) (by kernel_rfl) (by kernel_rfl) (fun _ _ _ h => h) (Or.inl ⟨by rfl, fun w hSw => by clear hSw; go_simp <;> first | omega | (simp [*]; done)⟩) trivial ?_
                try dsimp [Act.put]
                try simp only [List.setIfInBounds_toArray, List.set_cons_succ, List.set_cons_zero]
                refine wpAnyH_take (i := 12) (v := .int .i64 i) rfl (by kernel_rfl) (by kernel_rfl) (by kernel_rfl) (fun _ _ _ h => h) (Or.inl ⟨by rfl, fun w hSw => by clear hSw; go_simp <;> first | omega | (simp [*]; done)⟩) trivial ?_
                try dsimp [Act.put]
                try simp only [List.setIfInBounds_toArray, List.set_cons_succ, List.set_cons_zero]
                refine wpAnyH_take (i := 13) (v := .string x) rfl (by kernel_rfl) (by kernel_rfl) (by kernel_rfl) (fun _ _ _ h => h) (Or.inl ⟨by rfl, fun w hSw => by clear hSw; go_simp <;> first | omega | (simp [*]; done)⟩) trivial ?_
                try dsimp [Act.put]
                try simp only [List.setIfInBounds_toArray, List.set_cons_succ, List.set_cons_zero]
                refine wpAnyH_take (i := 14) (v := .int .i64 x.size) rfl (by kernel_rfl) (by kernel_rfl) (by kernel_rfl) (fun _ _ _ h => h) (Or.inl ⟨by rfl, fun w hSw => by clear hSw; go_simp <;> first | omega | (simp [*]; done)⟩) trivial ?_
                try dsimp [Act.put]
                try simp only [List.setIfInBounds_toArray, List.set_cons_succ, List.set_cons_zero]
                refine wpAnyH_take (i := 15) (v := .bool true) rfl (by kernel_rfl) (by kernel_rfl) (by kernel_rfl) (fun _ _ _ h => h) (Or.inl ⟨by rfl, fun w hSw => by clear hSw; go_simp <;> first | omega | (simp [*]; done)⟩) trivial ?_
                try dsimp [Act.put]
                try simp only [List.setIfInBounds_toArray, List.set_cons_succ, List.set_cons_zero]
                refine wpAnyH_take (i := 16) (v := .bool true) rfl (by kernel_rfl) (by kernel_rfl) (by kernel_rfl) (fun _ _ _ h => h) (Or.inl ⟨by rfl, fun w hSw => by clear hSw; go_simp <;> first | omega | (simp [*]; done)⟩) trivial ?_
                try dsimp [Act.put]
                try simp only [List.setIfInBounds_toArray, List.set_cons_succ, List.set_cons_zero]
                refine wpAnyH_take (i := 17) (v := .string x) rfl (by kernel_rfl) (by kernel_rfl) (by kernel_rfl) (fun _ _ _ h => h) (Or.inl ⟨by rfl, fun w hSw => by clear hSw; go_simp <;> first | omega | (simp [*]; done)⟩) trivial ?_
                try dsimp [Act.put]
                try simp only [List.setIfInBounds_toArray, List.set_cons_succ, List.set_cons_zero]
                refine wpAnyH_take (i := 18) (v := .int .i64 i) rfl (by kernel_rfl) (by kernel_rfl) (by kernel_rfl) (fun _ _ _ h => h) (Or.inl ⟨by rfl, fun w hSw => by clear hSw; go_simp <;> first | omega | (simp [*]; done)⟩) trivial ?_
                try dsimp [Act.put]
                try simp only [List.setIfInBounds_toArray, List.set_cons_succ, List.set_cons_zero]
                refine wpAnyH_take (i := 19) (v := .string (x.extract 0 i)) rfl (by kernel_rfl) (by kernel_rfl) (by kernel_rfl) (fun _ _ _ h => h) (Or.inl ⟨by rfl, fun w hSw => by clear hSw; go_simp <;> first | omega | (simp [*]; done)⟩) trivial ?_
                try dsimp [Act.put]
                try simp only [List.setIfInBounds_toArray, List.set_cons_succ, List.set_cons_zero]
                refine wpAnyH_take (i := 20) (v := .string S) rfl (by kernel_rfl) (by kernel_rfl) (by kernel_rfl) (fun _ _ _ h => h) (Or.inl ⟨by rfl, fun w hSw => by clear hSw; go_simp <;> first | omega | (simp [*]; done)⟩) trivial ?_
                try dsimp [Act.put]
                try simp only [List.setIfInBounds_toArray, List.set_cons_succ, List.set_cons_zero]
                refine wpAnyH_take (i := 21) (v := .string (x.extract 0 i ++ S)) rfl (by kernel_rfl) (by kernel_rfl) (by kernel_rfl) (fun _ _ _ h => h) (Or.inl ⟨by rfl, fun w hSw => by clear hSw; go_simp <;> first | omega | (simp [*]; done)⟩) trivial ?_
                try dsimp [Act.put]
                try simp only [List.setIfInBounds_toArray, List.set_cons_succ, List.set_cons_zero]
                refine wpAnyH_take (i := 22) (v := .string x) rfl (by kernel_rfl) (by kernel_rfl) (by kernel_rfl) (fun _ _ _ h => h) (Or.inl ⟨by rfl, fun w hSw => by clear hSw; go_simp <;> first | omega | (simp [*]; done)⟩) trivial ?_
                try dsimp [Act.put]
                try simp only [List.setIfInBounds_toArray, List.set_cons_succ, List.set_cons_zero]
                refine wpAnyH_take (i := 23) (v := .int .i64 i) rfl (by kernel_rfl) (by kernel_rfl) (by kernel_rfl) (fun _ _ _ h => h) (Or.inl ⟨by rfl, fun w hSw => by clear hSw; go_simp <;> first | omega | (simp [*]; done)⟩) trivial ?_
                try dsimp [Act.put]
                try simp only [List.setIfInBounds_toArray, List.set_cons_succ, List.set_cons_zero]
                refine wpAnyH_take (i := 24) (v := .int .i64 j) rfl (by kernel_rfl) (by kernel_rfl) (by kernel_rfl) (fun _ _ _ h => h) (Or.inl ⟨by rfl, fun w hSw => by clear hSw; go_simp <;> first | omega | (simp [*]; done)⟩) trivial ?_
                try dsimp [Act.put]
                try simp only [List.setIfInBounds_toArray, List.set_cons_succ, List.set_cons_zero]
                refine wpAnyH_take (i := 25) (v := .string (x.extract j x.size)) rfl (by kernel_rfl) (by kernel_rfl) (by kernel_rfl) (fun _ _ _ h => h) (Or.inl ⟨by rfl, fun w hSw => by clear hSw; go_simp <;> first | omega | (simp [*]; done)⟩) trivial ?_
                try dsimp [Act.put]
                try simp only [List.setIfInBounds_toArray, List.set_cons_succ, List.set_cons_zero]
                refine wpAnyH_take (i := 26) (v := .string (x.extract 0 i ++ S ++ x.extract j x.size)) rfl (by kernel_rfl) (by kernel_rfl) (by kernel_rfl) (fun _ _ _ h => h) (Or.inl ⟨by rfl, fun w hSw => by clear hSw; go_simp <;> first | omega | (simp [*]; done)⟩) trivial ?_
                try dsimp [Act.put]
                try simp only [List.setIfInBounds_toArray, List.set_cons_succ, List.set_cons_zero]
                refine wpAnyH_ready (rs := [27]) (by kernel_rfl) (by simp) ?_
                refine AllReadyH.cons rfl ?_ AllReadyH.nil
                intro K' hK
                rw [if_pos (by rfl)]
                go_simp
                refine (HP2 w1 (hGb HG.out B1)).mono ?_
                rintro e w2 ⟨rfl, b2⟩
                have B2 := below_join B1 b2
                have D2 := D1.below b2
                refine hK.out _ _ trivial (fun _ => ?_)
                clear hK
                try dsimp [Act.put]
                try simp only [List.setIfInBounds_toArray, List.set_cons_succ, List.set_cons_zero]
                refine wpAnyH_take (i := 28) (v := .bool false) rfl (by kernel_rfl) (by kernel_rfl) (by kernel_rfl) (fun _ _ _ h => h) (Or.inl ⟨by rfl, fun w hSw => by clear hSw; go_simp <;> first | omega | (simp [*]; done)⟩) trivial ?_
                try dsimp [Act.put]
                try simp only [List.setIfInBounds_toArray, List.set_cons_succ, List.set_cons_zero]
                refine wpAnyH_take (i := 29) (v := .bool false) rfl (by kernel_rfl) (by kernel_rfl) (by kernel_rfl) (fun _ _ _ h => h) (Or.inl ⟨by rfl, fun w hSw => by clear hSw; go_simp <;> first | omega | (simp [*]; done)⟩) trivial ?_
                try dsimp [Act.put]
                try simp only [List.setIfInBounds_toArray, List.set_cons_succ, List.set_cons_zero]
                refine wpAnyH_take (i := 30) (v := .bool false) rfl (by kernel_rfl) (by kernel_rfl) (by kernel_rfl) (fun _ _ _ h => h) (Or.inl ⟨by rfl, fun w hSw => by clear hSw; go_simp <;> first | omega | (simp [*]; done)⟩) trivial ?_
                try dsimp [Act.put]
                try simp only [List.setIfInBounds_toArray, List.set_cons_succ, List.set_cons_zero]
                refine wpAnyH_done (by kernel_rfl) ?_ _
                refine NoPanic.normal ?_
                clear hji hwr
                go_wp2
                go_roundw
                case rel => exact ⟨c + 1, by omega, by go_num, D2, B2⟩
                case measure => simp [intOf]; omega
              · have hB1 : decide ((i : Int) < (x.size : Int)) = false := by simp; omega
                go_wp2
                refine wp_region_noPanic ?_
                refine wp_region_held_drew (S := fun _ => True) (by kernel_rfl) trivial (fun h0 => ?_)
                have Gd := hGb HG.out Bw
                generalize (wr.alloc (.cells #[.int .u8 (c : Int)] 5)).drew = wd at *
                refine wpAnyH_take (i := 0) (v := .string x) rfl (by kernel_rfl) (by kernel_rfl) (by kernel_rfl) (fun _ _ _ h => h) (Or.inl ⟨by rfl, fun w hSw => by clear hSw; go_simp <;> first | omega | (simp [*]; done)⟩) trivial ?_
                try dsimp [Act.put]
                try simp only [List.setIfInBounds_toArray, List.set_cons_succ, List.set_cons_zero]
                refine wpAnyH_take (i := 1) (v := .int .i64 i) rfl (by kernel_rfl) (by kernel_rfl) (by kernel_rfl) (fun _ _ _ h => h) (Or.inl ⟨by rfl, fun w hSw => by clear hSw; go_simp <;> first | omega | (simp [*]; done)⟩) trivial ?_
                try dsimp [Act.put]
                try simp only [List.setIfInBounds_toArray, List.set_cons_succ, List.set_cons_zero]
                refine wpAnyH_take (i := 2) (v := .string (x.extract 0 i)) rfl (by kernel_rfl) (by kernel_rfl) (by kernel_rfl) (fun _ _ _ h => h) (Or.inl ⟨by rfl, fun w hSw => by clear hSw; go_simp <;> first | omega | (simp [*]; done)⟩) trivial ?_
                try dsimp [Act.put]
                try simp only [List.setIfInBounds_toArray, List.set_cons_succ, List.set_cons_zero]
                refine wpAnyH_take (i := 3) (v := .string S) rfl (by kernel_rfl) (by kernel_rfl) (by kernel_rfl) (fun _ _ _ h => h) (Or.inl ⟨by rfl, fun w hSw => by clear hSw; go_simp <;> first | omega | (simp [*]; done)⟩) trivial ?_
                try dsimp [Act.put]
                try simp only [List.setIfInBounds_toArray, List.set_cons_succ, List.set_cons_zero]
                refine wpAnyH_take (i := 4) (v := .string (x.extract 0 i ++ S)) rfl (by kernel_rfl) (by kernel_rfl) (by kernel_rfl) (fun _ _ _ h => h) (Or.inl ⟨by rfl, fun w hSw => by clear hSw; go_simp <;> first | omega | (simp [*]; done)⟩) trivial ?_
                try dsimp [Act.put]
                try simp only [List.setIfInBounds_toArray, List.set_cons_succ, List.set_cons_zero]
                refine wpAnyH_take (i := 5) (v := .string x) rfl (by kernel_rfl) (by kernel_rfl) (by kernel_rfl) (fun _ _ _ h => h) (Or.inl ⟨by rfl, fun w hSw => by clear hSw; go_simp <;> first | omega | (simp [*]; done)⟩) trivial ?_
                try dsimp [Act.put]
                try simp only [List.setIfInBounds_toArray, List.set_cons_succ, List.set_cons_zero]
                refine wpAnyH_take (i := 6) (v := .int .i64 i) rfl (by kernel_rfl) (by kernel_rfl) (by kernel_rfl) (fun _ _ _ h => h) (Or.inl ⟨by rfl, fun w hSw => by clear hSw; go_simp <;> first | omega | (simp [*]; done)⟩) trivial ?_
                try dsimp [Act.put]
                try simp only [List.setIfInBounds_toArray, List.set_cons_succ, List.set_cons_zero]
                refine wpAnyH_take (i := 7) (v := .string (x.extract i x.size)) rfl (by kernel_rfl) (by kernel_rfl) (by kernel_rfl) (fun _ _ _ h => h) (Or.inl ⟨by rfl, fun w hSw => by clear hSw; go_simp <;> first | omega | (simp [*]; done)⟩) trivial ?_
                try dsimp [Act.put]
                try simp only [List.setIfInBounds_toArray, List.set_cons_succ, List.set_cons_zero]
                refine wpAnyH_take (i := 8) (v := .string (x.extract 0 i ++ S ++ x.extract i x.size)) rfl (by kernel_rfl) (by kernel_rfl) (by kernel_rfl) (fun _ _ _ h => h) (Or.inl ⟨by rfl, fun w hSw => by clear hSw; go_simp <;> first | omega | (simp [*]; done)⟩) trivial ?_
                try dsimp [Act.put]
                try simp only [List.setIfInBounds_toArray, List.set_cons_succ, List.set_cons_zero]
                refine wpAnyH_ready (rs := [9]) (by kernel_rfl) (by simp) ?_
                refine AllReadyH.cons rfl ?_ AllReadyH.nil
                intro K' hK
                rw [if_pos (by rfl)]
                go_simp
                refine (HP1 wd Gd).mono ?_
                rintro e w1 ⟨rfl, b1⟩
                have B1 := below_join Bw b1
                have D1 := Dw.below b1
                refine hK.out _ _ trivial (fun _ => ?_)
                clear hK
                try dsimp [Act.put]
                try simp only [List.setIfInBounds_toArray, List.set_cons_succ, List.set_cons_zero]
                refine wpAnyH_take (i := 10) (v := .bool false) rfl (by kernel_rfl) (by kernel_rfl) (by kernel_rfl) (fun _ _ _ h => h) (Or.inl ⟨by rfl, fun w hSw => by clear hSw; go_simp <;> first | omega | (simp [*]; done)⟩) trivial ?_
                try dsimp [Act.put]
                try simp only [List.setIfInBounds_toArray, List.set_cons_succ, List.set_cons_zero]
                refine wpAnyH_take (i := 11) (v := .bool false) rfl (by kernel_rfl) (by kernel_rfl) (by kernel_rfl) (fun _ _ _ h => h) (Or.inl ⟨by rfl, fun w hSw => by clear hSw; go_simp <;> first | omega | (simp [*]; done)⟩) trivial ?_
                try dsimp [Act.put]
                try simp only [List.setIfInBounds_toArray, List.set_cons_succ, List.set_cons_zero]
                refine wpAnyH_take (i := 12) (v := .int .i64 i) rfl (by kernel_rfl) (by kernel_rfl) (by kernel_rfl) (fun _ _ _ h => h) (Or.inl ⟨by rfl, fun w hSw => by clear hSw; go_simp <;> first | omega | (simp [*]; done)⟩) trivial ?_
                try dsimp [Act.put]
                try simp only [List.setIfInBounds_toArray, List.set_cons_succ, List.set_cons_zero]
                refine wpAnyH_take (i := 13) (v := .string x) rfl (by kernel_rfl) (by kernel_rfl) (by kernel_rfl) (fun _ _ _ h => h) (Or.inl ⟨by rfl, fun w hSw => by clear hSw; go_simp <;> first | omega | (simp [*]; done)⟩) trivial ?_
                try dsimp [Act.put]
                try simp only [List.setIfInBounds_toArray, List.set_cons_succ, List.set_cons_zero]
                refine wpAnyH_take (i := 14) (v := .int .i64 x.size) rfl (by kernel_rfl) (by kernel_rfl) (by kernel_rfl) (fun _ _ _ h => h) (Or.inl ⟨by rfl, fun w hSw => by clear hSw; go_simp <;> first | omega | (simp [*]; done)⟩) trivial ?_
                try dsimp [Act.put]
                try simp only [List.setIfInBounds_toArray, List.set_cons_succ, List.set_cons_zero]
                refine wpAnyH_take (i := 15) (v := .bool false) rfl (by kernel_rfl) (by kernel_rfl) (by kernel_rfl) (fun _ _ _ h => h) (Or.inl ⟨by rfl, fun w hSw => by clear hSw; go_simp <;> first | omega | (simp [*]; done)⟩) trivial ?_
                try dsimp [Act.put]
                try simp only [List.setIfInBounds_toArray, List.set_cons_succ, List.set_cons_zero]
                refine wpAnyH_take (i := 16) (v := .bool false) rfl (by kernel_rfl) (by kernel_rfl) (by kernel_rfl) (fun _ _ _ h => h) (Or.inl ⟨by rfl, fun w hSw => by clear hSw; go_simp <;> first | omega | (simp [*]; done)⟩) trivial ?_
                try dsimp [Act.put]
                try simp only [List.setIfInBounds_toArray, List.set_cons_succ, List.set_cons_zero]
                refine wpAnyH_take (i := 17) (v := undef) rfl (by kernel_rfl) (by kernel_rfl) (by kernel_rfl) (fun _ _ _ h => h) (Or.inr ⟨by rfl, rfl⟩) trivial ?_
                try dsimp [Act.put]
                try simp only [List.setIfInBounds_toArray, List.set_cons_succ, List.set_cons_zero]
                refine wpAnyH_take (i := 18) (v := undef) rfl (by kernel_rfl) (by kernel_rfl) (by kernel_rfl) (fun _ _ _ h => h) (Or.inr ⟨by rfl, rfl⟩) trivial ?_
                try dsimp [Act.put]
                try simp only [List.setIfInBounds_toArray, List.set_cons_succ, List.set_cons_zero]
                refine wpAnyH_take (i := 19) (v := undef) rfl (by kernel_rfl) (by kernel_rfl) (by kernel_rfl) (fun _ _ _ h => h) (Or.inr ⟨by rfl, rfl⟩) trivial ?_
                try dsimp [Act.put]
                try simp only [List.setIfInBounds_toArray, List.set_cons_succ, List.set_cons_zero]
                refine wpAnyH_take (i := 20) (v := undef) rfl (by kernel_rfl) (by kernel_rfl) (by kernel_rfl) (fun _ _ _ h => h) (Or.inr ⟨by rfl, rfl⟩) trivial ?_
                try dsimp [Act.put]
                try simp only [List.setIfInBounds_toArray, List.set_cons_succ, List.set_cons_zero]
                refine wpAnyH_take (i := 21) (v := undef) rfl (by kernel_rfl) (by kernel_rfl) (by kernel_rfl) (fun _ _ _ h => h) (Or.inr ⟨by rfl, rfl⟩) trivial ?_
                try dsimp [Act.put]
                try simp only [List.setIfInBounds_toArray, List.set_cons_succ, List.set_cons_zero]
                refine wpAnyH_take (i := 22) (v := undef) rfl (by kernel_rfl) (by kernel_rfl) (by kernel_rfl) (fun _ _ _ h => h) (Or.inr ⟨by rfl, rfl⟩) trivial ?_
                try dsimp [Act.put]
                try simp only [List.setIfInBounds_toArray, List.set_cons_succ, List.set_cons_zero]
                refine wpAnyH_take (i := 23) (v := undef) rfl (by kernel_rfl) (by kernel_rfl) (by kernel_rfl) (fun _ _ _ h => h) (Or.inr ⟨by rfl, rfl⟩) trivial ?_
                try dsimp [Act.put]
                try simp only [List.setIfInBounds_toArray, List.set_cons_succ, List.set_cons_zero]
                refine wpAnyH_take (i := 24) (v := undef) rfl (by kernel_rfl) (by kernel_rfl) (by kernel_rfl) (fun _ _ _ h => h) (Or.inr ⟨by rfl, rfl⟩) trivial ?_
                try dsimp [Act.put]
                try simp only [List.setIfInBounds_toArray, List.set_cons_succ, List.set_cons_zero]
                refine wpAnyH_take (i := 25) (v := undef) rfl (by kernel_rfl) (by kernel_rfl) (by kernel_rfl) (fun _ _ _ h => h) (Or.inr ⟨by rfl, rfl⟩) trivial ?_
                try dsimp [Act.put]
                try simp only [List.setIfInBounds_toArray, List.set_cons_succ, List.set_cons_zero]
                refine wpAnyH_take (i := 26) (v := undef) rfl (by kernel_rfl) (by kernel_rfl) (by kernel_rfl) (fun _ _ _ h => h) (Or.inr ⟨by rfl, rfl⟩) trivial ?_
                try dsimp [Act.put]
                try simp only [List.setIfInBounds_toArray, List.set_cons_succ, List.set_cons_zero]
                refine wpAnyH_take (i := 27) (v := undef) rfl (by kernel_rfl) (by kernel_rfl) (by kernel_rfl) (fun _ _ _ h => h) (Or.inr ⟨by rfl, rfl⟩) trivial ?_
                try dsimp [Act.put]
                try simp only [List.setIfInBounds_toArray, List.set_cons_succ, List.set_cons_zero]
                refine wpAnyH_take (i := 28) (v := undef) rfl (by kernel_rfl) (by kernel_rfl) (by kernel_rfl) (fun _ _ _ h => h) (Or.inr ⟨by rfl, rfl⟩) trivial ?_
                try dsimp [Act.put]
                try simp only [List.setIfInBounds_toArray, List.set_cons_succ, List.set_cons_zero]
                refine wpAnyH_take (i := 29) (v := .bool false) rfl (by kernel_rfl) (by kernel_rfl) (by kernel_rfl) (fun _ _ _ h => h) (Or.inl ⟨by rfl, fun w hSw => by clear hSw; go_simp <;> first | omega | (simp [*]; done)⟩) trivial ?_
                try dsimp [Act.put]
                try simp only [List.setIfInBounds_toArray, List.set_cons_succ, List.set_cons_zero]
                refine wpAnyH_take (i := 30) (v := .bool false) rfl (by kernel_rfl) (by kernel_rfl) (by kernel_rfl) (fun _ _ _ h => h) (Or.inl ⟨by rfl, fun w hSw => by clear hSw; go_simp <;> first | omega | (simp [*]; done)⟩) trivial ?_
                try dsimp [Act.put]
                try simp only [List.setIfInBounds_toArray, List.set_cons_succ, List.set_cons_zero]
                refine wpAnyH_done (by kernel_rfl) ?_ _
                refine NoPanic.normal ?_
                clear hji hwr
                go_wp2
                go_roundw
                case rel => exact ⟨c + 1, by omega, by go_num, D1, B1⟩
                case measure => simp [intOf]; omega
            · have hge3 : ¬ (c : Int) < 256 := by omega
              have HQ1 := fun W hW => HC.out (x.extract 0 i) (by omega) W hW
              have HQ2 := fun W hW => HC.out (x.extract i x.size) (by omega) W hW
              have HQ3 : Hid (∀ W g, W.heap[g]? = some (.cells (strs [⟨#[120]⟩, ⟨#[]⟩]).toArray 9 (0, 0)) → G W → Calls Tryz.prog 19 #[.string (x.extract 0 i), .slice (some ⟨g, 0, none⟩) 2 2] W (True' W)) := fun W g hb hW => HP.out _ _ _ (by omega) (by decide) W (TextsAt.block hb 2 2 rfl) hW
              have G1 := hGb HG.out hB
              go_wp2_with (first
                | (go_at_call 18; first | (with_reducible refine (HQ1 _ G1).mono ?_; rintro e w1 ⟨rfl, b1⟩; have B1 := below_join hB b1; have D1 := hD.below b1; have G2 := hGb HG.out B1) | (with_reducible refine (HQ2 _ G2).mono ?_; rintro e w2 ⟨rfl, b2⟩; have B2 := below_join B1 b2; have D2 := D1.below b2))
                | (go_at_call 19; refine (HQ3.out _ _ (Lies.new' w2 _ _) (hGb HG.out (B2.alloc B2.size _))).mono ?_; rintro e w3 ⟨rfl, b3⟩; have B3 := below_join (B2.alloc B2.size _) b3; have D3 := (D2.alloc _).below b3))
              go_roundw
              case rel => exact ⟨i + 1, by omega, by go_num, D3, B3⟩
              case measure => simp [intOf]; omega
        · have hge2 : ¬ (i : Int) ≤ (x.size : Int) := by omega
          go_wp2
          go_roundw
          case rel => exact ⟨k + 1, by omega, by go_num, hL, hB⟩
          case measure => simp [intOf]; omega
    · have hge : ¬ (k : Int) < 4 := by omega
      have HLN : Hid (Lies (wr.alloc (.cells (strs ls23).toArray 9)) wr.heap.size 9 (strs ls23).toArray) := Lies.new wr _ _
      have HBN : Hid (Below w.heap.size w (wr.alloc (.cells (strs ls23).toArray 9))) := hB.alloc hB.size _
      clear hL hB
      go_wp2
      generalize wr.heap.size = gF at *
      go_loopw [84] (fun n wr => ∃ k : Nat, k ≤ 23 ∧ n = .int .i64 k ∧ Lies wr gF 9 (strs ls23).toArray ∧ Below w.heap.size w wr) (fun n _ => 23 - (intOf n).toNat)
      case atStart => exact ⟨0, by omega, rfl, HLN.out, HBN.out⟩
      case round =>
        obtain ⟨k, hk, rfl, hL, hB⟩ := hrel
        by_cases hlt : k < 23
        · have hlt' : (k : Int) < 23 := by omega
          have hk0 : (0 : Int) ≤ (k : Int) := by omega
          obtain ⟨x, hx, hx1⟩ := ls23_at k hlt
          have c0 := hL.cell hx
          have hx4 : (x.size : Int) ≤ 100 := by omega
          have y1 : (⟨#[49, 58, 120]⟩ : ByteArray).size = 3 := rfl
          have y2 : (⟨#[48, 58]⟩ : ByteArray).size = 2 := rfl
          have HQ1 := fun W hW => HC.out x (by omega) W hW
          have HQ2 := fun W hW => HC.out (⟨#[49, 58, 120]⟩ ++ x) (by rw [size_app]; omega) W hW
          have HQ3 := fun W hW => HC.out (x ++ ⟨#[49, 58, 120]⟩) (by rw [size_app]; omega) W hW
          have HQ4 : Hid (∀ W, G W → Calls Tryz.prog 19 #[.string x, .slice none 0 0] W (True' W)) := fun W hW => HP.out _ [] _ (by omega) (by decide) W (TextsAt.nil W) hW
          have HQ5 : Hid (∀ W g, W.heap[g]? = some (.cells (strs [⟨#[50, 58]⟩, ⟨#[97, 98]⟩]).toArray 9 (0, 0)) → G W → Calls Tryz.prog 19 #[.string (⟨#[48, 58]⟩ ++ x), .slice (some ⟨g, 0, none⟩) 2 2] W (True' W)) := fun W g hb hW => HP.out _ _ _ (by rw [size_app]; omega) (by decide) W (TextsAt.block hb 2 2 rfl) hW
          have G1 := hGb HG.out hB
          clear hx
          go_wp2_with (first
            | (go_at_call 18; first | (with_reducible refine (HQ1 _ G1).mono ?_; rintro e w1 ⟨rfl, b1⟩; have B1 := below_join hB b1; have D1 := hL.below b1; have G2 := hGb HG.out B1) | (with_reducible refine (HQ2 _ G2).mono ?_; rintro e w2 ⟨rfl, b2⟩; have B2 := below_join B1 b2; have D2 := D1.below b2; have G3 := hGb HG.out B2) | (with_reducible refine (HQ3 _ G3).mono ?_; rintro e w3 ⟨rfl, b3⟩; have B3 := below_join B2 b3; have D3 := D2.below b3; have G4 := hGb HG.out B3))
            | (go_at_call 19; first | (with_reducible refine (HQ4.out _ G4).mono ?_; rintro e w4 ⟨rfl, b4⟩; have B4 := below_join B3 b4; have D4 := D3.below b4) | (refine (HQ5.out _ _ (Lies.new' w4 _ _) (hGb HG.out (B4.alloc B4.size _))).mono ?_; rintro e w5 ⟨rfl, b5⟩; have B5 := below_join (B4.alloc B4.size _) b5; have D5 := (D4.alloc _).below b5)))
          go_roundw
          case rel => exact ⟨k + 1, by omega, by go_num, D5, B5⟩
          case measure => simp [intOf]; omega
        · have hge5 : ¬ (k : Int) < 23 := by omega
          have hBB : Below w.heap.size w wr := hB
          clear hB hL
          go_wp2
          go_loopw [8, 9] (fun v n wr => ∃ (k : Nat) (x : ByteArray), k ≤ 4 ∧ n = .int .i64 k ∧ v = .string x ∧ x.size = 10 ^ (k + 1) ∧ Below w.heap.size w wr) (fun _ n _ => 4 - (intOf n).toNat)
          case atStart => exact ⟨0, _, by omega, rfl, rfl, rfl, hBB⟩
          case round =>
            obtain ⟨k, x, hk, rfl, rfl, hx, hB⟩ := hrel
            clear hBB
            by_cases hlt : k < 4
            · have hlt' : (k : Int) < 4 := by omega
              have hx1 : 10 ≤ x.size ∧ x.size ≤ 10000 := by
                rw [hx]
                obtain rfl | rfl | rfl | rfl : k = 0 ∨ k = 1 ∨ k = 2 ∨ k = 3 := by omega
                all_goals decide
              obtain ⟨hx2, hx3⟩ := hx1
              have hx4 : (x.size : Int) ≤ 10000 := by omega
              have hx5 : (1 : Int) ≤ (x.size : Int) := by omega
              have hx6 : ¬ ((x.size : Int) < 1) := by omega
              have HX : Hid (x.size = 10 ^ (k + 1)) := hx
              obtain ⟨m, hm⟩ : ∃ m : Nat, (x.size : Int) - 1 = (m : Int) := ⟨x.size - 1, by omega⟩
              have hm1 : (m : Int) ≤ (x.size : Int) := by omega
              have hm0 : (0 : Int) ≤ (m : Int) := by omega
              have e1 := size_ext x 1 x.size
              have e2 := size_ext x 0 m
              have z0 : (⟨#[]⟩ : ByteArray).size = 0 := rfl
              have HL1 : Hid (∀ W g, W.heap[g]? = some (.cells #[.string x, .string (x.extract 1 x.size), .string ⟨#[]⟩] 9 (0, 0)) → G W → Calls Tryz.prog 20 #[.slice (some ⟨g, 0, none⟩) 3 3] W (True' W)) := fun W g hb hW => HL.out [x, x.extract 1 x.size, ⟨#[]⟩] _ (by unfold wt; simp only [List.map_cons, List.map_nil, List.sum_cons, List.sum_nil]; omega) W (TextsAt.block hb 3 3 rfl) hW
              have HK1 : Hid (∀ W g h, W.heap[g]? = some (.cells #[.string x, .string (x.extract 0 m)] 9 (0, 0)) → W.heap[h]? = some (.cells #[.string ⟨#[]⟩, .string x] 9 (0, 0)) → G W → Calls Tryz.prog 21 #[.slice (some ⟨g, 0, none⟩) 2 2, .slice (some ⟨h, 0, none⟩) 2 2, .string ⟨#[]⟩] W (True' W)) := fun W g h hb hc hW => HK.out [x, x.extract 0 m] [⟨#[]⟩, x] _ _ _ (by unfold wt; simp only [List.map_cons, List.map_nil, List.sum_cons, List.sum_nil]; omega) W (TextsAt.block hb 2 2 rfl) (TextsAt.block hc 2 2 rfl) hW
              have BA : Below w.heap.size w (wr.alloc (.cells #[.string x, .string (x.extract 1 x.size), .string ⟨#[]⟩] 9)) := hB.alloc hB.size _
              have C1 := HL1.out (wr.alloc (.cells #[.string x, .string (x.extract 1 x.size), .string ⟨#[]⟩] 9)) wr.heap.size (Lies.new' wr _ _)
              clear hx e1 e2
              go_wp2_with (first
                | (go_at_call 20; with_reducible refine (C1 (hGb HG.out BA)).mono ?_; rintro e w1 ⟨rfl, b1⟩; have B1 := below_join BA b1; have BB := (B1.alloc B1.size (.cells #[.string x, .string (x.extract 0 m)] 9)).alloc (Nat.le_trans B1.size (by simp)) (.cells #[.string ⟨#[]⟩, .string x] 9); have C2 := HK1.out _ _ _ (two_blocks w1 #[.string x, .string (x.extract 0 m)] #[.string ⟨#[]⟩, .string x] 9 9).1 (two_blocks w1 #[.string x, .string (x.extract 0 m)] #[.string ⟨#[]⟩, .string x] 9 9).2)
                | (go_at_call 21; with_reducible refine (C2 (hGb HG.out BB)).mono ?_; rintro e w2 ⟨rfl, b2⟩; have B2 := below_join BB b2))
              go_roundw
              case rel => exact ⟨k + 1, _, by omega, by go_num, rfl, by simp only [size_app]; rw [HX.out, show 10 ^ (k + 1 + 1) = 10 ^ (k + 1) * 10 from rfl]; generalize 10 ^ (k + 1) = P; omega, B2⟩
              case measure => simp [intOf]; omega
            · have hge6 : ¬ (k : Int) < 4 := by omega
              have HL0 : Hid (∀ W, G W → Calls Tryz.prog 20 #[.slice none 0 0] W (True' W)) := fun W hW => HL.out [] _ (by decide) W (TextsAt.nil W) hW
              have HC0 := fun W hW => HC.out ⟨#[]⟩ (by decide) W hW
              have HK0 : Hid (∀ W, G W → Calls Tryz.prog 21 #[.slice none 0 0, .slice none 0 0, .string ⟨#[]⟩] W (True' W)) := fun W hW => HK.out [] [] _ _ _ (by decide) W (TextsAt.nil W) (TextsAt.nil W) hW
              have G1 := hGb HG.out hB
              go_wp2_with (first
                | (go_at_call 20; refine (HL0.out _ G1).mono ?_; rintro e w1 ⟨rfl, b1⟩; have B1 := below_join hB b1; have G2 := hGb HG.out B1)
                | (go_at_call 18; refine (HC0 _ G2).mono ?_; rintro e w2 ⟨rfl, b2⟩; have B2 := below_join B1 b2; have G3 := hGb HG.out B2)
                | (go_at_call 21; refine (HK0.out _ G3).mono ?_; rintro e w3 ⟨rfl, b3⟩))
              go_ret
              exact ⟨rfl, below_join B2 b3⟩
end Go.Proofs.YtodgcmhkojkpcaaGreatDoor
