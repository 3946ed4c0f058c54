/- Package digest's spread: a block's 64 numbers. -/
import Derived.Test.YtodgcmhkojkpcaaGreatDoorSha
import Derived.Deep.RegionWith
import Derived.Deep.RegionHeld3
namespace Go.Proofs.YtodgcmhkojkpcaaGreatDoor
open Go Go.RowKit

/-- Numbers of 32 bits as cells. -/
def u32s (l : List Int) : Array Value := (l.map (Value.int .u32)).toArray
theorem u32s_size (l : List Int) : (u32s l).size = l.length := by simp [u32s]
theorem u32s_get (l : List Int) (k : Nat) (h : k < l.length) : (u32s l)[k]? = some (.int .u32 (l.getD k 0)) := by
  simp [u32s, h]
theorem u32s_set (l : List Int) (k : Nat) (x : Int) : (u32s l).setIfInBounds k (.int .u32 x) = u32s (l.set k x) := by
  simp [u32s, List.map_set]
theorem u32s_one (l : List Int) : (u32s l).all (·.oneCell') = true := Array.all_eq_true_iff_forall_mem.2 (fun v hv => by
  simp [u32s] at hv; obtain ⟨b, _, rfl⟩ := hv; rfl)
def zero64 : List Int := List.replicate 64 0
theorem info_words : (Tryz.prog.info? 110).map (fun i => (i.zero, i.size)) = some (some (.agg (u32s zero64)), 64) := by kernel_rfl

theorem block_len : Tryz.prog.arrayLen 82 = 64 := by kernel_rfl
theorem block_elem : Tryz.prog.elem 82 = 5 := by kernel_rfl
theorem block_under : Tryz.prog.underlying 82 = some (.array (Tryz.prog.arrayLen 82) (Tryz.prog.elem 82)) := by rw [block_len, block_elem]; exact Tryz.underlying82
/-- A piece of a block's bytes. -/
theorem slice_lh (b o l h : Nat) (hlh : l ≤ h) (h64 : h ≤ 64) (hl : l < 64) (w : World) :
    (Instr.sliceAt 82 (.pointer (some ⟨b, o, none⟩)) (some (.int .i64 (l : Int))) (some (.int .i64 (h : Int))) none).run Tryz.prog w = .ok (.slice (some ⟨b, o + l, none⟩) (h - l) (64 - l)) w := by
  rw [run_sliceAt_array_lh w 82 ⟨b, o, none⟩ block_under .i64 .i64 l h (by omega) (by omega) (by rw [block_len]; omega), block_elem, Tryz.sizeOf5]
  simp only [Result.andThen_ok, slicedAt, block_len, Int.toNat_natCast, Nat.mul_one, Addr.add_mid]
  rw [if_neg (by omega)]
theorem slice_l (b o l : Nat) (hl : l < 64) (w : World) :
    (Instr.sliceAt 82 (.pointer (some ⟨b, o, none⟩)) (some (.int .i64 (l : Int))) none none).run Tryz.prog w = .ok (.slice (some ⟨b, o + l, none⟩) (64 - l) (64 - l)) w := by
  rw [run_sliceAt_array_l w 82 ⟨b, o, none⟩ block_under .i64 l (by omega) (by rw [block_len]; omega), block_elem, Tryz.sizeOf5]
  simp only [Result.andThen_ok, slicedAt, block_len, Int.toNat_natCast, Nat.mul_one, Addr.add_mid]
  rw [if_neg (by omega)]

def word4 (b0 b1 b2 b3 : UInt8) : Int := bits .or .u32 (bits .or .u32 (bits .or .u32 ((b0.toNat : Int) * 16777216) ((b1.toNat : Int) * 65536)) ((b2.toNat : Int) * 256)) (b3.toNat : Int)
/-- The t-th number, behind those ahead of it. -/
def nextW (bl : List UInt8) (ws : List Int) (t : Nat) : Int :=
  if t < 16 then word4 (bl.getD (4 * t) 0) (bl.getD (4 * t + 1) 0) (bl.getD (4 * t + 2) 0) (bl.getD (4 * t + 3) 0)
  else IntKind.u32.wrap (IntKind.u32.wrap (IntKind.u32.wrap (s1 (ws.getD (t - 2) 0) + ws.getD (t - 7) 0) + s0 (ws.getD (t - 15) 0)) + ws.getD (t - 16) 0)
/-- A block's first k numbers. -/
def sched (bl : List UInt8) : Nat → List Int
  | 0 => []
  | t + 1 => sched bl t ++ [nextW bl (sched bl t) t]
theorem sched_length (bl : List UInt8) : ∀ t, (sched bl t).length = t
  | 0 => rfl
  | t + 1 => by simp [sched, sched_length bl t]
/-- The first k numbers, noughts behind. -/
def schedZ (bl : List UInt8) (k : Nat) : List Int := sched bl k ++ List.replicate (64 - k) 0
theorem schedZ_length (bl : List UInt8) (k : Nat) (h : k ≤ 64) : (schedZ bl k).length = 64 := by simp [schedZ, sched_length]; omega
theorem schedZ_get (bl : List UInt8) (k i : Nat) (h : i < k) : (schedZ bl k).getD i 0 = (sched bl k).getD i 0 := by
  unfold schedZ
  rw [List.getD_eq_getElem?_getD, List.getD_eq_getElem?_getD, List.getElem?_append_left (by rw [sched_length]; exact h)]
theorem schedZ_set (bl : List UInt8) (k : Nat) (h : k < 64) : (schedZ bl k).set k (nextW bl (sched bl k) k) = schedZ bl (k + 1) := by
  unfold schedZ
  rw [List.set_append_right _ _ (by rw [sched_length]; exact Nat.le_refl _), sched_length, Nat.sub_self, show 64 - k = (64 - (k + 1)) + 1 by omega, List.replicate_succ, List.set_cons_zero]
  simp [sched]
theorem getD_byte (bl : List UInt8) (i : Nat) (h : i < bl.length) : bl.getD i 0 = bl[i] := by
  rw [List.getD_eq_getElem?_getD, List.getElem?_eq_getElem h]; rfl

theorem wrap64_of {x : Int} (h1 : -9223372036854775808 ≤ x) (h2 : x ≤ 9223372036854775807) : IntKind.i64.wrap x = x := by
  rw [IntKind.wrap_i64]; omega
set_option maxRecDepth 100000 in
set_option maxHeartbeats 2000000 in
theorem spread_p (bl : List UInt8) (hbl : bl.length = 64) (b o : Nat) (w : World) (hc : ∀ (i : Nat) (h : i < bl.length), w.cell? ⟨b, o + i, none⟩ = some (.int .u8 bl[i].toNat)) :
    Calls Tryz.prog 67 #[.pointer (some ⟨b, o, none⟩)] w fun e w' => e = .returned (.agg (u32s (sched bl 64))) ∧ Below w.heap.size w w' := by
  have hz := (zero_of_info (P := Tryz.prog) info_words).1
  have HC : Hid _ := hc
  clear hc
  go_enter Tryz.func67, Tryz.ntmps67
  go_wp2
  go_loopw [6] (fun n wr => ∃ (k : Nat), k ≤ 64 ∧ n = .int .i64 k ∧ Lies wr (w.heap.size + 1) 110 (u32s (schedZ bl k)) ∧ Lies wr w.heap.size 110 (u32s zero64) ∧ Below w.heap.size w wr) (fun n _ => 64 - (intOf n).toNat)
  case atStart =>
    refine ⟨0, by omega, rfl, ?_, (Lies.new w _ _).alloc _, ((Below.refl _ w).alloc (Nat.le_refl _) _).alloc (by simp) _⟩
    have h := Lies.new (w.alloc (.cells (u32s zero64) 110)) 110 (u32s zero64); rw [World.size_alloc] at h; exact h
  case round =>
    obtain ⟨k, hk, rfl, hL1, hL0, hB⟩ := hrel
    by_cases hlt : k < 64
    · have hl := schedZ_length bl k hk
      have HS := schedZ_set bl k hlt
      have w1 := hL1.cell (u32s_get (schedZ bl k) k (by omega))
      have f1 := hL1.frozen k
      have d1 : (0 : Int) ≤ (k : Int) := by omega
      have d2 : (k : Int) < 64 := by omega
      by_cases h16 : k < 16
      · have c0 := (hB.cell (p := ⟨b, o + 4 * k, none⟩) (World.block_lt_of_cell? w _ (HC.out (4 * k) (by omega)))).trans (HC.out (4 * k) (by omega))
        have c1 := (hB.cell (p := ⟨b, o + (4 * k + 1), none⟩) (World.block_lt_of_cell? w _ (HC.out (4 * k + 1) (by omega)))).trans (HC.out (4 * k + 1) (by omega))
        have c2 := (hB.cell (p := ⟨b, o + (4 * k + 2), none⟩) (World.block_lt_of_cell? w _ (HC.out (4 * k + 2) (by omega)))).trans (HC.out (4 * k + 2) (by omega))
        have c3 := (hB.cell (p := ⟨b, o + (4 * k + 3), none⟩) (World.block_lt_of_cell? w _ (HC.out (4 * k + 3) (by omega)))).trans (HC.out (4 * k + 3) (by omega))
        have HN : Hid (nextW bl (sched bl k) k = word4 bl[4 * k] bl[4 * k + 1] bl[4 * k + 2] bl[4 * k + 3]) := by
          unfold Hid nextW; rw [if_pos h16, getD_byte _ _ (by omega), getD_byte _ _ (by omega), getD_byte _ _ (by omega), getD_byte _ _ (by omega)]
        have HS2 : Hid ((schedZ bl k).set k (nextW bl (sched bl k) k) = schedZ bl (k + 1)) := HS
        clear HS
        generalize bl[4 * k] = b0 at *
        generalize bl[4 * k + 1] = b1 at *
        generalize bl[4 * k + 2] = b2 at *
        generalize bl[4 * k + 3] = b3 at *
        rw [← Nat.add_assoc] at c1 c2 c3
        have e0 := b0.toNat_lt
        have e1 := b1.toNat_lt
        have e2 := b2.toNat_lt
        have e3 := b3.toNat_lt
        have d3 : (k : Int) < 16 := by omega
        have hsl := slice_lh b o (4 * k) (4 * k + 4) (by omega) (by omega) (by omega) wr
        have q1 : ((4 * k : Nat) : Int) = 4 * (k : Int) := by omega
        have q2 : ((4 * k + 4 : Nat) : Int) = 4 * (k : Int) + 4 := by omega
        rw [q1, q2, Nat.add_sub_cancel_left] at hsl
        clear q1 q2
        go_wp2
        go_region
        go_wp2
        go_roundw
        case rel =>
          have h := hL1.set (i := k) (.int .u32 (word4 b0 b1 b2 b3))
          have ha : (u32s (schedZ bl k)).setIfInBounds k (.int .u32 (word4 b0 b1 b2 b3)) = u32s (schedZ bl (k + 1)) := by rw [u32s_set, ← HN.out, HS2.out]
          rw [ha] at h
          exact ⟨k + 1, by omega, by go_num, h.drew 1, (hL0.other _ (by omega)).drew 1, below_drawn (hB.setCell (p := ⟨w.heap.size + 1, k, none⟩) (by simp) _) 1⟩
        case measure => simp [intOf]; omega
      · have g2 := hL1.cell (u32s_get (schedZ bl k) (k - 2) (by omega))
        have g7 := hL1.cell (u32s_get (schedZ bl k) (k - 7) (by omega))
        have g15 := hL1.cell (u32s_get (schedZ bl k) (k - 15) (by omega))
        have g16 := hL1.cell (u32s_get (schedZ bl k) (k - 16) (by omega))
        rw [schedZ_get bl k _ (by omega)] at g2 g7 g15 g16
        have HN : Hid (nextW bl (sched bl k) k = IntKind.u32.wrap (IntKind.u32.wrap (IntKind.u32.wrap (s1 ((sched bl k).getD (k - 2) 0) + (sched bl k).getD (k - 7) 0) + s0 ((sched bl k).getD (k - 15) 0)) + (sched bl k).getD (k - 16) 0)) := by
          unfold Hid nextW; rw [if_neg h16]
        have HS2 : Hid ((schedZ bl k).set k (nextW bl (sched bl k) k) = schedZ bl (k + 1)) := HS
        clear HS
        generalize (sched bl k).getD (k - 2) 0 = x2 at *
        generalize (sched bl k).getD (k - 7) 0 = x7 at *
        generalize (sched bl k).getD (k - 15) 0 = x15 at *
        generalize (sched bl k).getD (k - 16) 0 = x16 at *
        have d3 : ¬ (k : Int) < 16 := by omega
        have p2 : IntKind.i64.wrap ((k : Int) - 2) = (k : Int) - 2 := wrap64_of (by omega) (by omega)
        have p7 : IntKind.i64.wrap ((k : Int) - 7) = (k : Int) - 7 := wrap64_of (by omega) (by omega)
        have p15 : IntKind.i64.wrap ((k : Int) - 15) = (k : Int) - 15 := wrap64_of (by omega) (by omega)
        have p16 : IntKind.i64.wrap ((k : Int) - 16) = (k : Int) - 16 := wrap64_of (by omega) (by omega)
        have n2 : ((k : Int) - 2).toNat = k - 2 := by omega
        have n7 : ((k : Int) - 7).toNat = k - 7 := by omega
        have n15 : ((k : Int) - 15).toNat = k - 15 := by omega
        have n16 : ((k : Int) - 16).toNat = k - 16 := by omega
        have r2 : (2 : Int) ≤ (k : Int) := by omega
        have r2b : (k : Int) - 2 < 64 := by omega
        have r2c : (k : Int) < 66 := by omega
        have r7 : (7 : Int) ≤ (k : Int) := by omega
        have r7b : (k : Int) - 7 < 64 := by omega
        have r7c : (k : Int) < 71 := by omega
        have r15 : (15 : Int) ≤ (k : Int) := by omega
        have r15b : (k : Int) - 15 < 64 := by omega
        have r15c : (k : Int) < 79 := by omega
        have r16 : (16 : Int) ≤ (k : Int) := by omega
        have r16b : (k : Int) - 16 < 64 := by omega
        have r16c : (k : Int) < 80 := by omega
        go_wp2
        have m2 : ∀ (W : World) (v : Value), (W.setCell ⟨w.heap.size + 1, k, none⟩ v).cell? ⟨w.heap.size + 1, k - 2, none⟩ = W.cell? ⟨w.heap.size + 1, k - 2, none⟩ := fun W v => World.cell?_setCell_other _ _ _ _ (fun e => by have h := congrArg Addr.off e; have h2 : k = k - 2 := h; omega)
        have m7 : ∀ (W : World) (v : Value), (W.setCell ⟨w.heap.size + 1, k, none⟩ v).cell? ⟨w.heap.size + 1, k - 7, none⟩ = W.cell? ⟨w.heap.size + 1, k - 7, none⟩ := fun W v => World.cell?_setCell_other _ _ _ _ (fun e => by have h := congrArg Addr.off e; have h2 : k = k - 7 := h; omega)
        have m15 : ∀ (W : World) (v : Value), (W.setCell ⟨w.heap.size + 1, k, none⟩ v).cell? ⟨w.heap.size + 1, k - 15, none⟩ = W.cell? ⟨w.heap.size + 1, k - 15, none⟩ := fun W v => World.cell?_setCell_other _ _ _ _ (fun e => by have h := congrArg Addr.off e; have h2 : k = k - 15 := h; omega)
        have m16 : ∀ (W : World) (v : Value), (W.setCell ⟨w.heap.size + 1, k, none⟩ v).cell? ⟨w.heap.size + 1, k - 16, none⟩ = W.cell? ⟨w.heap.size + 1, k - 16, none⟩ := fun W v => World.cell?_setCell_other _ _ _ _ (fun e => by have h := congrArg Addr.off e; have h2 : k = k - 16 := h; omega)
        go_region_held3 (fun w' => w'.cell? ⟨w.heap.size + 1, k - 2, none⟩ = some (.int .u32 x2) ∧ w'.cell? ⟨w.heap.size + 1, k - 7, none⟩ = some (.int .u32 x7) ∧ w'.cell? ⟨w.heap.size + 1, k - 15, none⟩ = some (.int .u32 x15) ∧ w'.cell? ⟨w.heap.size + 1, k - 16, none⟩ = some (.int .u32 x16)) (go_keep)
          (first | (go_at_call 81; refine (shiftLow_p x2 _).mono ?_; rintro e wa ⟨rfl, rfl⟩) | (go_at_call 82; refine (shiftHigh_p x15 _).mono ?_; rintro e wb ⟨rfl, rfl⟩))
        have ha : (u32s (schedZ bl k)).setIfInBounds k (.int .u32 (IntKind.u32.wrap (IntKind.u32.wrap (IntKind.u32.wrap (s1 x2 + x7) + s0 x15) + x16))) = u32s (schedZ bl (k + 1)) := by rw [u32s_set, ← HN.out, HS2.out]
        have h := hL1.set (i := k) (.int .u32 (IntKind.u32.wrap (IntKind.u32.wrap (IntKind.u32.wrap (s1 x2 + x7) + s0 x15) + x16)))
        rw [ha] at h
        generalize IntKind.u32.wrap (IntKind.u32.wrap (IntKind.u32.wrap (s1 x2 + x7) + s0 x15) + x16) = y at *
        clear ha
        go_wp2
        go_roundw
        case rel => exact ⟨k + 1, by omega, by go_num, h.drew 1, (hL0.other _ (by omega)).drew 1, below_drawn (hB.setCell (p := ⟨w.heap.size + 1, k, none⟩) (by simp) _) 1⟩
        case measure => simp [intOf]; omega
    · obtain rfl : k = 64 := by omega
      have hlz : schedZ bl 64 = sched bl 64 := by simp [schedZ]
      rw [hlz] at hL1
      have hi : (Tryz.prog.info? 110).map (·.size) = some (u32s (sched bl 64)).size := by rw [u32s_size, sched_length]; kernel_rfl
      go_wp2_with (first
        | (refine wpList_load_row rfl 110 (.tmp 3) rfl (w.heap.size + 1) rfl 110 (u32s (sched bl 64)) (0, 0) _ hL1 Tryz.underlying110 rfl hi ?_)
        | (refine wpList_store_row rfl 110 (.tmp 2) (.tmp 67) rfl w.heap.size (u32s (sched bl 64)) rfl rfl 110 (u32s zero64) hL0 hi (by rw [u32s_size, u32s_size, sched_length]; rfl) (u32s_one _) ?_))
      refine bodyPost_ret (results_cell_row rfl _ _ w.heap.size 110 (u32s (sched bl 64)) (0, 0) _ rfl (hL0.row _) Tryz.underlying110 rfl hi) rfl ?_
      exact ⟨rfl, below_setRow hB (Nat.le_refl _) _⟩
end Go.Proofs.YtodgcmhkojkpcaaGreatDoor
