/- Package digest's Sum of a hash, and of a text. -/
import Derived.Test.YtodgcmhkojkpcaaGreatDoorFinish3
namespace Go.Proofs.YtodgcmhkojkpcaaGreatDoor
open Go Go.RowKit

/-- What waits, the one bit behind it, noughts behind. -/
def baseT (t : List UInt8) : List UInt8 := t.drop (64 * (t.length / 64)) ++ 128 :: List.replicate (63 - t.length % 64) 0
/-- The sums in the end. -/
def finalS (t : List UInt8) : List Int :=
  if t.length % 64 ≤ 55 then compress (sumsOf t (t.length / 64)) (endK (baseT t) t.length 8)
  else compress (compress (sumsOf t (t.length / 64)) (baseT t)) (endK zeroB t.length 8)
theorem finalS_length (t : List UInt8) : (finalS t).length = 8 := by
  unfold finalS; split <;> exact compress_length _ _ (by first | exact sumsOf_length _ _ | exact compress_length _ _ (sumsOf_length _ _))
theorem base_text (t bl : List UInt8) (hbl : bl.length = 64) (hp : bl.take (t.length % 64) = t.drop (64 * (t.length / 64))) : base1 bl (t.length % 64) = baseT t := by
  rw [base1_eq bl _ hbl (by omega), hp]; rfl
/-- finish, of a hash. -/
theorem finish_p (wd : Int) (t : List UInt8) (ht : t.length ≤ 1152921504606846976) (b : Nat) (w : World) (hH : HashIs w b wd t) (hk : KTab w) (hb : 1 ≠ b) :
    Calls Tryz.prog 51 #[.pointer (some ⟨b, 0, none⟩)] w fun e w' => e = .returned (.tuple #[]) ∧ (∃ bl, Lies w' b 84 (hcells wd t.length (finalS t) bl)) ∧ Turned b w w' := by
  obtain ⟨bl, h1, h2, h3⟩ := hH
  by_cases hf : t.length % 64 ≤ 55
  · refine (finish_a wd t.length _ (sumsOf_length _ _) bl h1 _ rfl hf ht b w h3 hk hb).mono ?_
    rintro e w' ⟨rfl, h4, h5⟩
    rw [base_text t bl h1 h2] at h4
    exact ⟨rfl, ⟨_, by unfold finalS; rw [if_pos hf]; exact h4⟩, h5⟩
  · refine (finish_b wd t.length _ (sumsOf_length _ _) bl h1 _ rfl (by omega) ht b w h3 hk hb).mono ?_
    rintro e w' ⟨rfl, h4, h5⟩
    rw [base_text t bl h1 h2] at h4
    exact ⟨rfl, ⟨_, by unfold finalS; rw [if_neg hf]; exact h4⟩, h5⟩

/-- The i-th byte of the sums. -/
def sumByte (xs : List Int) (i : Nat) : UInt8 := UInt8.ofNat ((xs.getD (i / 4) 0 / ((2 ^ (24 - i % 4 * 8) : Nat) : Int)) % 256).toNat
theorem sumByte_int (xs : List Int) (i : Nat) : ((sumByte xs i).toNat : Int) = (xs.getD (i / 4) 0 / ((2 ^ (24 - i % 4 * 8) : Nat) : Int)) % 256 := by
  unfold sumByte
  rw [UInt8.toNat_ofNat']
  have h1 := Int.emod_nonneg (xs.getD (i / 4) 0 / ((2 ^ (24 - i % 4 * 8) : Nat) : Int)) (show (256 : Int) ≠ 0 by decide)
  have h2 := Int.emod_lt_of_pos (xs.getD (i / 4) 0 / ((2 ^ (24 - i % 4 * 8) : Nat) : Int)) (show (0 : Int) < 256 by decide)
  generalize (xs.getD (i / 4) 0 / ((2 ^ (24 - i % 4 * 8) : Nat) : Int)) % 256 = z at *
  omega
/-- The first k bytes of the sums, noughts behind. -/
def sumK (xs : List Int) (k : Nat) : List UInt8 := (List.range k).map (sumByte xs) ++ List.replicate (32 - k) 0
theorem sumK_length (xs : List Int) (k : Nat) (h : k ≤ 32) : (sumK xs k).length = 32 := by simp [sumK]; omega
theorem sumK_set (xs : List Int) (k : Nat) (h : k < 32) : (sumK xs k).set k (sumByte xs k) = sumK xs (k + 1) := by
  unfold sumK
  rw [List.set_append_right _ _ (by simp), List.length_map, List.length_range, Nat.sub_self, show 32 - k = (32 - (k + 1)) + 1 by omega, List.replicate_succ, List.set_cons_zero, List.range_succ]
  simp
/-- The digest of a width of a text. -/
def sumB (wd : Nat) (t : List UInt8) : List UInt8 := sumK (finalS t) wd
theorem sumB_length (wd : Nat) (t : List UInt8) (h : wd ≤ 32) : (sumB wd t).length = 32 := sumK_length _ _ h

theorem hcells_zero (wd len : Int) (xs : List Int) (bl : List UInt8) : (hcells wd len xs bl)[0]? = some (.int .i64 wd) := by simp [hcells]
set_option maxRecDepth 100000 in
set_option maxHeartbeats 2000000 in
theorem hsum_p (wd : Nat) (hw : wd ≤ 32) (t : List UInt8) (ht : t.length ≤ 1152921504606846976) (b : Nat) (w : World) (hH : HashIs w b wd t) (hk : KTab w) :
    Calls Tryz.prog 28 #[.pointer (some ⟨b, 0, none⟩)] w fun e w' => e = .returned (.agg (dig32 (sumB wd t))) ∧ Below w.heap.size w w' := by
  have hz := (zero_of_info (P := Tryz.prog) info_digest).1
  have hzh := (zero_of_info (P := Tryz.prog) info_hash).1
  have hid : (Tryz.prog.info? 25).map (·.size) = some (dig32 (sumB wd t)).size := by rw [dig32_size, sumB_length wd t hw]; kernel_rfl
  have hg := var_lt l_k hk
  obtain ⟨bl, h1, h2, h3⟩ := hH
  have hHs := h3
  obtain ⟨C, hC⟩ : ∃ C, hcells (wd : Int) t.length (sumsOf t (t.length / 64)) bl = C := ⟨_, rfl⟩
  obtain ⟨Z, hZ⟩ : ∃ Z, hcells 0 0 [0, 0, 0, 0, 0, 0, 0, 0] zero64b = Z := ⟨_, rfl⟩
  have hCs : C.size = 74 := by rw [← hC]; exact hcells_size _ _ _ _ (sumsOf_length _ _) h1
  have hZs : Z.size = 74 := by rw [← hZ]; rfl
  have hC1 : C.all (·.oneCell') = true := by
    rw [← hC]; unfold hcells
    rw [List.all_toArray]
    simp [Value.oneCell']
  have hi : (Tryz.prog.info? 84).map (·.size) = some C.size := by rw [hCs]; kernel_rfl
  rw [hZ] at hzh
  rw [hC] at h3
  clear hZ
  have A0 : Lies ((w.alloc (.cells (dig32 zeros) 25)).alloc (.cells Z 84)) (w.heap.size + 1) 84 Z := by
    have h := Lies.new (w.alloc (.cells (dig32 zeros) 25)) 84 Z; rw [World.size_alloc] at h; exact h
  have A1 : Lies (((w.alloc (.cells (dig32 zeros) 25)).alloc (.cells Z 84)).setRow (w.heap.size + 1) C) (w.heap.size + 1) 84 C := A0.row _
  have A2 : Lies (((w.alloc (.cells (dig32 zeros) 25)).alloc (.cells Z 84)).setRow (w.heap.size + 1) C) w.heap.size 25 (dig32 zeros) := ((Lies.new w _ _).alloc _).otherRow _ (by omega)
  have B1 : Below w.heap.size w (((w.alloc (.cells (dig32 zeros) 25)).alloc (.cells Z 84)).setRow (w.heap.size + 1) C) := below_setRow (((Below.refl _ w).alloc (Nat.le_refl _) _).alloc (by simp) _) (by omega) _
  have K1 : KTab (((w.alloc (.cells (dig32 zeros) 25)).alloc (.cells Z 84)).setRow (w.heap.size + 1) C) := var?_below B1 l_k hg hk
  go_enter Tryz.func28, Tryz.ntmps28
  go_wp2_with (first
    | (refine wpList_load_row rfl 84 (.tmp 7) rfl b rfl 84 C (0, 0) _ ((Lies.alloc h3 _)) Tryz.underlying84 rfl hi ?_)
    | (refine wpList_store_row rfl 84 (.tmp 3) (.tmp 8) rfl (w.heap.size + 1) C rfl rfl 84 Z A0 hi (by rw [hCs, hZs]) hC1 ?_))
  generalize hWW : ((w.alloc (.cells (dig32 zeros) 25)).alloc (.cells Z 84)).setRow (w.heap.size + 1) C = W at *
  clear hWW
  refine (finish_p wd t ht (w.heap.size + 1) W ⟨bl, h1, h2, by rw [hC]; exact A1⟩ K1 (by omega)).mono ?_
  rintro e w2 ⟨rfl, ⟨bl2, hF⟩, hT⟩
  have hbw := hHs.lt
  have B2 : Below w.heap.size w w2 := B1.grown hT B1.size (fun k hk => by have := Option.some.inj hk; omega)
  have L0 : Lies w2 w.heap.size 25 (dig32 zeros) := A2.turned hT (by omega)
  have hwd : w2.cell? ⟨b, 0, none⟩ = some (.int .i64 wd) := (hHs.below B2).cell (hcells_zero _ _ _ _)
  have hwd2 : (w2.alloc (.cells (dig32 zeros) 25)).cell? ⟨b, 0, none⟩ = some (.int .i64 wd) := ((hHs.below B2).alloc _).cell (hcells_zero _ _ _ _)
  have hX : (finalS t).length = 8 := finalS_length t
  have hsb : Hid (sumK (finalS t) wd = sumB wd t) := rfl
  generalize finalS t = X at *
  have hlt1 : w.heap.size + 1 < w2.heap.size := hF.lt
  clear h3 hHs A0 A1 A2 B1 K1 hT hzh hC hCs hZs hC1 hi hk hg
  go_wp2
  go_loopw [14] (fun n wr => ∃ k : Nat, k ≤ wd ∧ n = .int .i64 k ∧ Lies wr w2.heap.size 25 (dig32 (sumK X k)) ∧ Lies wr w.heap.size 25 (dig32 zeros) ∧ Lies wr (w.heap.size + 1) 84 (hcells wd t.length X bl2) ∧ Below w.heap.size w wr) (fun n _ => wd - (intOf n).toNat)
  case atStart => exact ⟨0, by omega, rfl, Lies.new w2 _ _, L0.alloc _, hF.alloc _, B2.alloc B2.size _⟩
  case round =>
    obtain ⟨k, hkw, rfl, hL2, hL0, hLF, hB⟩ := hrel
    by_cases hlt : k < wd
    · have hkl := sumK_length X k (by omega)
      have cd := hL2.cell (dig32_get (sumK X k) k (by omega))
      have fd := hL2.frozen k
      have cx := hLF.cell (hcells_sum wd t.length X bl2 hX (k / 4) (by omega))
      have HS : Hid (Lies (wr.setCell ⟨w2.heap.size, k, none⟩ (.int .u8 ((X.getD (k / 4) 0 / ((2 ^ (24 - k % 4 * 8) : Nat) : Int)) % 256))) w2.heap.size 25 (dig32 (sumK X (k + 1)))) := by
        have h := hL2.set (i := k) (.int .u8 ((sumByte X k).toNat : Int))
        rw [dig32_set, sumK_set X k (by omega)] at h
        rw [← sumByte_int]; exact h
      generalize ((sumK X k)[k]'(by omega)).toNat = ob at *
      generalize X.getD (k / 4) 0 = x at *
      have d1 : (0 : Int) ≤ (k : Int) := by omega
      have d2 : (k : Int) < 32 := by omega
      have d3 : (k : Int) < (wd : Int) := by omega
      have d4 : ((k : Int) / 4).toNat = k / 4 := by omega
      have d5 : (0 : Int) ≤ (k : Int) / 4 := by omega
      have d6 : (k : Int) / 4 < 8 := by omega
      have hr : k % 4 = 0 ∨ k % 4 = 1 ∨ k % 4 = 2 ∨ k % 4 = 3 := by omega
      rcases hr with hr | hr | hr | hr
      · have q : (k : Int) % 4 = 0 := by omega
        rw [hr] at HS
        go_wp2
        have h := HS.out
        exact ⟨⟨k + 1, by omega, by go_num, h, hL0.other _ (by omega), hLF.other _ (by omega), hB.setCell (p := ⟨w2.heap.size, k, none⟩) (by show w.heap.size ≤ w2.heap.size; omega) _⟩, by simp [intOf]; omega⟩
      · have q : (k : Int) % 4 = 1 := by omega
        rw [hr] at HS
        go_wp2
        have h := HS.out
        exact ⟨⟨k + 1, by omega, by go_num, h, hL0.other _ (by omega), hLF.other _ (by omega), hB.setCell (p := ⟨w2.heap.size, k, none⟩) (by show w.heap.size ≤ w2.heap.size; omega) _⟩, by simp [intOf]; omega⟩
      · have q : (k : Int) % 4 = 2 := by omega
        rw [hr] at HS
        go_wp2
        have h := HS.out
        exact ⟨⟨k + 1, by omega, by go_num, h, hL0.other _ (by omega), hLF.other _ (by omega), hB.setCell (p := ⟨w2.heap.size, k, none⟩) (by show w.heap.size ≤ w2.heap.size; omega) _⟩, by simp [intOf]; omega⟩
      · have q : (k : Int) % 4 = 3 := by omega
        rw [hr] at HS
        go_wp2
        have h := HS.out
        rw [show ((2 ^ (24 - 3 * 8) : Nat) : Int) = 1 from rfl, Int.ediv_one] at h
        exact ⟨⟨k + 1, by omega, by go_num, h, hL0.other _ (by omega), hLF.other _ (by omega), hB.setCell (p := ⟨w2.heap.size, k, none⟩) (by show w.heap.size ≤ w2.heap.size; omega) _⟩, by simp [intOf]; omega⟩
    · obtain rfl : k = wd := by omega
      rw [hsb.out] at hL2
      go_wp2_with (first
        | (refine wpList_load_row rfl 25 (.tmp 4) rfl w2.heap.size rfl 25 (dig32 (sumB k t)) (0, 0) _ hL2 Tryz.underlying25 rfl hid ?_)
        | (refine wpList_store_row rfl 25 (.tmp 2) (.tmp 31) rfl w.heap.size (dig32 (sumB k t)) rfl rfl 25 (dig32 zeros) hL0 hid (by rw [dig32_size, dig32_size, sumB_length k t hw]; rfl) (dig32_one _) ?_))
      refine bodyPost_ret (results_cell_row rfl _ _ w.heap.size 25 (dig32 (sumB k t)) (0, 0) _ rfl (hL0.row _) Tryz.underlying25 rfl hid) rfl ?_
      exact ⟨rfl, below_setRow hB (Nat.le_refl _) _⟩

/-- The width that counts, as a number. -/
def widthN (n : Int) : Nat := (widthOf n).toNat
theorem widthN_eq (n : Int) : (widthN n : Int) = widthOf n := by unfold widthN widthOf; omega
theorem widthN_le (n : Int) : widthN n ≤ 32 := by unfold widthN widthOf; omega
theorem hash_new (n : Int) (w : World) : HashIs (w.alloc (.cells (hcells (widthOf n) 0 init8 zero64b) 84)) w.heap.size (widthN n) [] := by
  refine ⟨zero64b, rfl, rfl, ?_⟩
  rw [widthN_eq]
  exact Lies.new w _ _
set_option maxRecDepth 100000 in
set_option maxHeartbeats 2000000 in
theorem sum_p (n : Int) (s : ByteArray) (w : World) (hk : KTab w) (hs : s.size ≤ 1152921504606846976) : Calls Tryz.prog 10 #[.int .i64 n, .string s] w fun e w' => e = .returned (.agg (dig32 (sumB (widthN n) (un s)))) ∧ Below w.heap.size w w' := by
  have hz := (zero_of_info (P := Tryz.prog) info_digest).1
  have hid : (Tryz.prog.info? 25).map (·.size) = some (dig32 (sumB (widthN n) (un s))).size := by rw [dig32_size, sumB_length _ _ (widthN_le n)]; kernel_rfl
  have hg := var_lt l_k hk
  have B0 : Below w.heap.size w (w.alloc (.cells (dig32 zeros) 25)) := (Below.refl _ w).alloc (Nat.le_refl _) _
  have L0 := Lies.new w 25 (dig32 zeros)
  have K0 : KTab (w.alloc (.cells (dig32 zeros) 25)) := var?_below B0 l_k hg hk
  go_enter Tryz.func10, Tryz.ntmps10
  go_wp2_with fail
  refine (new_p n _).mono ?_
  rintro e w1 ⟨rfl, hw1⟩
  have hH1 := hash_new n (w.alloc (.cells (dig32 zeros) 25))
  have B1 := B0.alloc (by simp) (.cells (hcells (widthOf n) 0 init8 zero64b) 84)
  have L1 := L0.alloc (.cells (hcells (widthOf n) 0 init8 zero64b) 84)
  rw [← hw1] at hH1 B1 L1
  rw [World.size_alloc] at hH1
  have K1 : KTab w1 := var?_below B1 l_k hg hk
  clear hw1 B0 L0 K0
  simp only [World.size_alloc]
  go_wp2_with fail
  refine (write_p s _ [] (w.heap.size + 1) w1 hH1 K1 (by omega) (by simp; omega)).mono ?_
  rintro e w2 ⟨rfl, hH2, hT2⟩
  rw [List.nil_append] at hH2
  have B2 : Below w.heap.size w w2 := B1.grown hT2 B1.size (fun k hk => by have := Option.some.inj hk; omega)
  have L2 := L1.turned hT2 (by omega)
  have K2 : KTab w2 := var?_below B2 l_k hg hk
  go_wp2_with fail
  refine (hsum_p (widthN n) (widthN_le n) (un s) (by rw [un_length]; exact hs) (w.heap.size + 1) w2 hH2 K2).mono ?_
  rintro e w3 ⟨rfl, b3⟩
  have L3 := L2.below b3
  have B3 := below_join B2 b3
  go_wp2_with (refine wpList_store_row rfl 25 (.tmp 4) (.tmp 12) rfl w.heap.size (dig32 (sumB (widthN n) (un s))) rfl rfl 25 (dig32 zeros) L3 hid (by rw [dig32_size, dig32_size, sumB_length _ _ (widthN_le n)]; rfl) (dig32_one _) ?_)
  refine bodyPost_ret (results_cell_row rfl _ _ w.heap.size 25 (dig32 (sumB (widthN n) (un s))) (0, 0) _ rfl (L3.row _) Tryz.underlying25 rfl hid) rfl ?_
  exact ⟨rfl, below_setRow B3 (Nat.le_refl _) _⟩
end Go.Proofs.YtodgcmhkojkpcaaGreatDoor
