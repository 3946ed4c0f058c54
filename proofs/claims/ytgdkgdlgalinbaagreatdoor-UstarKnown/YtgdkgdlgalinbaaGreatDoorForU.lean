/- The statements' own forged: some text. -/
import Derived.Test.YtgdkgdlgalinbaaGreatDoorRefX
namespace Go.Proofs.YtgdkgdlgalinbaaGreatDoor
open Go Go.RowKit

set_option maxRecDepth 100000 in
set_option maxHeartbeats 2000000 in
theorem forged_p (s p : ByteArray) (at' : Nat) (hs : s.size ≤ 1000) (ha : at' ≤ 1000) (w : World) : Calls Tryz.prog 12 #[.string s, .int .i64 at', .string p] w fun e w' => (∃ X, e = .returned (.string X)) ∧ Below w.heap.size w w' := by
  obtain ⟨i0, hi, z0, z1, z2⟩ := info_parts byte_info
  go_enter Tryz.func12, Tryz.ntmps12
  go_wp2
  go_loopw [7, 8] (fun v i wr => ∃ (k : Nat) (L : List UInt8), k ≤ s.size ∧ i = .int .i64 k ∧ L.length = k ∧ wr.ownsRow w.heap.size 5 1 v k (Lib.byteCells L) ∧ Below w.heap.size w wr) (fun _ i _ => s.size - (intOf i).toNat)
  case atStart => exact ⟨0, [], by omega, rfl, rfl, World.ownsRow_nil _ _ _ _, Below.refl _ _⟩
  case round =>
    obtain ⟨k, L, hk, rfl, hL, hown, hB⟩ := hrel
    have hsz := hB.size
    by_cases hlt : k < s.size
    · have hlt' : (k : Int) < (s.size : Int) := by omega
      have hk0 : (0 : Int) ≤ (k : Int) := by omega
      have hcl : (Lib.byteCells L).length = k := by rw [Lib.byteCells_length, hL]
      by_cases hin : at' ≤ k ∧ k - at' < p.size
      · obtain ⟨hin1, hin2⟩ := hin
        have i1 : (at' : Int) ≤ (k : Int) := by omega
        have i2 : (k : Int) - (at' : Int) = ((k - at' : Nat) : Int) := by omega
        have i3 : ((k - at' : Nat) : Int) < (p.size : Int) := by omega
        have i4 : (0 : Int) ≤ ((k - at' : Nat) : Int) := by omega
        go_wp2_with (at_builtin; refine wpList_append_own _ rfl _ _ 44 rfl w.heap.size 5 i0 (.int .u8 0) 1 1 Tryz.underlying44 hi z0 z1 z2 rfl (by decide) _ _ _ rfl (hown.alloc _) ⟨wr.heap.size, 0, none⟩ 1 1 [.int .u8 p[k - at'].toNat] rfl rfl (cell_one_new' _ _ _) (by simp [Value.oneCell']) (by unfold maxLen; omega) (by omega) (by simp; omega) ?_; intro v1 w1 hown1 hgrow1 _)
        have hb1 : Below w.heap.size w w1 := (hB.alloc hsz _).grown hgrow1 (by simp; omega) (fun j hj => (own_ge hown j hj.symm).1)
        exact ⟨⟨k + 1, L ++ [p[k - at']], by omega, by go_num, by simp [hL], by rw [Lib.byteCells_append]; exact hown1, hb1⟩, by simp [intOf]; omega⟩
      · by_cases hge : at' ≤ k
        all_goals first
          | (have i1 : (at' : Int) ≤ (k : Int) := by omega
             have i2 : (k : Int) - (at' : Int) = ((k - at' : Nat) : Int) := by omega
             have i3 : ¬ ((k - at' : Nat) : Int) < (p.size : Int) := by omega
             go_wp2_with (at_builtin; refine wpList_append_own _ rfl _ _ 44 rfl w.heap.size 5 i0 (.int .u8 0) 1 1 Tryz.underlying44 hi z0 z1 z2 rfl (by decide) _ _ _ rfl (hown.alloc _) ⟨wr.heap.size, 0, none⟩ 1 1 [.int .u8 s[k].toNat] rfl rfl (cell_one_new' _ _ _) (by simp [Value.oneCell']) (by unfold maxLen; omega) (by omega) (by simp; omega) ?_; intro v1 w1 hown1 hgrow1 _))
          | (have i1 : ¬ (at' : Int) ≤ (k : Int) := by omega
             go_wp2_with (at_builtin; refine wpList_append_own _ rfl _ _ 44 rfl w.heap.size 5 i0 (.int .u8 0) 1 1 Tryz.underlying44 hi z0 z1 z2 rfl (by decide) _ _ _ rfl (hown.alloc _) ⟨wr.heap.size, 0, none⟩ 1 1 [.int .u8 s[k].toNat] rfl rfl (cell_one_new' _ _ _) (by simp [Value.oneCell']) (by unfold maxLen; omega) (by omega) (by simp; omega) ?_; intro v1 w1 hown1 hgrow1 _))
        all_goals
          have hb1 : Below w.heap.size w w1 := (hB.alloc hsz _).grown hgrow1 (by simp; omega) (fun j hj => (own_ge hown j hj.symm).1)
          exact ⟨⟨k + 1, L ++ [s[k]], by omega, by go_num, by simp [hL], by rw [Lib.byteCells_append]; exact hown1, hb1⟩, by simp [intOf]; omega⟩
    · obtain rfl : k = s.size := by omega
      have hlt' : ¬ (s.size : Int) < (s.size : Int) := by omega
      have hcv := conv_own L w.heap.size _ wr (by rw [hL]; exact hown)
      have hown2 := hown
      rcases hown.2 with ⟨rfl, h0⟩ | ⟨g, cap, cur, rfl, hgb, hgl, hcap⟩
      · clear hown hown2
        go_wp2
        go_ret
        exact ⟨⟨_, rfl⟩, hB⟩
      by_cases h5 : s.size = 512
      rotate_left
      · have h5' : ((s.size : Int) == 512) = false := beq_eq_false_iff_ne.2 (by omega)
        clear hown hown2
        go_wp2
        go_ret
        exact ⟨⟨_, rfl⟩, hB⟩
      have hc1 : 512 ≤ cap := by have := hcap.1; omega
      have hc2 : (148 : Int) ≤ (cap : Int) := by omega
      have hcell : ∀ (W : World), Below wr.heap.size wr W → ∀ j (hj : j < L.length), W.cell? ⟨g, j, none⟩ = some (.int .u8 (L[j].toNat : Int)) := fun W b j hj => by
        rw [b.cell (p := ⟨g, j, none⟩) (by
          show g < wr.heap.size
          rcases Nat.lt_or_ge g wr.heap.size with h | h
          · exact h
          · rw [Array.getElem?_eq_none h] at hgl; cases hgl)]
        rw [hown2.cellAt j (by omega)]
        unfold Lib.byteCells
        rw [List.getElem?_map, List.getElem?_eq_getElem hj]; rfl
      have HA1 : Hid (∀ (W : World), Below wr.heap.size wr W → (convert 44 9 (.slice (some ⟨g, 0, none⟩) 148 cap)).run Tryz.prog W = .ok (.string (bs (L.take 148))) W) := fun W b => by
        have := run_convert_bytes_back W 44 9 5 ⟨g, 0, none⟩ cap (L.take 148) Tryz.underlying44 Tryz.underlying5 Tryz.underlying9 (fun j hj => by
          rw [List.length_take] at hj
          rw [List.getElem_take, show (⟨g, 0, none⟩ : Addr).add j = ⟨g, j, none⟩ by simp [Addr.add]; intro h; omega]
          exact hcell W b j (by omega))
        rw [show (L.take 148).length = 148 by rw [List.length_take]; omega] at this
        exact this
      have HA2 : Hid (∀ (W : World), Below wr.heap.size wr W → (convert 44 9 (.slice (some ⟨g, 156, none⟩) 356 (cap - 156))).run Tryz.prog W = .ok (.string (bs (L.drop 156))) W) := fun W b => by
        have := run_convert_bytes_back W 44 9 5 ⟨g, 156, none⟩ (cap - 156) (L.drop 156) Tryz.underlying44 Tryz.underlying5 Tryz.underlying9 (fun j hj => by
          rw [List.length_drop] at hj
          rw [List.getElem_drop, show (⟨g, 156, none⟩ : Addr).add j = ⟨g, 156 + j, none⟩ by simp [Addr.add]]
          exact hcell W b (156 + j) (by omega))
        rw [show (L.drop 156).length = 356 by rw [List.length_drop]; omega] at this
        exact this
      have zL : (bs L).size = 512 := by rw [size_bs, hL, h5]
      have hsm := fun W => sum_r (bs L) zL W
      rw [un_bs] at hsm
      have hle : sumB L < 1099511627776 := by unfold sumB; have := sumTo_le L 512; omega
      have hoc : ∀ W, Calls Tryz.prog 31 #[.int .i64 (sumB L : Int), .int .i64 6] W fun e w' => e = .returned (.string (bs (octD (sumB L) 6))) ∧ Below W.heap.size W w' := fun W => octal_r (sumB L) 6 hle (by omega) W
      have zO : (bs (octD (sumB L) 6)).size = 6 := by rw [size_bs, octD_length]
      have zA : (bs (L.take 148)).size = 148 := by rw [size_bs, List.length_take]; omega
      have zB : (bs (L.drop 156)).size = 356 := by rw [size_bs, List.length_drop]; omega
      rw [h5] at hcv ⊢
      clear hown hown2 hcell hgl hcap hL
      generalize bs (octD (sumB L) 6) = OC at *
      generalize sumB L = U at *
      generalize bs (L.take 148) = SA at *
      generalize bs (L.drop 156) = SB at *
      generalize bs L = SL at *
      go_wp2_with (first | (go_at_call 32; with_reducible refine (hsm _).mono ?_; rintro e w3 ⟨rfl, h3⟩; have h3' := h3.symm; clear h3; subst h3') | (go_at_call 31; with_reducible refine (hoc _).mono ?_; rintro e w4 ⟨rfl, b4⟩))

      have e1 := HA1.out w4 b4
      have e2 := HA2.out w4 b4
      have e1d := fun d => HA1.out (w4.drewN d) (below_drawn b4 d)
      have e2d := fun d => HA2.out (w4.drewN d) (below_drawn b4 d)
      have HB4 : Hid (Below w.heap.size w w4) := below_join hB b4
      clear HA1 HA2 hcv hB b4
      go_quiet (fail)
      go_wp2
      go_ret
      exact ⟨⟨_, rfl⟩, below_drawn HB4.out _⟩
end Go.Proofs.YtgdkgdlgalinbaaGreatDoor
