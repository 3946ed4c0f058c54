/- One byte is another one, outside of the sum's field: it is refused. Nothing of a program but Pick. -/
import Derived.Test.YtgdkgdlgalinbaaGreatDoorBackN
namespace Go.Proofs.YtgdkgdlgalinbaaGreatDoor
open Go Go.RowKit

theorem getD_set (l : List UInt8) (i k : Nat) (c : UInt8) (hi : i < l.length) : (l.set i c).getD k 0 = if i = k then c else l.getD k 0 := by
  rw [List.getD_eq_getElem?_getD, List.getD_eq_getElem?_getD, List.getElem?_set]
  by_cases h : i = k
  · subst h; rw [if_pos rfl, if_pos hi, if_pos rfl]; rfl
  · rw [if_neg h, if_neg h]
theorem sumTo_set (l : List UInt8) (i : Nat) (c : UInt8) (hi : i < l.length) (ho : i < 148 ∨ 156 ≤ i) : ∀ k, sumTo (l.set i c) k + (if i < k then (l.getD i 0).toNat else 0) = sumTo l k + (if i < k then c.toNat else 0)
  | 0 => by simp [sumTo]
  | k + 1 => by
    have ih := sumTo_set l i c hi ho k
    rw [sumTo, sumTo, getD_set l i k c hi]
    by_cases h2 : i = k
    · subst h2
      rw [if_pos rfl, if_pos ho, if_pos ho, if_pos (Nat.lt_succ_self i), if_pos (Nat.lt_succ_self i)]
      rw [if_neg (Nat.lt_irrefl i), if_neg (Nat.lt_irrefl i)] at ih
      omega
    · rw [if_neg h2]
      by_cases h1 : i < k
      · rw [if_pos h1, if_pos h1] at ih
        rw [if_pos (Nat.lt_succ_of_lt h1), if_pos (Nat.lt_succ_of_lt h1)]
        omega
      · rw [if_neg h1, if_neg h1] at ih
        rw [if_neg (show ¬ i < k + 1 by omega), if_neg (show ¬ i < k + 1 by omega)]
        omega
theorem sum_set (l : List UInt8) (i : Nat) (c : UInt8) (hl : l.length = 512) (hi : i < 512) (ho : i < 148 ∨ 156 ≤ i) (hc : l.getD i 0 ≠ c) : sumB (l.set i c) ≠ sumB l := by
  have h := sumTo_set l i c (by omega) ho 512
  rw [if_pos hi, if_pos hi] at h
  have hne : (l.getD i 0).toNat ≠ c.toNat := fun e => hc (UInt8.toNat_inj.1 e)
  unfold sumB
  omega
theorem field6_set (l : List UInt8) (i : Nat) (c : UInt8) (ho : i < 148 ∨ 156 ≤ i) : fieldL (l.set i c) 6 = fieldL l 6 := by
  unfold fieldL
  rw [show bg 6 = 148 from rfl, show rm 6 = 8 from rfl]
  apply List.ext_getElem?
  intro k
  by_cases hk : k < 8
  · rw [List.getElem?_take_of_lt hk, List.getElem?_take_of_lt hk, List.getElem?_drop, List.getElem?_drop, List.getElem?_set_ne (by omega)]
  · rw [List.getElem?_eq_none (by simp; omega), List.getElem?_eq_none (by simp; omega)]
theorem dec_512 (cs : List UInt8) (hl : cs.length = 512) : decP (bs cs) = if fieldL cs 9 ≠ magicL then (zeroHd, 4) else if okAll cs = false then (zeroHd, 6) else if (numV (fieldL cs 6)).2 = false then (zeroHd, 6) else if (numV (fieldL cs 6)).1 ≠ sumB cs then (zeroHd, 7) else (decHd cs, 0) := by
  have hsz : (bs cs).size = 512 := by rw [size_bs, hl]
  unfold decP
  rw [un_bs, hsz, if_neg (Nat.lt_irrefl 512), if_neg (Nat.lt_irrefl 512)]
theorem one_bad {h : Hd} (g : Good h) (i : Nat) (c : UInt8) (hi : i < 512) (ho : i < 148 ∨ 156 ≤ i) (hc : (encL h).getD i 0 ≠ c) : 1 ≤ (decP (bs ((encL h).set i c))).2 ∧ (decP (bs ((encL h).set i c))).2 ≤ 32 := by
  have hlen := enc_length g
  have hT : ∀ c ∈ [(0 : UInt8), 32], c = 0 ∨ c = 32 := fun c hc => by simpa using hc
  have h6 : numV (fieldL ((encL h).set i c) 6) = (sumB (numB h 7), true) := by
    rw [field6_set _ _ _ ho, enc_field g 6 (by omega)]; exact numV_oct _ 5 (sum_small _) _ hT
  have hs := sum_set (encL h) i c hlen hi ho hc
  rw [enc_sum h] at hs
  rw [dec_512 _ (by rw [List.length_set]; exact hlen), h6]
  generalize (encL h).set i c = l at *
  by_cases h1 : fieldL l 9 ≠ magicL
  · rw [if_pos h1]; exact ⟨by show (1 : Int) ≤ 4; omega, by show (4 : Int) ≤ 32; omega⟩
  rw [if_neg h1]
  by_cases h2 : okAll l = false
  · rw [if_pos h2]; exact ⟨by show (1 : Int) ≤ 6; omega, by show (6 : Int) ≤ 32; omega⟩
  rw [if_neg h2, if_neg (show ¬ true = false by decide), if_pos (fun e => hs e.symm)]
  exact ⟨by show (1 : Int) ≤ 7; omega, by show (7 : Int) ≤ 32; omega⟩
theorem set_parts (l : List UInt8) (i : Nat) (c : UInt8) (hi : i < l.length) : (bs l).extract 0 i ++ bs [c] ++ (bs l).extract (i + 1) (bs l).size = bs (l.set i c) := by
  apply un_inj
  rw [un_append, un_append, un_extract, un_extract, un_bs, un_bs, un_bs, List.drop_zero, size_bs, List.take_of_length_le (Nat.le_refl _), List.set_eq_take_append_cons_drop, if_pos hi]
  simp
set_option maxHeartbeats 1000000 in
theorem pick_p (k : Int) (w : World) : Calls Tryz.prog 39 #[.int .i64 k, .int .i64 512] w fun e w' => (∃ j : Nat, j < 512 ∧ e = .returned (.int .i64 j)) ∧ w' = w := by
  by_cases h0 : k.tmod 512 < 0
  · have hr : -512 < k.tmod 512 := by
      have := Int.natAbs_tmod k 512
      have h2 := Nat.mod_lt k.natAbs (show 0 < (512 : Int).natAbs by decide)
      omega
    go_enter Tryz.func39, Tryz.ntmps39
    go_wp2
    go_ret
    refine ⟨⟨(k.tmod 512 + 512).toNat, by omega, ?_⟩, rfl⟩
    rw [Int.toNat_of_nonneg (by omega)]
    rfl
  · have hr : k.tmod 512 < 512 := by
      have := Int.natAbs_tmod k 512
      have h2 := Nat.mod_lt k.natAbs (show 0 < (512 : Int).natAbs by decide)
      omega
    go_enter Tryz.func39, Tryz.ntmps39
    go_wp2
    go_ret
    refine ⟨⟨(k.tmod 512).toNat, by omega, ?_⟩, rfl⟩
    rw [Int.toNat_of_nonneg (by omega)]
    rfl
end Go.Proofs.YtgdkgdlgalinbaaGreatDoor
