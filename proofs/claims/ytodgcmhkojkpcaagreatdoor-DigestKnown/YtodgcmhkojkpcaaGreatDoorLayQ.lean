/- Pieces of lists as great as a machine holds, of few bytes in all. -/
import Derived.Test.YtodgcmhkojkpcaaGreatDoorLay3
import Derived.Test.YtodgcmhkojkpcaaGreatDoorFew
namespace Go.Proofs.YtodgcmhkojkpcaaGreatDoor
open Go Go.RowKit

theorem laid_length_q : ∀ l : List ByteArray, tot l ≤ 1048576 → (laidL (uns l)).length ≤ 8 * l.length + tot l
  | [], _ => by simp [uns, laidL]
  | x :: l, h => by
    have hw : tot (x :: l) = x.size + tot l := by simp [tot]
    rw [hw] at h ⊢
    have ih := laid_length_q l (by omega)
    have h2 := dec_length x.size 6 (by have : x.size < 10 ^ 7 := by omega
                                       exact this)
    have e : laidL (uns (x :: l)) = pieceOf (un x) ++ laidL (uns l) := rfl
    rw [e, List.length_append]
    simp only [pieceOf, List.length_append, List.length_cons, un_length]; omega
theorem laid_bound (l : List ByteArray) (k : Nat) (hk : k ≤ l.length) (hL : l.length ≤ 8796093021952) (hT : tot l ≤ 1048576) : (laidL (uns (l.take k))).length ≤ 70368745226240 := by
  have h1 := tot_take_le l k
  have h2 := laid_length_q (l.take k) (by omega)
  rw [List.length_take] at h2
  omega

set_option maxRecDepth 100000 in
set_option maxHeartbeats 4000000 in
theorem pieces_q (l : List ByteArray) (v : Value) (w : World) (hg : Pow10 w) (h : TextsAt w v l) (hL : l.length ≤ 8796093021952) (hT : tot l ≤ 1048576) : Calls Tryz.prog 30 #[v] w fun e w' => e = .returned (.string (piecesB l)) ∧ Below w.heap.size w w' := by
  obtain ⟨a, c, rfl, _, hc⟩ := h
  have HC : Hid _ := hc
  clear hc
  go_enter Tryz.func30, Tryz.ntmps30
  go_wp2
  go_loopw [8] (fun n wr => ∃ k : Nat, k ≤ l.length ∧ n = .int .i64 k ∧ Bld w.heap.size w.heap.size (laidL (uns (l.take k))) wr ∧ Below w.heap.size w wr ∧ w.heap.size < wr.heap.size) (fun n _ => l.length - (intOf n).toNat)
  case atStart => exact ⟨0, Nat.zero_le _, rfl, Lib.fresh_isBuilder _ _ w, (Below.refl _ w).alloc (Nat.le_refl _) _, by simp⟩
  case round =>
    obtain ⟨k, hk, rfl, hW, hB, hsz⟩ := hrel
    have hlen := laid_bound l k hk hL hT
    by_cases hlt : k < l.length
    · obtain ⟨x, hx⟩ : ∃ x, l[k]? = some x := ⟨_, List.getElem?_eq_getElem hlt⟩
      obtain ⟨b, o, rfl, hcell0⟩ := HC.out k x hx
      have hcell := (hB.cell (p := ⟨b, o + k, none⟩) (World.block_lt_of_cell? w _ hcell0)).trans hcell0
      have d3 : x.size ≤ 1048576 := by have := size_tot (List.mem_of_getElem? hx); omega
      have hdl := dec_length x.size 9 (by have : x.size < 10 ^ 10 := by omega
                                          exact this)
      have H3 : Hid (laidL (uns (l.take (k + 1))) = laidL (uns (l.take k)) ++ dec x.size ++ [58] ++ un x) := by
        unfold Hid; rw [List.take_add_one, hx, uns_append]; show laidL (uns (l.take k) ++ [un x]) = _; rw [laidL_snoc]; simp [pieceOf, un_length]
      generalize laidL (uns (l.take k)) = s at *
      have d1 : (0 : Int) ≤ (k : Int) := by omega
      have d2 : (k : Int) < (l.length : Int) := by omega
      clear hcell0 hx
      go_wp2_with fail
      refine (itoa_p x.size (by omega) wr (hg.below hB)).mono ?_
      rintro e w1 ⟨rfl, b1⟩
      have s1 := b1.size
      go_wp2_with fail
      refine (wstring_p _ _ s (bs (dec x.size)) w1 (bld_below hW b1) (by rw [size_bs]; omega) (by omega)).mono ?_
      rintro e w2 ⟨rfl, hW2, b2⟩
      rw [un_bs] at hW2
      have s2 := b2.size
      go_wp2_with fail
      refine (wbyte_p _ _ _ 58 w2 hW2 (by simp; omega) (by omega)).mono ?_
      rintro e w3 ⟨rfl, hW3, b3⟩
      have s3 := b3.size
      go_wp2_with fail
      refine (wstring_p _ _ _ x w3 hW3 (by simp; omega) (by omega)).mono ?_
      rintro e w4 ⟨rfl, hW4, b4⟩
      have s4 := b4.size
      go_wp2
      go_roundw
      case rel => exact ⟨k + 1, by omega, by go_num, by rw [H3.out]; exact hW4, (((hB.trans (b1.mono (by omega))).trans b2).trans b3).trans b4, by omega⟩
      case measure => simp [intOf]; omega
    · obtain rfl : k = l.length := by omega
      rw [List.take_length] at hW
      go_wp2_with fail
      refine (Tryz.Builder_String_any _ _ _ wr hW (by omega)).mono ?_
      rintro e w1 ⟨rfl, b1⟩
      go_wp2
      go_ret
      exact ⟨rfl, hB.trans b1⟩
end Go.Proofs.YtodgcmhkojkpcaaGreatDoor
