/- Package digest's Pieces. -/
import Derived.Test.YtodgcmhkojkpcaaGreatDoorLists
import Derived.Test.YtodgcmhkojkpcaaGreatDoorPieceM
import Derived.Test.YtodgcmhkojkpcaaGreatDoorBld
import Derived.Test.YtodgcmhkojkpcaaGreatDoorShelf
import Derived.WalkSmall
namespace Go.Proofs.YtodgcmhkojkpcaaGreatDoor
open Go Go.RowKit

/-- The table of the powers of ten stands as it is laid. -/
abbrev Pow10 (w : World) : Prop := Lib.TabIs Tryz.prog w "internal/strconv.uint64pow10" .u64 Lib.pow10Tab
theorem l_pow : Tryz.prog.globalNamed "internal/strconv.uint64pow10" = some 5 := by kernel_rfl
theorem var_lt {P : Program} {w : World} {n : String} {g : Nat} {cs : Array Value} (hg : P.globalNamed n = some g) (h : w.var? P n = some cs) : g < w.heap.size := by
  rcases Nat.lt_or_ge g w.heap.size with h1 | h1
  · exact h1
  · simp [World.var?, hg, Array.getElem?_eq_none h1] at h
theorem Pow10.below {w w' : World} (h : Pow10 w) (hb : Below w.heap.size w w') : Pow10 w' := var?_below hb l_pow (var_lt l_pow h) h
theorem below_grow (w : World) (k : Nat) (os : Array Obj) : Below w.heap.size w (Go.Sort.grow (w.drewN k) os) :=
  ⟨rfl, rfl, rfl, by simp [Go.Sort.grow], fun i hi => by
    show (w.heap ++ os)[i]? = w.heap[i]?
    rw [Array.getElem?_append_left hi]⟩
theorem itoa_p (n : Nat) (hn : n ≤ 1099511627776) (w : World) (h : Pow10 w) : Calls Tryz.prog 53 #[.int .i64 n] w fun e w' => e = .returned (.string (bs (dec n))) ∧ Below w.heap.size w w' := by
  refine (Tryz.strconv_Itoa n (by omega) (by omega) w h).mono ?_
  rintro e w' ⟨rfl, k, os, rfl⟩
  rw [Lib.itoa_nonneg]
  exact ⟨rfl, below_grow w k os⟩

/-- The texts as lists of bytes. -/
def uns (l : List ByteArray) : List (List UInt8) := l.map un
/-- What Pieces lays. -/
def piecesB (l : List ByteArray) : ByteArray := bs (laidL (uns l))
theorem uns_append (a b : List ByteArray) : uns (a ++ b) = uns a ++ uns b := by simp [uns]
theorem piece_length (t : List UInt8) (h : t.length < 10000000000) : (pieceOf t).length ≤ t.length + 11 := by
  have := dec_length t.length 9 (by simpa using h)
  simp [pieceOf]; omega
theorem laid_length : ∀ l : List ByteArray, wt l ≤ 1099511 → (laidL (uns l)).length ≤ 11 * wt l
  | [], _ => by simp [uns, laidL]
  | x :: l, h => by
    have hw : wt (x :: l) = x.size + 1 + wt l := by simp [wt]
    rw [hw] at h ⊢
    have ih := laid_length l (by omega)
    have h2 := piece_length (un x) (by rw [un_length]; omega)
    rw [un_length] at h2
    have e : laidL (uns (x :: l)) = pieceOf (un x) ++ laidL (uns l) := rfl
    rw [e, List.length_append]; omega
theorem piecesB_size (l : List ByteArray) (h : wt l ≤ 1099511) : (piecesB l).size ≤ 11 * wt l := by unfold piecesB; rw [size_bs]; exact laid_length l h

set_option maxRecDepth 100000 in
set_option maxHeartbeats 4000000 in
theorem pieces_p (l : List ByteArray) (v : Value) (w : World) (hg : Pow10 w) (h : TextsAt w v l) (hz : wt l ≤ 1099511) : Calls Tryz.prog 30 #[v] w fun e w' => e = .returned (.string (piecesB l)) ∧ Below w.heap.size w w' := by
  obtain ⟨a, c, rfl, _, hc⟩ := h
  have HC : Hid _ := hc
  clear hc
  have hl := length_wt l
  go_enter Tryz.func30, Tryz.ntmps30
  go_wp2
  go_loopw [8] (fun n wr => ∃ k : Nat, k ≤ l.length ∧ n = .int .i64 k ∧ Bld w.heap.size w.heap.size (laidL (uns (l.take k))) wr ∧ Below w.heap.size w wr ∧ w.heap.size < wr.heap.size) (fun n _ => l.length - (intOf n).toNat)
  case atStart => exact ⟨0, Nat.zero_le _, rfl, Lib.fresh_isBuilder _ _ w, (Below.refl _ w).alloc (Nat.le_refl _) _, by simp⟩
  case round =>
    obtain ⟨k, hk, rfl, hW, hB, hsz⟩ := hrel
    have hw := wt_take_le l k
    have hlen := laid_length (l.take k) (by omega)
    by_cases hlt : k < l.length
    · obtain ⟨x, hx⟩ : ∃ x, l[k]? = some x := ⟨_, List.getElem?_eq_getElem hlt⟩
      obtain ⟨b, o, rfl, hcell0⟩ := HC.out k x hx
      have hcell := (hB.cell (p := ⟨b, o + k, none⟩) (World.block_lt_of_cell? w _ hcell0)).trans hcell0
      have hw1 := wt_take_succ l k x hx
      have hw2 := wt_take_le l (k + 1)
      have hdl := dec_length x.size 9 (by have : x.size < 10 ^ 10 := by omega
                                          exact this)
      have H3 : Hid (laidL (uns (l.take (k + 1))) = laidL (uns (l.take k)) ++ dec x.size ++ [58] ++ un x) := by
        unfold Hid; rw [List.take_add_one, hx, uns_append]; show laidL (uns (l.take k) ++ [un x]) = _; rw [laidL_snoc]; simp [pieceOf, un_length]
      generalize laidL (uns (l.take k)) = s at *
      have d1 : (0 : Int) ≤ (k : Int) := by omega
      have d2 : (k : Int) < (l.length : Int) := by omega
      have d3 : x.size ≤ 1099511 := by omega
      clear hcell0 hx
      go_wp2_with fail
      refine (itoa_p x.size (by omega) wr (hg.below hB)).mono ?_
      rintro e w1 ⟨rfl, b1⟩
      have s1 := b1.size
      go_wp2_with fail
      refine (wstring_p _ _ s (bs (dec x.size)) w1 (bld_below hW b1) (by rw [size_bs]; omega) (by omega)).mono ?_
      rintro e w2 ⟨rfl, hW2, b2⟩
      rw [un_bs] at hW2
      have s2 := b2.size
      go_wp2_with fail
      refine (wbyte_p _ _ _ 58 w2 hW2 (by simp; omega) (by omega)).mono ?_
      rintro e w3 ⟨rfl, hW3, b3⟩
      have s3 := b3.size
      go_wp2_with fail
      refine (wstring_p _ _ _ x w3 hW3 (by simp; omega) (by omega)).mono ?_
      rintro e w4 ⟨rfl, hW4, b4⟩
      have s4 := b4.size
      go_wp2
      go_roundw
      case rel => exact ⟨k + 1, by omega, by go_num, by rw [H3.out]; exact hW4, (((hB.trans (b1.mono (by omega))).trans b2).trans b3).trans b4, by omega⟩
      case measure => simp [intOf]; omega
    · obtain rfl : k = l.length := by omega
      rw [List.take_length] at hW
      go_wp2_with fail
      refine (Tryz.Builder_String_any _ _ _ wr hW (by omega)).mono ?_
      rintro e w1 ⟨rfl, b1⟩
      go_wp2
      go_ret
      exact ⟨rfl, hB.trans b1⟩
end Go.Proofs.YtodgcmhkojkpcaaGreatDoor
