/- Texts cut at their slashes, from a place on. Nothing of a program. -/
import Derived.Test.YthkbhcefckbcnaaGreatDoorOwnM
import Derived.Test.YthkbhcefckbcnaaGreatDoorOwnM
import Derived.Test.YthkbhcefckbcnaaGreatDoorSplitM
import Derived.OwnWalk
namespace Go.Proofs.YthkbhcefckbcnaaGreatDoor
open Go Go.RowKit

/-- No slash from f on ahead of k. -/
def noSl (s : ByteArray) (f k : Nat) : Prop := ∀ j : Nat, f ≤ j → j < k → (un s)[j]? ≠ some 47
theorem indexByte_eq (c : UInt8) : ∀ (l : List UInt8) (i : Nat), l[i]? = some c → (∀ j : Nat, j < i → l[j]? ≠ some c) → Lib.indexByte l c = i
  | [], i, h, _ => by simp at h
  | b :: l, 0, h, _ => by
    have e : b = c := by simpa using h
    unfold Lib.indexByte; simp [e]
  | b :: l, i + 1, h, hn => by
    have h0 : b ≠ c := fun e => hn 0 (by omega) (by simp [e])
    have ih := indexByte_eq c l i (by simpa using h) (fun j hj => by simpa using hn (j + 1) (by omega))
    unfold Lib.indexByte
    rw [if_neg (by simpa using h0), ih, if_neg (by simp)]; omega
theorem indexByte_none (c : UInt8) : ∀ l : List UInt8, (∀ j : Nat, l[j]? ≠ some c) → Lib.indexByte l c = -1
  | [], _ => rfl
  | b :: l, hn => by
    have h0 : b ≠ c := fun e => hn 0 (by simp [e])
    have ih := indexByte_none c l (fun j => by simpa using hn (j + 1))
    unfold Lib.indexByte
    rw [if_neg (by simpa using h0), ih]; rfl
theorem pieces_at (s : ByteArray) (f k : Nat) (hf : f ≤ k) (hk : k < s.size) (hc : (un s)[k]? = some 47) (hn : noSl s f k) :
    piecesB (s.extract f s.size) = s.extract f k :: piecesB (s.extract (k + 1) s.size) := by
  have hi : ix (s.extract f s.size) = ((k - f : Nat) : Int) := indexByte_eq 47 _ _ (by rw [un_extract_get, show f + (k - f) = k by omega]; exact hc) (fun j hj => by rw [un_extract_get]; exact hn _ (by omega) (by omega))
  rw [piecesB_hit _ _ hi, size_extract' _ _ _ (Nat.le_refl _)]
  congr 1
  · refine un_inj ?_
    rw [un_extract, un_extract, un_extract]
    simp only [List.drop_zero, List.take_drop]
    rw [show f + (k - f) = k by omega, List.take_take, Nat.min_eq_left (by omega)]
  · congr 1
    refine un_inj ?_
    rw [un_extract, un_extract, un_extract]
    rw [List.take_of_length_le (l := un s) (by rw [un_length]; omega), List.take_of_length_le (by simp [un_length]), List.drop_drop]
    congr 1; omega
theorem pieces_end (s : ByteArray) (f : Nat) (hn : noSl s f s.size) : piecesB (s.extract f s.size) = [s.extract f s.size] := by
  refine piecesB_miss _ (indexByte_none 47 _ (fun j => ?_))
  rw [un_extract_get]
  by_cases h : f + j < s.size
  · exact hn _ (by omega) h
  · rw [un_none _ _ (by omega)]; simp
theorem noSl_nil (s : ByteArray) (k : Nat) : noSl s k k := fun j h1 h2 => by omega
theorem noSl_succ {s : ByteArray} {f k : Nat} (h : noSl s f k) (hc : (un s)[k]? ≠ some 47) : noSl s f (k + 1) := fun j h1 h2 => by
  rcases Nat.lt_succ_iff_lt_or_eq.1 h2 with h3 | h3
  · exact h j h1 h3
  · rw [h3]; exact hc
theorem extract_all (s : ByteArray) : s.extract 0 s.size = s := un_inj (by rw [un_extract, List.take_of_length_le (by rw [un_length]; omega)]; rfl)

end Go.Proofs.YthkbhcefckbcnaaGreatDoor
