/- The lines of a text, one cut off after another. -/
import Derived.Test.YthkbhcefckbcnaaGreatDoorReadP
namespace Go.Proofs.YthkbhcefckbcnaaGreatDoor

theorem linesL_miss : ∀ l : List UInt8, Lib.indexByte l 10 = -1 → linesL l = [l]
  | [], _ => rfl
  | c :: l, h => by
    unfold Lib.indexByte at h
    by_cases hc : (c == 10) = true
    · rw [if_pos hc] at h; omega
    · rw [if_neg hc] at h
      have hl : Lib.indexByte l 10 = -1 := by
        by_cases hx : (Lib.indexByte l 10 == -1) = true
        · simpa using hx
        · rw [if_neg hx] at h; have := (indexByte_range 10 l).1; omega
      rw [linesL_cons, if_neg hc, linesL_miss l hl]; rfl
theorem linesL_hit : ∀ (l : List UInt8) (i : Nat), Lib.indexByte l 10 = i → linesL l = l.take i :: linesL (l.drop (i + 1))
  | [], i, h => by simp [Lib.indexByte] at h
  | c :: l, i, h => by
    unfold Lib.indexByte at h
    by_cases hc : (c == 10) = true
    · rw [if_pos hc] at h
      obtain rfl : i = 0 := by omega
      rw [linesL_cons, if_pos hc]; simp
    · rw [if_neg hc] at h
      by_cases hx : (Lib.indexByte l 10 == -1) = true
      · rw [if_pos hx] at h; omega
      · rw [if_neg hx] at h
        have h1 := (indexByte_range 10 l).1
        have h2 : Lib.indexByte l 10 ≠ -1 := by simpa using hx
        obtain ⟨k, rfl⟩ : ∃ k, i = k + 1 := ⟨i - 1, by omega⟩
        have hl : Lib.indexByte l 10 = k := by omega
        rw [linesL_cons, if_neg hc, linesL_hit l k hl]
        simp
theorem lines_miss (s : ByteArray) (h : ixn s = -1) : linesL (un s) = [un s] := linesL_miss _ h
theorem lines_hit (s : ByteArray) (i : Nat) (h : ixn s = i) : linesL (un s) = un (s.extract 0 i) :: linesL (un (s.extract (i + 1) s.size)) := by
  rw [linesL_hit _ i h, un_extract, un_extract, List.drop_zero, ← un_length, List.take_length]
end Go.Proofs.YthkbhcefckbcnaaGreatDoor
