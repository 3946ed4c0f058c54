/- Texts cut at slashes; nothing of a program. -/
import Derived.Test.YtbmakfdljddhcaaGreatDoorBytes
import Derived.Lib.LastIndexByte
namespace Go.Proofs.YtbmakfdljddhcaaGreatDoor

/-- Where the first slash stands, or -1. -/
def ix (s : ByteArray) : Int := Lib.indexByte (un s) 47
theorem indexByte_range (c : UInt8) : ∀ l : List UInt8, -1 ≤ Lib.indexByte l c ∧ (Lib.indexByte l c < l.length)
  | [] => by simp [Lib.indexByte]
  | b :: l => by
    have ih := indexByte_range c l
    unfold Lib.indexByte
    simp only [List.length_cons]
    split
    · omega
    · split <;> omega
theorem ix_range (s : ByteArray) : -1 ≤ ix s ∧ ix s < s.size := by
  have h := indexByte_range 47 (un s); rw [un_length] at h; exact h

/-- The pieces between the slashes, the empty ones too. -/
def cutL : List UInt8 → List (List UInt8)
  | [] => [[]]
  | c :: l => if c == 47 then [] :: cutL l else ((c :: (cutL l).headD []) :: (cutL l).tail)
theorem cutL_cons (c : UInt8) (l : List UInt8) : cutL (c :: l) = if c == 47 then [] :: cutL l else ((c :: (cutL l).headD []) :: (cutL l).tail) := rfl
theorem cutL_ne (l : List UInt8) : cutL l ≠ [] := by
  cases l with
  | nil => simp [cutL]
  | cons c l => unfold cutL; split <;> simp
theorem cutL_miss : ∀ l : List UInt8, Lib.indexByte l 47 = -1 → cutL l = [l]
  | [], _ => rfl
  | c :: l, h => by
    unfold Lib.indexByte at h
    by_cases hc : (c == 47) = true
    · rw [if_pos hc] at h; omega
    · rw [if_neg hc] at h
      have hl : Lib.indexByte l 47 = -1 := by
        by_cases hx : (Lib.indexByte l 47 == -1) = true
        · simpa using hx
        · rw [if_neg hx] at h; have := (indexByte_range 47 l).1; omega
      unfold cutL
      rw [if_neg hc, cutL_miss l hl]; rfl
theorem cutL_hit : ∀ (l : List UInt8) (i : Nat), Lib.indexByte l 47 = i → cutL l = l.take i :: cutL (l.drop (i + 1))
  | [], i, h => by simp [Lib.indexByte] at h
  | c :: l, i, h => by
    unfold Lib.indexByte at h
    by_cases hc : (c == 47) = true
    · rw [if_pos hc] at h
      obtain rfl : i = 0 := by omega
      rw [cutL_cons, if_pos hc]; simp
    · rw [if_neg hc] at h
      by_cases hx : (Lib.indexByte l 47 == -1) = true
      · rw [if_pos hx] at h; omega
      · rw [if_neg hx] at h
        have h1 := (indexByte_range 47 l).1
        have h2 : Lib.indexByte l 47 ≠ -1 := by simpa using hx
        obtain ⟨k, rfl⟩ : ∃ k, i = k + 1 := ⟨i - 1, by omega⟩
        have hl : Lib.indexByte l 47 = k := by omega
        rw [cutL_cons, if_neg hc, cutL_hit l k hl]
        simp
def piecesB (s : ByteArray) : List ByteArray := (cutL (un s)).map bs
theorem piecesB_miss (s : ByteArray) (h : ix s = -1) : piecesB s = [s] := by
  unfold piecesB; rw [cutL_miss _ h]; simp [bs_un]
theorem piecesB_hit (s : ByteArray) (i : Nat) (h : ix s = i) : piecesB s = s.extract 0 i :: piecesB (s.extract (i + 1) s.size) := by
  unfold piecesB; rw [cutL_hit _ i h]
  simp only [List.map_cons]
  congr 1
  · exact un_inj (by rw [un_bs, un_extract]; simp)
  · rw [un_extract, List.take_of_length_le (by rw [un_length]; omega)]
theorem piecesB_ne (s : ByteArray) : piecesB s ≠ [] := by unfold piecesB; simp [cutL_ne]
end Go.Proofs.YtbmakfdljddhcaaGreatDoor
