/- Plain functions on texts: parents, last names, what is put together, names; nothing of a program. -/
import Derived.Lib.LastIndexByte
import Derived.Lib.IndexAny
import Derived.Lib.Bytealg
import Derived.Lib.Strings
import Derived.Laws.Strings
namespace Go.Proofs.YtgildlfanfbebaaGreatDoor

def un (s : ByteArray) : List UInt8 := s.data.toList
def bs (l : List UInt8) : ByteArray := ⟨l.toArray⟩
theorem un_bs (l : List UInt8) : un (bs l) = l := by simp [un, bs]
theorem bs_un (s : ByteArray) : bs (un s) = s := by cases s; simp [un, bs]
theorem un_inj {a b : ByteArray} (h : un a = un b) : a = b := by rw [← bs_un a, ← bs_un b, h]
theorem un_length (s : ByteArray) : (un s).length = s.size := by cases s; simp [un, ByteArray.size]
theorem size_bs (l : List UInt8) : (bs l).size = l.length := by simp [bs, ByteArray.size]
theorem un_append (a b : ByteArray) : un (a ++ b) = un a ++ un b := by simp [un]
theorem un_extract (s : ByteArray) (i j : Nat) : un (s.extract i j) = ((un s).take j).drop i := by
  simp [un, ByteArray.data_extract, List.extract_eq_take_drop, List.drop_take]
theorem toList_un (s : ByteArray) : s.toList = un s := ByteArray.toList_eq s
theorem isEmpty_iff (s : ByteArray) : s.toList.isEmpty = true ↔ s.size = 0 := by rw [toList_un, ← un_length, List.isEmpty_iff, List.length_eq_zero_iff]
theorem isEmpty_false (s : ByteArray) : s.toList.isEmpty = false ↔ 0 < s.size := by
  rw [toList_un, ← un_length]; cases un s <;> simp

def parentB (s : ByteArray) : ByteArray := if Lib.lastIndexByte s 47 < 0 then ⟨#[]⟩ else s.extract 0 (Lib.lastIndexByte s 47).toNat
def lastB (s : ByteArray) : ByteArray := s.extract (Lib.lastIndexByte s 47 + 1).toNat s.size
def joinB (a b : ByteArray) : ByteArray := if a.toList.isEmpty then b else a ++ ⟨#[47]⟩ ++ b
def whiteoutB (s : ByteArray) : ByteArray := joinB (parentB s) (⟨#[46, 119, 104, 46]⟩ ++ lastB s)
theorem lastIndexByte_range (s : ByteArray) (c : Int) : -1 ≤ Lib.lastIndexByte s c ∧ Lib.lastIndexByte s c < s.size := by
  unfold Lib.lastIndexByte
  rcases Lib.lastIdx_spec s c s.size with ⟨h, _⟩ | ⟨i, hi, h, _⟩
  · rw [h]; omega
  · rw [h]; omega
theorem parentB_size (s : ByteArray) : (parentB s).size ≤ s.size := by
  unfold parentB; split
  · exact Nat.zero_le _
  · rw [← un_length, un_extract, ← un_length]; simp; omega
theorem lastB_size (s : ByteArray) : (lastB s).size ≤ s.size := by unfold lastB; rw [← un_length, un_extract, ← un_length]; simp

def badName (s : ByteArray) : Bool := s.size == 0 || decide (96 < s.size) || Lib.containsAny (un s) [0, 47] || s == ⟨#[46]⟩ || s == ⟨#[46, 46]⟩ || Lib.hasPrefix (un s) [46, 119, 104, 46]

/-- Where the first slash stands, or -1. -/
def ix (s : ByteArray) : Int := Lib.indexByte (un s) 47
theorem indexByte_range (c : UInt8) : ∀ l : List UInt8, -1 ≤ Lib.indexByte l c ∧ (Lib.indexByte l c < l.length)
  | [] => by simp [Lib.indexByte]
  | b :: l => by
    have ih := indexByte_range c l
    unfold Lib.indexByte
    simp only [List.length_cons]
    split
    · omega
    · split <;> omega
theorem ix_range (s : ByteArray) : -1 ≤ ix s ∧ ix s < s.size := by
  have h := indexByte_range 47 (un s); rw [un_length] at h; exact h

/-- The pieces between the slashes, the empty ones too. -/
def cutL : List UInt8 → List (List UInt8)
  | [] => [[]]
  | c :: l => if c == 47 then [] :: cutL l else ((c :: (cutL l).headD []) :: (cutL l).tail)
theorem cutL_cons (c : UInt8) (l : List UInt8) : cutL (c :: l) = if c == 47 then [] :: cutL l else ((c :: (cutL l).headD []) :: (cutL l).tail) := rfl
theorem cutL_ne (l : List UInt8) : cutL l ≠ [] := by
  cases l with
  | nil => simp [cutL]
  | cons c l => unfold cutL; split <;> simp
theorem cutL_miss : ∀ l : List UInt8, Lib.indexByte l 47 = -1 → cutL l = [l]
  | [], _ => rfl
  | c :: l, h => by
    unfold Lib.indexByte at h
    by_cases hc : (c == 47) = true
    · rw [if_pos hc] at h; omega
    · rw [if_neg hc] at h
      have hl : Lib.indexByte l 47 = -1 := by
        by_cases hx : (Lib.indexByte l 47 == -1) = true
        · simpa using hx
        · rw [if_neg hx] at h; have := (indexByte_range 47 l).1; omega
      unfold cutL
      rw [if_neg hc, cutL_miss l hl]; rfl
theorem cutL_hit : ∀ (l : List UInt8) (i : Nat), Lib.indexByte l 47 = i → cutL l = l.take i :: cutL (l.drop (i + 1))
  | [], i, h => by simp [Lib.indexByte] at h
  | c :: l, i, h => by
    unfold Lib.indexByte at h
    by_cases hc : (c == 47) = true
    · rw [if_pos hc] at h
      obtain rfl : i = 0 := by omega
      rw [cutL_cons, if_pos hc]; simp
    · rw [if_neg hc] at h
      by_cases hx : (Lib.indexByte l 47 == -1) = true
      · rw [if_pos hx] at h; omega
      · rw [if_neg hx] at h
        have h1 := (indexByte_range 47 l).1
        have h2 : Lib.indexByte l 47 ≠ -1 := by simpa using hx
        obtain ⟨k, rfl⟩ : ∃ k, i = k + 1 := ⟨i - 1, by omega⟩
        have hl : Lib.indexByte l 47 = k := by omega
        rw [cutL_cons, if_neg hc, cutL_hit l k hl]
        simp
def piecesB (s : ByteArray) : List ByteArray := (cutL (un s)).map bs
theorem piecesB_miss (s : ByteArray) (h : ix s = -1) : piecesB s = [s] := by
  unfold piecesB; rw [cutL_miss _ h]; simp [bs_un]
theorem piecesB_hit (s : ByteArray) (i : Nat) (h : ix s = i) : piecesB s = s.extract 0 i :: piecesB (s.extract (i + 1) s.size) := by
  unfold piecesB; rw [cutL_hit _ i h]
  simp only [List.map_cons]
  congr 1
  · exact un_inj (by rw [un_bs, un_extract]; simp)
  · rw [un_extract, List.take_of_length_le (by rw [un_length]; omega)]
theorem piecesB_ne (s : ByteArray) : piecesB s ≠ [] := by unfold piecesB; simp [cutL_ne]
end Go.Proofs.YtgildlfanfbebaaGreatDoor
