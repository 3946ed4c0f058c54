/- What Encode answers: nothing of a program. -/
import Derived.Test.YtgdkgdlgalinbaaGreatDoorFitU
import Derived.Test.YtgdkgdlgalinbaaGreatDoorSumU
namespace Go.Proofs.YtgdkgdlgalinbaaGreatDoor
open Go Go.RowKit

/-- The numbers of a header, their fields, where they stand. -/
def fld (k : Nat) : Nat := [1, 2, 3, 4, 5, 12, 13].getD k 0
def off (k : Nat) : Nat := [1, 2, 3, 4, 5, 10, 11].getD k 0
def num (h : Hd) (k : Nat) : Int := [h.mode, h.uid, h.gid, h.size, h.time, h.major, h.minor].getD k 0
def numOK (h : Hd) (k : Nat) : Bool := decide (0 ≤ num h k) && decide (num h k ≤ mostN (fld k))
def numsOK (h : Hd) : Bool := (numOK h 0 && numOK h 1 && numOK h 2 && numOK h 3 && numOK h 4 && numOK h 5 && numOK h 6)
def zero512 : List UInt8 := List.replicate 512 0
/-- The block behind its texts and its type. -/
def textB (h : Hd) : List UInt8 :=
  (putB (putB (putB (putB (putB (putB zero512 0 ((un (splitP h.path).2.1).take 100)) 345 ((un (splitP h.path).1).take 155)) 157 ((un h.link).take 100)) 265 ((un h.user).take 32)) 297 ((un h.group).take 32)) 257 [117, 115, 116, 97, 114, 0, 48, 48]).set 156 h.typ
/-- .. and behind k of its numbers. -/
def numB (h : Hd) : Nat → List UInt8
  | 0 => textB h
  | k + 1 => putB (numB h k) (bg (fld k)) (octD (num h k).toNat (rm (fld k) - 1))
def encL (h : Hd) : List UInt8 := putB (numB h 7) 148 (octD (sumB (numB h 7)) 6 ++ [0, 32])
def encP (h : Hd) : ByteArray × Int :=
  if fitB h = false then (⟨#[]⟩, 6) else if (splitP h.path).2.2 ≠ 0 then (⟨#[]⟩, (splitP h.path).2.2) else if 100 < h.link.size then (⟨#[]⟩, 17) else if numsOK h = false then (⟨#[]⟩, 1) else (bs (encL h), 0)
theorem putB_len512 (bl : List UInt8) (f : Nat) (xs : List UInt8) (hb : bl.length = 512) (h : f + xs.length ≤ 512) : (putB bl f xs).length = 512 := by rw [putB_length _ _ _ (by omega), hb]
theorem take_le (s : ByteArray) (n : Nat) : ((un s).take n).length ≤ n := by simp; omega
theorem textB_length (h : Hd) : (textB h).length = 512 := by
  have h0 : zero512.length = 512 := List.length_replicate
  have a1 := take_le (splitP h.path).2.1 100
  have a2 := take_le (splitP h.path).1 155
  have a3 := take_le h.link 100
  have a4 := take_le h.user 32
  have a5 := take_le h.group 32
  unfold textB
  rw [List.length_set]
  refine putB_len512 _ _ _ (putB_len512 _ _ _ (putB_len512 _ _ _ (putB_len512 _ _ _ (putB_len512 _ _ _ (putB_len512 _ _ _ h0 ?_) ?_) ?_) ?_) ?_) ?_
  all_goals first | omega | decide
theorem rm_fld (k : Nat) (hk : k < 7) : fld k < 16 ∧ (rm (fld k) = 8 ∨ rm (fld k) = 12) ∧ bg (fld k) + rm (fld k) ≤ 512 :=
  (by decide : ∀ k, k < 7 → fld k < 16 ∧ (rm (fld k) = 8 ∨ rm (fld k) = 12) ∧ bg (fld k) + rm (fld k) ≤ 512) k hk
theorem numB_length (h : Hd) : ∀ k, k ≤ 7 → (numB h k).length = 512
  | 0, _ => textB_length h
  | k + 1, hk => by
    have := rm_fld k (by omega)
    exact putB_len512 _ _ _ (numB_length h k (by omega)) (by rw [octD_length]; omega)
theorem num_ok (h : Hd) (hh : numsOK h = true) (k : Nat) (hk : k < 7) : ∃ (x m : Nat), num h k = x ∧ rm (fld k) = m + 2 ∧ m ≤ 10 ∧ x < 8 ^ (m + 1) := by
  have h1 : numOK h k = true := by
    unfold numsOK at hh
    simp only [Bool.and_eq_true] at hh
    obtain ⟨⟨⟨⟨⟨⟨a, b⟩, c⟩, d⟩, e⟩, f⟩, g⟩ := hh
    obtain rfl | rfl | rfl | rfl | rfl | rfl | rfl : k = 0 ∨ k = 1 ∨ k = 2 ∨ k = 3 ∨ k = 4 ∨ k = 5 ∨ k = 6 := by omega
    all_goals assumption
  unfold numOK at h1
  rw [Bool.and_eq_true, decide_eq_true_iff, decide_eq_true_iff] at h1
  obtain ⟨_, hr, _⟩ := rm_fld k hk
  rcases hr with hr | hr
  · refine ⟨(num h k).toNat, 6, by omega, hr, by omega, ?_⟩
    have : num h k ≤ 2097151 := by have := h1.2; unfold mostN at this; rw [if_pos hr] at this; exact this
    omega
  · refine ⟨(num h k).toNat, 10, by omega, hr, by omega, ?_⟩
    have : num h k ≤ 8589934591 := by have := h1.2; unfold mostN at this; rw [if_neg (by omega)] at this; exact this
    omega
end Go.Proofs.YtgdkgdlgalinbaaGreatDoor
