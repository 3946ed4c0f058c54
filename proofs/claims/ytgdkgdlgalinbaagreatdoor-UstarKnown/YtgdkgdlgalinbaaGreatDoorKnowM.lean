/- What is written and read of the chapter's examples: nothing of a program. -/
import Derived.Test.YtgdkgdlgalinbaaGreatDoorBackN
import Derived.Test.YtgdkgdlgalinbaaGreatDoorTimesU
import Derived.Test.YtgdkgdlgalinbaaGreatDoorForX
namespace Go.Proofs.YtgdkgdlgalinbaaGreatDoor
open Go Go.RowKit

/-- So many times a byte. -/
def tm (c : UInt8) (n : Nat) : ByteArray := bs (timesL (un ⟨#[c]⟩) n)
theorem tm_size (c : UInt8) (n : Nat) : (tm c n).size = n := by
  unfold tm; rw [size_bs, timesL_length]; show n * 1 = n; omega
def s7 : ByteArray := ⟨#[48, 48, 48, 48, 48, 48, 48, 0]⟩
def s11 : ByteArray := ⟨#[48, 48, 48, 48, 48, 48, 48, 48, 48, 48, 48, 0]⟩
def hZ : Hd := ⟨⟨#[]⟩, 0, 0, 0, 0, 0, 0, ⟨#[]⟩, ⟨#[]⟩, ⟨#[]⟩, 0, 0⟩
def hQ : Hd := ⟨⟨#[97]⟩, 420, 0, 0, 0, 0, 48, ⟨#[]⟩, ⟨#[]⟩, ⟨#[]⟩, 0, 0⟩
def hL1 : Hd := { hZ with path := tm 97 101 }
def hW : Hd := { hZ with path := tm 97 99 ++ ⟨#[47]⟩ ++ tm 98 100 }
theorem good_z : Good hZ := ⟨by decide +kernel, by decide +kernel, by decide, by decide +kernel⟩
theorem good_q : Good hQ := ⟨by decide +kernel, by decide +kernel, by decide, by decide +kernel⟩
theorem good_w : Good hW := ⟨by decide +kernel, by decide +kernel, by decide, by decide +kernel⟩
theorem enc_z : bs (encL hZ) = tm 0 100 ++ s7 ++ s7 ++ s7 ++ s11 ++ s11 ++ ⟨#[48, 48, 55, 48, 55, 55, 0, 32]⟩ ++ tm 0 101 ++ ⟨#[117, 115, 116, 97, 114, 0, 48, 48]⟩ ++ tm 0 64 ++ s7 ++ s7 ++ tm 0 167 := by
  apply un_inj
  simp only [un_append, un_bs, tm]
  decide +kernel
theorem enc_q1 : (bs (encL hQ)).extract 100 108 = ⟨#[48, 48, 48, 48, 54, 52, 52, 0]⟩ := by
  apply un_inj; rw [un_extract, un_bs]; decide +kernel
theorem enc_q2 : (bs (encL hQ)).extract 148 156 = ⟨#[48, 48, 55, 51, 51, 54, 0, 32]⟩ := by
  apply un_inj; rw [un_extract, un_bs]; decide +kernel
theorem enc_l1 : encP hL1 = (⟨#[]⟩, 9) := by
  unfold encP
  rw [if_neg (by decide +kernel), if_pos (by decide +kernel), show (splitP hL1.path).2.2 = 9 by decide +kernel]
theorem enc_w1 : (bs (encL hW)).extract 0 100 = tm 98 100 := by
  apply un_inj; rw [un_extract, un_bs, tm, un_bs]; decide +kernel
theorem enc_w2 : (bs (encL hW)).extract 345 500 = tm 97 99 ++ tm 0 56 := by
  apply un_inj; rw [un_extract, un_bs, un_append, tm, tm, un_bs, un_bs]; decide +kernel
/-- Headers that are refused, and how. -/
def hl6 : List Hd := [{ hZ with path := ⟨#[97]⟩, mode := -1 }, { hZ with path := ⟨#[97]⟩, mode := 2097152 }, { hZ with path := ⟨#[97]⟩, size := 8589934592 }, { hZ with path := ⟨#[97]⟩, link := tm 120 101 }, { hZ with path := ⟨#[97]⟩, user := tm 117 32 }, { hZ with path := ⟨#[97, 0]⟩ }]
def nl6 : List Int := [1, 1, 1, 17, 6, 6]
theorem ref_n (h : Hd) (h1 : fitB h = true) (h2 : (splitP h.path).2.2 = 0) (h3 : ¬ 100 < h.link.size) (h4 : numsOK h = false) : encP h = (⟨#[]⟩, 1) := by
  unfold encP; rw [if_neg (by rw [h1]; decide), if_neg (by rw [h2]; decide), if_neg h3, if_pos h4]
theorem ref_l (h : Hd) (h1 : fitB h = true) (h2 : (splitP h.path).2.2 = 0) (h3 : 100 < h.link.size) : encP h = (⟨#[]⟩, 17) := by
  unfold encP; rw [if_neg (by rw [h1]; decide), if_neg (by rw [h2]; decide), if_pos h3]
theorem ref_t (h : Hd) (h1 : fitB h = false) : encP h = (⟨#[]⟩, 6) := by
  unfold encP; rw [if_pos h1]
theorem hl6_at (i : Nat) (hi : i < 6) : ∃ h n, hl6[i]? = some h ∧ nl6[i]? = some n ∧ encP h = (⟨#[]⟩, n) ∧ 0 < n ∧ n ≤ 32 ∧ h.path.size < 1000 := by
  obtain rfl | rfl | rfl | rfl | rfl | rfl : i = 0 ∨ i = 1 ∨ i = 2 ∨ i = 3 ∨ i = 4 ∨ i = 5 := by omega
  · exact ⟨_, _, rfl, rfl, ref_n _ (by decide +kernel) (by decide +kernel) (by decide +kernel) (by decide +kernel), by decide, by decide, by decide⟩
  · exact ⟨_, _, rfl, rfl, ref_n _ (by decide +kernel) (by decide +kernel) (by decide +kernel) (by decide +kernel), by decide, by decide, by decide⟩
  · exact ⟨_, _, rfl, rfl, ref_n _ (by decide +kernel) (by decide +kernel) (by decide +kernel) (by decide +kernel), by decide, by decide, by decide⟩
  · exact ⟨_, _, rfl, rfl, ref_l _ (by decide +kernel) (by decide +kernel) (by decide +kernel), by decide, by decide, by decide⟩
  · exact ⟨_, _, rfl, rfl, ref_t _ (by decide +kernel), by decide, by decide, by decide⟩
  · exact ⟨_, _, rfl, rfl, ref_t _ (by decide +kernel), by decide, by decide, by decide⟩
/-- What is read. -/
def fq (p : List UInt8) : List UInt8 := forgeL (encL hQ) p 100
theorem dec_ok (s : ByteArray) (h1 : s.size = 512) (h2 : fieldL (un s) 9 = magicL) (h3 : okAll (un s) = true) (h4 : (numV (fieldL (un s) 6)).2 = true) (h5 : (numV (fieldL (un s) 6)).1 = sumB (un s)) : decP s = (decHd (un s), 0) := by
  unfold decP; rw [if_neg (by omega), if_neg (by omega), if_neg (by simpa using h2), if_neg (by rw [h3]; decide), if_neg (by rw [h4]; decide), if_neg (by simpa using h5)]
theorem dec_sum (s : ByteArray) (h1 : s.size = 512) (h2 : fieldL (un s) 9 = magicL) (h3 : okAll (un s) = true) (h4 : (numV (fieldL (un s) 6)).2 = true) (h5 : (numV (fieldL (un s) 6)).1 ≠ sumB (un s)) : decP s = (zeroHd, 7) := by
  unfold decP; rw [if_neg (by omega), if_neg (by omega), if_neg (by simpa using h2), if_neg (by rw [h3]; decide), if_neg (by rw [h4]; decide), if_pos h5]
theorem dec_txt (s : ByteArray) (h1 : s.size = 512) (h2 : fieldL (un s) 9 = magicL) (h3 : okAll (un s) = false) : decP s = (zeroHd, 6) := by
  unfold decP; rw [if_neg (by omega), if_neg (by omega), if_neg (by simpa using h2), if_pos h3]
def fq1 : List UInt8 := [97, 0, 0, 0, 0, 0, 0, 0, 0, 0, 0, 0, 0, 0, 0, 0, 0, 0, 0, 0, 0, 0, 0, 0, 0, 0, 0, 0, 0, 0, 0, 0, 0, 0, 0, 0, 0, 0, 0, 0, 0, 0, 0, 0, 0, 0, 0, 0, 0, 0, 0, 0, 0, 0, 0, 0, 0, 0, 0, 0, 0, 0, 0, 0, 0, 0, 0, 0, 0, 0, 0, 0, 0, 0, 0, 0, 0, 0, 0, 0, 0, 0, 0, 0, 0, 0, 0, 0, 0, 0, 0, 0, 0, 0, 0, 0, 0, 0, 0, 0, 32, 32, 32, 54, 52, 52, 32, 32, 48, 48, 48, 48, 48, 48, 48, 0, 48, 48, 48, 48, 48, 48, 48, 0, 48, 48, 48, 48, 48, 48, 48, 48, 48, 48, 48, 0, 48, 48, 48, 48, 48, 48, 48, 48, 48, 48, 48, 0, 48, 48, 55, 50, 55, 54, 0, 32, 48, 0, 0, 0, 0, 0, 0, 0, 0, 0, 0, 0, 0, 0, 0, 0, 0, 0, 0, 0, 0, 0, 0, 0, 0, 0, 0, 0, 0, 0, 0, 0, 0, 0, 0, 0, 0, 0, 0, 0, 0, 0, 0, 0, 0, 0, 0, 0, 0, 0, 0, 0, 0, 0, 0, 0, 0, 0, 0, 0, 0, 0, 0, 0, 0, 0, 0, 0, 0, 0, 0, 0, 0, 0, 0, 0, 0, 0, 0, 0, 0, 0, 0, 0, 0, 0, 0, 0, 0, 0, 0, 0, 0, 0, 0, 0, 0, 0, 0, 0, 0, 117, 115, 116, 97, 114, 0, 48, 48, 0, 0, 0, 0, 0, 0, 0, 0, 0, 0, 0, 0, 0, 0, 0, 0, 0, 0, 0, 0, 0, 0, 0, 0, 0, 0, 0, 0, 0, 0, 0, 0, 0, 0, 0, 0, 0, 0, 0, 0, 0, 0, 0, 0, 0, 0, 0, 0, 0, 0, 0, 0, 0, 0, 0, 0, 0, 0, 0, 0, 0, 0, 0, 0, 48, 48, 48, 48, 48, 48, 48, 0, 48, 48, 48, 48, 48, 48, 48, 0, 0, 0, 0, 0, 0, 0, 0, 0, 0, 0, 0, 0, 0, 0, 0, 0, 0, 0, 0, 0, 0, 0, 0, 0, 0, 0, 0, 0, 0, 0, 0, 0, 0, 0, 0, 0, 0, 0, 0, 0, 0, 0, 0, 0, 0, 0, 0, 0, 0, 0, 0, 0, 0, 0, 0, 0, 0, 0, 0, 0, 0, 0, 0, 0, 0, 0, 0, 0, 0, 0, 0, 0, 0, 0, 0, 0, 0, 0, 0, 0, 0, 0, 0, 0, 0, 0, 0, 0, 0, 0, 0, 0, 0, 0, 0, 0, 0, 0, 0, 0, 0, 0, 0, 0, 0, 0, 0, 0, 0, 0, 0, 0, 0, 0, 0, 0, 0, 0, 0, 0, 0, 0, 0, 0, 0, 0, 0, 0, 0, 0, 0, 0, 0, 0, 0, 0, 0, 0, 0, 0, 0, 0, 0, 0, 0, 0, 0, 0, 0, 0, 0, 0, 0, 0, 0, 0, 0, 0, 0, 0, 0, 0, 0, 0, 0, 0, 0]
set_option maxRecDepth 100000 in
theorem fq1_eq : fq [32, 32, 32, 54, 52, 52, 32, 32] = fq1 := by decide +kernel
set_option maxRecDepth 100000 in
set_option maxHeartbeats 2000000 in
theorem hd_1 : decHd fq1 = hQ := by
  unfold decHd hQ
  simp only [Hd.mk.injEq]
  refine ⟨by decide +kernel, by decide +kernel, by decide +kernel, by decide +kernel, by decide +kernel, by decide +kernel, by decide +kernel, by decide +kernel, by decide +kernel, by decide +kernel, by decide +kernel, by decide +kernel⟩
set_option maxRecDepth 100000 in
set_option maxHeartbeats 2000000 in
theorem dec_1 : decP (bs (fq [32, 32, 32, 54, 52, 52, 32, 32])) = (hQ, 0) := by
  rw [fq1_eq, dec_ok (bs fq1) (by rw [size_bs]; decide +kernel) (by rw [un_bs]; decide +kernel) (by rw [un_bs]; decide +kernel) (by rw [un_bs]; decide +kernel) (by rw [un_bs]; decide +kernel), un_bs, hd_1]
theorem dec_2 : decP (bs (fq (timesL [0] 8))) = (zeroHd, 6) := dec_txt _ (by decide +kernel) (by decide +kernel) (by decide +kernel)
theorem dec_3 : decP (bs (fq [48, 48, 48, 48, 54, 52, 56, 0])) = (zeroHd, 6) := dec_txt _ (by decide +kernel) (by decide +kernel) (by decide +kernel)
theorem q_size : (bs (encL hQ)).size = 512 := by rw [size_bs, enc_length good_q]
theorem un_q5 : un ((bs (encL hQ)).extract 0 156 ++ ⟨#[53]⟩ ++ (bs (encL hQ)).extract 157 512) = (encL hQ).take 156 ++ [53] ++ ((encL hQ).take 512).drop 157 := by
  rw [un_append, un_append, un_extract, un_extract, un_bs]; rfl
theorem dec_4 : decP ((bs (encL hQ)).extract 0 156 ++ ⟨#[53]⟩ ++ (bs (encL hQ)).extract 157 512) = (zeroHd, 7) := by
  refine dec_sum _ ?_ ?_ ?_ ?_ ?_
  · rw [← un_length, un_q5]; decide +kernel
  · rw [un_q5]; decide +kernel
  · rw [un_q5]; decide +kernel
  · rw [un_q5]; decide +kernel
  · rw [un_q5]; decide +kernel
theorem dec_5 : decP ((bs (encL hQ)).extract 0 511) = (zeroHd, 2) := by
  unfold decP
  rw [if_pos (by rw [← un_length, un_extract, un_bs]; decide +kernel)]
theorem dec_6 : decP (bs (encL hQ) ++ ⟨#[0]⟩) = (zeroHd, 3) := by
  have h : (bs (encL hQ) ++ ⟨#[0]⟩).size = 513 := by rw [← un_length, un_append, un_bs]; decide +kernel
  unfold decP
  rw [if_neg (by omega), if_pos (by omega)]
theorem dec_7 : decP (tm 0 512) = (zeroHd, 4) := by
  have h := tm_size 0 512
  unfold decP
  rw [if_neg (by omega), if_neg (by omega), if_pos (by unfold tm; rw [un_bs]; decide +kernel)]
end Go.Proofs.YtgdkgdlgalinbaaGreatDoor
