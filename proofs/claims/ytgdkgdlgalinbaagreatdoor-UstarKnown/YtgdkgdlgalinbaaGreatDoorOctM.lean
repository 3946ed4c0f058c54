/- Octal digits: nothing of a program. -/
import Derived.Test.YtgdkgdlgalinbaaGreatDoorBaseU
namespace Go.Proofs.YtgdkgdlgalinbaaGreatDoor
open Go Go.RowKit

def dg (x : Nat) : UInt8 := UInt8.ofNat (48 + x)
theorem dg_toNat (x : Nat) (h : x < 8) : (dg x).toNat = 48 + x := by
  unfold dg; rw [UInt8.toNat_ofNat']; omega
/-- A number's octal digits. -/
def octM (u : Nat) : List UInt8 := if _h : u < 8 then [dg u] else octM (u / 8) ++ [dg (u % 8)]
termination_by u
decreasing_by omega
theorem octM_small (u : Nat) (h : u < 8) : octM u = [dg u] := by rw [octM, dif_pos h]
theorem octM_step (u : Nat) (h : 8 ≤ u) : octM u = octM (u / 8) ++ [dg (u % 8)] := by rw [octM, dif_neg (by omega)]
/-- Just so many digits. -/
def octD : Nat → Nat → List UInt8
  | _, 0 => []
  | u, k + 1 => octD (u / 8) k ++ [dg (u % 8)]
theorem octD_length : ∀ (k u : Nat), (octD u k).length = k
  | 0, _ => rfl
  | k + 1, u => by rw [octD, List.length_append, octD_length k]; rfl
theorem octD_zero : ∀ k : Nat, octD 0 k = List.replicate k (dg 0)
  | 0 => rfl
  | k + 1 => by rw [octD, show 0 / 8 = 0 from rfl, octD_zero k, List.replicate_succ']
theorem octM_length : ∀ (k u : Nat), u < 8 ^ (k + 1) → (octM u).length ≤ k + 1
  | 0, u, h => by rw [octM_small u (by simpa using h)]; exact Nat.le_refl _
  | k + 1, u, h => by
    by_cases h8 : u < 8
    · rw [octM_small u h8]; simp
    · rw [octM_step u (by omega), List.length_append]
      have h1 : u / 8 < 8 ^ (k + 1) := Nat.div_lt_of_lt_mul (by rw [Nat.mul_comm, ← Nat.pow_succ]; exact h)
      have := octM_length k (u / 8) h1
      simp; omega
theorem octM_pad : ∀ (k u : Nat), u < 8 ^ (k + 1) → List.replicate (k + 1 - (octM u).length) (dg 0) ++ octM u = octD u (k + 1)
  | 0, u, h => by
    have h8 : u < 8 := by simpa using h
    rw [octM_small u h8, octD, octD, Nat.mod_eq_of_lt h8]; rfl
  | k + 1, u, h => by
    by_cases h8 : u < 8
    · rw [octM_small u h8, octD, Nat.div_eq_of_lt h8, octD_zero, Nat.mod_eq_of_lt h8]
      rfl
    · have h1 : u / 8 < 8 ^ (k + 1) := Nat.div_lt_of_lt_mul (by rw [Nat.mul_comm, ← Nat.pow_succ]; exact h)
      have h2 := octM_length k (u / 8) h1
      rw [octM_step u (by omega), octD, ← octM_pad k (u / 8) h1, List.length_append, List.append_assoc]
      simp
/-- What digits say. -/
def valO (l : List UInt8) : Nat := l.foldl (fun n c => 8 * n + (c.toNat - 48)) 0
theorem valO_snoc (l : List UInt8) (c : UInt8) : valO (l ++ [c]) = 8 * valO l + (c.toNat - 48) := by simp [valO, List.foldl_append]
theorem valO_octD : ∀ (k u : Nat), u < 8 ^ k → valO (octD u k) = u
  | 0, u, h => by simp at h; subst h; rfl
  | k + 1, u, h => by
    have h1 : u / 8 < 8 ^ k := Nat.div_lt_of_lt_mul (by rw [Nat.mul_comm, ← Nat.pow_succ]; exact h)
    rw [octD, valO_snoc, valO_octD k (u / 8) h1, dg_toNat _ (Nat.mod_lt _ (by decide))]
    omega
theorem octD_digit : ∀ (k u : Nat) (c : UInt8), c ∈ octD u k → 48 ≤ c.toNat ∧ c.toNat ≤ 55
  | 0, _, _, h => by simp [octD] at h
  | k + 1, u, c, h => by
    rw [octD, List.mem_append, List.mem_singleton] at h
    rcases h with h | rfl
    · exact octD_digit k (u / 8) c h
    · rw [dg_toNat _ (Nat.mod_lt _ (by decide))]; omega
end Go.Proofs.YtgdkgdlgalinbaaGreatDoor
