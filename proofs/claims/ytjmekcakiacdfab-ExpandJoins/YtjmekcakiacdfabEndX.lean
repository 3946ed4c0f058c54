/- What statements ask of a text: few; how a word ends. -/
import Derived.Test.YtjmekcakiacdfabExJ
import Derived.Test.YtjmekcakiacdfabWksX
namespace Go.Proofs.Ytjmekcakiacdfab
open Go Go.RowKit Go.Maps

theorem few_p (s : ByteArray) (a : Option Addr) (n c : Nat) (W : World) : Calls Try.prog 4 #[.string s, .slice a n c] W fun x w' => x = .returned (.bool (decide (s.size ≤ 131072) && decide (n ≤ 4096))) ∧ w' = W := by
  by_cases h1 : s.size ≤ 131072
  · have h1' : (s.size : Int) ≤ 131072 := by omega
    by_cases h2 : n ≤ 4096
    · have h2' : (n : Int) ≤ 4096 := by omega
      rw [decide_eq_true h1, decide_eq_true h2]
      go_enter Try.func4, Try.ntmps4
      go_wp2
      go_ret
      exact ⟨rfl, rfl⟩
    · have h2' : ¬ (n : Int) ≤ 4096 := by omega
      rw [decide_eq_true h1, decide_eq_false h2]
      go_enter Try.func4, Try.ntmps4
      go_wp2
      go_ret
      exact ⟨rfl, rfl⟩
  · have h1' : ¬ (s.size : Int) ≤ 131072 := by omega
    rw [decide_eq_false h1]
    go_enter Try.func4, Try.ntmps4
    go_wp2
    go_ret
    exact ⟨rfl, rfl⟩
theorem last_un {s : ByteArray} {k : Nat} (h : s.size = k + 1) (hlt : k < s.size) : (un s).getLast? = some s[k] := by
  rw [List.getLast?_eq_getElem?, un_length, h]
  exact un_getElem? s k hlt
set_option maxHeartbeats 8000000 in
theorem ends_p (s : ByteArray) (e : UInt8) (W : World) (hs : s.size ≤ 140737488355328) : Calls Try.prog 5 #[.string s, .int .u8 e.toNat] W fun x w' => x = .returned (.bool (endsL e (un s))) ∧ w' = W := by
  by_cases h0 : 0 < s.size
  rotate_left
  · have h1 : s.toList.isEmpty = true := by rw [isEmpty_iff]; omega
    have h2 : endsL e (un s) = false := by
      have : un s = [] := List.eq_nil_of_length_eq_zero (by rw [un_length]; omega)
      rw [this]; rfl
    rw [h2]
    clear h0 h2
    go_enter Try.func5, Try.ntmps5
    go_wp2
    go_ret
    exact ⟨rfl, rfl⟩
  have h1 : s.toList.isEmpty = false := by rw [isEmpty_false]; exact h0
  obtain ⟨k, hk⟩ : ∃ k, s.size = k + 1 := ⟨s.size - 1, by omega⟩
  have hlt : k < s.size := by omega
  have hE : endsL e (un s) = endB e s[k] := by unfold endsL; rw [last_un hk hlt]
  have hw : IntKind.i64.wrap ((s.size : Int) - 1) = (k : Int) := by rw [wrap_small _ (by omega) (by omega)]; omega
  have d0 : (0 : Int) ≤ (k : Int) := by omega
  have d1 : (k : Int) < (s.size : Int) := by omega
  rw [hE]
  have q0 : ((s[k].toNat : Int) == (e.toNat : Int)) = (s[k] == e) := by
    rw [Bool.eq_iff_iff, beq_iff_eq, beq_iff_eq]
    constructor
    · intro h; apply UInt8.toNat_inj.1; omega
    · intro h; rw [h]
  have HE : Hid (endB e s[k] = ((s[k] == e) || decide ((s[k].toNat : Int) = 36) || ((decide ((65 : Int) ≤ s[k].toNat) && decide ((s[k].toNat : Int) ≤ 90)) || (decide ((97 : Int) ≤ s[k].toNat) && decide ((s[k].toNat : Int) ≤ 122)) || decide ((s[k].toNat : Int) = 95) || (decide ((48 : Int) ≤ s[k].toNat) && decide ((s[k].toNat : Int) ≤ 57))))) := by
    have h36 : (s[k] == 36) = decide ((s[k].toNat : Int) = 36) := by
      rw [Bool.eq_iff_iff, beq_iff_eq, decide_eq_true_iff]
      constructor
      · intro h; rw [h]; rfl
      · intro h; apply UInt8.toNat_inj.1; have : s[k].toNat = 36 := by omega
        rw [this]; rfl
    unfold Hid endB
    rw [h36, nmB_int]
    simp
  clear hE hk h0
  generalize endB e s[k] = r at *
  generalize hce : (s[k] == e) = ce at *
  clear hce
  have hcases : (s[k].toNat : Int) < 36 ∨ ((36 : Int) ≤ s[k].toNat ∧ (s[k].toNat : Int) ≤ 36) ∨ ((37 : Int) ≤ s[k].toNat ∧ (s[k].toNat : Int) ≤ 47) ∨ ((48 : Int) ≤ s[k].toNat ∧ (s[k].toNat : Int) ≤ 57) ∨ ((58 : Int) ≤ s[k].toNat ∧ (s[k].toNat : Int) ≤ 64) ∨ ((65 : Int) ≤ s[k].toNat ∧ (s[k].toNat : Int) ≤ 90) ∨ ((91 : Int) ≤ s[k].toNat ∧ (s[k].toNat : Int) ≤ 94) ∨ ((95 : Int) ≤ s[k].toNat ∧ (s[k].toNat : Int) ≤ 95) ∨ ((96 : Int) ≤ s[k].toNat ∧ (s[k].toNat : Int) ≤ 96) ∨ ((97 : Int) ≤ s[k].toNat ∧ (s[k].toNat : Int) ≤ 122) ∨ (123 : Int) ≤ s[k].toNat := by omega
  rcases hcases with h | ⟨h, h'⟩ | ⟨h, h'⟩ | ⟨h, h'⟩ | ⟨h, h'⟩ | ⟨h, h'⟩ | ⟨h, h'⟩ | ⟨h, h'⟩ | ⟨h, h'⟩ | ⟨h, h'⟩ | h
  all_goals first | have c1 : (65 : Int) ≤ s[k].toNat := by omega | have c1 : ¬ (65 : Int) ≤ s[k].toNat := by omega
  all_goals first | have c2 : (s[k].toNat : Int) ≤ 90 := by omega | have c2 : ¬ (s[k].toNat : Int) ≤ 90 := by omega
  all_goals first | have c3 : (97 : Int) ≤ s[k].toNat := by omega | have c3 : ¬ (97 : Int) ≤ s[k].toNat := by omega
  all_goals first | have c4 : (s[k].toNat : Int) ≤ 122 := by omega | have c4 : ¬ (s[k].toNat : Int) ≤ 122 := by omega
  all_goals first | have c5 : (48 : Int) ≤ s[k].toNat := by omega | have c5 : ¬ (48 : Int) ≤ s[k].toNat := by omega
  all_goals first | have c6 : (s[k].toNat : Int) ≤ 57 := by omega | have c6 : ¬ (s[k].toNat : Int) ≤ 57 := by omega
  all_goals first | have c7 : (s[k].toNat : Int) = 95 := by omega | have c7 : ¬ (s[k].toNat : Int) = 95 := by omega
  all_goals first | have c9 : (s[k].toNat : Int) = 36 := by omega | have c9 : ¬ (s[k].toNat : Int) = 36 := by omega
  all_goals first | have c8 : ((s[k].toNat : Int) == 95) = true := by simp; omega | have c8 : ((s[k].toNat : Int) == 95) = false := by simp; omega
  all_goals first | have ca : ((s[k].toNat : Int) == 36) = true := by simp; omega | have ca : ((s[k].toNat : Int) == 36) = false := by simp; omega
  all_goals cases ce
  all_goals
    have HR := HE.out
    simp only [c1, c2, c3, c4, c5, c6, c7, c9, decide_true, decide_false, Bool.and_true, Bool.and_false, Bool.true_or, Bool.false_or, Bool.or_true, Bool.or_false, Bool.and_self, Bool.or_self] at HR
    subst HR
    clear HE c7 c9
    go_enter Try.func5, Try.ntmps5
    go_wp2
    go_ret
    exact ⟨rfl, rfl⟩
end Go.Proofs.Ytjmekcakiacdfab
