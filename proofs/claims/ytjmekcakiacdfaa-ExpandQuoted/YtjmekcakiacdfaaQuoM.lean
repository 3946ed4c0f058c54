/- Package words' Quote. -/
import Derived.Test.YtjmekcakiacdfaaStW
import Derived.Test.YtjmekcakiacdfaaBld
import Derived.Test.YtjmekcakiacdfaaShelf
namespace Go.Proofs.Ytjmekcakiacdfaa
open Go Go.RowKit

def alsoL : List UInt8 := [95, 45, 46, 47, 58, 44, 43, 61, 64, 37]
def plB (b : UInt8) : Bool := (decide (65 ≤ b.toNat) && decide (b.toNat ≤ 90)) || (decide (97 ≤ b.toNat) && decide (b.toNat ≤ 122)) || (decide (48 ≤ b.toNat) && decide (b.toNat ≤ 57)) || decide (0 ≤ Lib.indexByte alsoL b)
def plL (l : List UInt8) : Bool := l.all plB && !l.isEmpty
def mrk (e b : UInt8) : Bool := b == 34 || b == 36 || b == e
def bodyL (e : UInt8) (l : List UInt8) : List UInt8 := l.flatMap fun b => if mrk e b = true then [e, b] else [b]
def quoL (e : UInt8) (l : List UInt8) : List UInt8 := if plL l = true then l else 34 :: (bodyL e l ++ [34])
theorem bodyL_snoc (e b : UInt8) (l : List UInt8) : bodyL e (l ++ [b]) = bodyL e l ++ (if mrk e b = true then [e, b] else [b]) := by simp [bodyL]
theorem bodyL_length (e : UInt8) (l : List UInt8) : (bodyL e l).length ≤ 2 * l.length := by
  induction l with
  | nil => exact Nat.le_refl _
  | cons b l ih =>
    have : bodyL e (b :: l) = (if mrk e b = true then [e, b] else [b]) ++ bodyL e l := rfl
    rw [this, List.length_append, List.length_cons]
    split <;> simp <;> omega
theorem byte_back (b : UInt8) : ((b.toNat : Int).toNat).toUInt8 = b := by simp

set_option maxHeartbeats 4000000 in
theorem plainb_p (b : UInt8) (w : World) : Calls Try.prog 40 #[.int .u8 b.toNat] w fun e w' => e = .returned (.bool (plB b)) ∧ w' = w := by
  have HI : Hid (∀ W, Calls Try.prog 53 #[.string ⟨#[95, 45, 46, 47, 58, 44, 43, 61, 64, 37]⟩, .int .u8 b.toNat] W fun e w' => e = .returned (.int .i64 (Lib.indexByte alsoL b)) ∧ w' = W) := fun W => by
    have h := Try.strings_IndexByte ⟨#[95, 45, 46, 47, 58, 44, 43, 61, 64, 37]⟩ (b.toNat : Int) W
    rw [byte_back] at h; exact h
  have HP : Hid (plB b = ((decide ((65 : Int) ≤ b.toNat) && decide ((b.toNat : Int) ≤ 90)) || (decide ((97 : Int) ≤ b.toNat) && decide ((b.toNat : Int) ≤ 122)) || (decide ((48 : Int) ≤ b.toNat) && decide ((b.toNat : Int) ≤ 57)) || decide (0 ≤ Lib.indexByte alsoL b))) := by
    unfold Hid plB
    have a1 : decide ((65 : Int) ≤ b.toNat) = decide (65 ≤ b.toNat) := decide_eq_decide.2 (by omega)
    have a2 : decide ((b.toNat : Int) ≤ 90) = decide (b.toNat ≤ 90) := decide_eq_decide.2 (by omega)
    have a3 : decide ((97 : Int) ≤ b.toNat) = decide (97 ≤ b.toNat) := decide_eq_decide.2 (by omega)
    have a4 : decide ((b.toNat : Int) ≤ 122) = decide (b.toNat ≤ 122) := decide_eq_decide.2 (by omega)
    have a5 : decide ((48 : Int) ≤ b.toNat) = decide (48 ≤ b.toNat) := decide_eq_decide.2 (by omega)
    have a6 : decide ((b.toNat : Int) ≤ 57) = decide (b.toNat ≤ 57) := decide_eq_decide.2 (by omega)
    rw [a1, a2, a3, a4, a5, a6]
  generalize plB b = r at *
  generalize Lib.indexByte alsoL b = ix at *
  have hcases : (b.toNat : Int) < 48 ∨ ((48 : Int) ≤ b.toNat ∧ (b.toNat : Int) ≤ 57) ∨ ((58 : Int) ≤ b.toNat ∧ (b.toNat : Int) ≤ 64) ∨ ((65 : Int) ≤ b.toNat ∧ (b.toNat : Int) ≤ 90) ∨ ((91 : Int) ≤ b.toNat ∧ (b.toNat : Int) ≤ 96) ∨ ((97 : Int) ≤ b.toNat ∧ (b.toNat : Int) ≤ 122) ∨ (123 : Int) ≤ b.toNat := by omega
  rcases hcases with h | ⟨h, h'⟩ | ⟨h, h'⟩ | ⟨h, h'⟩ | ⟨h, h'⟩ | ⟨h, h'⟩ | h
  all_goals first | have c1 : (65 : Int) ≤ b.toNat := by omega | have c1 : ¬ (65 : Int) ≤ b.toNat := by omega
  all_goals first | have c2 : (b.toNat : Int) ≤ 90 := by omega | have c2 : ¬ (b.toNat : Int) ≤ 90 := by omega
  all_goals first | have c3 : (97 : Int) ≤ b.toNat := by omega | have c3 : ¬ (97 : Int) ≤ b.toNat := by omega
  all_goals first | have c4 : (b.toNat : Int) ≤ 122 := by omega | have c4 : ¬ (b.toNat : Int) ≤ 122 := by omega
  all_goals first | have c5 : (48 : Int) ≤ b.toNat := by omega | have c5 : ¬ (48 : Int) ≤ b.toNat := by omega
  all_goals first | have c6 : (b.toNat : Int) ≤ 57 := by omega | have c6 : ¬ (b.toNat : Int) ≤ 57 := by omega
  all_goals
    have HR := HP.out
    simp only [c1, c2, c3, c4, c5, c6, decide_true, decide_false, Bool.and_true, Bool.and_false, Bool.true_or, Bool.false_or, Bool.or_true, Bool.or_false, Bool.and_self, Bool.or_self] at HR
    subst HR
    clear HP
    go_enter Try.func40, Try.ntmps40
    go_wp2_with (go_at_call 53; refine (HI.out _).mono ?_; rintro e w1 ⟨rfl, hw⟩; replace hw := hw.symm; subst hw)
    go_ret
    exact ⟨rfl, rfl⟩

set_option maxHeartbeats 2000000 in
theorem plain_p (s : ByteArray) (w : World) (hs : s.size ≤ 1099511627776) : Calls Try.prog 24 #[.string s] w fun e w' => e = .returned (.bool (plL (un s))) ∧ w' = w := by
  have hsl := un_length s
  go_enter Try.func24, Try.ntmps24
  go_wp2
  go_loop [3, 6] (fun _ i => ∃ k : Nat, k ≤ s.size ∧ i = .int .i64 k ∧ Hid ((un s).take k |>.all plB)) (fun _ i => s.size - (intOf i).toNat)
  case atStart => exact ⟨0, Nat.zero_le _, rfl, by simp [Hid]⟩
  case round =>
    obtain ⟨k, hk, rfl, HA⟩ := hrel
    by_cases hlt : k < s.size
    · have hget := un_getElem? s k hlt
      have hp := fun W => plainb_p s[k] W
      have k0 : (0 : Int) ≤ (k : Int) := by omega
      have k1 : (k : Int) < (s.size : Int) := by omega
      cases hb : plB s[k]
      · rw [hb] at hp
        have HF : Hid (plL (un s) = false) := by
          unfold Hid plL
          rw [Bool.and_eq_false_iff]; left
          rw [List.all_eq_false]
          exact ⟨s[k], List.mem_of_getElem? hget, by rw [hb]; decide⟩
        clear hb hget
        go_wp2_with (go_at_call 40; refine (hp _).mono ?_; rintro e w1 ⟨rfl, hw⟩; replace hw := hw.symm; subst hw)
        go_ret
        exact ⟨by rw [HF.out]; rfl, rfl⟩
      · rw [hb] at hp
        have HA2 : Hid (((un s).take (k + 1)).all plB = true) := by
          unfold Hid
          rw [List.take_add_one, hget, List.all_append, HA.out]; simp [hb]
        clear hb hget
        go_wp2_with (go_at_call 40; refine (hp _).mono ?_; rintro e w1 ⟨rfl, hw⟩; replace hw := hw.symm; subst hw)
        first
          | exact ⟨⟨k + 1, by omega, by go_num, HA2⟩, by simp [intOf]; omega⟩
          | (go_round
             case rel => exact ⟨k + 1, by omega, by go_num, HA2⟩
             case measure => simp [intOf]; omega)
    · obtain rfl : k = s.size := by omega
      have HE : Hid (plL (un s) = !s.toList.isEmpty) := by
        unfold Hid plL
        have := HA.out
        rw [← hsl, List.take_length] at this
        rw [this, toList_un]; rfl
      cases hem : s.toList.isEmpty
      all_goals
        rw [hem] at HE
        go_wp2
        go_ret
        exact ⟨by rw [HE.out]; rfl, rfl⟩

end Go.Proofs.Ytjmekcakiacdfaa
