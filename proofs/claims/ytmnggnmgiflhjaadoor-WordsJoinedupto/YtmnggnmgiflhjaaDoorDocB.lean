/- The document's Escape, Blank and bare. -/
import Derived.Test.YtmnggnmgiflhjaaDoorQuoM
import Derived.Test.YtmnggnmgiflhjaaDoorWdW
import Derived.Laws.AppendOwn
namespace Go.Proofs.YtmnggnmgiflhjaaDoor
open Go Go.RowKit

theorem esc_r (c : UInt8) (w : World) : Calls Tryd.prog 22 #[.int .u8 c.toNat] w fun e w' => e = .returned (.int .u8 (escN c).toNat) ∧ w' = w := by
  have hc : ((c.toNat : Int) == 96) = (decide (c = 96)) := beq_u8 c 96 (by decide)
  unfold escN
  by_cases h : c = 96
  · subst h
    go_enter Tryd.func22, Tryd.ntmps22
    go_wp2
    go_ret
    exact ⟨rfl, rfl⟩
  · rw [if_neg h]
    rw [decide_eq_false h] at hc
    go_enter Tryd.func22, Tryd.ntmps22
    go_wp2
    go_ret
    exact ⟨rfl, rfl⟩
theorem blank_r (c : UInt8) (w : World) : Calls Tryd.prog 23 #[.int .u8 c.toNat] w fun e w' => e = .returned (.bool (isBl c)) ∧ w' = w := by
  have q1 : ((c.toNat : Int) == 32) = decide (c = 32) := beq_u8 c 32 (by decide)
  have q2 : ((c.toNat : Int) == 9) = decide (c = 9) := beq_u8 c 9 (by decide)
  have q3 : ((c.toNat : Int) == 13) = decide (c = 13) := beq_u8 c 13 (by decide)
  have HB : Hid (isBl c = (decide (c = 32) || decide (c = 9) || decide (c = 13))) := rfl
  generalize isBl c = r at *
  generalize decide (c = 32) = m1 at *
  generalize decide (c = 9) = m2 at *
  generalize decide (c = 13) = m3 at *
  cases m1 <;> cases m2 <;> cases m3
  all_goals
    have hb := HB.out
    simp at hb
    subst hb
    clear HB
    go_enter Tryd.func23, Tryd.ntmps23
    go_wp2
    go_ret
    exact ⟨rfl, rfl⟩
theorem idx_ge (l : List UInt8) (b : UInt8) : -1 ≤ Lib.indexByte l b := by
  induction l with
  | nil => exact Int.le_refl _
  | cons x l ih => unfold Lib.indexByte; repeat' split
                   all_goals omega
theorem idx_mem (l : List UInt8) (b : UInt8) : decide (0 ≤ Lib.indexByte l b) = l.contains b := by
  induction l with
  | nil => rfl
  | cons x l ih =>
    have h := idx_ge l b
    unfold Lib.indexByte
    rw [List.contains_cons]
    by_cases h1 : x = b
    · subst h1; simp
    · have e1 : (x == b) = false := by simp [h1]
      have e2 : (b == x) = false := by simp; exact fun e => h1 e.symm
      rw [e1, e2, Bool.false_or, ← ih]
      simp only [Bool.false_eq_true, if_false]
      by_cases h2 : Lib.indexByte l b = -1
      · rw [h2]; rfl
      · have e3 : (Lib.indexByte l b == -1) = false := by simp [h2]
        rw [e3]
        simp only [Bool.false_eq_true, if_false]
        exact decide_eq_decide.2 (by omega)
def alsoS : ByteArray := ⟨#[95, 45, 46, 47, 58, 44, 43, 61, 64, 37]⟩
set_option maxRecDepth 100000 in
set_option maxHeartbeats 4000000 in
theorem bare_r (s : ByteArray) (w : World) (hs : s.size ≤ 1099511627776) : Calls Tryd.prog 33 #[.string s] w fun e w' => e = .returned (.bool (plL (un s))) ∧ w' = w := by
  have hsl := un_length s
  go_enter Tryd.func33, Tryd.ntmps33
  go_wp2
  go_loop [3, 4, 5, 6, 7] (fun i _ _ _ _ => ∃ k : Nat, k ≤ s.size ∧ i = .int .i64 k ∧ Hid ((un s).take k |>.all plB)) (fun i _ _ _ _ => s.size - (intOf i).toNat)
  case atStart => exact ⟨0, Nat.zero_le _, rfl, by simp [Hid]⟩
  case round =>
    obtain ⟨k, hk, rfl, HA⟩ := hrel
    by_cases hlt : k < s.size
    · have hget := un_getElem? s k hlt
      have k0 : (0 : Int) ≤ (k : Int) := by omega
      have k1 : (k : Int) < (s.size : Int) := by omega
      have HF : Hid (plB s[k] = false → plL (un s) = false) := by
        intro hb
        unfold plL
        rw [Bool.and_eq_false_iff]; left
        rw [List.all_eq_false]
        exact ⟨s[k], List.mem_of_getElem? hget, by rw [hb]; decide⟩
      have HA2 : Hid (plB s[k] = true → ((un s).take (k + 1)).all plB = true) := by
        intro hb
        rw [List.take_add_one, hget, List.all_append, HA.out]; simp [hb]
      clear hget
      generalize hbk : s[k] = b at *
      have HP : Hid (plB b = ((decide ((65 : Int) ≤ b.toNat) && decide ((b.toNat : Int) ≤ 90)) || (decide ((97 : Int) ≤ b.toNat) && decide ((b.toNat : Int) ≤ 122)) || (decide ((48 : Int) ≤ b.toNat) && decide ((b.toNat : Int) ≤ 57)) || alsoL.contains b)) := by
        unfold Hid plB
        rw [idx_mem]
        have a1 : decide ((65 : Int) ≤ b.toNat) = decide (65 ≤ b.toNat) := decide_eq_decide.2 (by omega)
        have a2 : decide ((b.toNat : Int) ≤ 90) = decide (b.toNat ≤ 90) := decide_eq_decide.2 (by omega)
        have a3 : decide ((97 : Int) ≤ b.toNat) = decide (97 ≤ b.toNat) := decide_eq_decide.2 (by omega)
        have a4 : decide ((b.toNat : Int) ≤ 122) = decide (b.toNat ≤ 122) := decide_eq_decide.2 (by omega)
        have a5 : decide ((48 : Int) ≤ b.toNat) = decide (48 ≤ b.toNat) := decide_eq_decide.2 (by omega)
        have a6 : decide ((b.toNat : Int) ≤ 57) = decide (b.toNat ≤ 57) := decide_eq_decide.2 (by omega)
        rw [a1, a2, a3, a4, a5, a6]
      have hcases : (b.toNat : Int) < 48 ∨ ((48 : Int) ≤ b.toNat ∧ (b.toNat : Int) ≤ 57) ∨ ((58 : Int) ≤ b.toNat ∧ (b.toNat : Int) ≤ 64) ∨ ((65 : Int) ≤ b.toNat ∧ (b.toNat : Int) ≤ 90) ∨ ((91 : Int) ≤ b.toNat ∧ (b.toNat : Int) ≤ 96) ∨ ((97 : Int) ≤ b.toNat ∧ (b.toNat : Int) ≤ 122) ∨ (123 : Int) ≤ b.toNat := by omega
      rcases hcases with h | ⟨h, h'⟩ | ⟨h, h'⟩ | ⟨h, h'⟩ | ⟨h, h'⟩ | ⟨h, h'⟩ | h
      all_goals first | have c1 : (65 : Int) ≤ b.toNat := by omega | have c1 : ¬ (65 : Int) ≤ b.toNat := by omega
      all_goals first | have c2 : (b.toNat : Int) ≤ 90 := by omega | have c2 : ¬ (b.toNat : Int) ≤ 90 := by omega
      all_goals first | have c3 : (97 : Int) ≤ b.toNat := by omega | have c3 : ¬ (97 : Int) ≤ b.toNat := by omega
      all_goals first | have c4 : (b.toNat : Int) ≤ 122 := by omega | have c4 : ¬ (b.toNat : Int) ≤ 122 := by omega
      all_goals first | have c5 : (48 : Int) ≤ b.toNat := by omega | have c5 : ¬ (48 : Int) ≤ b.toNat := by omega
      all_goals first | have c6 : (b.toNat : Int) ≤ 57 := by omega | have c6 : ¬ (b.toNat : Int) ≤ 57 := by omega
      all_goals
        have HR := HP.out
        simp only [c1, c2, c3, c4, c5, c6, decide_true, decide_false, Bool.and_true, Bool.and_false, Bool.true_or, Bool.false_or, Bool.or_true, Bool.or_false, Bool.and_self, Bool.or_self] at HR
        have HRH : Hid _ := HR
        clear HP HR
        go_wp2
        go_loop [5, 7] (fun o j => ∃ (q : Nat) (m : Bool), q ≤ 10 ∧ j = .int .i64 q ∧ o = .bool m ∧ Hid (m = true → plB b = true) ∧ Hid (m = false → plB b = (alsoL.drop q).contains b)) (fun _ j => 10 - (intOf j).toNat)
        case atStart => first | exact ⟨0, false, by omega, rfl, rfl, fun h => (by cases h), fun _ => HRH.out⟩ | exact ⟨0, true, by omega, rfl, rfl, fun _ => HRH.out, fun h => (by cases h)⟩
        case round =>
          clear HRH
          obtain ⟨q, m, hq, rfl, rfl, HM1, HM2⟩ := hrel
          by_cases hq2 : q < 10
          · have hqs : q < alsoS.size := hq2
            have q0 : (0 : Int) ≤ (q : Int) := by omega
            have q1 : (q : Int) < 10 := by omega
            have hg := un_getElem? alsoS q hqs
            have HD : Hid (alsoL.drop q = alsoS[q] :: alsoL.drop (q + 1)) := by
              unfold Hid
              have hl : q < alsoL.length := hq2
              rw [List.drop_eq_getElem_cons hl]
              rw [show un alsoS = alsoL from rfl, List.getElem?_eq_getElem hl] at hg
              rw [Option.some.inj hg]
            have hcm := beq_u88 b alsoS[q]
            clear hg
            cases m
            · have HM3 : Hid (plB b = (decide (b = alsoS[q]) || (alsoL.drop (q + 1)).contains b)) := by
                unfold Hid; rw [HM2.out rfl, HD.out, List.contains_cons]; rfl
              generalize decide (b = alsoS[q]) = z at *
              go_wp2
              first
                | exact ⟨⟨q + 1, z, by omega, by go_num, congrArg Value.bool hcm, fun h => by rw [HM3.out, h]; rfl, fun h => by rw [HM3.out, h]; rfl⟩, by simp [intOf]; omega⟩
                | (go_round
                   case rel => exact ⟨q + 1, z, by omega, by go_num, congrArg Value.bool hcm, fun h => by rw [HM3.out, h]; rfl, fun h => by rw [HM3.out, h]; rfl⟩
                   case measure => simp [intOf]; omega)
            · go_wp2
              first
                | exact ⟨⟨q + 1, true, by omega, by go_num, rfl, HM1, fun h => (by cases h)⟩, by simp [intOf]; omega⟩
                | (go_round
                   case rel => exact ⟨q + 1, true, by omega, by go_num, rfl, HM1, fun h => (by cases h)⟩
                   case measure => simp [intOf]; omega)
          · obtain rfl : q = 10 := by omega
            cases m
            · have HX : Hid (plL (un s) = false) := HF.out (HM2.out rfl)
              go_wp2
              go_ret
              exact ⟨by rw [HX.out]; rfl, rfl⟩
            · have HX : Hid (((un s).take (k + 1)).all plB = true) := HA2.out (HM1.out rfl)
              go_wp2
              first
                | exact ⟨⟨k + 1, by omega, by go_num, HX⟩, by simp [intOf]; omega⟩
                | (go_round
                   case rel => exact ⟨k + 1, by omega, by go_num, HX⟩
                   case measure => simp [intOf]; omega)
    · obtain rfl : k = s.size := by omega
      have HE : Hid (plL (un s) = !s.toList.isEmpty) := by
        unfold Hid plL
        have := HA.out
        rw [← hsl, List.take_length] at this
        rw [this, toList_un]; rfl
      cases hem : s.toList.isEmpty
      all_goals
        rw [hem] at HE
        go_wp2
        go_ret
        exact ⟨by rw [HE.out]; rfl, rfl⟩
end Go.Proofs.YtmnggnmgiflhjaaDoor
