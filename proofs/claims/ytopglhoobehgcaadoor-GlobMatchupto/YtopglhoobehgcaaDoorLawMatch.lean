/- GlobMatch, walked, at texts of at most 2^20 bytes: of every pattern and text whether it matches, or the error, is as the document's answer has it; and whether a text is a pattern. -/
import Derived.Test.YtopglhoobehgcaaDoorRefReach
import Derived.Test.YtopglhoobehgcaaDoorAnyG
import Derived.Test.YtopglhoobehgcaaDoorWorks2
namespace Go.Proofs.YtopglhoobehgcaaDoor
open Go.RowKit

set_option maxHeartbeats 1000000 in
theorem meta_p (s : ByteArray) (w : World) (hs : s.size ≤ 1048576) : Calls Tryd.prog 16 #[.string s] w fun e w' => e = .returned (.bool (Lib.containsAny (un s) [42, 63, 91])) ∧ Below w.heap.size w w' := by
  have hcall := anyOK s hs w
  go_enter Tryd.func16, Tryd.ntmps16
  go_wp2_with fail
  refine hcall.mono ?_
  rintro e w1 ⟨rfl, b1⟩
  go_wp2_with fail
  go_ret
  exact ⟨rfl, b1⟩

set_option maxHeartbeats 1000000 in
theorem meta_r (s : ByteArray) (w : World) (hs : s.size ≤ 1048576) : Calls Tryd.prog 17 #[.string s] w fun e w' => e = .returned (.bool (metaB s)) ∧ w' = w := by
  go_enter Tryd.func17, Tryd.ntmps17
  go_wp2
  go_loop [3] (fun i => ∃ k : Nat, k ≤ s.size ∧ i = .int .i64 k ∧ metaB s = ((un s).drop k).any (fun b => b == 42 || b == 63 || b == 91)) (fun i => s.size - (intOf i).toNat)
  case atStart => exact ⟨0, Nat.zero_le _, rfl, rfl⟩
  case round =>
    obtain ⟨k, hk, rfl, hm⟩ := hrel
    by_cases hlt : k < s.size
    · rw [drop_cons s k hlt, List.any_cons] at hm
      have d1 : (0 : Int) ≤ (k : Int) := by omega
      have d2 : (k : Int) < (s.size : Int) := by omega
      by_cases h1 : s[k].toNat = 42
      · have HV : Hid (metaB s = true) := by unfold Hid; rw [hm, show s[k] = 42 from UInt8.toNat_inj.1 h1]; rfl
        clear hm
        go_wp2
        go_ret
        exact ⟨by rw [HV.out]; rfl, rfl⟩
      · have e1 : ((s[k].toNat : Int) == 42) = false := by simp; omega
        by_cases h2 : s[k].toNat = 63
        · have HV : Hid (metaB s = true) := by unfold Hid; rw [hm, show s[k] = 63 from UInt8.toNat_inj.1 h2]; rfl
          clear hm
          go_wp2
          go_ret
          exact ⟨by rw [HV.out]; rfl, rfl⟩
        · have e2 : ((s[k].toNat : Int) == 63) = false := by simp; omega
          by_cases h3 : s[k].toNat = 91
          · have HV : Hid (metaB s = true) := by unfold Hid; rw [hm, show s[k] = 91 from UInt8.toNat_inj.1 h3]; rfl
            clear hm
            go_wp2
            go_ret
            exact ⟨by rw [HV.out]; rfl, rfl⟩
          · have e3 : ((s[k].toNat : Int) == 91) = false := by simp; omega
            have HV : Hid (metaB s = ((un s).drop (k + 1)).any (fun b => b == 42 || b == 63 || b == 91)) := by
              unfold Hid
              rw [hm, beq_false_of_ne (fun e => h1 (by rw [e]; rfl)), beq_false_of_ne (fun e => h2 (by rw [e]; rfl)), beq_false_of_ne (fun e => h3 (by rw [e]; rfl))]; rfl
            clear hm
            go_wp2
            go_round
            case rel => exact ⟨k + 1, by omega, by go_num, HV.out⟩
            case measure => simp [intOf]; omega
    · have HV : Hid (metaB s = false) := by unfold Hid; rw [hm, drop_end s k (by omega)]; rfl
      clear hm
      go_wp2
      go_ret
      exact ⟨by rw [HV.out]; rfl, rfl⟩

theorem any_eq : ∀ l : List UInt8, Lib.containsAny l [42, 63, 91] = l.any (fun b => b == 42 || b == 63 || b == 91)
  | [] => rfl
  | b :: l => by
    have ih := any_eq l
    have hge := Lib.indexAny_ge [42, 63, 91] l
    rw [List.any_cons, ← ih]
    unfold Lib.containsAny
    rw [Lib.indexAny]
    cases h : ([42, 63, 91] : List UInt8).contains b
    · have hb : (b == 42 || b == 63 || b == 91) = false := by simpa [Bool.or_assoc] using h
      rw [hb, Bool.false_or]
      simp only [Bool.false_eq_true, if_false]
      by_cases h1 : Lib.indexAny l [42, 63, 91] = -1
      · rw [h1]; rfl
      · rw [if_neg (by simpa using h1)]
        exact decide_eq_decide.2 (by omega)
    · have hb : (b == 42 || b == 63 || b == 91) = true := by simpa [Bool.or_assoc] using h
      rw [hb, Bool.true_or]; rfl
theorem meta_v (s : ByteArray) (w : World) (hs : s.size ≤ 1048576) : Calls Tryd.prog 16 #[.string s] w fun e w' => e = .returned (.bool (metaB s)) ∧ Below w.heap.size w w' := by
  have h := meta_p s w hs
  rw [any_eq] at h
  exact h

set_option maxRecDepth 100000 in
set_option maxHeartbeats 2000000 in
theorem match_law (pat p : ByteArray) (w : World) (hg : ErrType w) (hz : pat.size ≤ 1048576) (hp : p.size ≤ 1048576) :
    Calls Tryd.prog 4 #[.string pat, .string p] w fun e w' => e = .returned (.bool true) ∧ Below w.heap.size w w' := by
  have hm := fun W => match_p pat p W (by omega) (by omega)
  have hr := fun W => match_r pat p W (by omega) (by omega)
  have ha := fun W => meta_v pat W hz
  have hb := fun W => meta_v p W hp
  have hc := fun W => meta_r pat W hz
  have hd := fun W => meta_r p W hp
  have e1 : (matchB pat p == matchB pat p) = true := by simp
  have e2 : (metaB pat == metaB pat) = true := by simp
  have e3 : (metaB p == metaB p) = true := by simp
  generalize matchB pat p = mv at *
  generalize metaB pat = m1 at *
  generalize metaB p = m2 at *
  cases hn : (patOf pat).isNone
  · rw [perr_ok hn] at hm
    rw [hn] at hr
    simp only [Bool.false_eq_true, if_false] at hr
    clear hn
    go_enter Tryd.func4, Tryd.ntmps4
    go_wp2_with fail
    refine (hr _).mono ?_
    rintro e w1 ⟨rfl, b1⟩
    go_wp2_with fail
    refine (hm _).mono ?_
    rintro e w2 ⟨rfl, b2⟩
    replace b2 := below_join2 b1 b2
    clear b1
    go_wp2_with fail
    refine (plain_nil _).mono ?_
    rintro e w3 ⟨rfl, b3⟩
    replace b3 := below_join2 b2 b3
    clear b2
    go_wp2_with fail
    refine (ha _).mono ?_
    rintro e w4 ⟨rfl, b4⟩
    replace b4 := below_join2 b3 b4
    clear b3
    go_wp2_with fail
    refine (hc _).mono ?_
    rintro e w5 ⟨rfl, hw5⟩
    replace hw5 := hw5.symm
    subst hw5
    go_wp2_with fail
    refine (hb _).mono ?_
    rintro e w6 ⟨rfl, b6⟩
    replace b6 := below_join2 b4 b6
    clear b4
    go_wp2_with fail
    refine (hd _).mono ?_
    rintro e w7 ⟨rfl, hw7⟩
    replace hw7 := hw7.symm
    subst hw7
    go_wp2_with fail
    refine (works2_p _ (hg.below b6)).mono ?_
    rintro e w8 ⟨rfl, b8⟩
    replace b8 := below_join2 b6 b8
    go_wp2_with fail
    go_ret
    exact ⟨rfl, b8⟩
  · rw [perr_bad hn] at hm
    rw [hn] at hr
    simp only [if_true] at hr
    clear hn
    go_enter Tryd.func4, Tryd.ntmps4
    go_wp2_with fail
    refine (hr _).mono ?_
    rintro e w1 ⟨rfl, b1⟩
    go_wp2_with fail
    refine (hm _).mono ?_
    rintro e w2 ⟨rfl, b2⟩
    replace b2 := below_join2 b1 b2
    clear b1
    go_wp2_with fail
    refine (plain_some 24 (by decide) (by decide) _ (hg.below b2)).mono ?_
    rintro e w3 ⟨rfl, b3⟩
    replace b3 := below_join2 b2 b3
    clear b2
    go_wp2_with fail
    refine (ha _).mono ?_
    rintro e w4 ⟨rfl, b4⟩
    replace b4 := below_join2 b3 b4
    clear b3
    go_wp2_with fail
    refine (hc _).mono ?_
    rintro e w5 ⟨rfl, hw5⟩
    replace hw5 := hw5.symm
    subst hw5
    go_wp2_with fail
    refine (hb _).mono ?_
    rintro e w6 ⟨rfl, b6⟩
    replace b6 := below_join2 b4 b6
    clear b4
    go_wp2_with fail
    refine (hd _).mono ?_
    rintro e w7 ⟨rfl, hw7⟩
    replace hw7 := hw7.symm
    subst hw7
    go_wp2_with fail
    refine (works2_p _ (hg.below b6)).mono ?_
    rintro e w8 ⟨rfl, b8⟩
    replace b8 := below_join2 b6 b8
    go_wp2_with fail
    go_ret
    exact ⟨rfl, b8⟩
end Go.Proofs.YtopglhoobehgcaaDoor
