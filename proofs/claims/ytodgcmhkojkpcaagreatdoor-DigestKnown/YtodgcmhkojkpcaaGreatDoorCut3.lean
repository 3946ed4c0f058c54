/- Package digest's cutLength, cutPiece, Cut. -/
import Derived.Test.YtodgcmhkojkpcaaGreatDoorLists
import Derived.Test.YtodgcmhkojkpcaaGreatDoorPieceM
import Derived.Test.YtodgcmhkojkpcaaGreatDoorShelf
namespace Go.Proofs.YtodgcmhkojkpcaaGreatDoor
open Go Go.RowKit

theorem own_drawn {A : World} {base e size n : Nat} {v : Value} {xs : List Value} (h : A.ownsRow base e size v n xs) (k : Nat) : (A.drewN k).ownsRow base e size v n xs := h
/-- The first k signs of a text are digits. -/
theorem take_dig (s : ByteArray) (k : Nat) (hk : k < s.size) (h : isDig s[k] = true) (ha : ∀ c ∈ (un s).take k, isDig c = true) : ∀ c ∈ (un s).take (k + 1), isDig c = true := by
  intro c hc
  rw [List.take_add_one, un_getElem? s k hk] at hc
  rcases List.mem_append.1 hc with h1 | h1
  · exact ha c h1
  · simp at h1; rw [h1]; exact h
theorem digits_stop (s : ByteArray) (k : Nat) (ha : ∀ c ∈ (un s).take k, isDig c = true) (hk : k ≤ 10) (hs : k ≤ s.size) (hend : k = 10 ∨ k = s.size ∨ ∃ h : k < s.size, isDig s[k] = false) : digits (un s) = (un s).take k := by
  have hl : ((un s).take k).length = k := by rw [List.length_take, un_length]; omega
  unfold digits
  have e : (un s).take 10 = (un s).take k ++ ((un s).take 10).drop k := by
    conv => lhs; rw [← List.take_append_drop k ((un s).take 10)]
    rw [List.take_take, Nat.min_eq_left hk]
  rw [e]
  apply takeWhile_all
  · exact ha
  · intro c hc
    rw [List.getElem?_drop, Nat.add_zero, List.getElem?_take] at hc
    split at hc
    · rename_i h10
      rcases hend with h | h | ⟨h, hd⟩
      · omega
      · rw [List.getElem?_eq_none (by rw [un_length]; omega)] at hc; cases hc
      · rw [un_getElem? s k h] at hc
        cases hc; exact hd
    · cases hc
theorem numV_take (s : ByteArray) (k : Nat) (hk : k < s.size) : numV ((un s).take (k + 1)) = numV ((un s).take k) * 10 + (s[k].toNat - 48) := by
  rw [List.take_add_one, un_getElem? s k hk]; exact numV_snoc _ _
theorem numV_bound : ∀ ds : List UInt8, (∀ c ∈ ds, isDig c = true) → numV ds < 10 ^ ds.length := by
  intro ds
  induction h : ds.length generalizing ds with
  | zero => intro _; rw [List.length_eq_zero_iff.1 h]; simp [numV]
  | succ k ih =>
    intro hd
    have hne : ds ≠ [] := fun e => by rw [e] at h; simp at h
    obtain ⟨es, c, rfl⟩ : ∃ es c, ds = es ++ [c] := ⟨ds.dropLast, ds.getLast hne, (List.dropLast_concat_getLast hne).symm⟩
    have h1 := ih es (by simp at h; omega) (fun x hx => hd x (by simp [hx]))
    have hc := (isDig_iff c).1 (hd c (by simp))
    rw [numV_snoc, Nat.pow_succ]; omega

theorem head_colon (s : ByteArray) (k : Nat) : Lib.hasPrefix (s.extract k s.size).data.toList (⟨#[58]⟩ : ByteArray).data.toList = decide ((un s)[k]? = some 58) := by
  have e : (s.extract k s.size).data.toList = (un s).drop k := by
    show un (s.extract k s.size) = _
    rw [un_extract, List.take_of_length_le (by rw [un_length]; omega)]
  have e2 : (⟨#[58]⟩ : ByteArray).data.toList = [58] := rfl
  rw [e, e2, show (un s)[k]? = ((un s).drop k)[0]? by rw [List.getElem?_drop, Nat.add_zero]]
  cases (un s).drop k with
  | nil => rfl
  | cons x xs => simp [Lib.hasPrefix, List.isPrefixOf]; rw [Bool.eq_iff_iff, beq_iff_eq, decide_eq_true_eq]; exact eq_comm
/-- What cutLength owes. -/
def LengthPost (s : ByteArray) (w : World) (e : Ending) (w' : World) : Prop :=
  (match lengthL (un s) with
  | some (n, r) => e = .returned (.tuple #[.int .i64 n, .string (bs r), .bool true])
  | none => e = .returned (.tuple #[.int .i64 0, .string ⟨#[]⟩, .bool false])) ∧ ∃ k, w' = w.drewN k

set_option maxRecDepth 100000 in
set_option maxHeartbeats 8000000 in
theorem cutLength_p (s : ByteArray) (w : World) (hz : s.size ≤ 140737488355328) : Calls Tryz.prog 70 #[.string s] w (LengthPost s w) := by
  go_enter Tryz.func70, Tryz.ntmps70
  go_wp2
  go_loop [5, 6] (fun v n => ∃ k : Nat, k ≤ 10 ∧ k ≤ s.size ∧ n = .int .i64 k ∧ v = .int .i64 (numV ((un s).take k)) ∧ ∀ c ∈ (un s).take k, isDig c = true) (fun _ n => 10 - (intOf n).toNat)
  case atStart => exact ⟨0, by omega, by omega, rfl, rfl, fun c h => by simp at h⟩
  case round =>
    obtain ⟨k, hk, hks, rfl, rfl, ha⟩ := hrel
    have hnb := numV_bound _ ha
    rw [List.length_take, un_length, Nat.min_eq_left hks] at hnb
    have hnb2 : numV ((un s).take k) < 10000000000 := Nat.lt_of_lt_of_le hnb (Nat.le_trans (Nat.pow_le_pow_right (by omega) hk) (by decide))
    by_cases hgo : k < 10 ∧ ∃ h : k < s.size, isDig s[k] = true
    · obtain ⟨h10, hlt, hd⟩ := hgo
      have hd2 := (isDig_iff _).1 hd
      have HT : Hid (∀ c ∈ (un s).take (k + 1), isDig c = true) := take_dig s k hlt hd ha
      have HN : Hid (numV ((un s).take (k + 1)) = numV ((un s).take k) * 10 + (s[k].toNat - 48)) := numV_take s k hlt
      have hnb3 : numV ((un s).take k) < 1000000000 := Nat.lt_of_lt_of_le hnb (Nat.le_trans (Nat.pow_le_pow_right (by omega) (show k ≤ 9 by omega)) (by decide))
      generalize numV ((un s).take k) = m at *
      have d1 : (0 : Int) ≤ (k : Int) := by omega
      have d2 : (k : Int) < (s.size : Int) := by omega
      have d3 : (48 : Int) ≤ (s[k].toNat : Int) := by omega
      have d4 : (s[k].toNat : Int) ≤ 57 := by omega
      have d5 : (k : Int) < 10 := by omega
      clear ha hd hd2 hnb
      go_wp2
      exact ⟨⟨k + 1, by omega, by omega, by go_num, by rw [HN.out]; go_num, HT.out⟩, by simp [intOf]; omega⟩
    · have HD : Hid (digits (un s) = (un s).take k) := by
        refine digits_stop s k ha hk hks ?_
        by_cases h1 : k = 10
        · exact .inl h1
        · by_cases h2 : k = s.size
          · exact .inr (.inl h2)
          · exact .inr (.inr ⟨by omega, Bool.eq_false_iff.2 fun e => hgo ⟨by omega, by omega, e⟩⟩)
      have hdl : (digits (un s)).length = k := by rw [HD.out, List.length_take, un_length]; omega
      have HL : Hid (lengthL (un s) = if k = 0 ∨ (1 < k ∧ (un s)[0]? = some 48) ∨ (un s)[k]? ≠ some 58 then none else some (numV ((un s).take k), (un s).drop (k + 1))) := by
        unfold Hid lengthL
        rw [hdl, HD.out]
        have e0 : ((un s).take k = []) = (k = 0) := by rw [← List.length_eq_zero_iff, List.length_take, un_length]; exact propext ⟨fun h => by omega, fun h => by omega⟩
        simp only [e0]
      have hpre := fun W => Tryz.strings_HasPrefix (s.extract k s.size) ⟨#[58]⟩ W
      have hpe : Lib.hasPrefix (s.extract k s.size).data.toList (⟨#[58]⟩ : ByteArray).data.toList = decide ((un s)[k]? = some 58) := head_colon s k
      rw [hpe] at hpre
      have hze : (s.extract k s.size).size = s.size - k := size_extract' s k s.size (Nat.le_refl _)
      clear hpe hdl HD ha hnb
      generalize numV ((un s).take k) = m at *
      have d1 : (0 : Int) ≤ (k : Int) := by omega
      have d2 : (k : Int) ≤ (s.size : Int) := by omega
      by_cases hin : k < s.size ∧ k < 10
      · obtain ⟨hlt, h10⟩ := hin
        have hnd : ¬ (48 ≤ s[k].toNat ∧ s[k].toNat ≤ 57) := fun e => hgo ⟨h10, hlt, (isDig_iff _).2 e⟩
        have d3 : (k : Int) < (s.size : Int) := by omega
        have d4 : (k : Int) < 10 := by omega
        clear hgo
        by_cases hlow : 48 ≤ s[k].toNat
        · have d5 : (48 : Int) ≤ (s[k].toNat : Int) := by omega
          have d6 : ¬ (s[k].toNat : Int) ≤ 57 := by omega
          clear hnd hlow
          by_cases hA : k = 0
          · have HP : Hid (lengthL (un s) = none) := by unfold Hid; rw [HL.out, if_pos (.inl hA)]
            have f1 : (k : Int) = 0 := by omega
            subst hA
            clear HL hpre
            go_wp2
            go_ret3
            unfold LengthPost
            rw [HP.out]
            exact ⟨rfl, 0, rfl⟩
          · have hs0 : 0 < s.size := by omega
            have hz0 := un_getElem? s 0 hs0
            have f1 : ¬ (k : Int) = 0 := by omega
            have f2 : (0 : Int) < (s.size : Int) := by omega
            by_cases hB : 1 < k ∧ (un s)[0]? = some 48
            · have HP : Hid (lengthL (un s) = none) := by unfold Hid; rw [HL.out, if_pos (.inr (.inl hB))]
              have f3 : (1 : Int) < (k : Int) := by omega
              have f4 : (s[0].toNat : Int) = 48 := by have h := hz0.symm.trans hB.2; rw [Option.some.inj h]; rfl
              clear HL hpre hB hz0
              go_wp2
              go_ret3
              unfold LengthPost
              rw [HP.out]
              exact ⟨rfl, 0, rfl⟩
            · have f3 : ¬ ((1 : Int) < (k : Int) ∧ (s[0].toNat : Int) = 48) := fun h => hB ⟨by omega, by rw [hz0]; congr 1; exact UInt8.toNat_inj.1 (by have := h.2; have e : (48 : UInt8).toNat = 48 := rfl; omega)⟩
              by_cases hC : (un s)[k]? = some 58
              · have HP : Hid (lengthL (un s) = some (m, (un s).drop (k + 1))) := by unfold Hid; rw [HL.out, if_neg (by rintro (h | h | h); exact hA h; exact hB h; exact h hC)]
                have hks2 : k < s.size := by have := (List.getElem?_eq_some_iff.1 hC).1; rwa [un_length] at this
                have HE : Hid (s.extract (k + 1) s.size = bs ((un s).drop (k + 1))) := un_inj (by rw [un_bs, un_extract, List.take_of_length_le (by rw [un_length]; omega)])
                have f5 : (k : Int) + 1 ≤ (s.size : Int) := by omega
                simp only [hC, decide_true] at hpre
                clear HL hC hz0 hB
                by_cases hk1 : 1 < k
                · have f6 : ((s[0].toNat : Int) == 48) = false := beq_false_of_ne fun h => f3 ⟨by omega, h⟩
                  have f7 : (1 : Int) < (k : Int) := by omega
                  clear f3
                  go_wp2_with (go_at_call 84; refine (hpre _).mono ?_; rintro e w1 ⟨rfl, rfl⟩)
                  go_region
                  go_wp2
                  go_ret3
                  unfold LengthPost
                  rw [HP.out]
                  refine ⟨?_, 1, rfl⟩
                  simp only [HE.out]
                  rfl
                · have f7 : ¬ (1 : Int) < (k : Int) := by omega
                  clear f3
                  go_wp2_with (go_at_call 84; refine (hpre _).mono ?_; rintro e w1 ⟨rfl, rfl⟩)
                  go_region
                  go_wp2
                  go_ret3
                  unfold LengthPost
                  rw [HP.out]
                  refine ⟨?_, 1, rfl⟩
                  simp only [HE.out]
                  rfl
              · have HP : Hid (lengthL (un s) = none) := by unfold Hid; rw [HL.out, if_pos (.inr (.inr hC))]
                simp only [hC, decide_false] at hpre
                clear HL hC hz0 hB
                by_cases hk1 : 1 < k
                · have f6 : ((s[0].toNat : Int) == 48) = false := beq_false_of_ne fun h => f3 ⟨by omega, h⟩
                  have f7 : (1 : Int) < (k : Int) := by omega
                  clear f3
                  go_wp2_with (go_at_call 84; refine (hpre _).mono ?_; rintro e w1 ⟨rfl, rfl⟩)
                  go_ret3
                  unfold LengthPost
                  rw [HP.out]
                  exact ⟨rfl, 0, rfl⟩
                · have f7 : ¬ (1 : Int) < (k : Int) := by omega
                  clear f3
                  go_wp2_with (go_at_call 84; refine (hpre _).mono ?_; rintro e w1 ⟨rfl, rfl⟩)
                  go_ret3
                  unfold LengthPost
                  rw [HP.out]
                  exact ⟨rfl, 0, rfl⟩
        · have d5 : ¬ (48 : Int) ≤ (s[k].toNat : Int) := by omega
          clear hnd hlow
          by_cases hA : k = 0
          · have HP : Hid (lengthL (un s) = none) := by unfold Hid; rw [HL.out, if_pos (.inl hA)]
            have f1 : (k : Int) = 0 := by omega
            subst hA
            clear HL hpre
            go_wp2
            go_ret3
            unfold LengthPost
            rw [HP.out]
            exact ⟨rfl, 0, rfl⟩
          · have hs0 : 0 < s.size := by omega
            have hz0 := un_getElem? s 0 hs0
            have f1 : ¬ (k : Int) = 0 := by omega
            have f2 : (0 : Int) < (s.size : Int) := by omega
            by_cases hB : 1 < k ∧ (un s)[0]? = some 48
            · have HP : Hid (lengthL (un s) = none) := by unfold Hid; rw [HL.out, if_pos (.inr (.inl hB))]
              have f3 : (1 : Int) < (k : Int) := by omega
              have f4 : (s[0].toNat : Int) = 48 := by have h := hz0.symm.trans hB.2; rw [Option.some.inj h]; rfl
              clear HL hpre hB hz0
              go_wp2
              go_ret3
              unfold LengthPost
              rw [HP.out]
              exact ⟨rfl, 0, rfl⟩
            · have f3 : ¬ ((1 : Int) < (k : Int) ∧ (s[0].toNat : Int) = 48) := fun h => hB ⟨by omega, by rw [hz0]; congr 1; exact UInt8.toNat_inj.1 (by have := h.2; have e : (48 : UInt8).toNat = 48 := rfl; omega)⟩
              by_cases hC : (un s)[k]? = some 58
              · have HP : Hid (lengthL (un s) = some (m, (un s).drop (k + 1))) := by unfold Hid; rw [HL.out, if_neg (by rintro (h | h | h); exact hA h; exact hB h; exact h hC)]
                have hks2 : k < s.size := by have := (List.getElem?_eq_some_iff.1 hC).1; rwa [un_length] at this
                have HE : Hid (s.extract (k + 1) s.size = bs ((un s).drop (k + 1))) := un_inj (by rw [un_bs, un_extract, List.take_of_length_le (by rw [un_length]; omega)])
                have f5 : (k : Int) + 1 ≤ (s.size : Int) := by omega
                simp only [hC, decide_true] at hpre
                clear HL hC hz0 hB
                by_cases hk1 : 1 < k
                · have f6 : ((s[0].toNat : Int) == 48) = false := beq_false_of_ne fun h => f3 ⟨by omega, h⟩
                  have f7 : (1 : Int) < (k : Int) := by omega
                  clear f3
                  go_wp2_with (go_at_call 84; refine (hpre _).mono ?_; rintro e w1 ⟨rfl, rfl⟩)
                  go_region
                  go_wp2
                  go_ret3
                  unfold LengthPost
                  rw [HP.out]
                  refine ⟨?_, 1, rfl⟩
                  simp only [HE.out]
                  rfl
                · have f7 : ¬ (1 : Int) < (k : Int) := by omega
                  clear f3
                  go_wp2_with (go_at_call 84; refine (hpre _).mono ?_; rintro e w1 ⟨rfl, rfl⟩)
                  go_region
                  go_wp2
                  go_ret3
                  unfold LengthPost
                  rw [HP.out]
                  refine ⟨?_, 1, rfl⟩
                  simp only [HE.out]
                  rfl
              · have HP : Hid (lengthL (un s) = none) := by unfold Hid; rw [HL.out, if_pos (.inr (.inr hC))]
                simp only [hC, decide_false] at hpre
                clear HL hC hz0 hB
                by_cases hk1 : 1 < k
                · have f6 : ((s[0].toNat : Int) == 48) = false := beq_false_of_ne fun h => f3 ⟨by omega, h⟩
                  have f7 : (1 : Int) < (k : Int) := by omega
                  clear f3
                  go_wp2_with (go_at_call 84; refine (hpre _).mono ?_; rintro e w1 ⟨rfl, rfl⟩)
                  go_ret3
                  unfold LengthPost
                  rw [HP.out]
                  exact ⟨rfl, 0, rfl⟩
                · have f7 : ¬ (1 : Int) < (k : Int) := by omega
                  clear f3
                  go_wp2_with (go_at_call 84; refine (hpre _).mono ?_; rintro e w1 ⟨rfl, rfl⟩)
                  go_ret3
                  unfold LengthPost
                  rw [HP.out]
                  exact ⟨rfl, 0, rfl⟩
      · have d3 : ¬ (k : Int) < min (s.size : Int) 10 := by omega
        clear hgo hin
        by_cases hA : k = 0
        · have HP : Hid (lengthL (un s) = none) := by unfold Hid; rw [HL.out, if_pos (.inl hA)]
          have f1 : (k : Int) = 0 := by omega
          subst hA
          clear HL hpre
          go_wp2
          go_ret3
          unfold LengthPost
          rw [HP.out]
          exact ⟨rfl, 0, rfl⟩
        · have hs0 : 0 < s.size := by omega
          have hz0 := un_getElem? s 0 hs0
          have f1 : ¬ (k : Int) = 0 := by omega
          have f2 : (0 : Int) < (s.size : Int) := by omega
          by_cases hB : 1 < k ∧ (un s)[0]? = some 48
          · have HP : Hid (lengthL (un s) = none) := by unfold Hid; rw [HL.out, if_pos (.inr (.inl hB))]
            have f3 : (1 : Int) < (k : Int) := by omega
            have f4 : (s[0].toNat : Int) = 48 := by have h := hz0.symm.trans hB.2; rw [Option.some.inj h]; rfl
            clear HL hpre hB hz0
            go_wp2
            go_ret3
            unfold LengthPost
            rw [HP.out]
            exact ⟨rfl, 0, rfl⟩
          · have f3 : ¬ ((1 : Int) < (k : Int) ∧ (s[0].toNat : Int) = 48) := fun h => hB ⟨by omega, by rw [hz0]; congr 1; exact UInt8.toNat_inj.1 (by have := h.2; have e : (48 : UInt8).toNat = 48 := rfl; omega)⟩
            by_cases hC : (un s)[k]? = some 58
            · have HP : Hid (lengthL (un s) = some (m, (un s).drop (k + 1))) := by unfold Hid; rw [HL.out, if_neg (by rintro (h | h | h); exact hA h; exact hB h; exact h hC)]
              have hks2 : k < s.size := by have := (List.getElem?_eq_some_iff.1 hC).1; rwa [un_length] at this
              have HE : Hid (s.extract (k + 1) s.size = bs ((un s).drop (k + 1))) := un_inj (by rw [un_bs, un_extract, List.take_of_length_le (by rw [un_length]; omega)])
              have f5 : (k : Int) + 1 ≤ (s.size : Int) := by omega
              simp only [hC, decide_true] at hpre
              clear HL hC hz0 hB
              by_cases hk1 : 1 < k
              · have f6 : ((s[0].toNat : Int) == 48) = false := beq_false_of_ne fun h => f3 ⟨by omega, h⟩
                have f7 : (1 : Int) < (k : Int) := by omega
                clear f3
                go_wp2_with (go_at_call 84; refine (hpre _).mono ?_; rintro e w1 ⟨rfl, rfl⟩)
                go_region
                go_wp2
                go_ret3
                unfold LengthPost
                rw [HP.out]
                refine ⟨?_, 1, rfl⟩
                simp only [HE.out]
                rfl
              · exfalso; omega
            · have HP : Hid (lengthL (un s) = none) := by unfold Hid; rw [HL.out, if_pos (.inr (.inr hC))]
              simp only [hC, decide_false] at hpre
              clear HL hC hz0 hB
              by_cases hk1 : 1 < k
              · have f6 : ((s[0].toNat : Int) == 48) = false := beq_false_of_ne fun h => f3 ⟨by omega, h⟩
                have f7 : (1 : Int) < (k : Int) := by omega
                clear f3
                go_wp2_with (go_at_call 84; refine (hpre _).mono ?_; rintro e w1 ⟨rfl, rfl⟩)
                go_ret3
                unfold LengthPost
                rw [HP.out]
                exact ⟨rfl, 0, rfl⟩
              · have f7 : ¬ (1 : Int) < (k : Int) := by omega
                clear f3
                go_wp2_with (go_at_call 84; refine (hpre _).mono ?_; rintro e w1 ⟨rfl, rfl⟩)
                go_ret3
                unfold LengthPost
                rw [HP.out]
                exact ⟨rfl, 0, rfl⟩

/-- What cutPiece owes. -/
def PiecePost (s : ByteArray) (w : World) (e : Ending) (w' : World) : Prop :=
  (match pieceL (un s) with
  | some (t, r) => e = .returned (.tuple #[.string (bs t), .string (bs r), .bool true])
  | none => e = .returned (.tuple #[.string ⟨#[]⟩, .string ⟨#[]⟩, .bool false])) ∧ ∃ k, w' = w.drewN k
theorem length_bound {l : List UInt8} {n : Nat} {r : List UInt8} (h : lengthL l = some (n, r)) : n < 10000000000 := by
  unfold lengthL at h
  split at h
  · cases h
  · cases h
    exact Nat.lt_of_lt_of_le (numV_bound _ (digits_dig l)) (Nat.le_trans (Nat.pow_le_pow_right (by omega) (digits_length l)) (by decide))
theorem length_rest {l : List UInt8} {n : Nat} {r : List UInt8} (h : lengthL l = some (n, r)) : r.length ≤ l.length := by
  unfold lengthL at h
  split at h
  · cases h
  · cases h; simp

set_option maxRecDepth 100000 in
set_option maxHeartbeats 4000000 in
theorem cutPiece_p (s : ByteArray) (w : World) (hz : s.size ≤ 140737488355328) : Calls Tryz.prog 52 #[.string s] w (PiecePost s w) := by
  have hc := fun W => cutLength_p s W hz
  unfold LengthPost at hc
  cases hL : lengthL (un s) with
  | none =>
    have HP : Hid (pieceL (un s) = none) := by unfold Hid pieceL; rw [hL]
    rw [hL] at hc
    clear hL
    go_enter Tryz.func52, Tryz.ntmps52
    go_wp2_with (go_at_call 70; refine (hc _).mono ?_; rintro e w1 ⟨rfl, k, rfl⟩)
    go_ret3
    unfold PiecePost
    rw [HP.out]
    exact ⟨rfl, k, rfl⟩
  | some x =>
    obtain ⟨n, r⟩ := x
    have hn := length_bound hL
    have hr := length_rest hL
    rw [un_length] at hr
    have hrz := size_bs r
    by_cases hlt : r.length < n
    · have HP : Hid (pieceL (un s) = none) := by unfold Hid pieceL; rw [hL]; simp only [if_pos hlt]
      rw [hL] at hc
      clear hL
      have d1 : ((bs r).size : Int) < (n : Int) := by omega
      simp only at hc
      generalize bs r = b at *
      go_enter Tryz.func52, Tryz.ntmps52
      go_wp2_with (go_at_call 70; refine (hc _).mono ?_; rintro e w1 ⟨rfl, k, rfl⟩)
      go_ret3
      unfold PiecePost
      rw [HP.out]
      exact ⟨rfl, k, rfl⟩
    · have HP : Hid (pieceL (un s) = some (r.take n, r.drop n)) := by unfold Hid pieceL; rw [hL]; simp only [if_neg hlt]
      rw [hL] at hc
      clear hL
      simp only at hc
      have E1 : Hid ((bs r).extract 0 n = bs (r.take n)) := un_inj (by rw [un_extract, un_bs, un_bs]; simp)
      have E2 : Hid ((bs r).extract n r.length = bs (r.drop n)) := un_inj (by rw [un_extract, un_bs, un_bs, List.take_of_length_le (by omega)])
      have d1 : ¬ ((bs r).size : Int) < (n : Int) := by omega
      have d2 : (0 : Int) ≤ (n : Int) := by omega
      have d3 : (n : Int) ≤ ((bs r).size : Int) := by omega
      generalize bs r = b at *
      go_enter Tryz.func52, Tryz.ntmps52
      go_wp2_with (go_at_call 70; refine (hc _).mono ?_; rintro e w1 ⟨rfl, k, rfl⟩)
      go_region
      go_wp2
      go_ret3
      unfold PiecePost
      rw [HP.out]
      refine ⟨?_, k + 1, rfl⟩
      simp only [E1.out, E2.out]
      rfl

/-- What Cut owes: the texts, of which the pieces are the text; or the place where none begins. -/
def CutPost (s : ByteArray) (w : World) (e : Ending) (w' : World) : Prop :=
  ((∃ (l : List ByteArray) (u : Value), un s = laidL (l.map un) ∧ (∀ t ∈ l.map un, t.length < 10000000000) ∧ e = .returned (.tuple #[u, .nilIface]) ∧ w'.ownsRow w.heap.size 9 1 u l.length (strs l)) ∨
   (∃ (l : List ByteArray) (r : List UInt8), un s = laidL (l.map un) ++ r ∧ r ≠ [] ∧ pieceL r = none ∧ (∀ t ∈ l.map un, t.length < 10000000000) ∧ e = .returned (.tuple #[.slice none 0 0, .iface 90 (.agg #[.int .i64 4, .int .i64 0, .int .i64 (s.size - r.length : Nat)])]))) ∧ Below w.heap.size w w'
theorem piece_bound {l t r : List UInt8} (h : pieceL l = some (t, r)) : t.length < 10000000000 := by
  unfold pieceL at h
  split at h
  · cases h
  · rename_i n r0 h0
    have := length_bound h0
    split at h
    · cases h
    · cases h
      rw [List.length_take]; omega
theorem laid_le (l : List ByteArray) : l.length ≤ (laidL (l.map un)).length := by
  induction l with
  | nil => simp [laidL]
  | cons x l ih =>
    rw [List.map_cons, laidL_cons, List.length_append, List.length_cons]
    have := List.length_pos_iff.2 (pieceOf_ne (un x))
    omega

set_option maxRecDepth 100000 in
set_option maxHeartbeats 8000000 in
theorem cut_q (s : ByteArray) (w : World) (hz : s.size ≤ 140737488355328) (hn : ∀ (l : List ByteArray) (r : List UInt8), un s = laidL (l.map un) ++ r → (∀ t ∈ l.map un, t.length < 10000000000) → l.length ≤ 8796093022208) : Calls Tryz.prog 29 #[.string s] w (CutPost s w) := by
  obtain ⟨i0, hi, z0, z1, z2⟩ := info_parts str_info
  have HNN : Hid _ := hn
  clear hn
  go_enter Tryz.func29, Tryz.ntmps29
  go_wp2
  go_loopw [4, 5] (fun u r wr => ∃ (l : List ByteArray) (b : ByteArray), r = .string b ∧ un s = laidL (l.map un) ++ un b ∧ (∀ t ∈ l.map un, t.length < 10000000000) ∧ wr.ownsRow w.heap.size 9 1 u l.length (strs l) ∧ Below w.heap.size w wr) (fun _ r _ => match r with | .string b => b.size | _ => 0)
  case atStart => exact ⟨[], s, rfl, rfl, fun t h => by simp at h, World.ownsRow_nil _ _ _ _, Below.refl _ _⟩
  case round =>
    obtain ⟨l, b, rfl, hs, hb, hown, hB⟩ := hrel
    have hll := laid_le l
    have hlen := congrArg List.length hs
    rw [List.length_append, un_length, un_length] at hlen
    have hc := fun W => cutPiece_p b W (by omega)
    unfold PiecePost at hc
    cases he : b.toList.isEmpty with
    | true =>
      have hb0 := (isEmpty_iff b).1 he
      have e0 : un b = [] := List.length_eq_zero_iff.1 (by rw [un_length]; exact hb0)
      have HS : Hid (un s = laidL (l.map un)) := by unfold Hid; rw [hs, e0, List.append_nil]
      have HB : Hid _ := hb
      clear hs hb hc e0
      go_wp2
      go_ret2
      exact ⟨.inl ⟨l, _, HS.out, HB.out, rfl, hown⟩, hB⟩
    | false =>
      have hb0 := (isEmpty_false b).1 he
      cases hp : pieceL (un b) with
      | none =>
        have HS : Hid (un s = laidL (l.map un) ++ un b) := hs
        have HB : Hid (∀ t ∈ l.map un, t.length < 10000000000) := hb
        have HN : Hid (pieceL (un b) = none) := hp
        rw [hp] at hc
        simp only at hc
        have hle : b.size ≤ s.size := by omega
        have HE : Hid ((s.size : Int) - (b.size : Int) = ((s.size - (un b).length : Nat) : Int)) := by unfold Hid; rw [un_length]; omega
        clear hs hb hp hlen
        go_wp2_with (go_at_call 52; refine (hc _).mono ?_; rintro e w1 ⟨rfl, k, rfl⟩)
        go_ret2
        refine ⟨.inr ⟨l, un b, HS.out, fun e => ?_, HN.out, HB.out, ?_⟩, below_drawn hB k⟩
        · have := congrArg List.length e; rw [un_length, List.length_nil] at this; omega
        · rw [← HE.out]; rfl
      | some x =>
        obtain ⟨t, r⟩ := x
        have ht := piece_bound hp
        have hsb := pieceL_some hp
        have HS : Hid (un s = laidL ((l ++ [bs t]).map un) ++ un (bs r)) := by
          unfold Hid; rw [hs, hsb, List.map_append, List.map_cons, List.map_nil, un_bs, un_bs, laidL_snoc, List.append_assoc]
        have HB : Hid (∀ x ∈ (l ++ [bs t]).map un, x.length < 10000000000) := by
          intro x hx
          rw [List.map_append] at hx
          rcases List.mem_append.1 hx with h1 | h1
          · exact hb x h1
          · simp [un_bs] at h1; rw [h1]; exact ht
        have hrl : (bs r).size < b.size := by
          have := congrArg List.length hsb
          rw [List.length_append, un_length] at this
          have h2 := List.length_pos_iff.2 (pieceOf_ne t)
          rw [size_bs]; omega
        have hq := HNN.out _ _ HS.out HB.out
        rw [List.length_append, List.length_singleton] at hq
        have HST : Hid (strs (l ++ [bs t]) = strs l ++ [.string (bs t)]) := by unfold Hid; rw [strs_append]; rfl
        rw [hp] at hc
        simp only at hc
        clear hs hb hp hsb
        generalize bs t = tb at *
        generalize bs r = rb at *
        go_wp2_with (first
          | (go_at_call 52; refine (hc _).mono ?_; rintro e w1 ⟨rfl, k, rfl⟩)
          | (at_builtin; refine wpList_append_own _ rfl _ _ 29 rfl w.heap.size 9 i0 (.string ⟨#[]⟩) 1 16 Tryz.underlying29 hi z0 z1 z2 rfl (by decide) _ _ _ rfl (World.ownsRow.alloc (own_drawn hown k) _) ⟨wr.heap.size, 0, none⟩ 1 1 [.string tb] rfl rfl ?c1 ?c2 ?c3 ?c4 ?c5 ?_))
        case c1 =>
          intro j u hj
          rcases j with _ | j
          · simp at hj; subst hj; exact (Lies.new (wr.drewN k) _ _).cell (i := 0) rfl
          · simp at hj
        case c2 => intro u hu; simp at hu; subst hu; rfl
        case c3 => unfold maxLen; omega
        case c4 => omega
        case c5 => have := hB.size; simp; omega
        intro v' w2 hown' hg _
        go_wp2
        go_roundw
        case rel => exact ⟨l ++ [tb], rb, rfl, HS.out, HB.out, by rw [HST.out, List.length_append]; exact hown', ((below_drawn hB k).alloc hB.size _).grown hg (by have := hB.size; simp; omega) (fun r hr => (hown.lt r hr).1)⟩
        case measure => exact hrl
theorem cut_p (s : ByteArray) (w : World) (hz : s.size ≤ 1099511627776) : Calls Tryz.prog 29 #[.string s] w (CutPost s w) := by
  refine cut_q s w (by omega) (fun l r h _ => ?_)
  have hll := laid_le l
  have hlen := congrArg List.length h
  rw [List.length_append, un_length] at hlen
  omega
end Go.Proofs.YtodgcmhkojkpcaaGreatDoor
