/- The document's quote, word and Split. -/
import Derived.Test.YtmnggnmgiflhjaaDoorDocB
import Derived.Test.YtmnggnmgiflhjaaDoorDocM
import Derived.Test.YtmnggnmgiflhjaaDoorSplW
namespace Go.Proofs.YtmnggnmgiflhjaaDoor
open Go Go.RowKit

theorem isBl_39 : isBl 39 = false := by decide
theorem isBl_34 : isBl 34 = false := by decide
/-- What the document's quote answers. -/
def QuoPost (e : UInt8) (l : List UInt8) (i : Nat) (r : Int) : Prop :=
  (∃ k : Nat, r = k ∧ i < k ∧ k < l.length ∧ stA e l (k + 1) = { stA e l (i + 1) with now := 1 }) ∨ (r = -1 ∧ 3 ≤ (stA e l l.length).now ∧ (stA e l l.length).quo = (stA e l (i + 1)).quo)
set_option maxRecDepth 100000 in
set_option maxHeartbeats 4000000 in
theorem quote_d (s : ByteArray) (i : Nat) (e : UInt8) (w : World) (hs : s.size ≤ 1099511627776) (hi : i < s.size) (he : e ≠ 34 ∧ e ≠ 39) (hT : (s[i] = 39 ∧ (stA e (un s) (i + 1)).now = 3) ∨ (s[i] = 34 ∧ (stA e (un s) (i + 1)).now = 4)) :
    Calls Tryd.prog 36 #[.string s, .int .i64 i, .int .u8 e.toNat] w fun ev w' => ∃ r, ev = .returned (.int .i64 r) ∧ QuoPost e (un s) i r ∧ Below w.heap.size w w' := by
  have hsl := un_length s
  have HT : Hid ((s[i] = 39 ∧ (stA e (un s) (i + 1)).now = 3) ∨ (s[i] = 34 ∧ (stA e (un s) (i + 1)).now = 4)) := hT
  have i0 : (0 : Int) ≤ (i : Int) := by omega
  have i1 : (i : Int) < (s.size : Int) := by omega
  clear hT
  go_enter Tryd.func36, Tryd.ntmps36
  go_wp2
  go_loopw [7, 16, 25] (fun kv _ _ wr => ∃ k q : Nat, kv = .int .i64 k ∧ i + 1 ≤ k ∧ wr = w.drewN q ∧ k ≤ s.size + 1 ∧ Hid ((k ≤ s.size ∧ stA e (un s) k = stA e (un s) (i + 1)) ∨ (k = s.size + 1 ∧ 3 ≤ (stA e (un s) s.size).now ∧ (stA e (un s) s.size).quo = (stA e (un s) (i + 1)).quo))) (fun kv _ _ _ => s.size + 1 - (intOf kv).toNat)
  case atStart => exact ⟨i + 1, 0, by go_num, Nat.le_refl _, rfl, by omega, .inl ⟨by omega, rfl⟩⟩
  case round =>
    obtain ⟨k, q, rfl, hik, rfl, hks, HI⟩ := hrel
    by_cases hlt : k < s.size
    · have hget := un_getElem? s k hlt
      have HK : Hid (stA e (un s) k = stA e (un s) (i + 1)) := by
        rcases HI.out with ⟨_, h⟩ | ⟨h, _⟩
        · exact h
        · omega
      have HS : Hid (stA e (un s) (k + 1) = stepS e s[k] k (stA e (un s) (i + 1))) := by unfold Hid; rw [stA_succ _ _ _ _ hget, HK.out]
      have k0 : (0 : Int) ≤ (k : Int) := by omega
      have k1 : (k : Int) < (s.size : Int) := by omega
      have q1 := beq_u88 s[k] s[i]
      have q2 : ((s[i].toNat : Int) == 34) = decide (s[i] = 34) := beq_u8 s[i] 34 (by decide)
      have q3 := beq_u88 s[k] e
      clear HI hget
      by_cases h1 : s[k] = s[i]
      · rw [decide_eq_true h1] at q1
        have HP : Hid (QuoPost e (un s) i k) := by
          refine .inl ⟨k, rfl, by omega, by omega, ?_⟩
          rw [HS.out, h1]
          rcases HT.out with ⟨h2, h3⟩ | ⟨h2, h3⟩
          · rw [step_3 _ _ _ _ h3, if_pos h2]
          · rw [step_4 _ _ _ _ h3 (by rw [h2]; exact he.1.symm), if_pos h2]
        go_wp2
        go_quiet (fail)
        go_wp2
        go_ret
        exact ⟨_, rfl, HP.out, below_drawn (below_drawn (Below.refl _ w) _) _⟩
      · rw [decide_eq_false h1] at q1
        by_cases h2 : s[i] = 34
        · rw [decide_eq_true h2] at q2
          have hT4 : (stA e (un s) (i + 1)).now = 4 := by
            rcases HT.out with ⟨h3, _⟩ | ⟨_, h3⟩
            · rw [h3] at h2; exact absurd h2 (by decide)
            · exact h3
          have h1' : s[k] ≠ 34 := by rw [← h2]; exact h1
          by_cases h4 : s[k] = e
          · rw [decide_eq_true h4] at q3
            have HS2 : Hid (stA e (un s) (k + 1) = { stA e (un s) (i + 1) with now := 5 }) := by unfold Hid; rw [HS.out, step_4e _ _ _ _ hT4 h4]
            have HI2 : Hid ((k + 2 ≤ s.size ∧ stA e (un s) (k + 2) = stA e (un s) (i + 1)) ∨ (k + 2 = s.size + 1 ∧ 3 ≤ (stA e (un s) s.size).now ∧ (stA e (un s) s.size).quo = (stA e (un s) (i + 1)).quo)) := by
              by_cases h5 : k + 1 < s.size
              · left
                refine ⟨by omega, ?_⟩
                rw [show k + 2 = (k + 1) + 1 from rfl, stA_succ _ _ _ _ (un_getElem? s (k + 1) h5), HS2.out, step_5 _ _ _ _ rfl]
                rw [show ({ ({ stA e (un s) (i + 1) with now := 5 } : St) with now := 4 } : St) = { stA e (un s) (i + 1) with now := 4 } from rfl, ← hT4]
              · right
                have h6 : s.size = k + 1 := by omega
                refine ⟨by omega, ?_, ?_⟩
                · rw [h6, HS2.out]; show 3 ≤ 5; omega
                · rw [h6, HS2.out]
            have hTH : Hid _ := hT4
            clear HS HS2 hT4
            go_wp2
            go_quiet (fail)
            go_wp2
            go_roundw
            case rel => exact ⟨k + 2, _, by go_num, by omega, rfl, by omega, HI2⟩
            case measure => simp [intOf]; omega
          · rw [decide_eq_false h4] at q3
            have HI2 : Hid ((k + 1 ≤ s.size ∧ stA e (un s) (k + 1) = stA e (un s) (i + 1)) ∨ (k + 1 = s.size + 1 ∧ 3 ≤ (stA e (un s) s.size).now ∧ (stA e (un s) s.size).quo = (stA e (un s) (i + 1)).quo)) := .inl ⟨by omega, by rw [HS.out, step_4 _ _ _ _ hT4 h4, if_neg h1']⟩
            clear HS
            go_wp2
            go_quiet (fail)
            go_wp2
            go_roundw
            case rel => exact ⟨k + 1, _, by go_num, by omega, rfl, by omega, HI2⟩
            case measure => simp [intOf]; omega
        · rw [decide_eq_false h2] at q2
          have HI2 : Hid ((k + 1 ≤ s.size ∧ stA e (un s) (k + 1) = stA e (un s) (i + 1)) ∨ (k + 1 = s.size + 1 ∧ 3 ≤ (stA e (un s) s.size).now ∧ (stA e (un s) s.size).quo = (stA e (un s) (i + 1)).quo)) := by
            refine .inl ⟨by omega, ?_⟩
            rcases HT.out with ⟨h3, h5⟩ | ⟨h3, _⟩
            · rw [HS.out, step_3 _ _ _ _ h5, if_neg (by rw [← h3]; exact h1)]
            · exact absurd h3 h2
          clear HS
          go_wp2
          go_quiet (fail)
          go_wp2
          go_roundw
          case rel => exact ⟨k + 1, _, by go_num, by omega, rfl, by omega, HI2⟩
          case measure => simp [intOf]; omega
    · have hge : ¬ (k : Int) < (s.size : Int) := by omega
      have HP : Hid (QuoPost e (un s) i (-1)) := by
        refine .inr ⟨rfl, ?_⟩
        rw [hsl]
        rcases HI.out with ⟨h1, h2⟩ | ⟨_, h2⟩
        · obtain rfl : k = s.size := by omega
          rw [h2]
          refine ⟨?_, rfl⟩
          rcases HT.out with ⟨_, h3⟩ | ⟨_, h3⟩ <;> rw [h3] <;> omega
        · exact h2
      go_wp2
      go_ret
      exact ⟨_, rfl, HP.out, below_drawn (Below.refl _ w) _⟩
end Go.Proofs.YtmnggnmgiflhjaaDoor
