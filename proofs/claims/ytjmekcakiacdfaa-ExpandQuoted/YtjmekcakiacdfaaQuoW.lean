/- Package words' Quote, whole. -/
import Derived.Test.YtjmekcakiacdfaaQuoM
namespace Go.Proofs.Ytjmekcakiacdfaa
open Go Go.RowKit

set_option maxRecDepth 100000 in
set_option maxHeartbeats 4000000 in
theorem quote_p (s : ByteArray) (c : UInt8) (w : World) (hs : s.size ≤ 1099511627776) : Calls Try.prog 15 #[.string s, .int .u8 c.toNat] w fun e w' => e = .returned (.string (bs (quoL (escN c) (un s)))) ∧ Below w.heap.size w w' := by
  have hsl := un_length s
  cases hpl : plL (un s)
  rotate_left
  · have hp := fun W => plain_p s W hs
    rw [hpl] at hp
    have HQ : Hid (bs (quoL (escN c) (un s)) = s) := by unfold Hid quoL; rw [if_pos hpl, bs_un]
    rw [HQ.out]
    clear hpl
    go_enter Try.func15, Try.ntmps15
    go_wp2_with (go_at_call 24; refine (hp _).mono ?_; rintro e w1 ⟨rfl, hw⟩; replace hw := hw.symm; subst hw)
    go_ret
    exact ⟨rfl, Below.refl _ _⟩
  have hp := fun W => plain_p s W hs
  rw [hpl] at hp
  have HQ : Hid (quoL (escN c) (un s) = 34 :: (bodyL (escN c) (un s) ++ [34])) := by unfold Hid quoL; rw [if_neg (by rw [hpl]; decide)]
  rw [HQ.out]
  have hep := fun W => esc_p c W
  generalize escN c = x at *
  clear hpl HQ
  go_enter Try.func15, Try.ntmps15
  go_wp2_with (first | (go_at_call 24; refine (hp _).mono ?_; rintro e w1 ⟨rfl, hw⟩; replace hw := hw.symm; subst hw) | (go_at_call 25; refine (hep _).mono ?_; rintro e w1 ⟨rfl, hw⟩; replace hw := hw.symm; subst hw) | fail)
  refine (wbyte_p w.heap.size w.heap.size [] 34 _ (bld_new _ _ rfl) (by decide) (by simp)).mono ?_
  rintro e w1 ⟨rfl, h1, b1⟩
  have b2 : Below w.heap.size w w1 := ((Below.refl _ w).alloc (Nat.le_refl _) _).trans b1
  have hs1 : w.heap.size < w1.heap.size := by have := b1.size; simp at this; omega
  clear b1
  go_wp2
  go_loopw [6, 15] (fun _ i wr => ∃ k : Nat, k ≤ s.size ∧ i = .int .i64 k ∧ Bld w.heap.size w.heap.size (34 :: bodyL x ((un s).take k)) wr ∧ Below w.heap.size w wr ∧ w.heap.size < wr.heap.size) (fun _ i _ => s.size - (intOf i).toNat)
  case atStart => exact ⟨0, Nat.zero_le _, rfl, h1, b2, hs1⟩
  case round =>
    obtain ⟨k, hk, rfl, hW, hB, hsz⟩ := hrel
    have hbl := bodyL_length x ((un s).take k)
    rw [List.length_take] at hbl
    by_cases hlt : k < s.size
    · have hget := un_getElem? s k hlt
      have HS : Hid (bodyL x ((un s).take (k + 1)) = bodyL x ((un s).take k) ++ (if mrk x s[k] = true then [x, s[k]] else [s[k]])) := by
        unfold Hid; rw [List.take_add_one, hget]; exact bodyL_snoc _ _ _
      have k0 : (0 : Int) ≤ (k : Int) := by omega
      have k1 : (k : Int) < (s.size : Int) := by omega
      have q1 : ((s[k].toNat : Int) == 34) = decide (s[k] = 34) := beq_u8 s[k] 34 (by decide)
      have q2 : ((s[k].toNat : Int) == 36) = decide (s[k] = 36) := beq_u8 s[k] 36 (by decide)
      have q3 := beq_u88 s[k] x
      have HM : Hid (mrk x s[k] = (decide (s[k] = 34) || decide (s[k] = 36) || decide (s[k] = x))) := by unfold Hid mrk; rfl
      clear hget
      generalize hbb : bodyL x ((un s).take k) = bd at *
      generalize decide (s[k] = 34) = m1 at *
      generalize decide (s[k] = 36) = m2 at *
      generalize decide (s[k] = x) = m3 at *
      cases hm : (m1 || m2 || m3)
      · have HS2 : Hid (34 :: bodyL x ((un s).take (k + 1)) = (34 :: bd) ++ [s[k]]) := by unfold Hid; rw [HS.out, HM.out, hm]; rfl
        obtain ⟨⟨rfl, rfl⟩, rfl⟩ : (m1 = false ∧ m2 = false) ∧ m3 = false := by revert hm; cases m1 <;> cases m2 <;> cases m3 <;> simp
        clear HS HM hm
        go_wp2_with fail
        refine (wbyte_p _ _ _ s[k] _ hW (by simp; omega) (by omega)).mono ?_
        rintro e w2 ⟨rfl, hW2, b3⟩
        have hs2 := b3.size
        go_wp2
        exact ⟨⟨k + 1, by omega, by go_num, by rw [HS2.out]; exact hW2, hB.trans b3, by omega⟩, by simp [intOf]; omega⟩
      · have HS2 : Hid (34 :: bodyL x ((un s).take (k + 1)) = (34 :: bd) ++ [x] ++ [s[k]]) := by unfold Hid; rw [HS.out, HM.out, hm]; simp
        clear HS HM
        cases m1 <;> cases m2 <;> cases m3
        all_goals first | (exfalso; revert hm; decide) | skip
        all_goals
          clear hm
          go_wp2_with fail
          refine (wbyte_p _ _ _ x _ hW (by simp; omega) (by omega)).mono ?_
          rintro e w2 ⟨rfl, hW2, b3⟩
          have hs2 := b3.size
          go_wp2_with fail
          refine (wbyte_p _ _ _ s[k] _ hW2 (by simp; omega) (by omega)).mono ?_
          rintro e w3 ⟨rfl, hW3, b4⟩
          have hs3 := b4.size
          go_wp2
          exact ⟨⟨k + 1, by omega, by go_num, by rw [HS2.out]; exact hW3, (hB.trans b3).trans b4, by omega⟩, by simp [intOf]; omega⟩
    · obtain rfl : k = s.size := by omega
      rw [show (un s).take s.size = un s by rw [← hsl, List.take_length]] at hW hbl
      go_wp2_with fail
      refine (wbyte_p _ _ _ 34 _ hW (by simp; omega) (by omega)).mono ?_
      rintro e w2 ⟨rfl, hW2, b3⟩
      have hs2 := b3.size
      go_wp2_with fail
      refine (Try.Builder_String_any _ _ _ w2 hW2 (by omega)).mono ?_
      rintro e w3 ⟨rfl, b4⟩
      go_wp2
      go_ret
      exact ⟨rfl, (hB.trans b3).trans b4⟩
end Go.Proofs.Ytjmekcakiacdfaa
