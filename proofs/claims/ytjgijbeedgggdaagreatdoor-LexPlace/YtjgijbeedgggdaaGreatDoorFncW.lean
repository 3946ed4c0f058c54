/- The program's firstNoCharacter. -/
import Derived.Test.YtjgijbeedgggdaaGreatDoorDecM
import Derived.Test.YtjgijbeedgggdaaGreatDoorCwW
namespace Go.Proofs.YtjgijbeedgggdaaGreatDoor
open Go Go.RowKit

/-- How many bytes of a text are whole characters. -/
def vpN : Nat → Ln → Nat
  | 0, _ => 0
  | fu + 1, x => if chrN x = 0 then 0 else chrN x + vpN fu (x.drop (chrN x))
theorem get_bs (x : Ln) (i : Nat) : (bs x).get! i = x.getD i 0 := by
  simp [bs, ByteArray.get!, List.getD]; rfl
theorem decode_bs (x : Ln) (b0 : UInt8) (r : Ln) (hx : x = b0 :: r) : (chrN x = 0 → Lib.decodeGo (bs x) = (65533, 1)) ∧ (0 < chrN x → (Lib.decodeGo (bs x)).2 = chrN x ∧ (chrN x = 1 → (Lib.decodeGo (bs x)).1 < 128)) := by
  have h0 : (bs x).size ≠ 0 := by rw [size_bs, hx]; simp
  have e : Lib.decodeGo (bs x) = Lib.decodeN x.length b0.toNat (x.getD 1 0).toNat (x.getD 2 0).toNat (x.getD 3 0).toNat := by
    unfold Lib.decodeGo
    rw [if_neg h0, Lib.decode_at, get_bs, get_bs, get_bs, get_bs, size_bs]
    rw [show x.getD 0 0 = b0 by rw [hx]; rfl]; rfl
  rw [e, chr_x x b0 r hx]
  exact dec_chr _ _ _ _ _ (UInt8.toNat_lt _) (UInt8.toNat_lt _) (UInt8.toNat_lt _) (UInt8.toNat_lt _)
theorem chr_le (x : Ln) : chrN x ≤ x.length := by
  rcases Nat.eq_zero_or_pos (chrN x) with h | h
  · omega
  · exact (chrN_cont x h).1
set_option maxRecDepth 100000 in
set_option maxHeartbeats 1000000 in
theorem fnc_p (s : ByteArray) (w : World) (hTb : ∀ W, Below w.heap.size w W → Tabs W) (hs : s.size ≤ 1099511627776) : Calls Tryz.prog 85 #[.string s] w fun e w' => e = .returned (.int .i64 (vpN s.size (un s))) ∧ Below w.heap.size w w' := by
  go_enter Tryz.func85, Tryz.ntmps85
  go_wp2
  go_loopw [3] (fun v wr => ∃ k fu : Nat, v = .int .i64 k ∧ k ≤ s.size ∧ s.size ≤ fu + k ∧ vpN s.size (un s) = k + vpN fu ((un s).drop k) ∧ Below w.heap.size w wr) (fun v _ => s.size - (intOf v).toNat)
  case atStart => exact ⟨0, s.size, rfl, Nat.zero_le _, by omega, by simp, Below.refl _ _⟩
  case round =>
    obtain ⟨k, fu, rfl, hk, hfu, hI, hB⟩ := hrel
    replace hI : Hid _ := hI
    rcases Nat.lt_or_ge k s.size with hlt | hge
    · obtain ⟨b0, r0, hx⟩ : ∃ b0 r0, (un s).drop k = b0 :: r0 := by
        cases hq : (un s).drop k with
        | nil => have := congrArg List.length hq; rw [List.length_drop, un_length, List.length_nil] at this; omega
        | cons b r => exact ⟨b, r, rfl⟩
      obtain ⟨h1, h2⟩ := decode_bs ((un s).drop k) b0 r0 hx
      have hcl := chr_le ((un s).drop k)
      rw [List.length_drop, un_length] at hcl
      have hDe := Tryz.utf8_DecodeRuneInString (bs ((un s).drop k)) wr (hTb wr hB).1
      have HX := ext_end s k
      clear hx
      have d0 : (0 : Int) ≤ (k : Int) := by omega
      have d1 : (k : Int) ≤ (s.size : Int) := by omega
      have d2 : (k : Int) < (s.size : Int) := by omega
      obtain ⟨fu1, rfl⟩ : ∃ f, fu = f + 1 := ⟨fu - 1, by omega⟩
      rcases Nat.eq_zero_or_pos (chrN ((un s).drop k)) with hz | hp
      · rw [h1 hz] at hDe
        have hv : Hid (vpN s.size (un s) = k) := by unfold Hid; rw [hI.out, vpN, if_pos hz]; omega
        clear h1 h2 hI hz hcl
        generalize bs ((un s).drop k) = E at *
        go_wp2_with (go_at_call 126; refine hDe.mono ?_; rintro e w1 ⟨rfl, b1⟩)
        go_ret
        rw [hv.out]
        exact ⟨rfl, below_join hB b1⟩
      · obtain ⟨h3, h4⟩ := h2 hp
        have hv : Hid (vpN s.size (un s) = (k + chrN ((un s).drop k)) + vpN fu1 ((un s).drop (k + chrN ((un s).drop k)))) := by
          unfold Hid; rw [hI.out, vpN, if_neg (by omega), List.drop_drop]; omega
        generalize hC : chrN ((un s).drop k) = C at *
        generalize hG1 : (Lib.decodeGo (bs ((un s).drop k))).1 = G1 at *
        rw [h3] at hDe
        have hw1 : IntKind.i64.wrap ((k : Int) + (C : Int)) = ((k + C : Nat) : Int) := by rw [wrap_small _ (by omega) (by omega)]; omega
        clear h1 h2 h3 hI hC hG1
        generalize bs ((un s).drop k) = E at *
        by_cases hr : G1 = 65533
        · have e1 : ((G1 : Int) == 65533) = true := by rw [hr]; rfl
          have e2 : ((C : Int) == 1) = false := by
            have : C ≠ 1 := fun e => by have := h4 e; omega
            simp; omega
          have e3 : (C == 1) = false := by
            have : C ≠ 1 := fun e => by have := h4 e; omega
            simp [this]
          have e4 : ¬ C = 1 := fun e => by have := h4 e; omega
          clear hr h4
          go_wp2_with (go_at_call 126; refine hDe.mono ?_; rintro e w1 ⟨rfl, b1⟩)
          go_roundw
          case rel => exact ⟨k + C, fu1, by go_num, by omega, by omega, hv.out, below_join hB b1⟩
          case measure => simp [intOf]; omega
        · have e1 : ((G1 : Int) == 65533) = false := by simp; omega
          have e2 : ¬ (G1 : Int) = 65533 := by omega
          clear h4
          go_wp2_with (go_at_call 126; refine hDe.mono ?_; rintro e w1 ⟨rfl, b1⟩)
          go_roundw
          case rel => exact ⟨k + C, fu1, by go_num, by omega, by omega, hv.out, below_join hB b1⟩
          case measure => simp [intOf]; omega
    · obtain rfl : k = s.size := by omega
      have d2 : ¬ (s.size : Int) < (s.size : Int) := by omega
      have hv : Hid (vpN s.size (un s) = s.size) := by
        unfold Hid
        rw [hI.out, List.drop_of_length_le (by rw [un_length]; omega)]
        cases fu with
        | zero => rfl
        | succ f => rw [vpN]; rfl
      replace hI : True := trivial
      go_wp2
      go_ret
      rw [hv.out]
      exact ⟨rfl, hB⟩
end Go.Proofs.YtjgijbeedgggdaaGreatDoor
