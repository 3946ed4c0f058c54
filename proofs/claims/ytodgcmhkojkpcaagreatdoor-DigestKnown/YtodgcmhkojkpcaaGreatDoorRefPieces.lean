/- The document's answer for laid pieces. -/
import Derived.Test.YtodgcmhkojkpcaaGreatDoorLayQ
import Derived.Test.YtodgcmhkojkpcaaGreatDoorHexM
namespace Go.Proofs.YtodgcmhkojkpcaaGreatDoor
open Go Go.RowKit

theorem dig_dec (n : Nat) (h : n < 10) : dig n = UInt8.ofNat (48 + n) := by
  have : ∀ n : Fin 10, dig n.val = UInt8.ofNat (48 + n.val) := by decide +kernel
  exact this ⟨n, h⟩
def pre (m : Nat) : List UInt8 := if m = 0 then [] else dec m
theorem dec_step (m : Nat) : dec m = pre (m / 10) ++ [dig (m % 10)] := by
  rw [dig_dec (m % 10) (by omega)]
  by_cases h : m < 10
  · have h1 : m / 10 = 0 := by omega
    have h2 : m % 10 = m := by omega
    rw [dec_small h, h1, h2]; rfl
  · have h1 : ¬ m / 10 = 0 := by omega
    rw [dec_big h]; unfold pre; rw [if_neg h1]
set_option maxHeartbeats 2000000 in
set_option maxRecDepth 100000 in
theorem number_r (n : Nat) (hn : n ≤ 1099511627776) (w : World) : Calls Tryz.prog 64 #[.int .i64 n] w fun e w' => e = .returned (.string (bs (dec n))) ∧ ∃ d, w' = w.drewN d := by
  have hl : (dec n).length ≤ 13 := dec_length n 12 (by omega)
  go_enter Tryz.func64, Tryz.ntmps64
  go_wp2
  go_loopw [0, 3] (fun mv sv wr => ∃ (m d : Nat) (t : ByteArray), m ≤ 1099511627776 ∧ mv = .int .i64 m ∧ sv = .string t ∧ wr = w.drewN d ∧ Hid ((un t = [] ∧ m = n) ∨ (un t ≠ [] ∧ dec n = pre m ++ un t))) (fun mv sv _ => (intOf mv).toNat + match sv with | .string t => if t.size = 0 then 1 else 0 | _ => 0)
  case atStart => exact ⟨n, 0, ⟨#[]⟩, hn, rfl, rfl, rfl, Or.inl ⟨rfl, rfl⟩⟩
  case round =>
    obtain ⟨m, d, t, hm, rfl, rfl, rfl, hP⟩ := hrel
    by_cases hgo : 0 < m ∨ un t = []
    · have hD : dec n = dec m ++ un t := by
        rcases hP.out with ⟨h1, rfl⟩ | ⟨h1, h2⟩
        · rw [h1, List.append_nil]
        · have h3 : ¬ m = 0 := by rcases hgo with h | h; omega; exact absurd h h1
          rw [h2]; unfold pre; rw [if_neg h3]
      have hts : t.size ≤ 13 := by
        have := congrArg List.length hD
        rw [List.length_append, un_length] at this; omega
      have e1 := dig_extract (m % 10) (by omega)
      have HT : Hid (∀ x : ByteArray, un x = [dig (m % 10)] → (un (x ++ t) ≠ [] ∧ dec n = pre (m / 10) ++ un (x ++ t))) := by
        intro x hx
        rw [un_append, hx]
        refine ⟨by simp, ?_⟩
        rw [hD, dec_step m]; simp
      clear hD hP
      have g1 : (0 : Int) ≤ (m : Int) % 10 := by omega
      have g2 : (m : Int) % 10 < 10 := by omega
      by_cases h0 : 0 < m
      · have d1 : (0 : Int) < (m : Int) := by omega
        go_wp2
        have hx := HT.out _ e1
        have hs : ¬ ((⟨#[48, 49, 50, 51, 52, 53, 54, 55, 56, 57, 97, 98, 99, 100, 101, 102]⟩ : ByteArray).extract (m % 10) (m % 10 + 1) ++ t).size = 0 := fun h => hx.1 (List.length_eq_zero_iff.1 (by rw [un_length]; exact h))
        refine ⟨⟨m / 10, d, _, by omega, by simp, rfl, rfl, Or.inr hx⟩, ?_⟩
        show ((m : Int) / 10).toNat + (if ((⟨#[48, 49, 50, 51, 52, 53, 54, 55, 56, 57, 97, 98, 99, 100, 101, 102]⟩ : ByteArray).extract (m % 10) (m % 10 + 1) ++ t).size = 0 then 1 else 0) < ((m : Int)).toNat + (if t.size = 0 then 1 else 0)
        rw [if_neg hs]
        split <;> omega
      · have hu : un t = [] := by rcases hgo with h | h; exact absurd h h0; exact h
        obtain rfl : t = ⟨#[]⟩ := un_inj hu
        obtain rfl : m = 0 := by omega
        go_wp2
        have hx := HT.out _ e1
        exact ⟨⟨0, d, _, by omega, rfl, rfl, rfl, Or.inr hx⟩, by decide⟩
    · have h0 : m = 0 := by omega
      have hu : un t ≠ [] := fun h => hgo (Or.inr h)
      have HR : Hid (t = bs (dec n)) := by
        rcases hP.out with ⟨h1, _⟩ | ⟨_, h2⟩
        · exact absurd h1 hu
        · rw [h0] at h2
          refine un_inj ?_
          rw [un_bs, h2]; rfl
      have q : (t.toList == []) = false := by
        apply Bool.eq_false_iff.2
        intro h
        apply hu
        have := beq_iff_eq.1 h
        rwa [toList_un] at this
      subst h0
      clear hgo hu hP
      go_wp2
      go_ret
      exact ⟨by rw [← HR.out]; rfl, d, rfl⟩

set_option maxHeartbeats 2000000 in
set_option maxRecDepth 100000 in
theorem pieces_r (l : List ByteArray) (v : Value) (w : World) (h : TextsAt w v l) (hL : l.length ≤ 8796093021952) (hT : tot l ≤ 1048576) : Calls Tryz.prog 43 #[v] w fun e w' => e = .returned (.string (piecesB l)) ∧ Below w.heap.size w w' := by
  obtain ⟨a, c, rfl, _, hc⟩ := h
  have HC : Hid _ := hc
  clear hc
  go_enter Tryz.func43, Tryz.ntmps43
  go_wp2
  go_loopw [3, 4] (fun sv n wr => ∃ (k : Nat) (s : ByteArray), k ≤ l.length ∧ n = .int .i64 k ∧ sv = .string s ∧ Hid (un s = laidL (uns (l.take k))) ∧ Below w.heap.size w wr) (fun _ n _ => l.length - (intOf n).toNat)
  case atStart => exact ⟨0, ⟨#[]⟩, Nat.zero_le _, rfl, rfl, rfl, Below.refl _ _⟩
  case round =>
    obtain ⟨k, s, hk, rfl, rfl, hS, hB⟩ := hrel
    have hlen := laid_bound l k hk hL hT
    rw [← hS.out, un_length] at hlen
    by_cases hlt : k < l.length
    · obtain ⟨x, hx⟩ : ∃ x, l[k]? = some x := ⟨_, List.getElem?_eq_getElem hlt⟩
      obtain ⟨b, o, rfl, hcell0⟩ := HC.out k x hx
      have hcell := (hB.cell (p := ⟨b, o + k, none⟩) (World.block_lt_of_cell? w _ hcell0)).trans hcell0
      have d3 : x.size ≤ 1048576 := by have := size_tot (List.mem_of_getElem? hx); omega
      have hdl := dec_length x.size 9 (by have : x.size < 10 ^ 10 := by omega
                                          exact this)
      have H3 : Hid (laidL (uns (l.take (k + 1))) = laidL (uns (l.take k)) ++ dec x.size ++ [58] ++ un x) := by
        unfold Hid; rw [List.take_add_one, hx, uns_append]; show laidL (uns (l.take k) ++ [un x]) = _; rw [laidL_snoc]; simp [pieceOf, un_length]
      have d1 : (0 : Int) ≤ (k : Int) := by omega
      have d2 : (k : Int) < (l.length : Int) := by omega
      clear hx
      have hz5 : (bs (dec x.size)).size ≤ 10 := by rw [size_bs]; exact hdl
      have H4 : Hid (un (s ++ bs (dec x.size) ++ ⟨#[58]⟩ ++ x) = laidL (uns (l.take (k + 1)))) := by
        unfold Hid; rw [un_append, un_append, un_append, un_bs, hS.out, H3.out]; rfl
      clear H3 hdl
      go_wp2
      go_quiet ((go_at_call 64; exact Calls.quiet_of (number_r x.size (by omega) _)))
      go_wp2
      go_roundw
      case rel => exact ⟨k + 1, _, by omega, by go_num, rfl, H4, below_drawn hB _⟩
      case measure => simp [intOf]; omega
    · obtain rfl : k = l.length := by omega
      have HR : Hid (s = piecesB l) := un_inj (by rw [hS.out, List.take_length]; unfold piecesB; rw [un_bs])
      go_wp2
      go_ret
      exact ⟨by rw [← HR.out]; rfl, hB⟩
end Go.Proofs.YtodgcmhkojkpcaaGreatDoor
