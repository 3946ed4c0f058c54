/- ExpandQuoted's law. -/
import Derived.Test.YtjmekcakiacdfaaExQ
import Derived.Test.YtjmekcakiacdfaaQuoW
import Derived.Test.YtjmekcakiacdfaaWksX
namespace Go.Proofs.Ytjmekcakiacdfaa
open Go Go.RowKit Go.Maps

theorem quoL_length (e : UInt8) (l : List UInt8) : (quoL e l).length ≤ 2 * l.length + 2 := by
  unfold quoL
  split
  · omega
  · have := bodyL_length e l
    simp; omega
theorem PrsAt.form {W : World} {v : Value} {vs : List PrZ} (h : PrsAt W v vs) : ∃ a cap, v = .slice a vs.length cap := by
  obtain ⟨a, cap, b, o, h1, _⟩ := h
  exact ⟨a, cap, h1⟩
set_option maxHeartbeats 4000000 in
set_option maxRecDepth 100000 in
theorem expandquoted_law (s : ByteArray) (b : Bool) (v : Value) (vs : List PrZ) (W : World) (hv : PrsAt W v vs) (_hl : vs.length ≤ 4398046511104) (hx : ∀ x ∈ vs, x.key.size ≤ 140737488355328 ∧ x.val.size ≤ 140737488355328) (_hs : s.size ≤ 140737488351232) : Calls Try.prog 5 #[.string s, .bool b, v] W fun x w' => x = .returned (.bool true) ∧ Below W.heap.size W w' := by
  have hsl := un_length s
  obtain ⟨a, cap, rfl⟩ := hv.form
  by_cases h1 : s.size ≤ 65536
  rotate_left
  · have h1' : ¬ (s.size : Int) ≤ 65536 := by omega
    have h2' : (65536 : Int) < (s.size : Int) := by omega
    clear hv
    go_enter Try.func5, Try.ntmps5
    go_wp2
    go_ret
    exact ⟨rfl, Below.refl _ _⟩
  have h1' : ¬ (65536 : Int) < (s.size : Int) := by omega
  by_cases h2 : vs.length ≤ 4096
  rotate_left
  · have h2' : (4096 : Int) < (vs.length : Int) := by omega
    clear hv
    go_enter Try.func5, Try.ntmps5
    go_wp2
    go_ret
    exact ⟨rfl, Below.refl _ _⟩
  have h2' : ¬ (4096 : Int) < (vs.length : Int) := by omega
  have hf : FewQ vs := FewQ.of ⟨by omega, hx⟩
  have hww := works_x
  have main : ∀ e : UInt8, e = 92 ∨ e = 96 → (∀ W2, Calls Try.prog 15 #[.string s, .int .u8 e.toNat] W2 fun x w' => x = .returned (.string (bs (quoL e (un s)))) ∧ Below W2.heap.size W2 w') ∧ ∀ W2, Below W.heap.size W W2 → Calls Try.prog 12 #[.string (bs (quoL e (un s))), .int .u8 e.toNat, .slice a vs.length cap] W2 fun x w' => x = .returned (.tuple #[.string s, .nilIface]) ∧ Below W2.heap.size W2 w' := by
    intro e he
    refine ⟨fun W2 => ?_, fun W2 hb => ?_⟩
    · have hq := quote_p s e W2 (by omega)
      have : escN e = e := by rcases he with rfl | rfl <;> rfl
      rw [this] at hq; exact hq
    · have hw := word_p (bs (quoL e (un s))) e vs (.slice a vs.length cap) W2 (hv.below hb) hf (by rw [size_bs]; have := quoL_length e (un s); omega)
      rw [un_bs, word_quoted he _ _ (by omega)] at hw
      have e1 : bs ((0, un s) : Nat × List UInt8).2 = s := bs_un s
      rw [e1] at hw
      exact hw
  have heq : (s.toList == s.toList) = true := by simp
  have HM : Hid _ := main
  clear hv hf hx main h1 h2 hsl
  cases b with
  | false =>
    obtain ⟨hq, hw⟩ := HM.out 92 (.inl rfl)
    have hq : ∀ W2, Calls Try.prog 15 #[.string s, .int .u8 92] W2 fun x w' => x = .returned (.string (bs (quoL 92 (un s)))) ∧ Below W2.heap.size W2 w' := hq
    have hw : ∀ W2, Below W.heap.size W W2 → Calls Try.prog 12 #[.string (bs (quoL 92 (un s))), .int .u8 92, .slice a vs.length cap] W2 fun x w' => x = .returned (.tuple #[.string s, .nilIface]) ∧ Below W2.heap.size W2 w' := hw
    generalize bs (quoL 92 (un s)) = Q at *
    go_enter Try.func5, Try.ntmps5
    go_wp2_with (first
      | (go_at_call 15; refine (hq _).mono ?_; rintro x w2 ⟨rfl, b2⟩)
      | (go_at_call 12; refine (hw _ b2).mono ?_; rintro x w3 ⟨rfl, b3⟩)
      | (go_at_call 10; refine (hww _).mono ?_; rintro x w4 ⟨rfl, b4⟩))
    go_ret
    exact ⟨rfl, below_join (below_join b2 b3) b4⟩
  | true =>
    obtain ⟨hq, hw⟩ := HM.out 96 (.inr rfl)
    have hq : ∀ W2, Calls Try.prog 15 #[.string s, .int .u8 96] W2 fun x w' => x = .returned (.string (bs (quoL 96 (un s)))) ∧ Below W2.heap.size W2 w' := hq
    have hw : ∀ W2, Below W.heap.size W W2 → Calls Try.prog 12 #[.string (bs (quoL 96 (un s))), .int .u8 96, .slice a vs.length cap] W2 fun x w' => x = .returned (.tuple #[.string s, .nilIface]) ∧ Below W2.heap.size W2 w' := hw
    generalize bs (quoL 96 (un s)) = Q at *
    go_enter Try.func5, Try.ntmps5
    go_wp2_with (first
      | (go_at_call 15; refine (hq _).mono ?_; rintro x w2 ⟨rfl, b2⟩)
      | (go_at_call 12; refine (hw _ b2).mono ?_; rintro x w3 ⟨rfl, b3⟩)
      | (go_at_call 10; refine (hww _).mono ?_; rintro x w4 ⟨rfl, b4⟩))
    go_ret
    exact ⟨rfl, below_join (below_join b2 b3) b4⟩
end Go.Proofs.Ytjmekcakiacdfaa
