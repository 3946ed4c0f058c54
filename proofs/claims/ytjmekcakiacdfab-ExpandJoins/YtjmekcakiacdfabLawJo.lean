/- ExpandJoins' law. -/
import Derived.Test.YtjmekcakiacdfabEndX
import Derived.Deep.Cut
namespace Go.Proofs.Ytjmekcakiacdfab
open Go Go.RowKit Go.Maps

theorem PrsAt.form {W : World} {v : Value} {vs : List PrZ} (h : PrsAt W v vs) : ∃ a cap, v = .slice a vs.length cap := by
  obtain ⟨a, cap, b, o, h1, _⟩ := h
  exact ⟨a, cap, h1⟩
theorem toList_bs (l : List UInt8) : (bs l).toList = l := by rw [toList_un, un_bs]
/-- An answer in memory. -/
def AnsV (r : Nat × List UInt8) (x y : Value) : Prop := x = .string (bs r.2) ∧ y = erV r.1
theorem erV_zero {n : Nat} (h : n = 0) : erV n = .nilIface := by rw [h]; rfl
theorem erV_some {n : Nat} (h : n ≠ 0) : erV n = .iface 63 (.int .i64 n) := by unfold erV; rw [if_neg h]
theorem ans_len (vs : List (List UInt8 × List UInt8)) (r : List Pc × Nat) : (ansL vs r).2.length ≤ 65536 := by
  unfold ansL
  by_cases h1 : r.2 ≠ 0
  · rw [if_pos h1]; simp
  · rw [if_neg h1]
    by_cases h2 : 65536 < (den vs r.1 d0).length
    · rw [if_pos h2]; simp
    · rw [if_neg h2]; exact Nat.le_of_not_lt h2
set_option maxHeartbeats 16000000 in
set_option maxRecDepth 100000 in
theorem expandjoins_law (a b : ByteArray) (e : UInt8) (v : Value) (vs : List PrZ) (W : World) (hv : PrsAt W v vs) (_hl : vs.length ≤ 4398046511104) (hx : ∀ x ∈ vs, x.key.size ≤ 140737488355328 ∧ x.val.size ≤ 140737488355328) (hsa : a.size ≤ 140737488351232) (_hsb : b.size ≤ 140737488351232) : Calls Try.prog 3 #[.string a, .string b, .int .u8 e.toNat, v] W fun x w' => x = .returned (.bool true) ∧ Below W.heap.size W w' := by
  obtain ⟨va, cap, rfl⟩ := hv.form
  have hfa := fun W => few_p a va vs.length cap W
  have hfb := fun W => few_p b none 0 0 W
  have hen := fun W => ends_p a e W (by omega)
  have hww := works_x
  have b0 : Below W.heap.size W W := Below.refl _ _
  cases h1 : (decide (a.size ≤ 131072) && decide (vs.length ≤ 4096)) with
  | false =>
    rw [h1] at hfa
    clear hv h1
    go_enter Try.func3, Try.ntmps3
    go_wp2_with (go_at_call 4; refine (hfa _).mono ?_; rintro x w2 ⟨rfl, hw⟩; replace hw := hw.symm; subst hw)
    go_ret
    exact ⟨rfl, b0⟩
  | true =>
  rw [h1] at hfa
  cases h2 : (decide (b.size ≤ 131072) && decide (0 ≤ 4096)) with
  | false =>
    rw [h2] at hfb
    clear hv h1 h2
    go_enter Try.func3, Try.ntmps3
    go_wp2_with (go_at_call 4; first | (with_reducible refine (hfa _).mono ?_; rintro x w2 ⟨rfl, hw⟩; replace hw := hw.symm; subst hw) | (with_reducible refine (hfb _).mono ?_; rintro x w2 ⟨rfl, hw⟩; replace hw := hw.symm; subst hw))
    go_ret
    exact ⟨rfl, b0⟩
  | true =>
  rw [h2] at hfb
  cases h3 : endsL e (un a) with
  | true =>
    rw [h3] at hen
    clear hv h1 h2 h3
    go_enter Try.func3, Try.ntmps3
    go_wp2_with (first | (go_at_call 4; first | (with_reducible refine (hfa _).mono ?_; rintro x w2 ⟨rfl, hw⟩; replace hw := hw.symm; subst hw) | (with_reducible refine (hfb _).mono ?_; rintro x w2 ⟨rfl, hw⟩; replace hw := hw.symm; subst hw)) | (go_at_call 5; refine (hen _).mono ?_; rintro x w2 ⟨rfl, hw⟩; replace hw := hw.symm; subst hw))
    go_ret
    exact ⟨rfl, b0⟩
  | false =>
  rw [h3] at hen
  simp only [Bool.and_eq_true, decide_eq_true_eq] at h1 h2
  have hf : FewQ vs := FewQ.of ⟨by omega, hx⟩
  have W3 : ∀ s : ByteArray, s.size ≤ 262144 → (∀ W2, Below W.heap.size W W2 → Calls Try.prog 6 #[.string s, .int .u8 e.toNat, .slice va vs.length cap] W2 fun x w' => x = .returned (.tuple #[.string (bs (wordL e (prL vs) (un s)).2), erV (wordL e (prL vs) (un s)).1]) ∧ Below W.heap.size W w') ∧ ∀ W2, Below W.heap.size W W2 → Calls Try.prog 7 #[.string s, .int .u8 e.toNat, .slice va vs.length cap] W2 fun x w' => x = .returned (.tuple #[.string (bs (docL e (prL vs) (un s)).2), erV (docL e (prL vs) (un s)).1]) ∧ Below W.heap.size W w' := fun s hs =>
    ⟨fun W2 hb => (word_p s e vs _ W2 (hv.below hb) hf (by omega)).mono fun x w' ⟨h4, h5⟩ => ⟨h4, below_join hb h5⟩, fun W2 hb => (doc_p s e vs _ W2 (hv.below hb) hf (by omega)).mono fun x w' ⟨h4, h5⟩ => ⟨h4, below_join hb h5⟩⟩
  have hab : (a ++ b).size ≤ 262144 := by rw [← un_length, un_append, List.length_append, un_length, un_length]; omega
  obtain ⟨hwa, hda⟩ := W3 a (by omega)
  obtain ⟨hwb, hdb⟩ := W3 b (by omega)
  obtain ⟨hwc, hdc⟩ := W3 (a ++ b) hab
  rw [un_append] at hwc hdc
  have hj : ∀ m : Nat, m ≤ 1 → (ansL (prL vs) (eachL e [m] (un a))).1 = 0 → (ansL (prL vs) (eachL e [m] (un b))).1 = 0 → (ansL (prL vs) (eachL e [m] (un a))).2.length + (ansL (prL vs) (eachL e [m] (un b))).2.length ≤ 65536 → ansL (prL vs) (eachL e [m] (un a ++ un b)) = (0, (ansL (prL vs) (eachL e [m] (un a))).2 ++ (ansL (prL vs) (eachL e [m] (un b))).2) := fun m hm => ans_join hm (prL vs) (un a) (un b) h3
  have j0 : Hid ((wordL e (prL vs) (un a)).1 = 0 → (wordL e (prL vs) (un b)).1 = 0 → (wordL e (prL vs) (un a)).2.length + (wordL e (prL vs) (un b)).2.length ≤ 65536 → wordL e (prL vs) (un a ++ un b) = (0, (wordL e (prL vs) (un a)).2 ++ (wordL e (prL vs) (un b)).2)) := hj 0 (by decide)
  have j1 : Hid ((docL e (prL vs) (un a)).1 = 0 → (docL e (prL vs) (un b)).1 = 0 → (docL e (prL vs) (un a)).2.length + (docL e (prL vs) (un b)).2.length ≤ 65536 → docL e (prL vs) (un a ++ un b) = (0, (docL e (prL vs) (un a)).2 ++ (docL e (prL vs) (un b)).2)) := hj 1 (by decide)
  have l0 := ans_len (prL vs) (eachL e [0] (un a))
  have l1 := ans_len (prL vs) (eachL e [0] (un b))
  have l2 := ans_len (prL vs) (eachL e [1] (un a))
  have l3 := ans_len (prL vs) (eachL e [1] (un b))
  have l0 : (wordL e (prL vs) (un a)).2.length ≤ 65536 := l0
  have l1 : (wordL e (prL vs) (un b)).2.length ≤ 65536 := l1
  have l2 : (docL e (prL vs) (un a)).2.length ≤ 65536 := l2
  have l3 : (docL e (prL vs) (un b)).2.length ≤ 65536 := l3
  clear hv hx hf W3 hab hj h1 h2 h3
  generalize wordL e (prL vs) (un a) = wa at *
  generalize wordL e (prL vs) (un b) = wb at *
  generalize wordL e (prL vs) (un a ++ un b) = wc at *
  generalize docL e (prL vs) (un a) = da at *
  generalize docL e (prL vs) (un b) = db at *
  generalize docL e (prL vs) (un a ++ un b) = dc at *
  obtain ⟨na, sa⟩ := wa
  obtain ⟨nb, sb⟩ := wb
  obtain ⟨nc, sc⟩ := wc
  obtain ⟨ma, ta⟩ := da
  obtain ⟨mb, tb⟩ := db
  obtain ⟨mc, tc⟩ := dc
  simp only at l0 l1 l2 l3 hwa hwb hwc hda hdb hdc
  have z1 : (bs sa).size = sa.length := size_bs sa
  have z2 : (bs sb).size = sb.length := size_bs sb
  have z3 : (bs ta).size = ta.length := size_bs ta
  have z4 : (bs tb).size = tb.length := size_bs tb
  have y1 : IntKind.i64.wrap ((sa.length : Int) + (sb.length : Int)) = (sa.length : Int) + (sb.length : Int) := wrap_small _ (by omega) (by omega)
  have y2 : IntKind.i64.wrap ((ta.length : Int) + (tb.length : Int)) = (ta.length : Int) + (tb.length : Int) := wrap_small _ (by omega) (by omega)
  have J0 : Hid (na ≠ 0 ∨ (na = 0 ∧ nb ≠ 0) ∨ (na = 0 ∧ nb = 0 ∧ ¬ (sa.length : Int) + (sb.length : Int) ≤ 65536) ∨ (na = 0 ∧ nb = 0 ∧ (sa.length : Int) + (sb.length : Int) ≤ 65536 ∧ nc = 0 ∧ ((bs sc).toList == (bs sa ++ bs sb).toList) = true)) := by
    unfold Hid
    by_cases q1 : na = 0
    · by_cases q2 : nb = 0
      · by_cases q3 : sa.length + sb.length ≤ 65536
        · have := j0.out q1 q2 q3
          injection this with q4 q5
          refine .inr (.inr (.inr ⟨q1, q2, by omega, q4, ?_⟩))
          rw [toList_bs, toList_un, un_append, un_bs, un_bs, q5]; simp
        · exact .inr (.inr (.inl ⟨q1, q2, by omega⟩))
      · exact .inr (.inl ⟨q1, q2⟩)
    · exact .inl q1
  have J1 : Hid (ma ≠ 0 ∨ (ma = 0 ∧ mb ≠ 0) ∨ (ma = 0 ∧ mb = 0 ∧ (65536 : Int) < (ta.length : Int) + (tb.length : Int)) ∨ (ma = 0 ∧ mb = 0 ∧ ¬ (65536 : Int) < (ta.length : Int) + (tb.length : Int) ∧ mc = 0 ∧ ((bs tc).toList == (bs ta ++ bs tb).toList) = true)) := by
    unfold Hid
    by_cases q1 : ma = 0
    · by_cases q2 : mb = 0
      · by_cases q3 : ta.length + tb.length ≤ 65536
        · have := j1.out q1 q2 q3
          injection this with q4 q5
          refine .inr (.inr (.inr ⟨q1, q2, by omega, q4, ?_⟩))
          rw [toList_bs, toList_un, un_append, un_bs, un_bs, q5]; simp
        · exact .inr (.inr (.inl ⟨q1, q2, by omega⟩))
      · exact .inr (.inl ⟨q1, q2⟩)
    · exact .inl q1
  clear j0 j1
  go_enter Try.func3, Try.ntmps3
  go_upto_region 9 with (first
    | (go_at_call 4; first | (with_reducible refine (hfa _).mono ?_; rintro x w2 ⟨rfl, hw⟩; replace hw := hw.symm; subst hw) | (with_reducible refine (hfb _).mono ?_; rintro x w2 ⟨rfl, hw⟩; replace hw := hw.symm; subst hw))
    | (go_at_call 5; refine (hen _).mono ?_; rintro x w2 ⟨rfl, hw⟩; replace hw := hw.symm; subst hw)
    | (go_at_call 6; first | (with_reducible refine (hwa _ (by assumption)).mono ?_; rintro x w3 ⟨rfl, b3⟩) | (with_reducible refine (hwb _ (by assumption)).mono ?_; rintro x w4 ⟨rfl, b4⟩) | (with_reducible refine (hwc _ (by assumption)).mono ?_; rintro x w5 ⟨rfl, b5⟩))
    | (go_at_call 7; first | (with_reducible refine (hda _ (by assumption)).mono ?_; rintro x w6 ⟨rfl, b6⟩) | (with_reducible refine (hdb _ (by assumption)).mono ?_; rintro x w7 ⟨rfl, b7⟩) | (with_reducible refine (hdc _ (by assumption)).mono ?_; rintro x w8 ⟨rfl, b8⟩)))
  rcases J0.out with hA | ⟨hA, hB⟩ | ⟨hA, hB, hC⟩ | ⟨hA, hB, hC, hD, hE⟩
  · rw [erV_some hA]
    clear hA
    go_upto_region 11 with fail
    rcases J1.out with hF | ⟨hF, hG⟩ | ⟨hF, hG, hH⟩ | ⟨hF, hG, hH, hI, hK⟩
    · rw [erV_some hF]
      clear hF
      go_wp2_with (go_at_call 8; refine (hww _).mono ?_; rintro x w9 ⟨rfl, b9⟩)
      go_ret
      exact ⟨rfl, below_join b8 b9⟩
    · rw [erV_zero hF, erV_some hG]
      clear hF hG
      go_wp2_with (go_at_call 8; refine (hww _).mono ?_; rintro x w9 ⟨rfl, b9⟩)
      go_ret
      exact ⟨rfl, below_join b8 b9⟩
    · rw [erV_zero hF, erV_zero hG]
      clear hF hG
      go_wp2_with (go_at_call 8; refine (hww _).mono ?_; rintro x w9 ⟨rfl, b9⟩)
      go_ret
      exact ⟨rfl, below_join b8 b9⟩
    · rw [erV_zero hF, erV_zero hG, erV_zero hI]
      clear hF hG hI
      go_wp2_with (go_at_call 8; refine (hww _).mono ?_; rintro x w9 ⟨rfl, b9⟩)
      go_ret
      exact ⟨rfl, below_join b8 b9⟩
  · rw [erV_zero hA, erV_some hB]
    clear hA hB
    go_upto_region 11 with fail
    rcases J1.out with hF | ⟨hF, hG⟩ | ⟨hF, hG, hH⟩ | ⟨hF, hG, hH, hI, hK⟩
    · rw [erV_some hF]
      clear hF
      go_wp2_with (go_at_call 8; refine (hww _).mono ?_; rintro x w9 ⟨rfl, b9⟩)
      go_ret
      exact ⟨rfl, below_join b8 b9⟩
    · rw [erV_zero hF, erV_some hG]
      clear hF hG
      go_wp2_with (go_at_call 8; refine (hww _).mono ?_; rintro x w9 ⟨rfl, b9⟩)
      go_ret
      exact ⟨rfl, below_join b8 b9⟩
    · rw [erV_zero hF, erV_zero hG]
      clear hF hG
      go_wp2_with (go_at_call 8; refine (hww _).mono ?_; rintro x w9 ⟨rfl, b9⟩)
      go_ret
      exact ⟨rfl, below_join b8 b9⟩
    · rw [erV_zero hF, erV_zero hG, erV_zero hI]
      clear hF hG hI
      go_wp2_with (go_at_call 8; refine (hww _).mono ?_; rintro x w9 ⟨rfl, b9⟩)
      go_ret
      exact ⟨rfl, below_join b8 b9⟩
  · rw [erV_zero hA, erV_zero hB]
    clear hA hB
    go_upto_region 11 with fail
    rcases J1.out with hF | ⟨hF, hG⟩ | ⟨hF, hG, hH⟩ | ⟨hF, hG, hH, hI, hK⟩
    · rw [erV_some hF]
      clear hF
      go_wp2_with (go_at_call 8; refine (hww _).mono ?_; rintro x w9 ⟨rfl, b9⟩)
      go_ret
      exact ⟨rfl, below_join b8 b9⟩
    · rw [erV_zero hF, erV_some hG]
      clear hF hG
      go_wp2_with (go_at_call 8; refine (hww _).mono ?_; rintro x w9 ⟨rfl, b9⟩)
      go_ret
      exact ⟨rfl, below_join b8 b9⟩
    · rw [erV_zero hF, erV_zero hG]
      clear hF hG
      go_wp2_with (go_at_call 8; refine (hww _).mono ?_; rintro x w9 ⟨rfl, b9⟩)
      go_ret
      exact ⟨rfl, below_join b8 b9⟩
    · rw [erV_zero hF, erV_zero hG, erV_zero hI]
      clear hF hG hI
      go_wp2_with (go_at_call 8; refine (hww _).mono ?_; rintro x w9 ⟨rfl, b9⟩)
      go_ret
      exact ⟨rfl, below_join b8 b9⟩
  · rw [erV_zero hA, erV_zero hB, erV_zero hD]
    clear hA hB hD
    go_upto_region 11 with fail
    rcases J1.out with hF | ⟨hF, hG⟩ | ⟨hF, hG, hH⟩ | ⟨hF, hG, hH, hI, hK⟩
    · rw [erV_some hF]
      clear hF
      go_wp2_with (go_at_call 8; refine (hww _).mono ?_; rintro x w9 ⟨rfl, b9⟩)
      go_ret
      exact ⟨rfl, below_join b8 b9⟩
    · rw [erV_zero hF, erV_some hG]
      clear hF hG
      go_wp2_with (go_at_call 8; refine (hww _).mono ?_; rintro x w9 ⟨rfl, b9⟩)
      go_ret
      exact ⟨rfl, below_join b8 b9⟩
    · rw [erV_zero hF, erV_zero hG]
      clear hF hG
      go_wp2_with (go_at_call 8; refine (hww _).mono ?_; rintro x w9 ⟨rfl, b9⟩)
      go_ret
      exact ⟨rfl, below_join b8 b9⟩
    · rw [erV_zero hF, erV_zero hG, erV_zero hI]
      clear hF hG hI
      go_wp2_with (go_at_call 8; refine (hww _).mono ?_; rintro x w9 ⟨rfl, b9⟩)
      go_ret
      exact ⟨rfl, below_join b8 b9⟩
end Go.Proofs.Ytjmekcakiacdfab
