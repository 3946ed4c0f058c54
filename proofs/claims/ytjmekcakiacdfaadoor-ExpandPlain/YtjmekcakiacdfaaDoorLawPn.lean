/- ExpandPlain's law. -/
import Derived.Test.YtjmekcakiacdfaaDoorHasX
namespace Go.Proofs.YtjmekcakiacdfaaDoor
open Go Go.RowKit Go.Maps

theorem PrsAt.form {W : World} {v : Value} {vs : List PrZ} (h : PrsAt W v vs) : ∃ a cap, v = .slice a vs.length cap := by
  obtain ⟨a, cap, b, o, h1, _⟩ := h
  exact ⟨a, cap, h1⟩
theorem few_p (s : ByteArray) (a : Option Addr) (n c : Nat) (W : World) : Calls Tryd.prog 4 #[.string s, .slice a n c] W fun x w' => x = .returned (.bool (decide (s.size ≤ 131072) && decide (n ≤ 4096))) ∧ w' = W := by
  by_cases h1 : s.size ≤ 131072
  · have h1' : (s.size : Int) ≤ 131072 := by omega
    by_cases h2 : n ≤ 4096
    · have h2' : (n : Int) ≤ 4096 := by omega
      rw [decide_eq_true h1, decide_eq_true h2]
      go_enter Tryd.func4, Tryd.ntmps4
      go_wp2
      go_ret
      exact ⟨rfl, rfl⟩
    · have h2' : ¬ (n : Int) ≤ 4096 := by omega
      rw [decide_eq_true h1, decide_eq_false h2]
      go_enter Tryd.func4, Tryd.ntmps4
      go_wp2
      go_ret
      exact ⟨rfl, rfl⟩
  · have h1' : ¬ (s.size : Int) ≤ 131072 := by omega
    rw [decide_eq_false h1]
    go_enter Tryd.func4, Tryd.ntmps4
    go_wp2
    go_ret
    exact ⟨rfl, rfl⟩
theorem has_none {l cs : List UInt8} (h : hasL l cs = false) : ∀ b ∈ l, ∀ c ∈ cs, b ≠ c := by
  intro b hb c hc e
  unfold hasL at h
  rw [List.any_eq_false] at h
  have := h b hb
  unfold hasB at this
  rw [Bool.not_eq_true, List.any_eq_false] at this
  exact this c hc (by rw [e]; simp)
theorem ans_plain {e : UInt8} {m : Nat} (hm : m ≤ 1) (vs : List (List UInt8 × List UInt8)) (l : List UInt8) (h : ∀ c ∈ l, freeB e [m] c = true) : ansL vs (eachL e [m] l) = if 65536 < l.length then (5, []) else (0, l) := by
  obtain ⟨h1, h2, _⟩ := plain_ans hm vs l h
  unfold ansL
  rw [if_neg (by rw [h1]; simp), h2]
theorem has2 (s : ByteArray) (e : UInt8) (W : World) (hs : s.size ≤ 1099511627776) : Calls Tryd.prog 7 #[.string s, .slice (some ⟨W.heap.size, 0, none⟩) 2 2] (W.alloc (.cells #[.int .u8 e.toNat, .int .u8 36] 5)) fun x w' => x = .returned (.bool (hasL (un s) [e, 36])) ∧ Below W.heap.size W w' := by
  have L := Lies.new W 5 #[.int .u8 e.toNat, .int .u8 36]
  refine (has_p s [e, 36] W.heap.size _ hs (by simp) (fun j c hc => ?_)).mono ?_
  · match j, hc with
    | 0, hc => simp at hc; subst hc; exact L.cell (i := 0) rfl
    | 1, hc => simp at hc; subst hc; exact L.cell (i := 1) rfl
  · rintro x w' ⟨rfl, d, rfl⟩
    exact ⟨rfl, below_drawn ((Below.refl _ W).alloc (Nat.le_refl _) _) _⟩
theorem has4 (s : ByteArray) (e : UInt8) (W : World) (hs : s.size ≤ 1099511627776) : Calls Tryd.prog 7 #[.string s, .slice (some ⟨W.heap.size, 0, none⟩) 4 4] (W.alloc (.cells #[.int .u8 e.toNat, .int .u8 36, .int .u8 34, .int .u8 39] 5)) fun x w' => x = .returned (.bool (hasL (un s) [e, 36, 34, 39])) ∧ Below W.heap.size W w' := by
  have L := Lies.new W 5 #[.int .u8 e.toNat, .int .u8 36, .int .u8 34, .int .u8 39]
  refine (has_p s [e, 36, 34, 39] W.heap.size _ hs (by simp) (fun j c hc => ?_)).mono ?_
  · match j, hc with
    | 0, hc => simp at hc; subst hc; exact L.cell (i := 0) rfl
    | 1, hc => simp at hc; subst hc; exact L.cell (i := 1) rfl
    | 2, hc => simp at hc; subst hc; exact L.cell (i := 2) rfl
    | 3, hc => simp at hc; subst hc; exact L.cell (i := 3) rfl
  · rintro x w' ⟨rfl, d, rfl⟩
    exact ⟨rfl, below_drawn ((Below.refl _ W).alloc (Nat.le_refl _) _) _⟩
set_option maxHeartbeats 16000000 in
set_option maxRecDepth 100000 in
theorem expandplain_law (s : ByteArray) (e : UInt8) (v : Value) (vs : List PrZ) (W : World) (hE : ErrType W) (hv : PrsAt W v vs) (_hl : vs.length ≤ 4398046511104) (hx : ∀ x ∈ vs, x.key.size ≤ 140737488355328 ∧ x.val.size ≤ 140737488355328) (_hs : s.size ≤ 140737488351232) : Calls Tryd.prog 3 #[.string s, .int .u8 e.toNat, v] W fun x w' => x = .returned (.bool true) ∧ Below W.heap.size W w' := by
  obtain ⟨va, cap, rfl⟩ := hv.form
  have hfa := fun W => few_p s va vs.length cap W
  have b0 : Below W.heap.size W W := Below.refl _ _
  cases h1 : (decide (s.size ≤ 131072) && decide (vs.length ≤ 4096)) with
  | false =>
    rw [h1] at hfa
    clear hv h1
    go_enter Tryd.func3, Tryd.ntmps3
    go_wp2_with (go_at_call 4; refine (hfa _).mono ?_; rintro x w2 ⟨rfl, hw⟩; replace hw := hw.symm; subst hw)
    go_ret
    exact ⟨rfl, b0⟩
  | true =>
  rw [h1] at hfa
  simp only [Bool.and_eq_true, decide_eq_true_eq] at h1
  have hf : FewQ vs := FewQ.of ⟨by omega, hx⟩
  have hwa : ∀ W2, Below W.heap.size W W2 → Calls Tryd.prog 5 #[.string s, .int .u8 e.toNat, .slice va vs.length cap] W2 fun x w' => x = .returned (.tuple #[.string (bs (wordL e (prL vs) (un s)).2), erV (wordL e (prL vs) (un s)).1]) ∧ Below W.heap.size W w' := fun W2 hb => (word_p s e vs _ W2 (hv.below hb) hf (by omega)).mono fun x w' ⟨h4, h5⟩ => ⟨h4, below_join hb h5⟩
  have hda : ∀ W2, Below W.heap.size W W2 → Calls Tryd.prog 6 #[.string s, .int .u8 e.toNat, .slice va vs.length cap] W2 fun x w' => x = .returned (.tuple #[.string (bs (docL e (prL vs) (un s)).2), erV (docL e (prL vs) (un s)).1]) ∧ Below W.heap.size W w' := fun W2 hb => (doc_p s e vs _ W2 (hv.below hb) hf (by omega)).mono fun x w' ⟨h4, h5⟩ => ⟨h4, below_join hb h5⟩
  have h2 : ∀ W2, Below W.heap.size W W2 → Calls Tryd.prog 7 #[.string s, .slice (some ⟨W2.heap.size, 0, none⟩) 2 2] (W2.alloc (.cells #[.int .u8 e.toNat, .int .u8 36] 5)) fun x w' => x = .returned (.bool (hasL (un s) [e, 36])) ∧ Below W.heap.size W w' := fun W2 hb => (has2 s e W2 (by omega)).mono fun x w' ⟨h4, h5⟩ => ⟨h4, below_join hb h5⟩
  have h4 : ∀ W2, Below W.heap.size W W2 → Calls Tryd.prog 7 #[.string s, .slice (some ⟨W2.heap.size, 0, none⟩) 4 4] (W2.alloc (.cells #[.int .u8 e.toNat, .int .u8 36, .int .u8 34, .int .u8 39] 5)) fun x w' => x = .returned (.bool (hasL (un s) [e, 36, 34, 39])) ∧ Below W.heap.size W w' := fun W2 hb => (has4 s e W2 (by omega)).mono fun x w' ⟨h4, h5⟩ => ⟨h4, below_join hb h5⟩
  have hp : ∀ W2, Below W.heap.size W W2 → Calls Tryd.prog 8 #[.iface 38 (.int .i64 5), .int .i64 5] W2 fun x w' => x = .returned (.bool true) ∧ Below W.heap.size W w' := fun W2 hb => (plain_some 5 (by decide) (by decide) W2 (hE.below hb)).mono fun x w' ⟨h4, h5⟩ => ⟨h4, below_join hb h5⟩
  have hnm : hasL (un s) [e, 36, 34, 39] = false → ∀ W2, Below W.heap.size W W2 → Calls Tryd.prog 9 #[.string s, .int .u8 e.toNat] W2 fun x w' => ∃ o c, x = .returned (.slice o 0 c) ∧ Below W.heap.size W w' := fun h9 W2 hb => (names_p s e W2 (by omega)).mono fun x w' ⟨v, h7, h8, h5⟩ => by
    have hn : namesL e (un s) = [] := by
      have hh := has_none h9
      obtain ⟨k1, _, k3⟩ := plain_ans (e := e) (m := 0) (by decide) [] (un s) (fun c hc => by
        have q0 := hh c hc e (by simp); have q1 := hh c hc 36 (by simp); have q2 := hh c hc 34 (by simp); have q3 := hh c hc 39 (by simp)
        simp [freeB, q0, q1, q2, q3, opq])
      unfold namesL
      rw [if_neg (by rw [k1]; simp), k3]
    rw [hn] at h8
    obtain ⟨o, c, rfl⟩ := own_sliceN h8
    exact ⟨o, c, h7, below_join hb h5⟩
  have P2 : Hid (hasL (un s) [e, 36] = false → docL e (prL vs) (un s) = if 65536 < s.size then (5, []) else (0, un s)) := fun h9 => by
    have hh := has_none h9
    have := ans_plain (e := e) (m := 1) (by decide) (prL vs) (un s) (fun c hc => by
      have q0 := hh c hc e (by simp); have q1 := hh c hc 36 (by simp)
      simp [freeB, q0, q1, opq])
    rw [un_length] at this; exact this
  have P4 : Hid (hasL (un s) [e, 36, 34, 39] = false → wordL e (prL vs) (un s) = if 65536 < s.size then (5, []) else (0, un s)) := fun h9 => by
    have hh := has_none h9
    have := ans_plain (e := e) (m := 0) (by decide) (prL vs) (un s) (fun c hc => by
      have q0 := hh c hc e (by simp); have q1 := hh c hc 36 (by simp); have q2 := hh c hc 34 (by simp); have q3 := hh c hc 39 (by simp)
      simp [freeB, q0, q1, q2, q3, opq])
    rw [un_length] at this; exact this
  have HNM : Hid _ := hnm
  have heq : (s.toList == s.toList) = true := by simp
  clear hv hx hf hE hnm
  generalize hasL (un s) [e, 36] = x2 at *
  generalize hasL (un s) [e, 36, 34, 39] = x4 at *
  generalize wordL e (prL vs) (un s) = wa at *
  generalize docL e (prL vs) (un s) = da at *
  obtain ⟨na, sa⟩ := wa
  obtain ⟨ma, ta⟩ := da
  simp only at hwa hda
  by_cases hz : 65536 < s.size
  · have hz1 : (65536 : Int) < (s.size : Int) := by omega
    clear h1
    cases x2
    all_goals cases x4
    all_goals
      first | (have hq2 := P2.out rfl; rw [if_pos hz] at hq2; injection hq2 with e1 e2; subst e1; subst e2; have hda : ∀ W2, Below W.heap.size W W2 → Calls Tryd.prog 6 #[.string s, .int .u8 e.toNat, .slice va vs.length cap] W2 fun x w' => x = .returned (.tuple #[.string ⟨#[]⟩, .iface 38 (.int .i64 5)]) ∧ Below W.heap.size W w' := hda) | skip
    all_goals
      first | (have hq4 := P4.out rfl; rw [if_pos hz] at hq4; injection hq4 with e3 e4; subst e3; subst e4; have hwa : ∀ W2, Below W.heap.size W W2 → Calls Tryd.prog 5 #[.string s, .int .u8 e.toNat, .slice va vs.length cap] W2 fun x w' => x = .returned (.tuple #[.string ⟨#[]⟩, .iface 38 (.int .i64 5)]) ∧ Below W.heap.size W w' := hwa) | skip
    all_goals
      clear P2 P4 HNM hz
      go_enter Tryd.func3, Tryd.ntmps3
      go_wp2_with (first
        | (go_at_call 4; refine (hfa _).mono ?_; rintro x w2 ⟨rfl, hw⟩; replace hw := hw.symm; subst hw)
        | (go_at_call 5; with_reducible refine (hwa _ (by assumption)).mono ?_; rintro x w3 ⟨rfl, b3⟩)
        | (go_at_call 6; with_reducible refine (hda _ (by assumption)).mono ?_; rintro x w4 ⟨rfl, b4⟩)
        | (go_at_call 7; first | (with_reducible refine (h2 _ (by assumption)).mono ?_; rintro x w5 ⟨rfl, b5⟩) | (with_reducible refine (h4 _ (by assumption)).mono ?_; rintro x w6 ⟨rfl, b6⟩))
        | (go_at_call 8; with_reducible refine (hp _ (by assumption)).mono ?_; rintro x w7 ⟨rfl, b7⟩))
      go_ret
      exact ⟨rfl, by assumption⟩
  · have hz1 : ¬ (65536 : Int) < (s.size : Int) := by omega
    clear h1
    cases x2
    all_goals cases x4
    all_goals
      first | (have hq2 := P2.out rfl; rw [if_neg hz] at hq2; injection hq2 with e1 e2; subst e1; subst e2; have hda : ∀ W2, Below W.heap.size W W2 → Calls Tryd.prog 6 #[.string s, .int .u8 e.toNat, .slice va vs.length cap] W2 fun x w' => x = .returned (.tuple #[.string s, .nilIface]) ∧ Below W.heap.size W w' := (by rw [bs_un] at hda; exact hda)) | skip
    all_goals
      first | (have hq4 := P4.out rfl; have hnames := HNM.out rfl; rw [if_neg hz] at hq4; injection hq4 with e3 e4; subst e3; subst e4; have hwa : ∀ W2, Below W.heap.size W W2 → Calls Tryd.prog 5 #[.string s, .int .u8 e.toNat, .slice va vs.length cap] W2 fun x w' => x = .returned (.tuple #[.string s, .nilIface]) ∧ Below W.heap.size W w' := (by rw [bs_un] at hwa; exact hwa)) | skip
    all_goals
      clear P2 P4 HNM hz
      go_enter Tryd.func3, Tryd.ntmps3
      go_wp2_with (first
        | (go_at_call 4; refine (hfa _).mono ?_; rintro x w2 ⟨rfl, hw⟩; replace hw := hw.symm; subst hw)
        | (go_at_call 5; with_reducible refine (hwa _ (by assumption)).mono ?_; rintro x w3 ⟨rfl, b3⟩)
        | (go_at_call 6; with_reducible refine (hda _ (by assumption)).mono ?_; rintro x w4 ⟨rfl, b4⟩)
        | (go_at_call 7; first | (with_reducible refine (h2 _ (by assumption)).mono ?_; rintro x w5 ⟨rfl, b5⟩) | (with_reducible refine (h4 _ (by assumption)).mono ?_; rintro x w6 ⟨rfl, b6⟩))
        | (go_at_call 9; with_reducible refine (hnames _ (by assumption)).mono ?_; rintro x w7 ⟨o9, c9, rfl, b7⟩))
      go_ret
      exact ⟨rfl, by assumption⟩
end Go.Proofs.YtjmekcakiacdfaaDoor
