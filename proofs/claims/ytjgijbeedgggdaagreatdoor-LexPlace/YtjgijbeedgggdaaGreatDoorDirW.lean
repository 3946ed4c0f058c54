/- The program's directive. -/
import Derived.Test.YtjgijbeedgggdaaGreatDoorCwW
namespace Go.Proofs.YtjgijbeedgggdaaGreatDoor
open Go Go.RowKit

/-- A directive as cells: where its # and its = stand, from 1 on; its value. -/
def dvC (h e : Nat) (v : ByteArray) : Array Value := #[.int .i64 h, .int .i64 e, .string v]
theorem dv_info : (Tryz.prog.info? 159).map (·.size) = some 3 := by kernel_rfl
theorem dv_one (h e : Nat) (v : ByteArray) : (dvC h e v).all (·.oneCell') = true := by simp [dvC, Value.oneCell']
/-- What stands behind the word of a directive. -/
theorem dir_no1 {x : Ln} (h : rem x = false) : dirAt x = none := by
  unfold dirAt
  rw [if_neg]; rintro ⟨h1, _⟩
  unfold rem at h; rw [decide_eq_true h1] at h; cases h
theorem past_hd (x : Ln) (k : Nat) : pastL x k = k + hd (x.drop k) := rfl
theorem dir_says {x : Ln} (h : rem x = true) : dirAt x = if (saysL x (pastL x (hd x + 1)) escW = true ∧ x[pastL x (pastL x (hd x + 1) + 6)]? = some 61) then some (pastL x (pastL x (hd x + 1) + 6)) else none := by
  unfold dirAt
  have h1 : x[hd x]? = some 35 := by unfold rem at h; exact of_decide_eq_true h
  simp only [h1, true_and]
theorem eq_pre (x : Ln) (k : Nat) : Lib.hasPrefix (x.drop k) [61] = decide (x[k]? = some 61) := by
  unfold Lib.hasPrefix
  rw [← List.head?_drop]
  cases x.drop k with
  | nil => rfl
  | cons b r =>
    show ((61 : UInt8) == b && true) = decide (some b = some 61)
    rw [Bool.and_true]
    by_cases h : b = 61
    · subst h; rfl
    · rw [decide_eq_false (fun e => h (Option.some.inj e))]
      simp; exact fun e => h e.symm
theorem tl_at (x : ByteArray) (k : Nat) (W : World) : Calls Tryz.prog 138 #[.string (bs ((un x).drop k)), .string bl3S] W fun e w' => e = .returned (.string (bs ((un x).drop (pastL (un x) k)))) ∧ Below W.heap.size W w' := by
  have h := trimL_p (bs ((un x).drop k)) W
  rw [un_bs, List.drop_drop] at h
  exact h
theorem cw_at (hE : EqF) (x : ByteArray) (k : Nat) (W : World) (hW : Tabs W) (hk : k ≤ x.size) (hs : x.size ≤ 1099511627776) : Calls Tryz.prog 137 #[.string (bs ((un x).drop k)), .string espS] W fun e w' => e = .returned (.tuple #[.string (bs (if saysL (un x) k escW = true then (un x).drop (k + 6) else [])), .bool (saysL (un x) k escW)]) ∧ Below W.heap.size W w' := by
  have h := cutWord_p hE (bs ((un x).drop k)) espS W (.inl rfl) hW
  rw [un_bs, show un espS = escW from rfl] at h
  have e1 : cutW ((un x).drop k) escW = (if saysL (un x) k escW = true then (un x).drop (k + 6) else [], saysL (un x) k escW) := by
    unfold cutW; rw [says_drop _ _ _ (by rw [un_length]; exact hk), List.drop_drop]
    cases saysL (un x) k escW <;> rfl
  rw [e1] at h
  exact h (by rw [size_bs, List.length_drop, un_length]; omega)
theorem past_leT (x : Ln) (k : Nat) (h : k ≤ x.length) : pastL x k ≤ x.length := by
  rw [past_hd]; have := hd_leT (x.drop k); rw [List.length_drop] at this; omega
theorem says_le {x : Ln} {k : Nat} {t : Ln} (h : saysL x k t = true) : k + t.length ≤ x.length := by
  unfold saysL at h
  rw [Bool.and_eq_true] at h
  exact of_decide_eq_true h.1
set_option maxRecDepth 100000 in
set_option maxHeartbeats 1000000 in
theorem directive_none (hE : EqF) (n : Nat) (x : ByteArray) (w : World) (hTb : ∀ W, Below w.heap.size w W → Tabs W) (hs : x.size ≤ 1099511627776) (hd0 : dirAt (un x) = none) :
    Calls Tryz.prog 90 #[flV n x] w fun e w' => e = .returned (.tuple #[.agg (dvC 0 0 ⟨#[]⟩), .bool false]) ∧ Below w.heap.size w w' := by
  have hB : Below w.heap.size w ((w.alloc (.cells #[.int .i64 n, .string x] 155)).alloc (.cells (dvC 0 0 ⟨#[]⟩) 159)) := ((Below.refl _ w).alloc (Nat.le_refl _) _).alloc (by simp) _
  have hL : Lies ((w.alloc (.cells #[.int .i64 n, .string x] 155)).alloc (.cells (dvC 0 0 ⟨#[]⟩) 159)) w.heap.size 155 (flC n x) := (Lies.new w _ _).alloc _
  have hD : Lies ((w.alloc (.cells #[.int .i64 n, .string x] 155)).alloc (.cells (dvC 0 0 ⟨#[]⟩) 159)) (w.heap.size + 1) 159 (dvC 0 0 ⟨#[]⟩) := by
    have := Lies.new (w.alloc (.cells #[.int .i64 n, .string x] 155)) 159 (dvC 0 0 ⟨#[]⟩)
    simpa using this
  have hR := fun W => isRemark_p n x W hs
  have hH := fun W => head_p n x W hs
  cases hrem : rem (un x) with
  | false =>
    rw [hrem] at hR
    unfold flV flC
    unfold flV flC dvC at *
    go_enter Tryz.func90, Tryz.ntmps90
    go_wp2_with (first
      | (go_at_call 135; refine (hR _).mono ?_; rintro e w1 ⟨rfl, b1⟩; have hD1 := hD.below b1)
      | (refine wpList_store_row rfl 159 (.tmp 2) (.tmp 11) rfl (w.heap.size + 1) (dvC 0 0 ⟨#[]⟩) rfl rfl 159 _ hD1 dv_info rfl (dv_one _ _ _) ?_))
    refine bodyPost_ret (results_row_tmp rfl _ _ (w.heap.size + 1) 159 (dvC 0 0 ⟨#[]⟩) (0, 0) _ rfl (lies_setRow hD1 _) Tryz.underlying159 rfl dv_info) rfl ?_
    exact ⟨rfl, below_setRow' (below_join hB b1) (by omega) _⟩
  | true =>
    have hh : hd (un x) < x.size := by
      have : (un x)[hd (un x)]? = some 35 := by unfold rem at hrem; exact of_decide_eq_true hrem
      have := (List.getElem?_eq_some_iff.1 this).1
      rwa [un_length] at this
    rw [hrem] at hR
    have hT1 := fun W => tl_at x (hd (un x) + 1) W
    have hp1 := past_leT (un x) (hd (un x) + 1) (by rw [un_length]; omega)
    rw [un_length] at hp1
    have hCW := fun W hW => cw_at hE x (pastL (un x) (hd (un x) + 1)) W hW hp1 hs
    have HX := ext_end x (hd (un x) + 1)
    have d0 : (0 : Int) ≤ (hd (un x) : Int) + 1 := by omega
    have d1 : (hd (un x) : Int) + 1 ≤ (x.size : Int) := by omega
    have hw1 : IntKind.i64.wrap ((hd (un x) : Int) + 1) = (hd (un x) : Int) + 1 := wrap_small _ (by omega) (by omega)
    have HDr : Hid _ := dir_says hrem
    cases hsay : saysL (un x) (pastL (un x) (hd (un x) + 1)) escW with
    | false =>
      rw [hsay] at hCW
      have hT2 := fun W => trimL_p ⟨#[]⟩ W
      have hCW : ∀ W, Tabs W → Calls Tryz.prog 137 #[.string (bs ((un x).drop (pastL (un x) (hd (un x) + 1)))), .string espS] W fun e w' => e = .returned (.tuple #[.string ⟨#[]⟩, .bool false]) ∧ Below W.heap.size W w' := hCW
      generalize bs ((un x).drop (pastL (un x) (hd (un x) + 1))) = E1 at *
      generalize hE0 : bs ((un x).drop (hd (un x) + 1)) = E0 at *
      unfold flV flC dvC at *
      go_enter Tryz.func90, Tryz.ntmps90
      go_wp2_with (first
        | (go_at_call 135; refine (hR _).mono ?_; rintro e w1 ⟨rfl, b1⟩; have hL1 := hL.below b1; have l10 := hL1.cell (i := 0) rfl; have l11 := hL1.cell (i := 1) rfl)
        | (go_at_call 136; refine (hH _).mono ?_; rintro e w2 ⟨rfl, b2⟩; have l21 := (hL1.below b2).cell (i := 1) rfl)
        | fail)
      refine (hT1 _).mono ?_
      rintro e w3 ⟨rfl, b3⟩
      go_wp2_with fail
      refine (hCW _ (hTb _ (below_join (below_join (below_join hB b1) b2) b3))).mono ?_
      rintro e w4 ⟨rfl, b4⟩
      go_wp2_with fail
      refine (hT2 _).mono ?_
      rintro e w5 ⟨rfl, b5⟩
      have B5 := below_join (below_join (below_join (below_join (below_join hB b1) b2) b3) b4) b5
      have hD5 := ((((hD.below b1).below b2).below b3).below b4).below b5
      have hL5 := (((hL1.below b2).below b3).below b4).below b5
      have l51 := hL5.cell (i := 1) rfl
      go_wp2_with (refine wpList_store_row rfl 159 (.tmp 2) (.tmp 33) rfl (w.heap.size + 1) (dvC 0 0 ⟨#[]⟩) rfl rfl 159 _ hD5 dv_info rfl (dv_one _ _ _) ?_)
      refine bodyPost_ret (results_row_tmp rfl _ _ (w.heap.size + 1) 159 (dvC 0 0 ⟨#[]⟩) (0, 0) _ rfl (lies_setRow hD5 _) Tryz.underlying159 rfl dv_info) rfl ?_
      exact ⟨rfl, below_setRow' B5 (by omega) _⟩
    | true =>
      rw [hsay, if_pos rfl] at hCW
      have hT2 := fun W => tl_at x (pastL (un x) (hd (un x) + 1) + 6) W
      have hP := fun W => Tryz.strings_HasPrefix (bs ((un x).drop (pastL (un x) (pastL (un x) (hd (un x) + 1) + 6)))) ⟨#[61]⟩ W
      have eP : Lib.hasPrefix (bs ((un x).drop (pastL (un x) (pastL (un x) (hd (un x) + 1) + 6)))).data.toList (⟨#[61]⟩ : ByteArray).data.toList = decide ((un x)[pastL (un x) (pastL (un x) (hd (un x) + 1) + 6)]? = some 61) := by
        rw [show (bs ((un x).drop (pastL (un x) (pastL (un x) (hd (un x) + 1) + 6)))).data.toList = (un x).drop (pastL (un x) (pastL (un x) (hd (un x) + 1) + 6)) from un_bs _]; exact eq_pre _ _
      rw [eP] at hP
      have hsl := says_le hsay
      rw [un_length] at hsl
      have hp2 := past_leT (un x) (pastL (un x) (hd (un x) + 1) + 6) (by rw [un_length]; exact hsl)
      rw [un_length] at hp2
      clear HDr
      have HDr := dir_says hrem
      rw [hsay] at HDr
      simp only [true_and] at HDr
      generalize hP2 : pastL (un x) (pastL (un x) (hd (un x) + 1) + 6) = P2 at *
      generalize hP1 : pastL (un x) (hd (un x) + 1) = P1 at *
      have hne : ¬ (un x)[P2]? = some 61 := fun e => by rw [if_pos e] at HDr; rw [hd0] at HDr; cases HDr
      rw [decide_eq_false hne] at hP
      clear HDr eP
      generalize bs ((un x).drop P1) = E1 at *
      generalize bs ((un x).drop (P1 + 6)) = E2 at *
      generalize bs ((un x).drop P2) = E3 at *
      generalize hE0 : bs ((un x).drop (hd (un x) + 1)) = E0 at *
      unfold flV flC dvC at *
      go_enter Tryz.func90, Tryz.ntmps90
      go_wp2_with (first
        | (go_at_call 135; refine (hR _).mono ?_; rintro e w1 ⟨rfl, b1⟩; have hL1 := hL.below b1; have l10 := hL1.cell (i := 0) rfl; have l11 := hL1.cell (i := 1) rfl)
        | (go_at_call 136; refine (hH _).mono ?_; rintro e w2 ⟨rfl, b2⟩; have l21 := (hL1.below b2).cell (i := 1) rfl)
        | fail)
      refine (hT1 _).mono ?_
      rintro e w3 ⟨rfl, b3⟩
      go_wp2_with fail
      refine (hCW _ (hTb _ (below_join (below_join (below_join hB b1) b2) b3))).mono ?_
      rintro e w4 ⟨rfl, b4⟩
      go_wp2_with fail
      refine (hT2 _).mono ?_
      rintro e w5 ⟨rfl, b5⟩
      have B5 := below_join (below_join (below_join (below_join (below_join hB b1) b2) b3) b4) b5
      have hD5 := ((((hD.below b1).below b2).below b3).below b4).below b5
      have hL5 := (((hL1.below b2).below b3).below b4).below b5
      have l51 := hL5.cell (i := 1) rfl
      go_wp2_with (first
        | (go_at_call 139; refine (hP _).mono ?_; rintro e w6 ⟨rfl, rfl⟩)
        | (refine wpList_store_row rfl 159 (.tmp 2) (.tmp 33) rfl (w.heap.size + 1) (dvC 0 0 ⟨#[]⟩) rfl rfl 159 _ hD5 dv_info rfl (dv_one _ _ _) ?_))
      refine bodyPost_ret (results_row_tmp rfl _ _ (w.heap.size + 1) 159 (dvC 0 0 ⟨#[]⟩) (0, 0) _ rfl (lies_setRow hD5 _) Tryz.underlying159 rfl dv_info) rfl ?_
      exact ⟨rfl, below_setRow' B5 (by omega) _⟩
set_option maxRecDepth 100000 in
set_option maxHeartbeats 1000000 in
theorem directive_some (hE : EqF) (n : Nat) (x : ByteArray) (w : World) (hTb : ∀ W, Below w.heap.size w W → Tabs W) (hs : x.size ≤ 1099511627776) (a : Nat) (hd0 : dirAt (un x) = some a) :
    Calls Tryz.prog 90 #[flV n x] w fun e w' => e = .returned (.tuple #[.agg (dvC (hd (un x) + 1) (a + 1) (bs (trimL ((un x).drop (a + 1))))), .bool true]) ∧ Below w.heap.size w w' := by
  have hB : Below w.heap.size w ((w.alloc (.cells #[.int .i64 n, .string x] 155)).alloc (.cells (dvC 0 0 ⟨#[]⟩) 159)) := ((Below.refl _ w).alloc (Nat.le_refl _) _).alloc (by simp) _
  have hL : Lies ((w.alloc (.cells #[.int .i64 n, .string x] 155)).alloc (.cells (dvC 0 0 ⟨#[]⟩) 159)) w.heap.size 155 (flC n x) := (Lies.new w _ _).alloc _
  have hD : Lies ((w.alloc (.cells #[.int .i64 n, .string x] 155)).alloc (.cells (dvC 0 0 ⟨#[]⟩) 159)) (w.heap.size + 1) 159 (dvC 0 0 ⟨#[]⟩) := by
    have := Lies.new (w.alloc (.cells #[.int .i64 n, .string x] 155)) 159 (dvC 0 0 ⟨#[]⟩)
    simpa using this
  have hR := fun W => isRemark_p n x W hs
  have hH := fun W => head_p n x W hs
  cases hrem : rem (un x) with
  | false => rw [dir_no1 hrem] at hd0; cases hd0
  | true =>
    have hh : hd (un x) < x.size := by
      have : (un x)[hd (un x)]? = some 35 := by unfold rem at hrem; exact of_decide_eq_true hrem
      have := (List.getElem?_eq_some_iff.1 this).1
      rwa [un_length] at this
    rw [hrem] at hR
    have hT1 := fun W => tl_at x (hd (un x) + 1) W
    have hp1 := past_leT (un x) (hd (un x) + 1) (by rw [un_length]; omega)
    rw [un_length] at hp1
    have hCW := fun W hW => cw_at hE x (pastL (un x) (hd (un x) + 1)) W hW hp1 hs
    have HX := ext_end x (hd (un x) + 1)
    have d0 : (0 : Int) ≤ (hd (un x) : Int) + 1 := by omega
    have d1 : (hd (un x) : Int) + 1 ≤ (x.size : Int) := by omega
    have hw1 : IntKind.i64.wrap ((hd (un x) : Int) + 1) = (hd (un x) : Int) + 1 := wrap_small _ (by omega) (by omega)
    have HDr : Hid _ := dir_says hrem
    cases hsay : saysL (un x) (pastL (un x) (hd (un x) + 1)) escW with
    | false =>
      have := dir_says hrem
      rw [hd0, hsay] at this
      simp at this
    | true =>
      rw [hsay, if_pos rfl] at hCW
      have hT2 := fun W => tl_at x (pastL (un x) (hd (un x) + 1) + 6) W
      have hP := fun W => Tryz.strings_HasPrefix (bs ((un x).drop (pastL (un x) (pastL (un x) (hd (un x) + 1) + 6)))) ⟨#[61]⟩ W
      have eP : Lib.hasPrefix (bs ((un x).drop (pastL (un x) (pastL (un x) (hd (un x) + 1) + 6)))).data.toList (⟨#[61]⟩ : ByteArray).data.toList = decide ((un x)[pastL (un x) (pastL (un x) (hd (un x) + 1) + 6)]? = some 61) := by
        rw [show (bs ((un x).drop (pastL (un x) (pastL (un x) (hd (un x) + 1) + 6)))).data.toList = (un x).drop (pastL (un x) (pastL (un x) (hd (un x) + 1) + 6)) from un_bs _]; exact eq_pre _ _
      rw [eP] at hP
      have hsl := says_le hsay
      rw [un_length] at hsl
      have hp2 := past_leT (un x) (pastL (un x) (hd (un x) + 1) + 6) (by rw [un_length]; exact hsl)
      rw [un_length] at hp2
      clear HDr
      have HDr := dir_says hrem
      rw [hsay] at HDr
      simp only [true_and] at HDr
      generalize hP2 : pastL (un x) (pastL (un x) (hd (un x) + 1) + 6) = P2 at *
      generalize hP1 : pastL (un x) (hd (un x) + 1) = P1 at *
      have hyes : (un x)[P2]? = some 61 := by
        by_cases e : (un x)[P2]? = some 61
        · exact e
        · rw [if_neg e, hd0] at HDr; cases HDr
      rw [if_pos hyes, hd0] at HDr
      obtain rfl : a = P2 := Option.some.inj HDr
      have hlt := (List.getElem?_eq_some_iff.1 hyes).1
      rw [un_length] at hlt
      rw [decide_eq_true hyes] at hP
      clear HDr eP
      have hz3 : ((bs ((un x).drop a)).size : Int) = (x.size : Int) - (a : Int) := by rw [size_bs, List.length_drop, un_length]; omega
      have hX3 : (bs ((un x).drop a)).extract 1 (bs ((un x).drop a)).size = bs ((un x).drop (a + 1)) := by rw [ext_end, un_bs, List.drop_drop]
      have d3 : (1 : Int) ≤ ((bs ((un x).drop a)).size : Int) := by rw [hz3]; omega
      have hTr := fun W => trim_p (bs ((un x).drop (a + 1))) W (by rw [size_bs, List.length_drop, un_length]; omega)
      rw [un_bs] at hTr
      have hw2 : IntKind.i64.wrap ((x.size : Int) - ((x.size : Int) - (a : Int))) = (a : Int) := by rw [wrap_small _ (by omega) (by omega)]; omega
      have hw3 : IntKind.i64.wrap ((a : Int) + 1) = (a : Int) + 1 := wrap_small _ (by omega) (by omega)
      generalize bs (trimL ((un x).drop (a + 1))) = V at *
      generalize bs ((un x).drop P1) = E1 at *
      generalize bs ((un x).drop (P1 + 6)) = E2 at *
      generalize bs ((un x).drop (a + 1)) = E4 at *
      generalize bs ((un x).drop a) = E3 at *
      generalize hE0 : bs ((un x).drop (hd (un x) + 1)) = E0 at *
      unfold flV flC dvC at *
      go_enter Tryz.func90, Tryz.ntmps90
      go_wp2_with (first
        | (go_at_call 135; refine (hR _).mono ?_; rintro e w1 ⟨rfl, b1⟩; have hL1 := hL.below b1; have l10 := hL1.cell (i := 0) rfl; have l11 := hL1.cell (i := 1) rfl)
        | (go_at_call 136; refine (hH _).mono ?_; rintro e w2 ⟨rfl, b2⟩; have l21 := (hL1.below b2).cell (i := 1) rfl)
        | fail)
      refine (hT1 _).mono ?_
      rintro e w3 ⟨rfl, b3⟩
      go_wp2_with fail
      refine (hCW _ (hTb _ (below_join (below_join (below_join hB b1) b2) b3))).mono ?_
      rintro e w4 ⟨rfl, b4⟩
      go_wp2_with fail
      refine (hT2 _).mono ?_
      rintro e w5 ⟨rfl, b5⟩
      have B5 := below_join (below_join (below_join (below_join (below_join hB b1) b2) b3) b4) b5
      have hD5 := ((((hD.below b1).below b2).below b3).below b4).below b5
      have hL5 := (((hL1.below b2).below b3).below b4).below b5
      have l51 := hL5.cell (i := 1) rfl
      go_wp2_with (first
        | (go_at_call 139; refine (hP _).mono ?_; rintro e w6 ⟨rfl, rfl⟩)
        | fail)
      refine (hTr _).mono ?_
      rintro e w7 ⟨rfl, b7⟩
      have hD7 := hD5.below b7
      go_wp2_with (refine wpList_store_row rfl 159 (.tmp 2) (.tmp 47) rfl (w.heap.size + 1) (dvC (hd (un x) + 1) (a + 1) V) rfl rfl 159 _ hD7 dv_info rfl (dv_one _ _ _) ?_)
      refine bodyPost_ret (results_row_tmp rfl _ _ (w.heap.size + 1) 159 (dvC (hd (un x) + 1) (a + 1) V) (0, 0) _ rfl (lies_setRow hD7 _) Tryz.underlying159 rfl dv_info) rfl ?_
      exact ⟨rfl, below_setRow' (below_join B5 b7) (by omega) _⟩
end Go.Proofs.YtjgijbeedgggdaaGreatDoor
