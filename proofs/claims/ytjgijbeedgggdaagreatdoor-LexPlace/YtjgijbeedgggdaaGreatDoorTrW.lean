/- The lines' methods: head, isRemark, says, end. -/
import Derived.Test.YtjgijbeedgggdaaGreatDoorRdW
import Derived.Test.YtjgijbeedgggdaaGreatDoorTrM
namespace Go.Proofs.YtjgijbeedgggdaaGreatDoor
open Go Go.RowKit

theorem wrap_small (n : Int) (h0 : -4611686018427387904 ≤ n) (h1 : n ≤ 4611686018427387904) : IntKind.i64.wrap n = n := by
  simp only [IntKind.wrap, IntKind.bits, IntKind.signed]
  simp
  omega
abbrev bl3S : ByteArray := ⟨#[32, 9, 13]⟩
theorem trimL_p (s : ByteArray) (w : World) : Calls Tryz.prog 138 #[.string s, .string bl3S] w fun e w' => e = .returned (.string (bs ((un s).drop (hd (un s))))) ∧ Below w.heap.size w w' := by
  rw [← trimLeft3]
  exact Any.strings_TrimLeft_laid Tryz.lays161 (by kernel_rfl) s ⟨#[32, 9, 13]⟩ w (by decide) (ascii_of_all (by decide))
theorem trimR_p (s : ByteArray) (w : World) (hs : s.size ≤ 9223372036854775807) : Calls Tryz.prog 133 #[.string s, .string bl3S] w fun e w' => e = .returned (.string (bs ((un s).take (en (un s))))) ∧ Below w.heap.size w w' := by
  rw [← trimRight3]
  exact Any.strings_TrimRight_laid Tryz.lays162 (by kernel_rfl) s ⟨#[32, 9, 13]⟩ w hs (by decide) (ascii_of_all (by decide))
theorem trim_p (s : ByteArray) (w : World) (hs : s.size ≤ 9223372036854775807) : Calls Tryz.prog 93 #[.string s, .string bl3S] w fun e w' => e = .returned (.string (bs (trimL (un s)))) ∧ Below w.heap.size w w' := by
  rw [← trim3]
  exact Any.strings_Trim_laid Tryz.lays160 (by kernel_rfl) s ⟨#[32, 9, 13]⟩ w hs (by decide) (ascii_of_all (by decide))

set_option maxRecDepth 100000 in
theorem head_p (n : Nat) (x : ByteArray) (w : World) (hs : x.size ≤ 1099511627776) : Calls Tryz.prog 136 #[flV n x] w fun e w' => e = .returned (.int .i64 (hd (un x))) ∧ Below w.heap.size w w' := by
  have hB : Below w.heap.size w (w.alloc (.cells #[.int .i64 n, .string x] 155)).drew := ((Below.refl _ w).alloc (Nat.le_refl _) _).drew
  have hL : Lies (w.alloc (.cells #[.int .i64 n, .string x] 155)).drew w.heap.size 155 #[.int .i64 n, .string x] := Lies.new w _ _
  have c1 := hL.cell (i := 1) rfl
  have hh := hd_leT (un x)
  rw [un_length] at hh
  have hz : ((bs ((un x).drop (hd (un x)))).size : Int) = (x.size : Int) - (hd (un x) : Int) := by rw [size_bs, List.length_drop, un_length]; omega
  have hT := fun W => trimL_p x W
  generalize hd (un x) = H at *
  have hw : IntKind.i64.wrap ((x.size : Int) - ((x.size : Int) - (H : Int))) = (H : Int) := by rw [wrap_small _ (by omega) (by omega)]; omega
  unfold flV flC
  go_enter Tryz.func136, Tryz.ntmps136
  go_wp2
  go_region_held3 (fun W => W.cell? ⟨w.heap.size, 1, none⟩ = some (.string x))
    (first | exact c1 | exact c2 | go_keep)
    ((go_at_call 138; refine (hT _).mono ?_; rintro e w1 ⟨rfl, b1⟩; have c2 := (hL.below b1).cell (i := 1) rfl))
  go_wp2
  go_ret
  exact ⟨rfl, below_join hB b1⟩
/-- Is a line a remark? -/
def rem (x : Ln) : Bool := decide (x[hd x]? = some 35)
theorem hash_pre (x : Ln) (k : Nat) : Lib.hasPrefix (x.drop k) [35] = decide (x[k]? = some 35) := by
  unfold Lib.hasPrefix
  rw [← List.head?_drop]
  cases x.drop k with
  | nil => rfl
  | cons b r =>
    show ((35 : UInt8) == b && true) = decide (some b = some 35)
    rw [Bool.and_true]
    by_cases h : b = 35
    · subst h; rfl
    · rw [decide_eq_false (fun e => h (Option.some.inj e))]
      simp; exact fun e => h e.symm
set_option maxRecDepth 100000 in
theorem isRemark_p (n : Nat) (x : ByteArray) (w : World) (hs : x.size ≤ 1099511627776) : Calls Tryz.prog 135 #[flV n x] w fun e w' => e = .returned (.bool (rem (un x))) ∧ Below w.heap.size w w' := by
  have hB : Below w.heap.size w (w.alloc (.cells #[.int .i64 n, .string x] 155)).drew := ((Below.refl _ w).alloc (Nat.le_refl _) _).drew
  have hL : Lies (w.alloc (.cells #[.int .i64 n, .string x] 155)).drew w.heap.size 155 #[.int .i64 n, .string x] := Lies.new w _ _
  have c0 := hL.cell (i := 0) rfl
  have c1 := hL.cell (i := 1) rfl
  have hh := hd_leT (un x)
  rw [un_length] at hh
  have hH := fun W => head_p n x W hs
  have hP := fun W => Tryz.strings_HasPrefix (x.extract (hd (un x)) x.size) ⟨#[35]⟩ W
  have e1 : Lib.hasPrefix (x.extract (hd (un x)) x.size).data.toList (⟨#[35]⟩ : ByteArray).data.toList = rem (un x) := by
    rw [ext_end, show (bs ((un x).drop (hd (un x)))).data.toList = (un x).drop (hd (un x)) from un_bs _]; exact hash_pre _ _
  rw [e1] at hP
  unfold flV flC at *
  generalize hd (un x) = H at *
  have d0 : (0 : Int) ≤ (H : Int) := by omega
  have d1 : (H : Int) ≤ (x.size : Int) := by omega
  go_enter Tryz.func135, Tryz.ntmps135
  go_wp2
  go_region_held3 (fun W => W.cell? ⟨w.heap.size, 0, none⟩ = some (.int .i64 n) ∧ W.cell? ⟨w.heap.size, 1, none⟩ = some (.string x))
    (first | exact ⟨c0, c1⟩ | exact ⟨(hL.below b1).cell (i := 0) rfl, (hL.below b1).cell (i := 1) rfl⟩ | go_keep)
    (first
      | (go_at_call 136; refine (hH _).mono ?_; rintro e w1 ⟨rfl, b1⟩)
      | (go_at_call 139; refine (hP _).mono ?_; rintro e w2 ⟨rfl, rfl⟩))
  go_wp2
  go_ret
  exact ⟨rfl, below_join hB b1⟩
theorem noth_rem (x : Ln) : (!noth x) = (decide (hd x < x.length) && !rem x) := by
  unfold noth rem
  rcases Nat.lt_or_ge (hd x) x.length with h | h
  · obtain ⟨b, hb⟩ : ∃ b, x[hd x]? = some b := ⟨_, List.getElem?_eq_getElem h⟩
    rw [hb, decide_eq_true h]
    by_cases h3 : b = 35
    · subst h3; rfl
    · rw [decide_eq_false (fun e => h3 (Option.some.inj e))]; simp [h3]
  · rw [List.getElem?_eq_none h, decide_eq_false (by omega)]; rfl
set_option maxRecDepth 100000 in
theorem says_p (n : Nat) (x : ByteArray) (w : World) (hs : x.size ≤ 1099511627776) : Calls Tryz.prog 140 #[flV n x] w fun e w' => e = .returned (.bool (!noth (un x))) ∧ Below w.heap.size w w' := by
  have hB : Below w.heap.size w (w.alloc (.cells #[.int .i64 n, .string x] 155)).drew := ((Below.refl _ w).alloc (Nat.le_refl _) _).drew
  have hL : Lies (w.alloc (.cells #[.int .i64 n, .string x] 155)).drew w.heap.size 155 #[.int .i64 n, .string x] := Lies.new w _ _
  have c0 := hL.cell (i := 0) rfl
  have c1 := hL.cell (i := 1) rfl
  have hH := fun W => head_p n x W hs
  have hR := fun W => isRemark_p n x W hs
  have HN := noth_rem (un x)
  have hh := hd_leT (un x)
  rw [un_length] at hh HN
  unfold flV flC at *
  generalize hd (un x) = H at *
  generalize rem (un x) = R at *
  rcases Nat.lt_or_ge H x.size with hlt | hge
  · have d0 : decide ((H : Int) < (x.size : Int)) = true := decide_eq_true (by omega)
    rw [decide_eq_true hlt, Bool.true_and] at HN
    rw [HN]
    clear HN
    go_enter Tryz.func140, Tryz.ntmps140
    go_wp2
    go_region_held3 (fun W => W.cell? ⟨w.heap.size, 0, none⟩ = some (.int .i64 n) ∧ W.cell? ⟨w.heap.size, 1, none⟩ = some (.string x))
      (first | exact ⟨c0, c1⟩ | exact ⟨(hL.below b1).cell (i := 0) rfl, (hL.below b1).cell (i := 1) rfl⟩ | exact ⟨((hL.below b1).below b2).cell (i := 0) rfl, ((hL.below b1).below b2).cell (i := 1) rfl⟩ | go_keep)
      (first
        | (go_at_call 136; refine (hH _).mono ?_; rintro e w1 ⟨rfl, b1⟩)
        | (go_at_call 135; refine (hR _).mono ?_; rintro e w2 ⟨rfl, b2⟩))
    go_wp2
    go_ret
    exact ⟨rfl, below_join (below_join hB b1) b2⟩
  · have d0 : decide ((H : Int) < (x.size : Int)) = false := decide_eq_false (by omega)
    have d1 : ¬ (H : Int) < (x.size : Int) := by omega
    rw [decide_eq_false (by omega), Bool.false_and] at HN
    rw [HN]
    clear HN
    go_enter Tryz.func140, Tryz.ntmps140
    go_wp2
    refine wp_region_noPanic ?_
    refine wp_region_held_drew (S := fun W => W.cell? ⟨w.heap.size, 0, none⟩ = some (.int .i64 n) ∧ W.cell? ⟨w.heap.size, 1, none⟩ = some (.string x)) (by kernel_rfl) ⟨c0, c1⟩ (fun h0 => ?_)
    refine wpAnyH_take (i := 0) (v := .agg #[.int .i64 n, .string x]) rfl (by kernel_rfl) (by kernel_rfl) (by kernel_rfl) (fun _ _ _ h => h) (Or.inl ⟨by rfl, fun W hSw => by obtain ⟨s0, s1⟩ := hSw; go_simp⟩) h0 ?_
    try dsimp [Act.put]
    try simp only [List.setIfInBounds_toArray, List.set_cons_succ, List.set_cons_zero]
    refine wpAnyH_take (i := 2) (v := .pointer (some ⟨w.heap.size, 1, none⟩)) rfl (by kernel_rfl) (by kernel_rfl) (by kernel_rfl) (fun _ _ _ h => h) (Or.inl ⟨by rfl, fun W hSw => by obtain ⟨s0, s1⟩ := hSw; go_simp⟩) h0 ?_
    try dsimp [Act.put]
    try simp only [List.setIfInBounds_toArray, List.set_cons_succ, List.set_cons_zero]
    refine wpAnyH_take (i := 3) (v := .string x) rfl (by kernel_rfl) (by kernel_rfl) (by kernel_rfl) (fun _ _ _ h => h) (Or.inl ⟨by rfl, fun W hSw => by obtain ⟨s0, s1⟩ := hSw; go_simp⟩) h0 ?_
    try dsimp [Act.put]
    try simp only [List.setIfInBounds_toArray, List.set_cons_succ, List.set_cons_zero]
    refine wpAnyH_take (i := 4) (v := .int .i64 x.size) rfl (by kernel_rfl) (by kernel_rfl) (by kernel_rfl) (fun _ _ _ h => h) (Or.inl ⟨by rfl, fun W hSw => by obtain ⟨s0, s1⟩ := hSw; go_simp⟩) h0 ?_
    try dsimp [Act.put]
    try simp only [List.setIfInBounds_toArray, List.set_cons_succ, List.set_cons_zero]
    refine wpAnyH_ready (rs := [1]) (by kernel_rfl) (by simp) ?_
    refine AllReadyH.cons rfl ?_ AllReadyH.nil
    intro K' hK
    rw [if_pos (by rfl)]
    go_wp2_with fail
    refine (hH _).mono ?_
    rintro e w1 ⟨rfl, b1⟩
    go_wp2_with fail
    refine hK.out _ _ ⟨(hL.below b1).cell (i := 0) rfl, (hL.below b1).cell (i := 1) rfl⟩ (fun h0 => ?_)
    clear hK
    try dsimp [Act.put]
    try simp only [List.setIfInBounds_toArray, List.set_cons_succ, List.set_cons_zero]
    refine wpAnyH_take (i := 5) (v := .bool false) rfl (by kernel_rfl) (by kernel_rfl) (by kernel_rfl) (fun _ _ _ h => h) (Or.inl ⟨by rfl, fun W hSw => by obtain ⟨s0, s1⟩ := hSw; go_simp⟩) h0 ?_
    try dsimp [Act.put]
    try simp only [List.setIfInBounds_toArray, List.set_cons_succ, List.set_cons_zero]
    refine wpAnyH_take (i := 6) (v := .bool false) rfl (by kernel_rfl) (by kernel_rfl) (by kernel_rfl) (fun _ _ _ h => h) (Or.inl ⟨by rfl, fun W hSw => by obtain ⟨s0, s1⟩ := hSw; go_simp⟩) h0 ?_
    try dsimp [Act.put]
    try simp only [List.setIfInBounds_toArray, List.set_cons_succ, List.set_cons_zero]
    refine wpAnyH_take (i := 7) (v := undef) rfl (by kernel_rfl) (by kernel_rfl) (by kernel_rfl) (fun _ _ _ h => h) (Or.inr ⟨by rfl, rfl⟩) h0 ?_
    try dsimp [Act.put]
    try simp only [List.setIfInBounds_toArray, List.set_cons_succ, List.set_cons_zero]
    refine wpAnyH_take (i := 8) (v := undef) rfl (by kernel_rfl) (by kernel_rfl) (by kernel_rfl) (fun _ _ _ h => h) (Or.inr ⟨by rfl, rfl⟩) h0 ?_
    try dsimp [Act.put]
    try simp only [List.setIfInBounds_toArray, List.set_cons_succ, List.set_cons_zero]
    refine wpAnyH_take (i := 9) (v := undef) rfl (by kernel_rfl) (by kernel_rfl) (by kernel_rfl) (fun _ _ _ h => h) (Or.inr ⟨by rfl, rfl⟩) h0 ?_
    try dsimp [Act.put]
    try simp only [List.setIfInBounds_toArray, List.set_cons_succ, List.set_cons_zero]
    refine wpAnyH_take (i := 10) (v := .bool false) rfl (by kernel_rfl) (by kernel_rfl) (by kernel_rfl) (fun _ _ _ h => h) (Or.inl ⟨by rfl, fun W hSw => by obtain ⟨s0, s1⟩ := hSw; go_simp⟩) h0 ?_
    try dsimp [Act.put]
    try simp only [List.setIfInBounds_toArray, List.set_cons_succ, List.set_cons_zero]
    refine wpAnyH_take (i := 11) (v := .bool false) rfl (by kernel_rfl) (by kernel_rfl) (by kernel_rfl) (fun _ _ _ h => h) (Or.inl ⟨by rfl, fun W hSw => by obtain ⟨s0, s1⟩ := hSw; go_simp⟩) h0 ?_
    try dsimp [Act.put]
    try simp only [List.setIfInBounds_toArray, List.set_cons_succ, List.set_cons_zero]
    refine wpAnyH_done (by kernel_rfl) ?_ _
    refine NoPanic.normal ?_
    go_wp2
    go_ret
    exact ⟨rfl, below_join hB b1⟩
end Go.Proofs.YtjgijbeedgggdaaGreatDoor
