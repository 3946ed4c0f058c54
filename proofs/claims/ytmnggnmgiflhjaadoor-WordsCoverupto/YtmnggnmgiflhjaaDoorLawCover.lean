/- WordsCover: its walk. -/
import Derived.Test.YtmnggnmgiflhjaaDoorCovM
import Derived.Test.YtmnggnmgiflhjaaDoorBlkW
import Derived.Test.YtmnggnmgiflhjaaDoorWorksW
import Derived.Deep.Cut
import Derived.BigQuiet
namespace Go.Proofs.YtmnggnmgiflhjaaDoor
open Go Go.RowKit

theorem split_len' (e : UInt8) (l : List UInt8) (xs : List (Nat × Nat)) (h : splitR e l = .ok xs) : xs.length ≤ l.length + 1 := by
  have ho := stA_out e l l.length (Nat.le_refl _)
  unfold splitR at h
  split at h
  · cases h
  · cases h
    split
    · rw [List.length_append]; simp; omega
    · omega
theorem wrap_small (n : Int) (h0 : -4611686018427387904 ≤ n) (h1 : n ≤ 4611686018427387904) : IntKind.i64.wrap n = n := by
  simp only [IntKind.wrap, IntKind.bits, IntKind.signed]
  simp
  omega
theorem bls_all (s : ByteArray) (a b : Nat) (h : Bls (un s) a b) : (un (s.extract a b)).all isBl = true := by
  rw [un_extract, List.all_eq_true]
  intro x hx
  obtain ⟨j, hj, rfl⟩ := List.getElem_of_mem hx
  have h2 : (((un s).take b).drop a)[j]? = some (((un s).take b).drop a)[j] := List.getElem?_eq_getElem hj
  rw [List.getElem?_drop, List.getElem?_take] at h2
  split at h2
  · exact h (a + j) _ (by omega) (by omega) h2
  · cases h2
theorem one_not (s : ByteArray) (a b : Nat) (c : UInt8) (h : (un s)[a]? = some c) (hab : a < b) (hc : isBl c = false) : (un ((s.extract a b).extract 0 1)).all isBl = false := by
  rw [List.all_eq_false]
  refine ⟨c, ?_, by rw [hc]; decide⟩
  rw [un_extract, un_extract]
  apply List.mem_of_getElem? (i := 0)
  rw [List.drop_zero, List.getElem?_take, if_pos (by omega), List.getElem?_drop, List.getElem?_take, if_pos (by omega)]
  exact h
set_option maxRecDepth 100000 in
set_option maxHeartbeats 8000000 in
theorem wordscover_law (s : ByteArray) (c : UInt8) (w : World) (he : ErrType w) (hs : s.size ≤ 1073741824) : Calls Tryd.prog 5 #[.string s, .int .u8 c.toNat] w fun e w' => e = .returned (.bool true) ∧ Below w.heap.size w w' := by
  have hsl := un_length s
  cases hr : splitR (escN c) (un s) with
  | error q =>
    have h1 := fun W => split_err s c q hr W (by omega)
    obtain ⟨hq, hq2⟩ := split_quo _ _ _ hr
    have hq1 : q < s.size := by omega
    have hget := un_getElem? s q hq1
    have hd : (decide (s[q] = 34) || decide (s[q] = 39)) = true := by
      rcases hq2 with h | h <;> (rw [hget] at h; have := Option.some.inj h; simp [this])
    have q1 : ((s[q].toNat : Int) == 34) = decide (s[q] = 34) := beq_u8 s[q] 34 (by decide)
    have q2 : ((s[q].toNat : Int) == 39) = decide (s[q] = 39) := beq_u8 s[q] 39 (by decide)
    have k0 : (0 : Int) ≤ (q : Int) := by omega
    have k1 : (q : Int) < (s.size : Int) := by omega
    clear hr hq2 hget hq
    generalize decide (s[q] = 34) = m1 at *
    generalize decide (s[q] = 39) = m2 at *
    go_enter Tryd.func5, Tryd.ntmps5
    go_wp2_with fail
    refine (h1 _).mono ?_
    rintro e w1 ⟨rfl, b1⟩
    have he1 := he.below b1
    go_wp2_with fail
    refine (place_p 18 0 q (by decide) (by decide) w1 he1).mono ?_
    rintro e w2 ⟨rfl, b2⟩
    have hb2 := below_join b1 b2
    have he2 := he.below hb2
    clear b1 b2 he1
    go_wp2_with fail
    refine (num_fault 18 0 q (by decide) (by decide) w2).mono ?_
    rintro e w3 ⟨rfl, b3⟩
    have hb3 := below_join hb2 b3
    have he3 := he2.below b3
    clear hb2 b3 he2
    cases m1 <;> cases m2
    · exact absurd hd (by decide)
    all_goals
      clear hd
      go_wp2_with fail
      refine (works_w _ he3).mono ?_
      rintro e w4 ⟨rfl, b4⟩
      have hb4 := below_join hb3 b4
      go_wp2
      go_ret
      exact ⟨rfl, hb4⟩
  | ok xs =>
    have h1 := fun W => split_ok s c xs hr W (by omega)
    obtain ⟨hcov, htail, htl⟩ := split_cov _ _ _ hr
    have HC : Hid (PCov (un s) xs) := hcov
    have HT : Hid ((un (s.extract (prevE xs xs.length) s.size)).all isBl = true ∧ prevE xs xs.length ≤ s.size) := ⟨bls_all s _ _ (by rw [← hsl]; exact htail), by omega⟩
    have hxl0 := split_len' _ _ _ hr
    rw [hsl] at hxl0
    clear hr hcov htail htl
    go_enter Tryd.func5, Tryd.ntmps5
    go_wp2_with fail
    refine (h1 _).mono ?_
    rintro e w1 ⟨v, rfl, ho, b1⟩
    have HV : Hid (WdsAt w1 v (wdsOf s xs)) := wds_of_owns (es := wdsOf s xs) (by rw [wdsOf_length]; exact ho)
    have he1 := he.below b1
    have hxl : (wdsOf s xs).length = xs.length := wdsOf_length s xs
    obtain ⟨a, cap, b, o, hva, ha, hcap, hc⟩ := HV.out
    rw [hxl] at hva hcap
    subst hva
    have HA : Hid (∀ i : Nat, ∀ x : Nat × Nat, xs[i]? = some x → a = some ⟨b, o, none⟩ ∧ WdC w1 b (o + i * 2) (wdOf s x)) := fun i x hx => by
      refine ⟨ha (fun e => ?_), hc i _ (by unfold wdsOf; rw [List.getElem?_map, hx]; rfl)⟩
      have := (List.getElem?_eq_some_iff.1 hx).1
      rw [e] at hxl; simp at hxl; omega
    clear ho hc ha HV
    go_wp2
    go_loopw [10, 11, 12, 13] (fun en iv _ _ wr => ∃ i : Nat, iv = .int .i64 i ∧ i ≤ xs.length ∧ en = .int .i64 (prevE xs i) ∧ Below w1.heap.size w1 wr) (fun _ iv _ _ _ => xs.length - (intOf iv).toNat)
    case atStart => exact ⟨0, rfl, Nat.zero_le _, rfl, Below.refl _ _⟩
    case round =>
      obtain ⟨i, rfl, hi, rfl, hbw⟩ := hrel
      by_cases hlt : i < xs.length
      · obtain ⟨x, hx⟩ : ∃ x, xs[i]? = some x := ⟨_, List.getElem?_eq_getElem hlt⟩
        obtain ⟨p, z⟩ := x
        obtain ⟨c1, c2, ⟨cc, c3, c3'⟩, c4, c5, c6⟩ := HC.out i p z hx
        obtain ⟨rfl, dd⟩ := HA.out i _ hx
        obtain ⟨d0, d1⟩ := dd.below hbw
        clear dd
        have HE : Hid (prevE xs (i + 1) = z) := by show (xs[i]?.map (·.2)).getD 0 = z; rw [hx]; rfl
        have hb1 := fun W => blanks_p (s.extract (prevE xs i) p) W (by rw [size_extract' _ _ _ (by omega)]; omega)
        rw [bls_all s _ _ c6] at hb1
        have hb2 := fun W => blanks_p ((s.extract p z).extract 0 1) W (by rw [size_extract' _ _ _ (by rw [size_extract' _ _ _ (by omega)]; omega)]; omega)
        rw [one_not s p z cc c3 c1 c3'] at hb2
        have hzs : (s.extract p z).size = z - p := size_extract' _ _ _ (by omega)
        have d0' : wr.cell? ⟨b, o + i * 2, none⟩ = some (.int .i64 (p : Int)) := d0
        have d1' : wr.cell? ⟨b, o + i * 2 + 1, none⟩ = some (.string (s.extract p z)) := d1
        clear d0 d1 c3 c3' c6 hx HA
        have k0 : (0 : Int) ≤ (i : Int) := by omega
        have k1 : (i : Int) < (xs.length : Int) := by omega
        have HLT : Hid (i < xs.length) := hlt
        generalize prevE xs i = E at *
        have hne0 : ((s.extract p z).toList != (s.extract p z).toList) = false := by simp
        have HZ0 : Hid (p < z ∧ z ≤ s.size) := ⟨c1, by omega⟩
        generalize hR : s.extract p z = R at *
        obtain rfl : z = p + R.size := by omega
        have hne : ((s.extract p (p + R.size)).toList != R.toList) = false := by rw [hR]; exact hne0
        have j0 : (0 : Int) ≤ (p : Int) := by omega
        have j1' : (E : Int) ≤ (p : Int) := by omega
        have j4 : (p : Int) ≤ (p : Int) + (R.size : Int) := by omega
        have j5 : (p : Int) + (R.size : Int) ≤ (s.size : Int) := by omega
        have j6 : (p : Int) ≤ (s.size : Int) := by omega
        have j7 : (0 : Int) ≤ (E : Int) := by omega
        have j8 : (1 : Int) ≤ (R.size : Int) := by omega
        have e1 : decide ((p : Int) < (E : Int)) = false := decide_eq_false (by omega)
        have e2 : decide ((R.size : Int) < 1) = false := decide_eq_false (by omega)
        have e3 : decide ((s.size : Int) - (R.size : Int) < (p : Int)) = false := decide_eq_false (by omega)
        have hT : ((p : Int) + (R.size : Int)).toNat = p + R.size := by omega
        have hqq : ((s.extract p ((p : Int) + (R.size : Int)).toNat).toList == R.toList) = true := by rw [hT, hR]; simp
        have hw1 : IntKind.i64.wrap ((s.size : Int) - (R.size : Int)) = (s.size : Int) - (R.size : Int) := wrap_small _ (by omega) (by omega)
        have hw2 : IntKind.i64.wrap ((p : Int) + (R.size : Int)) = (p : Int) + (R.size : Int) := wrap_small _ (by omega) (by omega)
        have e1' : decide (p < E) = false := decide_eq_false (by omega)
        have e2' : decide (R.size < 1) = false := decide_eq_false (by omega)
        have e2'' : decide (R.size = 0) = false := decide_eq_false (by omega)
        have j9 : 0 < i → ((p : Int) == (E : Int)) = false := fun h => by have := c5 h; simp; omega
        clear hzs c1 c2 c4 c5 hne0
        by_cases hi0 : 0 < i
        · have e9 := j9 hi0
          have e8 : decide ((0 : Int) < (i : Int)) = true := decide_eq_true (by omega)
          have e8' : decide (0 < i) = true := decide_eq_true hi0
          clear j9
          go_wp2
          go_quiet (first | (go_at_call 19; first | with_reducible exact Calls.quiet_of_same (hb1 _) | with_reducible exact Calls.quiet_of_same (hb2 _)))
          go_wp2
          go_roundw
          case rel => exact ⟨i + 1, by go_num, HLT.out, by rw [HE.out]; go_num, below_drawn hbw _⟩
          case measure => have := HLT.out; simp [intOf]; omega
        · have e8 : decide ((0 : Int) < (i : Int)) = false := decide_eq_false (by omega)
          have e8' : decide (0 < i) = false := decide_eq_false hi0
          clear j9
          go_wp2
          go_quiet (first | (go_at_call 19; first | with_reducible exact Calls.quiet_of_same (hb1 _) | with_reducible exact Calls.quiet_of_same (hb2 _)))
          go_wp2
          go_roundw
          case rel => exact ⟨i + 1, by go_num, HLT.out, by rw [HE.out]; go_num, below_drawn hbw _⟩
          case measure => have := HLT.out; simp [intOf]; omega
      · obtain rfl : i = xs.length := by omega
        have hb3 := fun W => blanks_p (s.extract (prevE xs xs.length) s.size) W (by rw [size_extract' _ _ _ (Nat.le_refl _)]; omega)
        rw [HT.out.1] at hb3
        have hB3 := below_join b1 hbw
        have k1 : ¬ (xs.length : Int) < (xs.length : Int) := by omega
        have j1 : (0 : Int) ≤ (prevE xs xs.length : Int) := by omega
        have j2 : (prevE xs xs.length : Int) ≤ (s.size : Int) := by have := HT.out.2; omega
        generalize prevE xs xs.length = E at *
        clear HA HC HT
        go_wp2_with (first | (go_at_call 19; with_reducible refine (hb3 _).mono ?_; rintro e w' ⟨rfl, hw⟩; replace hw := hw.symm; subst hw) | fail)
        refine (works_w _ (he.below hB3)).mono ?_
        rintro e w4 ⟨rfl, b4⟩
        go_wp2
        go_ret
        exact ⟨rfl, below_join hB3 b4⟩
end Go.Proofs.YtmnggnmgiflhjaaDoor
