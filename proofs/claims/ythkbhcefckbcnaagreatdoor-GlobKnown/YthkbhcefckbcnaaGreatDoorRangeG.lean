/- Package glob's readRange. -/
import Derived.Test.YthkbhcefckbcnaaGreatDoorByte
namespace Go.Proofs.YthkbhcefckbcnaaGreatDoor
open Go Go.RowKit

theorem results_tmp4 {fn : Func} {t u v x : Tmp} (h : fn.results = #[.tmp t, .tmp u, .tmp v, .tmp x]) (tmps : Array Value) (P : Program) (w : World) :
    (results fn tmps).run P w = .ok (.tuple #[tmps.getD t undef, tmps.getD u undef, tmps.getD v undef, tmps.getD x undef]) w := by
  simp [results, h]

theorem size_bs_le {s r : ByteArray} {b : UInt8} (h : rByte (un s) = some (b, un r)) : r.size < s.size := by have := rByte_lt h; rw [un_length, un_length] at this; exact this

theorem pair_un {o : Option (UInt8 × List UInt8)} {x : UInt8 × List UInt8} (h : o = some x) : ∃ (b : UInt8) (r : ByteArray), o = some (b, un r) := ⟨x.1, bs x.2, by rw [h, un_bs]⟩

/-- What is asked behind a part of a set: does no range follow? -/
theorem noSpan_cases (r : ByteArray) (h : isSpan (un r) = false) : r.size < 2 ∨ (∃ h2 : 1 < r.size, r[0].toNat ≠ 45) ∨ (∃ h2 : 1 < r.size, r[0].toNat = 45 ∧ r[1].toNat = 93) := by
  cases hl : un r with
  | nil => left; rw [← un_length, hl]; simp
  | cons a l =>
    cases l with
    | nil => left; rw [← un_length, hl]; simp
    | cons b l =>
      have h2 : 1 < r.size := by rw [← un_length, hl]; simp
      have e0 := get_zero r a _ hl (by omega)
      have e1 := get_one r a b l hl h2
      right
      by_cases ha : r[0].toNat = 45
      · right
        refine ⟨h2, ha, ?_⟩
        rw [hl] at h
        have ha2 : a = 45 := by rw [e0] at ha; exact UInt8.toNat_inj.1 ha
        subst ha2
        rw [e1]
        simp [isSpan] at h
        rw [h]; rfl
      · exact .inl ⟨h2, ha⟩
theorem span_facts (r : ByteArray) (h : isSpan (un r) = true) : ∃ h2 : 1 < r.size, r[0].toNat = 45 ∧ r[1].toNat ≠ 93 := by
  cases hl : un r with
  | nil => rw [hl] at h; simp [isSpan] at h
  | cons a l =>
    cases l with
    | nil => rw [hl] at h; simp [isSpan] at h
    | cons b l =>
      have h2 : 1 < r.size := by rw [← un_length, hl]; simp
      have e0 := get_zero r a _ hl (by omega)
      have e1 := get_one r a b l hl h2
      rw [hl] at h
      simp [isSpan] at h
      refine ⟨h2, by rw [e0, h.1]; rfl, ?_⟩
      rw [e1]
      intro e
      exact h.2 (UInt8.toNat_inj.1 e)

set_option maxHeartbeats 2000000 in
theorem readRange_one (s r : ByteArray) (lo : UInt8) (w : World) (h : rByte (un s) = some (lo, un r)) (hn : isSpan (un r) = false) (hz : s.size ≤ 1099511627776) : Calls Tryz.prog 154 #[.string s] w fun e w' => e = .returned (.tuple #[.int .u8 lo.toNat, .int .u8 lo.toNat, .string r, .nilIface]) ∧ ∃ k, w' = w.drewN k := by
  have hlt := size_bs_le h
  have hc := readByte_ok s r lo w h hz
  have hcs := noSpan_cases r hn
  clear h hn
  rcases hcs with h2 | ⟨h2, h3⟩ | ⟨h2, h3, h4⟩
  · have d1 : (r.size : Int) < 2 := by omega
    go_enter Tryz.func154, Tryz.ntmps154
    go_wp2_with (go_at_call 144; refine hc.mono ?_; rintro e w' ⟨rfl, k, rfl⟩)
    ((try simp only [Exit.inBlock, Exit.then]); refine bodyPost_ret (results_tmp4 rfl _ _ _) rfl ?_)
    exact ⟨rfl, _, rfl⟩
  · have d1 : ¬ (r.size : Int) < 2 := by omega
    have d2 : (0 : Int) < (r.size : Int) := by omega
    have d3 : ((r[0].toNat : Int) == 45) = false := by simp; omega
    go_enter Tryz.func154, Tryz.ntmps154
    go_wp2_with (go_at_call 144; refine hc.mono ?_; rintro e w' ⟨rfl, k, rfl⟩)
    ((try simp only [Exit.inBlock, Exit.then]); refine bodyPost_ret (results_tmp4 rfl _ _ _) rfl ?_)
    exact ⟨rfl, _, rfl⟩
  · have d1 : ¬ (r.size : Int) < 2 := by omega
    have d2 : (0 : Int) < (r.size : Int) := by omega
    have d4 : (1 : Int) < (r.size : Int) := by omega
    go_enter Tryz.func154, Tryz.ntmps154
    go_wp2_with (go_at_call 144; refine hc.mono ?_; rintro e w' ⟨rfl, k, rfl⟩)
    ((try simp only [Exit.inBlock, Exit.then]); refine bodyPost_ret (results_tmp4 rfl _ _ _) rfl ?_)
    exact ⟨rfl, _, rfl⟩

set_option maxHeartbeats 2000000 in
theorem readRange_bad (s : ByteArray) (w : World) (h0 : un s ≠ []) (h : rByte (un s) = none) (hz : s.size ≤ 1099511627776) : Calls Tryz.prog 154 #[.string s] w fun e w' => e = .returned (.tuple #[.int .u8 0, .int .u8 0, .string ⟨#[]⟩, errP]) ∧ ∃ k, w' = w.drewN k := by
  have hc := readByte_no s w h0 h hz
  clear h
  unfold errP at hc ⊢
  go_enter Tryz.func154, Tryz.ntmps154
  go_wp2_with (go_at_call 144; refine hc.mono ?_; rintro e w' ⟨rfl, k, rfl⟩)
  ((try simp only [Exit.inBlock, Exit.then]); refine bodyPost_ret (results_tmp4 rfl _ _ _) rfl ?_)
  exact ⟨rfl, _, rfl⟩

set_option maxHeartbeats 2000000 in
theorem readRange_bad2 (s r : ByteArray) (lo : UInt8) (w : World) (h : rByte (un s) = some (lo, un r)) (hn : isSpan (un r) = true) (h2 : rByte ((un r).drop 1) = none) (hz : s.size ≤ 1099511627776) : Calls Tryz.prog 154 #[.string s] w fun e w' => e = .returned (.tuple #[.int .u8 0, .int .u8 0, .string ⟨#[]⟩, errP]) ∧ ∃ k, w' = w.drewN k := by
  have hlt := size_bs_le h
  have hc := readByte_ok s r lo w h hz
  obtain ⟨hsz, h3, h4⟩ := span_facts r hn
  obtain ⟨t, ht⟩ : ∃ t, t = r.extract 1 r.size := ⟨_, rfl⟩
  have hu : un t = (un r).drop 1 := by rw [ht, rest_one_bs, un_bs]
  have tz : t.size + 1 = r.size := by rw [← un_length, hu, ← un_length]; simp; rw [un_length]; omega
  have hc2 := fun W => readByte_no t W (by intro e; rw [← un_length, e] at tz; simp at tz; omega) (by rw [hu]; exact h2) (by omega)
  have ht2 := ht.symm
  clear h hn h2 hu ht
  have d1 : ¬ (r.size : Int) < 2 := by omega
  have d2 : (0 : Int) < (r.size : Int) := by omega
  have d4 : (1 : Int) < (r.size : Int) := by omega
  have d5 : (1 : Int) ≤ (r.size : Int) := by omega
  have d6 : ((r[1].toNat : Int) == 93) = false := by simp; omega
  unfold errP at hc2 ⊢
  go_enter Tryz.func154, Tryz.ntmps154
  go_wp2_with fail
  refine hc.mono ?_
  rintro e w' ⟨rfl, k, rfl⟩
  go_wp2_with fail
  refine (hc2 _).mono ?_
  rintro e w' ⟨rfl, j, rfl⟩
  go_wp2_with fail
  ((try simp only [Exit.inBlock, Exit.then]); refine bodyPost_ret (results_tmp4 rfl _ _ _) rfl ?_)
  exact ⟨rfl, _, rfl⟩

set_option maxHeartbeats 2000000 in
theorem readRange_less (s r r2 : ByteArray) (lo hi : UInt8) (w : World) (h : rByte (un s) = some (lo, un r)) (hn : isSpan (un r) = true) (h2 : rByte ((un r).drop 1) = some (hi, un r2)) (hl : hi < lo) (hz : s.size ≤ 1099511627776) : Calls Tryz.prog 154 #[.string s] w fun e w' => e = .returned (.tuple #[.int .u8 0, .int .u8 0, .string ⟨#[]⟩, errP]) ∧ ∃ k, w' = w.drewN k := by
  have hlt := size_bs_le h
  have hc := readByte_ok s r lo w h hz
  obtain ⟨hsz, h3, h4⟩ := span_facts r hn
  obtain ⟨t, ht⟩ : ∃ t, t = r.extract 1 r.size := ⟨_, rfl⟩
  have hu : un t = (un r).drop 1 := by rw [ht, rest_one_bs, un_bs]
  have tz : t.size + 1 = r.size := by rw [← un_length, hu, ← un_length]; simp; rw [un_length]; omega
  have hc2 := fun W => readByte_ok t r2 hi W (by rw [hu]; exact h2) (by omega)
  have ht2 := ht.symm
  have hl2 : (hi.toNat : Int) < (lo.toNat : Int) := by have := UInt8.lt_iff_toNat_lt.1 hl; omega
  clear h hn h2 hu ht hl
  have d1 : ¬ (r.size : Int) < 2 := by omega
  have d2 : (0 : Int) < (r.size : Int) := by omega
  have d4 : (1 : Int) < (r.size : Int) := by omega
  have d5 : (1 : Int) ≤ (r.size : Int) := by omega
  have d6 : ((r[1].toNat : Int) == 93) = false := by simp; omega
  unfold errP
  go_enter Tryz.func154, Tryz.ntmps154
  go_wp2_with fail
  refine hc.mono ?_
  rintro e w' ⟨rfl, k, rfl⟩
  go_wp2_with fail
  refine (hc2 _).mono ?_
  rintro e w' ⟨rfl, j, rfl⟩
  go_wp2_with fail
  ((try simp only [Exit.inBlock, Exit.then]); refine bodyPost_ret (results_tmp4 rfl _ _ _) rfl ?_)
  exact ⟨rfl, _, rfl⟩

set_option maxHeartbeats 2000000 in
theorem readRange_two (s r r2 : ByteArray) (lo hi : UInt8) (w : World) (h : rByte (un s) = some (lo, un r)) (hn : isSpan (un r) = true) (h2 : rByte ((un r).drop 1) = some (hi, un r2)) (hl : ¬ hi < lo) (hz : s.size ≤ 1099511627776) : Calls Tryz.prog 154 #[.string s] w fun e w' => e = .returned (.tuple #[.int .u8 lo.toNat, .int .u8 hi.toNat, .string r2, .nilIface]) ∧ ∃ k, w' = w.drewN k := by
  have hlt := size_bs_le h
  have hc := readByte_ok s r lo w h hz
  obtain ⟨hsz, h3, h4⟩ := span_facts r hn
  obtain ⟨t, ht⟩ : ∃ t, t = r.extract 1 r.size := ⟨_, rfl⟩
  have hu : un t = (un r).drop 1 := by rw [ht, rest_one_bs, un_bs]
  have tz : t.size + 1 = r.size := by rw [← un_length, hu, ← un_length]; simp; rw [un_length]; omega
  have hc2 := fun W => readByte_ok t r2 hi W (by rw [hu]; exact h2) (by omega)
  have ht2 := ht.symm
  have hl2 : ¬ (hi.toNat : Int) < (lo.toNat : Int) := by intro e; exact hl (UInt8.lt_iff_toNat_lt.2 (by omega))
  clear h hn h2 hu ht hl
  have d1 : ¬ (r.size : Int) < 2 := by omega
  have d2 : (0 : Int) < (r.size : Int) := by omega
  have d4 : (1 : Int) < (r.size : Int) := by omega
  have d5 : (1 : Int) ≤ (r.size : Int) := by omega
  have d6 : ((r[1].toNat : Int) == 93) = false := by simp; omega
  go_enter Tryz.func154, Tryz.ntmps154
  go_wp2_with fail
  refine hc.mono ?_
  rintro e w' ⟨rfl, k, rfl⟩
  go_wp2_with fail
  refine (hc2 _).mono ?_
  rintro e w' ⟨rfl, j, rfl⟩
  go_wp2_with fail
  ((try simp only [Exit.inBlock, Exit.then]); refine bodyPost_ret (results_tmp4 rfl _ _ _) rfl ?_)
  exact ⟨rfl, _, rfl⟩

theorem readRange_ok (s r : ByteArray) (lo hi : UInt8) (w : World) (h : rRange (un s) = some (lo, hi, un r)) (hz : s.size ≤ 1099511627776) : Calls Tryz.prog 154 #[.string s] w fun e w' => e = .returned (.tuple #[.int .u8 lo.toNat, .int .u8 hi.toNat, .string r, .nilIface]) ∧ ∃ k, w' = w.drewN k := by
  unfold rRange at h
  cases hb : rByte (un s) with
  | none => rw [hb] at h; cases h
  | some y =>
    obtain ⟨b, r1, h1⟩ := pair_un hb
    simp only [h1] at h
    cases hn : isSpan (un r1)
    · rw [hn] at h
      simp at h
      obtain ⟨rfl, rfl, h3⟩ := h
      obtain rfl := un_inj h3
      exact readRange_one s r1 b w h1 hn hz
    · rw [hn] at h
      cases hb2 : rByte ((un r1).drop 1) with
      | none => simp only [hb2] at h; cases h
      | some y2 =>
        obtain ⟨b2, r2, h2⟩ := pair_un hb2
        simp only [h2, if_true] at h
        split at h
        · cases h
        · rename_i hl
          simp at h
          obtain ⟨rfl, rfl, h3⟩ := h
          obtain rfl := un_inj h3
          exact readRange_two s r1 r2 b b2 w h1 hn h2 hl hz
theorem readRange_no (s : ByteArray) (w : World) (h0 : un s ≠ []) (h : rRange (un s) = none) (hz : s.size ≤ 1099511627776) : Calls Tryz.prog 154 #[.string s] w fun e w' => e = .returned (.tuple #[.int .u8 0, .int .u8 0, .string ⟨#[]⟩, errP]) ∧ ∃ k, w' = w.drewN k := by
  unfold rRange at h
  cases hb : rByte (un s) with
  | none => exact readRange_bad s w h0 hb hz
  | some y =>
    obtain ⟨b, r1, h1⟩ := pair_un hb
    simp only [h1] at h
    cases hn : isSpan (un r1)
    · rw [hn] at h
      simp at h
    · rw [hn] at h
      cases hb2 : rByte ((un r1).drop 1) with
      | none => exact readRange_bad2 s r1 b w h1 hn hb2 hz
      | some y2 =>
        obtain ⟨b2, r2, h2⟩ := pair_un hb2
        simp only [h2, if_true] at h
        split at h
        · rename_i hl; exact readRange_less s r1 r2 b b2 w h1 hn h2 hl hz
        · cases h
end Go.Proofs.YthkbhcefckbcnaaGreatDoor
