/- The document's word. -/
import Derived.Test.YtmnggnmgiflhjaaDoorDocS
namespace Go.Proofs.YtmnggnmgiflhjaaDoor
open Go Go.RowKit

/-- What the document's word answers. -/
def WrdPost (e : UInt8) (l : List UInt8) (i0 : Nat) (r : Int) (ok : Bool) : Prop :=
  (ok = true ∧ ∃ k n q : Nat, r = k ∧ i0 < k ∧ k ≤ l.length ∧ (n = 1 ∨ n = 2) ∧ stA e l k = ⟨(stA e l i0).out, n, i0, q⟩ ∧ (∀ b, l[k]? = some b → n = 1 ∧ isBl b = true)) ∨
  (ok = false ∧ ∃ k : Nat, r = k ∧ 3 ≤ (stA e l l.length).now ∧ (stA e l l.length).quo = k)
/-- What stands within a word. -/
def WI (e : UInt8) (l : List UInt8) (i0 i : Nat) : Prop :=
  (i = i0 ∧ stA e l i = stA e l i0) ∨ (i0 < i ∧ ∃ n q, (n = 1 ∨ (n = 2 ∧ i = l.length)) ∧ stA e l i = ⟨(stA e l i0).out, n, i0, q⟩)
theorem WI.step {e : UInt8} {l : List UInt8} {i0 i : Nat} {b : UInt8} (h : WI e l i0 i) (h0 : (stA e l i0).now = 0) (hg : l[i]? = some b) (hb : isBl b = false) : stA e l (i + 1) = ⟨(stA e l i0).out, outN b e, i0, (stA e l (i + 1)).quo⟩ ∧ (3 ≤ outN b e → (stA e l (i + 1)).quo = i) := by
  have hl := (List.getElem?_eq_some_iff.1 hg).1
  rcases h with ⟨rfl, _⟩ | ⟨h1, n, q, hn, hq⟩
  · rw [stA_succ _ _ _ _ hg, step_01 _ _ _ _ (.inl h0) hb]
    refine ⟨?_, fun h => if_pos h⟩
    rw [if_pos h0]
  · have hn1 : n = 1 := by
      rcases hn with h | ⟨_, h⟩
      · exact h
      · omega
    subst hn1
    rw [stA_succ _ _ _ _ hg, hq, step_01 _ _ _ _ (.inr rfl) hb]
    exact ⟨rfl, fun h => if_pos h⟩
theorem outN_39 (e : UInt8) : outN 39 e = 3 := by unfold outN; rfl
theorem outN_34 (e : UInt8) : outN 34 e = 4 := by unfold outN; rfl
theorem outN_e (b e : UInt8) (hb : isBl b = false) (h1 : b ≠ 39) (h2 : b ≠ 34) (h : b = e) : outN b e = 2 := by unfold outN; rw [hb]; simp [h1, h2]; exact h
theorem outN_1 (b e : UInt8) (hb : isBl b = false) (h1 : b ≠ 39) (h2 : b ≠ 34) (h : b ≠ e) : outN b e = 1 := by unfold outN; rw [hb]; simp [h1, h2, h]
set_option maxRecDepth 100000 in
set_option maxHeartbeats 8000000 in
theorem word_d (s : ByteArray) (i0 : Nat) (e : UInt8) (w : World) (hs : s.size ≤ 1099511627776) (hi : i0 < s.size) (he : e ≠ 34 ∧ e ≠ 39) (h0 : (stA e (un s) i0).now = 0) (hb0 : isBl s[i0] = false) :
    Calls Tryd.prog 24 #[.string s, .int .i64 i0, .int .u8 e.toNat] w fun ev w' => ∃ r ok, ev = .returned (.tuple #[.int .i64 r, .bool ok]) ∧ WrdPost e (un s) i0 r ok ∧ Below w.heap.size w w' := by
  have hsl := un_length s
  have H0 : Hid ((stA e (un s) i0).now = 0) := h0
  have HB0 : Hid ((un s)[i0]? = some s[i0] ∧ isBl s[i0] = false) := ⟨un_getElem? s i0 hi, hb0⟩
  clear h0 hb0
  go_enter Tryd.func24, Tryd.ntmps24
  go_wp2
  go_loopw [1, 8, 22, 42] (fun iv _ _ _ wr => ∃ i : Nat, iv = .int .i64 i ∧ i0 ≤ i ∧ i ≤ s.size ∧ Hid (WI e (un s) i0 i) ∧ Below w.heap.size w wr) (fun iv _ _ _ _ => s.size - (intOf iv).toNat)
  case atStart => exact ⟨i0, rfl, Nat.le_refl _, by omega, .inl ⟨rfl, rfl⟩, Below.refl _ _⟩
  case round =>
    obtain ⟨i, rfl, hii, his, HI, hB⟩ := hrel
    have k0 : (0 : Int) ≤ (i : Int) := by omega
    by_cases hlt : i < s.size
    · have hget := un_getElem? s i hlt
      have k1 : (i : Int) < (s.size : Int) := by omega
      have hbl := fun W => blank_r s[i] W
      cases hb : isBl s[i]
      · rw [hb] at hbl
        have HS : Hid (stA e (un s) (i + 1) = ⟨(stA e (un s) i0).out, outN s[i] e, i0, (stA e (un s) (i + 1)).quo⟩ ∧ (3 ≤ outN s[i] e → (stA e (un s) (i + 1)).quo = i)) := HI.out.step H0.out hget hb
        have q1 : ((s[i].toNat : Int) == 39) = decide (s[i] = 39) := beq_u8 s[i] 39 (by decide)
        have q2 : ((s[i].toNat : Int) == 34) = decide (s[i] = 34) := beq_u8 s[i] 34 (by decide)
        have q3 := beq_u88 s[i] e
        have HBl : Hid (isBl s[i] = false) := hb
        clear hget hb
        by_cases hq : s[i] = 39 ∨ s[i] = 34
        · have hQ := fun W => quote_d s i e W hs hlt he (by
            rcases hq with h | h
            · left; refine ⟨h, ?_⟩; rw [HS.out.1, h, outN_39]
            · right; refine ⟨h, ?_⟩; rw [HS.out.1, h, outN_34])
          have HQ3 : Hid ((stA e (un s) (i + 1)).quo = i ∧ (stA e (un s) (i + 1)).out = (stA e (un s) i0).out ∧ (stA e (un s) (i + 1)).beg = i0) := by
            refine ⟨HS.out.2 (by
              rcases hq with h | h
              · rw [h, outN_39]; omega
              · rw [h, outN_34]; omega), ?_, ?_⟩ <;> rw [HS.out.1]
          clear HS
          have hd : (decide (s[i] = 39) || decide (s[i] = 34)) = true := by rcases hq with h | h <;> simp [h]
          clear hq
          generalize decide (s[i] = 39) = m1 at *
          generalize decide (s[i] = 34) = m2 at *
          have fin : ∀ (r : Int) (W2 : World), QuoPost e (un s) i r → (∃ k : Nat, r = k ∧ i < k ∧ k < s.size ∧ WI e (un s) i0 (k + 1)) ∨ (r = -1 ∧ WrdPost e (un s) i0 i false) := by
            intro r W2 hr
            rcases hr with ⟨k, h1, h2, h3, h4⟩ | ⟨h1, h2, h3⟩
            · left
              refine ⟨k, h1, h2, by omega, .inr ⟨by omega, 1, i, .inl rfl, ?_⟩⟩
              rw [h4]
              show (⟨(stA e (un s) (i + 1)).out, 1, (stA e (un s) (i + 1)).beg, (stA e (un s) (i + 1)).quo⟩ : St) = _
              rw [HQ3.out.1, HQ3.out.2.1, HQ3.out.2.2]
            · right
              exact ⟨h1, .inr ⟨rfl, i, rfl, h2, by rw [h3, HQ3.out.1]⟩⟩
          have FIN : Hid _ := fin
          clear fin HQ3
          cases m1 <;> cases m2
          · exact absurd hd (by decide)
          all_goals
            clear hd
            go_wp2_with (first | (go_at_call 23; refine (hbl _).mono ?_; rintro ev w1 ⟨rfl, hw⟩; replace hw := hw.symm; subst hw) | fail)
            refine (hQ _).mono ?_
            rintro ev w2 ⟨r, rfl, hr, b2⟩
            have hB2 := below_join hB b2
            have hF := FIN.out r w2 hr
            clear hr FIN
            rcases hF with ⟨k, rfl, g1, g2, g3⟩ | ⟨rfl, g3⟩
            · have HG : Hid (WI e (un s) i0 (k + 1)) := g3
              clear g3
              have e1 : ¬ ((k : Int) < 0) := by omega
              go_wp2
              first
                | exact ⟨⟨k + 1, by go_num, by omega, by omega, HG, hB2⟩, by simp [intOf]; omega⟩
                | (go_roundw
                   case rel => exact ⟨k + 1, by go_num, by omega, by omega, HG, hB2⟩
                   case measure => simp [intOf]; omega)
            · have HG : Hid (WrdPost e (un s) i0 i false) := g3
              clear g3
              go_wp2
              go_ret2
              exact ⟨(i : Int), false, rfl, HG.out, hB2⟩
        · have e1 : s[i] ≠ 39 := fun h => hq (.inl h)
          have e2 : s[i] ≠ 34 := fun h => hq (.inr h)
          rw [decide_eq_false e1] at q1
          rw [decide_eq_false e2] at q2
          by_cases h4 : s[i] = e
          · rw [decide_eq_true h4] at q3
            have HS2 : Hid (stA e (un s) (i + 1) = ⟨(stA e (un s) i0).out, 2, i0, (stA e (un s) (i + 1)).quo⟩) := by
              have := HS.out.1; rw [outN_e _ _ HBl.out e1 e2 h4] at this; exact this
            clear h4
            by_cases h5 : i + 1 < s.size
            · have h5' : (i : Int) + 1 < (s.size : Int) := by omega
              have HI2 : Hid (WI e (un s) i0 (i + 2)) := by
                refine .inr ⟨by omega, 1, (stA e (un s) (i + 1)).quo, .inl rfl, ?_⟩
                rw [show i + 2 = (i + 1) + 1 from rfl, stA_succ _ _ _ _ (un_getElem? s (i + 1) h5)]
                rw [step_2 _ _ _ _ (by rw [HS2.out])]
                rw [HS2.out]
              clear HS HS2
              go_wp2_with (go_at_call 23; refine (hbl _).mono ?_; rintro ev w1 ⟨rfl, hw⟩; replace hw := hw.symm; subst hw)
              first
                | exact ⟨⟨i + 2, by go_num, by omega, by omega, HI2, hB⟩, by simp [intOf]; omega⟩
                | (go_roundw
                   case rel => exact ⟨i + 2, by go_num, by omega, by omega, HI2, hB⟩
                   case measure => simp [intOf]; omega)
            · have h5' : ¬ (i : Int) + 1 < (s.size : Int) := by omega
              have HI2 : Hid (WI e (un s) i0 (i + 1)) := .inr ⟨by omega, 2, _, .inr ⟨rfl, by omega⟩, HS2.out⟩
              clear HS HS2
              go_wp2_with (go_at_call 23; refine (hbl _).mono ?_; rintro ev w1 ⟨rfl, hw⟩; replace hw := hw.symm; subst hw)
              first
                | exact ⟨⟨i + 1, by go_num, by omega, by omega, HI2, hB⟩, by simp [intOf]; omega⟩
                | (go_roundw
                   case rel => exact ⟨i + 1, by go_num, by omega, by omega, HI2, hB⟩
                   case measure => simp [intOf]; omega)
          · rw [decide_eq_false h4] at q3
            have HI2 : Hid (WI e (un s) i0 (i + 1)) := .inr ⟨by omega, 1, (stA e (un s) (i + 1)).quo, .inl rfl, by have := HS.out.1; rw [outN_1 _ _ HBl.out e1 e2 h4] at this; exact this⟩
            clear HS
            go_wp2_with (go_at_call 23; refine (hbl _).mono ?_; rintro ev w1 ⟨rfl, hw⟩; replace hw := hw.symm; subst hw)
            first
              | exact ⟨⟨i + 1, by go_num, by omega, by omega, HI2, hB⟩, by simp [intOf]; omega⟩
              | (go_roundw
                 case rel => exact ⟨i + 1, by go_num, by omega, by omega, HI2, hB⟩
                 case measure => simp [intOf]; omega)
      · rw [hb] at hbl
        have HP : Hid (WrdPost e (un s) i0 i true) := by
          rcases HI.out with ⟨rfl, _⟩ | ⟨h1, n, q, hn, hq⟩
          · have := HB0.out.2; rw [hb] at this; exact absurd this (by decide)
          · have hn1 : n = 1 := by
              rcases hn with h | ⟨_, h⟩
              · exact h
              · omega
            refine .inl ⟨rfl, i, n, q, rfl, h1, by omega, .inl hn1, hq, fun b h => ⟨hn1, ?_⟩⟩
            rw [hget] at h; cases h; exact hb
        clear hget hb
        go_wp2_with (go_at_call 23; refine (hbl _).mono ?_; rintro ev w1 ⟨rfl, hw⟩; replace hw := hw.symm; subst hw)
        go_ret2
        exact ⟨_, _, rfl, HP.out, hB⟩
    · obtain rfl : i = s.size := by omega
      have HP : Hid (WrdPost e (un s) i0 s.size true) := by
        rcases HI.out with ⟨h1, _⟩ | ⟨h1, n, q, hn, hq⟩
        · omega
        · refine .inl ⟨rfl, s.size, n, q, rfl, h1, by omega, hn.imp id And.left, hq, fun b h => ?_⟩
          have := (List.getElem?_eq_some_iff.1 h).1
          omega
      go_wp2
      go_ret2
      exact ⟨_, _, rfl, HP.out, hB⟩
end Go.Proofs.YtmnggnmgiflhjaaDoor
