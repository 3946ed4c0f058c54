/- The document's answer for a line without the blanks at its ends. -/
import Derived.Test.YtmgoknlpimfmnaaDoorRefNames
import Derived.Test.YtmgoknlpimfmnaaDoorTrim
namespace Go.Proofs.YtmgoknlpimfmnaaDoor
open Go Go.RowKit

def isBlank (c : UInt8) : Bool := ([32, 9, 13] : List UInt8).contains c
theorem isBlank_eq (c : UInt8) : (((c.toNat : Int) == 32) || ((c.toNat : Int) == 9) || ((c.toNat : Int) == 13)) = isBlank c := by
  have h : ∀ d : UInt8, ((c.toNat : Int) == (d.toNat : Int)) = (c == d) := fun d => by
    by_cases e : c = d
    · subst e; simp
    · rw [beq_eq_false_iff_ne.2 e, beq_eq_false_iff_ne]; intro e2; exact e (UInt8.toNat_inj.1 (by omega))
  have h1 := h 32
  have h2 := h 9
  have h3 := h 13
  unfold isBlank
  simp only [List.contains_cons, List.contains_nil, Bool.or_false]
  rw [← h1, ← h2, ← h3, Bool.or_assoc]; rfl
theorem blank_r (c : UInt8) (w : World) : Calls Tryd.prog 16 #[.int .u8 c.toNat] w fun e w' => e = .returned (.bool (isBlank c)) ∧ w' = w := by
  by_cases h1 : c.toNat = 32
  · have hb : isBlank c = true := by rw [show c = 32 from UInt8.toNat_inj.1 h1]; rfl
    rw [hb]
    go_enter Tryd.func16, Tryd.ntmps16
    go_wp2
    go_ret
    exact ⟨rfl, rfl⟩
  · by_cases h2 : c.toNat = 9
    · have hb : isBlank c = true := by rw [show c = 9 from UInt8.toNat_inj.1 h2]; rfl
      rw [hb]
      go_enter Tryd.func16, Tryd.ntmps16
      go_wp2
      go_ret
      exact ⟨rfl, rfl⟩
    · have hb := isBlank_eq c
      go_enter Tryd.func16, Tryd.ntmps16
      go_wp2
      go_ret
      exact ⟨rfl, rfl⟩

theorem trimS_mid (a m b : List UInt8) (ha : ∀ c ∈ a, isBlank c = true) (hb : ∀ c ∈ b, isBlank c = true) (h1 : ∀ c, m.head? = some c → isBlank c = false) (h2 : ∀ c, m.getLast? = some c → isBlank c = false) : Lib.trimS (a ++ m ++ b) [32, 9, 13] = m := by
  unfold Lib.trimS Lib.trimLeftS Lib.trimRightS
  change List.dropWhile isBlank (List.dropWhile isBlank (a ++ m ++ b).reverse).reverse = m
  rw [List.reverse_append, List.dropWhile_append_of_pos (by intro c hc; exact hb c (List.mem_reverse.1 hc)), List.reverse_append]
  rcases List.eq_nil_or_concat m with rfl | ⟨m', x, rfl⟩
  · rw [List.reverse_nil, List.nil_append]
    have : List.dropWhile isBlank a.reverse = [] := by
      have h := List.dropWhile_append_of_pos (p := isBlank) (l₁ := a.reverse) (l₂ := []) (by intro c hc; exact ha c (List.mem_reverse.1 hc))
      simpa using h
    rw [this]; rfl
  · have hx : isBlank x = false := h2 x (by simp)
    have e1 : List.dropWhile isBlank ((m'.concat x).reverse ++ a.reverse) = (m'.concat x).reverse ++ a.reverse := by
      simp [hx]
    rw [e1, ← List.reverse_append, List.reverse_reverse, List.dropWhile_append_of_pos ha]
    cases m' with
    | nil => simp [hx]
    | cons y t => have hy : isBlank y = false := h1 y (by simp)
                  simp [hy]
theorem trimB_mid (s : ByteArray) (i j : Nat) (hij : i ≤ j) (hj : j ≤ s.size) (ha : ∀ c ∈ (un s).take i, isBlank c = true) (hb : ∀ c ∈ (un s).drop j, isBlank c = true) (h1 : i < j → ∀ c, (un s)[i]? = some c → isBlank c = false) (h2 : i < j → ∀ c, (un s)[j - 1]? = some c → isBlank c = false) : trimB s = s.extract i j := by
  refine un_inj ?_
  unfold trimB
  rw [un_bs, un_extract]
  have hl := un_length s
  have e : un s = (un s).take i ++ ((un s).take j).drop i ++ (un s).drop j := by
    have e2 : (un s).take i = ((un s).take j).take i := by rw [List.take_take, Nat.min_eq_left hij]
    rw [e2, List.take_append_drop, List.take_append_drop]
  have hlm : (((un s).take j).drop i).length = j - i := by simp; omega
  conv => lhs; rw [e]
  refine trimS_mid _ _ _ ha hb (fun c hc => ?_) (fun c hc => ?_)
  · rw [List.head?_drop, List.getElem?_take] at hc
    split at hc
    · exact h1 (by omega) c hc
    · cases hc
  · have hlt : i < j := by
      rcases Nat.lt_or_ge i j with h | h
      · exact h
      · rw [List.getLast?_eq_none_iff.2 (List.length_eq_zero_iff.1 (by omega))] at hc; cases hc
    rw [List.getLast?_eq_getElem?, hlm, List.getElem?_drop, List.getElem?_take] at hc
    split at hc
    · exact h2 hlt c (by rw [← hc]; congr 1; omega)
    · cases hc

set_option maxHeartbeats 2000000 in
theorem trimmed_r (s : ByteArray) (w : World) (hs : s.size ≤ 1099511627776) :
    Calls Tryd.prog 8 #[.string s] w fun e w' => e = .returned (.string (trimB s)) ∧ Below w.heap.size w w' := by
  go_enter Tryd.func8, Tryd.ntmps8
  go_wp2
  go_loopw [3] (fun n wr => ∃ k : Nat, k ≤ s.size ∧ n = .int .i64 k ∧ (∀ c ∈ (un s).take k, isBlank c = true) ∧ Below w.heap.size w wr) (fun n _ => s.size - (intOf n).toNat)
  case atStart => exact ⟨0, Nat.zero_le _, rfl, by simp, Below.refl _ _⟩
  case round =>
    obtain ⟨k, hk, rfl, ha, hB⟩ := hrel
    by_cases hlt : k < s.size
    · have hget := un_getElem? s k hlt
      have d1 : (0 : Int) ≤ (k : Int) := by omega
      have d2 : (k : Int) < (s.size : Int) := by omega
      by_cases hbl : isBlank s[k] = true
      · have Ha : Hid (∀ c ∈ (un s).take (k + 1), isBlank c = true) := by
          intro c hc
          rw [List.take_add_one, hget] at hc
          rcases List.mem_append.1 hc with h | h
          · exact ha c h
          · rw [List.mem_singleton.1 h]; exact hbl
        clear ha hget
        go_wp2_with (go_at_call 16; refine (blank_r _ _).mono ?_; rintro e w' ⟨rfl, rfl⟩; rw [hbl])
        exact ⟨⟨k + 1, by omega, by go_num, Ha.out, hB⟩, by simp [intOf]; omega⟩
      · have hbl2 : isBlank s[k] = false := by simpa using hbl
        have H1 : Hid (∀ c, (un s)[k]? = some c → isBlank c = false) := fun c hc => by rw [hget] at hc; rw [← Option.some.inj hc]; exact hbl2
        have Ha : Hid (∀ c ∈ (un s).take k, isBlank c = true) := ha
        clear ha hget hbl
        go_wp2_with (go_at_call 16; refine (blank_r _ _).mono ?_; rintro e w' ⟨rfl, rfl⟩; rw [hbl2])
        go_loopw [4] (fun n wr => ∃ j : Nat, k < j ∧ j ≤ s.size ∧ n = .int .i64 j ∧ (∀ c ∈ (un s).drop j, isBlank c = true) ∧ Below w.heap.size w wr) (fun n _ => (intOf n).toNat)
        case atStart => exact ⟨s.size, hlt, Nat.le_refl _, rfl, by simp [← un_length], hB⟩
        case round =>
          obtain ⟨j, hkj, hj, rfl, hb, hB2⟩ := hrel
          have hgj := un_getElem? s (j - 1) (by omega)
          have e1 : (0 : Int) ≤ (j : Int) - 1 := by omega
          have e2 : (j : Int) - 1 < (s.size : Int) := by omega
          have e3 : ((j : Int) - 1) = ((j - 1 : Nat) : Int) := by omega
          by_cases hbj : isBlank s[j - 1] = true
          · have Hb : Hid (∀ c ∈ (un s).drop (j - 1), isBlank c = true) := by
              intro c hc
              rw [List.drop_eq_getElem_cons (by rw [un_length]; omega)] at hc
              rcases List.mem_cons.1 hc with h | h
              · rw [List.getElem?_eq_getElem (by rw [un_length]; omega)] at hgj
                rw [h, Option.some.inj hgj]; exact hbj
              · rw [show j - 1 + 1 = j by omega] at h; exact hb c h
            have hkj2 : k < j - 1 := by
              rcases Nat.lt_or_ge k (j - 1) with h | h
              · exact h
              · obtain rfl : k = j - 1 := by omega
                rw [hbl2] at hbj; cases hbj
            clear hb hgj
            go_wp2_with (go_at_call 16; refine (blank_r _ _).mono ?_; rintro e w' ⟨rfl, rfl⟩; rw [hbj])
            exact ⟨⟨j - 1, by omega, by omega, by go_num, Hb.out, hB2⟩, by simp [intOf]; omega⟩
          · have hbj2 : isBlank s[j - 1] = false := by simpa using hbj
            have Ht : Hid (trimB s = s.extract k j) := trimB_mid s k j (by omega) hj Ha.out hb (fun _ => H1.out) (fun _ c hc => by rw [hgj] at hc; rw [← Option.some.inj hc]; exact hbj2)
            clear hb hgj hbj
            go_wp2_with (go_at_call 16; refine (blank_r _ _).mono ?_; rintro e w' ⟨rfl, rfl⟩; rw [hbj2])
            go_ret
            exact ⟨by rw [Ht.out]; rfl, hB2⟩
    · obtain rfl : k = s.size := by omega
      have Ht : Hid (trimB s = s.extract s.size s.size) := trimB_mid s s.size s.size (Nat.le_refl _) (Nat.le_refl _) ha (by simp [← un_length]) (fun h => absurd h (Nat.lt_irrefl _)) (fun h => absurd h (Nat.lt_irrefl _))
      clear ha
      go_wp2
      refine wp_loop_rounds 1 ?_
      rw [rounds_succ]
      go_wp2
      go_ret
      exact ⟨by rw [Ht.out, show s.extract s.size s.size = ByteArray.empty from un_inj (by rw [un_extract, List.drop_eq_nil_of_le (by simp [un_length])]; rfl)]; rfl, hB⟩
end Go.Proofs.YtmgoknlpimfmnaaDoor
