/- The document's answer for cutting pieces. -/
import Derived.Test.YtodgcmhkojkpcaaGreatDoorRefPieces
import Derived.Test.YtodgcmhkojkpcaaGreatDoorCut3
namespace Go.Proofs.YtodgcmhkojkpcaaGreatDoor
open Go Go.RowKit

theorem takeWhile_stop (p : UInt8 → Bool) : ∀ (a b : List UInt8), (∀ c ∈ a, p c = true) → (∀ c, b[0]? = some c → p c = false) → (a ++ b).takeWhile p = a
  | [], [], _, _ => rfl
  | [], c :: b, _, hb => by simp [hb c rfl]
  | c :: a, b, ha, hb => by
    have := takeWhile_stop p a b (fun x hx => ha x (by simp [hx])) hb
    simp [ha c (by simp), this]
theorem digits_take (l : List UInt8) (k : Nat) (hk : k ≤ 10) (ha : ∀ c ∈ l.take k, isDig c = true) (hb : k = 10 ∨ ∀ c, l[k]? = some c → isDig c = false) : digits l = l.take k := by
  unfold digits
  have e : l.take 10 = l.take k ++ (l.take 10).drop k := by
    conv => lhs; rw [← List.take_append_drop k (l.take 10)]
    rw [List.take_take, Nat.min_eq_left hk]
  rw [e]
  refine takeWhile_stop isDig _ _ ha ?_
  intro c hc
  rw [List.getElem?_drop, Nat.add_zero, List.getElem?_take] at hc
  rcases hb with rfl | hb
  · simp at hc
  · split at hc
    · exact hb c hc
    · cases hc
theorem piece_no {l : List UInt8} {k : Nat} (hk : k ≤ 10) (ha : ∀ c ∈ l.take k, isDig c = true) (hb : ∀ c, l[k]? = some c → isDig c = false ∧ c ≠ 58) : pieceL l = none := by
  have hd := digits_take l k hk ha (Or.inr fun c hc => (hb c hc).1)
  have hl : lengthL l = none := by
    unfold lengthL
    rw [if_pos]
    refine Or.inr (Or.inr ?_)
    rw [hd, List.length_take]
    intro h
    by_cases h2 : k ≤ l.length
    · rw [Nat.min_eq_left h2] at h
      exact (hb 58 h).2 rfl
    · rw [Nat.min_eq_right (by omega), List.getElem?_eq_none (Nat.le_refl _)] at h; cases h
  unfold pieceL; rw [hl]
theorem piece_long {l : List UInt8} (ha : ∀ c ∈ l.take 11, isDig c = true) : pieceL l = none := by
  by_cases h11 : 11 ≤ l.length
  · have hd := digits_take l 10 (by omega) (fun c hc => ha c (List.mem_of_mem_take (i := 10) (by rw [List.take_take]; exact hc))) (Or.inl rfl)
    have hl : lengthL l = none := by
      unfold lengthL
      rw [if_pos]
      refine Or.inr (Or.inr ?_)
      rw [hd, List.length_take, Nat.min_eq_left (by omega)]
      intro h
      have h2 := ha 58 (List.mem_of_getElem? (i := 10) (by rw [List.getElem?_take, if_pos (by omega)]; exact h))
      exact absurd h2 (by decide)
    unfold pieceL; rw [hl]
  · refine piece_no (k := l.length) (by omega) (fun c hc => ha c ?_) (fun c hc => ?_)
    · rw [List.take_of_length_le (by omega)]; rw [List.take_length] at hc; exact hc
    · rw [List.getElem?_eq_none (Nat.le_refl _)] at hc; cases hc
theorem piece_at {l : List UInt8} {k : Nat} (hk : k ≤ 10) (ha : ∀ c ∈ l.take k, isDig c = true) (hc : l[k]? = some 58) :
    pieceL l = if k = 0 ∨ dec (numV (l.take k)) ≠ l.take k ∨ l.length < k + 1 + numV (l.take k) then none else some ((l.drop (k + 1)).take (numV (l.take k)), (l.drop (k + 1)).drop (numV (l.take k))) := by
  have hd := digits_take l k hk ha (Or.inr fun c h => by rw [hc] at h; cases h; decide)
  have hlt : k < l.length := (List.getElem?_eq_some_iff.1 hc).1
  have hlen : (l.take k).length = k := by rw [List.length_take]; omega
  by_cases h0 : k = 0
  · rw [if_pos (Or.inl h0)]
    have hl : lengthL l = none := by
      unfold lengthL
      rw [if_pos]
      exact Or.inl (by rw [hd, h0]; rfl)
    unfold pieceL; rw [hl]
  · by_cases hs : slim (l.take k)
    · have h1 := dec_numV k (l.take k) hlen ha hs
      have hl : lengthL l = some (numV (l.take k), l.drop (k + 1)) := by
        unfold lengthL
        rw [hd, hlen, if_neg]
        rintro (h | ⟨h, h2⟩ | h)
        · exact hs.1 h
        · exact hs.2 (by rw [hlen]; exact h) (by rw [List.getElem?_take, if_pos (by omega)]; exact h2)
        · exact h hc
      unfold pieceL; rw [hl]
      simp only [List.length_drop]
      by_cases hn : l.length < k + 1 + numV (l.take k)
      · rw [if_pos (by omega), if_pos (Or.inr (Or.inr hn))]
      · rw [if_neg (by omega), if_neg]
        rintro (h | h | h)
        · exact h0 h
        · exact h h1
        · exact hn h
    · have hne : dec (numV (l.take k)) ≠ l.take k := fun h => hs (h ▸ dec_lean _)
      rw [if_pos (Or.inr (Or.inl hne))]
      have hl : lengthL l = none := by
        unfold lengthL
        rw [if_pos]
        rw [hd, hlen]
        refine Or.inr (Or.inl ?_)
        by_cases h1 : 1 < k ∧ l[0]? = some 48
        · exact h1
        · exfalso
          apply hs
          refine ⟨fun h => h0 (by rw [← hlen, h]; rfl), fun h h2 => h1 ⟨by rw [hlen] at h; exact h, ?_⟩⟩
          rwa [List.getElem?_take, if_pos (by omega)] at h2
      unfold pieceL; rw [hl]

theorem drawn_on {w wr : World} (h : ∃ d, wr = w.drewN d) (n : Nat) : ∃ d, wr.drewN n = w.drewN d := by
  obtain ⟨d, rfl⟩ := h
  exact ⟨d + n, by rw [World.drewN_drewN]⟩
/-- What the document's piece says. -/
def PieceR (s : ByteArray) (w : World) (e : Ending) (w' : World) : Prop :=
  (match pieceL (un s) with
  | some (t, _) => e = .returned (.tuple #[.string (bs t), .int .i64 ((pieceOf t).length : Nat)])
  | none => e = .returned (.tuple #[.string ⟨#[]⟩, .int .i64 0])) ∧ ∃ d, w' = w.drewN d
set_option maxRecDepth 100000 in
set_option maxHeartbeats 4000000 in
theorem piece_r (s : ByteArray) (w : World) (hz : s.size ≤ 1099511627776) : Calls Tryz.prog 61 #[.string s] w (PieceR s w) := by
  go_enter Tryz.func61, Tryz.ntmps61
  go_wp2
  go_loopw [4, 5] (fun v n wr => ∃ k : Nat, k ≤ 11 ∧ k ≤ s.size ∧ n = .int .i64 k ∧ v = .int .i64 (numV ((un s).take k)) ∧ Hid (∀ c ∈ (un s).take k, isDig c = true) ∧ Hid (∃ d, wr = w.drewN d)) (fun _ n _ => 11 - (intOf n).toNat)
  case atStart => exact ⟨0, by omega, by omega, rfl, rfl, fun c h => by simp at h, 0, rfl⟩
  case round =>
    obtain ⟨k, hk, hks, rfl, rfl, hD, HW⟩ := hrel
    by_cases hgo : k < s.size ∧ k ≤ 10
    · obtain ⟨hlt, hk10⟩ := hgo
      have hnb := numV_bound _ hD.out
      have hnv := numV_take s k hlt
      have hgk := un_getElem? s k hlt
      have hp10 : numV ((un s).take k) < 10000000000 := Nat.lt_of_lt_of_le hnb (by
        have : ((un s).take k).length ≤ 10 := by rw [List.length_take]; omega
        exact Nat.pow_le_pow_right (by omega) this)
      have d1 : (0 : Int) ≤ (k : Int) := by omega
      have d2 : (k : Int) < (s.size : Int) := by omega
      have d3 : (k : Int) ≤ 10 := by omega
      by_cases hcol : s[k] = 58
      · have d4 : ((s[k].toNat : Int) == 58) = true := by rw [hcol]; rfl
        have hPA := piece_at (l := un s) (k := k) (by omega) hD.out (by rw [hgk, hcol])
        rw [un_length] at hPA
        have HPA : Hid _ := hPA
        clear hnb hnv hgk hcol hPA
        by_cases hk0 : k = 0
        · have HP : Hid (pieceL (un s) = none) := by unfold Hid; rw [HPA.out, if_pos (Or.inl hk0)]
          subst hk0
          clear HPA
          generalize numV ((un s).take 0) = nv at *
          go_wp2
          go_quiet (fail)
          go_wp2
          go_ret2
          unfold PieceR
          rw [HP.out]
          exact ⟨rfl, drawn_on HW.out nq⟩
        · have d5 : ((k : Int) == 0) = false := beq_false_of_ne (by omega)
          have hex : un (s.extract 0 k) = (un s).take k := by rw [un_extract, List.drop_zero]
          by_cases hde : dec (numV ((un s).take k)) = (un s).take k
          · have d6 : ((bs (dec (numV ((un s).take k)))).toList == (s.extract 0 k).toList) = true := by rw [toList_un, toList_un, un_bs, hex, hde]; simp
            by_cases hlong : s.size < k + 1 + numV ((un s).take k)
            · have HP : Hid (pieceL (un s) = none) := by unfold Hid; rw [HPA.out, if_pos (Or.inr (Or.inr hlong))]
              clear hde hex
              generalize numV ((un s).take k) = nv at *
              have d7 : (s.size : Int) - (k : Int) - 1 < (nv : Int) := by omega
              clear HPA
              go_wp2
              go_quiet ((go_at_call 64; exact Calls.quiet_of (number_r nv (by omega) _)))
              go_wp2
              go_ret2
              unfold PieceR
              rw [HP.out]
              exact ⟨rfl, drawn_on HW.out nq⟩
            · have HP : Hid (pieceL (un s) = some (((un s).drop (k + 1)).take (numV ((un s).take k)), ((un s).drop (k + 1)).drop (numV ((un s).take k)))) := by
                unfold Hid; rw [HPA.out, if_neg]
                rintro (h | h | h)
                · exact hk0 h
                · exact h hde
                · exact hlong h
              have HL : Hid ((pieceOf (((un s).drop (k + 1)).take (numV ((un s).take k)))).length = k + 1 + numV ((un s).take k)) := by
                unfold Hid pieceOf
                have e1 : (((un s).drop (k + 1)).take (numV ((un s).take k))).length = numV ((un s).take k) := by rw [List.length_take, List.length_drop, un_length]; omega
                rw [List.length_append, List.length_cons, e1, hde, List.length_take, un_length]
                omega
              have HE : Hid (s.extract (k + 1) (k + 1 + numV ((un s).take k)) = bs (((un s).drop (k + 1)).take (numV ((un s).take k)))) := un_inj (by rw [un_bs, un_extract, List.drop_take, Nat.add_sub_cancel_left])
              clear hde hex HPA
              generalize numV ((un s).take k) = nv at *
              have d7 : ¬ (s.size : Int) - (k : Int) - 1 < (nv : Int) := by omega
              have d8 : (0 : Int) ≤ (k : Int) + 1 := by omega
              have d9 : (k : Int) + 1 ≤ (k : Int) + 1 + (nv : Int) := by omega
              have d10 : (k : Int) + 1 + (nv : Int) ≤ (s.size : Int) := by omega
              go_wp2
              go_quiet ((go_at_call 64; exact Calls.quiet_of (number_r nv (by omega) _)))
              go_wp2
              go_ret2
              unfold PieceR
              rw [HP.out]
              refine ⟨?_, drawn_on HW.out nq⟩
              simp only [HL.out, ← HE.out]
              rfl
          · have d6 : ((bs (dec (numV ((un s).take k)))).toList == (s.extract 0 k).toList) = false := by
              apply Bool.eq_false_iff.2
              intro h
              apply hde
              have h3 := beq_iff_eq.1 h
              rwa [toList_un, toList_un, un_bs, hex] at h3
            have HP : Hid (pieceL (un s) = none) := by unfold Hid; rw [HPA.out, if_pos (Or.inr (Or.inl hde))]
            clear hde hex HPA
            generalize numV ((un s).take k) = nv at *
            go_wp2
            go_quiet ((go_at_call 64; exact Calls.quiet_of (number_r nv (by omega) _)))
            go_wp2
            go_ret2
            unfold PieceR
            rw [HP.out]
            exact ⟨rfl, drawn_on HW.out nq⟩
      · have d4 : ((s[k].toNat : Int) == 58) = false := beq_false_of_ne (fun h => hcol (UInt8.toNat_inj.1 (by show s[k].toNat = 58; omega)))
        by_cases hdg : isDig s[k] = true
        · obtain ⟨q1, q2⟩ := (isDig_iff _).1 hdg
          have HD : Hid (∀ c ∈ (un s).take (k + 1), isDig c = true) := by
            intro c hc
            rw [List.take_add_one, hgk] at hc
            rcases List.mem_append.1 hc with h | h
            · exact hD.out c h
            · simp at h; rw [h]; exact hdg
          have HV : Hid (10 * (numV ((un s).take k) : Int) + ((s[k].toNat : Int) - 48) = (numV ((un s).take (k + 1)) : Nat)) := by unfold Hid; rw [hnv]; omega
          clear hnb hnv hgk hcol hdg
          generalize numV ((un s).take k) = nv at *
          go_wp2
          exact ⟨⟨k + 1, by omega, by omega, by go_num, by rw [HV.out], HD, HW⟩, by simp [intOf]; omega⟩
        · have hno : isDig s[k] = false := by simpa using hdg
          have HP : Hid (pieceL (un s) = none) := piece_no (k := k) (by omega) hD.out (fun c hc => by rw [hgk] at hc; cases hc; exact ⟨hno, hcol⟩)
          have hq : s[k].toNat < 48 ∨ 57 < s[k].toNat := by
            by_cases h1 : s[k].toNat < 48
            · exact Or.inl h1
            · refine Or.inr ?_
              rcases Nat.lt_or_ge 57 s[k].toNat with h2 | h2
              · exact h2
              · exact absurd ((isDig_iff _).2 ⟨by omega, h2⟩) hdg
          clear hnb hnv hgk hcol hdg hno
          generalize numV ((un s).take k) = nv at *
          rcases hq with hq | hq
          · have d5 : (s[k].toNat : Int) < 48 := by omega
            go_wp2
            go_ret2
            unfold PieceR
            rw [HP.out]
            exact ⟨rfl, HW.out⟩
          · have d5 : ¬ (s[k].toNat : Int) < 48 := by omega
            have d6 : (57 : Int) < (s[k].toNat : Int) := by omega
            go_wp2
            go_ret2
            unfold PieceR
            rw [HP.out]
            exact ⟨rfl, HW.out⟩
    · have HP : Hid (pieceL (un s) = none) := by
        by_cases h11 : k = 11
        · subst h11; exact piece_long hD.out
        · have : k = s.size := by omega
          exact piece_no (k := k) (by omega) hD.out (fun c hc => by rw [List.getElem?_eq_none (by rw [un_length]; omega)] at hc; cases hc)
      by_cases hks2 : k < s.size
      · have d1 : (k : Int) < (s.size : Int) := by omega
        have d2 : ¬ (k : Int) ≤ 10 := by omega
        clear hgo
        go_wp2
        go_ret2
        unfold PieceR
        rw [HP.out]
        exact ⟨rfl, HW.out⟩
      · have d1 : ¬ (k : Int) < (s.size : Int) := by omega
        clear hgo
        go_wp2
        go_ret2
        unfold PieceR
        rw [HP.out]
        exact ⟨rfl, HW.out⟩

/-- What the document's Cut says. -/
def CutR (s : ByteArray) (w : World) (e : Ending) (w' : World) : Prop :=
  ((∃ (l : List ByteArray) (u : Value), un s = laidL (l.map un) ∧ (∀ t ∈ l.map un, t.length < 10000000000) ∧ e = .returned (.tuple #[u, .int .i64 0, .int .i64 0]) ∧ w'.ownsRow w.heap.size 9 1 u l.length (strs l)) ∨
   (∃ (l : List ByteArray) (r : List UInt8), un s = laidL (l.map un) ++ r ∧ r ≠ [] ∧ pieceL r = none ∧ (∀ t ∈ l.map un, t.length < 10000000000) ∧ e = .returned (.tuple #[.slice none 0 0, .int .i64 4, .int .i64 (s.size - r.length : Nat)]))) ∧ Below w.heap.size w w'
set_option maxRecDepth 100000 in
set_option maxHeartbeats 8000000 in
theorem cut_r (s : ByteArray) (w : World) (hz : s.size ≤ 1099511627776) : Calls Tryz.prog 37 #[.string s] w (CutR s w) := by
  obtain ⟨i0, hi, z0, z1, z2⟩ := info_parts str_info
  go_enter Tryz.func37, Tryz.ntmps37
  go_wp2
  go_loopw [5, 6] (fun u n wr => ∃ (l : List ByteArray) (p : Nat), n = .int .i64 p ∧ p ≤ s.size ∧ Hid (un s = laidL (l.map un) ++ (un s).drop p) ∧ Hid (∀ t ∈ l.map un, t.length < 10000000000) ∧ wr.ownsRow w.heap.size 9 1 u l.length (strs l) ∧ Below w.heap.size w wr) (fun _ n _ => s.size - (intOf n).toNat)
  case atStart => exact ⟨[], 0, rfl, Nat.zero_le _, rfl, fun t h => by simp at h, World.ownsRow_nil _ _ _ _, Below.refl _ _⟩
  case round =>
    obtain ⟨l, p, rfl, hps, HS, HB, hown, hB⟩ := hrel
    have hll := laid_le l
    have hlen := congrArg List.length HS.out
    rw [List.length_append, un_length, List.length_drop, un_length] at hlen
    have hl2 : l.length ≤ s.size := by omega
    clear hll hlen
    by_cases hlt : p < s.size
    · have d1 : (0 : Int) ≤ (p : Int) := by omega
      have d2 : (p : Int) < (s.size : Int) := by omega
      have d3 : (p : Int) ≤ (s.size : Int) := by omega
      have hex : un (s.extract p s.size) = (un s).drop p := by rw [un_extract, List.take_of_length_le (by rw [un_length]; omega)]
      have hesz : (s.extract p s.size).size ≤ 1099511627776 := by rw [size_extract' s p s.size (Nat.le_refl _)]; omega
      have hc := fun W => piece_r (s.extract p s.size) W hesz
      unfold PieceR at hc
      rw [hex] at hc
      have hne : (un s).drop p ≠ [] := fun e => by have := congrArg List.length e; rw [List.length_drop, un_length, List.length_nil] at this; omega
      have hsz2 : s.size - ((un s).drop p).length = p := by rw [List.length_drop, un_length]; omega
      cases hp : pieceL ((un s).drop p) with
      | none =>
        rw [hp] at hc
        simp only at hc
        have HN : Hid (un s = laidL (l.map un) ++ (un s).drop p ∧ (un s).drop p ≠ [] ∧ pieceL ((un s).drop p) = none ∧ s.size - ((un s).drop p).length = p) := ⟨HS.out, hne, hp, hsz2⟩
        clear hne hp hsz2 hex HS
        go_wp2_with (go_at_call 61; refine (hc _).mono ?_; rintro e w1 ⟨rfl, k, rfl⟩)
        go_ret3
        obtain ⟨q1, q2, q3, q4⟩ := HN.out
        refine ⟨.inr ⟨l, (un s).drop p, q1, q2, q3, HB.out, ?_⟩, below_drawn hB k⟩
        rw [q4]
        rfl
      | some x =>
        obtain ⟨t, r⟩ := x
        have ht := piece_bound hp
        have hsb := pieceL_some hp
        have hpl := List.length_pos_iff.2 (pieceOf_ne t)
        have hlr := congrArg List.length hsb
        rw [List.length_append, List.length_drop, un_length] at hlr
        have hpm : p + (pieceOf t).length ≤ s.size := by omega
        clear hlr
        have HS2 : Hid (un s = laidL ((l ++ [bs t]).map un) ++ (un s).drop (p + (pieceOf t).length)) := by
          unfold Hid
          have e : (un s).drop (p + (pieceOf t).length) = r := by
            rw [← List.drop_drop, hsb, List.drop_left]
          rw [e, List.map_append, List.map_cons, List.map_nil, un_bs, laidL_snoc, List.append_assoc, ← hsb]
          exact HS.out
        have HB2 : Hid (∀ x ∈ (l ++ [bs t]).map un, x.length < 10000000000) := by
          intro x hx
          rw [List.map_append] at hx
          rcases List.mem_append.1 hx with h1 | h1
          · exact HB.out x h1
          · simp [un_bs] at h1; rw [h1]; exact ht
        have HST : Hid (strs (l ++ [bs t]) = strs l ++ [.string (bs t)]) := by unfold Hid; rw [strs_append]; rfl
        rw [hp] at hc
        simp only at hc
        clear hne hp hsz2 hex HS HB hsb ht
        generalize (pieceOf t).length = m at *
        generalize bs t = tb at *
        have d5 : ((m : Int) == 0) = false := beq_false_of_ne (by omega)
        go_wp2_with (first
          | (go_at_call 61; refine (hc _).mono ?_; rintro e w1 ⟨rfl, k, rfl⟩)
          | (at_builtin; refine wpList_append_own _ rfl _ _ 29 rfl w.heap.size 9 i0 (.string ⟨#[]⟩) 1 16 Tryz.underlying29 hi z0 z1 z2 rfl (by decide) _ _ _ rfl (World.ownsRow.alloc (own_drawn hown k) _) ⟨wr.heap.size, 0, none⟩ 1 1 [.string tb] rfl rfl ?c1 ?c2 ?c3 ?c4 ?c5 ?_))
        case c1 =>
          intro j u hj
          rcases j with _ | j
          · simp at hj; subst hj; exact (Lies.new (wr.drewN k) _ _).cell (i := 0) rfl
          · simp at hj
        case c2 => intro u hu; simp at hu; subst hu; rfl
        case c3 => unfold maxLen; omega
        case c4 => omega
        case c5 => have := hB.size; simp; omega
        intro v' w2 hown' hg _
        go_wp2
        go_roundw
        case rel => exact ⟨l ++ [tb], p + m, by go_num, by omega, HS2, HB2, by rw [HST.out, List.length_append]; exact hown', ((below_drawn hB k).alloc hB.size _).grown hg (by have := hB.size; simp; omega) (fun r hr => (hown.lt r hr).1)⟩
        case measure => simp [intOf]; omega
    · obtain rfl : p = s.size := by omega
      have HS2 : Hid (un s = laidL (l.map un)) := by
        unfold Hid
        have h := HS.out
        rwa [List.drop_of_length_le (by rw [un_length]; exact Nat.le_refl _), List.append_nil] at h
      clear HS
      go_wp2
      go_ret3
      exact ⟨.inl ⟨l, _, HS2.out, HB.out, rfl, hown⟩, hB⟩
end Go.Proofs.YtodgcmhkojkpcaaGreatDoor
