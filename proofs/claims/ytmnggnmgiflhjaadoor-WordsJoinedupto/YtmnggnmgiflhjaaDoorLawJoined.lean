/- WordsJoined: its walk. -/
import Derived.Test.YtmnggnmgiflhjaaDoorJoM
import Derived.Test.YtmnggnmgiflhjaaDoorBlkW
import Derived.Test.YtmnggnmgiflhjaaDoorDocQ
import Derived.Test.YtmnggnmgiflhjaaDoorWorksW
import Derived.Deep.Cut
import Derived.Deep.DeepCutAuto
namespace Go.Proofs.YtmnggnmgiflhjaaDoor
open Go Go.RowKit

theorem escN_esc (c : UInt8) : escN (escN c) = escN c := by unfold escN; split <;> rfl
theorem split_len (e : UInt8) (l : List UInt8) (xs : List (Nat × Nat)) (h : splitR e l = .ok xs) : xs.length ≤ l.length + 1 := by
  have ho := stA_out e l l.length (Nat.le_refl _)
  unfold splitR at h
  split at h
  · cases h
  · cases h
    split
    · rw [List.length_append]; simp; omega
    · omega
def blkN (b : UInt8) : UInt8 := if isBl b = true then b else 32
theorem blkN_bl (b : UInt8) : isBl (blkN b) = true := by
  unfold blkN
  cases h : isBl b
  · rfl
  · exact h
set_option maxRecDepth 100000 in
set_option maxHeartbeats 8000000 in
theorem wordsjoined_law (s t : ByteArray) (c b : UInt8) (w : World) (he : ErrType w) (hs : s.size ≤ 1048576) (ht : t.size ≤ 1048576) : Calls Tryd.prog 6 #[.agg #[.string s, .string t, .int .u8 c.toNat, .int .u8 b.toNat]] w fun e w' => e = .returned (.bool true) ∧ Below w.heap.size w w' := by
  have hsl := un_length s
  have htl := un_length t
  have L0 := Lies.new w 44 #[.string s, .string t, .int .u8 c.toNat, .int .u8 b.toNat]
  have B0 : Below w.heap.size w (w.alloc (.cells #[.string s, .string t, .int .u8 c.toNat, .int .u8 b.toNat] 44)) := (Below.refl _ w).alloc (Nat.le_refl _) _
  have f0 := L0.cell (i := 0) rfl
  have f1 := L0.cell (i := 1) rfl
  have f2 := L0.cell (i := 2) rfl
  have f3 := L0.cell (i := 3) rfl
  clear L0
  go_enter Tryd.func6, Tryd.ntmps6
  go_wp2
  generalize w.alloc (.cells #[.string s, .string t, .int .u8 c.toNat, .int .u8 b.toNat] 44) = w0 at *
  go_quiet (fail)
  go_upto_if 24 with fail
  go_cut [5] (fun ev wx => ev = .int .u8 (escN c).toNat ∧ Below w.heap.size w wx)
  case first =>
    have q1 : ((c.toNat : Int) != 96) = !decide (c = 96) := by unfold bne; rw [show ((c.toNat : Int) == 96) = decide (c = 96) from beq_u8 c 96 (by decide)]
    by_cases hc : c = 96
    · subst hc
      go_wp2
      go_meet
      exact ⟨rfl, below_drawn B0 _⟩
    · rw [decide_eq_false hc] at q1
      simp only [Bool.not_false] at q1
      have HE : Hid (escN c = 92) := if_neg hc
      go_wp2
      go_meet
      exact ⟨by rw [HE.out]; rfl, below_drawn B0 _⟩
  case rest =>
    obtain ⟨rfl, B1⟩ := hcut
    have hEE := escN_esc c
    generalize escN c = x at *
    have hcv := conv_own [b] wc.heap.size _ _ (own_one wc b)
    have B2 : Below w.heap.size w (wc.alloc (.cells #[.int .u8 b.toNat] 5)) := B1.alloc B1.size _
    have hbk := fun W => blanks_p (bs [b]) W (by rw [size_bs]; show 1 ≤ _; omega)
    have hab : (un (bs [b])).all isBl = isBl b := by rw [un_bs]; simp
    rw [hab] at hbk
    go_upto_if 29 with (first | (go_at_call 19; refine (hbk _).mono ?_; rintro e w1 ⟨rfl, hw⟩; replace hw := hw.symm; subst hw))
    go_cut [6] (fun bv wy => bv = .int .u8 (blkN b).toNat ∧ Below w.heap.size w wy)
    case first =>
      cases hb : isBl b
      · have HE : Hid (blkN b = 32) := by unfold Hid blkN; rw [hb]; rfl
        go_wp2
        go_meet
        exact ⟨by rw [HE.out]; rfl, B2⟩
      · have HE : Hid (blkN b = b) := by unfold Hid blkN; rw [hb]; rfl
        go_wp2
        go_meet
        exact ⟨by rw [HE.out], B2⟩
    case rest =>
      clear B1 B2 hcv hbk hab
      obtain ⟨rfl, B3⟩ := hcut
      have hbl := blkN_bl b
      generalize blkN b = y at *
      have he3 := he.below B3
      cases h1 : splitR x (un s) with
      | error q =>
        have p1 := fun W => split_err s x q (by rw [hEE]; exact h1) W (by omega)
        cases h2 : splitR x (un t) with
        | error q2 =>
          have p2 := fun W => split_err t x q2 (by rw [hEE]; exact h2) W (by omega)
          clear h1 h2
          go_wp2_with fail
          refine (p1 _).mono ?_
          rintro e w1 ⟨rfl, b1⟩
          go_wp2_with fail
          refine (p2 _).mono ?_
          rintro e w2 ⟨rfl, b2⟩
          have c2 := below_join b1 b2
          go_wp2_with fail
          refine (works_w _ (he3.below c2)).mono ?_
          rintro e w3 ⟨rfl, b3⟩
          go_wp2
          go_ret
          exact ⟨rfl, below_join (below_join B3 c2) b3⟩
        | ok Bs =>
          have p2 := fun W => split_ok t x Bs (by rw [hEE]; exact h2) W (by omega)
          clear h1 h2
          go_wp2_with fail
          refine (p1 _).mono ?_
          rintro e w1 ⟨rfl, b1⟩
          go_wp2_with fail
          refine (p2 _).mono ?_
          rintro e w2 ⟨v2, rfl, o2, b2⟩
          have c2 := below_join b1 b2
          go_wp2_with fail
          refine (works_w _ (he3.below c2)).mono ?_
          rintro e w3 ⟨rfl, b3⟩
          go_wp2
          go_ret
          exact ⟨rfl, below_join (below_join B3 c2) b3⟩
      | ok As =>
        have p1 := fun W => split_ok s x As (by rw [hEE]; exact h1) W (by omega)
        cases h2 : splitR x (un t) with
        | error q2 =>
          have p2 := fun W => split_err t x q2 (by rw [hEE]; exact h2) W (by omega)
          clear h1 h2
          go_wp2_with fail
          refine (p1 _).mono ?_
          rintro e w1 ⟨v1, rfl, o1, b1⟩
          go_wp2_with fail
          refine (p2 _).mono ?_
          rintro e w2 ⟨rfl, b2⟩
          have c2 := below_join b1 b2
          go_wp2_with fail
          refine (works_w _ (he3.below c2)).mono ?_
          rintro e w3 ⟨rfl, b3⟩
          go_wp2
          go_ret
          exact ⟨rfl, below_join (below_join B3 c2) b3⟩
        | ok Bs =>
          have p2 := fun W => split_ok t x Bs (by rw [hEE]; exact h2) W (by omega)
          go_wp2_with fail
          refine (p1 _).mono ?_
          rintro e w1 ⟨v1, rfl, o1, b1⟩
          go_wp2_with fail
          refine (p2 _).mono ?_
          rintro e w2 ⟨v2, rfl, o2, b2⟩
          have c2 := below_join b1 b2
          have he4 := he3.below c2
          have B4 := below_join B3 c2
          have a1 : WdsAt w2 v1 (wdsOf s As) := (wds_of_owns (es := wdsOf s As) (by rw [wdsOf_length]; exact o1)).below b2
          have a2 : WdsAt w2 v2 (wdsOf t Bs) := wds_of_owns (es := wdsOf t Bs) (by rw [wdsOf_length]; exact o2)
          clear o1 o2 b1 b2 c2 B3 he3 p1 p2
          have hlA : (wdsOf s As).length = As.length := wdsOf_length s As
          have hlB : (wdsOf t Bs).length = Bs.length := wdsOf_length t Bs
          obtain ⟨K, hK⟩ : ∃ K : Bool, K = decide ((un s)[(un s).length - 1]? = some x) := ⟨_, rfl⟩
          have HK : Hid (K = decide ((un s)[(un s).length - 1]? = some x)) := hK
          clear hK
          obtain ⟨aa, ca, ba, oa, hva, haa, hca, hwa⟩ := a1
          obtain ⟨ab, cb, bb, ob, hvb, hab, hcb, hwb⟩ := a2
          rw [hlA] at hva hca
          rw [hlB] at hvb hcb
          subst hva
          subst hvb
          go_upto_region 8 with fail
          go_cut [60] (fun v wz => v = .bool K ∧ wz = w2)
          case first =>
            cases hem : s.toList.isEmpty
            · have hpos : 0 < s.size := (isEmpty_false s).1 hem
              have hlast := un_getElem? s (s.size - 1) (by omega)
              have HK2 : Hid (K = decide (s[s.size - 1] = x)) := by
                unfold Hid
                rw [HK.out, hsl, hlast]
                exact decide_eq_decide.2 ⟨fun h => Option.some.inj h, fun h => by rw [h]⟩
              have q1 := beq_u88 s[s.size - 1] x
              rw [← HK2.out] at q1
              have hsz1 : ((s.size : Int) - 1) = ((s.size - 1 : Nat) : Int) := by omega
              have k0 : (0 : Int) ≤ (s.size : Int) - 1 := by omega
              have k1 : (s.size : Int) - 1 < (s.size : Int) := by omega
              clear hlast HK HK2
              go_wp2
              go_meet
              exact ⟨rfl, rfl⟩
            · have hz : s.size = 0 := (isEmpty_iff s).1 hem
              have HKF : Hid (K = false) := by
                unfold Hid
                rw [HK.out, hsl, hz, List.getElem?_eq_none (by omega)]; rfl
              go_wp2
              go_meet
              exact ⟨by rw [HKF.out], rfl⟩
          case rest =>
            obtain ⟨rfl, rfl⟩ := hcut
            cases K
            rotate_left
            · go_wp2_with fail
              refine (works_w _ he4).mono ?_
              rintro e w3 ⟨rfl, b3⟩
              go_wp2
              go_ret
              exact ⟨rfl, below_join B4 b3⟩
            have hjs : splitR (escN x) (un (s ++ bs [y] ++ t)) = .ok (As ++ Bs.map (sh (s.size + 1))) := by
              rw [hEE, un_append, un_append, un_bs, List.append_assoc]
              have h := join_split x (un s) (un t) y As Bs h1 h2 hbl (fun d hd e => by
                subst e
                have := HK.out
                rw [decide_eq_true hd] at this
                exact absurd this (by decide))
              rw [hsl] at h
              exact h
            have hcovA := (split_cov _ _ _ h1).1
            have hjz : (s ++ bs [y] ++ t).size = s.size + 1 + t.size := by rw [← un_length, un_append, un_append, List.length_append, List.length_append, un_length, un_length, un_length, size_bs]; rfl
            have p3 := fun W => split_ok (s ++ bs [y] ++ t) x _ hjs W (by omega)
            have HL : Hid (∀ i, i < As.length + Bs.length → ∃ z : Wd, (wdsOf (s ++ bs [y] ++ t) (As ++ Bs.map (sh (s.size + 1))))[i]? = some z ∧ ((i < As.length ∧ (wdsOf s As)[i]? = some z) ∨ (As.length ≤ i ∧ ∃ z' : Wd, (wdsOf t Bs)[i - As.length]? = some z' ∧ z = ⟨z'.p + (s.size : Int) + 1, z'.r⟩ ∧ 0 ≤ z'.p ∧ z'.p ≤ 1048576))) := fun i hi => by
              unfold wdsOf
              by_cases hlt : i < As.length
              · obtain ⟨q, hq⟩ : ∃ q, As[i]? = some q := ⟨_, List.getElem?_eq_getElem hlt⟩
                refine ⟨wdOf s q, ?_, .inl ⟨hlt, by rw [List.getElem?_map, hq]; rfl⟩⟩
                rw [List.getElem?_map, List.getElem?_append_left hlt, hq]
                show some (wdOf _ q) = _
                rw [join_left]
                have := (hcovA i q.1 q.2 hq).2.1
                omega
              · obtain ⟨q, hq⟩ : ∃ q, Bs[i - As.length]? = some q := ⟨_, List.getElem?_eq_getElem (by omega)⟩
                have hcB := (split_cov _ _ _ h2).1 (i - As.length) q.1 q.2 hq
                refine ⟨⟨(q.1 : Int) + (s.size : Int) + 1, t.extract q.1 q.2⟩, ?_, .inr ⟨by omega, wdOf t q, by rw [List.getElem?_map, hq]; rfl, rfl, ?_, ?_⟩⟩
                · rw [List.getElem?_map, List.getElem?_append_right (by omega), List.getElem?_map, hq]
                  show some (wdOf _ (sh _ q)) = _
                  rw [join_right]
                · show (0 : Int) ≤ (q.1 : Int); omega
                · show (q.1 : Int) ≤ 1048576; have := hcB.1; have := hcB.2.1; omega
            have hll : (wdsOf (s ++ bs [y] ++ t) (As ++ Bs.map (sh (s.size + 1)))).length = As.length + Bs.length := by rw [wdsOf_length, List.length_append, List.length_map]
            have hll2 : (As ++ Bs.map (sh (s.size + 1))).length = As.length + Bs.length := by rw [List.length_append, List.length_map]
            rw [hll2] at p3
            have hcv := conv_own [y] wc.heap.size _ _ (own_one wc y)
            have B5 : Below w.heap.size w (wc.alloc (.cells #[.int .u8 y.toNat] 5)) := B4.alloc B4.size _
            have D5 : Below wc.heap.size wc (wc.alloc (.cells #[.int .u8 y.toNat] 5)) := (Below.refl _ wc).alloc (Nat.le_refl _) _
            have hAl : As.length ≤ 1048577 := by have := split_len _ _ _ h1; omega
            have hBl : Bs.length ≤ 1048577 := by have := split_len _ _ _ h2; omega
            clear hjs hll2 h1 h2 hcovA HK
            generalize wdsOf (s ++ bs [y] ++ t) (As ++ Bs.map (sh (s.size + 1))) = WL at *
            have hb1 : (bs [y]).size = 1 := rfl
            go_wp2_with fail
            refine (p3 _).mono ?_
            rintro e w5 ⟨v5, rfl, o5, b5⟩
            have b5' := below_join D5 b5
            have B6 := below_join B5 b5
            obtain ⟨al, cl, bl, ol, hvl, hal, hcl, hwl⟩ : WdsAt w5 v5 WL := wds_of_owns (by rw [hll]; exact o5)
            rw [hll] at hvl hcl
            subst hvl
            have HA : Hid (∀ i z, (wdsOf s As)[i]? = some z → aa = some ⟨ba, oa, none⟩ ∧ WdC w5 ba (oa + i * 2) z) := fun i z hz => ⟨haa (fun e => by rw [e] at hz; simp at hz), (hwa i z hz).below b5'⟩
            have HB : Hid (∀ i z, (wdsOf t Bs)[i]? = some z → ab = some ⟨bb, ob, none⟩ ∧ WdC w5 bb (ob + i * 2) z) := fun i z hz => ⟨hab (fun e => by rw [e] at hz; simp at hz), (hwb i z hz).below b5'⟩
            have HLW : Hid (∀ i z, WL[i]? = some z → al = some ⟨bl, ol, none⟩ ∧ WdC w5 bl (ol + i * 2) z) := fun i z hz => ⟨hal (fun e => by rw [e] at hz; simp at hz), hwl i z hz⟩
            clear haa hwa hab hwb hal hwl o5 b5 D5 B5 b5' hcv p3
            have hnk : (((As.length + Bs.length : Nat) : Int) != (As.length : Int) + (Bs.length : Int)) = false := by simp
            have hinf : (Tryd.prog.info? 41).map (·.size) = some 2 := by kernel_rfl
            generalize hn : As.length = na at *
            generalize hm : Bs.length = nb at *
            go_wp2
            go_loopw [13, 14] (fun iv _ wr => ∃ i : Nat, i ≤ na + nb ∧ iv = .int .i64 i ∧ Below w5.heap.size w5 wr) (fun iv _ _ => na + nb - (intOf iv).toNat)
            case atStart => exact ⟨0, Nat.zero_le _, rfl, Below.refl _ _⟩
            case round =>
              obtain ⟨i, hi, rfl, hb⟩ := hrel
              have i0 : (0 : Int) ≤ (i : Int) := by omega
              by_cases hlt : i < na + nb
              · obtain ⟨z, hz, hzz⟩ := HL.out i hlt
                obtain ⟨rfl, g0, g1⟩ := HLW.out i z hz
                have j1 : (i : Int) < (na : Int) + (nb : Int) := by omega
                have GZ : Hid (∀ W, Below wr.heap.size wr W → WdC W bl (ol + i * 2) z) := fun W h => WdC.below ⟨g0, g1⟩ (below_join hb h)
                have L1 : Lies (wr.alloc (.cells #[.int .i64 0, .string ⟨#[]⟩] 41)) wr.heap.size 41 #[.int .i64 0, .string ⟨#[]⟩] := Lies.new wr _ _
                have D1 : Below wr.heap.size wr (wr.alloc (.cells #[.int .i64 0, .string ⟨#[]⟩] 41)) := (Below.refl _ wr).alloc (Nat.le_refl _) _
                have L2 := L1.row #[.int .i64 0, .string ⟨#[]⟩]
                have D2 := below_setRow D1 (Nat.le_refl _) #[.int .i64 0, .string ⟨#[]⟩]
                clear g0 g1 hz
                rcases hzz with ⟨h1, h2⟩ | ⟨h1, z', h2, rfl, z0, z1⟩
                · obtain ⟨rfl, d0, d1⟩ := HA.out i z h2
                  have j2 : (i : Int) < (na : Int) := by omega
                  have X2 := WdC.below (WdC.below ⟨d0, d1⟩ hb) D2
                  obtain ⟨x0, x1⟩ := X2
                  have D3 := below_setRow D2 (Nat.le_refl _) #[.int .i64 z.p, .string z.r]
                  have L3 := L2.row #[.int .i64 z.p, .string z.r]
                  clear d0 d1 h2 HL HLW HA HB L3
                  have hone0 : (#[.int .i64 0, .string ⟨#[]⟩] : Array Value).all (·.oneCell') = true := by simp [Value.oneCell']
                  have hone1 : (#[.int .i64 z.p, .string z.r] : Array Value).all (·.oneCell') = true := by simp [Value.oneCell']
                  have L3 := L2.row #[.int .i64 z.p, .string z.r]
                  obtain ⟨y0, y1⟩ := GZ.out _ D3
                  have f0 := L3.cell (i := 0) rfl
                  have f1 := L3.cell (i := 1) rfl
                  have heq := fun W => eq_self z W
                  clear GZ
                  go_wp2_with (first | (refine wpList_store_row rfl 41 (.tmp 14) (.tmp 92) rfl wr.heap.size #[.int .i64 0, .string ⟨#[]⟩] rfl rfl 41 #[.int .i64 0, .string ⟨#[]⟩] L1 hinf rfl hone0 ?_) | (refine wpList_store_row rfl 41 (.tmp 14) (.tmp 100) rfl wr.heap.size #[.int .i64 z.p, .string z.r] rfl rfl 41 #[.int .i64 0, .string ⟨#[]⟩] L2 hinf rfl hone1 ?_))
                  go_quiet (fail)
                  go_wp2
                  go_roundw
                  case rel => exact ⟨i + 1, by omega, by go_num, below_drawn (below_join hb D3) _⟩
                  case measure => simp [intOf]; omega
                · obtain ⟨zp, zr⟩ := z'
                  simp only at z0 z1
                  obtain ⟨rfl, d0, d1⟩ := HB.out _ _ h2
                  obtain ⟨k, rfl⟩ : ∃ k, i = na + k := ⟨i - na, by omega⟩
                  rw [Nat.add_sub_cancel_left] at d0 d1
                  have hsub : ((na + k : Nat) : Int) - (na : Int) = (k : Int) := by omega
                  have j2 : ¬ ((na + k : Nat) : Int) < (na : Int) := by omega
                  have j3 : (0 : Int) ≤ (k : Int) := by omega
                  have j4 : (k : Int) < (nb : Int) := by omega
                  have X2 := WdC.below (WdC.below ⟨d0, d1⟩ hb) D2
                  obtain ⟨x0, x1⟩ := X2
                  have D3 := below_setRow D2 (Nat.le_refl _) #[.int .i64 zp, .string zr]
                  have L3 := L2.row #[.int .i64 zp, .string zr]
                  have D4 := D3.setCell (p := ⟨wr.heap.size, 0, none⟩) (Nat.le_refl _) (.int .i64 (zp + (s.size : Int) + 1))
                  have L4 := L3.set (i := 0) (.int .i64 (zp + (s.size : Int) + 1))
                  clear d0 d1 h2 HL HLW HA HB
                  have hone0 : (#[.int .i64 0, .string ⟨#[]⟩] : Array Value).all (·.oneCell') = true := by simp [Value.oneCell']
                  have hone1 : (#[.int .i64 zp, .string zr] : Array Value).all (·.oneCell') = true := by simp [Value.oneCell']
                  obtain ⟨y0, y1⟩ := GZ.out _ D4
                  have f0 := L3.cell (i := 0) rfl
                  have f1 := L3.frozen 0
                  have g0 := L4.cell (i := 0) (v := .int .i64 (zp + (s.size : Int) + 1)) rfl
                  have g1 := L4.cell (i := 1) (v := .string zr) rfl
                  have heq := fun W => eq_self ⟨zp + (s.size : Int) + 1, zr⟩ W
                  clear GZ L4 hjz
                  go_wp2_with (first | (refine wpList_store_row rfl 41 (.tmp 14) (.tmp 92) rfl wr.heap.size #[.int .i64 0, .string ⟨#[]⟩] rfl rfl 41 #[.int .i64 0, .string ⟨#[]⟩] L1 hinf rfl hone0 ?_) | (refine wpList_store_row rfl 41 (.tmp 14) (.tmp 107) rfl wr.heap.size #[.int .i64 zp, .string zr] rfl rfl 41 #[.int .i64 0, .string ⟨#[]⟩] L2 hinf rfl hone1 ?_))
                  go_quiet (fail)
                  go_wp2
                  go_roundw
                  case rel => exact ⟨na + k + 1, by omega, by go_num, below_drawn (below_join hb D4) _⟩
                  case measure => simp [intOf]; omega
              · obtain rfl : i = na + nb := by omega
                have j1 : ¬ ((na + nb : Nat) : Int) < (na : Int) + (nb : Int) := by omega
                have B7 := below_join B6 hb
                clear HL HLW HA HB
                go_wp2_with fail
                refine (works_w _ (he.below B7)).mono ?_
                rintro e w6 ⟨rfl, b6⟩
                go_wp2
                go_ret
                exact ⟨rfl, below_join B7 b6⟩
end Go.Proofs.YtmnggnmgiflhjaaDoor
