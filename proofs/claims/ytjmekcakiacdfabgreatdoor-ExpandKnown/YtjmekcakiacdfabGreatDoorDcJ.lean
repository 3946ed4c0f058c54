/- The document's quoted: what stands between double quotes. -/
import Derived.Test.YtjmekcakiacdfabGreatDoorDcI
namespace Go.Proofs.YtjmekcakiacdfabGreatDoor
open Go Go.RowKit

theorem free3 {e c : UInt8} {st : List Nat} (h1 : c ≠ e) (h2 : c ≠ 36) (h3 : c ≠ 34) : freeB e (3 :: st) c = true := by
  unfold freeB
  have a1 : (c == e) = false := by simpa using h1
  have a2 : (c == 36) = false := by simpa using h2
  have a3 : (c == 34) = false := by simpa using h3
  simp [a1, a2, a3, opq]
set_option maxHeartbeats 8000000 in
set_option maxRecDepth 100000 in
theorem quoted_r (st : List Nat) (W : World) (B R : Nat) (s : ByteArray) (e : UInt8) (k : Nat) (v : Value) (ns : List (List UInt8)) (h : DR W B R s e k 0 v ns) (hk : k ≤ s.size) (hB : B ≤ W.heap.size) (hnl : ns.length ≤ k) (hs : s.size ≤ 1099511627776) (hV : VarT (3 :: st) B R s e k) : Calls Tryz.prog 53 #[.pointer (some ⟨R, 0, none⟩)] W fun x w' => LPost (3 :: st) st (fun _ => True) s.size W B R s e k v ns x w' := by
  obtain ⟨i0, hi, hz0, hz1, hz2⟩ := info_parts info_pt
  have hsl := un_length s
  have H0 : Hid (LI (3 :: st) W B R s e k v ns W k 0 v ns (.slice none 0 0) [] []) := LI.start (3 :: st) h hk
  clear h
  go_enter Tryz.func53, Tryz.ntmps53
  go_wp2
  go_loopw [3] (fun lv wr => ∃ (k2 no2 : Nat) (v2 : Value) (ns2 : List (List UInt8)) (ts : List Pt) (us : List Value), wr.cell? ⟨R, 1, none⟩ = some (.int .i64 k2) ∧ LI (3 :: st) W B R s e k v ns wr k2 no2 v2 ns2 lv ts us) (fun _ wr => s.size + 1 - (match wr.cell? ⟨R, 1, none⟩ with | some v => (intOf v).toNat | none => 0))
  case atStart => exact ⟨k, 0, v, ns, [], [], H0.out.dr.lies.cell (i := 1) rfl, H0.out⟩
  case round =>
    obtain ⟨k2, no2, v2, ns2, ts, us, hc1, hl⟩ := hrel
    have f0 := hl.dr.lies.cell (i := 0) rfl
    have hki := hl.hi
    by_cases hlt : k2 < s.size
    · obtain rfl : no2 = 0 := by
        by_cases h0 : no2 = 0
        · exact h0
        · have := (hl.bad h0).1; omega
      have HL0 : Hid (LI (3 :: st) W B R s e k v ns wr k2 0 v2 ns2 u3 ts us) := hl
      have d0 : (0 : Int) ≤ (k2 : Int) := by omega
      have d1 : (k2 : Int) < (s.size : Int) := by omega
      have hNx := fun n => next_r (wr.drewN n) B R s e k2 0 v2 ns2 (HL0.out.dr.drew n) (by omega) hs
      have HD : Hid ((un s).drop k2 = s[k2] :: (un s).drop (k2 + 1)) := drop_get hlt
      clear hl
      go_wp2
      go_quiet (fail)
      go_wp2
      go_quiet (fail)
      go_wp2_with fail
      refine (hNx _).mono ?_
      rintro x w1 ⟨rfl, q, hw⟩
      have HL : Hid (LI (3 :: st) W B R s e k v ns w1 k2 0 v2 ns2 u3 ts us) := by unfold Hid; rw [hw]; exact (HL0.out.to _).to _
      clear hw hNx f0 HL0
      have g0 := HL.out.dr.lies.cell (i := 0) rfl
      have g1 := HL.out.dr.lies.cell (i := 1) rfl
      have g2 := HL.out.dr.lies.cell (i := 2) rfl
      have gr := HL.out.dr.lies.frozen 1
      generalize s[k2] = c at *
      by_cases hce : c = e
      · have q1 := u8t hce
        cases hT : (un s).drop (k2 + 1) with
        | nil =>
          simp only [nextV]
          have HRun : Hid (Run e (3 :: st) ((un s).drop k2) (3 :: st) ((un s).drop (k2 + 1)) [.lit [c]]) := by
            unfold Hid; rw [HD.out]; exact (by rw [hce, hT]; exact run_lone (fun d r h => by cases h))
          have hB1 := fun W2 (hdr : DR W2 B R s e k2 0 v2 ns2) => bytes_r 1 W2 B R s e k2 0 v2 ns2 hdr (by omega) hs
          rw [show ((un s).drop k2).take 1 = [c] by rw [HD.out]; rfl] at hB1
          clear HD g0 hce hT
          go_wp2_with (first
            | (go_at_call 51; refine (hB1 _ HL.out.dr).mono ?_; rintro x w2 ⟨rfl, hdr2, r2⟩; unfold pcD; have pi2 := HL.out.bytes hdr2 (by omega) (by omega) r2 HRun.out (by simp); have hln := pi2.len.1)
            | (at_builtin; refine wpList_append_own_at _ rfl _ _ 80 rfl 0 108 i0 (.agg #[.string ⟨#[]⟩, .string ⟨#[]⟩, .int .u8 0, .slice none 0 0]) 4 64 Tryz.underlying80 hi hz0 hz1 hz2 rfl (by decide) u3 ts.length (ptsC ts us) rfl (pi2.pl.pts.own.alloc _) ⟨w2.heap.size, 0, none⟩ 1 1 [.string (bs [c]), .string ⟨#[]⟩, .int .u8 0, .slice none 0 0] rfl rfl (cells_new4 w2 _ _ _ _ _) (by simp [Value.oneCell']) (by unfold maxLen; omega) (by omega) (by simp) ?_; intro lv3 w3 hown3 hgrow3 _ hat3; have li3 := pi2.push hown3 hgrow3 hat3))
          have hc3 := li3.dr.lies.cell (i := 1) rfl
          go_roundw
          case rel => exact ⟨_, _, _, _, _, _, hc3, li3⟩
          case measure => rw [hc3]; simp [intOf, hc1]; omega
        | cons d r =>
          simp only [nextV]
          by_cases hd0 : d = 34
          · have q0 : ((d.toNat : Int) == 34) = true := u8nt (n := 34) (by decide) hd0
            obtain ⟨kb, hkb⟩ : ∃ kb, k2 + 1 = kb := ⟨_, rfl⟩
            have w1' : IntKind.i64.wrap ((k2 : Int) + 1) = (kb : Int) := by rw [wrap_small _ (by omega) (by omega)]; omega
            have hkl : kb < s.size := by have := congrArg List.length hT; rw [List.length_drop, hsl, List.length_cons] at this; omega
            have HRun : Hid (Run e (3 :: st) ((un s).drop k2) (3 :: st) ((un s).drop (kb + 1)) [.lit [d]]) := by
              unfold Hid; rw [HD.out, hT, hce, show (un s).drop (kb + 1) = r by rw [← hkb, ← List.drop_drop, hT]; rfl]; exact (run_esc (by subst hd0; simp [escs]) r)
            have hB1 := fun W2 (hdr : DR W2 B R s e kb 0 v2 ns2) => bytes_r 1 W2 B R s e kb 0 v2 ns2 hdr (by omega) hs
            rw [show ((un s).drop kb).take 1 = [d] by rw [← hkb, hT]; rfl] at hB1
            have hm := HL.out.dr.move kb
            have rm := (Rnd.refl (rdS R v2) w1).set (b := R) (i := 1) (.inl rfl) (.int .i64 (kb : Int))
            clear HD g0 hce hT hd0
            go_wp2_with (first
              | (go_at_call 51; refine (hB1 _ hm).mono ?_; rintro x w2 ⟨rfl, hdr2, r2⟩; unfold pcD; have pi2 := HL.out.bytes hdr2 (by omega) (by omega) (rm.trans r2) HRun.out (by simp); have hln := pi2.len.1)
              | (at_builtin; refine wpList_append_own_at _ rfl _ _ 80 rfl 0 108 i0 (.agg #[.string ⟨#[]⟩, .string ⟨#[]⟩, .int .u8 0, .slice none 0 0]) 4 64 Tryz.underlying80 hi hz0 hz1 hz2 rfl (by decide) u3 ts.length (ptsC ts us) rfl (pi2.pl.pts.own.alloc _) ⟨w2.heap.size, 0, none⟩ 1 1 [.string (bs [d]), .string ⟨#[]⟩, .int .u8 0, .slice none 0 0] rfl rfl (cells_new4 w2 _ _ _ _ _) (by simp [Value.oneCell']) (by unfold maxLen; omega) (by omega) (by simp) ?_; intro lv3 w3 hown3 hgrow3 _ hat3; have li3 := pi2.push hown3 hgrow3 hat3))
            have hc3 := li3.dr.lies.cell (i := 1) rfl
            go_roundw
            case rel => exact ⟨_, _, _, _, _, _, hc3, li3⟩
            case measure => rw [hc3]; simp [intOf, hc1]; omega
          · have q0 : ((d.toNat : Int) == 34) = false := u8nf (n := 34) (by decide) hd0
            by_cases hd1 : d = 36
            · have q2 : ((d.toNat : Int) == 36) = true := u8nt (n := 36) (by decide) hd1
              obtain ⟨kb, hkb⟩ : ∃ kb, k2 + 1 = kb := ⟨_, rfl⟩
              have w1' : IntKind.i64.wrap ((k2 : Int) + 1) = (kb : Int) := by rw [wrap_small _ (by omega) (by omega)]; omega
              have hkl : kb < s.size := by have := congrArg List.length hT; rw [List.length_drop, hsl, List.length_cons] at this; omega
              have HRun : Hid (Run e (3 :: st) ((un s).drop k2) (3 :: st) ((un s).drop (kb + 1)) [.lit [d]]) := by
                unfold Hid; rw [HD.out, hT, hce, show (un s).drop (kb + 1) = r by rw [← hkb, ← List.drop_drop, hT]; rfl]; exact (run_esc (by subst hd1; simp [escs]) r)
              have hB1 := fun W2 (hdr : DR W2 B R s e kb 0 v2 ns2) => bytes_r 1 W2 B R s e kb 0 v2 ns2 hdr (by omega) hs
              rw [show ((un s).drop kb).take 1 = [d] by rw [← hkb, hT]; rfl] at hB1
              have hm := HL.out.dr.move kb
              have rm := (Rnd.refl (rdS R v2) w1).set (b := R) (i := 1) (.inl rfl) (.int .i64 (kb : Int))
              clear HD g0 hce hT hd0 hd1
              go_wp2_with (first
                | (go_at_call 51; refine (hB1 _ hm).mono ?_; rintro x w2 ⟨rfl, hdr2, r2⟩; unfold pcD; have pi2 := HL.out.bytes hdr2 (by omega) (by omega) (rm.trans r2) HRun.out (by simp); have hln := pi2.len.1)
                | (at_builtin; refine wpList_append_own_at _ rfl _ _ 80 rfl 0 108 i0 (.agg #[.string ⟨#[]⟩, .string ⟨#[]⟩, .int .u8 0, .slice none 0 0]) 4 64 Tryz.underlying80 hi hz0 hz1 hz2 rfl (by decide) u3 ts.length (ptsC ts us) rfl (pi2.pl.pts.own.alloc _) ⟨w2.heap.size, 0, none⟩ 1 1 [.string (bs [d]), .string ⟨#[]⟩, .int .u8 0, .slice none 0 0] rfl rfl (cells_new4 w2 _ _ _ _ _) (by simp [Value.oneCell']) (by unfold maxLen; omega) (by omega) (by simp) ?_; intro lv3 w3 hown3 hgrow3 _ hat3; have li3 := pi2.push hown3 hgrow3 hat3))
              have hc3 := li3.dr.lies.cell (i := 1) rfl
              go_roundw
              case rel => exact ⟨_, _, _, _, _, _, hc3, li3⟩
              case measure => rw [hc3]; simp [intOf, hc1]; omega
            · have q2 : ((d.toNat : Int) == 36) = false := u8nf (n := 36) (by decide) hd1
              by_cases hd2 : d = e
              · have q3 := u8t hd2
                obtain ⟨kb, hkb⟩ : ∃ kb, k2 + 1 = kb := ⟨_, rfl⟩
                have w1' : IntKind.i64.wrap ((k2 : Int) + 1) = (kb : Int) := by rw [wrap_small _ (by omega) (by omega)]; omega
                have hkl : kb < s.size := by have := congrArg List.length hT; rw [List.length_drop, hsl, List.length_cons] at this; omega
                have HRun : Hid (Run e (3 :: st) ((un s).drop k2) (3 :: st) ((un s).drop (kb + 1)) [.lit [d]]) := by
                  unfold Hid; rw [HD.out, hT, hce, show (un s).drop (kb + 1) = r by rw [← hkb, ← List.drop_drop, hT]; rfl]; exact (run_esc (by subst hd2; simp [escs]) r)
                have hB1 := fun W2 (hdr : DR W2 B R s e kb 0 v2 ns2) => bytes_r 1 W2 B R s e kb 0 v2 ns2 hdr (by omega) hs
                rw [show ((un s).drop kb).take 1 = [d] by rw [← hkb, hT]; rfl] at hB1
                have hm := HL.out.dr.move kb
                have rm := (Rnd.refl (rdS R v2) w1).set (b := R) (i := 1) (.inl rfl) (.int .i64 (kb : Int))
                clear HD g0 hce hT hd0 hd1 hd2
                go_wp2_with (first
                  | (go_at_call 51; refine (hB1 _ hm).mono ?_; rintro x w2 ⟨rfl, hdr2, r2⟩; unfold pcD; have pi2 := HL.out.bytes hdr2 (by omega) (by omega) (rm.trans r2) HRun.out (by simp); have hln := pi2.len.1)
                  | (at_builtin; refine wpList_append_own_at _ rfl _ _ 80 rfl 0 108 i0 (.agg #[.string ⟨#[]⟩, .string ⟨#[]⟩, .int .u8 0, .slice none 0 0]) 4 64 Tryz.underlying80 hi hz0 hz1 hz2 rfl (by decide) u3 ts.length (ptsC ts us) rfl (pi2.pl.pts.own.alloc _) ⟨w2.heap.size, 0, none⟩ 1 1 [.string (bs [d]), .string ⟨#[]⟩, .int .u8 0, .slice none 0 0] rfl rfl (cells_new4 w2 _ _ _ _ _) (by simp [Value.oneCell']) (by unfold maxLen; omega) (by omega) (by simp) ?_; intro lv3 w3 hown3 hgrow3 _ hat3; have li3 := pi2.push hown3 hgrow3 hat3))
                have hc3 := li3.dr.lies.cell (i := 1) rfl
                go_roundw
                case rel => exact ⟨_, _, _, _, _, _, hc3, li3⟩
                case measure => rw [hc3]; simp [intOf, hc1]; omega
              · have q3 := u8f hd2
                have HRun : Hid (Run e (3 :: st) ((un s).drop k2) (3 :: st) ((un s).drop (k2 + 1)) [.lit [c]]) := by
                  unfold Hid; rw [HD.out]; exact (by rw [hce, hT]; exact run_lone (fun d2 r2 h => by cases h; simp [escs, hd0, hd1, hd2]))
                have hB1 := fun W2 (hdr : DR W2 B R s e k2 0 v2 ns2) => bytes_r 1 W2 B R s e k2 0 v2 ns2 hdr (by omega) hs
                rw [show ((un s).drop k2).take 1 = [c] by rw [HD.out]; rfl] at hB1
                clear HD g0 hce hT hd0 hd1 hd2
                go_wp2_with (first
                  | (go_at_call 51; refine (hB1 _ HL.out.dr).mono ?_; rintro x w2 ⟨rfl, hdr2, r2⟩; unfold pcD; have pi2 := HL.out.bytes hdr2 (by omega) (by omega) r2 HRun.out (by simp); have hln := pi2.len.1)
                  | (at_builtin; refine wpList_append_own_at _ rfl _ _ 80 rfl 0 108 i0 (.agg #[.string ⟨#[]⟩, .string ⟨#[]⟩, .int .u8 0, .slice none 0 0]) 4 64 Tryz.underlying80 hi hz0 hz1 hz2 rfl (by decide) u3 ts.length (ptsC ts us) rfl (pi2.pl.pts.own.alloc _) ⟨w2.heap.size, 0, none⟩ 1 1 [.string (bs [c]), .string ⟨#[]⟩, .int .u8 0, .slice none 0 0] rfl rfl (cells_new4 w2 _ _ _ _ _) (by simp [Value.oneCell']) (by unfold maxLen; omega) (by omega) (by simp) ?_; intro lv3 w3 hown3 hgrow3 _ hat3; have li3 := pi2.push hown3 hgrow3 hat3))
                have hc3 := li3.dr.lies.cell (i := 1) rfl
                go_roundw
                case rel => exact ⟨_, _, _, _, _, _, hc3, li3⟩
                case measure => rw [hc3]; simp [intOf, hc1]; omega
      · have q1 := u8f hce
        obtain ⟨nb, nd, hnx⟩ : ∃ (nb : Bool) (nd : Int), nextV ((un s).drop (k2 + 1)) = .tuple #[.int .u8 nd, .bool nb] := by
          cases (un s).drop (k2 + 1) with
          | nil => exact ⟨_, _, rfl⟩
          | cons d r => exact ⟨_, _, rfl⟩
        rw [hnx]
        by_cases hc34 : c = 34
        · have q2 : ((c.toNat : Int) == 34) = true := u8nt (n := 34) (by decide) hc34
          obtain ⟨kb, hkb⟩ : ∃ kb, k2 + 1 = kb := ⟨_, rfl⟩
          have w1' : IntKind.i64.wrap ((k2 : Int) + 1) = (kb : Int) := by rw [wrap_small _ (by omega) (by omega)]; omega
          have HRun : Hid (Run e (3 :: st) ((un s).drop k2) st ((un s).drop kb) []) := by
            unfold Hid; rw [HD.out, hkb, hc34]; exact run_close (by rw [← hc34]; exact hce) _
          clear HD g0 hce hc34 hnx
          go_wp2
          go_ret
          exact HL.out.last kb (by omega) (by omega) (by omega) HRun.out trivial
        · have q2 : ((c.toNat : Int) == 34) = false := u8nf (n := 34) (by decide) hc34
          by_cases hc36 : c = 36
          · have q3 : ((c.toNat : Int) == 36) = true := u8nt (n := 36) (by decide) hc36
            have hln1 := HL.out.ok rfl
            have hVt := hV w1 k2 v2 ns2 (by have := HL.out.len.2 rfl; omega) HL.out.dr (by rw [← hc36]; exact hce) ⟨(un s).drop (k2 + 1), by rw [HD.out, hc36]⟩ (by have := HL.out.rnd.size; omega) (by omega)
            clear HD g0 hce hc34 hc36 hnx
            clear hln1
            go_wp2_with fail
            refine hVt.mono ?_
            rintro x w2 ⟨p, u, k3, no3, v3, ns3, rfl, hdr2, hk23, hk3, hkid, r2, hok3, hbad3⟩
            have pi2 := HL.out.piece hdr2 hk23 hk3 hkid r2 hok3 hbad3
            have hln := pi2.len.1
            clear hdr2 hkid r2 hok3 hbad3 hVt
            obtain ⟨pt, pn, po, pk⟩ := p
            have hku := pi2.kid
            rw [PatP] at hku
            obtain ⟨_, _, us0, _, hu0, _⟩ := hku
            obtain ⟨ua, uc, ug, rfl, _⟩ := own_form4 hu0
            clear hu0
            simp only [ptC]
            go_wp2_with (at_builtin; refine wpList_append_own_at _ rfl _ _ 80 rfl 0 108 i0 (.agg #[.string ⟨#[]⟩, .string ⟨#[]⟩, .int .u8 0, .slice none 0 0]) 4 64 Tryz.underlying80 hi hz0 hz1 hz2 rfl (by decide) u3 ts.length (ptsC ts us) rfl (pi2.pl.pts.own.alloc _) ⟨w2.heap.size, 0, none⟩ 1 1 [.string (bs pt), .string (bs pn), .int .u8 po.toNat, .slice ua pk.length uc] rfl rfl (cells_new4 w2 _ _ _ _ _) (by simp [Value.oneCell']) (by unfold maxLen; omega) (by omega) (by simp) ?_; intro lv3 w3 hown3 hgrow3 _ hat3; have li3 := pi2.push hown3 hgrow3 hat3)
            have hc3 := li3.dr.lies.cell (i := 1) rfl
            go_roundw
            case rel => exact ⟨_, _, _, _, _, _, hc3, li3⟩
            case measure => rw [hc3]; simp [intOf, hc1]; omega
          · have q3 : ((c.toNat : Int) == 36) = false := u8nf (n := 36) (by decide) hc36
            have HRun : Hid (Run e (3 :: st) ((un s).drop k2) (3 :: st) ((un s).drop (k2 + 1)) [.lit [c]]) := by
              unfold Hid; rw [HD.out]; exact (run_free (free3 hce hc36 hc34) _)
            have hB1 := fun W2 (hdr : DR W2 B R s e k2 0 v2 ns2) => bytes_r 1 W2 B R s e k2 0 v2 ns2 hdr (by omega) hs
            rw [show ((un s).drop k2).take 1 = [c] by rw [HD.out]; rfl] at hB1
            clear HD g0 hce hc34 hc36 hnx
            go_wp2_with (first
              | (go_at_call 51; refine (hB1 _ HL.out.dr).mono ?_; rintro x w2 ⟨rfl, hdr2, r2⟩; unfold pcD; have pi2 := HL.out.bytes hdr2 (by omega) (by omega) r2 HRun.out (by simp); have hln := pi2.len.1)
              | (at_builtin; refine wpList_append_own_at _ rfl _ _ 80 rfl 0 108 i0 (.agg #[.string ⟨#[]⟩, .string ⟨#[]⟩, .int .u8 0, .slice none 0 0]) 4 64 Tryz.underlying80 hi hz0 hz1 hz2 rfl (by decide) u3 ts.length (ptsC ts us) rfl (pi2.pl.pts.own.alloc _) ⟨w2.heap.size, 0, none⟩ 1 1 [.string (bs [c]), .string ⟨#[]⟩, .int .u8 0, .slice none 0 0] rfl rfl (cells_new4 w2 _ _ _ _ _) (by simp [Value.oneCell']) (by unfold maxLen; omega) (by omega) (by simp) ?_; intro lv3 w3 hown3 hgrow3 _ hat3; have li3 := pi2.push hown3 hgrow3 hat3))
            have hc3 := li3.dr.lies.cell (i := 1) rfl
            go_roundw
            case rel => exact ⟨_, _, _, _, _, _, hc3, li3⟩
            case measure => rw [hc3]; simp [intOf, hc1]; omega
    · have HL : Hid (LI (3 :: st) W B R s e k v ns wr k2 no2 v2 ns2 u3 ts us) := hl
      have hW := fun n => wrong_r 18 (wr.drewN n) B R s e k2 no2 v2 ns2 (HL.out.dr.drew n) hs
      clear hl
      go_wp2
      go_quiet (fail)
      go_wp2_with (go_at_call 52; refine (hW _).mono ?_; rintro x w2 ⟨rfl, hdr2, r2⟩)
      go_ret
      refine (HL.out.to _).wrong hdr2 r2 (Nat.le_refl _) (by decide) (fun h0 => ?_)
      have h1 := (HL.out.ok h0).1
      rw [List.drop_of_length_le (by rw [hsl]; omega)]
      exact bad_end3 st
end Go.Proofs.YtjmekcakiacdfabGreatDoor
