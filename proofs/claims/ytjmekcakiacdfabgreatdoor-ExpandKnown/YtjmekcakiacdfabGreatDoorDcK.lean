/- The document's plain: a word's text, or what stands in braces. -/
import Derived.Test.YtjmekcakiacdfabGreatDoorDcJ
import Derived.Laws.AppendOwnNone
namespace Go.Proofs.YtjmekcakiacdfabGreatDoor
open Go Go.RowKit

def QuoT (st : List Nat) (B R : Nat) (s : ByteArray) (e : UInt8) (k : Nat) : Prop :=
  ∀ (W2 : World) (k2 : Nat) (v2 : Value) (ns2 : List (List UInt8)), k < k2 → k2 ≤ s.size → DR W2 B R s e k2 0 v2 ns2 → B ≤ W2.heap.size → ns2.length ≤ k2 → Calls Tryz.prog 53 #[.pointer (some ⟨R, 0, none⟩)] W2 fun x w' => LPost (3 :: st) st (fun _ => True) s.size W2 B R s e k2 v2 ns2 x w'
def EndP (br : Bool) (s : ByteArray) (e : UInt8) (k3 : Nat) : Prop := (br = true → ∃ r, (un s).drop k3 = 125 :: r ∧ (125 : UInt8) ≠ e) ∧ (br = false → k3 = s.size)
def hiP (br : Bool) (s : ByteArray) : Nat := s.size + if br = true then 0 else 1
theorem free0 {e c : UInt8} {st : List Nat} (h1 : c ≠ e) (h2 : c ≠ 36) (h3 : c ≠ 34) (h4 : c ≠ 39) (h5 : c = 125 → st.headD 0 ≠ 2) : freeB e st c = true := by
  unfold freeB
  have a1 : (c == e) = false := by simpa using h1
  have a2 : (c == 36) = false := by simpa using h2
  have a3 : (c == 34) = false := by simpa using h3
  have a4 : (c == 39) = false := by simpa using h4
  have a5 : (c == 125 && decide (st.headD 0 = 2)) = false := by
    by_cases h : c = 125
    · rw [decide_eq_false (h5 h), Bool.and_false]
    · simp [h]
  simp only [a1, a2, a3, a4, a5]
  rfl
theorem idx_none (c : UInt8) : ∀ (l : List UInt8), (∀ x ∈ l, x ≠ c) → idx c l = none
  | [], _ => rfl
  | b :: t, h => by
    rw [idx, if_neg (h b (List.mem_cons_self ..)), idx_none c t (fun x hx => h x (List.mem_cons_of_mem _ hx))]
    rfl
theorem idx_some (c : UInt8) : ∀ (l : List UInt8) (n : Nat), (∀ x ∈ l.take n, x ≠ c) → l[n]? = some c → idx c l = some n
  | [], n, _, h => by simp at h
  | b :: t, 0, _, h => by simp at h; rw [idx, if_pos h]
  | b :: t, n + 1, h, h2 => by
    rw [idx, if_neg (h b (by simp)), idx_some c t n (fun x hx => h x (by simp [hx])) (by simpa using h2)]
    rfl
theorem patL_cells {w : World} {T : Nat → Prop} : ∀ (ts : List Pt) (us : List Value), PatL w T ts us → ∀ u ∈ ptsC ts us, u.oneCell' = true
  | [], us, _, u, h => by simp [ptsC] at h
  | .mk t n o ks :: l, us, h, u, hu => by
    rw [PatL] at h
    obtain ⟨x, us2, rfl, h1, h2⟩ := h
    rw [ptsC, List.mem_append] at hu
    rcases hu with hu | hu
    · rw [PatP] at h1
      obtain ⟨_, _, us0, _, h3, _⟩ := h1
      obtain ⟨va, vc, g, rfl, _⟩ := own_form4 h3
      simp only [ptC, List.mem_cons, List.not_mem_nil, or_false] at hu
      rcases hu with rfl | rfl | rfl | rfl <;> rfl
    · exact patL_cells l us2 h2 u hu
set_option maxHeartbeats 8000000 in
set_option maxRecDepth 100000 in
theorem plain_r (br : Bool) (st : List Nat) (hop : opq (st.headD 0) = true) (hb1 : br = true → ∃ st0, st = 2 :: st0) (hb2 : br = false → st = [0]) (W : World) (B R : Nat) (s : ByteArray) (e : UInt8) (k : Nat) (v : Value) (ns : List (List UInt8)) (h : DR W B R s e k 0 v ns) (hk : k ≤ s.size) (hB : B ≤ W.heap.size) (hnl : ns.length ≤ k) (hs : s.size ≤ 1099511627776) (hV : VarT st B R s e k) (hQ : QuoT st B R s e k) : Calls Tryz.prog 35 #[.pointer (some ⟨R, 0, none⟩), .bool br] W fun x w' => LPost st st (EndP br s e) (hiP br s) W B R s e k v ns x w' := by
  obtain ⟨i0, hi, hz0, hz1, hz2⟩ := info_parts info_pt
  have hsl := un_length s
  have H0 : Hid (LI st W B R s e k v ns W k 0 v ns (.slice none 0 0) [] []) := LI.start st h hk
  have HB : Hid ((br = true → ∃ st0, st = 2 :: st0) ∧ (br = false → st = [0])) := ⟨hb1, hb2⟩
  clear h hb1 hb2
  go_enter Tryz.func35, Tryz.ntmps35
  go_wp2
  go_loopw [5] (fun lv wr => ∃ (k2 no2 : Nat) (v2 : Value) (ns2 : List (List UInt8)) (ts : List Pt) (us : List Value), wr.cell? ⟨R, 1, none⟩ = some (.int .i64 k2) ∧ LI st W B R s e k v ns wr k2 no2 v2 ns2 lv ts us) (fun _ wr => s.size + 1 - (match wr.cell? ⟨R, 1, none⟩ with | some v => (intOf v).toNat | none => 0))
  case atStart => exact ⟨k, 0, v, ns, [], [], H0.out.dr.lies.cell (i := 1) rfl, H0.out⟩
  case round =>
    obtain ⟨k2, no2, v2, ns2, ts, us, hc1, hl⟩ := hrel
    have f0 := hl.dr.lies.cell (i := 0) rfl
    have hki := hl.hi
    by_cases hlt : k2 < s.size
    · obtain rfl : no2 = 0 := by
        by_cases h0 : no2 = 0
        · exact h0
        · have := (hl.bad h0).1; omega
      have HL0 : Hid (LI st W B R s e k v ns wr k2 0 v2 ns2 u5 ts us) := hl
      have d0 : (0 : Int) ≤ (k2 : Int) := by omega
      have d1 : (k2 : Int) < (s.size : Int) := by omega
      have hNx := fun n => next_r (wr.drewN n) B R s e k2 0 v2 ns2 (HL0.out.dr.drew n) (by omega) hs
      have HD : Hid ((un s).drop k2 = s[k2] :: (un s).drop (k2 + 1)) := drop_get hlt
      clear hl
      go_wp2
      go_quiet (fail)
      go_wp2
      go_quiet (fail)
      go_wp2_with fail
      refine (hNx _).mono ?_
      rintro x w1 ⟨rfl, q, hw⟩
      have HL : Hid (LI st W B R s e k v ns w1 k2 0 v2 ns2 u5 ts us) := by unfold Hid; rw [hw]; exact (HL0.out.to _).to _
      clear hw hNx f0 HL0
      have g0 := HL.out.dr.lies.cell (i := 0) rfl
      have g1 := HL.out.dr.lies.cell (i := 1) rfl
      have g2 := HL.out.dr.lies.cell (i := 2) rfl
      have gr := HL.out.dr.lies.frozen 1
      generalize s[k2] = c at *
      by_cases hce : c = e
      · have q1 := u8t hce
        cases hT : (un s).drop (k2 + 1) with
        | nil =>
          simp only [nextV]
          have HRun : Hid (Run e st ((un s).drop k2) st ((un s).drop (k2 + 1)) [.lit [c]]) := by
            unfold Hid; rw [HD.out]; exact (by rw [hce, hT]; exact run_lone (fun d r h => by cases h))
          have hB1 := fun W2 (hdr : DR W2 B R s e k2 0 v2 ns2) => bytes_r 1 W2 B R s e k2 0 v2 ns2 hdr (by omega) hs
          rw [show ((un s).drop k2).take 1 = [c] by rw [HD.out]; rfl] at hB1
          clear HD g0 hce hT
          go_wp2_with (first
            | (go_at_call 51; refine (hB1 _ HL.out.dr).mono ?_; rintro x w2 ⟨rfl, hdr2, r2⟩; unfold pcD; have pi2 := HL.out.bytes hdr2 (by omega) (by omega) r2 HRun.out (by simp); have hln := pi2.len.1)
            | (at_builtin; refine wpList_append_own_at _ rfl _ _ 80 rfl 0 108 i0 (.agg #[.string ⟨#[]⟩, .string ⟨#[]⟩, .int .u8 0, .slice none 0 0]) 4 64 Tryz.underlying80 hi hz0 hz1 hz2 rfl (by decide) u5 ts.length (ptsC ts us) rfl (pi2.pl.pts.own.alloc _) ⟨w2.heap.size, 0, none⟩ 1 1 [.string (bs [c]), .string ⟨#[]⟩, .int .u8 0, .slice none 0 0] rfl rfl (cells_new4 w2 _ _ _ _ _) (by simp [Value.oneCell']) (by unfold maxLen; omega) (by omega) (by simp) ?_; intro lv3 w3 hown3 hgrow3 _ hat3; have li3 := pi2.push hown3 hgrow3 hat3))
          have hc3 := li3.dr.lies.cell (i := 1) rfl
          go_roundw
          case rel => exact ⟨_, _, _, _, _, _, hc3, li3⟩
          case measure => rw [hc3]; simp [intOf, hc1]; omega
        | cons d r =>
          simp only [nextV]
          obtain ⟨kb, hkb⟩ : ∃ kb, k2 + 1 = kb := ⟨_, rfl⟩
          have w1' : IntKind.i64.wrap ((k2 : Int) + 1) = (kb : Int) := by rw [wrap_small _ (by omega) (by omega)]; omega
          have hkl : kb < s.size := by have := congrArg List.length hT; rw [List.length_drop, hsl, List.length_cons] at this; omega
          have HRun : Hid (Run e st ((un s).drop k2) st ((un s).drop (kb + 1)) [.lit [d]]) := by
            unfold Hid; rw [HD.out, hT, hce, show (un s).drop (kb + 1) = r by rw [← hkb, ← List.drop_drop, hT]; rfl]; exact (run_esc (by unfold opq at hop; unfold escs; simp at hop; rcases hop with h | h <;> simp [h]) r)
          have hB1 := fun W2 (hdr : DR W2 B R s e kb 0 v2 ns2) => bytes_r 1 W2 B R s e kb 0 v2 ns2 hdr (by omega) hs
          rw [show ((un s).drop kb).take 1 = [d] by rw [← hkb, hT]; rfl] at hB1
          have hm := HL.out.dr.move kb
          have rm := (Rnd.refl (rdS R v2) w1).set (b := R) (i := 1) (.inl rfl) (.int .i64 (kb : Int))
          clear HD g0 hce hT
          go_wp2_with (first
            | (go_at_call 51; refine (hB1 _ hm).mono ?_; rintro x w2 ⟨rfl, hdr2, r2⟩; unfold pcD; have pi2 := HL.out.bytes hdr2 (by omega) (by omega) (rm.trans r2) HRun.out (by simp); have hln := pi2.len.1)
            | (at_builtin; refine wpList_append_own_at _ rfl _ _ 80 rfl 0 108 i0 (.agg #[.string ⟨#[]⟩, .string ⟨#[]⟩, .int .u8 0, .slice none 0 0]) 4 64 Tryz.underlying80 hi hz0 hz1 hz2 rfl (by decide) u5 ts.length (ptsC ts us) rfl (pi2.pl.pts.own.alloc _) ⟨w2.heap.size, 0, none⟩ 1 1 [.string (bs [d]), .string ⟨#[]⟩, .int .u8 0, .slice none 0 0] rfl rfl (cells_new4 w2 _ _ _ _ _) (by simp [Value.oneCell']) (by unfold maxLen; omega) (by omega) (by simp) ?_; intro lv3 w3 hown3 hgrow3 _ hat3; have li3 := pi2.push hown3 hgrow3 hat3))
          have hc3 := li3.dr.lies.cell (i := 1) rfl
          go_roundw
          case rel => exact ⟨_, _, _, _, _, _, hc3, li3⟩
          case measure => rw [hc3]; simp [intOf, hc1]; omega
      · have q1 := u8f hce
        obtain ⟨nb, nd, hnx⟩ : ∃ (nb : Bool) (nd : Int), nextV ((un s).drop (k2 + 1)) = .tuple #[.int .u8 nd, .bool nb] := by
          cases (un s).drop (k2 + 1) with
          | nil => exact ⟨_, _, rfl⟩
          | cons d r => exact ⟨_, _, rfl⟩
        rw [hnx]
        by_cases hc125 : c = 125
        · have q2 : ((c.toNat : Int) == 125) = true := u8nt (n := 125) (by decide) hc125
          cases br with
          | true =>
            have HE : Hid ((un s).drop k2 = 125 :: (un s).drop (k2 + 1) ∧ (125 : UInt8) ≠ e) := ⟨by rw [HD.out, hc125], by rw [← hc125]; exact hce⟩
            clear HD g0 hce hnx hc125
            go_wp2
            go_ret
            exact HL.out.post (show k2 ≤ s.size + 0 by omega) (fun _ => ⟨fun _ => ⟨_, HE.out⟩, fun h => by cases h⟩)
          | false =>
            have hst := HB.out.2 rfl
            have hf := free0 (st := st) hce (by rw [hc125]; decide) (by rw [hc125]; decide) (by rw [hc125]; decide) (fun _ => by rw [hst]; simp)
            have q3 : ((c.toNat : Int) == 39) = false := u8nf (n := 39) (by decide) (by rw [hc125]; decide)
            have q4 : ((c.toNat : Int) == 34) = false := u8nf (n := 34) (by decide) (by rw [hc125]; decide)
            have q5 : ((c.toNat : Int) == 36) = false := u8nf (n := 36) (by decide) (by rw [hc125]; decide)
            have HRun : Hid (Run e st ((un s).drop k2) st ((un s).drop (k2 + 1)) [.lit [c]]) := by
              unfold Hid; rw [HD.out]; exact (run_free hf _)
            have hB1 := fun W2 (hdr : DR W2 B R s e k2 0 v2 ns2) => bytes_r 1 W2 B R s e k2 0 v2 ns2 hdr (by omega) hs
            rw [show ((un s).drop k2).take 1 = [c] by rw [HD.out]; rfl] at hB1
            clear HD g0 hce hc125 hnx hst hf
            go_wp2_with (first
              | (go_at_call 51; refine (hB1 _ HL.out.dr).mono ?_; rintro x w2 ⟨rfl, hdr2, r2⟩; unfold pcD; have pi2 := HL.out.bytes hdr2 (by omega) (by omega) r2 HRun.out (by simp); have hln := pi2.len.1)
              | (at_builtin; refine wpList_append_own_at _ rfl _ _ 80 rfl 0 108 i0 (.agg #[.string ⟨#[]⟩, .string ⟨#[]⟩, .int .u8 0, .slice none 0 0]) 4 64 Tryz.underlying80 hi hz0 hz1 hz2 rfl (by decide) u5 ts.length (ptsC ts us) rfl (pi2.pl.pts.own.alloc _) ⟨w2.heap.size, 0, none⟩ 1 1 [.string (bs [c]), .string ⟨#[]⟩, .int .u8 0, .slice none 0 0] rfl rfl (cells_new4 w2 _ _ _ _ _) (by simp [Value.oneCell']) (by unfold maxLen; omega) (by omega) (by simp) ?_; intro lv3 w3 hown3 hgrow3 _ hat3; have li3 := pi2.push hown3 hgrow3 hat3))
            have hc3 := li3.dr.lies.cell (i := 1) rfl
            go_roundw
            case rel => exact ⟨_, _, _, _, _, _, hc3, li3⟩
            case measure => rw [hc3]; simp [intOf, hc1]; omega
        · have q2 : ((c.toNat : Int) == 125) = false := u8nf (n := 125) (by decide) hc125
          by_cases hc39 : c = 39
          · have q3 : ((c.toNat : Int) == 39) = true := u8nt (n := 39) (by decide) hc39
            obtain ⟨kb, hkb⟩ : ∃ kb, k2 + 1 = kb := ⟨_, rfl⟩
            have w1' : IntKind.i64.wrap ((k2 : Int) + 1) = (kb : Int) := by rw [wrap_small _ (by omega) (by omega)]; omega
            have hm := HL.out.dr.move kb
            have rm := (Rnd.refl (rdS R v2) w1).set (b := R) (i := 1) (.inl rfl) (.int .i64 (kb : Int))
            have HK : Hid ((un s).drop k2 = 39 :: (un s).drop kb ∧ (39 : UInt8) ≠ e) := ⟨by rw [HD.out, hc39, hkb], by rw [← hc39]; exact hce⟩
            have hkl : kb ≤ s.size := by omega
            clear HD hce hc39 hnx hc125
            go_wp2
            generalize (w1.setCell ⟨R, 1, none⟩ (.int .i64 (kb : Int))) = wm at *
            clear g0 g1 g2 gr
            go_loopw [9] (fun nv wr3 => ∃ (n : Nat), nv = .int .i64 n ∧ kb + n ≤ s.size ∧ DR wr3 B R s e kb 0 v2 ns2 ∧ Rnd (rdS R v2) (rdS R v2) w1 wr3 ∧ Hid (∀ x ∈ ((un s).drop kb).take n, x ≠ 39)) (fun nv _ => s.size - (intOf nv).toNat)
            case atStart => exact ⟨0, rfl, by omega, hm, rm, by simp [Hid]⟩
            case round =>
              obtain ⟨n, rfl, hn, hmq, rmq, HN⟩ := hrel
              have x0 := hmq.lies.cell (i := 0) rfl
              have x1 := hmq.lies.cell (i := 1) rfl
              obtain ⟨kn, hkn⟩ : ∃ kn, kb + n = kn := ⟨_, rfl⟩
              have wn : IntKind.i64.wrap ((kb : Int) + (n : Int)) = (kn : Int) := by rw [wrap_small _ (by omega) (by omega)]; omega
              have e0 : (0 : Int) ≤ (kn : Int) := by omega
              by_cases hlt2 : kn < s.size
              · have e1 : (kn : Int) < (s.size : Int) := by omega
                have e2 : decide ((kn : Int) < (s.size : Int)) = true := decide_eq_true e1
                have e3 : decide (kn < s.size) = true := decide_eq_true hlt2
                have HG : Hid (((un s).drop kb)[n]? = some s[kn]) := by
                  unfold Hid; rw [List.getElem?_drop]; simp only [hkn]; exact un_getElem? s kn hlt2
                by_cases h39 : s[kn] = 39
                · have q7 : ((s[kn].toNat : Int) != 39) = false := by unfold bne; rw [show ((s[kn].toNat : Int) == 39) = true from u8nt (n := 39) (by decide) h39]; rfl
                  have q8 : ((kn : Int) == (s.size : Int)) = false := by rw [beq_eq_false_iff_ne]; omega
                  have HI : Hid (idx 39 ((un s).drop kb) = some n) := idx_some 39 _ n HN.out (by rw [HG.out, h39])
                  obtain ⟨kz, hkz⟩ : ∃ kz, kn + 1 = kz := ⟨_, rfl⟩
                  have wz : IntKind.i64.wrap ((kn : Int) + 1) = (kz : Int) := by rw [wrap_small _ (by omega) (by omega)]; omega
                  have HRun : Hid (Run e st ((un s).drop k2) st ((un s).drop kz) [.lit (((un s).drop kb).take n)]) := by
                    unfold Hid
                    have h1 := run_single HK.out.2 hop HI.out
                    rw [List.drop_drop, show kb + (n + 1) = kz by omega] at h1
                    rw [HK.out.1]; exact h1
                  have hB1 := fun W2 (hdr : DR W2 B R s e kb 0 v2 ns2) => bytes_r n W2 B R s e kb 0 v2 ns2 hdr (by omega) hs
                  rw [hkn] at hB1
                  have hBd := fun m => hmq.drew m
                  have HYl : (((un s).drop kb).take n).length ≤ 1099511627776 := by rw [List.length_take, List.length_drop, hsl]; omega
                  generalize ((un s).drop kb).take n = Y at *
                  clear h39 HG
                  go_wp2
                  go_quiet (fail)
                  go_wp2
                  go_quiet (fail)
                  go_wp2_with (first
                    | (go_at_call 51; refine (hB1 _ (hBd _)).mono ?_; rintro x w2 ⟨rfl, hdr2, r2⟩; unfold pcD; have pi2 := HL.out.bytes (k3 := kz) hdr2 (by omega) (by omega) ((rmq.drewR _).trans r2) HRun.out HYl; have hln := pi2.len.1)
                    | (at_builtin; refine wpList_append_own_at _ rfl _ _ 80 rfl 0 108 i0 (.agg #[.string ⟨#[]⟩, .string ⟨#[]⟩, .int .u8 0, .slice none 0 0]) 4 64 Tryz.underlying80 hi hz0 hz1 hz2 rfl (by decide) u5 ts.length (ptsC ts us) rfl (pi2.pl.pts.own.alloc _) ⟨w2.heap.size, 0, none⟩ 1 1 [.string (bs Y), .string ⟨#[]⟩, .int .u8 0, .slice none 0 0] rfl rfl (cells_new4 w2 _ _ _ _ _) (by simp [Value.oneCell']) (by unfold maxLen; omega) (by omega) (by simp) ?_; intro lv3 w3 hown3 hgrow3 _ hat3; have li3 := pi2.pushTo hown3 hgrow3 hat3; have hd3 := (pi2.laid hown3 hgrow3 hat3).1; have y1 := hd3.lies.cell (i := 1) rfl; have yr := hd3.lies.frozen 1))
                  have hc3 := li3.dr.lies.cell (i := 1) rfl
                  go_roundw
                  case rel => exact ⟨_, _, _, _, _, _, hc3, li3⟩
                  case measure => rw [hc3]; simp [intOf, hc1]; omega
                · have q7 : ((s[kn].toNat : Int) != 39) = true := by unfold bne; rw [show ((s[kn].toNat : Int) == 39) = false from u8nf (n := 39) (by decide) h39]; rfl
                  have HN2 : Hid (∀ x ∈ ((un s).drop kb).take (n + 1), x ≠ 39) := by
                    intro x hx
                    rw [List.take_add_one, HG.out, List.mem_append] at hx
                    rcases hx with hx | hx
                    · exact HN.out x hx
                    · simp at hx; rw [hx]; exact h39
                  clear h39 HG
                  go_wp2
                  go_quiet (fail)
                  go_wp2
                  go_roundw
                  case rel => exact ⟨n + 1, by go_num, by omega, hmq.drew _, rmq.drewR _, HN2⟩
                  case measure => simp [intOf]; omega
              · have e1 : ¬ (kn : Int) < (s.size : Int) := by omega
                have e2 : decide ((kn : Int) < (s.size : Int)) = false := decide_eq_false e1
                have e3 : decide (kn < s.size) = false := decide_eq_false hlt2
                have q8 : ((kn : Int) == (s.size : Int)) = true := by rw [beq_iff_eq]; omega
                have HBad : Hid (Bad e st ((un s).drop k2) 18) := by
                  unfold Hid
                  rw [HK.out.1]
                  refine bad_single HK.out.2 hop (idx_none 39 _ (fun x hx => HN.out x ?_))
                  rwa [List.take_of_length_le (by rw [List.length_drop, hsl]; omega)]
                have hW := fun m => wrong_r 18 _ B R s e kb 0 v2 ns2 (hmq.drew m) hs
                go_wp2
                go_quiet (fail)
                go_wp2
                go_quiet (fail)
                go_wp2_with (go_at_call 52; refine (hW _).mono ?_; rintro x w2 ⟨rfl, hdr2, r2⟩)
                go_ret
                exact HL.out.wrong hdr2 ((rmq.drewR _).trans r2) (by unfold hiP; omega) (by decide) (fun _ => HBad.out)
          · have q3 : ((c.toNat : Int) == 39) = false := u8nf (n := 39) (by decide) hc39
            by_cases hc34 : c = 34
            · have q4 : ((c.toNat : Int) == 34) = true := u8nt (n := 34) (by decide) hc34
              obtain ⟨kb, hkb⟩ : ∃ kb, k2 + 1 = kb := ⟨_, rfl⟩
              have w1' : IntKind.i64.wrap ((k2 : Int) + 1) = (kb : Int) := by rw [wrap_small _ (by omega) (by omega)]; omega
              have hkl : kb ≤ s.size := by omega
              have HR1 : Hid (Run e st ((un s).drop k2) (3 :: st) ((un s).drop kb) []) := by
                unfold Hid; rw [HD.out, hkb, hc34]; exact run_open (by rw [← hc34]; exact hce) hop _
              have hm := HL.out.dr.move kb
              have rm := (Rnd.refl (rdS R v2) w1).set (b := R) (i := 1) (.inl rfl) (.int .i64 (kb : Int))
              have hok1 := HL.out.ok rfl
              have hQt := hQ (w1.setCell ⟨R, 1, none⟩ (.int .i64 (kb : Int))) kb v2 ns2 (by have := HL.out.len.2 rfl; omega) hkl hm (by have := HL.out.rnd.size; rw [size_setCell]; omega) (by omega)
              clear HD g0 hce hc39 hc34 hc125 hnx hok1
              go_wp2_with fail
              refine hQt.mono ?_
              rintro x w2 ⟨lv2, ts2, us2, k3, no3, v3, ns3, rfl, hdr2, hpl2, r2, hl2, hh2, hok2, hbad2⟩
              have hbo := HL.out.len
              have hbn := hl2.1
              have HJ : Hid (∀ (w3 : World) (lv3 : Value), w3.ownsRow 0 108 4 lv3 (ts.length + ts2.length) (ptsC ts us ++ ptsC ts2 us2) → w2.grownBy w3 (u5).ownBlock → (lv3.ownBlock = (u5).ownBlock ∨ lv3.ownBlock = some w2.heap.size) → LI st W B R s e k v ns w3 k3 no3 v3 ns3 lv3 (ts ++ ts2) (us ++ us2)) := fun w3 lv3 ho hg ha =>
                HL.out.join hdr2 hpl2 (size_setCell _ _ _ _) (rm.trans r2) (by omega) hl2 (by omega) (fun h0 => by
                  obtain ⟨q1, q2, q3, q4, _⟩ := hok2 h0
                  exact ⟨q1, HR1.out.trans q2, q3, by omega⟩) (fun h0 => ⟨(hbad2 h0).1, HR1.out.bad (hbad2 h0).2⟩) ho hg ha
              have HO : Hid (w2.ownsRow 0 108 4 (u5) ts.length (ptsC ts us)) := (HL.out.pl.rnd (rm.trans r2)).pts.own
              have HK : Hid (k2 < k3) := by
                unfold Hid
                by_cases h0 : no3 = 0
                · have := hl2.2 h0; omega
                · have := (hbad2 h0).1; omega
              have HC := hpl2.pts
              dsimp only
              clear hok2 hbad2 hdr2 r2 hpl2 hQt hl2 hQ
              rcases HC.own.2 with ⟨hn1, hn2⟩ | ⟨g, cap, cur, hn1, _, _, hn3, hn4, _⟩
              · subst hn1
                have hz : ts2.length = 0 := hn2
                have HE : Hid (LI st W B R s e k v ns w2 k3 no3 v3 ns3 (u5) (ts ++ ts2) (us ++ us2)) := by
                  have e2 := List.eq_nil_of_length_eq_zero hz
                  subst e2
                  exact HJ.out w2 (u5) (by simpa [ptsC] using HO.out) ⟨rfl, rfl, rfl, Nat.le_refl _, fun _ _ _ => rfl⟩ (.inl rfl)
                have hown := HO.out
                clear HC
                go_wp2_with (at_builtin; refine wpList_append_own_none rfl _ _ 80 rfl 0 108 i0 4 Tryz.underlying80 hi (u5) ts.length (ptsC ts us) rfl hown rfl ?_)
                have hc3 := HE.out.dr.lies.cell (i := 1) rfl
                go_roundw
                case rel => exact ⟨_, _, _, _, _, _, hc3, HE.out⟩
                case measure => rw [hc3]; simp [intOf, hc1]; have := HK.out; omega
              · subst hn1
                have HCC : Hid _ := HC.cells rfl
                have HCL : Hid _ := HC.own.1
                have HC1 : Hid (∀ u ∈ ptsC ts2 us2, u.oneCell' = true) := patL_cells _ _ HC.kids
                have hown := HO.out
                clear HC
                go_wp2_with (at_builtin; refine wpList_append_own_at _ rfl _ _ 80 rfl 0 108 i0 (.agg #[.string ⟨#[]⟩, .string ⟨#[]⟩, .int .u8 0, .slice none 0 0]) 4 64 Tryz.underlying80 hi hz0 hz1 hz2 rfl (by decide) (u5) ts.length (ptsC ts us) rfl hown ⟨g, 0, none⟩ ts2.length cap (ptsC ts2 us2) rfl HCL.out HCC.out HC1.out (by unfold maxLen; omega) (by omega) (by simp) ?_; intro lv3 w3 hown3 hgrow3 _ hat3)
                have li3 := HJ.out w3 lv3 hown3 hgrow3 hat3
                have hc3 := li3.dr.lies.cell (i := 1) rfl
                go_roundw
                case rel => exact ⟨_, _, _, _, _, _, hc3, li3⟩
                case measure => rw [hc3]; simp [intOf, hc1]; have := HK.out; omega
            · have q4 : ((c.toNat : Int) == 34) = false := u8nf (n := 34) (by decide) hc34
              by_cases hc36 : c = 36
              · have q5 : ((c.toNat : Int) == 36) = true := u8nt (n := 36) (by decide) hc36
                have hln1 := HL.out.ok rfl
                have hVt := hV w1 k2 v2 ns2 (by have := HL.out.len.2 rfl; omega) HL.out.dr (by rw [← hc36]; exact hce) ⟨(un s).drop (k2 + 1), by rw [HD.out, hc36]⟩ (by have := HL.out.rnd.size; omega) (by omega)
                clear HD g0 hce hc34 hc36 hc39 hnx hc125
                clear hln1
                go_wp2_with fail
                refine hVt.mono ?_
                rintro x w2 ⟨p, u, k3, no3, v3, ns3, rfl, hdr2, hk23, hk3, hkid, r2, hok3, hbad3⟩
                have pi2 := HL.out.piece hdr2 hk23 hk3 hkid r2 hok3 hbad3
                have hln := pi2.len.1
                clear hdr2 hkid r2 hok3 hbad3 hVt
                obtain ⟨pt, pn, po, pk⟩ := p
                have hku := pi2.kid
                rw [PatP] at hku
                obtain ⟨_, _, us0, _, hu0, _⟩ := hku
                obtain ⟨ua, uc, ug, rfl, _⟩ := own_form4 hu0
                clear hu0
                simp only [ptC]
                go_wp2_with (at_builtin; refine wpList_append_own_at _ rfl _ _ 80 rfl 0 108 i0 (.agg #[.string ⟨#[]⟩, .string ⟨#[]⟩, .int .u8 0, .slice none 0 0]) 4 64 Tryz.underlying80 hi hz0 hz1 hz2 rfl (by decide) u5 ts.length (ptsC ts us) rfl (pi2.pl.pts.own.alloc _) ⟨w2.heap.size, 0, none⟩ 1 1 [.string (bs pt), .string (bs pn), .int .u8 po.toNat, .slice ua pk.length uc] rfl rfl (cells_new4 w2 _ _ _ _ _) (by simp [Value.oneCell']) (by unfold maxLen; omega) (by omega) (by simp) ?_; intro lv3 w3 hown3 hgrow3 _ hat3; have li3 := pi2.push hown3 hgrow3 hat3)
                have hc3 := li3.dr.lies.cell (i := 1) rfl
                go_roundw
                case rel => exact ⟨_, _, _, _, _, _, hc3, li3⟩
                case measure => rw [hc3]; simp [intOf, hc1]; omega
              · have q5 : ((c.toNat : Int) == 36) = false := u8nf (n := 36) (by decide) hc36
                have HRun : Hid (Run e st ((un s).drop k2) st ((un s).drop (k2 + 1)) [.lit [c]]) := by
                  unfold Hid; rw [HD.out]; exact (run_free (free0 hce hc36 hc34 hc39 (fun h5 => (hc125 h5).elim)) _)
                have hB1 := fun W2 (hdr : DR W2 B R s e k2 0 v2 ns2) => bytes_r 1 W2 B R s e k2 0 v2 ns2 hdr (by omega) hs
                rw [show ((un s).drop k2).take 1 = [c] by rw [HD.out]; rfl] at hB1
                clear HD g0 hce hc34 hc36 hc39 hnx hc125
                go_wp2_with (first
                  | (go_at_call 51; refine (hB1 _ HL.out.dr).mono ?_; rintro x w2 ⟨rfl, hdr2, r2⟩; unfold pcD; have pi2 := HL.out.bytes hdr2 (by omega) (by omega) r2 HRun.out (by simp); have hln := pi2.len.1)
                  | (at_builtin; refine wpList_append_own_at _ rfl _ _ 80 rfl 0 108 i0 (.agg #[.string ⟨#[]⟩, .string ⟨#[]⟩, .int .u8 0, .slice none 0 0]) 4 64 Tryz.underlying80 hi hz0 hz1 hz2 rfl (by decide) u5 ts.length (ptsC ts us) rfl (pi2.pl.pts.own.alloc _) ⟨w2.heap.size, 0, none⟩ 1 1 [.string (bs [c]), .string ⟨#[]⟩, .int .u8 0, .slice none 0 0] rfl rfl (cells_new4 w2 _ _ _ _ _) (by simp [Value.oneCell']) (by unfold maxLen; omega) (by omega) (by simp) ?_; intro lv3 w3 hown3 hgrow3 _ hat3; have li3 := pi2.push hown3 hgrow3 hat3))
                have hc3 := li3.dr.lies.cell (i := 1) rfl
                go_roundw
                case rel => exact ⟨_, _, _, _, _, _, hc3, li3⟩
                case measure => rw [hc3]; simp [intOf, hc1]; omega
    · have HL : Hid (LI st W B R s e k v ns wr k2 no2 v2 ns2 u5 ts us) := hl
      have hW := fun n => wrong_r 4 (wr.drewN n) B R s e k2 no2 v2 ns2 (HL.out.dr.drew n) hs
      clear hl
      cases br with
      | true =>
        have Hst : Hid (∃ st0, st = 2 :: st0) := HB.out.1 rfl
        go_wp2
        go_quiet (fail)
        go_wp2_with (go_at_call 52; refine (hW _).mono ?_; rintro x w2 ⟨rfl, hdr2, r2⟩)
        go_ret
        refine (HL.out.to _).wrong hdr2 r2 (show s.size ≤ s.size + 0 from Nat.le_refl _) (by decide) (fun h0 => ?_)
        have h1 := (HL.out.ok h0).1
        rw [List.drop_of_length_le (by rw [hsl]; omega)]
        obtain ⟨st0, rfl⟩ := Hst.out
        exact bad_end2 st0
      | false =>
        go_wp2
        go_quiet (fail)
        go_wp2
        go_ret
        have h1 := HL.out.to nq
        exact h1.post h1.hi (fun h0 => ⟨fun h => (by cases h), fun _ => by have := (h1.ok h0).1; omega⟩)
end Go.Proofs.YtjmekcakiacdfabGreatDoor
