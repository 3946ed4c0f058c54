/- The reader of words: whatever stands at the next byte; what is open at the end. -/
import Derived.Test.YtbmakfdljddhcaaGreatDoorTmW
namespace Go.Proofs.YtbmakfdljddhcaaGreatDoor
open Go Go.RowKit

set_option maxHeartbeats 8000000 in
set_option maxRecDepth 100000 in
theorem takeDol_p (W : World) (R : Nat) (s : ByteArray) (e : UInt8) (k : Nat) (v : Value) (st : List Nat) (h : Rd W R s e k v st) (hk : k < s.size) (hb : s[k] = 36) (hs : s.size ≤ 1099511627776) (hl : st.length ≤ 1099511627776) : Calls Tryz.prog 106 #[.pointer (some ⟨R, 0, none⟩)] W fun x w' => TPost (dollarS st ((un s).drop (k + 1))) R s e k v W x w' := by
  have f0 := h.lies.cell (i := 0) rfl
  have f2 := h.lies.cell (i := 2) rfl
  have fr := h.lies.frozen 2
  have HR : Hid (Rd W R s e k v st) := h
  have hul : ((un s).drop (k + 1)).length = s.size - (k + 1) := by rw [List.length_drop, un_length]
  have hX : s.extract (k + 1) s.size = bs ((un s).drop (k + 1)) := ext_tail s (k + 1)
  have w1 : IntKind.i64.wrap ((k : Int) + 1) = ((k + 1 : Nat) : Int) := by rw [wrap_small _ (by omega) (by omega)]; omega
  have d0 : (0 : Int) ≤ ((k + 1 : Nat) : Int) := by omega
  have d1 : ((k + 1 : Nat) : Int) ≤ (s.size : Int) := by omega
  have HT1 := take_one hk
  have hB := fun W1 (h : Rd W1 R s e k v st) => bytes_p 1 W1 R s e k v st h (by omega) hs
  rw [HT1, hb] at hB
  have HT : Hid (dollarS st ((un s).drop (k + 1)) = if [123].isPrefixOf ((un s).drop (k + 1)) = true then bracesS st ((un s).drop (k + 1)).tail
    else if nmL ((un s).drop (k + 1)) = 0 then .good (.lit [36]) 1 st
    else .good (.var (((un s).drop (k + 1)).take (nmL ((un s).drop (k + 1))))) (1 + nmL ((un s).drop (k + 1))) st) := rfl
  have hP : ∀ W, Calls Tryz.prog 78 #[.string (bs ((un s).drop (k + 1))), .string ⟨#[123]⟩] W fun e w' => e = .returned (.bool ([123].isPrefixOf ((un s).drop (k + 1)))) ∧ w' = W := fun W => by
    have := Tryz.strings_HasPrefix (bs ((un s).drop (k + 1))) ⟨#[123]⟩ W
    rw [show (bs ((un s).drop (k + 1))).data.toList = (un s).drop (k + 1) from un_bs _] at this
    exact this
  have hN := fun W => leadName_p (bs ((un s).drop (k + 1))) (by rw [size_bs]; omega) W
  rw [un_bs] at hN
  have hnl := nmL_le ((un s).drop (k + 1))
  have hBR : [123].isPrefixOf ((un s).drop (k + 1)) = true → ∀ W1, Rd W1 R s e k v st → Calls Tryz.prog 115 #[.pointer (some ⟨R, 0, none⟩), .string (bs ((un s).drop (k + 1)).tail)] W1 fun x w' => TPost (bracesS st ((un s).drop (k + 1)).tail) R s e k v W1 x w' := fun hp W1 h1 => by
    have := pre_len hp
    simp at this
    exact takeBr_p _ W1 R s e k v st h1 (by rw [un_length] at this; omega) (by rw [List.tail_drop]) hs hl
  have hX2 : [123].isPrefixOf ((un s).drop (k + 1)) = true → (bs ((un s).drop (k + 1))).extract 1 ((un s).drop (k + 1)).length = bs ((un s).drop (k + 1)).tail ∧ 1 ≤ ((un s).drop (k + 1)).length := fun hp => by
    have := pre_len hp
    refine ⟨?_, this⟩
    have h2 := ext_tail (bs ((un s).drop (k + 1))) 1
    rw [size_bs, un_bs, List.drop_one] at h2
    exact h2
  have hUs : (bs ((un s).drop (k + 1))).size = ((un s).drop (k + 1)).length := size_bs _
  clear h HT1
  generalize (un s).drop (k + 1) = u at *
  have HX2 : Hid _ := hX2
  have HBR : Hid _ := hBR
  rw [← hX] at hP hN hUs
  have HXX : Hid _ := hX
  clear hX2 hBR
  cases hp : [123].isPrefixOf u with
  | true =>
    obtain ⟨hx2, hu1⟩ := HX2.out hp
    have hbr := HBR.out hp
    rw [← hX] at hx2
    rw [← hx2] at hbr
    have HT2 : Hid (dollarS st u = bracesS st u.tail) := by unfold Hid; rw [HT.out, if_pos hp]
    rw [hp] at hP
    have d2 : (1 : Int) ≤ (u.length : Int) := by omega
    clear hX hx2 hN hnl HT hp HX2 HBR HXX hB hul
    generalize dollarS st u = T at *
    generalize bracesS st u.tail = T2 at *
    generalize u.length = ul at *
    generalize k + 1 = kb at *
    go_enter Tryz.func106, Tryz.ntmps106
    go_wp2
    go_quiet (fail)
    go_wp2_with (go_at_call 78; refine (hP _).mono ?_; rintro x w2 ⟨rfl, hw⟩; replace hw := hw.symm; subst hw)
    refine (hbr _ (HR.out.drew _)).mono ?_
    rintro x w2 hpost
    rcases hpost with ⟨n, q1, q2, rfl, q4⟩ | ⟨y, rfl, q⟩
    · go_wp2
      go_ret2
      exact .inl ⟨n, HT2.out.trans q1, q2, rfl, (Rnd.drew _ W _).trans q4⟩
    · go_wp2
      go_ret2
      obtain ⟨p, n, st2, v2, q1, q2, q3, q4⟩ := q
      exact .inr ⟨_, rfl, p, n, st2, v2, HT2.out.trans q1, q2, q3, (Rnd.drew _ W _).trans q4⟩
  | false =>
    have hne : ¬ ([123].isPrefixOf u = true) := by rw [hp]; decide
    rw [hp] at hP
    have hE1 := (emp_bs (u.take (nmL u))).trans (nm_empty u)
    have hNs : (bs (u.take (nmL u))).size = nmL u := by rw [size_bs, List.length_take]; omega
    have HZ : Hid (nmL u = 0 ∨ nmL u ≠ 0) := by unfold Hid; omega
    have w1' : IntKind.i64.wrap ((1 : Int) + (nmL u : Int)) = (1 : Int) + (nmL u : Int) := wrap_small _ (by omega) (by omega)
    have w2 : IntKind.i64.wrap ((k : Int) + ((1 : Int) + (nmL u : Int))) = ((k + (1 + nmL u) : Nat) : Int) := by rw [wrap_small _ (by omega) (by omega)]; omega
    have HM := HR.out.move (k + (1 + nmL u))
    have r1 := (Rnd.refl (rdS R v) W).set (b := R) (i := 2) (.inl rfl) (.int .i64 ((k + (1 + nmL u) : Nat) : Int))
    rcases HZ.out with hz | hz
    · have hz1 : decide (nmL u = 0) = true := decide_eq_true hz
      have HT2 : Hid (dollarS st u = .good (.lit [36]) 1 st) := by unfold Hid; rw [HT.out, if_neg hne, if_pos hz]
      rw [hz1] at hE1
      clear hz hz1 HT hX HX2 HBR HXX hp hne hnl w1' w2 HM r1 HZ hul
      generalize dollarS st u = T at *
      generalize hYY : u.take (nmL u) = Y at *
      clear hYY
      generalize u.length = ul at *
      generalize hkb : k + 1 = kb at *
      have HKB : Hid (k + 1 = kb) := hkb
      clear hkb
      go_enter Tryz.func106, Tryz.ntmps106
      go_wp2
      go_quiet (fail)
      go_wp2_with (first | (go_at_call 78; refine (hP _).mono ?_; rintro x w2 ⟨rfl, hw⟩; replace hw := hw.symm; subst hw) | (go_at_call 116; refine (hN _).mono ?_; rintro x w2 ⟨rfl, hw⟩; replace hw := hw.symm; subst hw) | (go_at_call 114; refine (hB _ (HR.out.drew _)).mono ?_; rintro x w2 ⟨rfl, hr, rr⟩))
      go_ret2
      exact .inr ⟨_, rfl, .lit [36], 1, st, v, HT2.out, rfl, HKB.out ▸ hr, (Rnd.drew _ W _).trans rr⟩
    · have hz1 : decide (nmL u = 0) = false := decide_eq_false hz
      have HT2 : Hid (dollarS st u = .good (.var (u.take (nmL u))) (1 + nmL u) st) := by unfold Hid; rw [HT.out, if_neg hne, if_neg hz]
      rw [hz1] at hE1
      clear hz hz1 HT hX HX2 HBR HXX hp hne hnl hB HZ hul
      generalize dollarS st u = T at *
      generalize hYY : u.take (nmL u) = Y at *
      clear hYY
      generalize nmL u = n at *
      generalize u.length = ul at *
      generalize hkd : k + (1 + n) = kd at *
      have HKD : Hid (k + (1 + n) = kd) := hkd
      clear hkd
      generalize k + 1 = kb at *
      go_enter Tryz.func106, Tryz.ntmps106
      go_wp2
      go_quiet (fail)
      go_wp2_with (first | (go_at_call 78; refine (hP _).mono ?_; rintro x w2 ⟨rfl, hw⟩; replace hw := hw.symm; subst hw) | (go_at_call 116; refine (hN _).mono ?_; rintro x w2 ⟨rfl, hw⟩; replace hw := hw.symm; subst hw))
      go_ret2
      exact .inr ⟨_, rfl, .var Y, 1 + n, st, v, HT2.out, rfl, by rw [HKD.out]; exact (HR.out.drew _).move kd, (Rnd.drew _ W _).set (.inl rfl) _⟩

set_option maxHeartbeats 16000000 in
set_option maxRecDepth 100000 in
theorem take_p (W : World) (R : Nat) (s : ByteArray) (e : UInt8) (k : Nat) (v : Value) (st : List Nat) (h : Rd W R s e k v st) (ho : okS st = true) (hk : k < s.size) (hs : s.size ≤ 1099511627776) (hl : st.length ≤ 1099511627775) : Calls Tryz.prog 101 #[.pointer (some ⟨R, 0, none⟩)] W fun x w' => TPost (takeS e st s[k] ((un s).drop (k + 1))) R s e k v W x w' := by
  have hm := okS_le ho
  cases st with
  | nil => simp [okS] at ho
  | cons m st =>
  simp only [List.headD_cons] at hm
  simp only [List.length_cons] at hl
  have f0 := h.lies.cell (i := 0) rfl
  have f1 := h.lies.cell (i := 1) rfl
  have f2 := h.lies.cell (i := 2) rfl
  have HR : Hid (Rd W R s e k v (m :: st)) := h
  have hNow := fun n => now_p (W.drewN n) R s e k v m st (h.drew n) (by omega)
  have d0 : (0 : Int) ≤ (k : Int) := by omega
  have d1 : (k : Int) < (s.size : Int) := by omega
  have hesc := fun W1 (h : Rd W1 R s e k v (m :: st)) => takeEsc_p W1 R s e k v m st h hm hk hs
  have hdol := fun W1 (h : Rd W1 R s e k v (m :: st)) (hb : s[k] = 36) => takeDol_p W1 R s e k v (m :: st) h hk hb hs (by simp; omega)
  have hsing := fun W1 (h : Rd W1 R s e k v (m :: st)) => takeSing_p W1 R s e k v (m :: st) h hk hs
  have hrun := fun W1 (h : Rd W1 R s e k v (m :: st)) => takeRun_p W1 R s e k v (m :: st) h hk hs
  have hlv := fun W1 (h : Rd W1 R s e k v (m :: st)) => leave_p W1 R s e k v m st h (by omega)
  have hen := fun W1 (h : Rd W1 R s e k v (m :: st)) => enter_p W1 R s e k v (m :: st) 3 h (by simp; omega)
  have hmk := fun p W1 v1 st1 (h : Rd W1 R s e k v1 st1) => mark_p p W1 R s e k v1 st1 h (by omega)
  have hop := fun W => opens_p m hm W
  have HT : Hid (takeS e (m :: st) s[k] ((un s).drop (k + 1)) = if (s[k] == e) = true then escS e (m :: st) s[k] ((un s).drop (k + 1))
    else if (s[k] == 36) = true then dollarS (m :: st) ((un s).drop (k + 1))
    else if (s[k] == 34) = true ∧ decide (m = 3) = true then .good (.lit []) 1 st
    else if (s[k] == 34) = true ∧ opq m = true then .good (.lit []) 1 (3 :: m :: st)
    else if (s[k] == 39) = true ∧ opq m = true then singS (m :: st) ((un s).drop (k + 1))
    else if (s[k] == 125) = true ∧ decide (m = 2) = true then .good .fin 1 st
    else runS e (m :: st) s[k] ((un s).drop (k + 1))) := by
    unfold Hid takeS
    simp only [beq_iff_eq, List.headD_cons, List.tail_cons, decide_eq_true_eq]
    congr
  have q0 : ((s[k].toNat : Int) == (e.toNat : Int)) = (s[k] == e) := by
    rw [Bool.eq_iff_iff, beq_iff_eq, beq_iff_eq]
    constructor
    · intro h; apply UInt8.toNat_inj.1; omega
    · intro h; rw [h]
  have q1 : ((s[k].toNat : Int) == 36) = (s[k] == 36) := beq_u8n _ 36 (by decide)
  have q2 : ((s[k].toNat : Int) == 34) = (s[k] == 34) := beq_u8n _ 34 (by decide)
  have q3 : ((s[k].toNat : Int) == 39) = (s[k] == 39) := beq_u8n _ 39 (by decide)
  have q4 : ((s[k].toNat : Int) == 125) = (s[k] == 125) := beq_u8n _ 125 (by decide)
  have q5 : ((m : Int) == 3) = decide (m = 3) := by rw [Bool.eq_iff_iff, beq_iff_eq, decide_eq_true_iff]; omega
  have q6 : ((m : Int) == 2) = decide (m = 2) := by rw [Bool.eq_iff_iff, beq_iff_eq, decide_eq_true_iff]; omega
  have HD : Hid ((s[k] == 36) = true → s[k] = 36) := fun h => by simpa using h
  have hdol2 : Hid (∀ W1, Rd W1 R s e k v (m :: st) → (s[k] == 36) = true → Calls Tryz.prog 106 #[.pointer (some ⟨R, 0, none⟩)] W1 fun x w' => TPost (dollarS (m :: st) ((un s).drop (k + 1))) R s e k v W1 x w') := fun W1 h hb => hdol W1 h (HD.out hb)
  clear h ho hm hdol HD
  generalize takeS e (m :: st) s[k] ((un s).drop (k + 1)) = T at *
  generalize escS e (m :: st) s[k] ((un s).drop (k + 1)) = TE at *
  generalize runS e (m :: st) s[k] ((un s).drop (k + 1)) = TR at *
  generalize dollarS (m :: st) ((un s).drop (k + 1)) = TD at *
  generalize singS (m :: st) ((un s).drop (k + 1)) = TS at *
  generalize (s[k] == e) = c0 at *
  generalize (s[k] == 36) = c1 at *
  generalize (s[k] == 34) = c2 at *
  generalize (s[k] == 39) = c3 at *
  generalize (s[k] == 125) = c4 at *
  generalize decide (m = 3) = n3 at *
  generalize decide (m = 2) = n2 at *
  generalize opq m = o at *
  cases c0 with
  | true =>
    have HT2 : Hid (T = TE) := HT
    clear HT
    go_enter Tryz.func101, Tryz.ntmps101
    go_wp2
    go_quiet ((go_at_call 104; with_reducible exact Calls.quiet_of (hNow _)))
    go_wp2_with (go_at_call 105; refine (hesc _ (HR.out.drew _)).mono ?_; rintro x w2 ⟨y, rfl, q⟩)
    go_ret2
    obtain ⟨p, n, st2, v2, q1, q2, q3, q4⟩ := q
    exact .inr ⟨_, rfl, p, n, st2, v2, HT2.out.trans q1, q2, q3, (Rnd.drew _ W _).trans q4⟩
  | false =>
  cases c1 with
  | true =>
    have HT2 : Hid (T = TD) := HT
    clear HT
    go_enter Tryz.func101, Tryz.ntmps101
    go_wp2
    go_quiet ((go_at_call 104; with_reducible exact Calls.quiet_of (hNow _)))
    go_wp2_with fail
    refine (hdol2.out _ (HR.out.drew _) (by trivial)).mono ?_
    rintro x w2 hpost
    rcases hpost with ⟨n, q1, q2, rfl, q4⟩ | ⟨y, rfl, q⟩
    · go_wp2
      go_ret2
      exact .inl ⟨n, HT2.out.trans q1, q2, rfl, (Rnd.drew _ W _).trans q4⟩
    · go_wp2
      go_ret2
      obtain ⟨p, n, st2, v2, q1, q2, q3, q4⟩ := q
      exact .inr ⟨_, rfl, p, n, st2, v2, HT2.out.trans q1, q2, q3, (Rnd.drew _ W _).trans q4⟩
  | false =>
  have HT1 : Hid (T = if c2 = true ∧ n3 = true then .good (.lit []) 1 st
    else if c2 = true ∧ o = true then .good (.lit []) 1 (3 :: m :: st)
    else if c3 = true ∧ o = true then TS
    else if c4 = true ∧ n2 = true then .good .fin 1 st
    else TR) := HT
  clear HT hesc hdol2
  cases c2
  · cases c3
    · cases c4
      · have HT2 : Hid (T = TR) := by unfold Hid; rw [HT1.out]; simp
        clear HT1
        go_enter Tryz.func101, Tryz.ntmps101
        go_wp2
        go_quiet ((go_at_call 104; with_reducible exact Calls.quiet_of (hNow _)))
        go_wp2_with (first | (go_at_call 109; refine (hop _).mono ?_; rintro x w9 ⟨rfl, hw⟩; replace hw := hw.symm; subst hw) | (go_at_call 112; refine (hrun _ (HR.out.drew _)).mono ?_; rintro x w3 ⟨y, rfl, q⟩))
        go_ret2
        obtain ⟨p, n, st2, v2, q1, q2, q3, q4⟩ := q
        exact .inr ⟨_, rfl, p, n, st2, v2, HT2.out.trans q1, q2, q3, (Rnd.drew _ W _).trans q4⟩
      · cases n2
        · have HT2 : Hid (T = TR) := by unfold Hid; rw [HT1.out]; simp
          clear HT1
          go_enter Tryz.func101, Tryz.ntmps101
          go_wp2
          go_quiet ((go_at_call 104; with_reducible exact Calls.quiet_of (hNow _)))
          go_wp2_with (first | (go_at_call 109; refine (hop _).mono ?_; rintro x w9 ⟨rfl, hw⟩; replace hw := hw.symm; subst hw) | (go_at_call 112; refine (hrun _ (HR.out.drew _)).mono ?_; rintro x w3 ⟨y, rfl, q⟩))
          go_ret2
          obtain ⟨p, n, st2, v2, q1, q2, q3, q4⟩ := q
          exact .inr ⟨_, rfl, p, n, st2, v2, HT2.out.trans q1, q2, q3, (Rnd.drew _ W _).trans q4⟩
        · have HT2 : Hid (T = .good .fin 1 st) := by unfold Hid; rw [HT1.out]; simp
          clear HT1
          go_enter Tryz.func101, Tryz.ntmps101
          go_wp2
          go_quiet ((go_at_call 104; with_reducible exact Calls.quiet_of (hNow _)))
          go_wp2_with (first | (go_at_call 109; refine (hop _).mono ?_; rintro x w9 ⟨rfl, hw⟩; replace hw := hw.symm; subst hw) | (go_at_call 107; refine (hlv _ (HR.out.drew _)).mono ?_; rintro x w2 ⟨rfl, v2, hr2, rr2⟩) | (go_at_call 108; refine (hmk _ _ _ _ hr2).mono ?_; rintro x w3 ⟨rfl, hr3, rr3⟩))
          go_ret2
          exact .inr ⟨_, rfl, .fin, 1, st, v2, HT2.out, rfl, hr3, ((Rnd.drew _ W _).trans rr2).trans rr3⟩
    · cases o
      · cases c4
        · have HT2 : Hid (T = TR) := by unfold Hid; rw [HT1.out]; simp
          clear HT1
          go_enter Tryz.func101, Tryz.ntmps101
          go_wp2
          go_quiet ((go_at_call 104; with_reducible exact Calls.quiet_of (hNow _)))
          go_wp2_with (first | (go_at_call 109; refine (hop _).mono ?_; rintro x w9 ⟨rfl, hw⟩; replace hw := hw.symm; subst hw) | (go_at_call 112; refine (hrun _ (HR.out.drew _)).mono ?_; rintro x w3 ⟨y, rfl, q⟩))
          go_ret2
          obtain ⟨p, n, st2, v2, q1, q2, q3, q4⟩ := q
          exact .inr ⟨_, rfl, p, n, st2, v2, HT2.out.trans q1, q2, q3, (Rnd.drew _ W _).trans q4⟩
        · cases n2
          · have HT2 : Hid (T = TR) := by unfold Hid; rw [HT1.out]; simp
            clear HT1
            go_enter Tryz.func101, Tryz.ntmps101
            go_wp2
            go_quiet ((go_at_call 104; with_reducible exact Calls.quiet_of (hNow _)))
            go_wp2_with (first | (go_at_call 109; refine (hop _).mono ?_; rintro x w9 ⟨rfl, hw⟩; replace hw := hw.symm; subst hw) | (go_at_call 112; refine (hrun _ (HR.out.drew _)).mono ?_; rintro x w3 ⟨y, rfl, q⟩))
            go_ret2
            obtain ⟨p, n, st2, v2, q1, q2, q3, q4⟩ := q
            exact .inr ⟨_, rfl, p, n, st2, v2, HT2.out.trans q1, q2, q3, (Rnd.drew _ W _).trans q4⟩
          · have HT2 : Hid (T = .good .fin 1 st) := by unfold Hid; rw [HT1.out]; simp
            clear HT1
            go_enter Tryz.func101, Tryz.ntmps101
            go_wp2
            go_quiet ((go_at_call 104; with_reducible exact Calls.quiet_of (hNow _)))
            go_wp2_with (first | (go_at_call 109; refine (hop _).mono ?_; rintro x w9 ⟨rfl, hw⟩; replace hw := hw.symm; subst hw) | (go_at_call 107; refine (hlv _ (HR.out.drew _)).mono ?_; rintro x w2 ⟨rfl, v2, hr2, rr2⟩) | (go_at_call 108; refine (hmk _ _ _ _ hr2).mono ?_; rintro x w3 ⟨rfl, hr3, rr3⟩))
            go_ret2
            exact .inr ⟨_, rfl, .fin, 1, st, v2, HT2.out, rfl, hr3, ((Rnd.drew _ W _).trans rr2).trans rr3⟩
      · have HT2 : Hid (T = TS) := by unfold Hid; rw [HT1.out]; simp
        clear HT1
        go_enter Tryz.func101, Tryz.ntmps101
        go_wp2
        go_quiet ((go_at_call 104; with_reducible exact Calls.quiet_of (hNow _)))
        go_wp2_with (go_at_call 109; refine (hop _).mono ?_; rintro x w9 ⟨rfl, hw⟩; replace hw := hw.symm; subst hw)
        refine (hsing _ (HR.out.drew _)).mono ?_
        rintro x w2 hpost
        rcases hpost with ⟨n, q1, q2, rfl, q4⟩ | ⟨y, rfl, q⟩
        · go_wp2
          go_ret2
          exact .inl ⟨n, HT2.out.trans q1, q2, rfl, (Rnd.drew _ W _).trans q4⟩
        · go_wp2
          go_ret2
          obtain ⟨p, n, st2, v2, q1, q2, q3, q4⟩ := q
          exact .inr ⟨_, rfl, p, n, st2, v2, HT2.out.trans q1, q2, q3, (Rnd.drew _ W _).trans q4⟩
  · cases n3
    · cases o
      · cases c3
        · cases c4
          · have HT2 : Hid (T = TR) := by unfold Hid; rw [HT1.out]; simp
            clear HT1
            go_enter Tryz.func101, Tryz.ntmps101
            go_wp2
            go_quiet ((go_at_call 104; with_reducible exact Calls.quiet_of (hNow _)))
            go_wp2_with (first | (go_at_call 109; refine (hop _).mono ?_; rintro x w9 ⟨rfl, hw⟩; replace hw := hw.symm; subst hw) | (go_at_call 112; refine (hrun _ (HR.out.drew _)).mono ?_; rintro x w3 ⟨y, rfl, q⟩))
            go_ret2
            obtain ⟨p, n, st2, v2, q1, q2, q3, q4⟩ := q
            exact .inr ⟨_, rfl, p, n, st2, v2, HT2.out.trans q1, q2, q3, (Rnd.drew _ W _).trans q4⟩
          · cases n2
            · have HT2 : Hid (T = TR) := by unfold Hid; rw [HT1.out]; simp
              clear HT1
              go_enter Tryz.func101, Tryz.ntmps101
              go_wp2
              go_quiet ((go_at_call 104; with_reducible exact Calls.quiet_of (hNow _)))
              go_wp2_with (first | (go_at_call 109; refine (hop _).mono ?_; rintro x w9 ⟨rfl, hw⟩; replace hw := hw.symm; subst hw) | (go_at_call 112; refine (hrun _ (HR.out.drew _)).mono ?_; rintro x w3 ⟨y, rfl, q⟩))
              go_ret2
              obtain ⟨p, n, st2, v2, q1, q2, q3, q4⟩ := q
              exact .inr ⟨_, rfl, p, n, st2, v2, HT2.out.trans q1, q2, q3, (Rnd.drew _ W _).trans q4⟩
            · have HT2 : Hid (T = .good .fin 1 st) := by unfold Hid; rw [HT1.out]; simp
              clear HT1
              go_enter Tryz.func101, Tryz.ntmps101
              go_wp2
              go_quiet ((go_at_call 104; with_reducible exact Calls.quiet_of (hNow _)))
              go_wp2_with (first | (go_at_call 109; refine (hop _).mono ?_; rintro x w9 ⟨rfl, hw⟩; replace hw := hw.symm; subst hw) | (go_at_call 107; refine (hlv _ (HR.out.drew _)).mono ?_; rintro x w2 ⟨rfl, v2, hr2, rr2⟩) | (go_at_call 108; refine (hmk _ _ _ _ hr2).mono ?_; rintro x w3 ⟨rfl, hr3, rr3⟩))
              go_ret2
              exact .inr ⟨_, rfl, .fin, 1, st, v2, HT2.out, rfl, hr3, ((Rnd.drew _ W _).trans rr2).trans rr3⟩
        · cases c4
          · have HT2 : Hid (T = TR) := by unfold Hid; rw [HT1.out]; simp
            clear HT1
            go_enter Tryz.func101, Tryz.ntmps101
            go_wp2
            go_quiet ((go_at_call 104; with_reducible exact Calls.quiet_of (hNow _)))
            go_wp2_with (first | (go_at_call 109; refine (hop _).mono ?_; rintro x w9 ⟨rfl, hw⟩; replace hw := hw.symm; subst hw) | (go_at_call 112; refine (hrun _ (HR.out.drew _)).mono ?_; rintro x w3 ⟨y, rfl, q⟩))
            go_ret2
            obtain ⟨p, n, st2, v2, q1, q2, q3, q4⟩ := q
            exact .inr ⟨_, rfl, p, n, st2, v2, HT2.out.trans q1, q2, q3, (Rnd.drew _ W _).trans q4⟩
          · cases n2
            · have HT2 : Hid (T = TR) := by unfold Hid; rw [HT1.out]; simp
              clear HT1
              go_enter Tryz.func101, Tryz.ntmps101
              go_wp2
              go_quiet ((go_at_call 104; with_reducible exact Calls.quiet_of (hNow _)))
              go_wp2_with (first | (go_at_call 109; refine (hop _).mono ?_; rintro x w9 ⟨rfl, hw⟩; replace hw := hw.symm; subst hw) | (go_at_call 112; refine (hrun _ (HR.out.drew _)).mono ?_; rintro x w3 ⟨y, rfl, q⟩))
              go_ret2
              obtain ⟨p, n, st2, v2, q1, q2, q3, q4⟩ := q
              exact .inr ⟨_, rfl, p, n, st2, v2, HT2.out.trans q1, q2, q3, (Rnd.drew _ W _).trans q4⟩
            · have HT2 : Hid (T = .good .fin 1 st) := by unfold Hid; rw [HT1.out]; simp
              clear HT1
              go_enter Tryz.func101, Tryz.ntmps101
              go_wp2
              go_quiet ((go_at_call 104; with_reducible exact Calls.quiet_of (hNow _)))
              go_wp2_with (first | (go_at_call 109; refine (hop _).mono ?_; rintro x w9 ⟨rfl, hw⟩; replace hw := hw.symm; subst hw) | (go_at_call 107; refine (hlv _ (HR.out.drew _)).mono ?_; rintro x w2 ⟨rfl, v2, hr2, rr2⟩) | (go_at_call 108; refine (hmk _ _ _ _ hr2).mono ?_; rintro x w3 ⟨rfl, hr3, rr3⟩))
              go_ret2
              exact .inr ⟨_, rfl, .fin, 1, st, v2, HT2.out, rfl, hr3, ((Rnd.drew _ W _).trans rr2).trans rr3⟩
      · have HT2 : Hid (T = .good (.lit []) 1 (3 :: m :: st)) := by unfold Hid; rw [HT1.out]; simp
        clear HT1
        go_enter Tryz.func101, Tryz.ntmps101
        go_wp2
        go_quiet ((go_at_call 104; with_reducible exact Calls.quiet_of (hNow _)))
        go_wp2_with (first | (go_at_call 109; refine (hop _).mono ?_; rintro x w9 ⟨rfl, hw⟩; replace hw := hw.symm; subst hw) | (go_at_call 110; refine (hen _ (HR.out.drew _)).mono ?_; rintro x w2 ⟨rfl, v2, hr2, rr2⟩) | (go_at_call 108; refine (hmk _ _ _ _ hr2).mono ?_; rintro x w3 ⟨rfl, hr3, rr3⟩))
        go_ret2
        exact .inr ⟨_, rfl, .lit [], 1, 3 :: m :: st, v2, HT2.out, rfl, hr3, ((Rnd.drew _ W _).trans rr2).trans rr3⟩
    · have HT2 : Hid (T = .good (.lit []) 1 st) := by unfold Hid; rw [HT1.out]; simp
      clear HT1
      go_enter Tryz.func101, Tryz.ntmps101
      go_wp2
      go_quiet ((go_at_call 104; with_reducible exact Calls.quiet_of (hNow _)))
      go_wp2_with (first | (go_at_call 107; refine (hlv _ (HR.out.drew _)).mono ?_; rintro x w2 ⟨rfl, v2, hr2, rr2⟩) | (go_at_call 108; refine (hmk _ _ _ _ hr2).mono ?_; rintro x w3 ⟨rfl, hr3, rr3⟩))
      go_ret2
      exact .inr ⟨_, rfl, .lit [], 1, st, v2, HT2.out, rfl, hr3, ((Rnd.drew _ W _).trans rr2).trans rr3⟩

theorem unclosed_p (W : World) (R : Nat) (s : ByteArray) (e : UInt8) (k : Nat) (v : Value) (st : List Nat) (h : Rd W R s e k v st) (ho : okS st = true) (hl : st.length ≤ 1099511627775) : Calls Tryz.prog 102 #[.pointer (some ⟨R, 0, none⟩)] W fun x w' => x = .returned (erV (endS st)) ∧ ∃ d, w' = W.drewN d := by
  have hm := okS_le ho
  cases st with
  | nil => simp [okS] at ho
  | cons m st =>
  simp only [List.headD_cons] at hm
  simp only [List.length_cons] at hl
  have hN := now_p W R s e k v m st h (by omega)
  have HE : Hid (endS (m :: st) = if m = 3 then 18 else if m = 2 then 4 else 0) := rfl
  clear h ho
  generalize endS (m :: st) = n at *
  have : m = 0 ∨ m = 1 ∨ m = 2 ∨ m = 3 := by omega
  rcases this with rfl | rfl | rfl | rfl
  all_goals
    have HN := HE.out
    simp at HN
    subst HN
    clear HE
    go_enter Tryz.func102, Tryz.ntmps102
    go_wp2_with (go_at_call 104; refine hN.mono ?_; rintro x w2 ⟨rfl, d, rfl⟩)
    go_ret
    exact ⟨rfl, d, rfl⟩
end Go.Proofs.YtbmakfdljddhcaaGreatDoor
