/- The reader of words: what stands between single quotes, runs, openings. -/
import Derived.Test.YtbmakfdljddhcaaGreatDoorTkW
namespace Go.Proofs.YtbmakfdljddhcaaGreatDoor
open Go Go.RowKit

set_option maxHeartbeats 4000000 in
set_option maxRecDepth 100000 in
theorem takeSing_p (W : World) (R : Nat) (s : ByteArray) (e : UInt8) (k : Nat) (v : Value) (st : List Nat) (h : Rd W R s e k v st) (hk : k < s.size) (hs : s.size ≤ 1099511627776) : Calls Tryz.prog 111 #[.pointer (some ⟨R, 0, none⟩)] W fun x w' => TPost (singS st ((un s).drop (k + 1))) R s e k v W x w' := by
  have f2 := h.lies.cell (i := 2) rfl
  have fr := h.lies.frozen 2
  have w1 : IntKind.i64.wrap ((k : Int) + 1) = ((k + 1 : Nat) : Int) := by rw [wrap_small _ (by omega) (by omega)]; omega
  have h1 := h.move (k + 1)
  have r1 := (Rnd.refl (rdS R v) W).set (b := R) (i := 2) (.inl rfl) (.int .i64 ((k + 1 : Nat) : Int))
  have hX : s.extract (k + 1) s.size = bs ((un s).drop (k + 1)) := ext_tail s (k + 1)
  have hI := fun W => Tryz.strings_IndexByte (bs ((un s).drop (k + 1))) 39 W
  rw [show (bs ((un s).drop (k + 1))).data.toList = (un s).drop (k + 1) from un_bs _, show (39 : Int).toNat.toUInt8 = 39 from rfl, ib_idx, ← hX] at hI
  have d0 : (0 : Int) ≤ ((k + 1 : Nat) : Int) := by omega
  have d1 : ((k + 1 : Nat) : Int) ≤ (s.size : Int) := by omega
  have hl2 : ((un s).drop (k + 1)).length = s.size - (k + 1) := by rw [List.length_drop, un_length]
  have HT : Hid (singS st ((un s).drop (k + 1)) = match idx 39 ((un s).drop (k + 1)) with
    | none => .bad 18
    | some j => .good (.lit (((un s).drop (k + 1)).take j)) (j + 2) st) := rfl
  have hB := fun W1 n (h : Rd W1 R s e (k + 1) v st) (hn : k + 1 + n ≤ s.size) => bytes_p n W1 R s e (k + 1) v st h hn hs
  cases hx : idx 39 ((un s).drop (k + 1)) with
  | none =>
    rw [hx] at HT hI
    have HT2 : Hid (singS st ((un s).drop (k + 1)) = .bad 18) := HT
    have hI2 : ∀ W, Calls Tryz.prog 50 #[.string (s.extract (k + 1) s.size), .int .u8 39] W fun e w' => e = .returned (.int .i64 (-1)) ∧ w' = W := hI
    clear hX hx HT hl2 h hB hI
    generalize singS st ((un s).drop (k + 1)) = T at *
    generalize hkb : k + 1 = kb at *
    go_enter Tryz.func111, Tryz.ntmps111
    go_wp2
    generalize (W.setCell ⟨R, 2, none⟩ (.int .i64 (kb : Int))) = W2 at *
    have g0 := h1.lies.cell (i := 0) rfl
    have g2 := h1.lies.cell (i := 2) rfl
    clear f2 fr
    go_quiet ((go_at_call 50; with_reducible exact Calls.quiet_of_same (hI2 _)))
    go_wp2
    go_ret2
    exact .inl ⟨18, HT2.out, by decide, rfl, r1.drewR _⟩
  | some j =>
    have hjl := idx_le _ _ _ hx
    rw [hx] at HT hI
    have HT2 : Hid (singS st ((un s).drop (k + 1)) = .good (.lit (((un s).drop (k + 1)).take j)) (j + 2) st) := HT
    have hI2 : ∀ W, Calls Tryz.prog 50 #[.string (s.extract (k + 1) s.size), .int .u8 39] W fun e w' => e = .returned (.int .i64 (j : Int)) ∧ w' = W := hI
    rw [hl2] at hjl
    have hjn : ¬ (j : Int) < 0 := by omega
    have hB2 := fun W1 (h : Rd W1 R s e (k + 1) v st) => hB W1 j h (by omega)
    have hM := fun W1 (h : Rd W1 R s e (k + 1 + j) v st) => h.move (k + 1 + j + 1)
    have w2 : IntKind.i64.wrap (((k + 1 + j : Nat) : Int) + 1) = ((k + 1 + j + 1 : Nat) : Int) := by rw [wrap_small _ (by omega) (by omega)]; omega
    have E3 : Hid (k + 1 + j + 1 = k + (j + 2)) := by unfold Hid; omega
    clear hX hx HT hl2 h hB hI
    generalize singS st ((un s).drop (k + 1)) = T at *
    generalize ((un s).drop (k + 1)).take j = Y at *
    generalize k + 1 + j + 1 = kd at *
    generalize k + 1 + j = kc at *
    generalize hkb : k + 1 = kb at *
    go_enter Tryz.func111, Tryz.ntmps111
    go_wp2
    generalize (W.setCell ⟨R, 2, none⟩ (.int .i64 (kb : Int))) = W2 at *
    have g0 := h1.lies.cell (i := 0) rfl
    have g2 := h1.lies.cell (i := 2) rfl
    clear f2 fr
    go_quiet ((go_at_call 50; with_reducible exact Calls.quiet_of_same (hI2 _)))
    clear g0 g2
    go_wp2_with (go_at_call 114; refine (hB2 _ (h1.drew _)).mono ?_; rintro x w3 ⟨rfl, hr, rr⟩; have z2 := hr.lies.cell (i := 2) rfl; have zf := hr.lies.frozen 2)
    go_ret2
    exact .inr ⟨_, rfl, .lit Y, j + 2, st, v, HT2.out, rfl, E3.out ▸ hM _ hr, ((r1.drewR _).trans rr).set (.inl rfl) _⟩

set_option maxHeartbeats 4000000 in
set_option maxRecDepth 100000 in
theorem takeRun_p (W : World) (R : Nat) (s : ByteArray) (e : UInt8) (k : Nat) (v : Value) (st : List Nat) (h : Rd W R s e k v st) (hk : k < s.size) (hs : s.size ≤ 1099511627776) : Calls Tryz.prog 112 #[.pointer (some ⟨R, 0, none⟩)] W fun x w' => ∃ y, x = .returned y ∧ GPost (runS e st s[k] ((un s).drop (k + 1))) R s e k v W y w' := by
  have f0 := h.lies.cell (i := 0) rfl
  have f2 := h.lies.cell (i := 2) rfl
  have HR : Hid (Rd W R s e k v st) := h
  have w1 : IntKind.i64.wrap ((k : Int) + 1) = ((k + 1 : Nat) : Int) := by rw [wrap_small _ (by omega) (by omega)]; omega
  have hl2 : ((un s).drop (k + 1)).length = s.size - (k + 1) := by rw [List.length_drop, un_length]
  have htl := tw_le (fun c => !act e c) ((un s).drop (k + 1))
  have HG : Hid (∀ j, j < s.size - (k + 1) → ((un s).drop (k + 1))[j]? = (un s)[k + 1 + j]?) := fun j _ => by rw [List.getElem?_drop]
  have HTW : Hid (((un s).drop (k + 1)).take (((un s).drop (k + 1)).takeWhile (fun c => !act e c)).length = ((un s).drop (k + 1)).takeWhile (fun c => !act e c)) := tw_take _ _
  have HD : Hid ((un s).drop k = s[k] :: (un s).drop (k + 1)) := drop_get hk
  have HP : Hid (runS e st s[k] ((un s).drop (k + 1)) = .good (.lit (s[k] :: ((un s).drop (k + 1)).takeWhile (fun c => !act e c))) (1 + (((un s).drop (k + 1)).takeWhile (fun c => !act e c)).length) st) := rfl
  generalize runS e st s[k] ((un s).drop (k + 1)) = T at *
  have hB := fun W1 n (h : Rd W1 R s e k v st) (hn : k + n ≤ s.size) => bytes_p n W1 R s e k v st h hn hs
  have HTS : Hid (∀ j b, j ≤ (((un s).drop (k + 1)).takeWhile (fun c => !act e c)).length → ((un s).drop (k + 1))[j]? = some b → ((!act e b) = true → j + 1 ≤ (((un s).drop (k + 1)).takeWhile (fun c => !act e c)).length) ∧ ((!act e b) = false → (((un s).drop (k + 1)).takeWhile (fun c => !act e c)).length = j)) := fun j b => tw_step (fun c => !act e c) ((un s).drop (k + 1)) j b
  have hend : ∀ (j : Nat), j = (((un s).drop (k + 1)).takeWhile (fun c => !act e c)).length → ((un s).drop k).take (1 + j) = s[k] :: ((un s).drop (k + 1)).takeWhile (fun c => !act e c) := fun j hj => by
    rw [HD.out, Nat.add_comm, List.take_succ_cons, hj, HTW.out]
  have HEND : Hid _ := hend
  clear h hend HD HTW
  generalize (un s).drop (k + 1) = U at *
  generalize hN : (U.takeWhile (fun c => !act e c)).length = N at *
  generalize U.takeWhile (fun c => !act e c) = UW at *
  go_enter Tryz.func112, Tryz.ntmps112
  go_wp2
  go_loop [3] (fun i => ∃ j : Nat, j ≤ N ∧ i = .int .i64 ((k + 1 + j : Nat) : Int)) (fun i => s.size - (intOf i).toNat)
  case atStart => exact ⟨0, Nat.zero_le _, rfl⟩
  case round =>
    obtain ⟨j, hj, rfl⟩ := hrel
    have w2 : IntKind.i64.wrap (((k + 1 + j : Nat) : Int) - (k : Int)) = ((1 + j : Nat) : Int) := by rw [wrap_small _ (by omega) (by omega)]; omega
    have w3 : IntKind.i64.wrap (((k + 1 + j : Nat) : Int) + 1) = ((k + 1 + (j + 1) : Nat) : Int) := by rw [wrap_small _ (by omega) (by omega)]; omega
    have hq0 : k + 1 + j ≤ s.size := by omega
    have hB2 := fun W1 (h : Rd W1 R s e k v st) => hB W1 (1 + j) h (by omega)
    have HJ : Hid (k + 1 + j = k + (1 + j)) := by unfold Hid; omega
    have HJ2 : Hid (k + 1 + (j + 1) = (k + 1 + j) + 1) := by unfold Hid; omega
    by_cases hlt : k + 1 + j < s.size
    · have hA := fun W1 (h : Rd W1 R s e k v st) => mayAct_p s[k + 1 + j] W1 R s e k v st h
      have HS0 := HTS.out j s[k + 1 + j] hj (by rw [HG.out j (by omega)]; exact un_getElem? s _ hlt)
      have HS : Hid _ := HS0
      have d0 : (0 : Int) ≤ ((k + 1 + j : Nat) : Int) := by omega
      have d1 : ((k + 1 + j : Nat) : Int) < (s.size : Int) := by omega
      generalize act e s[k + 1 + j] = r at *
      generalize hkk1 : k + 1 + (j + 1) = kk1 at *
      have HK1 : Hid (k + 1 + (j + 1) = kk1) := hkk1
      generalize hkk : k + 1 + j = kk at *
      have HKK : Hid (k + 1 + j = kk) := hkk
      have HLE : Hid (kk < s.size ∧ s.size ≤ 1099511627776) := ⟨hlt, hs⟩
      clear hkk1 hkk HS0
      cases r with
      | true =>
        have HN2 := HS.out.2 (by trivial)
        have HE2 := HEND.out j HN2.symm
        go_wp2_with (first | (go_at_call 117; refine (hA _ HR.out).mono ?_; rintro x w3 ⟨rfl, hw⟩; replace hw := hw.symm; subst hw) | (go_at_call 114; refine (hB2 _ HR.out).mono ?_; rintro x w4 ⟨rfl, hr, rr⟩))
        go_ret
        exact ⟨_, rfl, .lit (s[k] :: UW), 1 + N, st, v, HP.out, by rw [← HE2]; rfl, by rw [HN2]; exact hr, rr⟩
      | false =>
        have hN2 := HS.out.1 (by trivial)
        go_wp2_with (go_at_call 117; refine (hA _ HR.out).mono ?_; rintro x w3 ⟨rfl, hw⟩; replace hw := hw.symm; subst hw)
        have hk9 := HK1.out
        have hk8 := HKK.out
        obtain ⟨hk7, _⟩ := HLE.out
        first
          | exact ⟨⟨j + 1, hN2, by rw [HK1.out]⟩, by simp [intOf]; omega⟩
          | (go_round
             case rel => exact ⟨j + 1, hN2, by rw [HK1.out]⟩
             case measure => simp [intOf]; omega)
    · have hjN : j = N := by omega
      have HE2 := HEND.out j hjN
      have d1 : ¬ ((k + 1 + j : Nat) : Int) < (s.size : Int) := by omega
      subst hjN
      generalize k + 1 + j = kk at *
      go_wp2_with (go_at_call 114; refine (hB2 _ HR.out).mono ?_; rintro x w4 ⟨rfl, hr, rr⟩)
      go_ret
      exact ⟨_, rfl, .lit (s[k] :: UW), 1 + j, st, v, HP.out, by rw [← HE2]; rfl, hr, rr⟩

set_option maxHeartbeats 4000000 in
set_option maxRecDepth 100000 in
theorem opening_p (p : Value) (W : World) (R : Nat) (s : ByteArray) (e : UInt8) (k : Nat) (v : Value) (st : List Nat) (h : Rd W R s e k v st) (hk : k ≤ 1099511627776) (hl : st.length ≤ 1099511627776) : Calls Tryz.prog 118 #[.pointer (some ⟨R, 0, none⟩), p] W fun x w' => x = .returned p ∧ ∃ v2, Rd w' R s e (k + 2) v2 (2 :: st) ∧ Rnd (rdS R v) (rdS R v2) W w' := by
  have f2 := h.lies.cell (i := 2) rfl
  have fr := h.lies.frozen 2
  have w1 : IntKind.i64.wrap ((k : Int) + 2) = ((k + 2 : Nat) : Int) := by rw [wrap_small _ (by omega) (by omega)]; omega
  have h1 := h.move (k + 2)
  have r1 := (Rnd.refl (rdS R v) W).set (b := R) (i := 2) (.inl rfl) (.int .i64 ((k + 2 : Nat) : Int))
  have hE := enter_p (W.setCell ⟨R, 2, none⟩ (.int .i64 ((k + 2 : Nat) : Int))) R s e (k + 2) v st 2 h1 hl
  clear h h1
  generalize k + 2 = kb at *
  go_enter Tryz.func118, Tryz.ntmps118
  go_wp2_with (go_at_call 110; refine hE.mono ?_; rintro x w2 ⟨rfl, v2, hr, rr⟩)
  go_ret
  exact ⟨rfl, v2, hr, r1.trans rr⟩
end Go.Proofs.YtbmakfdljddhcaaGreatDoor
