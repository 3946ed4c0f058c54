/- The reader of words: variables; whatever stands at the next byte; what is open at the end. -/
import Derived.Test.YtbmakfdljddhcaaGreatDoorTlW
namespace Go.Proofs.YtbmakfdljddhcaaGreatDoor
open Go Go.RowKit

theorem emp_bs (l : List UInt8) : (bs l).toList.isEmpty = l.isEmpty := by rw [toList_un, un_bs]
theorem nm_empty (u : List UInt8) : (u.take (nmL u)).isEmpty = decide (nmL u = 0) := by
  have := nmL_le u
  rw [Bool.eq_iff_iff, List.isEmpty_iff, decide_eq_true_iff, ← List.length_eq_zero_iff, List.length_take]; omega
set_option maxHeartbeats 8000000 in
set_option maxRecDepth 100000 in
theorem takeBr_p (u : List UInt8) (W : World) (R : Nat) (s : ByteArray) (e : UInt8) (k : Nat) (v : Value) (st : List Nat) (h : Rd W R s e k v st) (hk : k + 2 ≤ s.size) (hu : (un s).drop (k + 2) = u) (hs : s.size ≤ 1099511627776) (hl : st.length ≤ 1099511627776) : Calls Tryz.prog 115 #[.pointer (some ⟨R, 0, none⟩), .string (bs u)] W fun x w' => TPost (bracesS st u) R s e k v W x w' := by
  have hul : u.length = s.size - (k + 2) := by rw [← hu, List.length_drop, un_length]
  have hnl := nmL_le u
  have f2 := h.lies.cell (i := 2) rfl
  have fr := h.lies.frozen 2
  have HR : Hid (Rd W R s e k v st) := h
  have hN := fun W => leadName_p (bs u) (by rw [size_bs]; omega) W
  rw [un_bs] at hN
  have HT : Hid (bracesS st u = if nmL u = 0 then .bad 4
    else if [125].isPrefixOf (u.drop (nmL u)) = true then .good (.var (u.take (nmL u))) (2 + nmL u + 1) st
    else if [58, 45].isPrefixOf (u.drop (nmL u)) = true then .good (.ifE (u.take (nmL u))) (2 + nmL u + 2) (2 :: st)
    else if [58, 43].isPrefixOf (u.drop (nmL u)) = true then .good (.ifF (u.take (nmL u))) (2 + nmL u + 2) (2 :: st)
    else .bad 4) := rfl
  have hE1 := (emp_bs (u.take (nmL u))).trans (nm_empty u)
  have hNs : (bs (u.take (nmL u))).size = nmL u := by rw [size_bs, List.length_take]; omega
  have hX : (bs u).extract (nmL u) (bs u).size = bs (u.drop (nmL u)) := by rw [ext_tail, un_bs]
  have hUs : (bs u).size = u.length := size_bs u
  have w1 : IntKind.i64.wrap ((2 : Int) + (nmL u : Int)) = (2 : Int) + (nmL u : Int) := wrap_small _ (by omega) (by omega)
  have w2 : IntKind.i64.wrap ((k : Int) + ((2 : Int) + (nmL u : Int))) = ((k + (2 + nmL u) : Nat) : Int) := by rw [wrap_small _ (by omega) (by omega)]; omega
  have d0 : (0 : Int) ≤ (nmL u : Int) := by omega
  have d1 : (nmL u : Int) ≤ (u.length : Int) := by omega
  have h1 := h.move (k + (2 + nmL u))
  have r1 := (Rnd.refl (rdS R v) W).set (b := R) (i := 2) (.inl rfl) (.int .i64 ((k + (2 + nmL u) : Nat) : Int))
  have HPq : Hid (∀ (p : List UInt8) W, Calls Tryz.prog 78 #[.string (bs (u.drop (nmL u))), .string (bs p)] W fun e w' => e = .returned (.bool (p.isPrefixOf (u.drop (nmL u)))) ∧ w' = W) := fun p W => by
    have := Tryz.strings_HasPrefix (bs (u.drop (nmL u))) (bs p) W
    rw [show (bs (u.drop (nmL u))).data.toList = u.drop (nmL u) from un_bs _, show (bs p).data.toList = p from un_bs _] at this
    exact this
  have hp1 : ∀ W, Calls Tryz.prog 78 #[.string (bs (u.drop (nmL u))), .string ⟨#[125]⟩] W fun e w' => e = .returned (.bool ([125].isPrefixOf (u.drop (nmL u)))) ∧ w' = W := HPq.out [125]
  have hp2 : ∀ W, Calls Tryz.prog 78 #[.string (bs (u.drop (nmL u))), .string ⟨#[58, 45]⟩] W fun e w' => e = .returned (.bool ([58, 45].isPrefixOf (u.drop (nmL u)))) ∧ w' = W := HPq.out [58, 45]
  have hp3 : ∀ W, Calls Tryz.prog 78 #[.string (bs (u.drop (nmL u))), .string ⟨#[58, 43]⟩] W fun e w' => e = .returned (.bool ([58, 43].isPrefixOf (u.drop (nmL u)))) ∧ w' = W := HPq.out [58, 43]
  have HM := fun p W1 (h : Rd W1 R s e (k + (2 + nmL u)) v st) => mark_p p W1 R s e (k + (2 + nmL u)) v st h (by omega)
  have HO := fun p W1 (h : Rd W1 R s e (k + (2 + nmL u)) v st) => opening_p p W1 R s e (k + (2 + nmL u)) v st h (by omega) hl
  have E1 : Hid (k + (2 + nmL u) + 1 = k + (2 + nmL u + 1)) := by unfold Hid; omega
  have E2 : Hid (k + (2 + nmL u) + 2 = k + (2 + nmL u + 2)) := by unfold Hid; omega
  have HZ : Hid (nmL u = 0 ∨ nmL u ≠ 0) := by unfold Hid; omega
  clear h hu HPq hnl
  generalize bracesS st u = T at *
  generalize [125].isPrefixOf (u.drop (nmL u)) = p1 at *
  generalize [58, 45].isPrefixOf (u.drop (nmL u)) = p2 at *
  generalize [58, 43].isPrefixOf (u.drop (nmL u)) = p3 at *
  rw [← hX, hUs] at hp1 hp2 hp3
  rw [hUs] at hX
  generalize hYY : u.take (nmL u) = Y at *
  generalize bs u = B at *
  have HY : Hid _ := hYY
  clear hYY hX hul
  generalize u.length = ul at *
  generalize k + (2 + nmL u) = kb at *
  rcases HZ.out with hz | hz
  · have hz1 : decide (nmL u = 0) = true := decide_eq_true hz
    have HT2 : Hid (T = .bad 4) := by unfold Hid; rw [HT.out, if_pos hz]
    rw [hz1] at hE1
    clear hz hz1 HT
    go_enter Tryz.func115, Tryz.ntmps115
    go_wp2_with (go_at_call 116; refine (hN _).mono ?_; rintro x w2 ⟨rfl, hw⟩; replace hw := hw.symm; subst hw)
    go_ret2
    exact .inl ⟨4, HT2.out, by decide, rfl, Rnd.refl _ _⟩
  · have hz1 : decide (nmL u = 0) = false := decide_eq_false hz
    have HT2 : Hid (T = if p1 = true then .good (.var Y) (2 + nmL u + 1) st else if p2 = true then .good (.ifE Y) (2 + nmL u + 2) (2 :: st) else if p3 = true then .good (.ifF Y) (2 + nmL u + 2) (2 :: st) else .bad 4) := by unfold Hid; rw [HT.out, if_neg hz]
    rw [hz1] at hE1
    clear hz hz1 HT HZ
    generalize nmL u = n at *
    cases p1 with
    | true =>
      go_enter Tryz.func115, Tryz.ntmps115
      go_wp2_with (first | (go_at_call 116; refine (hN _).mono ?_; rintro x w2 ⟨rfl, hw⟩; replace hw := hw.symm; subst hw) | (go_at_call 78; refine (hp1 _).mono ?_; rintro x w2 ⟨rfl, hw⟩; replace hw := hw.symm; subst hw) | (go_at_call 108; refine (HM _ _ h1).mono ?_; rintro x w3 ⟨rfl, hr, rr⟩))
      go_ret2
      exact .inr ⟨_, rfl, .var Y, 2 + n + 1, st, v, HT2.out, rfl, E1.out ▸ hr, r1.trans rr⟩
    | false =>
      cases p2 with
      | true =>
        go_enter Tryz.func115, Tryz.ntmps115
        go_wp2_with (first | (go_at_call 116; refine (hN _).mono ?_; rintro x w2 ⟨rfl, hw⟩; replace hw := hw.symm; subst hw) | (go_at_call 78; first | (refine (hp1 _).mono ?_; rintro x w2 ⟨rfl, hw⟩; replace hw := hw.symm; subst hw) | (refine (hp2 _).mono ?_; rintro x w2 ⟨rfl, hw⟩; replace hw := hw.symm; subst hw)) | (go_at_call 118; refine (HO _ _ h1).mono ?_; rintro x w3 ⟨rfl, v2, hr, rr⟩))
        go_ret2
        exact .inr ⟨_, rfl, .ifE Y, 2 + n + 2, 2 :: st, v2, HT2.out, rfl, E2.out ▸ hr, r1.trans rr⟩
      | false =>
        cases p3 with
        | true =>
          go_enter Tryz.func115, Tryz.ntmps115
          go_wp2_with (first | (go_at_call 116; refine (hN _).mono ?_; rintro x w2 ⟨rfl, hw⟩; replace hw := hw.symm; subst hw) | (go_at_call 78; first | (refine (hp1 _).mono ?_; rintro x w2 ⟨rfl, hw⟩; replace hw := hw.symm; subst hw) | (refine (hp2 _).mono ?_; rintro x w2 ⟨rfl, hw⟩; replace hw := hw.symm; subst hw) | (refine (hp3 _).mono ?_; rintro x w2 ⟨rfl, hw⟩; replace hw := hw.symm; subst hw)) | (go_at_call 118; refine (HO _ _ h1).mono ?_; rintro x w3 ⟨rfl, v2, hr, rr⟩))
          go_ret2
          exact .inr ⟨_, rfl, .ifF Y, 2 + n + 2, 2 :: st, v2, HT2.out, rfl, E2.out ▸ hr, r1.trans rr⟩
        | false =>
          go_enter Tryz.func115, Tryz.ntmps115
          go_wp2_with (first | (go_at_call 116; refine (hN _).mono ?_; rintro x w2 ⟨rfl, hw⟩; replace hw := hw.symm; subst hw) | (go_at_call 78; first | (refine (hp1 _).mono ?_; rintro x w2 ⟨rfl, hw⟩; replace hw := hw.symm; subst hw) | (refine (hp2 _).mono ?_; rintro x w2 ⟨rfl, hw⟩; replace hw := hw.symm; subst hw) | (refine (hp3 _).mono ?_; rintro x w2 ⟨rfl, hw⟩; replace hw := hw.symm; subst hw)))
          go_ret2
          exact .inl ⟨4, HT2.out, by decide, rfl, r1⟩
end Go.Proofs.YtbmakfdljddhcaaGreatDoor
