/- The reader of words: what it takes at the next byte. -/
import Derived.Test.YtbmakfdljddhcaaGreatDoorTkX
namespace Go.Proofs.YtbmakfdljddhcaaGreatDoor
open Go Go.RowKit

theorem drop_get {s : ByteArray} {k : Nat} (hk : k < s.size) : (un s).drop k = s[k] :: (un s).drop (k + 1) := by
  have h := un_getElem? s k hk
  obtain ⟨h1, h2⟩ := List.getElem?_eq_some_iff.1 h
  rw [List.drop_eq_getElem_cons h1, h2]
theorem take_one {s : ByteArray} {k : Nat} (hk : k < s.size) : ((un s).drop k).take 1 = [s[k]] := by rw [drop_get hk]; rfl
theorem ib_idx (l : List UInt8) (c : UInt8) : Lib.indexByte l c = match idx c l with
    | none => -1
    | some k => (k : Int) := by
  induction l with
  | nil => rfl
  | cons b t ih =>
    unfold Lib.indexByte idx
    by_cases hb : b = c
    · subst hb; simp
    · rw [if_neg (by simpa using hb), if_neg hb, ih]
      cases idx c t with
      | none => rfl
      | some k =>
        show (if ((k : Int) == -1) = true then (-1 : Int) else (k : Int) + 1) = ((k + 1 : Nat) : Int)
        rw [if_neg (by simp)]; rfl
/-- A piece has come, and the reader stands behind it. -/
def GPost (t : Tk) (R : Nat) (s : ByteArray) (e : UInt8) (k : Nat) (v : Value) (W : World) (y : Value) (w' : World) : Prop := ∃ p n st2 v2, t = .good p n st2 ∧ y = pcV p ∧ Rd w' R s e (k + n) v2 st2 ∧ Rnd (rdS R v) (rdS R v2) W w'
/-- A piece has come, or something is wrong. -/
def TPost (t : Tk) (R : Nat) (s : ByteArray) (e : UInt8) (k : Nat) (v : Value) (W : World) (x : Ending) (w' : World) : Prop :=
  (∃ n, t = .bad n ∧ n ≠ 0 ∧ x = .returned (.tuple #[.nilIface, erV n]) ∧ Rnd (rdS R v) (rdS R v) W w') ∨ ∃ y, x = .returned (.tuple #[y, .nilIface]) ∧ GPost t R s e k v W y w'

set_option maxHeartbeats 4000000 in
set_option maxRecDepth 100000 in
theorem takeEsc_p (W : World) (R : Nat) (s : ByteArray) (e : UInt8) (k : Nat) (v : Value) (m : Nat) (st : List Nat) (h : Rd W R s e k v (m :: st)) (hm : m ≤ 3) (hk : k < s.size) (hs : s.size ≤ 1099511627776) : Calls Tryz.prog 105 #[.pointer (some ⟨R, 0, none⟩), .int .u8 (m : Int)] W fun x w' => ∃ y, x = .returned y ∧ GPost (escS e (m :: st) s[k] ((un s).drop (k + 1))) R s e k v W y w' := by
  have f0 := h.lies.cell (i := 0) rfl
  have f1 := h.lies.cell (i := 1) rfl
  have f2 := h.lies.cell (i := 2) rfl
  have fr := h.lies.frozen 2
  have HR : Hid (Rd W R s e k v (m :: st)) := h
  have w1 : IntKind.i64.wrap ((k : Int) + 1) = ((k + 1 : Nat) : Int) := by rw [wrap_small _ (by omega) (by omega)]; omega
  have h1 := h.move (k + 1)
  have HT1 := take_one hk
  have hB := fun W1 (h : Rd W1 R s e k v (m :: st)) => bytes_p 1 W1 R s e k v (m :: st) h (by omega) hs
  rw [HT1] at hB
  by_cases hlt : k + 1 < s.size
  · have hd := drop_get hlt
    have HT2 := take_one hlt
    have hB2 := fun W1 (h : Rd W1 R s e (k + 1) v (m :: st)) => bytes_p 1 W1 R s e (k + 1) v (m :: st) h (by omega) hs
    rw [HT2] at hB2
    have hE := fun W => escapes_p m hm s[k + 1] e W
    have HP : Hid (escS e (m :: st) s[k] ((un s).drop (k + 1)) = if escs m s[k + 1] e = true then .good (.lit [s[k + 1]]) 2 (m :: st) else .good (.lit [s[k]]) 1 (m :: st)) := by unfold Hid; rw [hd]; rfl
    have g1 : (((k + 1 : Nat) : Int) == (s.size : Int)) = false := by simp; omega
    have d0 : (0 : Int) ≤ ((k + 1 : Nat) : Int) := by omega
    have d1 : ((k + 1 : Nat) : Int) < (s.size : Int) := by omega
    clear hd HT1 HT2 h
    generalize escS e (m :: st) s[k] ((un s).drop (k + 1)) = T at *
    generalize escs m s[k + 1] e = r at *
    have hk2 : k + 1 + 1 = k + 2 := rfl
    rw [hk2] at hB2
    generalize hkb : k + 1 = kb at *
    cases r with
    | true =>
      go_enter Tryz.func105, Tryz.ntmps105
      go_wp2
      go_quiet ((go_at_call 113; with_reducible exact Calls.quiet_of_same (hE _)))
      go_wp2_with (go_at_call 114; refine (hB2 _ (h1.drew _)).mono ?_; rintro x w2 ⟨rfl, hr, rr⟩)
      go_ret
      exact ⟨_, rfl, .lit [s[kb]], 2, m :: st, v, by rw [HP.out]; rfl, rfl, hr, (((Rnd.drew _ W _).set (.inl rfl) _)).trans rr⟩
    | false =>
      go_enter Tryz.func105, Tryz.ntmps105
      go_wp2
      go_quiet ((go_at_call 113; with_reducible exact Calls.quiet_of_same (hE _)))
      go_wp2_with (go_at_call 114; refine (hB _ (HR.out.drew _)).mono ?_; rintro x w2 ⟨rfl, hr, rr⟩)
      go_ret
      exact ⟨_, rfl, .lit [s[k]], 1, m :: st, v, by rw [HP.out]; rfl, rfl, hkb ▸ hr, (Rnd.drew _ W _).trans rr⟩
  · have HP : Hid (escS e (m :: st) s[k] ((un s).drop (k + 1)) = .good (.lit [s[k]]) 1 (m :: st)) := by unfold Hid; rw [List.drop_of_length_le (by rw [un_length]; omega)]; rfl
    have g1 : (((k + 1 : Nat) : Int) == (s.size : Int)) = true := by simp; omega
    clear HT1 h
    generalize escS e (m :: st) s[k] ((un s).drop (k + 1)) = T at *
    generalize hkb : k + 1 = kb at *
    go_enter Tryz.func105, Tryz.ntmps105
    go_wp2
    go_quiet (fail)
    go_wp2_with (go_at_call 114; refine (hB _ (HR.out.drew _)).mono ?_; rintro x w2 ⟨rfl, hr, rr⟩)
    go_ret
    exact ⟨_, rfl, .lit [s[k]], 1, m :: st, v, HP.out, rfl, hkb ▸ hr, (Rnd.drew _ W _).trans rr⟩
end Go.Proofs.YtbmakfdljddhcaaGreatDoor
