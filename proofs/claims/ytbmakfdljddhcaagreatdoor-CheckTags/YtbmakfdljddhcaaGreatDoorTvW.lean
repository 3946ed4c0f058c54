/- What the pieces come to, in memory: lay, value, begin, end, whole. -/
import Derived.Test.YtbmakfdljddhcaaGreatDoorTyW
import Derived.WalkSpells
namespace Go.Proofs.YtbmakfdljddhcaaGreatDoor
open Go Go.RowKit Go.Maps

theorem PrsIn.mono {A B : Nat} {W : World} {v : Value} {es : List PrZ} (h : PrsIn A W v es) (hab : A ≤ B) : PrsIn B W v es := by
  obtain ⟨a, cap, b, o, h1, h2, h3, h4⟩ := h
  exact ⟨a, cap, b, o, h1, h2, h3, fun i e he => ⟨by have := (h4 i e he).1; omega, (h4 i e he).2⟩⟩
theorem wrap_mid (n : Int) (h1 : -1152921504606846976 ≤ n) (h2 : n ≤ 1152921504606846976) : IntKind.i64.wrap n = n := by
  simp only [IntKind.wrap, IntKind.bits, IntKind.signed]
  simp
  omega
theorem Tz.sl {W : World} {B T : Nat} {vs : List PrZ} {t : TS} {vv mp ad bv : Value} (h : Tz W B T vs t vv mp ad bv) : ∃ oa oc, bv = .slice oa t.o.length oc := own_sliceN h.own
set_option maxHeartbeats 4000000 in
set_option maxRecDepth 100000 in
theorem lay_p (l : List UInt8) (W : World) (B T : Nat) (vs : List PrZ) (t : TS) (vv mp ad bv : Value) (h : Tz W B T vs t vv mp ad bv) (ho : t.o.length ≤ 65536) (hl : l.length ≤ 1152921504606846976) (hB : B ≤ W.heap.size) : Calls Tryz.prog 158 #[.pointer (some ⟨T, 0, none⟩), .string (bs l)] W fun x w' => x = .returned (.tuple #[]) ∧ ∃ ad2 bv2, Tz w' B T vs (layT l t) vv mp ad2 bv2 ∧ Rnd (txS T mp bv) (txS T mp bv2) W w' := by
  have f5 := h.lies.cell (i := 6) rfl
  have f3 := h.lies.cell (i := 4) rfl
  have fr := h.lies.frozen 4
  have hn := len_b W B T vs t vv mp ad bv h
  have hw9 := fun hle => wstr_b (bs l) W B T vs t vv mp ad bv h hle hB
  have hs := h.set (t2 := { t with long := true }) (ad2 := ad) 4 (.bool true) rfl rfl (.inl rfl)
  have hr0 : Rnd (txS T mp bv) (txS T mp bv) W W := (Rnd.refl _ W)
  have hsz : (bs l).size = l.length := size_bs l
  have hun : un (bs l) = l := un_bs l
  have HT : Hid (Tz W B T vs t vv mp ad bv) := h
  have HL : Hid (layT l t = if 0 < t.d.hid then t else if 65536 < t.o.length + l.length then { t with long := true } else { t with o := t.o ++ l }) := rfl
  rw [hun, hsz] at hw9
  have HW : Hid (IntKind.i64.wrap ((t.o.length : Int) + (l.length : Int)) = (t.o.length : Int) + (l.length : Int)) := wrap_small _ (by omega) (by omega)
  have hw0 := HW.out
  clear h hun HW
  generalize layT l t = LT at *
  generalize bs l = s at *
  by_cases h1 : 0 < t.d.hid
  · have HL2 : Hid (LT = t) := by unfold Hid; rw [HL.out, if_pos h1]
    clear HL hw9 hs hn
    go_enter Tryz.func158, Tryz.ntmps158
    go_wp2
    go_end0
    exact ⟨rfl, ad, bv, by rw [HL2.out]; exact HT.out, hr0⟩
  · by_cases h2 : 65536 < t.o.length + l.length
    · have HL2 : Hid (LT = { t with long := true }) := by unfold Hid; rw [HL.out, if_neg h1, if_pos h2]
      have h3 : (65536 : Int) < (t.o.length : Int) + (l.length : Int) := by omega
      clear HL hw9 h2
      go_enter Tryz.func158, Tryz.ntmps158
      go_wp2_with (go_at_call 159; refine hn.mono ?_; rintro x w2 ⟨rfl, hw⟩; replace hw := hw.symm; subst hw)
      go_end0
      exact ⟨rfl, ad, bv, by rw [HL2.out]; exact hs.1, hs.2⟩
    · have HL2 : Hid (LT = { t with o := t.o ++ l }) := by unfold Hid; rw [HL.out, if_neg h1, if_neg h2]
      have h3 : ¬ (65536 : Int) < (t.o.length : Int) + (l.length : Int) := by omega
      have hw := hw9 (by omega)
      clear HL hs h2 hw9
      go_enter Tryz.func158, Tryz.ntmps158
      go_wp2_with (first | (go_at_call 159; refine hn.mono ?_; rintro x w2 ⟨rfl, hw⟩; replace hw := hw.symm; subst hw) | (go_at_call 160; refine hw.mono ?_; rintro x w3 ⟨rfl, ad2, bv2, hz, hr⟩))
      go_end0
      exact ⟨rfl, ad2, bv2, by rw [HL2.out]; exact hz, hr⟩

set_option maxHeartbeats 4000000 in
set_option maxRecDepth 100000 in
theorem begin_p (b : Bool) (W : World) (B T : Nat) (vs : List PrZ) (t : TS) (vv mp ad bv : Value) (h : Tz W B T vs t vv mp ad bv) (hd : -1099511627776 ≤ t.d.depth) (hd2 : t.d.depth ≤ 1099511627776) : Calls Tryz.prog 171 #[.pointer (some ⟨T, 0, none⟩), .bool b] W fun x w' => x = .returned (.tuple #[]) ∧ Tz w' B T vs { t with d := begD b t.d } vv mp ad bv ∧ Rnd (txS T mp bv) (txS T mp bv) W w' := by
  have f5 := h.lies.cell (i := 5) rfl
  have f6 := h.lies.cell (i := 6) rfl
  have fr5 := h.lies.frozen 5
  have hw0 : IntKind.i64.wrap (t.d.depth + 1) = t.d.depth + 1 := wrap_mid _ (by omega) (by omega)
  have hs := h.set (t2 := { t with d := ⟨t.d.depth + 1, t.d.hid⟩ }) (ad2 := ad) 5 (.int .i64 (t.d.depth + 1)) rfl rfl (.inl rfl)
  have k5 := hs.1.lies.cell (i := 5) rfl
  have k6 := hs.1.lies.cell (i := 6) rfl
  have kr6 := hs.1.lies.frozen 6
  have hs2 := hs.1.set (t2 := { t with d := ⟨t.d.depth + 1, t.d.depth + 1⟩ }) (ad2 := ad) 6 (.int .i64 (t.d.depth + 1)) rfl rfl (.inl rfl)
  have HB : Hid (begD b t.d = ⟨t.d.depth + 1, if b = false ∧ t.d.hid = 0 then t.d.depth + 1 else t.d.hid⟩) := rfl
  generalize begD b t.d = D at *
  clear h
  cases b with
  | true =>
    have HB2 : Hid (D = ⟨t.d.depth + 1, t.d.hid⟩) := by unfold Hid; rw [HB.out]; simp
    clear HB hs2
    go_enter Tryz.func171, Tryz.ntmps171
    go_wp2
    go_end0
    rw [HB2.out]
    exact ⟨rfl, hs⟩
  | false =>
    by_cases hz : t.d.hid = 0
    · have HB2 : Hid (D = ⟨t.d.depth + 1, t.d.depth + 1⟩) := by unfold Hid; rw [HB.out]; simp [hz]
      have HZ : Hid (t.d.hid = 0) := hz
      have hq : (t.d.hid == 0) = true := by simp [hz]
      clear HB hz
      go_enter Tryz.func171, Tryz.ntmps171
      go_wp2
      go_end0
      rw [HB2.out]
      exact ⟨rfl, hs2.1, hs.2.trans hs2.2⟩
    · have HB2 : Hid (D = ⟨t.d.depth + 1, t.d.hid⟩) := by unfold Hid; rw [HB.out]; simp [hz]
      have hq : (t.d.hid == 0) = false := by simp [hz]
      clear HB hs2 hz
      go_enter Tryz.func171, Tryz.ntmps171
      go_wp2
      go_end0
      rw [HB2.out]
      exact ⟨rfl, hs⟩

set_option maxHeartbeats 4000000 in
set_option maxRecDepth 100000 in
theorem end_p (W : World) (B T : Nat) (vs : List PrZ) (t : TS) (vv mp ad bv : Value) (h : Tz W B T vs t vv mp ad bv) (hd : -1099511627776 ≤ t.d.depth) (hd2 : t.d.depth ≤ 1099511627776) : Calls Tryz.prog 154 #[.pointer (some ⟨T, 0, none⟩)] W fun x w' => x = .returned (.tuple #[]) ∧ Tz w' B T vs { t with d := endD t.d } vv mp ad bv ∧ Rnd (txS T mp bv) (txS T mp bv) W w' := by
  have f5 := h.lies.cell (i := 5) rfl
  have f6 := h.lies.cell (i := 6) rfl
  have hw0 : IntKind.i64.wrap (t.d.depth - 1) = t.d.depth - 1 := wrap_mid _ (by omega) (by omega)
  have HT : Hid (Tz W B T vs t vv mp ad bv) := h
  have HB : Hid (endD t.d = ⟨t.d.depth - 1, if t.d.hid = t.d.depth then 0 else t.d.hid⟩) := rfl
  generalize endD t.d = D at *
  clear h
  by_cases hz : t.d.hid = t.d.depth
  · have HB2 : Hid (D = ⟨t.d.depth - 1, 0⟩) := by unfold Hid; rw [HB.out]; simp [hz]
    have hq : (t.d.hid == t.d.depth) = true := by simp [hz]
    clear HB hz
    go_enter Tryz.func154, Tryz.ntmps154
    go_wp2
    go_quiet (fail)
    generalize hW1 : W.drewN _ = W1
    have h1 : Tz W1 B T vs t vv mp ad bv := by rw [← hW1]; exact HT.out.drew _
    have hr1 : Rnd (txS T mp bv) (txS T mp bv) W W1 := by rw [← hW1]; exact Rnd.drew _ W _
    have hs := h1.set (t2 := { t with d := ⟨t.d.depth, 0⟩ }) (ad2 := ad) 6 (.int .i64 0) rfl rfl (.inl rfl)
    have k5 := hs.1.lies.cell (i := 5) rfl
    have kr5 := hs.1.lies.frozen 5
    have z6 := h1.lies.cell (i := 6) rfl
    have zr6 := h1.lies.frozen 6
    have hs2 := hs.1.set (t2 := { t with d := ⟨t.d.depth - 1, 0⟩ }) (ad2 := ad) 5 (.int .i64 (t.d.depth - 1)) rfl rfl (.inl rfl)
    clear hW1 h1 f5 f6
    go_wp2
    go_end0
    rw [HB2.out]
    exact ⟨rfl, hs2.1, (hr1.trans hs.2).trans hs2.2⟩
  · have HB2 : Hid (D = ⟨t.d.depth - 1, t.d.hid⟩) := by unfold Hid; rw [HB.out]; simp [hz]
    have hq : (t.d.hid == t.d.depth) = false := by simp [hz]
    clear HB hz
    go_enter Tryz.func154, Tryz.ntmps154
    go_wp2
    go_quiet (fail)
    generalize hW1 : W.drewN _ = W1
    have h1 : Tz W1 B T vs t vv mp ad bv := by rw [← hW1]; exact HT.out.drew _
    have hr1 : Rnd (txS T mp bv) (txS T mp bv) W W1 := by rw [← hW1]; exact Rnd.drew _ W _
    have hs := h1.set (t2 := { t with d := ⟨t.d.depth - 1, t.d.hid⟩ }) (ad2 := ad) 5 (.int .i64 (t.d.depth - 1)) rfl rfl (.inl rfl)
    have z5 := h1.lies.cell (i := 5) rfl
    have zr5 := h1.lies.frozen 5
    clear hW1 h1 f5 f6
    go_wp2
    go_end0
    rw [HB2.out]
    exact ⟨rfl, hs.1, hr1.trans hs.2⟩

set_option maxHeartbeats 4000000 in
set_option maxRecDepth 100000 in
theorem whole_p (W : World) (B T : Nat) (vs : List PrZ) (t : TS) (vv mp ad bv : Value) (h : Tz W B T vs t vv mp ad bv) (hB : B ≤ W.heap.size) : Calls Tryz.prog 100 #[.pointer (some ⟨T, 0, none⟩)] W fun x w' => x = .returned (.tuple #[.string (if t.long = true then ⟨#[]⟩ else bs t.o), erV (if t.long = true then 5 else 0)]) ∧ Below B W w' := by
  have f4 := h.lies.cell (i := 4) rfl
  have hS := str_b W B T vs t vv mp ad bv h hB
  clear h
  generalize bs t.o = SO at *
  cases hl : t.long with
  | true =>
    rw [hl] at f4
    clear hl
    go_enter Tryz.func100, Tryz.ntmps100
    go_wp2
    go_ret2
    exact ⟨rfl, Below.refl _ _⟩
  | false =>
    rw [hl] at f4
    clear hl
    go_enter Tryz.func100, Tryz.ntmps100
    go_wp2_with (go_at_call 103; refine hS.mono ?_; rintro x w2 ⟨rfl, hb⟩)
    go_ret2
    exact ⟨rfl, hb⟩
end Go.Proofs.YtbmakfdljddhcaaGreatDoor
