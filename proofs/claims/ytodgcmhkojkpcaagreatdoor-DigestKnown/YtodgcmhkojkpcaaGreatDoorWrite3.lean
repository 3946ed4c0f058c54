/- Package digest's Write. -/
import Derived.Test.YtodgcmhkojkpcaaGreatDoorHash3
namespace Go.Proofs.YtodgcmhkojkpcaaGreatDoor
open Go Go.RowKit

theorem HashIs.lt {w : World} {b : Nat} {wd : Int} {t : List UInt8} (h : HashIs w b wd t) : b < w.heap.size := by obtain ⟨_, _, _, h3⟩ := h; exact h3.lt
theorem HashIs.turned {w w' : World} {b c : Nat} {wd : Int} {t : List UInt8} (h : HashIs w b wd t) (k : Turned c w w') (hne : b ≠ c) : HashIs w' b wd t := by
  obtain ⟨bl, h1, h2, h3⟩ := h; exact ⟨bl, h1, h2, h3.turned k hne⟩
theorem HashIs.below {w w' : World} {b : Nat} {wd : Int} {t : List UInt8} (h : HashIs w b wd t) (k : Below w.heap.size w w') : HashIs w' b wd t := by
  obtain ⟨bl, h1, h2, h3⟩ := h; exact ⟨bl, h1, h2, h3.below k⟩
/-- The block is full. -/
theorem put_full (t xs bl : List UInt8) (hbl : bl.length = 64) (hp : bl.take (t.length % 64) = t.drop (64 * (t.length / 64))) (hx : t.length % 64 + xs.length = 64) :
    ((t ++ xs).drop (64 * (t.length / 64))).take 64 = putB bl (t.length % 64) xs := by
  have h1 : 64 * (t.length / 64) ≤ t.length := Nat.mul_div_le _ _
  unfold putB
  rw [List.drop_append_of_le_length h1, ← hp, show t.length % 64 + xs.length = 64 from hx, List.drop_of_length_le (by omega), List.append_nil, List.take_of_length_le (by rw [List.length_append, List.length_take]; omega)]
theorem sum_full (t xs bl : List UInt8) (hbl : bl.length = 64) (hp : bl.take (t.length % 64) = t.drop (64 * (t.length / 64))) (hx : t.length % 64 + xs.length = 64) :
    sumsOf (t ++ xs) ((t ++ xs).length / 64) = compress (sumsOf t (t.length / 64)) (putB bl (t.length % 64) xs) := by
  have h1 : 64 * (t.length / 64) ≤ t.length := Nat.mul_div_le _ _
  have h2 : (t ++ xs).length / 64 = t.length / 64 + 1 := by rw [List.length_append]; omega
  rw [h2, sumsOf, sumsOf_append _ _ _ h1, put_full t xs bl hbl hp hx]
theorem put_part (t xs bl : List UInt8) (hp : bl.take (t.length % 64) = t.drop (64 * (t.length / 64))) (hbl : bl.length = 64) (hx : t.length % 64 + xs.length < 64) :
    (putB bl (t.length % 64) xs).take ((t ++ xs).length % 64) = (t ++ xs).drop (64 * ((t ++ xs).length / 64)) ∧ sumsOf (t ++ xs) ((t ++ xs).length / 64) = sumsOf t (t.length / 64) := by
  have h1 : 64 * (t.length / 64) ≤ t.length := Nat.mul_div_le _ _
  have h2 : (t ++ xs).length / 64 = t.length / 64 := by rw [List.length_append]; omega
  have h3 : (t ++ xs).length % 64 = t.length % 64 + xs.length := by rw [List.length_append]; omega
  rw [h2, h3, sumsOf_append _ _ _ h1, List.drop_append_of_le_length h1, ← hp]
  refine ⟨?_, rfl⟩
  unfold putB
  rw [List.take_append_of_le_length (by rw [List.length_append, List.length_take]; omega), List.take_of_length_le (by rw [List.length_append, List.length_take]; omega)]

set_option maxRecDepth 100000 in
set_option maxHeartbeats 2000000 in
theorem write_p (s : ByteArray) (wd : Int) (t : List UInt8) (b : Nat) (w : World) (hH : HashIs w b wd t) (hk : KTab w) (hb : 1 ≠ b) (hz : t.length + s.size ≤ 1152921504606846976) :
    Calls Tryz.prog 27 #[.pointer (some ⟨b, 0, none⟩), .string s] w fun e w' => e = .returned (.tuple #[]) ∧ HashIs w' b wd (t ++ un s) ∧ Turned b w w' := by
  go_enter Tryz.func27, Tryz.ntmps27
  go_wp2
  go_loopw [1] (fun r wr => ∃ (rb : ByteArray) (t1 : List UInt8), r = .string rb ∧ t ++ un s = t1 ++ un rb ∧ HashIs wr b wd t1 ∧ Turned b w wr) (fun r _ => match r with | .string rb => rb.size | _ => 0)
  case atStart => exact ⟨s, t, rfl, rfl, hH, Turned.refl b w⟩
  case round =>
    obtain ⟨rb, t1, rfl, heq, hHr, hT⟩ := hrel
    cases he : rb.toList.isEmpty with
    | true =>
      have hb0 := (isEmpty_iff rb).1 he
      have e0 : un rb = [] := List.length_eq_zero_iff.1 (by rw [un_length]; exact hb0)
      have HE : Hid (t ++ un s = t1) := by unfold Hid; rw [heq, e0, List.append_nil]
      clear heq e0
      go_wp2
      go_end0
      exact ⟨rfl, by rw [HE.out]; exact hHr, hT⟩
    | false =>
      have hb0 := (isEmpty_false rb).1 he
      obtain ⟨bl, hbl, hpre, hL⟩ := hHr
      have hlen := congrArg List.length heq
      rw [List.length_append, List.length_append, un_length, un_length] at hlen
      obtain ⟨f, hf⟩ : ∃ f, t1.length % 64 = f := ⟨_, rfl⟩
      have hf64 : f < 64 := by omega
      obtain ⟨n, hn⟩ : ∃ n, Nat.min rb.size (64 - f) = n := ⟨_, rfl⟩
      have hn2 : n ≤ rb.size ∧ n ≤ 64 - f ∧ 0 < n := by
        have e : Nat.min rb.size (64 - f) = min rb.size (64 - f) := rfl
        omega
      have hfil := fun (W : World) (hW : Lies W b 84 (hcells wd t1.length (sumsOf t1 (t1.length / 64)) bl)) => filled_p wd t1.length _ bl b W (by omega) hW
      rw [hf] at hfil
      have hfil2 := hfil wr.drew hL
      have hsl := fun W => slice_l b 10 f hf64 W
      have hcp := run_copy_str (P := Tryz.prog) wr.drew 30 9 3 5 b (10 + f) (64 - f) (64 - f) n rb Tryz.underlying30 info_byte hn
        (fun j hj => by rw [show wr.drew.cell? ⟨b, 10 + f + j, none⟩ = wr.cell? ⟨b, 10 + f + j, none⟩ from rfl, Nat.add_assoc, hL.cell (hcells_byte _ _ _ bl (sumsOf_length _ _) (f + j) (by omega))]; rfl)
        (fun j hj => hL.frozen _)
      go_wp2_with fail
      go_region_with (first | (go_at_call 49; refine hfil2.mono ?_; rintro e w1 ⟨rfl, rfl⟩))
      obtain ⟨xs, hxs⟩ : ∃ xs, (un rb).take n = xs := ⟨_, rfl⟩
      have hxl : xs.length = n := by rw [← hxs, List.length_take, un_length]; omega
      have hput : f + xs.length ≤ bl.length := by omega
      have hL2 : Lies (wr.drew.setCells b (10 + f) (Lib.byteCells xs)) b 84 (hcells wd t1.length (sumsOf t1 (t1.length / 64)) (putB bl f xs)) := by
        have h1 : Lies wr.drew b 84 (hcells wd t1.length (sumsOf t1 (t1.length / 64)) bl) := hL
        have h2 := Lies.cells (Lib.byteCells xs) (10 + f) h1 (by rw [Lib.byteCells_length, hcells_size _ _ _ _ (sumsOf_length _ _) hbl]; omega)
        rw [hcells_put _ _ _ _ (sumsOf_length _ _)] at h2
        exact h2
      have hT2 : Turned b w (wr.drew.setCells b (10 + f) (Lib.byteCells xs)) := (hT.trans (Turned.drew b wr 1)).trans (Turned.cells b _ _ _)
      rw [hxs]
      generalize wr.drew.setCells b (10 + f) (Lib.byteCells xs) = W2 at *
      have cl : W2.cell? ⟨b, 1, none⟩ = some (.int .u64 t1.length) := hL2.cell rfl
      have cf := hL2.frozen 1
      have hL3 : Lies (W2.setCell ⟨b, 1, none⟩ (.int .u64 ((t1.length : Int) + n))) b 84 (hcells wd ((t1.length + n : Nat) : Int) (sumsOf t1 (t1.length / 64)) (putB bl f xs)) := by
        have h1 := hL2.set (i := 1) (.int .u64 ((t1.length : Int) + n))
        have e : (hcells wd t1.length (sumsOf t1 (t1.length / 64)) (putB bl f xs)).setIfInBounds 1 (.int .u64 ((t1.length : Int) + n)) = hcells wd ((t1.length + n : Nat) : Int) (sumsOf t1 (t1.length / 64)) (putB bl f xs) := by rw [show ((t1.length + n : Nat) : Int) = (t1.length : Int) + n by omega]; rfl
        rw [e] at h1; exact h1
      have hT3 : Turned b w (W2.setCell ⟨b, 1, none⟩ (.int .u64 ((t1.length : Int) + n))) := hT2.trans (Turned.set b _ _ _)
      have hfil3 := filled_p wd (t1.length + n) _ _ b _ (by omega) hL3
      obtain ⟨rest, hrest⟩ : ∃ rest, rb.extract n rb.size = rest := ⟨_, rfl⟩
      have hrs : rest.size = rb.size - n := by rw [← hrest]; exact size_extract' rb n rb.size (Nat.le_refl _)
      have HEQ : Hid (t ++ un s = (t1 ++ xs) ++ un rest) := by
        unfold Hid
        rw [heq, ← hrest, un_extract, List.take_of_length_le (by rw [un_length]; omega), ← hxs, List.append_assoc, List.take_append_drop]
      have e1 : (0 : Int) ≤ (n : Int) := by omega
      have e2 : (n : Int) ≤ (rb.size : Int) := by omega
      have e3 : (t1.length : Int) + (n : Int) < 18446744073709551616 := by omega
      have HH : Hid (List.take f bl = List.drop (64 * (t1.length / 64)) t1) := by rw [hf] at hpre; exact hpre
      clear hfil2 hcp hfil hsl heq hpre hL hT hL2 hT2 hxs
      by_cases hfull : f + n = 64
      · have h0 : (t1.length + n) % 64 = 0 := by omega
        rw [h0] at hfil3
        have hpl : (putB bl f xs).length = 64 := by rw [putB_length bl f xs hput, hbl]
        have hH2 : ∀ W : World, Lies W b 84 (hcells wd ((t1.length + n : Nat) : Int) (compress (sumsOf t1 (t1.length / 64)) (putB bl f xs)) (putB bl f xs)) → HashIs W b wd (t1 ++ xs) := by
          intro W h
          have hal : (t1 ++ xs).length = t1.length + n := by rw [List.length_append, hxl]
          refine ⟨putB bl f xs, hpl, ?_, ?_⟩
          · rw [hal, h0, List.take_zero, List.drop_of_length_le (by rw [hal]; omega)]
          · have hs := sum_full t1 xs bl hbl (by rw [hf]; exact HH.out) (by rw [hf, hxl]; exact hfull)
            rw [hf] at hs
            rw [hs, hal]; exact h
        go_wp2_with fail
        refine hfil3.mono ?_
        rintro e w4 ⟨rfl, rfl⟩
        go_wp2_with fail
        refine (take_p wd _ _ (sumsOf_length _ _) _ hpl b _ hL3 (hk.turned hT3 hb)).mono ?_
        rintro e w5 ⟨rfl, hL5, hT5⟩
        have hH5 := hH2 _ hL5
        have hT6 := hT3.trans hT5
        clear hH2 hL5 hT5 hL3 hT3 hfil3
        go_wp2
        exact ⟨⟨rest, t1 ++ xs, rfl, HEQ.out, hH5, hT6⟩, by show rest.size < rb.size; omega⟩
      · have h0 : (t1.length + n) % 64 = f + n := by omega
        rw [h0] at hfil3
        have hpl : (putB bl f xs).length = 64 := by rw [putB_length bl f xs hput, hbl]
        have hH2 : HashIs (W2.setCell ⟨b, 1, none⟩ (.int .u64 ((t1.length : Int) + n))) b wd (t1 ++ xs) := by
          have hal : (t1 ++ xs).length = t1.length + n := by rw [List.length_append, hxl]
          have hs := put_part t1 xs bl (by rw [hf]; exact HH.out) hbl (by rw [hf, hxl]; omega)
          rw [hf] at hs
          refine ⟨putB bl f xs, hpl, hs.1, ?_⟩
          rw [hs.2, hal]; exact hL3
        have e5 : (((f + n : Nat) : Int) == 0) = false := beq_false_of_ne (by omega)
        have hlt : rest.size < rb.size := by omega
        obtain ⟨q, hq⟩ : ∃ q, f + n = q := ⟨_, rfl⟩
        rw [hq] at hfil3 e5
        clear hL3 h0 hq hf hn hfull hput hpl hlen HH
        go_wp2_with fail
        refine hfil3.mono ?_
        rintro e w4 ⟨rfl, rfl⟩
        go_wp2
        exact ⟨⟨rest, t1 ++ xs, rfl, HEQ.out, hH2, hT3⟩, hlt⟩
end Go.Proofs.YtodgcmhkojkpcaaGreatDoor
