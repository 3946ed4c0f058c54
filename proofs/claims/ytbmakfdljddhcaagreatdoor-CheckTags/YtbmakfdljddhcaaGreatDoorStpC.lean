/- Package check's looks at a step, where nothing is wrong: readable, word, and what the statement's own right file asks. -/
import Derived.Test.YtbmakfdljddhcaaGreatDoorPanC
import Derived.Test.YtbmakfdljddhcaaGreatDoorWrdW
import Derived.Deep.RegionHeld
import Derived.Deep.Cut
import Derived.RegionTactic
namespace Go.Proofs.YtbmakfdljddhcaaGreatDoor
open Go Go.RowKit

theorem asc_of (s : ByteArray) (h : (decide (s.size ≤ 8) && (un s).all fun b => decide (b.toNat < 128)) = true) : Asc s := by
  rw [Bool.and_eq_true, List.all_eq_true] at h
  refine ⟨of_decide_eq_true h.1, fun i hi => ?_⟩
  have := h.2 s[i] (List.mem_of_getElem? (un_getElem? s i hi))
  exact of_decide_eq_true this
theorem texts_one (w : World) (x : ByteArray) (t : TypeId) (c : Nat) : TextsAt (w.alloc (.cells #[.string x] t)) (.slice (some ⟨w.heap.size, 0, none⟩) 1 c) [x] := by
  refine ⟨_, c, rfl, (fun e => nomatch e), fun i y hy => ⟨w.heap.size, 0, rfl, ?_⟩⟩
  rcases i with _ | i
  · simp at hy; subst hy; simp
  · simp at hy
theorem texts_two (w : World) (x y : ByteArray) (t : TypeId) (c : Nat) : TextsAt (w.alloc (.cells #[.string x, .string y] t)) (.slice (some ⟨w.heap.size, 0, none⟩) 2 c) [x, y] := by
  refine ⟨_, c, rfl, (fun e => nomatch e), fun i z hz => ⟨w.heap.size, 0, rfl, ?_⟩⟩
  rcases i with _ | _ | i
  · simp at hz; subst hz; simp
  · simp at hz; subst hz; simp
  · simp at hz
theorem below_drew {b : Nat} {a w : World} (h : Below b a w) : Below b a w.drew := h.trans ⟨rfl, rfl, rfl, Nat.le_refl _, fun _ _ => rfl⟩
/-- The receiver in its box, and what lay ahead of the call. -/
theorem plc_new (w : World) (ln es : Int) : Lies (w.alloc (.cells #[.int .i64 ln, .int .u8 es] 94)) w.heap.size 94 #[.int .i64 ln, .int .u8 es] := Lies.new w _ _
theorem plc_below (w : World) (o : Obj) : Below w.heap.size w (w.alloc o) := (Below.refl _ w).alloc (Nat.le_refl _) _
set_option maxHeartbeats 2000000 in
theorem readable_p (ln es : Int) (v : Value) (l : List ByteArray) (w : World) (hT : TextsAt w v l) (hl : l.length ≤ 100) (ha : ∀ x ∈ l, Asc x) : Calls Tryz.prog 60 #[plcV ln es, v] w fun e w' => e = .returned (.tuple #[]) ∧ Below w.heap.size w w' := by
  have HT : Hid (TextsAt w v l) := hT
  obtain ⟨a, c, rfl, hc0, hc⟩ := hT
  have HC : Hid (∀ i x, l[i]? = some x → ∃ b o, a = some ⟨b, o, none⟩ ∧ w.cell? ⟨b, o + i, none⟩ = some (.string x)) := hc
  have HA : Hid (∀ x ∈ l, Asc x) := ha
  have hrf := fun W => refuseIf_f ln es 6 W
  clear hc ha hc0
  unfold plcV at *
  have L0 := plc_new w ln es
  have B0 := plc_below w (.cells #[.int .i64 ln, .int .u8 es] 94)
  go_enter Tryz.func60, Tryz.ntmps60
  go_wp2
  generalize w.alloc (.cells #[.int .i64 ln, .int .u8 es] 94) = w0 at *
  go_loopw [8] (fun i wr => ∃ k : Nat, k ≤ l.length ∧ i = .int .i64 k ∧ Lies wr w.heap.size 94 #[.int .i64 ln, .int .u8 es] ∧ Below w.heap.size w wr) (fun i _ => l.length - (intOf i).toNat)
  case atStart => exact ⟨0, Nat.zero_le _, rfl, L0, B0⟩
  case round =>
    obtain ⟨k, hk, rfl, L, B⟩ := hrel
    clear L0 B0
    have k0 : (0 : Int) ≤ (k : Int) := by omega
    by_cases hlt : k < l.length
    · have kk : (k : Int) < (l.length : Int) := by omega
      have HKL : Hid (k + 1 ≤ l.length) := hlt
      have hx : l[k]? = some l[k] := List.getElem?_eq_getElem hlt
      obtain ⟨b, o, rfl, hcell⟩ := HC.out k _ hx
      have hasc := HA.out _ (List.mem_of_getElem? hx)
      generalize l[k] = x at *
      have hcW : wr.cell? ⟨b, o + k, none⟩ = some (.string x) := (B.cell (p := ⟨b, o + k, none⟩) (World.block_lt_of_cell? w _ hcell)).trans hcell
      have hva := fun W => valid_a x W hasc
      have c0 := L.cell (i := 0) rfl
      have c1 := L.cell (i := 1) rfl
      have hbz := B.size
      clear hx hcell hasc
      go_upto_region 4 with fail
      replace L : Lies wr.drew w.heap.size 94 #[.int .i64 ln, .int .u8 es] := L
      replace B := below_drew B
      go_region_held (fun W => W.cell? ⟨w.heap.size, 0, none⟩ = some (.int .i64 ln) ∧ W.cell? ⟨w.heap.size, 1, none⟩ = some (.int .u8 es)) (go_keep) (first | (go_at_call 81; with_reducible refine (hva _).mono ?_; rintro e wn ⟨rfl, bn⟩; have Ln := L.below bn; have Bn := B.trans (bn.mono B.size); clear L B c0 c1; have L := Ln; have B := Bn; have c0 := L.cell (i := 0) rfl; have c1 := L.cell (i := 1) rfl; clear Ln Bn bn) | (go_at_call 42; with_reducible refine (hrf _).mono ?_; rintro e wn ⟨rfl, bn⟩; have Ln := L.below bn; have Bn := B.trans (bn.mono B.size); clear L B c0 c1; have L := Ln; have B := Bn; have c0 := L.cell (i := 0) rfl; have c1 := L.cell (i := 1) rfl; clear Ln Bn bn))
      clear c0 c1
      go_wp2
      first
        | exact ⟨⟨k + 1, HKL.out, by go_num, L, B⟩, by have := HKL.out; simp [intOf]; omega⟩
        | (go_roundw
           case rel => exact ⟨k + 1, HKL.out, by go_num, L, B⟩
           case measure => have := HKL.out; simp [intOf]; omega)
    · obtain rfl : k = l.length := by omega
      have kk : ¬ (l.length : Int) < (l.length : Int) := by omega
      go_wp2
      go_end0
      exact ⟨rfl, B⟩
theorem word_ok (ln : Int) (raw : ByteArray) (w : World) (hs : raw.size ≤ 1048576) (hk : (wordL 92 [] (un raw)).1 = 0) : Calls Tryz.prog 61 #[plcV ln 92, .string raw] w fun e w' => e = .returned (.tuple #[]) ∧ Below w.heap.size w w' := by
  have hw : ∀ W, Calls Tryz.prog 82 #[.string raw, .int .u8 92, .slice none 0 0] W fun x w' => x = .returned (.tuple #[.string (bs (wordL 92 [] (un raw)).2), .nilIface]) ∧ Below W.heap.size W w' := fun W => by
    have h := word_p raw 92 [] (.slice none 0 0) W ⟨none, 0, 0, 0, rfl, fun h => absurd rfl h, Nat.le_refl _, fun i e h => by simp at h⟩ ⟨⟨by simp, fun x hx => by cases hx⟩, fun x hx => by cases hx⟩ (by omega)
    rw [show prL [] = [] from rfl] at h
    rw [hk] at h
    exact h
  have hn := fun W => refuseAs_nil ln 92 W
  unfold plcV at *
  clear hk
  generalize (wordL 92 [] (un raw)).2 = r at *
  have L := plc_new w ln 92
  have B := plc_below w (.cells #[.int .i64 ln, .int .u8 92] 94)
  have c0 := L.cell (i := 0) rfl
  have c1 := L.cell (i := 1) rfl
  go_enter Tryz.func61, Tryz.ntmps61
  go_wp2_with (first | (go_at_call 82; with_reducible refine (hw _).mono ?_; rintro e wn ⟨rfl, bn⟩; have Ln := L.below bn; have Bn := B.trans (bn.mono B.size); clear L B c0 c1; have L := Ln; have B := Bn; have c0 := L.cell (i := 0) rfl; have c1 := L.cell (i := 1) rfl; clear Ln Bn bn) | (go_at_call 83; with_reducible refine (hn _).mono ?_; rintro e wn ⟨rfl, bn⟩; have Ln := L.below bn; have Bn := B.trans (bn.mono B.size); clear L B c0 c1; have L := Ln; have B := Bn; have c0 := L.cell (i := 0) rfl; have c1 := L.cell (i := 1) rfl; clear Ln Bn bn))
  go_end0
  exact ⟨rfl, B⟩
end Go.Proofs.YtbmakfdljddhcaaGreatDoor
