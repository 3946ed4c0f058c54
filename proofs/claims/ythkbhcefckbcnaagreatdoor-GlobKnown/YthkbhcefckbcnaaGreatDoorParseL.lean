/- Package glob's Parse, the error's line told. -/
import Derived.Test.YthkbhcefckbcnaaGreatDoorLinesM
import Derived.Test.YthkbhcefckbcnaaGreatDoorAsE
import Derived.Test.YthkbhcefckbcnaaGreatDoorPlain
namespace Go.Proofs.YthkbhcefckbcnaaGreatDoor
open Go Go.RowKit Go.Shelf

/-- What lines make of a list, the first of them being number k: the list behind them, or the error's number and its line. -/
def addLinesE : List Rule → List (List UInt8) → Nat → Except (Int × Nat) (List Rule)
  | rs, [], _ => .ok rs
  | rs, x :: xs, k => match addLine rs (bs x) with | .error n => .error (n, k) | .ok rs2 => addLinesE rs2 xs (k + 1)
theorem addLinesE_cons (rs : List Rule) (x : List UInt8) (xs : List (List UInt8)) (k : Nat) : addLinesE rs (x :: xs) k = match addLine rs (bs x) with | .error n => .error (n, k) | .ok rs2 => addLinesE rs2 xs (k + 1) := rfl
def parseE (s : ByteArray) : Except (Int × Nat) (List Rule) := addLinesE [] (linesL (un s)) 1
def ParsePost (s : ByteArray) (w : World) (e : Ending) (w' : World) : Prop :=
  (match parseE s with
  | .ok rs => e = .returned (.tuple #[.pointer (some ⟨w.heap.size, 0, none⟩), .nilIface]) ∧ ListIn w' w.heap.size rs
  | .error (n, k) => e = .returned (.tuple #[.pointer none, .iface 61 (.agg #[.int .i64 n, .int .i64 k, .int .i64 0])])) ∧ Below w.heap.size w w'

theorem below_drawn {B : Nat} {a w : World} (h : Below B a w) (n : Nat) : Below B a (w.drewN n) := h.trans ⟨rfl, rfl, rfl, Nat.le_refl _, fun _ _ => rfl⟩
theorem as_hit2 (n : Int) (N : Nat) (w : World) (hg : ErrType w) (hb : Boxed w N 56 (.int .i64 0)) :
    Calls Tryz.prog 26 #[.iface 56 (.int .i64 n), .iface 59 (.pointer (some ⟨N, 0, none⟩))] w fun e w' => e = .returned (.bool true) ∧ Boxed w' N 56 (.int .i64 n) ∧ Below N w w' := by
  have hlt := hb.lt
  refine (as_hit n ⟨N, 0, none⟩ _ w hg hb.cell hb.frozen).mono ?_
  rintro e w' ⟨rfl, rfl⟩
  refine ⟨rfl, ?_, ?_⟩
  · unfold asW; exact Boxed.set _ ((((hb.alloc _).alloc _).alloc _).alloc _)
  · unfold asW
    exact Below.setCell (p := ⟨N, 0, none⟩) (((((Below.refl N w).alloc (by omega) _).alloc (by simp; omega) _).alloc (by simp; omega) _).alloc (by simp; omega) _) (Nat.le_refl _) _

set_option maxRecDepth 100000 in
set_option maxHeartbeats 8000000 in
theorem parse_l (s : ByteArray) (w : World) (hg : ErrType w) (hs : s.size ≤ 1099511627776) : Calls Tryz.prog 7 #[.string s] w (ParsePost s w) := by
  go_enter Tryz.func7, Tryz.ntmps7
  go_wp2
  go_loopw [5, 6, 7] (fun a b c wr => ∃ (rs : List Rule) (t : ByteArray) (m : Bool) (k : Nat), a = .string t ∧ b = .bool m ∧ c = .int .i64 k ∧ 1 ≤ k ∧ k + t.size ≤ s.size + 1 + (if m then 0 else 1) ∧ rs.length ≤ 256 ∧ ListIn wr w.heap.size rs ∧ Below w.heap.size w wr ∧ parseE s = if m then addLinesE rs (linesL (un t)) k else .ok rs) (fun _ b c _ => match b with | .bool true => 2 * s.size + 4 - (intOf c).toNat | _ => 0)
  case atStart =>
    refine ⟨[], s, true, 1, rfl, rfl, rfl, Nat.le_refl _, by simp; omega, by simp, ⟨_, [], Boxed.new w _ _, rfl, World.ownsRow_nil _ _ _ _⟩, (Below.refl _ w).alloc (Nat.le_refl _) _, rfl⟩
  case round =>
    obtain ⟨rs, t, m, k, rfl, rfl, rfl, hk1, hk, hr, hl, hB, hp⟩ := hrel
    cases m
    · have HP : Hid (parseE s = .ok rs) := hp
      clear hp
      go_wp2
      go_ret2
      unfold ParsePost
      rw [HP.out]
      exact ⟨⟨rfl, hl⟩, hB⟩
    · have hk2 : k + t.size ≤ s.size + 1 := by simpa using hk
      have hzt : t.size ≤ 1099511627776 := by omega
      clear hk
      have hlw : w.heap.size < wr.heap.size := by obtain ⟨_, _, h, _⟩ := hl; exact h.lt
      rcases Int.lt_or_le (ixn t) 0 with hm | hm
      · have hx : ixn t = -1 := by have := ixn_range t; omega
        rw [if_pos rfl, lines_miss t hx, addLinesE_cons, bs_un] at hp
        have HL : Hid (ListIn (wr.alloc (.cells #[.int .i64 0] 56)) w.heap.size rs) := hl.below ((Below.refl _ wr).alloc (Nat.le_refl _) _)
        cases ha : addLine rs t with
        | ok rs2 =>
          have HP : Hid (parseE s = .ok rs2) := by unfold Hid; rw [hp, ha]; rfl
          have hr2 := addLine_le ha hr
          have hrd := read_p t w.heap.size rs _ HL.out hzt hr
          unfold ReadLine at hrd
          rw [ha] at hrd
          clear hp ha hm
          go_wp2_with (first
            | (go_at_call 25; refine (cutn_miss t _ hx).mono ?_; rintro e w1 ⟨rfl, rfl⟩)
            | (go_at_call 27; refine hrd.mono ?_; rintro e w2 ⟨rfl, hl2, hB2⟩)
            | (go_at_call 26; refine (as_nil _ _).mono ?_; rintro e w3 ⟨rfl, rfl⟩))
          exact ⟨⟨rs2, ⟨#[]⟩, false, k + 1, rfl, rfl, by go_num, by omega, by rw [show (⟨#[]⟩ : ByteArray).size = 0 from rfl, if_neg (by simp)]; omega, hr2, hl2, (hB.alloc hB.size _).trans hB2, by rw [if_neg (by simp)]; exact HP.out⟩, by simp [intOf]; omega⟩
        | error n =>
          have HP : Hid (parseE s = .error (n, k)) := by unfold Hid; rw [hp, ha]
          have hrd := read_p t w.heap.size rs _ HL.out hzt hr
          unfold ReadLine at hrd
          rw [ha] at hrd
          clear hp ha hm
          have hnb := Boxed.new wr 56 (.int .i64 0)
          have hBa : Below w.heap.size w (wr.alloc (.cells #[.int .i64 0] 56)) := hB.alloc hB.size _
          go_wp2_with (first
            | (go_at_call 25; refine (cutn_miss t _ hx).mono ?_; rintro e w1 ⟨rfl, rfl⟩)
            | (go_at_call 27; refine hrd.mono ?_; rintro e w2 ⟨rfl, hB2⟩; have hb2 := boxed_below hnb hB2; have hBb := hBa.trans (hB2.mono hBa.size))
            | (go_at_call 26; refine (as_hit2 n _ _ (hg.below hBb) hb2).mono ?_; rintro e w3 ⟨rfl, hb3, hB3⟩; have hc3 := hb3.cell))
          go_quiet (fail)
          go_wp2
          go_ret2
          unfold ParsePost
          rw [HP.out]
          exact ⟨rfl, below_drawn (hBb.trans (hB3.mono hB.size)) _⟩
      · obtain ⟨i, hx⟩ : ∃ i : Nat, ixn t = i := ⟨(ixn t).toNat, by omega⟩
        have hir := ixn_range t
        rw [hx] at hir
        have z1 : (t.extract 0 i).size = i := by rw [size_extract' t 0 i (by omega)]; omega
        have z2 : (t.extract (i + 1) t.size).size = t.size - (i + 1) := size_extract' t (i + 1) t.size (Nat.le_refl _)
        rw [if_pos rfl, lines_hit t i hx, addLinesE_cons, bs_un] at hp
        have hct := fun W => cutn_hit t i W hx (by omega)
        generalize t.extract 0 i = t1 at *
        generalize t.extract (i + 1) t.size = t2 at *
        have HL : Hid (∀ n, ListIn ((wr.drewN n).alloc (.cells #[.int .i64 0] 56)) w.heap.size rs) := fun n => hl.below ((below_drawn (Below.refl _ wr) n).alloc (Nat.le_refl _) _)
        cases ha : addLine rs t1 with
        | ok rs2 =>
          have HP : Hid (parseE s = addLinesE rs2 (linesL (un t2)) (k + 1)) := by unfold Hid; rw [hp, ha]
          have hr2 := addLine_le ha hr
          have hrd := fun n => read_p t1 w.heap.size rs _ (HL.out n) (by omega) hr
          unfold ReadLine at hrd
          rw [ha] at hrd
          clear hp ha hm hx
          go_wp2_with (first
            | (go_at_call 25; refine (hct _).mono ?_; rintro e w1 ⟨rfl, nn, rfl⟩)
            | (go_at_call 27; refine (hrd nn).mono ?_; rintro e w2 ⟨rfl, hl2, hB2⟩)
            | (go_at_call 26; refine (as_nil _ _).mono ?_; rintro e w3 ⟨rfl, rfl⟩))
          exact ⟨⟨rs2, t2, true, k + 1, rfl, rfl, by go_num, by omega, by rw [if_pos rfl]; omega, hr2, hl2, ((below_drawn hB nn).alloc hB.size _).trans hB2, by rw [if_pos rfl]; exact HP.out⟩, by simp [intOf]; omega⟩
        | error n =>
          have HP : Hid (parseE s = .error (n, k)) := by unfold Hid; rw [hp, ha]
          have hrd := fun n => read_p t1 w.heap.size rs _ (HL.out n) (by omega) hr
          unfold ReadLine at hrd
          rw [ha] at hrd
          clear hp ha hm hx
          have hnb := fun m => Boxed.new (wr.drewN m) 56 (.int .i64 0)
          have hBa := fun m => (below_drawn hB m).alloc hB.size (.cells #[.int .i64 0] 56)
          go_wp2_with (first
            | (go_at_call 25; refine (hct _).mono ?_; rintro e w1 ⟨rfl, nn, rfl⟩)
            | (go_at_call 27; refine (hrd nn).mono ?_; rintro e w2 ⟨rfl, hB2⟩; have hb2 := boxed_below (hnb nn) hB2; have hBb := (hBa nn).trans (hB2.mono (hBa nn).size))
            | (go_at_call 26; refine (as_hit2 n _ _ (hg.below hBb) hb2).mono ?_; rintro e w3 ⟨rfl, hb3, hB3⟩; have hc3 : w3.cell? ⟨wr.heap.size, 0, none⟩ = some (.int .i64 n) := hb3.cell))
          go_quiet (fail)
          go_wp2
          go_ret2
          unfold ParsePost
          rw [HP.out]
          exact ⟨rfl, below_drawn (hBb.trans (hB3.mono hB.size)) _⟩
end Go.Proofs.YthkbhcefckbcnaaGreatDoor
