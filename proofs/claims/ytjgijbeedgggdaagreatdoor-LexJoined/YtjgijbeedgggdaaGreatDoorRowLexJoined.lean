/- LexJoined, for every text and every number: a line is its own text, and so is the same line in two: from its walk to its row and its card. -/
import Derived.Test.YtjgijbeedgggdaaGreatDoorCkW
import Derived.Test.YtjgijbeedgggdaaGreatDoorDrsW
import Derived.Test.YtjgijbeedgggdaaGreatDoorAllW
import Derived.Test.YtjgijbeedgggdaaGreatDoorPlaceF
import Derived.Test.YtjgijbeedgggdaaGreatDoorLexM
import Derived.Test.YtjgijbeedgggdaaGreatDoorByM
import Derived.Test.YtjgijbeedgggdaaGreatDoorLexL
import Derived.Test.YtjgijbeedgggdaaGreatDoorRdW
import Derived.Deep.RegionHeld3
import Derived.Test.YtjgijbeedgggdaaGreatDoorRows
import Derived.Test.YtjgijbeedgggdaaGreatDoorPlain
import Derived.Test.YtjgijbeedgggdaaGreatDoorCwW
import Derived.LaidHandle
import Derived.LaidLaws
import Derived.Stop.Joined
import Derived.Lib.LaidTab
import Derived.Lib.LaidU8T
import Derived.Lib.LaidCase
import Derived.SliceStrings
import Derived.Laws.Tables
import Derived.Test.YtjgijbeedgggdaaGreatDoorShelf
import Derived.Lib.LaidCaseMet
import Derived.Lib.LaidIn
import Derived.Test.YtjgijbeedgggdaaGreatDoorCards
import Derived.Test.YtjgijbeedgggdaaGreatDoorTie
import Derived.ProofKit
import Derived.OpenShut
import Derived.SizedLaws
import Derived.Deep.DeepHandedRow
import Derived.SevenTiedAt
import Derived.Deep.DeepWitnessRowRef

namespace Go.Proofs.YtjgijbeedgggdaaGreatDoor
open Go Go.RowKit

def addE (ec : UInt8) : Except Flt (List LL) → Except Flt (UInt8 × List LL)
  | .error x => .error x
  | .ok ls => .ok (ec, ls)
theorem lexL_ck (s : Ln) : lexL s = (match ckL s with
    | some x => .error x
    | none => match dirsL (cutL s) with
        | .error x => .error x
        | .ok (i, e) => match linesG e (cutL s) ((cutL s).length + 1) i with
          | .error x => .error x
          | .ok ls => .ok (e, ls)) := by
  unfold lexL ckL
  by_cases h1 : 65536 < s.length
  · rw [if_pos h1, if_pos h1]
  · rw [if_neg h1, if_neg h1]
    cases wrongU s.length s 1 1 with
    | some p => rfl
    | none =>
      simp only
      by_cases h2 : 4096 < (cutL s).length
      · rw [if_pos h2, if_pos h2]
      · rw [if_neg h2, if_neg h2]
        rfl
theorem ck_none {s : Ln} (h : ckL s = none) : s.length ≤ 65536 ∧ (cutL s).length ≤ 4096 := by
  unfold ckL at h
  by_cases h1 : 65536 < s.length
  · rw [if_pos h1] at h; cases h
  · rw [if_neg h1] at h
    cases hw : wrongU s.length s 1 1 with
    | some p => rw [hw] at h; cases h
    | none =>
      rw [hw] at h
      simp only at h
      by_cases h2 : 4096 < (cutL s).length
      · rw [if_pos h2] at h; cases h
      · omega
theorem dirs_facts (f : List Ln) (k : Nat) (ec : UInt8) (h : dirsL f = .ok (k, ec)) : (ec = 92 ∨ ec = 96) ∧ k ≤ f.length := by
  unfold dirsL at h
  cases f with
  | nil => cases h; exact ⟨.inl rfl, by simp⟩
  | cons x r =>
    simp only at h
    cases hd : dirAt x with
    | none => rw [hd] at h; cases h; exact ⟨.inl rfl, by simp⟩
    | some a =>
      rw [hd] at h
      simp only at h
      split at h
      · rename_i hv
        have he : ((trimL (x.drop (a + 1))).headD 92 = 92 ∨ (trimL (x.drop (a + 1))).headD 92 = 96) := by
          rcases hv with e | e <;> rw [e]
          · exact .inl rfl
          · exact .inr rfl
        cases r with
        | nil => cases h; exact ⟨he, by simp⟩
        | cons y r =>
          simp only at h
          split at h
          · cases h
          · cases h; exact ⟨he, by simp⟩
      · cases h
theorem ErrType.belowE {w w' : World} (h : ErrType w) (hb : Below w.heap.size w w') : ErrType w' := cell_belowE hb h
/-- What Lines answers. -/
def LinesP (s : Ln) (w : World) (e : Ending) (w' : World) : Prop := Below w.heap.size w w' ∧ (match lexL s with
  | .error (no, l, a) => e = .returned (.tuple #[.int .u8 0, nilS, fltV no l a])
  | .ok (ec, ls) => ∃ v us, e = .returned (.tuple #[.int .u8 ec.toNat, v, .nilIface]) ∧ LnsAt w' w.heap.size v us ls)
set_option maxRecDepth 100000 in
set_option maxHeartbeats 1000000 in
theorem lines_p (s : ByteArray) (w : World) (hT : Tabs w) (hE : ErrType w) : Calls Tryz.prog 10 #[.string s] w (LinesP (un s) w) := by
  have hck := checkSource_p s w (fun W hW => hT.below hW)
  have HL : Hid (lexL (un s) = _) := lexL_ck (un s)
  cases hc : ckL (un s) with
  | some x =>
    obtain ⟨no, l, a⟩ := x
    rw [hc] at hck
    simp only [ckV] at hck
    have HR : Hid (lexL (un s) = .error (no, l, a)) := by unfold Hid; rw [HL.out, hc]
    clear hc HL
    go_enter Tryz.func10, Tryz.ntmps10
    go_wp2_with (go_at_call 39; refine hck.mono ?_; rintro e w1 ⟨rfl, b1⟩)
    go_ret3
    unfold LinesP
    rw [HR.out]
    exact ⟨b1, rfl⟩
  | none =>
    obtain ⟨h1, h2⟩ := ck_none hc
    rw [un_length] at h1
    rw [hc] at hck
    simp only [ckV] at hck
    have HL2 := HL.out
    rw [hc] at HL2
    replace HL2 : Hid _ := HL2
    clear hc HL
    go_enter Tryz.func10, Tryz.ntmps10
    go_wp2_with fail
    refine hck.mono ?_
    rintro e w1 ⟨rfl, b1⟩
    clear hck
    have LA := Lies.new w1 93 #[.string ⟨#[]⟩, .int .i64 0, .int .i64 0]
    have LA1 : Rd ((w1.alloc (.cells #[.string ⟨#[]⟩, .int .i64 0, .int .i64 0] 93)).setRow w1.heap.size #[.string s, .int .i64 0, .int .i64 0]) w1.heap.size s 0 0 := lies_setRow LA _
    have b2 : Below w1.heap.size w1 ((w1.alloc (.cells #[.string ⟨#[]⟩, .int .i64 0, .int .i64 0] 93)).setRow w1.heap.size #[.string s, .int .i64 0, .int .i64 0]) := below_setRow' ((Below.refl _ w1).alloc (Nat.le_refl _) _) (Nat.le_refl _) _
    have B2 := below_join b1 b2
    have hne : w.heap.size ≤ w1.heap.size := b1.size
    generalize hw2 : (w1.alloc (.cells #[.string ⟨#[]⟩, .int .i64 0, .int .i64 0] 93)).setRow w1.heap.size #[.string s, .int .i64 0, .int .i64 0] = w2 at *
    have hlt2 : w1.heap.size < w2.heap.size := Lies.lt LA1
    have hof : ∀ W, Oth w1.heap.size w2 W → Below w.heap.size w W := fun W hW => B2.trans (hW.below hne (by omega))
    have hDr := directives_p eqf w1.heap.size s w2 LA1 (fun W hW => hT.below (hof W hW)) (by omega)
    go_wp2_with (refine wpList_store_row rfl 93 (.tmp 6) (.tmp 17) rfl w1.heap.size #[.string s, .int .i64 0, .int .i64 0] rfl rfl 93 _ LA rd_size rfl (rd_one _ _ _) ?_; rw [hw2])
    refine hDr.mono ?_
    rintro e w3 ⟨o3, hway⟩
    clear hDr
    cases hd : dirsL (cutL (un s)) with
    | error x =>
      obtain ⟨no, l, a⟩ := x
      rw [hd] at hway
      simp only at hway
      subst hway
      have B3 := hof w3 o3
      have HR : Hid (lexL (un s) = .error (no, l, a)) := by unfold Hid; rw [HL2.out]; simp only [hd]
      clear HL2 hd
      go_wp2
      go_ret3
      unfold LinesP
      rw [HR.out]
      exact ⟨B3, rfl⟩
    | ok x =>
      obtain ⟨k, ec⟩ := x
      obtain ⟨d1, d2⟩ := dirs_facts _ k ec hd
      rw [hd] at hway
      simp only at hway
      obtain ⟨rfl, q, rd3, st3⟩ := hway
      obtain ⟨r, hr⟩ : ∃ r, linesG ec (cutL (un s)) ((cutL (un s)).length + 1) k = r := ⟨_, rfl⟩
      have hAl := all_p eqf w1.heap.size s q k ec w3 (fun W hW => hT.below (hof W (o3.trans hW))) (fun W hW => hE.belowE (hof W (o3.trans hW))) rd3 st3 (by rcases d1 with rfl | rfl <;> rfl) (by omega) (by omega) d2 r hr
      have HL3 : Hid (lexL (un s) = addE ec r) := by unfold Hid; rw [HL2.out]; simp only [hd, hr]; cases r <;> rfl
      clear d1 hd HL2
      go_wp2_with fail
      refine hAl.mono ?_
      rintro e w4 ⟨o4, hway⟩
      clear hAl hr
      have B4 := hof w4 (o3.trans o4)
      cases r with
      | error x =>
        obtain ⟨no, l, a⟩ := x
        simp only at hway
        subst hway
        have HR : Hid (lexL (un s) = .error (no, l, a)) := HL3
        clear HL3
        go_wp2
        go_ret3
        unfold LinesP
        rw [HR.out]
        exact ⟨B4, rfl⟩
      | ok ls =>
        simp only at hway
        obtain ⟨v, us, rfl, hv⟩ := hway
        have hb : w.heap.size ≤ w3.heap.size := by have := o3.size; omega
        have hv2 : LnsAt w4 w.heap.size v us ls := ⟨hv.len, row_lower2 hv.own hb, fun i x p a b => row_lower2 (hv.marks i x p a b) hb, fun i x p a b => row_lower2 (hv.docs i x p a b) hb⟩
        have HR : Hid (lexL (un s) = .ok (ec, ls)) := HL3
        clear HL3 hv
        go_wp2
        go_ret3
        unfold LinesP
        rw [HR.out]
        exact ⟨B4, v, us, rfl, hv2⟩
end Go.Proofs.YtjgijbeedgggdaaGreatDoor

namespace Go.Proofs.YtjgijbeedgggdaaGreatDoor
open Go Go.RowKit

theorem at_nil (l a : Int) (w : World) : Calls Tryz.prog 11 #[.nilIface, .int .i64 0, .int .i64 l, .int .i64 a] w fun e w' => e = .returned (.bool true) ∧ w' = w := by
  go_enter Tryz.func11, Tryz.ntmps11
  go_wp2
  go_ret
  exact ⟨rfl, rfl⟩
theorem num_nil' (w : World) : Calls Tryz.prog 12 #[.nilIface] w fun e w' => e = .returned (.int .i64 0) ∧ w' = w := by
  go_enter Tryz.func12, Tryz.ntmps12
  go_wp2
  go_ret
  exact ⟨rfl, rfl⟩
end Go.Proofs.YtjgijbeedgggdaaGreatDoor

namespace Go.Proofs.YtjgijbeedgggdaaGreatDoor
open Go Go.RowKit

structure LnC (W : World) (b q : Nat) (x : LL) (p : Value × Value) : Prop where
  c0 : W.cell? ⟨b, q, none⟩ = some (.int .i64 x.line)
  c1 : W.cell? ⟨b, q + 1, none⟩ = some (.string (bs x.text))
  c2 : W.cell? ⟨b, q + 2, none⟩ = some p.1
  c3 : W.cell? ⟨b, q + 3, none⟩ = some p.2
theorem LnC.below {W W2 : World} {b q : Nat} {x : LL} {p : Value × Value} (h : LnC W b q x p) (hb : Below W.heap.size W W2) : LnC W2 b q x p :=
  ⟨cell_belowE hb h.c0, cell_belowE hb h.c1, cell_belowE hb h.c2, cell_belowE hb h.c3⟩
/-- A list of lines that is read. -/
def LnsR (W : World) (v : Value) (us : List (Value × Value)) (ls : List LL) : Prop :=
  ∃ (a : Option Addr) (cap b : Nat), v = .slice a ls.length cap ∧ (ls ≠ [] → a = some ⟨b, 0, none⟩) ∧ ls.length ≤ cap ∧ us.length = ls.length ∧ ∀ (i : Nat) x p, ls[i]? = some x → us[i]? = some p → LnC W b (i * 4) x p ∧ MksAt W p.1 (x.marks.map Mk.z) ∧ ∃ a' c', p.2 = .slice a' x.docs.length c'
theorem LnsR.below {W W2 : World} {v : Value} {us : List (Value × Value)} {ls : List LL} (h : LnsR W v us ls) (hb : Below W.heap.size W W2) : LnsR W2 v us ls := by
  obtain ⟨a, cap, b, h1, h2, h3, h4, h5⟩ := h
  exact ⟨a, cap, b, h1, h2, h3, h4, fun i x p hx hp => ⟨(h5 i x p hx hp).1.below hb, (h5 i x p hx hp).2.1.below hb, (h5 i x p hx hp).2.2⟩⟩
theorem lcells_get : ∀ (ls : List LL) (us : List (Value × Value)) (k : Nat) (x : LL) (p : Value × Value), ls[k]? = some x → us[k]? = some p → ∀ j v, (lcell x p)[j]? = some v → (lcells ls us)[k * 4 + j]? = some v
  | [], us, k, x, p, h, _, j, v, hj => by simp at h
  | y :: ls, [], k, x, p, _, h, j, v, hj => by simp at h
  | y :: ls, u :: us, 0, x, p, h, hp, j, v, hj => by
    simp at h hp; subst h; subst hp
    have hl := (List.getElem?_eq_some_iff.1 hj).1
    show (lcell y u ++ lcells ls us)[0 * 4 + j]? = some v
    rw [Nat.zero_mul, Nat.zero_add, List.getElem?_append_left hl]; exact hj
  | y :: ls, u :: us, k + 1, x, p, h, hp, j, v, hj => by
    show (lcell y u ++ lcells ls us)[(k + 1) * 4 + j]? = some v
    rw [List.getElem?_append_right (by show 4 ≤ _; omega), show (k + 1) * 4 + j - (lcell y u).length = k * 4 + j by show _ - 4 = _; omega]
    exact lcells_get ls us k x p (by simpa using h) (by simpa using hp) j v hj
theorem lns_read {W : World} {base : Nat} {v : Value} {us : List (Value × Value)} {ls : List LL} (h : LnsAt W base v us ls) : LnsR W v us ls := by
  have hmd : ∀ (i : Nat) x p, ls[i]? = some x → us[i]? = some p → MksAt W p.1 (x.marks.map Mk.z) ∧ ∃ a' c', p.2 = .slice a' x.docs.length c' := fun i x p hx hp => by
    refine ⟨mks_of_owns (h.marks i x p hx hp), ?_⟩
    rcases (h.docs i x p hx hp).2 with ⟨e, h0⟩ | ⟨g, cap, cur, e, _⟩
    · exact ⟨none, 0, by rw [e, h0]⟩
    · exact ⟨_, _, e⟩
  rcases h.own.2 with ⟨rfl, h0⟩ | ⟨g, cap, cur, rfl, hg, hgb, hcap, _⟩
  · have : ls = [] := List.eq_nil_of_length_eq_zero h0
    subst this
    exact ⟨none, 0, 0, rfl, fun h => absurd rfl h, Nat.le_refl _, h.len, fun i x p hx => by simp at hx⟩
  · refine ⟨some ⟨g, 0, none⟩, cap, g, rfl, fun _ => rfl, hcap, h.len, fun i x p hx hp => ⟨?_, hmd i x p hx hp⟩⟩
    have hi := (List.getElem?_eq_some_iff.1 hx).1
    have hc : ∀ j u, (lcell x p)[j]? = some u → W.cell? ⟨g, i * 4 + j, none⟩ = some u := fun j u hj => by
      have hj2 : j < 4 := (List.getElem?_eq_some_iff.1 hj).1
      rw [h.own.cellAt (i * 4 + j) (by omega)]
      exact lcells_get ls us i x p hx hp j u hj
    exact ⟨hc 0 _ rfl, hc 1 _ rfl, hc 2 _ rfl, hc 3 _ rfl⟩
theorem lines_ok (s : ByteArray) (ec : UInt8) (ls : List LL) (h : lexL (un s) = .ok (ec, ls)) (w : World) (hT : Tabs w) (hE : ErrType w) : Calls Tryz.prog 10 #[.string s] w fun e w' => ∃ v us, e = .returned (.tuple #[.int .u8 ec.toNat, v, .nilIface]) ∧ LnsAt w' w.heap.size v us ls ∧ Below w.heap.size w w' := by
  refine (lines_p s w hT hE).mono ?_
  rintro e w' ⟨hb, hw⟩
  rw [h] at hw
  obtain ⟨v, us, rfl, hv⟩ := hw
  exact ⟨v, us, rfl, hv, hb⟩
theorem lines_err (s : ByteArray) (no l a : Nat) (h : lexL (un s) = .error (no, l, a)) (w : World) (hT : Tabs w) (hE : ErrType w) : Calls Tryz.prog 10 #[.string s] w fun e w' => e = .returned (.tuple #[.int .u8 0, nilS, fltV no l a]) ∧ Below w.heap.size w w' := by
  refine (lines_p s w hT hE).mono ?_
  rintro e w' ⟨hb, hw⟩
  rw [h] at hw
  exact ⟨hw, hb⟩
abbrev kL : ByteArray := ⟨#[65, 32, 92, 10, 98, 10]⟩
abbrev kD : ByteArray := ⟨#[67, 79, 80, 89, 32, 60, 60, 69, 32, 100, 10]⟩
theorem known_l : lexL (un kL) = .ok (92, [⟨1, [65, 32, 98], [⟨0, 1, 1⟩, ⟨2, 2, 1⟩], []⟩]) := by kernel_rfl
theorem known_d : lexL (un kD) = .error (26, 1, 6) := by kernel_rfl
set_option maxRecDepth 100000 in
set_option maxHeartbeats 1000000 in
theorem works_l (w : World) (hT : Tabs w) (hE : ErrType w) : Calls Tryz.prog 16 #[] w fun e w' => e = .returned (.bool true) ∧ Below w.heap.size w w' := by
  have hA := lines_ok kL _ _ known_l w hT hE
  go_enter Tryz.func16, Tryz.ntmps16
  go_wp2_with fail
  refine hA.mono ?_
  rintro e w1 ⟨v, us, rfl, hv, b1⟩
  have hB := lines_err kD _ _ _ known_d w1 (hT.below b1) (hE.belowE b1)
  go_wp2_with fail
  refine hB.mono ?_
  rintro e w2 ⟨rfl, b2⟩
  have B2 := below_join b1 b2
  obtain ⟨a, cap, b, rfl, ha, hcap, hul, hx⟩ := (lns_read hv).below b2
  obtain rfl := ha (by simp)
  obtain ⟨p, hp⟩ : ∃ p, us[0]? = some p := by
    cases us with
    | nil => simp at hul
    | cons p us => exact ⟨p, rfl⟩
  have k1 : w2.cell? ⟨b, 1, none⟩ = some (.string ⟨#[65, 32, 98]⟩) := (hx 0 _ p rfl hp).1.c1
  have hAt := at_p 26 1 6 (by decide) (by decide) w2 (hE.belowE B2)
  clear hA hB hv hx hp
  go_wp2_with (go_at_call 11; refine hAt.mono ?_; rintro e w3 ⟨rfl, b3⟩)
  go_ret
  exact ⟨rfl, below_join B2 b3⟩
end Go.Proofs.YtjgijbeedgggdaaGreatDoor

namespace Go.Proofs.YtjgijbeedgggdaaGreatDoor
open Go Go.RowKit

theorem blank_r (c : UInt8) (w : World) : Calls Tryz.prog 31 #[.int .u8 c.toNat] w fun e w' => e = .returned (.bool (isBl c)) ∧ w' = w := by
  have q1 : ((c.toNat : Int) == 32) = decide (c = 32) := beq_b8 c 32 (by decide)
  have q2 : ((c.toNat : Int) == 9) = decide (c = 9) := beq_b8 c 9 (by decide)
  have q3 : ((c.toNat : Int) == 13) = decide (c = 13) := beq_b8 c 13 (by decide)
  have HB : Hid (isBl c = (decide (c = 32) || decide (c = 9) || decide (c = 13))) := rfl
  generalize isBl c = r at *
  generalize decide (c = 32) = m1 at *
  generalize decide (c = 9) = m2 at *
  generalize decide (c = 13) = m3 at *
  cases m1 <;> cases m2 <;> cases m3
  all_goals
    have hb := HB.out
    simp at hb
    subst hb
    clear HB
    go_enter Tryz.func31, Tryz.ntmps31
    go_wp2
    go_ret
    exact ⟨rfl, rfl⟩
theorem hd_at (x : Ln) (k : Nat) (b : UInt8) (h1 : (x.take k).all isBl = true) (h2 : x[k]? = some b) (h3 : isBl b = false) : hd x = k := by
  induction x generalizing k with
  | nil => simp at h2
  | cons c x ih =>
    cases k with
    | zero =>
      simp at h2; subst h2
      unfold hd; rw [List.takeWhile_cons_of_neg (by rw [h3]; decide)]; rfl
    | succ k =>
      simp only [List.take_succ_cons, List.all_cons, Bool.and_eq_true] at h1
      unfold hd
      rw [List.takeWhile_cons_of_pos h1.1, List.length_cons]
      exact congrArg (· + 1) (ih k h1.2 (by simpa using h2))
theorem hd_all (x : Ln) (h : x.all isBl = true) : hd x = x.length := by
  unfold hd
  have : x.takeWhile isBl = x := by
    induction x with
    | nil => rfl
    | cons c x ih =>
      simp only [List.all_cons, Bool.and_eq_true] at h
      rw [List.takeWhile_cons_of_pos h.1, ih h.2]
  rw [this]
def headI (x : Ln) : Int := if hd x < x.length then (hd x : Int) else -1
theorem head_r (s : ByteArray) (w : World) (hs : s.size ≤ 1099511627776) : Calls Tryz.prog 37 #[.string s] w fun e w' => e = .returned (.int .i64 (headI (un s))) ∧ w' = w := by
  have hsl := un_length s
  go_enter Tryz.func37, Tryz.ntmps37
  go_wp2
  go_loop [3] (fun i => ∃ k : Nat, k ≤ s.size ∧ i = .int .i64 k ∧ Hid (((un s).take k).all isBl = true)) (fun i => s.size - (intOf i).toNat)
  case atStart => exact ⟨0, Nat.zero_le _, rfl, by simp [Hid]⟩
  case round =>
    obtain ⟨k, hk, rfl, HA⟩ := hrel
    by_cases hlt : k < s.size
    · have hget := un_getElem? s k hlt
      have k0 : (0 : Int) ≤ (k : Int) := by omega
      have k1 : (k : Int) < (s.size : Int) := by omega
      have hbl := fun W => blank_r s[k] W
      cases hb : isBl s[k]
      · rw [hb] at hbl
        have HR : Hid (headI (un s) = (k : Int)) := by unfold Hid headI; rw [hd_at (un s) k s[k] HA.out hget hb, if_pos (by omega)]
        clear hget hb
        go_wp2_with (go_at_call 31; refine (hbl _).mono ?_; rintro e w1 ⟨rfl, hw⟩; replace hw := hw.symm; subst hw)
        go_ret
        exact ⟨by rw [HR.out]; rfl, rfl⟩
      · rw [hb] at hbl
        have HA2 : Hid (((un s).take (k + 1)).all isBl = true) := by
          unfold Hid
          rw [List.take_add_one, hget, List.all_append, HA.out]; simp [hb]
        clear hget hb
        go_wp2_with (go_at_call 31; refine (hbl _).mono ?_; rintro e w1 ⟨rfl, hw⟩; replace hw := hw.symm; subst hw)
        first
          | exact ⟨⟨k + 1, by omega, by go_num, HA2⟩, by simp [intOf]; omega⟩
          | (go_round
             case rel => exact ⟨k + 1, by omega, by go_num, HA2⟩
             case measure => simp [intOf]; omega)
    · obtain rfl : k = s.size := by omega
      have HR : Hid (headI (un s) = -1) := by
        unfold Hid headI
        have := HA.out
        rw [← hsl, List.take_length] at this
        rw [hd_all _ this, if_neg (Nat.lt_irrefl _)]
      go_wp2
      go_ret
      exact ⟨by rw [HR.out]; rfl, rfl⟩
end Go.Proofs.YtjgijbeedgggdaaGreatDoor

namespace Go.Proofs.YtjgijbeedgggdaaGreatDoor
open Go Go.RowKit

theorem dropWhile_all (p : UInt8 → Bool) (a b : Ln) (h : a.all p = true) : (a ++ b).dropWhile p = b.dropWhile p := by
  induction a with
  | nil => rfl
  | cons c a ih =>
    simp only [List.all_cons, Bool.and_eq_true] at h
    rw [List.cons_append, List.dropWhile_cons_of_pos h.1]; exact ih h.2
theorem en_at (x : Ln) (k : Nat) (b : UInt8) (h1 : (x.drop (k + 1)).all isBl = true) (h2 : x[k]? = some b) (h3 : isBl b = false) : en x = k + 1 := by
  obtain ⟨hk, hb⟩ := List.getElem?_eq_some_iff.1 h2
  have e : x = x.take k ++ (b :: x.drop (k + 1)) := by rw [← hb, ← List.drop_eq_getElem_cons hk, List.take_append_drop]
  have e2 : x.reverse = (x.drop (k + 1)).reverse ++ (b :: (x.take k).reverse) := by
    conv => lhs; rw [e]
    simp
  unfold en
  rw [e2, dropWhile_all _ _ _ (by rw [List.all_reverse]; exact h1), List.dropWhile_cons_of_neg (by rw [h3]; decide)]
  simp; omega
theorem en_all (x : Ln) (h : x.all isBl = true) : en x = 0 := by
  unfold en
  have := dropWhile_all isBl x.reverse [] (by rw [List.all_reverse]; exact h)
  rw [List.append_nil] at this
  rw [this]; rfl
theorem last_r (s : ByteArray) (w : World) (hs : s.size ≤ 1099511627776) : Calls Tryz.prog 78 #[.string s] w fun e w' => e = .returned (.int .i64 ((en (un s) : Int) - 1)) ∧ w' = w := by
  have hsl := un_length s
  go_enter Tryz.func78, Tryz.ntmps78
  go_wp2
  go_loop [3] (fun i => ∃ k : Nat, k ≤ s.size ∧ i = .int .i64 ((k : Int) - 1) ∧ Hid (((un s).drop k).all isBl = true)) (fun i => (intOf i + 1).toNat)
  case atStart => exact ⟨s.size, Nat.le_refl _, rfl, by unfold Hid; rw [← hsl, List.drop_length]; rfl⟩
  case round =>
    obtain ⟨k, hk, rfl, HA⟩ := hrel
    by_cases hlt : 0 < k
    · obtain ⟨m, rfl⟩ : ∃ m, k = m + 1 := ⟨k - 1, by omega⟩
      have hm : m < s.size := by omega
      have hget := un_getElem? s m hm
      have e1 : (((m + 1 : Nat) : Int) - 1) = (m : Int) := by omega
      rw [e1]
      have k0 : (0 : Int) ≤ (m : Int) := by omega
      have k1 : (m : Int) < (s.size : Int) := by omega
      have hbl := fun W => blank_r s[m] W
      cases hb : isBl s[m]
      · rw [hb] at hbl
        have HR : Hid ((en (un s) : Int) - 1 = (m : Int)) := by unfold Hid; rw [en_at (un s) m s[m] HA.out hget hb]; omega
        clear hget hb
        go_wp2_with (go_at_call 31; refine (hbl _).mono ?_; rintro e w1 ⟨rfl, hw⟩; replace hw := hw.symm; subst hw)
        go_ret
        exact ⟨by rw [HR.out]; rfl, rfl⟩
      · rw [hb] at hbl
        have HA2 : Hid (((un s).drop m).all isBl = true) := by
          unfold Hid
          have hml : m < (un s).length := by omega
          rw [List.drop_eq_getElem_cons hml, List.all_cons, HA.out]
          rw [List.getElem?_eq_getElem hml] at hget
          rw [Option.some.inj hget, hb]; rfl
        clear hget hb
        go_wp2_with (go_at_call 31; refine (hbl _).mono ?_; rintro e w1 ⟨rfl, hw⟩; replace hw := hw.symm; subst hw)
        first
          | exact ⟨⟨m, by omega, by go_num, HA2⟩, by simp [intOf]⟩
          | (go_round
             case rel => exact ⟨m, by omega, by go_num, HA2⟩
             case measure => simp [intOf])
    · obtain rfl : k = 0 := by omega
      have HR : Hid ((en (un s) : Int) - 1 = -1) := by unfold Hid; have h0 := HA.out; rw [List.drop_zero] at h0; rw [en_all _ h0]; rfl
      have e1 : (((0 : Nat) : Int) - 1) = -1 := rfl
      rw [e1]
      go_wp2
      go_ret
      exact ⟨by rw [HR.out]; rfl, rfl⟩
theorem hd_le (x : Ln) : hd x ≤ x.length := (List.takeWhile_sublist isBl (l := x)).length_le
theorem nothing_r (s : ByteArray) (w : World) (hs : s.size ≤ 1099511627776) : Calls Tryz.prog 35 #[.string s] w fun e w' => e = .returned (.bool (noth (un s))) ∧ w' = w := by
  have hsl := un_length s
  have hh := fun W => head_r s W hs
  have hle := hd_le (un s)
  by_cases hlt : hd (un s) < s.size
  · have hI : headI (un s) = (hd (un s) : Int) := by unfold headI; rw [if_pos (by omega)]
    rw [hI] at hh
    have hget := un_getElem? s _ hlt
    have HN : Hid (noth (un s) = decide (s[hd (un s)] = 35)) := by unfold Hid noth; rw [hget]; simp; rfl
    have q1 : ((s[hd (un s)].toNat : Int) == 35) = decide (s[hd (un s)] = 35) := beq_b8 _ 35 (by decide)
    have k0 : (0 : Int) ≤ (hd (un s) : Int) := by omega
    have k1 : (hd (un s) : Int) < (s.size : Int) := by omega
    have k2 : ¬ (hd (un s) : Int) < 0 := by omega
    rw [HN.out]
    clear HN hget hI hle
    generalize hd (un s) = h at *
    go_enter Tryz.func35, Tryz.ntmps35
    go_wp2_with (go_at_call 37; refine (hh _).mono ?_; rintro e w1 ⟨rfl, hw⟩; replace hw := hw.symm; subst hw)
    go_ret
    exact ⟨by rw [← q1]; rfl, rfl⟩
  · have hI : headI (un s) = -1 := by unfold headI; rw [if_neg (by omega)]
    rw [hI] at hh
    have HN : Hid (noth (un s) = true) := by unfold Hid noth; rw [List.getElem?_eq_none (by omega)]; rfl
    rw [HN.out]
    go_enter Tryz.func35, Tryz.ntmps35
    go_wp2_with (go_at_call 37; refine (hh _).mono ?_; rintro e w1 ⟨rfl, hw⟩; replace hw := hw.symm; subst hw)
    go_ret
    exact ⟨rfl, rfl⟩
theorem past_at (x : Ln) (i k : Nat) (h1 : ((x.drop i).take k).all isBl = true) (h2 : ∀ b, x[i + k]? = some b → isBl b = false) (h3 : i + k ≤ x.length) : pastL x i = i + k := by
  unfold pastL
  congr 1
  have hk : k ≤ (x.drop i).length := by rw [List.length_drop]; omega
  generalize hy : x.drop i = y at *
  have h2' : ∀ b, y[k]? = some b → isBl b = false := fun b hb => h2 b (by rw [← hy, List.getElem?_drop] at hb; exact hb)
  by_cases hlt : k < y.length
  · exact hd_at y k y[k] h1 (List.getElem?_eq_getElem hlt) (h2' _ (List.getElem?_eq_getElem hlt))
  · have : k = y.length := by omega
    subst this
    rw [List.take_length] at h1
    exact hd_all y h1
theorem past_r (s : ByteArray) (i : Nat) (w : World) (hs : s.size ≤ 1099511627776) (hi : i ≤ s.size) : Calls Tryz.prog 76 #[.string s, .int .i64 i] w fun e w' => e = .returned (.int .i64 (pastL (un s) i)) ∧ w' = w := by
  have hsl := un_length s
  go_enter Tryz.func76, Tryz.ntmps76
  go_wp2
  go_loop [1] (fun iv => ∃ k : Nat, i + k ≤ s.size ∧ iv = .int .i64 ((i + k : Nat) : Int) ∧ Hid ((((un s).drop i).take k).all isBl = true)) (fun iv => s.size - (intOf iv).toNat)
  case atStart => exact ⟨0, by omega, rfl, by simp [Hid]⟩
  case round =>
    obtain ⟨k, hk, rfl, HA⟩ := hrel
    by_cases hlt : i + k < s.size
    · have hget := un_getElem? s (i + k) hlt
      generalize hm : i + k = m at *
      have k0 : (0 : Int) ≤ (m : Int) := by omega
      have k1 : (m : Int) < (s.size : Int) := by omega
      have hbl := fun W => blank_r s[m] W
      cases hb : isBl s[m]
      · rw [hb] at hbl
        have HR : Hid (pastL (un s) i = m) := by
          unfold Hid
          rw [← hm]
          exact past_at (un s) i k HA.out (fun b hbb => by rw [hm, hget] at hbb; cases hbb; exact hb) (by omega)
        clear hget hb
        go_wp2_with (go_at_call 31; refine (hbl _).mono ?_; rintro e w1 ⟨rfl, hw⟩; replace hw := hw.symm; subst hw)
        go_ret
        exact ⟨by rw [HR.out]; rfl, rfl⟩
      · rw [hb] at hbl
        have HA2 : Hid ((((un s).drop i).take (k + 1)).all isBl = true) := by
          unfold Hid
          rw [List.take_add_one, List.getElem?_drop, hm, hget, List.all_append, HA.out]; simp [hb]
        clear hget hb
        go_wp2_with (go_at_call 31; refine (hbl _).mono ?_; rintro e w1 ⟨rfl, hw⟩; replace hw := hw.symm; subst hw)
        first
          | exact ⟨⟨k + 1, by omega, by rw [← hm]; go_num, HA2⟩, by simp [intOf]; omega⟩
          | (go_round
             case rel => exact ⟨k + 1, by omega, by rw [← hm]; go_num, HA2⟩
             case measure => simp [intOf]; omega)
    · have hm : i + k = s.size := by omega
      have HR : Hid (pastL (un s) i = s.size) := by
        unfold Hid
        rw [← hm]
        exact past_at (un s) i k HA.out (fun b hbb => by rw [List.getElem?_eq_none (by omega)] at hbb; cases hbb) (by omega)
      rw [hm]
      go_wp2
      go_ret
      exact ⟨by rw [HR.out]; rfl, rfl⟩
end Go.Proofs.YtjgijbeedgggdaaGreatDoor

namespace Go.Proofs.YtjgijbeedgggdaaGreatDoor
open Go Go.RowKit

theorem wrapP (z : Int) (h : -9223372036854775808 ≤ z ∧ z ≤ 9223372036854775807) : IntKind.i64.wrap z = z := by
  rw [IntKind.wrap_i64]; omega
set_option maxHeartbeats 1000000 in
theorem pick_n (k : Int) (n : Nat) (hn : n ≤ 4611686018427387904) (w : World) : Calls Tryz.prog 26 #[.int .i64 k, .int .i64 n] w fun e w' => (∃ j : Nat, j < max n 1 ∧ e = .returned (.int .i64 j)) ∧ w' = w := by
  rcases Nat.eq_zero_or_pos n with rfl | hp
  · have h1 : (0 : Int) ≤ 0 := by omega
    go_enter Tryz.func26, Tryz.ntmps26
    go_wp2
    go_ret
    exact ⟨⟨0, by omega, rfl⟩, rfl⟩
  · have hn0 : ¬ (n : Int) ≤ 0 := by omega
    have hn1 : ¬ (n : Int) < 1 := by omega
    have hne : ¬ (n : Int) = 0 := by omega
    have hr1 : -(n : Int) < k.tmod n ∧ k.tmod n < n := by
      have := Int.natAbs_tmod k n
      have h2 := Nat.mod_lt k.natAbs (show 0 < (n : Int).natAbs by omega)
      have h3 : (n : Int).natAbs = n := by simp
      omega
    have w1 : IntKind.i64.wrap (k.tmod n) = k.tmod n := wrapP _ (by omega)
    by_cases h0 : k.tmod n < 0
    · have w2 : IntKind.i64.wrap (k.tmod n + n) = k.tmod n + n := wrapP _ (by omega)
      have w3 : IntKind.i64.wrap (n + k.tmod n) = n + k.tmod n := wrapP _ (by omega)
      go_enter Tryz.func26, Tryz.ntmps26
      go_wp2
      go_ret
      refine ⟨⟨(k.tmod n + n).toNat, by omega, ?_⟩, rfl⟩
      rw [Int.toNat_of_nonneg (by omega)]
      first | rfl | (congr 2; omega)
    · go_enter Tryz.func26, Tryz.ntmps26
      go_wp2
      go_ret
      refine ⟨⟨(k.tmod n).toNat, by omega, ?_⟩, rfl⟩
      rw [Int.toNat_of_nonneg (by omega)]
      first | rfl | (congr 2; omega)
end Go.Proofs.YtjgijbeedgggdaaGreatDoor

namespace Go.Proofs.YtjgijbeedgggdaaGreatDoor
open Go Go.RowKit

theorem beq_at (x : UInt8) (n : Nat) (_hn : n < 256) : ((x.toNat : Int) == (n : Int)) = decide (x.toNat = n) := by
  by_cases h : x.toNat = n
  · rw [decide_eq_true h, h]; simp
  · rw [decide_eq_false h, beq_eq_false_iff_ne]; omega
theorem u8_ne {x : UInt8} {n : UInt8} (h : x.toNat ≠ n.toNat) : x ≠ n := fun e => h (by rw [e])
theorem all_drop : ∀ l : Ln, l.dropWhile isBl = [] → ∀ b ∈ l, isBl b = true
  | [], _, b, h => by cases h
  | a :: l, h, b, hb => by
    by_cases ha : isBl a = true
    · rw [List.dropWhile_cons_of_pos ha] at h
      rcases List.mem_cons.1 hb with rfl | hb
      · exact ha
      · exact all_drop l h b hb
    · rw [List.dropWhile_cons_of_neg ha] at h; cases h
def SgI (s : Ln) (i : Nat) : Prop := ∀ (j : Nat) (b : UInt8), j < i → s[j]? = some b → b.toNat ≠ 10 ∧ b.toNat ≠ 13 ∧ (b.toNat = 60 → s[j + 1]? ≠ some 60)
set_option maxRecDepth 100000 in
set_option maxHeartbeats 1000000 in
theorem single_p (s : ByteArray) (w : World) : Calls Tryz.prog 30 #[.string s] w fun e w' => ∃ b, e = .returned (.bool b) ∧ (b = true → Single (un s) ∧ s.size ≤ 60000) ∧ w' = w := by
  by_cases h0 : s.size = 0
  · have hnil : un s = [] := List.eq_nil_of_length_eq_zero (by rw [un_length]; exact h0)
    have n1 : s = ⟨#[]⟩ := by rw [← bs_un s, hnil]; rfl
    clear hnil
    subst n1
    go_enter Tryz.func30, Tryz.ntmps30
    go_wp2
    go_ret
    exact ⟨false, rfl, (fun h => by cases h), rfl⟩
  · have hz : 0 < s.size := by omega
    have n1 : s.toList.isEmpty = false := (isEmpty_false s).2 hz
    have n2 : (s.toList == (⟨#[]⟩ : ByteArray).toList) = false := by
      cases hq : s.toList with
      | nil => rw [hq] at n1; cases n1
      | cons _ _ => rw [toList_un (⟨#[]⟩ : ByteArray)]; rfl
    have d0 : (0 : Int) < (s.size : Int) := by omega
    by_cases h1 : 60000 < s.size
    · have d1 : (60000 : Int) < (s.size : Int) := by omega
      go_enter Tryz.func30, Tryz.ntmps30
      go_wp2
      go_ret
      exact ⟨false, rfl, (fun h => by cases h), rfl⟩
    · have d1 : ¬ (60000 : Int) < (s.size : Int) := by omega
      obtain ⟨x0, hx0⟩ : ∃ x, s[0]'hz = x := ⟨_, rfl⟩
      have hf0 : (un s)[0]? = some x0 := by rw [un_getElem? s 0 hz, hx0]
      have hBl := fun W => blank_r x0 W
      by_cases hb : isBl x0 = true
      · rw [hb] at hBl
        go_enter Tryz.func30, Tryz.ntmps30
        go_wp2_with (go_at_call 31; refine (hBl _).mono ?_; rintro e w1 ⟨rfl, rfl⟩)
        go_ret
        exact ⟨false, rfl, (fun h => by cases h), rfl⟩
      · have hb : isBl x0 = false := by simpa using hb
        rw [hb] at hBl
        have q0 := beq_at x0 35 (by decide)
        by_cases h35 : x0.toNat = 35
        · have q1 : ((x0.toNat : Int) == 35) = true := by rw [show ((35 : Int)) = ((35 : Nat) : Int) from rfl, q0, decide_eq_true h35]
          clear q0 h35
          go_enter Tryz.func30, Tryz.ntmps30
          go_wp2_with (go_at_call 31; refine (hBl _).mono ?_; rintro e w1 ⟨rfl, rfl⟩)
          go_ret
          exact ⟨false, rfl, (fun h => by cases h), rfl⟩
        · have q1 : ((x0.toNat : Int) == 35) = false := by rw [show ((35 : Int)) = ((35 : Nat) : Int) from rfl, q0, decide_eq_false h35]
          have h35u : x0 ≠ 35 := u8_ne h35
          clear q0 h35
          have H0 : Hid (∃ b, (un s)[0]? = some b ∧ isBl b = false ∧ b ≠ 35) := ⟨x0, hf0, hb, h35u⟩
          have hLa := fun W => last_r s W (by omega)
          have hen : 0 < en (un s) ∧ en (un s) ≤ s.size := by
            have h1 := en_le (un s)
            rw [un_length] at h1
            refine ⟨?_, h1⟩
            rcases Nat.eq_zero_or_pos (en (un s)) with h | h
            · exfalso
              have hbl : ∀ b ∈ un s, isBl b = true := by
                intro b hbm
                unfold en at h
                exact all_drop _ (List.eq_nil_of_length_eq_zero h) b (List.mem_reverse.2 hbm)
              have := hbl x0 (List.mem_of_getElem? hf0)
              rw [hb] at this; cases this
            · exact h
          obtain ⟨E, hE⟩ : ∃ E : Nat, en (un s) = E + 1 := ⟨en (un s) - 1, by omega⟩
          have eE : ((en (un s) : Int) - 1) = (E : Int) := by omega
          rw [eE] at hLa
          have hElt : E < s.size := by omega
          have HE : Hid (en (un s) = E + 1) := hE
          clear hE eE hen hf0 h35u
          go_enter Tryz.func30, Tryz.ntmps30
          go_wp2_with (go_at_call 31; refine (hBl _).mono ?_; rintro e w1 ⟨rfl, rfl⟩)
          go_loopw [3] (fun v3 wr => wr = w1 ∧ ∃ i : Nat, v3 = .int .i64 i ∧ i ≤ s.size ∧ SgI (un s) i) (fun v3 _ => s.size - (intOf v3).toNat)
          case atStart => exact ⟨rfl, 0, rfl, Nat.zero_le _, fun j b hj => absurd hj (Nat.not_lt_zero _)⟩
          case round =>
            obtain ⟨rfl, i, rfl, hi, hI⟩ := hrel
            replace hI : Hid _ := hI
            by_cases hlt : i < s.size
            · have d2 : (i : Int) < (s.size : Int) := by omega
              obtain ⟨x, hx⟩ : ∃ x, s[i]'hlt = x := ⟨_, rfl⟩
              have hfx : (un s)[i]? = some x := by rw [un_getElem? s i hlt, hx]
              have q10 := beq_at x 10 (by decide)
              have q13 := beq_at x 13 (by decide)
              have q60 := beq_at x 60 (by decide)
              have w1 : IntKind.i64.wrap ((i : Int) + 1) = (i : Int) + 1 := by rw [wrap_small _ (by omega) (by omega)]
              have hnext : (x.toNat ≠ 10 ∧ x.toNat ≠ 13 ∧ (x.toNat = 60 → (un s)[i + 1]? ≠ some 60)) → SgI (un s) (i + 1) := by
                intro h j b hj hb
                rcases Nat.lt_or_ge j i with hji | hji
                · exact hI.out j b hji hb
                · obtain rfl : j = i := by omega
                  rw [hfx] at hb
                  cases hb
                  exact h
              by_cases h10 : x.toNat = 10
              · have p1 : ((x.toNat : Int) == 10) = true := by rw [show ((10 : Int)) = ((10 : Nat) : Int) from rfl, q10, decide_eq_true h10]
                clear q10 q13 q60 h10 hnext
                go_wp2
                go_ret
                exact ⟨false, rfl, (fun h => by cases h), rfl⟩
              · have p1 : ((x.toNat : Int) == 10) = false := by rw [show ((10 : Int)) = ((10 : Nat) : Int) from rfl, q10, decide_eq_false h10]
                by_cases h13 : x.toNat = 13
                · have p2 : ((x.toNat : Int) == 13) = true := by rw [show ((13 : Int)) = ((13 : Nat) : Int) from rfl, q13, decide_eq_true h13]
                  clear q10 q13 q60 h10 h13 hnext
                  go_wp2
                  go_ret
                  exact ⟨false, rfl, (fun h => by cases h), rfl⟩
                · have p2 : ((x.toNat : Int) == 13) = false := by rw [show ((13 : Int)) = ((13 : Nat) : Int) from rfl, q13, decide_eq_false h13]
                  by_cases h60 : x.toNat = 60
                  · have p3 : ((x.toNat : Int) == 60) = true := by rw [show ((60 : Int)) = ((60 : Nat) : Int) from rfl, q60, decide_eq_true h60]
                    by_cases hl1 : i + 1 < s.size
                    · have d3 : (i : Int) + 1 < (s.size : Int) := by omega
                      have d4 : (0 : Int) ≤ (i : Int) + 1 := by omega
                      obtain ⟨y, hy⟩ : ∃ y, s[i + 1]'hl1 = y := ⟨_, rfl⟩
                      have hfy : (un s)[i + 1]? = some y := by rw [un_getElem? s (i + 1) hl1, hy]
                      have hgy : ∀ h, s[((i : Int) + 1).toNat]'h = y := fun h => by simp only [show ((i : Int) + 1).toNat = i + 1 by omega]; exact hy
                      have r60 := beq_at y 60 (by decide)
                      by_cases hy60 : y.toNat = 60
                      · have p4 : ((y.toNat : Int) == 60) = true := by rw [show ((60 : Int)) = ((60 : Nat) : Int) from rfl, r60, decide_eq_true hy60]
                        clear q10 q13 q60 r60 h10 h13 h60 hy60 hnext
                        go_wp2
                        go_ret
                        exact ⟨false, rfl, (fun h => by cases h), rfl⟩
                      · have p4 : ((y.toNat : Int) == 60) = false := by rw [show ((60 : Int)) = ((60 : Nat) : Int) from rfl, r60, decide_eq_false hy60]
                        have hgo := hnext ⟨h10, h13, fun _ e => hy60 (by rw [hfy] at e; cases e; rfl)⟩
                        clear q10 q13 q60 r60 h10 h13 h60 hy60 hnext hfy hfx
                        go_wp2
                        go_roundw
                        case measure => simp [intOf]; omega
                        case rel => exact ⟨trivial, i + 1, by first | rfl | simp, by omega, hgo⟩
                    · have d3 : ¬ (i : Int) + 1 < (s.size : Int) := by omega
                      have hgo := hnext ⟨h10, h13, fun _ e => by have := (List.getElem?_eq_some_iff.1 e).1; rw [un_length] at this; omega⟩
                      clear q10 q13 q60 h10 h13 h60 hnext hfx
                      go_wp2
                      go_roundw
                      case measure => simp [intOf]; omega
                      case rel => exact ⟨trivial, i + 1, by first | rfl | simp, by omega, hgo⟩
                  · have p3 : ((x.toNat : Int) == 60) = false := by rw [show ((60 : Int)) = ((60 : Nat) : Int) from rfl, q60, decide_eq_false h60]
                    have hgo := hnext ⟨h10, h13, fun h => absurd h h60⟩
                    clear q10 q13 q60 h10 h13 h60 hnext hfx
                    go_wp2
                    go_roundw
                    case measure => simp [intOf]; omega
                    case rel => exact ⟨trivial, i + 1, by first | rfl | simp, by omega, hgo⟩
            · have hge : ¬ (i : Int) < (s.size : Int) := by omega
              have d5 : (E : Int) < (s.size : Int) := by omega
              obtain ⟨z, hz2⟩ : ∃ z, s[E]'hElt = z := ⟨_, rfl⟩
              have hfz : (un s)[E]? = some z := by rw [un_getElem? s E hElt, hz2]
              have q92 := beq_at z 92 (by decide)
              have HS : Hid (z.toNat ≠ 92 → Single (un s)) := by
                intro hz9
                have hm : ∀ b ∈ un s, b.toNat ≠ 10 ∧ b.toNat ≠ 13 := fun b hbm => by
                  obtain ⟨j, hj, hjb⟩ := List.getElem_of_mem hbm
                  have hj2 := hj
                  rw [un_length] at hj2
                  have := hI.out j b (by omega) (by rw [List.getElem?_eq_getElem hj, hjb])
                  exact ⟨this.1, this.2.1⟩
                refine ⟨H0.out, fun h => (hm _ h).1 rfl, fun h => (hm _ h).2 rfl, ?_, fun j hj => ?_⟩
                · rw [HE.out, Nat.add_sub_cancel, hfz]
                  intro e; cases e; exact hz9 rfl
                · have hjl := (List.getElem?_eq_some_iff.1 hj).1
                  rw [un_length] at hjl
                  exact (hI.out j 60 (by omega) hj).2.2 rfl
              by_cases h92 : z.toNat = 92
              · have p9 : ((z.toNat : Int) == 92) = true := by rw [show ((92 : Int)) = ((92 : Nat) : Int) from rfl, q92, decide_eq_true h92]
                have p9b : ((z.toNat : Int) != 92) = false := by rw [bne, p9]; rfl
                clear q92 h92
                go_wp2_with (go_at_call 78; refine (hLa _).mono ?_; rintro e w2 ⟨rfl, rfl⟩)
                go_ret
                exact ⟨false, rfl, (fun h => by cases h), rfl⟩
              · have p9 : ((z.toNat : Int) == 92) = false := by rw [show ((92 : Int)) = ((92 : Nat) : Int) from rfl, q92, decide_eq_false h92]
                have p9b : ((z.toNat : Int) != 92) = true := by rw [bne, p9]; rfl
                have hS := HS.out h92
                clear q92 h92
                go_wp2_with (go_at_call 78; refine (hLa _).mono ?_; rintro e w2 ⟨rfl, rfl⟩)
                go_ret
                exact ⟨true, rfl, fun _ => ⟨hS, by omega⟩, rfl⟩
end Go.Proofs.YtjgijbeedgggdaaGreatDoor

namespace Go.Proofs.YtjgijbeedgggdaaGreatDoor
open Go Go.RowKit

def begB (x : UInt8) : Bool := decide (x.toNat < 128) || decide (192 ≤ x.toNat)
theorem beg_cont (x : UInt8) (h : begB x = true) : contU x = false := by
  unfold begB at h
  have hh : x.toNat < 128 ∨ 192 ≤ x.toNat := by simpa using h
  unfold contU
  rw [Bool.and_eq_false_iff, decide_eq_false_iff_not, decide_eq_false_iff_not, UInt8.le_iff_toNat_le, UInt8.le_iff_toNat_le]
  show ¬ 128 ≤ x.toNat ∨ ¬ x.toNat ≤ 191
  omega
set_option maxRecDepth 100000 in
theorem begins_p (s : ByteArray) (j : Nat) (x : UInt8) (h : j < s.size) (hx : s[j]'h = x) (w : World) : Calls Tryz.prog 32 #[.string s, .int .i64 j] w fun e w' => e = .returned (.bool (begB x)) ∧ w' = w := by
  have d1 : (j : Int) < (s.size : Int) := by omega
  by_cases h1 : x.toNat < 128
  · have d2 : (x.toNat : Int) < 128 := by omega
    rw [show begB x = true by unfold begB; rw [decide_eq_true h1]; rfl]
    go_enter Tryz.func32, Tryz.ntmps32
    go_wp2
    go_ret
    exact ⟨rfl, rfl⟩
  · have d2 : ¬ (x.toNat : Int) < 128 := by omega
    by_cases h2 : 192 ≤ x.toNat
    · have d3 : (192 : Int) ≤ (x.toNat : Int) := by omega
      have d4 : decide ((x.toNat : Int) ≥ 192) = true := decide_eq_true d3
      rw [show begB x = true by unfold begB; rw [decide_eq_true h2, Bool.or_true]]
      go_enter Tryz.func32, Tryz.ntmps32
      go_wp2
      go_ret
      first
        | exact ⟨rfl, rfl⟩
        | exact ⟨by simp [d3], rfl⟩
    · have d3 : ¬ (192 : Int) ≤ (x.toNat : Int) := by omega
      have d4 : decide ((x.toNat : Int) ≥ 192) = false := decide_eq_false d3
      rw [show begB x = false by unfold begB; rw [decide_eq_false h1, decide_eq_false h2]; rfl]
      go_enter Tryz.func32, Tryz.ntmps32
      go_wp2
      go_ret
      first
        | exact ⟨rfl, rfl⟩
        | exact ⟨by simp [d3], rfl⟩
theorem LnsR.one {W : World} {v : Value} {us : List (Value × Value)} {x : LL} (h : LnsR W v us [x]) : ∃ (cap b : Nat) (m d : Value), v = .slice (some ⟨b, 0, none⟩) 1 cap ∧ 1 ≤ cap ∧ W.cell? ⟨b, 1, none⟩ = some (.string (bs x.text)) ∧ W.cell? ⟨b, 2, none⟩ = some m ∧ W.cell? ⟨b, 3, none⟩ = some d ∧ ∃ a' c', d = .slice a' x.docs.length c' := by
  obtain ⟨a, cap, b, rfl, ha, hcap, hul, hx⟩ := h
  obtain rfl := ha (by simp)
  obtain ⟨p, hp⟩ : ∃ p, us[0]? = some p := by
    cases us with
    | nil => simp at hul
    | cons p us => exact ⟨p, rfl⟩
  obtain ⟨h1, _, h3⟩ := hx 0 x p rfl hp
  have k1 := h1.c1
  have k2 := h1.c2
  have k3 := h1.c3
  rw [Nat.zero_mul, Nat.zero_add] at k1 k2 k3
  exact ⟨cap, b, p.1, p.2, rfl, hcap, k1, k2, k3, h3⟩
set_option maxRecDepth 100000 in
set_option maxHeartbeats 1000000 in
theorem lexjoined_law (s : ByteArray) (k : Int) (w : World) (hT : Tabs w) (hE : ErrType w) : Calls Tryz.prog 8 #[.string s, .int .i64 k] w fun e w' => e = .returned (.bool true) ∧ Below w.heap.size w w' := by
  have hWk : ∀ W, Below w.heap.size w W → Calls Tryz.prog 16 #[] W fun e w' => e = .returned (.bool true) ∧ Below W.heap.size W w' := fun W hW => works_l W (hT.below hW) (hE.belowE hW)
  go_enter Tryz.func8, Tryz.ntmps8
  go_wp2_with fail
  refine (single_p s w).mono ?_
  rintro e w1 ⟨b, rfl, hb, rfl⟩
  cases b with
  | false =>
    have h1 := hWk w1 (Below.refl _ _)
    clear hb
    go_wp2_with (go_at_call 16; refine h1.mono ?_; rintro e w2 ⟨rfl, b2⟩)
    go_ret
    exact ⟨rfl, b2⟩
  | true =>
    obtain ⟨hS, hsz⟩ := hb rfl
    have HS : Hid (Single (un s)) := hS
    clear hb hS
    cases hl : lexL (un s) with
    | error fl =>
      obtain ⟨no, l, a⟩ := fl
      have h1 := lines_err s no l a hl w1 hT hE
      clear hl
      go_wp2_with fail
      refine h1.mono ?_
      rintro e w2 ⟨rfl, b2⟩
      have h2 := hWk w2 b2
      go_wp2_with (go_at_call 16; refine h2.mono ?_; rintro e w3 ⟨rfl, b3⟩)
      go_ret
      exact ⟨rfl, below_join b2 b3⟩
    | ok pr =>
      obtain ⟨ec, ls⟩ := pr
      have h1 := lines_ok s ec ls hl w1 hT hE
      obtain ⟨⟨ms, rfl⟩, hJ⟩ := lex_joined (un s) HS.out (by rw [un_length]; exact hsz) ec ls hl
      replace hJ : Hid _ := hJ
      clear hl
      have hz : 0 < s.size := by
        obtain ⟨b, hb, _⟩ := HS.out.first
        have := (List.getElem?_eq_some_iff.1 hb).1
        rwa [un_length] at this
      go_wp2_with fail
      refine h1.mono ?_
      rintro e w2 ⟨v, us, rfl, hv, b2⟩
      obtain ⟨cap, b, m, d, rfl, hcap, k1, k2, k3, a', c', rfl⟩ := (lns_read hv).one
      rw [bs_un] at k1
      replace k3 : w2.cell? ⟨b, 3, none⟩ = some (.slice a' 0 c') := k3
      clear h1 hv k2
      have hPk := fun W => pick_n k s.size (by omega) W
      go_wp2_with fail
      refine (hPk w2).mono ?_
      rintro e w3 ⟨⟨j, hj, rfl⟩, rfl⟩
      have hjl : j < s.size := by omega
      obtain ⟨x, hx⟩ : ∃ x, s[j]'hjl = x := ⟨_, rfl⟩
      have hfx : (un s)[j]? = some x := by rw [un_getElem? s j hjl, hx]
      have d1 : (j : Int) < (s.size : Int) := by omega
      have d2 : (0 : Int) ≤ (j : Int) := by omega
      have d3 : (j : Int) ≤ (s.size : Int) := by omega
      have hBl := fun W => blank_r x W
      have h2 := hWk w3 b2
      clear hPk hj
      cases hb : isBl x with
      | true =>
        rw [hb] at hBl
        go_wp2_with (first
          | (go_at_call 31; refine (hBl _).mono ?_; rintro e w4 ⟨rfl, rfl⟩)
          | (go_at_call 16; refine h2.mono ?_; rintro e w5 ⟨rfl, b5⟩))
        go_ret
        exact ⟨rfl, below_join b2 b5⟩
      | false =>
        rw [hb] at hBl
        have q0 := beq_at x 35 (by decide)
        by_cases h35 : x.toNat = 35
        · have q1 : ((x.toNat : Int) == 35) = true := by rw [show ((35 : Int)) = ((35 : Nat) : Int) from rfl, q0, decide_eq_true h35]
          clear q0 h35
          go_wp2_with (first
            | (go_at_call 31; refine (hBl _).mono ?_; rintro e w4 ⟨rfl, rfl⟩)
            | (go_at_call 16; refine h2.mono ?_; rintro e w5 ⟨rfl, b5⟩))
          go_ret
          exact ⟨rfl, below_join b2 b5⟩
        · have q1 : ((x.toNat : Int) == 35) = false := by rw [show ((35 : Int)) = ((35 : Nat) : Int) from rfl, q0, decide_eq_false h35]
          have h35u : x ≠ 35 := u8_ne h35
          have hBg := begins_p s j x hjl hx w3
          clear q0 h35
          cases hbg : begB x with
          | false =>
            rw [hbg] at hBg
            clear hbg
            go_wp2_with (first
              | (go_at_call 31; refine (hBl _).mono ?_; rintro e w4 ⟨rfl, rfl⟩)
              | (go_at_call 32; refine hBg.mono ?_; rintro e w6 ⟨rfl, rfl⟩)
              | (go_at_call 16; refine h2.mono ?_; rintro e w5 ⟨rfl, b5⟩))
            go_ret
            exact ⟨rfl, below_join b2 b5⟩
          | true =>
            obtain ⟨ms2, hms2⟩ := hJ.out j x hfx hb h35u (beg_cont x hbg)
            rw [hbg] at hBg
            obtain ⟨N, hN⟩ : ∃ N, s.extract 0 j ++ ⟨#[92, 10]⟩ ++ s.extract j s.size = N := ⟨_, rfl⟩
            have hNu : un N = (un s).take j ++ [92, 10] ++ (un s).drop j := by
              rw [← hN, ext_end s j, ext_bs s 0 j]
              show un (_ ++ _ ++ _) = _
              rw [un_append, un_append, un_bs, un_bs]; rfl
            rw [← hNu] at hms2
            have hLn := fun W (hW : Below w3.heap.size w3 W) => lines_ok N 92 _ hms2 W (hT.below (below_join b2 hW)) (hE.belowE (below_join b2 hW))
            have hb1 : ∀ W, (Op.stringOp .add (s.extract 0 j) ⟨#[92, 10]⟩).run Tryz.prog W = .ok (.string (s.extract 0 j ++ ⟨#[92, 10]⟩)) W := fun W => run_string_add_sum W _ ⟨#[92, 10]⟩ (by rw [size_extract' _ _ _ (by omega)]; show j - 0 + 2 ≤ _; omega)
            have hb2 : ∀ W, (Op.stringOp .add (s.extract 0 j ++ ⟨#[92, 10]⟩) (s.extract j s.size)).run Tryz.prog W = .ok (.string N) W := fun W => by
              have := run_string_add_sum (P := Tryz.prog) W (s.extract 0 j ++ ⟨#[92, 10]⟩) (s.extract j s.size) (by rw [ByteArray.size_append, size_extract' _ _ _ (by omega), size_extract' _ _ _ (by omega)]; show j - 0 + 2 + _ ≤ _; omega)
              rw [hN] at this; exact this
            clear hbg hJ hfx hNu hms2 hN h35u
            go_wp2_with (first
              | (go_at_call 31; refine (hBl _).mono ?_; rintro e w4 ⟨rfl, rfl⟩)
              | (go_at_call 32; refine hBg.mono ?_; rintro e w6 ⟨rfl, rfl⟩))
            go_region_held3 (fun W => Below w6.heap.size w6 W)
              (first | exact Below.refl _ _ | exact (Below.refl _ _).drew | (exact below_join (by assumption) b7))
              ((go_at_call 10; with_reducible refine (hLn _ (by first | assumption | exact (Below.refl _ _).drew)).mono ?_; rintro e w7 ⟨v2, us2, rfl, hv2, b7⟩))
            have B7 : Below w1.heap.size w1 w7 := below_join b2 (by assumption)
            obtain ⟨cap2, g2, m2, d2', rfl, hcap2, r1, _, _, _⟩ := (lns_read hv2).one
            rw [bs_un] at r1
            have h7 := hWk w7 B7
            clear h2 hv2 k1 k3 hLn
            go_wp2_with (go_at_call 16; refine h7.mono ?_; rintro e w8 ⟨rfl, b8⟩)
            go_ret
            exact ⟨rfl, below_join B7 b8⟩
end Go.Proofs.YtjgijbeedgggdaaGreatDoor

namespace Go.Proofs.YtjgijbeedgggdaaGreatDoor
open Go.ChangeShapes Go.WideShapes Go.RowKit Go.Lib

theorem own : ownKnob Tryz.prog.godebug = none := by kernel_rfl
theorem l_et : Tryz.prog.globalNamed "errors.errorType" = some 0 := by kernel_rfl
theorem l_rt : (Tryz.prog.cutTypes.find? (·.1 == "internal/reflectlite.rtype")).map (·.2) = some 287 := by kernel_rfl
theorem l_oneRow : ((List.range 364).filter fun t => Tryz.prog.rowNamed t [101, 114, 114, 111, 114]) = [26] := by kernel_rfl
theorem l_size : Tryz.prog.types.size = 364 := by kernel_rfl

abbrev listedL : List (String × DataW Unit) := [("unicode/utf8.acceptRanges", Rows.laid_unicode_utf8_acceptRanges), ("errors.errorType", Rows.laid_errors_errorType), ("unicode.asciiFold", Rows.laid_unicode_asciiFold), ("unicode.caseOrbit", Rows.laid_unicode_caseOrbit), ("unicode.CaseRanges", Rows.laid_unicode_CaseRanges), ("unicode/utf8.first", Rows.laid_unicode_utf8_first)]
abbrev listedN : List (String × DataW Unit) := [("unicode/utf8.acceptRanges", Rows.laid_unicode_utf8_acceptRanges), ("unicode.asciiFold", Rows.laid_unicode_asciiFold), ("unicode.caseOrbit", Rows.laid_unicode_caseOrbit), ("unicode.CaseRanges", Rows.laid_unicode_CaseRanges), ("unicode/utf8.first", Rows.laid_unicode_utf8_first)]
theorem parts_of_laidL {W : World} (h : laidMetH Tryz.prog listedL W) : laidMet Tryz.prog listedN W ∧ handlesMet Tryz.prog [("errors.errorType", Rows.laid_errors_errorType)] W := h
set_option maxRecDepth 100000 in
theorem handle_of_laidL {W : World} (h : laidMetH Tryz.prog listedL W) : ErrType W := by
  have h2 := parts_of_laidL h
  obtain ⟨name, u, ty, e1, e2, e3, e4, e5⟩ := h2.2 _ (List.mem_singleton.2 rfl)
  have en : name = [101, 114, 114, 111, 114] := (Option.some.inj e1).symm
  subst en
  obtain rfl := Option.some.inj (l_rt.symm.trans e2)
  have hm : ty ∈ (List.range 364).filter fun t => Tryz.prog.rowNamed t [101, 114, 114, 111, 114] := List.mem_filter.2 ⟨List.mem_range.2 (by rw [← l_size]; exact e3), e4⟩
  rw [l_oneRow] at hm
  obtain rfl := List.mem_singleton.1 hm
  have hh : typeHandle Tryz.prog 26 = .pointer (some ⟨7, 26, none⟩) := by kernel_rfl
  rw [hh] at e5
  have h3 := World.var?_cell l_et e5 0
  unfold ErrType
  simpa using h3
def u8ren : Go.Shelf.Ren := ⟨fun n => n, fun | 5 => 5 | 119 => 313 | 138 => 315 | 139 => 316 | n => n, fun | 3 => 2 | 4 => 3 | n => n⟩
theorem u8types : U8Types Tryz.prog u8ren := ⟨by kernel_rfl, by kernel_rfl, by kernel_rfl, by kernel_rfl⟩
set_option maxRecDepth 100000 in
theorem e_first : Rows.laid_unicode_utf8_first = Lib.firstData := by kernel_rfl
set_option maxRecDepth 100000 in
theorem e_acc : (Rows.laid_unicode_utf8_acceptRanges : DataW Unit) = Lib.acceptData := by kernel_rfl
theorem utf8_of_laidL {W : World} (h : laidMetH Tryz.prog listedL W) : Lib.Utf8Tabs 2 3 W := by
  have h1 := Lib.laidMet.reads (parts_of_laidL h).1 (n := "unicode/utf8.first") (d := Rows.laid_unicode_utf8_first) (.tail _ (.tail _ (.tail _ (.tail _ (.head _)))))
  have h2 := Lib.laidMet.reads (parts_of_laidL h).1 (n := "unicode/utf8.acceptRanges") (d := Rows.laid_unicode_utf8_acceptRanges) (.head _)
  rw [e_first] at h1
  rw [e_acc] at h2
  exact utf8Tabs_of_readsT u8types ⟨by kernel_rfl, by kernel_rfl, by kernel_rfl, by kernel_rfl, by kernel_rfl, by kernel_rfl, by kernel_rfl⟩ h1 h2
def intsOf : DataW Unit → List Int
  | .agg ds => ds.map fun
    | .lit (.int _ n) => n
    | _ => 0
  | _ => []
set_option maxRecDepth 100000 in
theorem e_fold : (Rows.laid_unicode_asciiFold : DataW Unit) = tabData .u16 (intsOf Rows.laid_unicode_asciiFold) := by kernel_rfl
theorem f_name : Tryz.prog.globalNamed "unicode.asciiFold" = some 4 := by kernel_rfl
theorem f_type : (Tryz.prog.globals[4]?).map (·.type) = some 326 := by kernel_rfl
theorem o_name : Tryz.prog.globalNamed "unicode.caseOrbit" = some 5 := by kernel_rfl
theorem o_type : (Tryz.prog.globals[5]?).map (·.type) = some 327 := by kernel_rfl
theorem c_u16 : Tryz.prog.cellsOf 325 = 1 := by kernel_rfl
theorem c_128 : Tryz.prog.cellsOf 326 = 128 := by kernel_rfl
theorem c_pair : Tryz.prog.cellsOf 329 = 2 := by kernel_rfl
set_option maxRecDepth 100000 in
theorem fold1_of_laidL {W : World} (h : laidMetH Tryz.prog listedL W) : Fold1 W := by
  have h1 := Lib.laidMet.reads (parts_of_laidL h).1 (n := "unicode.asciiFold") (d := Rows.laid_unicode_asciiFold) (.tail _ (.head _))
  rw [e_fold] at h1
  obtain ⟨g, t, cs, fuel, p, hg, hty, hvar, hd⟩ := h1
  obtain rfl := Option.some.inj (f_name.symm.trans hg)
  obtain rfl := Option.some.inj (f_type.symm.trans hty)
  have hcs := cells_of_tab Tryz.underlying326 Tryz.underlying325 c_u16 c_128 hd
  have hc : ∀ c : Nat, W.cell? ⟨4, c, none⟩ = ((intsOf Rows.laid_unicode_asciiFold).map fun z => Value.int .u16 z)[c]? := fun c => by
    rw [World.var?_cell hg hvar c, ← Array.getElem?_toList, hcs]
  intro c hm
  rw [hc, hc]
  simp only [List.mem_cons, List.not_mem_nil, or_false] at hm
  rcases hm with rfl | rfl | rfl | rfl | rfl | rfl | rfl
  all_goals exact ⟨by kernel_rfl, by kernel_rfl⟩
def pairsOf : DataW Unit → List (DataW Unit)
  | .slice ds _ => ds
  | _ => []
theorem pair_cells {H : Type} {enc : TypeId × Value → H} {w : World} {base : Nat} {sp : Nat → Bool} {held : Bool} {fuel : Nat} {cs : List Value} {a b : Int} {p : List MemPlace}
    (h : DataW.trod enc Tryz.prog w base sp held fuel 329 cs = some (.agg [.lit (.int .u16 a), .lit (.int .u16 b)], p)) : cs[0]? = some (.int .u16 a) ∧ cs[1]? = some (.int .u16 b) := by
  obtain ⟨xs, n, rfl, hx, hl, hxl, hall⟩ := DataW.trod_struct Tryz.underlying329 h
  have hx3 : xs.map (·.1) = [.lit (.int .u16 a), .lit (.int .u16 b)] := by
    have := congrArg Prod.fst hx
    simpa using this.symm
  obtain ⟨x0, x1, rfl⟩ : ∃ x0 x1, xs = [x0, x1] := by
    match xs, hx3 with
    | [x0, x1], _ => exact ⟨x0, x1, rfl⟩
  simp only [List.map_cons, List.map_nil, List.cons.injEq, and_true] at hx3
  obtain ⟨e0, e1⟩ := hx3
  have f0 := hall 0 _ rfl
  have f1 := hall 1 _ rfl
  change DataW.trod _ _ _ _ _ _ _ 325 ((cs.drop 0).take (Tryz.prog.cellsOf 325)) = some x0 at f0
  change DataW.trod _ _ _ _ _ _ _ 325 ((cs.drop 1).take (Tryz.prog.cellsOf 325)) = some x1 at f1
  rw [c_u16] at f0 f1
  refine ⟨?_, ?_⟩
  · obtain ⟨z, hz, hx', _⟩ := DataW.trod_int Tryz.underlying325 f0
    rw [hx'] at e0
    cases e0
    exact at_of_take hz
  · obtain ⟨z, hz, hx', _⟩ := DataW.trod_int Tryz.underlying325 f1
    rw [hx'] at e1
    cases e1
    exact at_of_take hz
set_option maxRecDepth 100000 in
theorem fold2_of_laidL {W : World} (h : laidMetH Tryz.prog listedL W) : Fold2 W := by
  have h1 := Lib.laidMet.reads (parts_of_laidL h).1 (n := "unicode.caseOrbit") (d := Rows.laid_unicode_caseOrbit) (.tail _ (.tail _ (.head _)))
  obtain ⟨g, t, cs, fuel, p, hg, hty, hvar, hd⟩ := h1
  obtain rfl := Option.some.inj (o_name.symm.trans hg)
  obtain rfl := Option.some.inj (o_type.symm.trans hty)
  rcases DataW.trod_slice Tryz.underlying327 hd with ⟨_, hx'⟩ | ⟨a', len, cap, el, rs, m, rfl, hc0, hx', _, hlc, _, hel, helem, hsp, _⟩
  · have := congrArg Prod.fst hx'
    cases this
  have e0 := congrArg (fun x => pairsOf x.1) hx'
  have eE : pairsOf Rows.laid_unicode_caseOrbit = el.map (·.1) := e0
  have hpl : (pairsOf Rows.laid_unicode_caseOrbit).length = 94 := by kernel_rfl
  have hlen : len = 94 := by
    have := congrArg List.length eE
    rw [hpl, List.length_map] at this
    omega
  have hrow : ∀ (i : Nat) (a b : Int), (pairsOf Rows.laid_unicode_caseOrbit)[i]? = some (.agg [.lit (.int .u16 a), .lit (.int .u16 b)]) → W.cell? ((a'.add (i * 2)).add 0) = some (.int .u16 a) ∧ W.cell? ((a'.add (i * 2)).add 1) = some (.int .u16 b) := by
    intro i a b hi
    have hil := (List.getElem?_eq_some_iff.1 hi).1
    rw [hpl] at hil
    have h1 := helem i (by omega)
    rw [c_pair] at h1
    obtain ⟨b1, hb⟩ : ∃ b, el[i]? = some b := ⟨el[i]'(by omega), List.getElem?_eq_getElem (by omega)⟩
    rw [hb] at h1
    obtain ⟨ce, hce, hte⟩ := Option.bind_eq_some_iff.1 h1
    have hb1 : b1.1 = .agg [.lit (.int .u16 a), .lit (.int .u16 b)] := by
      rw [eE, List.getElem?_map, hb, Option.map_some] at hi
      exact Option.some.inj hi
    obtain ⟨q0, q1⟩ := pair_cells (p := b1.2) (by rw [← hb1]; exact hte)
    obtain ⟨_, _, hcc⟩ := World.cells?_some hce
    exact ⟨by rw [hcc 0 (by omega), q0], by rw [hcc 1 (by omega), q1]⟩
  obtain ⟨R, oR, sR⟩ := a'
  obtain rfl : sR = none := by
    have h00 := (hrow 0 75 107 (by kernel_rfl)).1
    have : (Addr.add (Addr.add ⟨R, oR, sR⟩ (0 * 2)) 0) = ⟨R, oR, sR⟩ := by simp [Addr.add]
    rw [this] at h00
    exact cell_spot h00
  have hc : ∀ (i : Nat) (a b : Int), (pairsOf Rows.laid_unicode_caseOrbit)[i]? = some (.agg [.lit (.int .u16 a), .lit (.int .u16 b)]) → W.cell? ⟨R, oR + i * 2, none⟩ = some (.int .u16 a) ∧ W.cell? ⟨R, oR + (i * 2 + 1), none⟩ = some (.int .u16 b) := by
    intro i a b hi
    obtain ⟨q0, q1⟩ := hrow i a b hi
    have a0 : (Addr.add (Addr.add ⟨R, oR, none⟩ (i * 2)) 0) = ⟨R, oR + i * 2, none⟩ := by simp [Addr.add]
    have a1 : (Addr.add (Addr.add ⟨R, oR, none⟩ (i * 2)) 1) = ⟨R, oR + (i * 2 + 1), none⟩ := by rw [Addr.add_mid, Addr.add_mid, Nat.add_assoc]
    rw [a0] at q0
    rw [a1] at q1
    exact ⟨q0, q1⟩
  have hR := World.block_lt_of_cell? W _ (hc 0 75 107 (by kernel_rfl)).1
  refine ⟨R, oR, cap, hR, ?_, (hc 47 966 981 (by kernel_rfl)).1, (hc 23 837 921 (by kernel_rfl)).1, (hc 11 452 453 (by kernel_rfl)).1, (hc 5 197 229 (by kernel_rfl)).1, (hc 8 304 304 (by kernel_rfl)).1, (hc 10 383 83 (by kernel_rfl)).1, (hc 9 305 305 (by kernel_rfl)).1, (hc 10 383 83 (by kernel_rfl)).2⟩
  rw [World.var?_cell hg hvar 0, ← Array.getElem?_toList, hc0, hlen]
  rfl
theorem tabs_of_laidL {W : World} (h : laidMetH Tryz.prog listedL W) : Tabs W := ⟨utf8_of_laidL h, fold1_of_laidL h, fold2_of_laidL h⟩
end Go.Proofs.YtjgijbeedgggdaaGreatDoor

namespace Go.Proofs.YtjgijbeedgggdaaGreatDoor
open Go.ChangeShapes Go.WideShapes Go.RowKit Go.Lib

def caseRen : Go.Shelf.Ren := ⟨Tryz.lays274_ren.f, Tryz.lays274_ren.t, fun | 13 => 6 | n => n⟩
theorem caseLays : Go.Proofs.Lays.n274 Tryz.prog caseRen := { Tryz.lays274 with }
theorem case206 : Tryz.prog.underlying (caseRen.t 206) = some (.array 3 (caseRen.t 21)) := by kernel_rfl
theorem caseX : CaseExtra Tryz.prog caseRen := ⟨by kernel_rfl, by kernel_rfl, by kernel_rfl, by kernel_rfl, by kernel_rfl, by kernel_rfl⟩
set_option maxRecDepth 100000 in
theorem laidIn_caseL {w : World} (R : Nat) (t : TypeId) (hgR : 6 ≠ R)
    (hvar : w.heap[6]? = some (.cells #[.slice (some ⟨R, 0, none⟩) caseA.size caseA.size] 332 (0, 0)))
    (hblk : w.heap[R]? = some (.cells caseCells5 t (0, 0))) : LaidIn Tryz.prog w [("unicode.CaseRanges", caseData)] [6, R] := by
  have hT := caseTab_of_block hblk
  have hread := case_slice_reads caseLays case206 caseX hT caseA_wf (by rw [caseA_size]; unfold maxLen; omega) 0
  rw [case_rows_data] at hread
  have hv : w.var? Tryz.prog "unicode.CaseRanges" = some #[.slice (some ⟨R, 0, none⟩) caseA.size caseA.size] := by
    have hn := caseX.n13
    simp only [caseRen] at hn
    simp [World.var?, hn, hvar]
  have hshape : MemPlace.row ⟨6, 0, none⟩ (#[Value.slice (some ⟨R, 0, none⟩) caseA.size caseA.size] : Array Value).size ++ MemPlace.row ⟨R, 0, none⟩ (caseA.size * 5) =
      ([((⟨6, 0, none⟩ : Addr), 1), (⟨R, 0, none⟩, caseA.size * 5)] : List (Addr × Nat)).flatMap (fun r => MemPlace.row r.1 r.2) := by simp
  refine LaidIn.one _ caseX.n13 caseX.y13 hv hread ?_ ?_ ?_
  · show (MemPlace.row ⟨6, 0, none⟩ _ ++ _).Nodup
    rw [hshape]
    exact rows_nodup _ (by simp; exact hgR)
  · show RowsFit _ _ (MemPlace.row ⟨6, 0, none⟩ _ ++ _)
    rw [hshape]
    intro b off hp
    simp only [List.flatMap_cons, List.flatMap_nil, List.append_nil, List.mem_append] at hp
    rcases hp with hp | hp
    · obtain ⟨i, hi, e'⟩ := MemPlace.mem_row.1 hp
      cases e'
      refine ⟨⟨_, _, hvar⟩, fun u v hc' => ?_⟩
      obtain rfl : i = 0 := Nat.lt_one_iff.1 hi
      rw [cell_of_heap hvar] at hc'
      cases hc'
    · obtain ⟨i, hi, e⟩ := MemPlace.mem_row.1 hp
      cases e
      refine ⟨⟨_, _, hblk⟩, fun u v hc => ?_⟩
      obtain ⟨c0, c1, c2, c3, c4⟩ := hT (i / 5) (by omega)
      have hi5 : 0 + i = 0 + i / 5 * 5 + i % 5 := by omega
      simp only at hc
      rw [hi5] at hc
      have hm : i % 5 < 5 := Nat.mod_lt _ (by omega)
      match hk : i % 5, hm with
      | 0, _ => rw [hk, Nat.add_zero, c0] at hc; cases hc
      | 1, _ => rw [hk, c1] at hc; cases hc
      | 2, _ => rw [hk, c2] at hc; cases hc
      | 3, _ => rw [hk, c3] at hc; cases hc
      | 4, _ => rw [hk, c4] at hc; cases hc
  · show ∀ x ∈ MemPlace.row ⟨6, 0, none⟩ _ ++ _, _
    rw [hshape]
    exact rows_block _
def flatV : Nat → DataW Unit → List Value
  | _ + 1, .lit (.int k n) => [.int k n]
  | fu + 1, .agg ds => ds.flatMap (flatV fu)
  | fu + 1, .slice ds _ => ds.flatMap (flatV fu)
  | _, _ => []
noncomputable def baseL (os : Os) : World := ((World.holding Tryz.prog os ⟨#[], #[], []⟩).alloc (.cells (flatV 5 Rows.laid_unicode_caseOrbit).toArray 329)).alloc (.cells caseCells5 338)
noncomputable def laidWorldL (os : Os) : World :=
  ((((((baseL os).setRow 3 (flatV 5 Rows.laid_unicode_utf8_acceptRanges).toArray).setRow 2 (flatV 5 Rows.laid_unicode_utf8_first).toArray).setRow 4 (flatV 5 Rows.laid_unicode_asciiFold).toArray).setRow 5 #[.slice (some ⟨(World.holding Tryz.prog os ⟨#[], #[], []⟩).heap.size, 0, none⟩) 94 94]).setRow 6 #[.slice (some ⟨(World.holding Tryz.prog os ⟨#[], #[], []⟩).heap.size + 1, 0, none⟩) caseA.size caseA.size]).setRow 0 #[.iface 287 (.agg #[.pointer (some ⟨7, 26, none⟩)])]
set_option maxRecDepth 100000 in
theorem e_case : Rows.laid_unicode_CaseRanges = caseData := by kernel_rfl
set_option maxRecDepth 100000 in
theorem metL (os : Os) (args : Array Value) : laidMetH Tryz.prog listedL ((laidWorldL os).forCall (fun _ _ => 0) ⟨#[], args, []⟩).memory := by
  have hA : LaidIn Tryz.prog ((laidWorldL os).forCall (fun _ _ => 0) ⟨#[], args, []⟩).memory [("unicode/utf8.acceptRanges", Rows.laid_unicode_utf8_acceptRanges), ("unicode.asciiFold", Rows.laid_unicode_asciiFold), ("unicode.caseOrbit", Rows.laid_unicode_caseOrbit)] [3, 4, 5, (World.holding Tryz.prog os ⟨#[], #[], []⟩).heap.size] :=
    LaidIn.of_run _ 8 (by kernel_rfl) (by kernel_rfl) (by kernel_rfl) (by kernel_rfl)
  have hB := laidIn_caseL (w := ((laidWorldL os).forCall (fun _ _ => 0) ⟨#[], args, []⟩).memory) ((World.holding Tryz.prog os ⟨#[], #[], []⟩).heap.size + 1) 338 (of_decide_eq_true (by kernel_rfl)) (by kernel_rfl) (by kernel_rfl)
  rw [← e_case] at hB
  have hC : LaidIn Tryz.prog ((laidWorldL os).forCall (fun _ _ => 0) ⟨#[], args, []⟩).memory [("unicode/utf8.first", Rows.laid_unicode_utf8_first)] [2] :=
    LaidIn.of_run _ 8 (by kernel_rfl) (by kernel_rfl) (by kernel_rfl) (by kernel_rfl)
  exact laidMetH_of_parts ((LaidIn.append hA (LaidIn.append hB hC (by kernel_rfl)) (by kernel_rfl)).met) (by kernel_rfl)
end Go.Proofs.YtjgijbeedgggdaaGreatDoor

namespace Go.Proofs.YtjgijbeedgggdaaGreatDoor.fnLexJoined
open Go.ChangeShapes Go.WideShapes Go.ChangeAt Go.RowKit
open Go.WideMaps Go.WideElems
open Go.ChangeMaps (open_string shut_string)

abbrev listed : List (String × DataW Unit) := listedL
set_option maxRecDepth 100000 in
theorem contract (H : Type) (enc : TypeId × Value → H) (W : World) (base : Nat) (args : Array Value) (ds gs : List (DataW H)) (before : List MemPlace)
    (hval : ∀ (j : Nat) t v, Tryz.f8.params[j]? = some t → args[j]? = some v → Value.okWide Tryz.prog W .any base t v)
    (hW : DataW.Whole enc Tryz.prog Tryz.f8.params.toList Rows.lexJoinedSpec.vars false W args.toList ds gs before)
    (hz : (DataW.weightsEach Tryz.prog (Tryz.f8.params.toList ++ (OpenSpec.ofChange Rows.lexJoinedSpec).bare.plain.varTypes Tryz.prog) (ds ++ gs)).all (· ≤ reachBytes) = true)
    (hL : laidMetH Tryz.prog listed W) :
    Calls Tryz.prog 8 args W fun e W' => ∃ v, e = .returned v ∧ Rows.lexJoinedSpec.post enc Tryz.prog Tryz.f8 false true false false W args v W' := by
  have hW' := hW
  obtain ⟨p, q, hA0, hV, rfl, hfz, hnd⟩ := hW
  have hA : DataW.TrodAll enc Tryz.prog W 0 (fun _ => true) true Tryz.f8.params.toList args.toList ds p := hA0
  rw [Tryz.params8] at hA hval
  obtain ⟨v0, vs0, d0, ds0, p0, q0, hargs, rfl, rfl, h0, r0⟩ := trodAll_cons hA
  obtain ⟨v1, vs1, d1, ds1, p1, q1, rfl, rfl, rfl, h1, r1⟩ := trodAll_cons r0
  obtain ⟨rfl, rfl, rfl⟩ := trodAll_nil r1
  obtain rfl : args = #[v0, v1] := by cases args; simp_all
  obtain ⟨rfl, rfl⟩ := trodVars_none hV
  clear hA0
  simp only [List.append_nil] at hW'
  have k0 := fun (W' : World) (hg : Below W.heap.size W W') => Below.trod (by kernel_rfl) (by kernel_rfl) (of_decide_eq_true (by kernel_rfl)) h0 hg (by obtain ⟨fu, hf⟩ := h0; exact DataW.trod_lt _ _ _ _ hf)
  obtain ⟨s0, rfl, rfl, rfl, hs0⟩ := open_string Tryz.underlying9 (hval 0 9 v0 rfl rfl) h0
  have k1 := fun (W' : World) (hg : Below W.heap.size W W') => Below.trod (by kernel_rfl) (by kernel_rfl) (of_decide_eq_true (by kernel_rfl)) h1 hg (by obtain ⟨fu, hf⟩ := h1; exact DataW.trod_lt _ _ _ _ hf)
  obtain ⟨s1, rfl, rfl, rfl, hs1⟩ := open_int Tryz.underlying3 (hval 1 3 v1 rfl rfl) h1
  have z0 : s0.size ≤ 140737488351232 := by have e := Lib.size_eq s0; have h := sized_string (j := 0) (t := 9) (bytes := s0.data.toList) hz rfl rfl; have e2 : reachBytes = 140737488351232 := rfl; omega
  refine (lexjoined_law s0 s1 W (tabs_of_laidL hL) (handle_of_laidL hL)).mono fun e W' ⟨he, hg⟩ => ?_
  subst he
  have e1 : Rows.lexJoinedSpec.fn H ([.lit (.string s0.data.toList), .lit (.int .i64 s1)] ++ []) = { results := [.lit (.bool true)], args := [.lit (.string s0.data.toList), .lit (.int .i64 s1)] } := by simp [Rows.lexJoinedSpec]
  refine ⟨_, rfl, _, _, _, [], [] ++ ([] ++ []), [], hW', ?_, ?_, ?_, hg.frame _, fun h => by cases h⟩
  · rw [e1]; exact trodAll_mk1 (shut_bool Tryz.underlying4 true)
  · rw [e1]; exact trodAll_cons_mk (k0 W' hg) (trodAll_cons_mk (k1 W' hg) trodAll_mk0)
  · rw [e1]; rfl

set_option maxRecDepth 100000 in
theorem met (os : Os) (args : Array Value) : laidMetH Tryz.prog listed ((laidWorldL os).forCall (fun _ _ => 0) ⟨#[], args, []⟩).memory :=
  metL os args
theorem reads (os : Os) {H : Type} (enc : TypeId × Value → H) : ∃ places, DataW.whole enc Tryz.prog ((laidWorldL os).forCall (fun _ _ => 0) ⟨#[], #[.string ⟨#[]⟩, .int .i64 0], []⟩).memory Tryz.f8.params.toList Rows.lexJoinedSpec.vars false #[Value.string ⟨#[]⟩, Value.int .i64 0].toList 8 = some ([.lit (.string []), .lit (.int .i64 0)], [], places) :=
  ⟨[], by kernel_rfl⟩

set_option maxRecDepth 100000 in
theorem lifted (os : Os) (started : os.Started) (H : Type) (enc : TypeId × Value → H) (F : Stop.Interp) :
    ReturnsInHanded {} Tryz.checked os 8 .any ((OpenSpec.ofChange Rows.lexJoinedSpec).preRow enc Tryz.prog Tryz.f8 Rows.lexJoinedRow.domain false Rows.lexJoinedRow.laid) (((OpenSpec.ofChange Rows.lexJoinedSpec).at F).post enc Tryz.prog Tryz.f8 false true false false) := by
  obtain ⟨places, hx⟩ := reads os enc
  refine returnsInHanded_of_row (C := Tryz.checked) (s := OpenSpec.ofChange Rows.lexJoinedSpec) own started (by kernel_rfl) Tryz.func8
    (witness_row_atRef (enc := enc) (C := Tryz.checked) false (laidWorldL os) #[.string ⟨#[]⟩, .int .i64 0] rfl (by kernel_rfl) (by kernel_rfl) (by kernel_rfl)
      (OpenSpec.preRow_of_cond 8 hx (by kernel_rfl) (fun k hk => by cases hk) (by kernel_rfl) (met os _))) ?_
  intro W base args ds gs before hval hW _ _ hz hL _ _
  exact contract H enc W base args ds gs before hval hW hz hL

theorem said : Rows.LexJoinedSaid :=
  OpenClaim.holds_of_cond 8 Tryz.f8 rfl rfl rfl rfl rfl rfl rfl ⟨rfl, rfl, rfl, rfl, rfl⟩ rfl rfl rfl rfl rfl (by kernel_rfl) Tryz.func8 (by kernel_rfl)
    (of_decide_eq_true (by kernel_rfl)) (by unfold Func.isWrapper; rw [if_neg (of_decide_eq_false (by kernel_rfl))]; exact ⟨rfl, rfl⟩)
    (fun os started H enc _ F => by rw [OpenClaim.pre_eq_preRow]; exact lifted os started H enc F)

theorem plainly (f : FuncId) (fn : Func) (hf : Tryz.pinned.checked.prog.funcNamed "strata/stratalaw14.LexJoined" = some f) (hfn : Tryz.pinned.checked.prog.funcs[f]? = some fn) :
    true = Tryz.pinned.checked.prog.looks [] ∧ ∀ (j : Nat) t, fn.params[j]? = some t → Tryz.pinned.checked.prog.wantsStandIn t = false := by
  obtain rfl : f = 8 := Option.some.inj ((show Tryz.prog.funcNamed "strata/stratalaw14.LexJoined" = some 8 by kernel_rfl).symm.trans hf) |>.symm
  obtain rfl : fn = Tryz.f8 := (Option.some.inj (Tryz.func8.symm.trans hfn)).symm
  refine ⟨by kernel_rfl, fun j t ht => ?_⟩
  rw [Tryz.params8] at ht
  have hm : t ∈ [9, 3] := by simpa using Array.mem_of_getElem? ht
  have hall : ([9, 3].all fun u => !Tryz.prog.wantsStandIn u) = true := by kernel_rfl
  exact (show Tryz.prog.wantsStandIn t = false by simpa using List.all_eq_true.1 hall t hm)

theorem card : Rows.LexJoinedCardSaid :=
  Claim7.holds_tied_plain_at .later [] _ _ _ _ said (fun _ h => by cases h) (by kernel_rfl) (fun _ h => by cases h) lexJoined_row_tie rfl ⟨rfl, rfl⟩ (by kernel_rfl) rfl plainly (by kernel_rfl)
end Go.Proofs.YtjgijbeedgggdaaGreatDoor.fnLexJoined
namespace Go.Proofs.YtjgijbeedgggdaaGreatDoor
theorem lexJoined_card : Rows.LexJoinedCardSaid := fnLexJoined.card
end Go.Proofs.YtjgijbeedgggdaaGreatDoor
