/- Package glob's byteSet: has, add, turn. -/
import Derived.Test.YthkbhcefckbcnaaGreatDoorRangeG
import Derived.Laws.BitsAllLaws
import Derived.RangeFuncBox
namespace Go.Proofs.YthkbhcefckbcnaaGreatDoor
open Go Go.RowKit

/-- Block B holds just these cells. -/
def Lies (W : World) (B : Nat) (t : TypeId) (cur : Array Value) : Prop := W.heap[B]? = some (.cells cur t (0, 0))
theorem Lies.cell {W : World} {B i : Nat} {t : TypeId} {cur : Array Value} {v : Value} (h : Lies W B t cur) (hv : cur[i]? = some v) : W.cell? ⟨B, i, none⟩ = some v := by simp [World.cell?, show W.heap[B]? = _ from h, hv]
theorem Lies.frozen {W : World} {B : Nat} {t : TypeId} {cur : Array Value} (h : Lies W B t cur) (i : Nat) : W.frozen? ⟨B, i, none⟩ = false := by simp [World.frozen?, show W.heap[B]? = _ from h]
theorem Lies.lt {W : World} {B : Nat} {t : TypeId} {cur : Array Value} (h : Lies W B t cur) : B < W.heap.size := (Array.getElem?_eq_some_iff.1 h).1
theorem Lies.new (W : World) (t : TypeId) (cur : Array Value) : Lies (W.alloc (.cells cur t)) W.heap.size t cur := World.alloc_heap_new W _
theorem Lies.set {W : World} {B i : Nat} {t : TypeId} {cur : Array Value} (h : Lies W B t cur) (v : Value) : Lies (W.setCell ⟨B, i, none⟩ v) B t (cur.setIfInBounds i v) := by
  obtain ⟨hlt, hk⟩ := Array.getElem?_eq_some_iff.1 h
  show (W.heap.modify B _)[B]? = _
  rw [Array.getElem?_eq_getElem (by rw [Array.size_modify]; exact hlt), Array.getElem_modify_self, hk]
  rfl
theorem Lies.below {W W2 : World} {B : Nat} {t : TypeId} {cur : Array Value} (h : Lies W B t cur) (hb : Below W.heap.size W W2) : Lies W2 B t cur := (hb.block B h.lt).trans h
theorem Lies.alloc {W : World} {B : Nat} {t : TypeId} {cur : Array Value} (h : Lies W B t cur) (o : Obj) : Lies (W.alloc o) B t cur := (Below.heap_alloc W o B h.lt).trans h
theorem Lies.drew {W : World} {B : Nat} {t : TypeId} {cur : Array Value} (h : Lies W B t cur) (k : Nat) : Lies (W.drewN k) B t cur := h

def u64V (n : Nat) : Value := .int .u64 n
def wordsL (x : Nat → Nat) : List Value := [u64V (x 0), u64V (x 1), u64V (x 2), u64V (x 3)]
/-- Whose bit of a set's four words it is. -/
def bitOf (x : Nat → Nat) (b : UInt8) : Bool := (x (b.toNat / 64)).testBit (b.toNat % 64)
def Words (x : Nat → Nat) : Prop := ∀ j, x j < 18446744073709551616

theorem bit_shift (a k : Nat) : ((((a / 2 ^ k) &&& 1 : Nat) : Int) == 1) = a.testBit k := by
  rw [Nat.and_one_is_mod, Nat.testBit_eq_decide_div_mod_eq]
  by_cases h : a / 2 ^ k % 2 = 1
  · simp [h]
  · have h2 : a / 2 ^ k % 2 = 0 := by omega
    simp [h2]

set_option maxHeartbeats 1000000 in
theorem has_p (B o : Nat) (x : Nat → Nat) (b : UInt8) (w : World) (hx : Words x) (hc : ∀ j, j < 4 → w.cell? ⟨B, o + j, none⟩ = some (.int .u64 (x j))) :
    Calls Tryz.prog 109 #[.pointer (some ⟨B, o, none⟩), .int .u8 b.toNat] w fun e w' => e = .returned (.bool (bitOf x b)) ∧ w' = w := by
  have hb := b.toNat_lt
  have hq : b.toNat / 64 < 4 := by omega
  have hxj := hx (b.toNat / 64)
  have hle : x (b.toNat / 64) / 2 ^ (b.toNat % 64) < 18446744073709551616 := Nat.lt_of_le_of_lt (Nat.div_le_self _ _) hxj
  have hand : bits .and .u64 ((x (b.toNat / 64) / 2 ^ (b.toNat % 64) : Nat) : Int) 1 = (((x (b.toNat / 64) / 2 ^ (b.toNat % 64)) &&& 1 : Nat) : Int) := u64_and_nat _ 1 hle (by decide)
  go_enter Tryz.func109, Tryz.ntmps109
  go_wp2
  go_ret
  have e : ((x (b.toNat / 64) : Int) / 2 ^ (b.toNat % 64)) = ((x (b.toNat / 64) / 2 ^ (b.toNat % 64) : Nat) : Int) := by simp
  refine ⟨?_, rfl⟩
  show Ending.returned (.bool (bits .and .u64 ((x (b.toNat / 64) : Int) / 2 ^ (b.toNat % 64)) 1 == 1)) = _
  rw [e, hand, bit_shift]; rfl

def setCells (pre : List Value) (x : Nat → Nat) : Array Value := (pre ++ wordsL x).toArray
theorem setCells_at (pre : List Value) (x : Nat → Nat) (j : Nat) (hj : j < 4) : (setCells pre x)[pre.length + j]? = some (.int .u64 (x j)) := by
  unfold setCells
  rw [List.getElem?_toArray, List.getElem?_append_right (by omega), show pre.length + j - pre.length = j by omega]
  rcases j with _ | _ | _ | _ | j
  · rfl
  · rfl
  · rfl
  · rfl
  · omega
def upd (x : Nat → Nat) (j v : Nat) : Nat → Nat := fun i => if i = j then v else x i
theorem setCells_put (pre : List Value) (x : Nat → Nat) (j v : Nat) (hj : j < 4) : (setCells pre x).setIfInBounds (pre.length + j) (.int .u64 v) = setCells pre (upd x j v) := by
  unfold setCells
  apply Array.toList_inj.1
  rw [Array.toList_setIfInBounds]
  simp only [List.set_append_right _ _ (Nat.le_add_right pre.length j), show pre.length + j - pre.length = j by omega]
  rcases j with _ | _ | _ | _ | j
  · simp [wordsL, upd, u64V]
  · simp [wordsL, upd, u64V]
  · simp [wordsL, upd, u64V]
  · simp [wordsL, upd, u64V]
  · omega

theorem or_val (a r : Nat) (ha : a < 18446744073709551616) (hr : r < 64) : bits .or .u64 (a : Int) (IntKind.u64.wrap (2 ^ r)) = ((a ||| 2 ^ r : Nat) : Int) := by
  have h1 : (2 : Nat) ^ r < 18446744073709551616 := Nat.lt_of_lt_of_le (Nat.pow_lt_pow_right (by decide) hr) (by decide)
  have h2 : IntKind.u64.wrap ((2 : Int) ^ r) = ((2 ^ r : Nat) : Int) := by
    have e : ((2 : Int) ^ r) = ((2 ^ r : Nat) : Int) := by simp
    have hwr : ∀ n : Int, IntKind.u64.wrap n = n % 18446744073709551616 := fun n => by simp [IntKind.wrap, IntKind.bits, IntKind.signed]
    rw [e, hwr]
    generalize (2 ^ r : Nat) = q at h1 ⊢
    omega
  rw [h2]
  exact u64_or_nat a _ ha h1
theorem or_lt (a r : Nat) (ha : a < 18446744073709551616) (hr : r < 64) : a ||| 2 ^ r < 18446744073709551616 :=
  Nat.or_lt_two_pow (n := 64) ha (Nat.pow_lt_pow_right (by decide) hr)
theorem bit_add (x : Nat → Nat) (k : Nat) (b : UInt8) : bitOf (upd x (k / 64) (x (k / 64) ||| 2 ^ (k % 64))) b = (bitOf x b || decide (b.toNat = k)) := by
  unfold bitOf upd
  by_cases h : b.toNat / 64 = k / 64
  · rw [if_pos h, Nat.testBit_or, Nat.testBit_two_pow, h]
    congr 1
    by_cases h2 : k % 64 = b.toNat % 64
    · rw [decide_eq_true h2, decide_eq_true (show b.toNat = k by omega)]
    · rw [decide_eq_false h2, decide_eq_false (show ¬ b.toNat = k by omega)]
  · rw [if_neg h, decide_eq_false (show ¬ b.toNat = k by omega), Bool.or_false]
theorem upd_words {x : Nat → Nat} (h : Words x) (j v : Nat) (hv : v < 18446744073709551616) : Words (upd x j v) := fun i => by
  unfold upd; split
  · exact hv
  · exact h i
theorem grown_set {w wr : World} {B i : Nat} (v : Value) (h : w.grownBy wr (some B)) : w.grownBy ((wr.setCell ⟨B, i, none⟩ v)) (some B) := by
  have hs : (wr.setCell ⟨B, i, none⟩ v).heap.size = wr.heap.size := by simp [World.setCell]
  exact ⟨h.os, h.tape, h.output, by rw [hs]; exact h.size, fun k hk hne => (Below.heap_setCell wr ⟨B, i, none⟩ v k (fun e => hne (by rw [e]))).trans (h.block k hk hne)⟩
theorem grown_drew {w wr : World} {row : Option Nat} (h : w.grownBy wr row) : w.grownBy wr.drew row := ⟨h.os, h.tape, h.output, h.size, h.block⟩
theorem grown_refl (w : World) (row : Option Nat) : w.grownBy w row := ⟨rfl, rfl, rfl, Nat.le_refl _, fun _ _ _ => rfl⟩

set_option maxHeartbeats 4000000 in
theorem add_p (B : Nat) (t : TypeId) (pre : List Value) (x : Nat → Nat) (lo hi : UInt8) (w : World) (hx : Words x) (hl : Lies w B t (setCells pre x)) :
    Calls Tryz.prog 145 #[.pointer (some ⟨B, pre.length, none⟩), .int .u8 lo.toNat, .int .u8 hi.toNat] w fun e w' => e = .returned (.tuple #[]) ∧ ∃ x2, Words x2 ∧ (∀ b, bitOf x2 b = addS (bitOf x) lo hi b) ∧ Lies w' B t (setCells pre x2) ∧ w.grownBy w' (some B) := by
  have hlo := lo.toNat_lt
  have hhi := hi.toNat_lt
  go_enter Tryz.func145, Tryz.ntmps145
  go_wp2
  go_loopw [6] (fun i wr => ∃ (k : Nat) (x2 : Nat → Nat), i = .int .i64 k ∧ lo.toNat ≤ k ∧ k ≤ 256 ∧ (lo.toNat < k → k ≤ hi.toNat + 1) ∧ Words x2 ∧ (∀ b : UInt8, bitOf x2 b = (bitOf x b || (decide (lo.toNat ≤ b.toNat) && decide (b.toNat < k)))) ∧ Lies wr B t (setCells pre x2) ∧ w.grownBy wr (some B)) (fun i _ => 256 - (intOf i).toNat)
  case atStart =>
    refine ⟨lo.toNat, x, by go_num, Nat.le_refl _, by omega, fun h => by omega, hx, fun b => ?_, hl, grown_refl _ _⟩
    cases hd : decide (b.toNat < lo.toNat)
    · simp
    · have := of_decide_eq_true hd
      rw [decide_eq_false (show ¬ lo.toNat ≤ b.toNat by omega)]; simp
  case round =>
    obtain ⟨k, x2, rfl, hk1, hk2, hk3, hw2, hb2, hl2, hg2⟩ := hrel
    by_cases hlt : k ≤ hi.toNat
    · have hc := hl2.cell (setCells_at pre x2 (k / 64) (by omega))
      have hf := hl2.frozen (pre.length + k / 64)
      have hxj := hw2 (k / 64)
      have Hl : Hid _ := hl2
      have Hb : Hid _ := hb2
      have Hg : Hid _ := hg2
      have Hw : Hid _ := hw2
      clear hl2 hb2 hg2 hl hx hw2
      go_wp2
      go_region
      go_wp2
      go_roundw
      case rel =>
        refine ⟨k + 1, upd x2 (k / 64) (x2 (k / 64) ||| 2 ^ (k % 64)), by go_num, by omega, by omega, fun _ => by omega, upd_words Hw.out _ _ (or_lt _ _ hxj (by omega)), fun b => ?_, ?_, grown_drew (grown_set _ Hg.out)⟩
        · rw [bit_add, Hb.out b]
          cases bitOf x b
          · rw [Bool.false_or, Bool.false_or]
            by_cases h1 : lo.toNat ≤ b.toNat
            · by_cases h2 : b.toNat < k
              · simp [h1, h2, show b.toNat < k + 1 by omega]
              · by_cases h3 : b.toNat = k
                · simp [h3, hk1]
                · simp [h1, h2, h3, show ¬ b.toNat < k + 1 by omega]
            · simp [h1]; omega
          · simp
        · rw [or_val _ _ hxj (by omega), ← setCells_put pre x2 (k / 64) _ (by omega)]
          exact Lies.set (i := pre.length + k / 64) Hl.out _
      case measure => simp [intOf]; omega
    · have Hb : Hid _ := hb2
      have Hl : Hid _ := hl2
      clear hb2 hl2 hl hx
      go_wp2
      go_end0
      refine ⟨rfl, x2, hw2, fun b => ?_, Hl.out, hg2⟩
      rw [Hb.out b]
      unfold addS
      rw [show decide (lo ≤ b) = decide (lo.toNat ≤ b.toNat) from decide_eq_decide.2 UInt8.le_iff_toNat_le, show decide (b ≤ hi) = decide (b.toNat ≤ hi.toNat) from decide_eq_decide.2 UInt8.le_iff_toNat_le]
      congr 1
      by_cases h1 : lo.toNat ≤ b.toNat
      · rw [decide_eq_true h1, Bool.true_and, Bool.true_and]
        refine decide_eq_decide.2 ?_
        by_cases h2 : lo.toNat < k
        · have := hk3 h2; omega
        · omega
      · rw [decide_eq_false h1, Bool.false_and, Bool.false_and]

theorem xor_val (a : Nat) (ha : a < 18446744073709551616) : bits .xor .u64 (if IntKind.u64.signed = true then -1 else IntKind.u64.max) (a : Int) = ((18446744073709551615 ^^^ a : Nat) : Int) :=
  u64_xor_nat 18446744073709551615 a (by decide) ha
theorem bit_turn (a r : Nat) (hr : r < 64) : (18446744073709551615 ^^^ a).testBit r = !a.testBit r := by
  rw [Nat.testBit_xor, show (18446744073709551615 : Nat) = 2 ^ 64 - 1 by decide, Nat.testBit_two_pow_sub_one, decide_eq_true hr]; simp

set_option maxHeartbeats 4000000 in
theorem turn_p (B : Nat) (t : TypeId) (pre : List Value) (x : Nat → Nat) (w : World) (hx : Words x) (hl : Lies w B t (setCells pre x)) :
    Calls Tryz.prog 142 #[.pointer (some ⟨B, pre.length, none⟩)] w fun e w' => e = .returned (.tuple #[]) ∧ ∃ x2, Words x2 ∧ (∀ b, bitOf x2 b = !bitOf x b) ∧ Lies w' B t (setCells pre x2) ∧ w.grownBy w' (some B) := by
  go_enter Tryz.func142, Tryz.ntmps142
  go_wp2
  go_loopw [3] (fun i wr => ∃ (k : Nat) (x2 : Nat → Nat), i = .int .i64 k ∧ k ≤ 4 ∧ Words x2 ∧ (∀ j, x2 j = if j < k then 18446744073709551615 ^^^ x j else x j) ∧ Lies wr B t (setCells pre x2) ∧ w.grownBy wr (some B)) (fun i _ => 4 - (intOf i).toNat)
  case atStart => exact ⟨0, x, by go_num, by omega, hx, fun j => by simp, hl, grown_refl _ _⟩
  case round =>
    obtain ⟨k, x2, rfl, hk2, hw2, hb2, hl2, hg2⟩ := hrel
    by_cases hlt : k < 4
    · have hc := hl2.cell (setCells_at pre x2 k hlt)
      have hf := hl2.frozen (pre.length + k)
      have hxj := hw2 k
      have Hl : Hid _ := hl2
      have Hb : Hid _ := hb2
      have Hg : Hid _ := hg2
      have Hw : Hid _ := hw2
      clear hl2 hb2 hg2 hl hx hw2
      go_wp2
      go_region
      go_wp2
      go_roundw
      case rel =>
        refine ⟨k + 1, upd x2 k (18446744073709551615 ^^^ x2 k), by go_num, by omega, upd_words Hw.out _ _ (Nat.xor_lt_two_pow (n := 64) (by decide) hxj), fun j => ?_, ?_, grown_drew (grown_set _ Hg.out)⟩
        · unfold upd
          have e := Hb.out k
          rw [if_neg (by omega)] at e
          by_cases hj : j = k
          · subst hj; rw [if_pos rfl, if_pos (by omega), e]
          · rw [if_neg hj, Hb.out j]
            by_cases h2 : j < k
            · rw [if_pos h2, if_pos (by omega)]
            · rw [if_neg h2, if_neg (by omega)]
        · rw [xor_val _ hxj, ← setCells_put pre x2 k _ hlt]
          exact Lies.set (i := pre.length + k) Hl.out _
      case measure => simp [intOf]; omega
    · have Hb : Hid _ := hb2
      have Hl : Hid _ := hl2
      clear hb2 hl2 hl hx
      go_wp2
      go_end0
      refine ⟨rfl, x2, hw2, fun b => ?_, Hl.out, hg2⟩
      have hb := b.toNat_lt
      unfold bitOf
      rw [Hb.out (b.toNat / 64), if_pos (by omega), bit_turn _ _ (by omega)]
end Go.Proofs.YthkbhcefckbcnaaGreatDoor
