/- strings.ContainsAny of a text of at most 96 bytes, whatever they are, at the two bytes that no name has. -/
import Derived.Test.YtgildlfanfbebaaGreatDoorShelf
import Derived.Test.YtgildlfanfbebaaGreatDoorSpec
import Derived.WalkKit
import Derived.WalkSpells
import Derived.Scope
import Derived.Deep.LoopGhost
import Derived.Deep.QuietTactic
import Derived.BigQuiet
import Derived.Outline
import Derived.Laws.RangeAny
import Derived.Lib.OthersKept
import Derived.Lib.DecodeN
import Derived.Lib.IndexAny
namespace Go.Proofs.YtgildlfanfbebaaGreatDoor
open Go.RowKit

theorem enc_valid (r : Int) (h1 : 128 ≤ r) (hv : Lib.validRune r = true) : Utf8.valid r = true := by
  have h := of_decide_eq_true hv
  simp [Utf8.valid]; omega
theorem enc_last_byte (c : Nat) : 128 ≤ (UInt8.ofNat (128 + c % 64)).toNat := by
  rw [UInt8.toNat_ofNat']; omega
theorem enc_forms (r : Int) (h1 : 128 ≤ r) (hv : Lib.validRune r = true) : ∃ (a b c : UInt8) (d : UInt8), 128 ≤ d.toNat ∧ (Utf8.encode r = ⟨#[a, d]⟩ ∨ Utf8.encode r = ⟨#[a, b, d]⟩ ∨ Utf8.encode r = ⟨#[a, b, c, d]⟩) := by
  have hval := enc_valid r h1 hv
  unfold Utf8.encode
  simp only [hval, if_true]
  by_cases c1 : r.toNat < 128
  · omega
  · by_cases c2 : r.toNat < 2048
    · exact ⟨_, 0, 0, UInt8.ofNat (128 + r.toNat % 64), enc_last_byte _, .inl (by rw [if_neg c1, if_pos c2])⟩
    · by_cases c3 : r.toNat < 65536
      · exact ⟨_, _, 0, UInt8.ofNat (128 + r.toNat % 64), enc_last_byte _, .inr (.inl (by rw [if_neg c1, if_neg c2, if_pos c3]))⟩
      · exact ⟨_, _, _, UInt8.ofNat (128 + r.toNat % 64), enc_last_byte _, .inr (.inr (by rw [if_neg c1, if_neg c2, if_neg c3]))⟩
theorem index_empty (c : Int) (w : World) : Calls Tryz.prog 137 #[.string ByteArray.empty, .int .u8 c] w fun e w' => e = .returned (.int .i64 (-1)) ∧ w' = w := Tryz.strings_IndexByte ByteArray.empty c w

set_option maxRecDepth 100000 in
set_option maxHeartbeats 1000000 in
theorem rune_valid (r : Int) (w : World) (h1 : 128 ≤ r) (h2 : r ≤ 2147483647) (h3 : (r == 65533) = false) (hv : Lib.validRune r = true) : Calls Tryz.prog 171 #[.string ⟨#[0, 47]⟩, .int .i32 r] w fun e w' => e = .returned (.int .i64 (-1)) ∧ Below w.heap.size w w' := by
  have h4 : ¬ r < 128 := by omega
  go_enter Tryz.func171, Tryz.ntmps171
  go_wp2_with (go_at_call 175; refine (Tryz.utf8_ValidRune _ _).mono ?_; rintro e w' ⟨rfl, rfl⟩; rw [hv])
  obtain ⟨x, y, z, d, hd, he | he | he⟩ := enc_forms r h1 hv
  · have hne : ((((⟨#[0, 47]⟩ : ByteArray)[1]'(by decide)).toNat : Int) != (((⟨#[x, d]⟩ : ByteArray)[1]'(by show 1 < 2; decide)).toNat : Int)) = true := by
      show ((47 : Int) != (d.toNat : Int)) = true
      simp; omega
    refine wp_scope_straight ?_
    go_wp2
    refine wp_loop_rounds 1 ?_
    rw [rounds_succ]
    go_wp2
    refine wp_scope_straight ?_
    go_wp2
    go_quiet (fail)
    obtain ⟨W1, hW1⟩ : ∃ W1, w'.drewN nq = W1 := ⟨_, rfl⟩
    rw [hW1]
    have HW1 : Hid (w'.drewN nq = W1) := hW1
    clear hW1
    go_wp2
    go_quiet ((go_at_call 137; exact Calls.quiet_of_same (index_empty _ _)))
    go_wp2
    simp only [Exit.inBlock, Exit.then, Exit.noGoto]
    go_ret
    exact ⟨rfl, by rw [← HW1.out]; exact ⟨rfl, rfl, rfl, Nat.le_refl _, fun _ _ => rfl⟩⟩
  · refine wp_scope_straight ?_
    go_wp2
    refine wp_loop_rounds 1 ?_
    rw [rounds_succ]
    go_wp2
    rw [Exit.noGoto_ret]
    go_ret
    exact ⟨rfl, Below.refl _ _⟩
  · refine wp_scope_straight ?_
    go_wp2
    refine wp_loop_rounds 1 ?_
    rw [rounds_succ]
    go_wp2
    rw [Exit.noGoto_ret]
    go_ret
    exact ⟨rfl, Below.refl _ _⟩
set_option maxRecDepth 100000 in
set_option maxHeartbeats 1000000 in
theorem rune_bad (r : Int) (w : World) (h1 : 128 ≤ r) (h2 : r ≤ 2147483647) (h3 : (r == 65533) = false) (hv : Lib.validRune r = false) : Calls Tryz.prog 171 #[.string ⟨#[0, 47]⟩, .int .i32 r] w fun e w' => e = .returned (.int .i64 (-1)) ∧ Below w.heap.size w w' := by
  have h4 : ¬ r < 128 := by omega
  go_enter Tryz.func171, Tryz.ntmps171
  go_wp2_with (go_at_call 175; refine (Tryz.utf8_ValidRune _ _).mono ?_; rintro e w' ⟨rfl, rfl⟩; rw [hv])
  go_ret
  exact ⟨rfl, Below.refl _ _⟩
set_option maxRecDepth 100000 in
set_option maxHeartbeats 1000000 in
theorem rune_error (w : World) : Calls Tryz.prog 171 #[.string ⟨#[0, 47]⟩, .int .i32 65533] w fun e w' => e = .returned (.int .i64 (-1)) ∧ Below w.heap.size w w' := by
  have n0 := fun ty => run_next_ascii (P := Tryz.prog) w ⟨#[0, 47]⟩ 0 ty (by decide) (by decide)
  have n1 := fun ty => run_next_ascii (P := Tryz.prog) w ⟨#[0, 47]⟩ 1 ty (by decide) (by decide)
  have n2 := fun ty => run_next_end (P := Tryz.prog) w ⟨#[0, 47]⟩ 2 ty (by decide)
  go_enter Tryz.func171, Tryz.ntmps171
  go_wp2
  refine wp_loop_rounds 3 ?_
  rw [rounds_succ]
  go_wp2
  rw [rounds_succ]
  go_wp2
  rw [rounds_succ]
  go_wp2
  go_ret
  exact ⟨rfl, (Below.refl _ _).alloc (Nat.le_refl _) _⟩

theorem rune_hi (r : Int) (w : World) (h1 : 128 ≤ r) (h2 : r ≤ 2147483647) : Calls Tryz.prog 171 #[.string ⟨#[0, 47]⟩, .int .i32 r] w fun e w' => e = .returned (.int .i64 (-1)) ∧ Below w.heap.size w w' := by
  by_cases h3 : r = 65533
  · subst h3; exact rune_error w
  · have h3' : (r == 65533) = false := by simpa using h3
    cases hv : Lib.validRune r
    · exact rune_bad r w h1 h2 h3' hv
    · exact rune_valid r w h1 h2 h3' hv

set_option maxHeartbeats 1000000 in
theorem decode_run (s : ByteArray) (i : Nat) (h : i < s.size) : ∀ j, i ≤ j → j < i + (Utf8.decode s i).2 → j < s.size ∧ (j = i ∨ 128 ≤ (s.get! j).toNat) := by
  rw [Lib.decode_at]
  unfold Lib.decodeN
  intro j h1
  have hj : j = i ∨ j = i + 1 ∨ j = i + 2 ∨ j = i + 3 ∨ i + 4 ≤ j := by omega
  repeat' split
  all_goals
    intro h2
    simp only at h2
    rcases hj with rfl | rfl | rfl | rfl | hj
    all_goals first | exact ⟨h, .inl rfl⟩ | exact ⟨by omega, .inr (by omega)⟩ | omega
theorem get_un (s : ByteArray) (j : Nat) (b : UInt8) (h : (un s)[j]? = some b) : s.get! j = b := by
  have hl : j < s.data.size := by
    rcases Nat.lt_or_ge j s.data.size with h2 | h2
    · exact h2
    · unfold un at h; rw [List.getElem?_eq_none (by simpa using h2)] at h; cases h
  have h3 : s.data.toList[j]? = some b := h
  cases s with
  | mk d =>
    have hl2 : j < d.size := hl
    have h4 : d[j]? = some b := by simpa using h3
    rw [Array.getElem?_eq_getElem hl2] at h4
    simp [ByteArray.get!]; rw [getElem!_pos d j hl2]; exact Option.some.inj h4
theorem noAny_skip (s : ByteArray) (i : Nat) (h : i < s.size) (hhi : 128 ≤ (s[i]'h).toNat) (hn : Lib.NoAny (un s) [0, 47] i) : Lib.NoAny (un s) [0, 47] (i + (Utf8.decode s i).2) := by
  intro j b hj hb
  rcases Nat.lt_or_ge j i with h1 | h1
  · exact hn j b h1 hb
  · have hd := (decode_run s i h j h1 hj).2
    have hg := get_un s j b hb
    have h128 : 128 ≤ b.toNat := by
      rcases hd with rfl | hd
      · have e : (un s)[j]? = some (s[j]'h) := by show s.data.toList[j]? = some s.data[j]; simp
        rw [e] at hb; cases hb; exact hhi
      · rw [hg] at hd; exact hd
    have c1 : b ≠ 0 := fun e => by subst e; simp at h128
    have c2 : b ≠ 47 := fun e => by subst e; simp at h128
    simp [c1, c2]
theorem decode_end (s : ByteArray) (i : Nat) (h : i < s.size) : i + (Utf8.decode s i).2 ≤ s.size := by
  rcases Nat.lt_or_ge s.size (i + (Utf8.decode s i).2) with h1 | h1
  · have := (decode_run s i h s.size (by omega) h1).1; omega
  · exact h1

set_option maxRecDepth 100000 in
set_option maxHeartbeats 4000000 in
theorem any_short (s : ByteArray) (w : World) (h8 : s.size ≤ 8) : Calls Tryz.prog 169 #[.string s, .string ⟨#[0, 47]⟩] w fun e w' => e = .returned (.int .i64 (Lib.indexAny (un s) [0, 47])) ∧ Below w.heap.size w w' := by
  have h8z : decide ((8 : Int) < (s.size : Int)) = false := decide_eq_false (by omega)
  go_enter Tryz.func169, Tryz.ntmps169
  go_wp2_with (go_at_call 172; refine (Tryz.strings_shouldUseASCIISet _ _).mono ?_; rintro e w' ⟨rfl, hw⟩; rw [hw, h8z])
  go_loopg [9, 10] s.size (fun g _ _ wx => ∃ i : Nat, i + g = s.size ∧ wx.heap[w.heap.size]? = some (.stringIter s i) ∧ Below w.heap.size w wx ∧ Lib.NoAny (un s) [0, 47] i)
  case atStart => exact ⟨0, by omega, World.iter_heap w s 0, (Below.refl _ w).alloc (Nat.le_refl _) _, Lib.NoAny.zero _ _⟩
  case round =>
    obtain ⟨i, hig, hit, hB, hno⟩ := hrel
    cases gk with
    | zero =>
      obtain rfl : i = s.size := by omega
      have HN : Aside (Lib.NoAny (un s) [0, 47] s.size) := hno
      have Hit : Aside _ := hit
      have hnx := fun ty => Lib.run_next_end_at (P := Tryz.prog) wr w.heap.size s s.size ty hit (by omega)
      clear hno hit
      go_wp2
      go_ret
      exact ⟨by rw [Lib.indexAny_none (by rw [un_length]; exact HN.out)]; rfl, hB⟩
    | succ g =>
      have hi : i < s.size := by omega
      obtain ⟨x, hx⟩ : ∃ x : UInt8, s[i]'hi = x := ⟨_, rfl⟩
      have hxl : (un s)[i]? = some x := by rw [← hx]; show s.data.toList[i]? = some s.data[i]; simp
      have HN : Aside (Lib.NoAny (un s) [0, 47] i) := hno
      by_cases hlo : x.toNat < 128
      · have hnx := fun ty => Lib.run_next_ascii_at (P := Tryz.prog) wr w.heap.size s i ty hit hi (by rw [hx]; exact hlo)
        rw [hx] at hnx
        have Hx : Aside ((un s)[i]? = some x) := hxl
        have Hit : Aside _ := Lib.iterAt_heap wr w.heap.size s i (i + 1) hit
        have Hbel : Aside _ := Lib.below_iterAt hB (Nat.le_refl _) s (i + 1)
        clear hxl hx hno hit
        have hcon := Lib.contains_iff_indexByte [0, 47] x
        have hback : ((x.toNat : Int)).toNat.toUInt8 = x := by simp
        cases hin : ([0, 47] : List UInt8).contains x
        · rw [hin] at hcon
          have hlt : ¬ ((0 : Int) ≤ Lib.indexByte [0, 47] x) := of_decide_eq_false hcon.symm
          clear hcon
          go_wp2_with (go_at_call 171; refine (Tryz.strings_IndexRune_ascii _ _ _ (by omega) (by omega)).mono ?_; rintro e w' ⟨rfl, hw⟩; rw [hw, hback])
          go_roundg g
          case measure => omega
          case rel => exact ⟨i + 1, by omega, Hit.out, Hbel.out, HN.out.succ Hx.out hin⟩
        · rw [hin] at hcon
          have hge : (0 : Int) ≤ Lib.indexByte [0, 47] x := of_decide_eq_true hcon.symm
          clear hcon
          go_wp2_with (go_at_call 171; refine (Tryz.strings_IndexRune_ascii _ _ _ (by omega) (by omega)).mono ?_; rintro e w' ⟨rfl, hw⟩; rw [hw, hback])
          go_ret
          exact ⟨by rw [Lib.indexAny_hit HN.out Hx.out hin]; rfl, Hbel.out⟩
      · have hhi : 128 ≤ (s[i]'hi).toNat := by rw [hx]; omega
        have hnx := fun ty => Lib.run_next_any_at (P := Tryz.prog) wr w.heap.size s i ty hit hi
        have hd1 := (decode_high s i hi hhi).1
        have hd2 := (decode_high s i hi hhi).2
        have hd3 := decode_le s i
        have hd4 := decode_end s i hi
        have HK : Aside _ := noAny_skip s i hi hhi hno
        have Hit : Aside _ := Lib.iterAt_heap wr w.heap.size s i (i + (Utf8.decode s i).2) hit
        have Hbel : Aside _ := Lib.below_iterAt hB (Nat.le_refl _) s (i + (Utf8.decode s i).2)
        clear hno hit hxl hhi hx hlo
        generalize (Utf8.decode s i).1 = rr at *
        generalize (Utf8.decode s i).2 = wd at *
        go_wp2_with (go_at_call 171; refine (rune_hi _ _ (by omega) (by omega)).mono ?_; rintro e w' ⟨rfl, hb⟩)
        go_roundg (s.size - (i + wd))
        case measure => omega
        case rel => exact ⟨i + wd, by omega, (hb.block _ (Array.getElem?_eq_some_iff.1 Hit.out).1).trans Hit.out, Hbel.out.trans (hb.mono Hbel.out.size), HK.out⟩

theorem zero93 : ∀ w, (zeroValue 213).run Tryz.prog w = .ok (.agg (Array.replicate 256 (.bool false))) w := fun _ => by kernel_rfl
theorem anyOK (s : ByteArray) (hs : s.size ≤ 96) (w : World) : Calls Tryz.prog 158 #[.string s, .string ⟨#[0, 47]⟩] w fun e w' => e = .returned (.bool (Lib.containsAny (un s) [0, 47])) ∧ Below w.heap.size w w' := by
  have key : ∀ w, Calls Tryz.prog 169 #[.string s, .string ⟨#[0, 47]⟩] w fun e w' => e = .returned (.int .i64 (Lib.indexAny (un s) [0, 47])) ∧ Below w.heap.size w w' := fun w => by
    by_cases h8 : s.size ≤ 8
    · exact any_short s w h8
    · refine (Tryz.strings_IndexAny_long zero93 s ⟨#[0, 47]⟩ w (by decide) (by omega) (by omega) (by decide) (by
        intro j b h
        rcases j with _ | _ | j
        · simp at h; subst h; decide
        · simp at h; subst h; decide
        · simp at h)).mono ?_
      rintro e w' ⟨rfl, rfl⟩
      exact ⟨rfl, ((Below.refl _ w).alloc (Nat.le_refl _) _).alloc (by simp) _⟩
  have K : Hid _ := key
  clear key
  go_enter Tryz.func158, Tryz.ntmps158
  go_wp2_with (go_at_call 169; refine (K.out _).mono ?_; rintro e w' ⟨rfl, hb⟩)
  go_ret
  exact ⟨rfl, hb⟩
end Go.Proofs.YtgildlfanfbebaaGreatDoor
