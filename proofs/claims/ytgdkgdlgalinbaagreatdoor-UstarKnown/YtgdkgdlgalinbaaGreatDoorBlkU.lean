/- Package ustar's fields: where they begin, how much room they have, a field's bytes; a text put into a field. -/
import Derived.Test.YtgdkgdlgalinbaaGreatDoorBaseU
namespace Go.Proofs.YtgdkgdlgalinbaaGreatDoor
open Go Go.RowKit

/-- Where the fields begin. -/
def begTab : List Int := [0, 100, 108, 116, 124, 136, 148, 156, 157, 257, 265, 297, 329, 337, 345, 500, 512]
def bg (i : Nat) : Nat := [0, 100, 108, 116, 124, 136, 148, 156, 157, 257, 265, 297, 329, 337, 345, 500, 512].getD i 0
theorem begTab_bg (i : Nat) (h : i < 17) : begTab.getD i 0 = (bg i : Int) := (by decide : ∀ i, i < 17 → begTab.getD i 0 = (bg i : Int)) i h
theorem bg_le (i : Nat) (h : i < 17) : bg i ≤ 512 := (by decide : ∀ i, i < 17 → bg i ≤ 512) i h
theorem bg_lt (i : Nat) (h : i < 16) : bg i < bg (i + 1) := (by decide : ∀ i, i < 16 → bg i < bg (i + 1)) i h
abbrev BTab (w : World) : Prop := Lib.TabIs Tryz.prog w "strata/ustar.begins" .i64 begTab
theorem l_b : Tryz.prog.globalNamed "strata/ustar.begins" = some 0 := by kernel_rfl
theorem BTab.lt {w : World} (h : BTab w) : 0 < w.heap.size := var_lt l_b h
theorem BTab.cell {w : World} (h : BTab w) (i : Nat) (hi : i < 17) : w.cell? ⟨0, i, none⟩ = some (.int .i64 (bg i)) := by
  rw [← begTab_bg i hi]; exact Lib.TabIs.cell h l_b i hi
theorem BTab.below {w w' : World} (h : BTab w) (hb : Below w.heap.size w w') : BTab w' := by
  have e := hb.block 0 h.lt
  simp only [BTab, Lib.TabIs, World.var?, l_b, Option.bind_some, e] at h ⊢
  exact h
theorem BTab.turned {b : Nat} {w w' : World} (h : BTab w) (k : Turned b w w') (hne : b ≠ 0) : BTab w' := by
  have e := k.block 0 h.lt (fun e => hne (Option.some.inj e).symm)
  simp only [BTab, Lib.TabIs, World.var?, l_b, Option.bind_some, e] at h ⊢
  exact h
/-- How many bytes a field has. -/
def rm (f : Nat) : Nat := bg (f + 1) - bg f

theorem room_p (f : Nat) (hf : f < 16) (w : World) (hb : BTab w) : Calls Tryz.prog 19 #[.int .i64 f] w fun e w' => e = .returned (.int .i64 (rm f)) ∧ ∃ d, w' = w.drewN d := by
  have c0 := hb.cell f (by omega)
  have c1 := hb.cell (f + 1) (by omega)
  have h1 := bg_lt f hf
  have h2 := bg_le (f + 1) (by omega)
  have HR : Hid ((rm f : Int) = (bg (f + 1) : Int) - (bg f : Int)) := by unfold Hid rm; omega
  generalize bg f = x at *
  generalize bg (f + 1) = y at *
  go_enter Tryz.func19, Tryz.ntmps19
  go_wp2
  go_quiet (fail)
  go_wp2
  go_ret
  exact ⟨by rw [HR.out]; rfl, _, rfl⟩

/-- The greatest number of a field. -/
def mostN (f : Nat) : Int := if rm f = 8 then 2097151 else 8589934591
set_option maxRecDepth 100000 in
theorem most_p (f : Nat) (hf : f < 16) (hr : rm f = 8 ∨ rm f = 12) (w : World) (hb : BTab w) : Calls Tryz.prog 21 #[.int .i64 f] w fun e w' => e = .returned (.int .i64 (mostN f)) ∧ ∃ d, w' = w.drewN d := by
  have h1 := room_p f hf w hb
  rcases hr with h | h
  · have HR : Hid (mostN f = 2097151) := by unfold Hid mostN; rw [if_pos h]
    rw [h] at h1
    clear h
    go_enter Tryz.func21, Tryz.ntmps21
    go_wp2_with (go_at_call 19; refine h1.mono ?_; rintro e w' ⟨rfl, d, rfl⟩)
    go_ret
    exact ⟨by rw [HR.out]; rfl, _, rfl⟩
  · have HR : Hid (mostN f = 8589934591) := by unfold Hid mostN; rw [if_neg (by omega)]
    rw [h] at h1
    clear h
    go_enter Tryz.func21, Tryz.ntmps21
    go_wp2_with (go_at_call 19; refine h1.mono ?_; rintro e w' ⟨rfl, d, rfl⟩)
    go_ret
    exact ⟨by rw [HR.out]; rfl, _, rfl⟩

theorem block_len : Tryz.prog.arrayLen 59 = 512 := by kernel_rfl
theorem block_elem : Tryz.prog.elem 59 = 5 := by kernel_rfl
theorem block_under : Tryz.prog.underlying 59 = some (.array (Tryz.prog.arrayLen 59) (Tryz.prog.elem 59)) := by rw [block_len, block_elem]; exact Tryz.underlying59
theorem slice_lh (b l h : Nat) (hlh : l ≤ h) (h64 : h ≤ 512) (hl : l < 512) (w : World) :
    (Instr.sliceAt 59 (.pointer (some ⟨b, 0, none⟩)) (some (.int .i64 (l : Int))) (some (.int .i64 (h : Int))) none).run Tryz.prog w = .ok (.slice (some ⟨b, l, none⟩) (h - l) (512 - l)) w := by
  rw [run_sliceAt_array_lh w 59 ⟨b, 0, none⟩ block_under .i64 .i64 l h (by omega) (by omega) (by rw [block_len]; omega), block_elem, Tryz.sizeOf5]
  simp only [Result.andThen_ok, slicedAt, block_len, Int.toNat_natCast, Nat.mul_one, Addr.add_mid, Nat.zero_add]
  rw [if_neg (by omega)]
theorem bytes_p (f : Nat) (hf : f < 16) (b : Nat) (w : World) (hb : BTab w) : Calls Tryz.prog 33 #[.pointer (some ⟨b, 0, none⟩), .int .i64 f] w fun e w' => e = .returned (.slice (some ⟨b, bg f, none⟩) (rm f) (512 - bg f)) ∧ ∃ d, w' = w.drewN d := by
  have c0 := hb.cell f (by omega)
  have c1 := hb.cell (f + 1) (by omega)
  have h1 := bg_lt f hf
  have h2 := bg_le (f + 1) (by omega)
  have HR : Hid (rm f = bg (f + 1) - bg f) := rfl
  generalize bg f = x at *
  generalize bg (f + 1) = y at *
  have hs := fun W => slice_lh b x y (by omega) h2 (by omega) W
  go_enter Tryz.func33, Tryz.ntmps33
  go_wp2
  go_quiet (fail)
  go_wp2
  go_ret
  exact ⟨by rw [HR.out]; rfl, _, rfl⟩

set_option maxRecDepth 100000 in
/-- A text is copied into a field. -/
theorem putText_p (f : Nat) (hf : f < 16) (b : Nat) (s : ByteArray) (cs : List UInt8) (w : World) (hc : cs.length = 512) (hL : Lies w b 59 (bcs cs)) (hb : BTab w) :
    Calls Tryz.prog 22 #[.pointer (some ⟨b, 0, none⟩), .int .i64 f, .string s] w fun e w' => e = .returned (.tuple #[]) ∧ Lies w' b 59 (bcs (putB cs (bg f) ((un s).take (rm f)))) ∧ Turned b w w' := by
  have h1 := bg_lt f hf
  have h2 := bg_le (f + 1) (by omega)
  have h3 : bg f + rm f ≤ 512 := by unfold rm; omega
  have hbt := bytes_p f hf b w hb
  obtain ⟨n, hn⟩ : ∃ n, Nat.min s.size (rm f) = n := ⟨_, rfl⟩
  have hn2 : n ≤ s.size ∧ n ≤ rm f := by
    have e : Nat.min s.size (rm f) = min s.size (rm f) := rfl
    omega
  have HT : Hid ((un s).take (rm f) = (un s).take n) := by
    unfold Hid
    have e : Nat.min s.size (rm f) = min s.size (rm f) := rfl
    rw [← hn, e, Nat.min_comm, ← un_length s, List.take_eq_take_iff]; omega
  have hcp := fun d => run_copy_str (P := Tryz.prog) (w.drewN d) 44 9 3 5 b (bg f) (rm f) (512 - bg f) n s Tryz.underlying44 info_byte hn
        (fun j hj => by rw [(hL.drew d).cell (bcs_get cs (bg f + j) (by omega))]; rfl)
        (fun j hj => (hL.drew d).frozen _)
  have hL2 : ∀ d, Lies ((w.drewN d).setCells b (bg f) (Lib.byteCells ((un s).take n))) b 59 (bcs (putB cs (bg f) ((un s).take n))) := fun d => by
    have h2 := Lies.cells (Lib.byteCells ((un s).take n)) (bg f) (hL.drew d) (by rw [Lib.byteCells_length, bcs_size, List.length_take, un_length]; omega)
    rw [bcs_put] at h2
    exact h2
  have hT2 : ∀ d, Turned b w ((w.drewN d).setCells b (bg f) (Lib.byteCells ((un s).take n))) := fun d => (Turned.drew b w d).trans (Turned.cells b _ _ _)
  have HL : Hid _ := hL2
  have HT2 : Hid _ := hT2
  clear hL2 hT2 hL hn hn2
  rw [HT.out]
  go_enter Tryz.func22, Tryz.ntmps22
  go_wp2_with (go_at_call 33; refine hbt.mono ?_; rintro e w' ⟨rfl, d, rfl⟩)
  go_end0
  exact ⟨rfl, HL.out _, HT2.out _⟩
end Go.Proofs.YtgdkgdlgalinbaaGreatDoor
