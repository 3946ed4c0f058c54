/- Package glob's (*List).read. -/
import Derived.Test.YthkbhcefckbcnaaGreatDoorRules
import Derived.Test.YthkbhcefckbcnaaGreatDoorShelf
namespace Go.Proofs.YthkbhcefckbcnaaGreatDoor
open Go Go.RowKit Go.Shelf

theorem trimB_nil_iff (s : ByteArray) : (trimB s).toList.isEmpty = true ↔ (trimB s).size = 0 := isEmpty_iff _
set_option maxHeartbeats 2000000 in
theorem read_skip (line : ByteArray) (l : Nat) (w : World) (hz : line.size ≤ 1099511627776) (h : lineRule line = some none) :
    Calls Tryz.prog 27 #[.pointer (some ⟨l, 0, none⟩), .string line] w fun e w' => e = .returned .nilIface ∧ Below w.heap.size w w' := by
  have ht := trim_p line w (by omega)
  unfold lineRule at h
  by_cases h0 : (trimB line).size = 0
  · have h1 : (trimB line).toList.isEmpty = true := (isEmpty_iff _).2 h0
    generalize trimB line = t at *
    obtain rfl : t = ⟨#[]⟩ := un_inj (List.length_eq_zero_iff.1 (by rw [un_length]; exact h0))
    clear h h0 h1
    go_enter Tryz.func27, Tryz.ntmps27
    go_wp2_with (go_at_call 56; refine ht.mono ?_; rintro e w' ⟨rfl, hB⟩)
    go_ret
    exact ⟨rfl, hB⟩
  · by_cases h2 : (un (trimB line))[0]? = some 35
    · generalize trimB line = t at *
      have hpos : 0 < t.size := by omega
      have h3 : t[0].toNat = 35 := by have := un_getElem? t 0 hpos; rw [h2] at this; rw [← Option.some.inj this]; rfl
      have h4 : t.toList.isEmpty = false := (isEmpty_false _).2 hpos
      have d2 : (0 : Int) < (t.size : Int) := by omega
      clear h h0 h2
      go_enter Tryz.func27, Tryz.ntmps27
      go_wp2_with (go_at_call 56; refine ht.mono ?_; rintro e w' ⟨rfl, hB⟩)
      go_ret
      exact ⟨rfl, hB⟩
    · rw [if_neg (by rintro (a | a) <;> contradiction)] at h
      split at h
      · cases h5 : patOf (trimB (bs (Lib.trimPrefix (un (trimB line)) [33]))) <;> simp [h5] at h
      · cases h5 : patOf (trimB line) <;> simp [h5] at h

/-- A line's text behind its mark, and whether it has the mark. -/
def markB (t : ByteArray) : Bool := Lib.hasPrefix (un t) [33]
def restB (t : ByteArray) : ByteArray := if markB t then trimB (bs (Lib.trimPrefix (un t) [33])) else t
theorem lineRule_cases (line : ByteArray) (h : lineRule line ≠ some none) : 0 < (trimB line).size ∧ (un (trimB line))[0]? ≠ some 35 ∧ lineRule line = (patOf (restB (trimB line))).map fun ps => some (markB (trimB line), ps ++ [none]) := by
  unfold lineRule at h ⊢
  by_cases h0 : (trimB line).size = 0 ∨ (un (trimB line))[0]? = some 35
  · rw [if_pos h0] at h; exact (h rfl).elim
  · rw [if_neg h0] at h ⊢
    refine ⟨by omega, fun e => h0 (.inr e), ?_⟩
    unfold restB markB
    cases h1 : Lib.hasPrefix (un (trimB line)) [33]
    · rfl
    · rfl
theorem ListIn.cell {W : World} {l : Nat} {rs : List Rule} (h : ListIn W l rs) : ∃ o c, W.cell? ⟨l, 0, none⟩ = some (.slice o rs.length c) := by
  obtain ⟨v, cs, h1, h2, h3⟩ := h
  rcases h3.2 with ⟨rfl, h0⟩ | ⟨g, cap, cur, rfl, _⟩
  · exact ⟨none, 0, by rw [h1.cell, h0]⟩
  · exact ⟨_, _, h1.cell⟩

set_option maxHeartbeats 2000000 in
theorem read_many (line : ByteArray) (l : Nat) (rs : List Rule) (w : World) (hl : ListIn w l rs) (hz : line.size ≤ 1099511627776) (h : lineRule line ≠ some none) (hr : rs.length = 256) :
    Calls Tryz.prog 27 #[.pointer (some ⟨l, 0, none⟩), .string line] w fun e w' => e = .returned (.iface 56 (.int .i64 5)) ∧ Below w.heap.size w w' := by
  have ht := trim_p line w (by omega)
  obtain ⟨h0, h2, _⟩ := lineRule_cases line h
  generalize trimB line = t at *
  have h3 : t[0].toNat ≠ 35 := fun e => h2 (by rw [un_getElem? t 0 h0]; congr 1; exact UInt8.toNat_inj.1 e)
  have h4 : t.toList.isEmpty = false := (isEmpty_false _).2 h0
  have d2 : (0 : Int) < (t.size : Int) := by omega
  have HL : Hid (ListIn w l rs) := hl
  clear h h2 hl
  go_enter Tryz.func27, Tryz.ntmps27
  go_wp2_with (go_at_call 56; refine ht.mono ?_; rintro e w' ⟨rfl, hB⟩; obtain ⟨o, c, hc⟩ := (HL.out.below hB).cell; rw [hr] at hc)
  go_ret
  exact ⟨rfl, hB⟩

def cutB (t : ByteArray) : ByteArray := bs (Lib.trimPrefix (un t) [33])
theorem cutB_size (t : ByteArray) : (cutB t).size ≤ t.size := by
  unfold cutB Lib.trimPrefix; rw [size_bs, ← un_length]; split <;> simp
theorem cutMark_p (t : ByteArray) (w : World) : Calls Tryz.prog 57 #[.string t, .string ⟨#[33]⟩] w fun e w' => e = .returned (.tuple #[.string (cutB t), .bool (markB t)]) ∧ w' = w := Tryz.strings_CutPrefix t ⟨#[33]⟩ w
theorem restB_mark (t : ByteArray) (h : markB t = true) : restB t = trimB (cutB t) := by unfold restB; rw [h]; rfl
theorem restB_plain (t : ByteArray) (h : markB t = false) : restB t = cutB t := by
  unfold restB cutB Lib.trimPrefix; rw [h, show Lib.hasPrefix (un t) [33] = false from h]; exact (bs_un t).symm
theorem restB_size (t : ByteArray) : (restB t).size ≤ t.size := by
  cases h : markB t
  · rw [restB_plain t h]; exact cutB_size t
  · rw [restB_mark t h]; exact Nat.le_trans (trimB_size _) (cutB_size t)

set_option maxHeartbeats 4000000 in
theorem read_wrong (line : ByteArray) (l : Nat) (rs : List Rule) (w : World) (hl : ListIn w l rs) (hz : line.size ≤ 1099511627776) (h : lineRule line = none) (hr : rs.length < 256) :
    Calls Tryz.prog 27 #[.pointer (some ⟨l, 0, none⟩), .string line] w fun e w' => e = .returned errP ∧ Below w.heap.size w w' := by
  have hzt := trimB_size line
  obtain ⟨h0, h2, h1⟩ := lineRule_cases line (by rw [h]; simp)
  rw [h] at h1
  obtain ⟨t, e1⟩ : ∃ t, trimB line = t := ⟨_, rfl⟩
  rw [e1] at h0 h1 h2 hzt
  have hp : patOf (restB t) = none := by cases e : patOf (restB t) with | none => rfl | some ps => rw [e] at h1; cases h1
  have h3 : t[0].toNat ≠ 35 := fun e => h2 (by rw [un_getElem? t 0 h0]; congr 1; exact UInt8.toNat_inj.1 e)
  have h4 : t.toList.isEmpty = false := (isEmpty_false _).2 h0
  have d2 : (0 : Int) < (t.size : Int) := by omega
  have h6 : ((rs.length : Int) == 256) = false := by simp; omega
  have hzr := restB_size t
  have HL : Hid (ListIn w l rs) := hl
  have HR : Hid (∀ W, Calls Tryz.prog 58 #[.string (restB t)] W fun e w' => e = .returned (.tuple #[.slice none 0 0, errP]) ∧ Below W.heap.size W w') := fun W =>
    (readPattern_p (restB t) W (by omega)).mono fun e w' hpost => by
      rcases hpost with ⟨⟨ps, v, hps, _⟩ | ⟨_, he⟩, hb⟩
      · rw [hp] at hps; cases hps
      · exact ⟨he, hb⟩
  have hcut := cutMark_p t
  have hzc := cutB_size t
  unfold errP at HR ⊢
  clear h h1 h2 hl hp
  cases hm : markB t
  · rw [restB_plain t hm] at HR
    rw [hm] at hcut
    clear hm
    generalize cutB t = c at *
    go_enter Tryz.func27, Tryz.ntmps27
    go_wp2_with (first
      | (go_at_call 56; refine (trim_p _ _ (by omega)).mono ?_; rintro e w' ⟨rfl, hB⟩; rw [e1]; obtain ⟨o, c2, hc⟩ := (HL.out.below hB).cell)
      | (go_at_call 57; refine (hcut _).mono ?_; rintro e w2 ⟨rfl, rfl⟩)
      | (go_at_call 58; refine (HR.out _).mono ?_; rintro e w3 ⟨rfl, hB2⟩))
    go_ret
    exact ⟨rfl, hB.trans (hB2.mono hB.size)⟩
  · rw [restB_mark t hm] at HR
    rw [hm] at hcut
    clear hm
    generalize cutB t = c at *
    obtain ⟨d, e2⟩ : ∃ d, trimB c = d := ⟨_, rfl⟩
    rw [e2] at HR
    go_enter Tryz.func27, Tryz.ntmps27
    go_wp2_with (first
      | (go_at_call 56; refine (trim_p _ _ (by omega)).mono ?_; rintro e w' ⟨rfl, hB⟩; rw [e1]; obtain ⟨o, c2, hc⟩ := (HL.out.below hB).cell)
      | (go_at_call 56; refine (trim_p _ _ (by omega)).mono ?_; rintro e w4 ⟨rfl, hB4⟩; rw [e2])
      | (go_at_call 57; refine (hcut _).mono ?_; rintro e w2 ⟨rfl, rfl⟩)
      | (go_at_call 58; refine (HR.out _).mono ?_; rintro e w3 ⟨rfl, hB2⟩))
    go_ret
    have hB5 := hB.trans (hB4.mono hB.size)
    exact ⟨rfl, hB5.trans (hB2.mono hB5.size)⟩
end Go.Proofs.YthkbhcefckbcnaaGreatDoor
