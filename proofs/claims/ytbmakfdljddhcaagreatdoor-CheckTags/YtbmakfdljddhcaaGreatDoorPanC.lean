/- Package check gives up: refuse, refuseIf; what isn't wrong. -/
import Derived.Test.YtbmakfdljddhcaaGreatDoorFumC
import Derived.Test.YtbmakfdljddhcaaGreatDoorPlaceF
import Derived.WalkLawsBesides
namespace Go.Proofs.YtbmakfdljddhcaaGreatDoor
open Go Go.RowKit

def plcV (ln es : Int) : Value := .agg #[.int .i64 ln, .int .u8 es]
theorem refuse_p (ln es no : Int) (w : World) : Calls Tryz.prog 51 #[plcV ln es, .int .i64 no] w fun e w' => e = .panicked [{ v := fltV no ln 0, recovered := false }] ∧ Below w.heap.size w w' := by
  unfold plcV
  go_enter Tryz.func51, Tryz.ntmps51
  go_wp2
  exact ⟨rfl, rfl, (Below.refl _ w).alloc (Nat.le_refl _) _⟩
theorem refuseIf_t (ln es no : Int) (w : World) : Calls Tryz.prog 42 #[plcV ln es, .bool true, .int .i64 no] w fun e w' => e = .panicked [{ v := fltV no ln 0, recovered := false }] ∧ Below w.heap.size w w' := by
  have hr := fun W => refuse_p ln es no W
  unfold plcV at *
  go_enter Tryz.func42, Tryz.ntmps42
  go_wp2_with (go_at_call 51; refine (hr _).mono ?_; rintro e w1 ⟨rfl, hB⟩)
  exact ⟨rfl, rfl, below_join ((Below.refl _ w).alloc (Nat.le_refl _) _) hB⟩
theorem refuseIf_f (ln es no : Int) (w : World) : Calls Tryz.prog 42 #[plcV ln es, .bool false, .int .i64 no] w fun e w' => e = .returned (.tuple #[]) ∧ Below w.heap.size w w' := by
  unfold plcV
  go_enter Tryz.func42, Tryz.ntmps42
  go_wp2
  go_end0
  exact ⟨rfl, (Below.refl _ w).alloc (Nat.le_refl _) _⟩
theorem refuseAs_nil (ln es : Int) (w : World) : Calls Tryz.prog 83 #[plcV ln es, .nilIface] w fun e w' => e = .returned (.tuple #[]) ∧ Below w.heap.size w w' := by
  unfold plcV
  go_enter Tryz.func83, Tryz.ntmps83
  go_wp2_with (go_at_call 11; refine (as_nil _ _).mono ?_; rintro e w1 ⟨rfl, hw⟩; replace hw := hw.symm; subst hw)
  go_end0
  exact ⟨rfl, ((Below.refl _ w).alloc (Nat.le_refl _) _).alloc (by simp) _⟩
/-- A text of ASCII alone, shorter than nine bytes. -/
def Asc (s : ByteArray) : Prop := s.size ≤ 8 ∧ ∀ (i : Nat) (h : i < s.size), s[i].toNat < 128
theorem Asc.tail {s : ByteArray} (h : Asc s) (h0 : 0 < s.size) : Asc (s.extract 1 s.size) ∧ (s.extract 1 s.size).size = s.size - 1 := by
  have hz := size_extract' s 1 s.size (Nat.le_refl _)
  refine ⟨⟨by have := h.1; omega, fun i hi => ?_⟩, hz⟩
  have : (s.extract 1 s.size)[i] = s[1 + i]'(by omega) := by
    have h1 := un_getElem? (s.extract 1 s.size) i hi
    have h2 := un_getElem? s (1 + i) (by omega)
    rw [un_extract_get, h2] at h1
    exact (Option.some.inj h1).symm
  rw [this]
  exact h.2 _ _
def lenOf : Value → Nat
  | .string t => t.size
  | _ => 0
set_option maxRecDepth 100000 in
set_option maxHeartbeats 4000000 in
theorem valid_a (s : ByteArray) (w : World) (h : Asc s) : Calls Tryz.prog 81 #[.string s] w fun e w' => e = .returned (.bool true) ∧ Below w.heap.size w w' := by
  have HAS : Hid (Asc s) := h
  clear h
  go_enter Tryz.func81, Tryz.ntmps81
  go_wp2
  go_loop [0] (fun v => ∃ t : ByteArray, v = .string t ∧ Hid (Asc t)) (fun v => lenOf v)
  case atStart => exact ⟨s, rfl, HAS.out⟩
  case round =>
    obtain ⟨t, rfl, HT⟩ := hrel
    by_cases h0 : 0 < t.size
    · have k0 : (0 : Int) < (t.size : Int) := by omega
      have k1 : ((t[0].toNat : Nat) : Int) < 128 := by have := HT.out.2 0 h0; omega
      have h1 := HT.out.tail h0
      have hz := HT.out.1
      have k2 : (1 : Int) ≤ (t.size : Int) := by omega
      have k3 : ¬ (8 : Int) < ((t.extract 1 t.size).size : Int) := by rw [h1.2]; omega
      have HN : Hid (Asc (t.extract 1 t.size) ∧ (t.extract 1 t.size).size < t.size) := ⟨h1.1, by rw [h1.2]; omega⟩
      clear h1 HT
      go_wp2
      first
        | exact ⟨⟨_, rfl, HN.out.1⟩, HN.out.2⟩
        | (go_round
           case rel => exact ⟨_, rfl, HN.out.1⟩
           case measure => exact HN.out.2)
    · have k0 : ¬ (0 : Int) < (t.size : Int) := by omega
      go_wp2
      go_ret
      exact ⟨rfl, Below.refl _ _⟩
end Go.Proofs.YtbmakfdljddhcaaGreatDoor
