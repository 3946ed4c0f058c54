/- Package path's Name and Below. -/
import Derived.Test.YtgildlfanfbebaaGreatDoorStr
namespace Go.Proofs.YtgildlfanfbebaaGreatDoor
open Go.RowKit

/-- strings.ContainsAny of s at the two bytes that no name has answers as it should. -/
def AnyOK (s : ByteArray) : Prop := ∀ w, Calls Tryz.prog 158 #[.string s, .string ⟨#[0, 47]⟩] w fun e w' => e = .returned (.bool (Lib.containsAny (un s) [0, 47])) ∧ Below w.heap.size w w'
def errV (n : Int) : Value := if n = 0 then .nilIface else .iface 77 (.int .i64 n)
theorem errV_zero : errV 0 = .nilIface := rfl
theorem errV_some (n : Int) (h : n ≠ 0) : errV n = .iface 77 (.int .i64 n) := if_neg h

def nameN (s : ByteArray) : Int :=
  if s.toList.isEmpty then 8 else if 96 < s.size then 8 else if Lib.containsAny (un s) [0, 47] then 8 else if s.toList == [46] then 8 else if s.toList == [46, 46] then 8 else if Lib.hasPrefix (un s) [46, 119, 104, 46] then 8 else 0

set_option maxHeartbeats 1000000 in
theorem name_p (s : ByteArray) (w : World) (hc : s.size ≤ 96 → AnyOK s) : Calls Tryz.prog 134 #[.string s] w fun e w' => e = .returned (errV (nameN s)) ∧ Below w.heap.size w w' := by
  cases h1 : s.toList.isEmpty
  rotate_left
  · go_enter Tryz.func134, Tryz.ntmps134
    go_wp2
    go_ret
    exact ⟨by simp [nameN, h1]; rfl, Below.refl _ _⟩
  by_cases h2 : 96 < s.size
  · have h2' : (96 : Int) < s.size := by omega
    go_enter Tryz.func134, Tryz.ntmps134
    go_wp2
    go_ret
    exact ⟨by simp [nameN, h1, h2]; rfl, Below.refl _ _⟩
  have h2' : ¬ (96 : Int) < s.size := by omega
  have hc' := hc (by omega)
  have hcc : ∀ w, Calls Tryz.prog 158 #[.string s, .string ⟨#[0, 47]⟩] w fun e w' => e = .returned (.bool (Lib.containsAny (un s) [0, 47])) ∧ Below w.heap.size w w' := hc'
  have HC : Hid (∀ w, Calls Tryz.prog 158 #[.string s, .string ⟨#[0, 47]⟩] w fun e w' => e = .returned (.bool (Lib.containsAny (un s) [0, 47])) ∧ Below w.heap.size w w') := hcc
  clear hc hc' hcc
  cases h3 : Lib.containsAny (un s) [0, 47]
  rotate_left
  · have H3 : Hid _ := h3
    clear h3
    go_enter Tryz.func134, Tryz.ntmps134
    go_wp2_with (go_at_call 158; refine (HC.out _).mono ?_; rintro e w' ⟨rfl, hb⟩; rw [H3.out])
    go_ret
    exact ⟨by simp [nameN, h1, h2, H3.out]; rfl, hb⟩
  have H3 : Hid _ := h3
  clear h3
  cases h4 : (s.toList == [46])
  rotate_left
  · go_enter Tryz.func134, Tryz.ntmps134
    go_wp2_with (go_at_call 158; refine (HC.out _).mono ?_; rintro e w' ⟨rfl, hb⟩; rw [H3.out])
    go_ret
    exact ⟨by simp only [nameN, h1, h2, h4, H3.out]; rfl, hb⟩
  cases h5 : (s.toList == [46, 46])
  rotate_left
  · go_enter Tryz.func134, Tryz.ntmps134
    go_wp2_with (go_at_call 158; refine (HC.out _).mono ?_; rintro e w' ⟨rfl, hb⟩; rw [H3.out])
    go_ret
    exact ⟨by simp only [nameN, h1, h2, h4, h5, H3.out]; rfl, hb⟩
  cases h6 : Lib.hasPrefix (un s) [46, 119, 104, 46]
  all_goals
    have H6 : Hid _ := h6
    clear h6
    go_enter Tryz.func134, Tryz.ntmps134
    go_wp2_with (first | (go_at_call 158; refine (HC.out _).mono ?_; rintro e w' ⟨rfl, hb⟩; rw [H3.out]) | (go_at_call 58; refine (Tryz.strings_HasPrefix _ _ _).mono ?_; rintro e w2 ⟨rfl, rfl⟩; rw [show Lib.hasPrefix s.data.toList _ = _ from H6.out]))
    go_ret
    exact ⟨by simp only [nameN, h1, h2, h4, h5, H3.out, H6.out]; rfl, hb⟩

end Go.Proofs.YtgildlfanfbebaaGreatDoor
