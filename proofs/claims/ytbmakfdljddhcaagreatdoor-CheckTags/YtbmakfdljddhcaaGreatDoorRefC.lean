/- Package check's isReference and Ref. -/
import Derived.Test.YtbmakfdljddhcaaGreatDoorNamC
import Derived.Test.YtbmakfdljddhcaaGreatDoorCutC
namespace Go.Proofs.YtbmakfdljddhcaaGreatDoor
open Go Go.RowKit Go.Shelf

def latC : List UInt8 := [108, 97, 116, 101, 115, 116]
def refP (a b : List UInt8) : Bool := decide (a.length + 1 + b.length ≤ 96) && (nameL a && tagL b)
def refL (l : List UInt8) : Bool := if Lib.indexByte l 58 < 0 then refP l latC else refP (l.take (Lib.indexByte l 58).toNat) (l.drop ((Lib.indexByte l 58).toNat + 1))
theorem belowD (w : World) (n : Nat) : Below w.heap.size w (w.drewN n) := ⟨rfl, rfl, rfl, Nat.le_refl _, fun _ _ => rfl⟩
set_option maxHeartbeats 2000000 in
theorem isRef_miss (s : ByteArray) (w : World) (hs : s.size ≤ 1048576) (hm : ixc s = -1) : Calls Tryz.prog 12 #[.string s] w fun e w' => e = .returned (.bool (refP (un s) latC)) ∧ Below w.heap.size w w' := by
  have HM : Hid (ixc s = -1) := hm
  have hl := un_length s
  have h1 := fun W => name_p s W (by omega)
  have h2 := fun W => tag_p ⟨#[108, 97, 116, 101, 115, 116]⟩ W (by decide)
  rw [show un ⟨#[108, 97, 116, 101, 115, 116]⟩ = latC from rfl] at h2
  unfold refP
  rw [hl, show latC.length = 6 from rfl]
  generalize nameL (un s) = b1 at *
  generalize tagL latC = b2 at *
  clear hm hl
  by_cases hlen : s.size + 1 + 6 ≤ 96
  · have c1 : (s.size : Int) + 1 + 6 ≤ 96 := by omega
    rw [decide_eq_true hlen]
    cases b1
    · go_enter Tryz.func12, Tryz.ntmps12
      go_wp2_with (first | (go_at_call 23; refine (cutc_miss s _ HM.out).mono ?_; rintro e w1 ⟨rfl, hw⟩; replace hw := hw.symm; subst hw) | (go_at_call 24; refine (h1 _).mono ?_; rintro e w1 ⟨rfl, hB⟩))
      go_ret
      exact ⟨rfl, hB⟩
    · go_enter Tryz.func12, Tryz.ntmps12
      go_wp2_with (first | (go_at_call 23; refine (cutc_miss s _ HM.out).mono ?_; rintro e w1 ⟨rfl, hw⟩; replace hw := hw.symm; subst hw) | (go_at_call 24; refine (h1 _).mono ?_; rintro e w1 ⟨rfl, hB⟩) | (go_at_call 25; refine (h2 _).mono ?_; rintro e w2 ⟨rfl, hw⟩; replace hw := hw.symm; subst hw))
      go_ret
      exact ⟨rfl, hB⟩
  · have c1 : ¬ (s.size : Int) + 1 + 6 ≤ 96 := by omega
    rw [decide_eq_false hlen]
    go_enter Tryz.func12, Tryz.ntmps12
    go_wp2_with (go_at_call 23; refine (cutc_miss s _ HM.out).mono ?_; rintro e w1 ⟨rfl, hw⟩; replace hw := hw.symm; subst hw)
    go_ret
    exact ⟨rfl, Below.refl _ _⟩
theorem size_extractC (s : ByteArray) (i j : Nat) (h : j ≤ s.size) : (s.extract i j).size = j - i := by
  rw [← un_length, un_extract, List.length_drop, List.length_take, un_length]; omega
set_option maxHeartbeats 2000000 in
theorem isRef_hit (s : ByteArray) (i : Nat) (w : World) (hs : s.size ≤ 1048576) (hi : ixc s = i) : Calls Tryz.prog 12 #[.string s] w fun e w' => e = .returned (.bool (refP (un (s.extract 0 i)) (un (s.extract (i + 1) s.size)))) ∧ Below w.heap.size w w' := by
  have HM : Hid (ixc s = i) := hi
  have hr := ixc_range s
  rw [hi] at hr
  have z1 := size_extractC s 0 i (by omega)
  have z2 := size_extractC s (i + 1) s.size (Nat.le_refl _)
  have hl1 := un_length (s.extract 0 i)
  have hl2 := un_length (s.extract (i + 1) s.size)
  have h1 := fun W => name_p (s.extract 0 i) W (by omega)
  have h2 := fun W => tag_p (s.extract (i + 1) s.size) W (by omega)
  have HC : Hid (∀ W, Calls Tryz.prog 23 #[.string s, .string ⟨#[58]⟩] W fun e w' => e = .returned (.tuple #[.string (s.extract 0 i), .string (s.extract (i + 1) s.size), .bool true]) ∧ ∃ n, w' = W.drewN n) := fun W => cutc_hit s i W hi (by omega)
  unfold refP
  rw [hl1, hl2]
  generalize nameL (un (s.extract 0 i)) = b1 at *
  generalize tagL (un (s.extract (i + 1) s.size)) = b2 at *
  have hx1 : (s.extract 0 i).size ≤ 1048576 := by omega
  have hx2 : (s.extract (i + 1) s.size).size ≤ 1048576 := by omega
  clear hi hl1 hl2 hr z1 z2
  generalize s.extract 0 i = a at *
  generalize s.extract (i + 1) s.size = b at *
  by_cases hlen : a.size + 1 + b.size ≤ 96
  · have c1 : (a.size : Int) + 1 + b.size ≤ 96 := by omega
    rw [decide_eq_true hlen]
    cases b1
    · go_enter Tryz.func12, Tryz.ntmps12
      go_wp2_with (first | (go_at_call 23; refine (HC.out _).mono ?_; rintro e w1 ⟨rfl, n, hw⟩; replace hw := hw.symm; subst hw) | (go_at_call 24; refine (h1 _).mono ?_; rintro e w1 ⟨rfl, hB⟩))
      go_ret
      exact ⟨rfl, (belowD w n).trans hB⟩
    · go_enter Tryz.func12, Tryz.ntmps12
      go_wp2_with (first | (go_at_call 23; refine (HC.out _).mono ?_; rintro e w1 ⟨rfl, n, hw⟩; replace hw := hw.symm; subst hw) | (go_at_call 24; refine (h1 _).mono ?_; rintro e w1 ⟨rfl, hB⟩) | (go_at_call 25; refine (h2 _).mono ?_; rintro e w2 ⟨rfl, hw⟩; replace hw := hw.symm; subst hw))
      go_ret
      exact ⟨rfl, (belowD w n).trans hB⟩
  · have c1 : ¬ (a.size : Int) + 1 + b.size ≤ 96 := by omega
    rw [decide_eq_false hlen]
    go_enter Tryz.func12, Tryz.ntmps12
    go_wp2_with (go_at_call 23; refine (HC.out _).mono ?_; rintro e w1 ⟨rfl, n, hw⟩; replace hw := hw.symm; subst hw)
    go_ret
    exact ⟨rfl, belowD w n⟩
theorem isRef_p (s : ByteArray) (w : World) (hs : s.size ≤ 1048576) : Calls Tryz.prog 12 #[.string s] w fun e w' => e = .returned (.bool (refL (un s))) ∧ Below w.heap.size w w' := by
  have hr := ixc_range s
  by_cases hm : ixc s = -1
  · have : refL (un s) = refP (un s) latC := by unfold refL; rw [if_pos (by show ixc s < 0; omega)]
    rw [this]
    exact isRef_miss s w hs hm
  · obtain ⟨i, hi⟩ : ∃ i : Nat, ixc s = i := ⟨(ixc s).toNat, by omega⟩
    have : refL (un s) = refP (un (s.extract 0 i)) (un (s.extract (i + 1) s.size)) := by
      unfold refL
      rw [if_neg (by show ¬ ixc s < 0; omega), show Lib.indexByte (un s) 58 = (i : Int) from hi, un_extract, un_extract, List.take_of_length_le (by rw [un_length]; omega : (un s).length ≤ s.size)]
      rfl
    rw [this]
    exact isRef_hit s i w hs hi
def refE (l : List UInt8) : Value := if refL l then .nilIface else .iface 32 (.int .i64 31)
theorem ref_p (s : ByteArray) (w : World) (hs : s.size ≤ 1048576) : Calls Tryz.prog 7 #[.string s] w fun e w' => e = .returned (refE (un s)) ∧ Below w.heap.size w w' := by
  have h1 := fun W => isRef_p s W hs
  unfold refE
  generalize refL (un s) = b at *
  cases b
  all_goals
    go_enter Tryz.func7, Tryz.ntmps7
    go_wp2_with (go_at_call 12; refine (h1 _).mono ?_; rintro e w1 ⟨rfl, hB⟩)
    go_ret
    exact ⟨rfl, hB⟩
end Go.Proofs.YtbmakfdljddhcaaGreatDoor
