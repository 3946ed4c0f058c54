/- The program's countLines, checkSource. -/
import Derived.Test.YtjgijbeedgggdaaGreatDoorCkM
import Derived.Test.YtjgijbeedgggdaaGreatDoorEqX
import Derived.Test.YtjgijbeedgggdaaGreatDoorFault
namespace Go.Proofs.YtjgijbeedgggdaaGreatDoor
open Go Go.RowKit

theorem suf_10 (x : Ln) : Lib.hasSuffix x [10] = decide (x.getLast? = some 10) := by
  unfold Lib.hasSuffix
  by_cases h : x.getLast? = some 10
  · rw [decide_eq_true h]
    obtain ⟨y, rfl⟩ := List.getLast?_eq_some_iff.1 h
    exact List.isSuffixOf_iff_suffix.2 ⟨y, rfl⟩
  · rw [decide_eq_false h]
    cases hs : List.isSuffixOf [10] x with
    | false => rfl
    | true =>
      obtain ⟨y, rfl⟩ := List.isSuffixOf_iff_suffix.1 hs
      exact absurd (by simp) h
set_option maxRecDepth 100000 in
theorem countLines_p (s : ByteArray) (w : World) (hs : s.size ≤ 1099511627776) : Calls Tryz.prog 88 #[.string s] w fun e w' => e = .returned (.int .i64 (cutL (un s)).length) ∧ Below w.heap.size w w' := by
  have hc := cut_count (un s)
  have hC := fun W => Tryz.strings_Count_one s 10 W
  have hS := fun W => Tryz.strings_HasSuffix s ⟨#[10]⟩ W (by omega)
  have e1 : Lib.countByte s.data.toList 10 = (un s).count 10 := rfl
  have e2 : Lib.hasSuffix s.data.toList (⟨#[10]⟩ : ByteArray).data.toList = decide ((un s).getLast? = some 10) := suf_10 (un s)
  rw [e1] at hC
  rw [e2] at hS
  have hle : (un s).count 10 ≤ s.size := by have := List.count_le_length (a := (10 : UInt8)) (l := un s); rwa [un_length] at this
  clear e1 e2
  by_cases h0 : un s = []
  · have hz : s.size = 0 := by rw [← un_length, h0]; rfl
    have n1 : s = ⟨#[]⟩ := by rw [← bs_un s, h0]; rfl
    rw [if_pos (.inl h0)] at hc
    have hc : Hid ((cutL (un s)).length = (un s).count 10) := by unfold Hid; omega
    generalize (un s).count 10 = C at *
    subst n1
    rw [hc.out]
    clear hc
    go_enter Tryz.func88, Tryz.ntmps88
    go_wp2_with (first
      | (go_at_call 87; refine (hC _).mono ?_; rintro e w1 ⟨rfl, rfl⟩)
      | (go_at_call 131; refine (hS _).mono ?_; rintro e w1 ⟨rfl, rfl⟩))
    go_ret
    exact ⟨rfl, Below.refl _ _⟩
  · have hz : 0 < s.size := by
      have : (un s).length ≠ 0 := fun h => h0 (List.eq_nil_of_length_eq_zero h)
      rw [un_length] at this; omega
    have n1 : s.toList.isEmpty = false := (isEmpty_false s).2 hz
    have n2 : (s.toList == (⟨#[]⟩ : ByteArray).toList) = false := by
      cases hq : s.toList with
      | nil => rw [hq] at n1; cases n1
      | cons _ _ => rw [toList_un (⟨#[]⟩ : ByteArray)]; rfl
    by_cases hl : (un s).getLast? = some 10
    · rw [if_pos (.inr hl)] at hc
      rw [decide_eq_true hl] at hS
      have hc : Hid ((cutL (un s)).length = (un s).count 10) := by unfold Hid; omega
      rw [hc.out]
      clear hc hl h0
      generalize (un s).count 10 = C at *
      go_enter Tryz.func88, Tryz.ntmps88
      go_wp2_with (first
        | (go_at_call 87; refine (hC _).mono ?_; rintro e w1 ⟨rfl, rfl⟩)
        | (go_at_call 131; refine (hS _).mono ?_; rintro e w1 ⟨rfl, rfl⟩))
      go_ret
      exact ⟨rfl, Below.refl _ _⟩
    · rw [if_neg (by simp [h0, hl])] at hc
      rw [decide_eq_false hl] at hS
      have hc : Hid ((cutL (un s)).length = (un s).count 10 + 1) := by unfold Hid; omega
      rw [hc.out]
      clear hc hl h0
      generalize (un s).count 10 = C at *
      have w1 : IntKind.i64.wrap ((C : Int) + 1) = (C : Int) + 1 := by rw [wrap_small _ (by omega) (by omega)]
      go_enter Tryz.func88, Tryz.ntmps88
      go_wp2_with (first
        | (go_at_call 87; refine (hC _).mono ?_; rintro e w1 ⟨rfl, rfl⟩)
        | (go_at_call 131; refine (hS _).mono ?_; rintro e w1 ⟨rfl, rfl⟩))
      go_ret
      exact ⟨by go_num, Below.refl _ _⟩
/-- What is wrong with a file before its lines are looked at. -/
def ckL (s : Ln) : Option Flt := if 65536 < s.length then some (5, 0, 0) else match wrongU s.length s 1 1 with
  | some (l, a) => some (6, l, a)
  | none => if 4096 < (cutL s).length then some (5, 4097, 1) else none
def ckV : Option Flt → Value
  | none => .nilIface
  | some (no, l, a) => fltV no l a
set_option maxRecDepth 100000 in
set_option maxHeartbeats 1000000 in
theorem checkSource_p (s : ByteArray) (w : World) (hTb : ∀ W, Below w.heap.size w W → Tabs W) : Calls Tryz.prog 39 #[.string s] w fun e w' => e = .returned (ckV (ckL (un s))) ∧ Below w.heap.size w w' := by
  unfold ckL
  by_cases h1 : 65536 < (un s).length
  · rw [if_pos h1]
    have d1 : (65536 : Int) < (s.size : Int) := by rw [un_length] at h1; omega
    clear h1
    go_enter Tryz.func39, Tryz.ntmps39
    go_wp2
    go_ret
    exact ⟨rfl, Below.refl _ _⟩
  · rw [if_neg h1]
    rw [un_length] at h1 ⊢
    have d1 : ¬ (65536 : Int) < (s.size : Int) := by omega
    have hF := fnc_p s w hTb (by omega)
    have hW := wrong_vp s.size (un s) 1 1 (by rw [un_length]; omega)
    rw [un_length] at hW
    have hvl := vp_le s.size (un s)
    rw [un_length] at hvl
    rw [hW]
    have hCL := fun W => countLines_p s W (by omega)
    have e1 : s.extract 0 (vpN s.size (un s)) = bs ((un s).take (vpN s.size (un s))) := by rw [ext_bs]; rfl
    clear hW
    generalize hV : vpN s.size (un s) = V at *
    by_cases h2 : V < s.size
    · rw [if_pos h2]
      simp only
      have d2 : (V : Int) < (s.size : Int) := by omega
      have d3 : (0 : Int) ≤ (V : Int) := by omega
      have d4 : (V : Int) ≤ (s.size : Int) := by omega
      obtain ⟨X, hX⟩ : ∃ X, bs ((un s).take V) = X := ⟨_, rfl⟩
      have hXs : X.size = V := by rw [← hX, size_bs, List.length_take, un_length]; omega
      have hXu : un X = (un s).take V := by rw [← hX, un_bs]
      obtain ⟨l1, l2, l3⟩ := last_col X
      have hL := fun W => Tryz.strings_LastIndexByte X 10 (by omega) W
      have hC := fun W => Tryz.strings_Count_one X 10 W
      have e2 : Lib.countByte X.data.toList 10 = ((un s).take V).count 10 := by rw [← hXu]; rfl
      rw [e2] at hC
      rw [hXu] at l3
      have hle : ((un s).take V).count 10 ≤ V := by have := List.count_le_length (a := (10 : UInt8)) (l := (un s).take V); rw [List.length_take] at this; omega
      rw [hX] at e1
      clear e2 hXu hX hV hCL
      generalize Lib.lastIndexByte X 10 = L at *
      generalize ((un s).take V).count 10 = C at *
      generalize colF 1 ((un s).take V) = K at *
      have w1 : IntKind.i64.wrap (L + 1) = L + 1 := by rw [wrap_small _ (by omega) (by omega)]
      have w2 : IntKind.i64.wrap ((C : Int) + 1) = (C : Int) + 1 := by rw [wrap_small _ (by omega) (by omega)]
      have w3 : IntKind.i64.wrap ((V : Int) - (L + 1)) = (V : Int) - (L + 1) := by rw [wrap_small _ (by omega) (by omega)]
      have w4 : IntKind.i64.wrap ((V : Int) - (L + 1) + 1) = (V : Int) - (L + 1) + 1 := by rw [wrap_small _ (by omega) (by omega)]
      have hK : Hid ((V : Int) - (L + 1) + 1 = (K : Int)) := by unfold Hid; omega
      clear l3 hXs
      go_enter Tryz.func39, Tryz.ntmps39
      go_wp2_with (first
        | (go_at_call 85; refine hF.mono ?_; rintro e w1 ⟨rfl, b1⟩)
        | (go_at_call 86; refine (hL _).mono ?_; rintro e w2 ⟨rfl, rfl⟩)
        | (go_at_call 87; refine (hC _).mono ?_; rintro e w3 ⟨rfl, rfl⟩))
      go_ret
      refine ⟨?_, b1⟩
      unfold ckV fltV
      simp only [← hK.out]
      rw [Int.add_comm (C : Int) 1]
      rfl
    · rw [if_neg h2]
      simp only
      have d2 : ¬ (V : Int) < (s.size : Int) := by omega
      clear e1
      by_cases h3 : 4096 < (cutL (un s)).length
      · rw [if_pos h3]
        have d3 : (4096 : Int) < ((cutL (un s)).length : Int) := by omega
        generalize (cutL (un s)).length = M at *
        go_enter Tryz.func39, Tryz.ntmps39
        go_wp2_with (first
          | (go_at_call 85; refine hF.mono ?_; rintro e w1 ⟨rfl, b1⟩)
          | (go_at_call 88; refine (hCL _).mono ?_; rintro e w2 ⟨rfl, b2⟩))
        go_ret
        exact ⟨rfl, below_join b1 b2⟩
      · rw [if_neg h3]
        have d3 : ¬ (4096 : Int) < ((cutL (un s)).length : Int) := by omega
        generalize (cutL (un s)).length = M at *
        go_enter Tryz.func39, Tryz.ntmps39
        go_wp2_with (first
          | (go_at_call 85; refine hF.mono ?_; rintro e w1 ⟨rfl, b1⟩)
          | (go_at_call 88; refine (hCL _).mono ?_; rintro e w2 ⟨rfl, b2⟩))
        go_ret
        exact ⟨rfl, below_join b1 b2⟩
end Go.Proofs.YtjgijbeedgggdaaGreatDoor
