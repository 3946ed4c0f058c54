/- Package words' Split: the words as the states tell them. -/
import Derived.Test.YtjgijbeedgggdaaGreatDoorStW
import Derived.Test.YtjgijbeedgggdaaGreatDoorWdW
import Derived.Laws.AppendOwn
namespace Go.Proofs.YtjgijbeedgggdaaGreatDoor
open Go Go.RowKit

def wdOf (s : ByteArray) (x : Nat × Nat) : Wd := ⟨(x.1 : Int), s.extract x.1 x.2⟩
def wdsOf (s : ByteArray) (xs : List (Nat × Nat)) : List Wd := xs.map (wdOf s)
theorem wdsOf_length (s : ByteArray) (xs : List (Nat × Nat)) : (wdsOf s xs).length = xs.length := List.length_map ..
theorem wdsOf_append (s : ByteArray) (a b : List (Nat × Nat)) : wdsOf s (a ++ b) = wdsOf s a ++ wdsOf s b := List.map_append ..
abbrev fltQ (q : Nat) : Value := .iface 150 (.agg #[.int .i64 18, .int .i64 0, .int .i64 q])
/-- What Split answers: the list, and the error. -/
def SplitPost (s : ByteArray) (c : UInt8) (w : World) (v er : Value) (w' : World) : Prop :=
  match splitR (escN c) (un s) with
  | .ok xs => er = .nilIface ∧ w'.ownsRow w.heap.size 144 2 v xs.length (wcells (wdsOf s xs))
  | .error q => er = fltQ q ∧ v = .slice none 0 0

set_option maxRecDepth 100000 in
set_option maxHeartbeats 8000000 in
theorem split_p (s : ByteArray) (c : UInt8) (w : World) (hs : s.size ≤ 1099511627776) : Calls Tryz.prog 153 #[.string s, .int .u8 c.toNat] w fun e w' => ∃ v er, e = .returned (.tuple #[v, er]) ∧ SplitPost s c w v er w' ∧ Below w.heap.size w w' := by
  obtain ⟨i0, hi, hz0, hz1, hz2⟩ := info_parts info_wd
  have hsl := un_length s
  go_enter Tryz.func153, Tryz.ntmps153
  go_wp2_with (go_at_call 174; refine (esc_p c _).mono ?_; rintro e w1 ⟨rfl, hw⟩; replace hw := hw.symm; subst hw)
  have HP : Hid (∀ v er w', SplitPost s c w v er w' = match splitR (escN c) (un s) with
    | .ok xs => er = .nilIface ∧ w'.ownsRow w.heap.size 144 2 v xs.length (wcells (wdsOf s xs))
    | .error q => er = fltQ q ∧ v = .slice none 0 0) := fun _ _ _ => rfl
  generalize escN c = e at *
  go_loopw [6, 7, 8, 9, 10, 11, 16] (fun v n b q _ _ i wr => ∃ k : Nat, k ≤ s.size ∧ i = .int .i64 k ∧ n = .int .i64 (stA e (un s) k).now ∧ b = .int .i64 (stA e (un s) k).beg ∧ q = .int .i64 (stA e (un s) k).quo ∧ wr.ownsRow w.heap.size 144 2 v (stA e (un s) k).out.length (wcells (wdsOf s (stA e (un s) k).out)) ∧ Below w.heap.size w wr) (fun _ _ _ _ _ _ i _ => s.size - (intOf i).toNat)
  case atStart => exact ⟨0, Nat.zero_le _, rfl, rfl, rfl, rfl, World.ownsRow_nil _ _ _ _, Below.refl _ _⟩
  case round =>
    obtain ⟨k, hk, rfl, rfl, rfl, rfl, hown, hB⟩ := hrel
    have hsz := hB.size
    have hn5 := stA_now e (un s) k (by omega)
    have hbk := stA_beg e (un s) k (by omega)
    have hol := stA_out e (un s) k (by omega)
    by_cases hlt : k < s.size
    · have hget := un_getElem? s k hlt
      have HS : Hid (stA e (un s) (k + 1) = stepS e s[k] k (stA e (un s) k)) := stA_succ e (un s) k _ hget
      clear hget
      generalize stA e (un s) k = st at *
      have hn6 := behN_le st.now s[k] e
      obtain ⟨out, now, beg, quo⟩ := st
      have HS2 : Hid (stA e (un s) (k + 1) = ⟨if now ≠ 0 ∧ behN now s[k] e = 0 then out ++ [(beg, k)] else out, behN now s[k] e, if now = 0 ∧ behN now s[k] e ≠ 0 then k else beg, if now < 3 ∧ 3 ≤ behN now s[k] e then k else quo⟩) := HS.out
      have hbeh := fun W => behind_p now s[k] e hn5 W
      have hqt := fun W => quot_p now hn5 W
      have hwd := fun W => word_p now hn5 W
      have hqt2 := fun W => quot_p (behN now s[k] e) hn6 W
      have hwd2 := fun W => word_p (behN now s[k] e) hn6 W
      clear HS
      have k0 : (0 : Int) ≤ (k : Int) := by omega
      have k1 : (k : Int) < (s.size : Int) := by omega
      generalize behN now s[k] e = th at *
      have b0 : (0 : Int) ≤ (beg : Int) := by omega
      have b1 : (beg : Int) ≤ (k : Int) := by have : beg ≤ k := hbk; omega
      have b2 : (k : Int) ≤ (s.size : Int) := by omega
      have H1 : Hid (now = 0 ∨ 0 < now) := Nat.eq_zero_or_pos now
      have H2 : Hid (th = 0 ∨ 0 < th) := Nat.eq_zero_or_pos th
      obtain ⟨x1, hx1⟩ : ∃ x, x = decide (now ≠ 0) := ⟨_, rfl⟩
      obtain ⟨x2, hx2⟩ : ∃ x, x = decide (th ≠ 0) := ⟨_, rfl⟩
      obtain ⟨y1, hy1⟩ : ∃ x, x = decide (3 ≤ now) := ⟨_, rfl⟩
      obtain ⟨y2, hy2⟩ : ∃ x, x = decide (3 ≤ th) := ⟨_, rfl⟩
      rw [← hx1] at hwd
      rw [← hx2] at hwd2
      rw [← hy1] at hqt
      rw [← hy2] at hqt2
      have hol' : out.length ≤ k := hol
      cases x1 <;> cases x2 <;> cases y1 <;> cases y2
      all_goals replace hx1 := hx1.symm
      all_goals replace hx2 := hx2.symm
      all_goals replace hy1 := hy1.symm
      all_goals replace hy2 := hy2.symm
      all_goals simp at hx1 hx2 hy1 hy2
      all_goals try (exfalso; omega)
      all_goals
        have HX1 : Hid _ := hx1
        have HX2 : Hid _ := hx2
        have HY1 : Hid _ := hy1
        have HY2 : Hid _ := hy2
        clear hx1 hx2 hy1 hy2 H1 H2
        go_wp2_with (first | (go_at_call 175; refine (hbeh _).mono ?_; rintro e w1 ⟨rfl, hw⟩; replace hw := hw.symm; subst hw) | (go_at_call 176; first | (refine (hwd _).mono ?_; rintro e w1 ⟨rfl, hw⟩; replace hw := hw.symm; subst hw) | (refine (hwd2 _).mono ?_; rintro e w1 ⟨rfl, hw⟩; replace hw := hw.symm; subst hw)) | (go_at_call 177; first | (refine (hqt _).mono ?_; rintro e w1 ⟨rfl, hw⟩; replace hw := hw.symm; subst hw) | (refine (hqt2 _).mono ?_; rintro e w1 ⟨rfl, hw⟩; replace hw := hw.symm; subst hw)) | (at_builtin; refine wpList_append_own _ rfl _ _ 140 rfl w.heap.size 144 i0 (.agg #[.int .i64 0, .string ⟨#[]⟩]) 2 24 Tryz.underlying140 hi hz0 hz1 hz2 rfl (by decide) _ _ _ rfl (hown.alloc _) ⟨wr.heap.size, 0, none⟩ 1 1 [.int .i64 beg, .string (s.extract beg k)] rfl rfl (wd_new _ _ _ _) (by simp [Value.oneCell']) (by unfold maxLen; omega) (by omega) (by simp; omega) ?_; intro v1 w1 hown1 hgrow1 _))
        have hx1 := HX1.out
        have hx2 := HX2.out
        try replace hx1 : ¬ now = 0 := hx1
        try replace hx2 : ¬ th = 0 := hx2
        have hy1 := HY1.out
        have hy2 := HY2.out
        first
          | (have hb1 : Below w.heap.size w w1 := (hB.alloc hsz _).grown hgrow1 (by simp; omega) (fun j hj => (own_ge hown j hj.symm).1)
             refine ⟨⟨k + 1, by omega, by go_num, ?_, ?_, ?_, ?_, hb1⟩, by simp [intOf]; omega⟩
             · rw [HS2.out]
             · rw [HS2.out]; first | exact congrArg (fun x : Nat => Value.int .i64 (x : Int)) (if_pos ⟨by omega, by omega⟩).symm | exact congrArg (fun x : Nat => Value.int .i64 (x : Int)) (if_neg (fun h => by obtain ⟨h1, h2⟩ := h; omega)).symm
             · rw [HS2.out]; first | exact congrArg (fun x : Nat => Value.int .i64 (x : Int)) (if_pos ⟨by omega, by omega⟩).symm | exact congrArg (fun x : Nat => Value.int .i64 (x : Int)) (if_neg (fun h => by obtain ⟨h1, h2⟩ := h; omega)).symm
             · rw [HS2.out]; show w1.ownsRow _ _ _ _ (if _ then _ else _ : List (Nat × Nat)).length (wcells (wdsOf s (if _ then _ else _ : List (Nat × Nat))))
               rw [if_pos (show now ≠ 0 ∧ th = 0 from ⟨by omega, by omega⟩), wdsOf_append, wcells_append, List.length_append]
               exact hown1)
          | (refine ⟨⟨k + 1, by omega, by go_num, ?_, ?_, ?_, ?_, hB⟩, by simp [intOf]; omega⟩
             · rw [HS2.out]
             · rw [HS2.out]; first | exact congrArg (fun x : Nat => Value.int .i64 (x : Int)) (if_pos ⟨by omega, by omega⟩).symm | exact congrArg (fun x : Nat => Value.int .i64 (x : Int)) (if_neg (fun h => by obtain ⟨h1, h2⟩ := h; omega)).symm
             · rw [HS2.out]; first | exact congrArg (fun x : Nat => Value.int .i64 (x : Int)) (if_pos ⟨by omega, by omega⟩).symm | exact congrArg (fun x : Nat => Value.int .i64 (x : Int)) (if_neg (fun h => by obtain ⟨h1, h2⟩ := h; omega)).symm
             · rw [HS2.out]; show wr.ownsRow _ _ _ _ (if _ then _ else _ : List (Nat × Nat)).length (wcells (wdsOf s (if _ then _ else _ : List (Nat × Nat))))
               rw [if_neg (show ¬ (now ≠ 0 ∧ th = 0) from fun h => by obtain ⟨h1, h2⟩ := h; omega)]
               exact hown)
    · obtain rfl : k = s.size := by omega
      have HR : Hid (splitR e (un s) = if 3 ≤ (stA e (un s) s.size).now then .error (stA e (un s) s.size).quo else .ok (if (stA e (un s) s.size).now ≠ 0 then (stA e (un s) s.size).out ++ [((stA e (un s) s.size).beg, s.size)] else (stA e (un s) s.size).out)) := by
        unfold Hid splitR; rw [hsl]
      clear hlt
      generalize stA e (un s) s.size = st at *
      obtain ⟨out, now, beg, quo⟩ := st
      have hqt := fun W => quot_p now hn5 W
      have hwd := fun W => word_p now hn5 W
      have b0 : (0 : Int) ≤ (beg : Int) := by omega
      have b1 : (beg : Int) ≤ (s.size : Int) := by have : beg ≤ s.size := hbk; omega
      have hol' : out.length ≤ s.size := hol
      obtain ⟨x1, hx1⟩ : ∃ x, x = decide (now ≠ 0) := ⟨_, rfl⟩
      obtain ⟨y1, hy1⟩ : ∃ x, x = decide (3 ≤ now) := ⟨_, rfl⟩
      rw [← hx1] at hwd
      rw [← hy1] at hqt
      cases x1 <;> cases y1
      all_goals replace hx1 := hx1.symm
      all_goals replace hy1 := hy1.symm
      all_goals simp at hx1 hy1
      all_goals try (exfalso; omega)
      all_goals
        have HX1 : Hid _ := hx1
        have HY1 : Hid _ := hy1
        clear hx1 hy1
        go_wp2_with (first | (go_at_call 176; (refine (hwd _).mono ?_; rintro e w1 ⟨rfl, hw⟩; replace hw := hw.symm; subst hw)) | (go_at_call 177; (refine (hqt _).mono ?_; rintro e w1 ⟨rfl, hw⟩; replace hw := hw.symm; subst hw)) | (at_builtin; refine wpList_append_own _ rfl _ _ 140 rfl w.heap.size 144 i0 (.agg #[.int .i64 0, .string ⟨#[]⟩]) 2 24 Tryz.underlying140 hi hz0 hz1 hz2 rfl (by decide) _ _ _ rfl (hown.alloc _) ⟨wr.heap.size, 0, none⟩ 1 1 [.int .i64 beg, .string (s.extract beg s.size)] rfl rfl (wd_new _ _ _ _) (by simp [Value.oneCell']) (by unfold maxLen; omega) (by omega) (by simp; omega) ?_; intro v1 w1 hown1 hgrow1 _))
        go_ret2
        have hx1 := HX1.out
        have hy1 := HY1.out
        try replace hx1 : ¬ now = 0 := hx1
        first
          | (have hb1 : Below w.heap.size w w1 := (hB.alloc hsz _).grown hgrow1 (by simp; omega) (fun j hj => (own_ge hown j hj.symm).1)
             refine ⟨_, _, rfl, ?_, hb1⟩
             rw [HP.out, HR.out, if_neg (show ¬ 3 ≤ now by omega), if_pos (show now ≠ 0 by omega)]
             refine ⟨rfl, ?_⟩
             rw [wdsOf_append, wcells_append, List.length_append]
             exact hown1)
          | (refine ⟨_, _, rfl, ?_, hB⟩
             rw [HP.out, HR.out, if_pos (show 3 ≤ now by omega)]
             exact ⟨rfl, rfl⟩)
          | (refine ⟨_, _, rfl, ?_, hB⟩
             rw [HP.out, HR.out, if_neg (show ¬ 3 ≤ now by omega), if_neg (show ¬ now ≠ 0 by omega)]
             exact ⟨rfl, hown⟩)
end Go.Proofs.YtjgijbeedgggdaaGreatDoor
