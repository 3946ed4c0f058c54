/- What a byte does in each manner; names; runs of bytes that do nothing. -/
import Derived.Test.YtbmakfdljddhcaaGreatDoorRdW
namespace Go.Proofs.YtbmakfdljddhcaaGreatDoor
open Go Go.RowKit

theorem tw_step (p : UInt8 → Bool) : ∀ (t : List UInt8) (j : Nat) (b : UInt8), j ≤ (t.takeWhile p).length → t[j]? = some b → (p b = true → j + 1 ≤ (t.takeWhile p).length) ∧ (p b = false → (t.takeWhile p).length = j)
  | [], j, b, _, h => by simp at h
  | c :: t, 0, b, _, h => by
    simp at h; subst h
    cases hp : p c <;> simp [hp]
  | c :: t, j + 1, b, hj, h => by
    cases hp : p c with
    | false => simp [hp] at hj
    | true =>
      simp only [List.takeWhile_cons, hp, if_true, List.length_cons] at hj ⊢
      obtain ⟨h1, h2⟩ := tw_step p t j b (by omega) (by simpa using h)
      exact ⟨fun h => by have := h1 h; omega, fun h => by have := h2 h; omega⟩
theorem tw_le (p : UInt8 → Bool) (t : List UInt8) : (t.takeWhile p).length ≤ t.length := (List.takeWhile_sublist p).length_le
theorem tw_take (p : UInt8 → Bool) : ∀ t : List UInt8, t.take (t.takeWhile p).length = t.takeWhile p
  | [] => rfl
  | c :: t => by
    cases hp : p c with
    | false => simp [hp]
    | true => simp only [List.takeWhile_cons, hp, if_true, List.length_cons, List.take_succ_cons, tw_take p t]
theorem nm_step (l : List UInt8) (k : Nat) (b : UInt8) (hk : k ≤ nmL l) (h : l[k]? = some b) : (nmB b (decide (k = 0)) = true → k + 1 ≤ nmL l) ∧ (nmB b (decide (k = 0)) = false → nmL l = k) := by
  match l, k, h with
  | c :: t, 0, h =>
    simp at h; subst h
    refine ⟨fun h => ?_, fun h => ?_⟩
    · rw [nmL, if_pos (by simpa using h)]; omega
    · rw [nmL, if_neg (by simpa using h)]
  | c :: t, j + 1, h =>
    by_cases hc : nmB c true = true
    · rw [nmL, if_pos hc] at hk ⊢
      have := tw_step (nmB · false) t j b (by omega) (by simpa using h)
      rw [show decide (j + 1 = 0) = false from by simp]
      exact ⟨fun h => by have := this.1 h; omega, fun h => by have := this.2 h; omega⟩
    · rw [nmL, if_neg hc] at hk; omega
theorem nmB_int (b : UInt8) (f : Bool) : nmB b f = ((decide ((65 : Int) ≤ b.toNat) && decide ((b.toNat : Int) ≤ 90)) || (decide ((97 : Int) ≤ b.toNat) && decide ((b.toNat : Int) ≤ 122)) || decide ((b.toNat : Int) = 95) || (!f && decide ((48 : Int) ≤ b.toNat) && decide ((b.toNat : Int) ≤ 57))) := by
  unfold nmB
  have a0 : (b == 95) = decide ((b.toNat : Int) = 95) := by
    rw [Bool.eq_iff_iff, beq_iff_eq, decide_eq_true_iff]
    constructor
    · rintro rfl; rfl
    · intro h; apply UInt8.toNat_inj.1; have : b.toNat = 95 := by omega
      rw [this]; rfl
  have a1 : decide ((65 : Int) ≤ b.toNat) = decide (65 ≤ b.toNat) := decide_eq_decide.2 (by omega)
  have a2 : decide ((b.toNat : Int) ≤ 90) = decide (b.toNat ≤ 90) := decide_eq_decide.2 (by omega)
  have a3 : decide ((97 : Int) ≤ b.toNat) = decide (97 ≤ b.toNat) := decide_eq_decide.2 (by omega)
  have a4 : decide ((b.toNat : Int) ≤ 122) = decide (b.toNat ≤ 122) := decide_eq_decide.2 (by omega)
  have a5 : decide ((48 : Int) ≤ b.toNat) = decide (48 ≤ b.toNat) := decide_eq_decide.2 (by omega)
  have a6 : decide ((b.toNat : Int) ≤ 57) = decide (b.toNat ≤ 57) := decide_eq_decide.2 (by omega)
  rw [a0, a1, a2, a3, a4, a5, a6]

set_option maxHeartbeats 4000000 in
theorem nameByte_p (b : UInt8) (f : Bool) (w : World) : Calls Tryz.prog 119 #[.int .u8 b.toNat, .bool f] w fun e w' => e = .returned (.bool (nmB b f)) ∧ w' = w := by
  have HP : Hid _ := nmB_int b f
  generalize nmB b f = r at *
  have hcases : (b.toNat : Int) < 48 ∨ ((48 : Int) ≤ b.toNat ∧ (b.toNat : Int) ≤ 57) ∨ ((58 : Int) ≤ b.toNat ∧ (b.toNat : Int) ≤ 64) ∨ ((65 : Int) ≤ b.toNat ∧ (b.toNat : Int) ≤ 90) ∨ ((91 : Int) ≤ b.toNat ∧ (b.toNat : Int) ≤ 94) ∨ ((95 : Int) ≤ b.toNat ∧ (b.toNat : Int) ≤ 95) ∨ ((96 : Int) ≤ b.toNat ∧ (b.toNat : Int) ≤ 96) ∨ ((97 : Int) ≤ b.toNat ∧ (b.toNat : Int) ≤ 122) ∨ (123 : Int) ≤ b.toNat := by omega
  rcases hcases with h | ⟨h, h'⟩ | ⟨h, h'⟩ | ⟨h, h'⟩ | ⟨h, h'⟩ | ⟨h, h'⟩ | ⟨h, h'⟩ | ⟨h, h'⟩ | h
  all_goals first | have c1 : (65 : Int) ≤ b.toNat := by omega | have c1 : ¬ (65 : Int) ≤ b.toNat := by omega
  all_goals first | have c2 : (b.toNat : Int) ≤ 90 := by omega | have c2 : ¬ (b.toNat : Int) ≤ 90 := by omega
  all_goals first | have c3 : (97 : Int) ≤ b.toNat := by omega | have c3 : ¬ (97 : Int) ≤ b.toNat := by omega
  all_goals first | have c4 : (b.toNat : Int) ≤ 122 := by omega | have c4 : ¬ (b.toNat : Int) ≤ 122 := by omega
  all_goals first | have c5 : (48 : Int) ≤ b.toNat := by omega | have c5 : ¬ (48 : Int) ≤ b.toNat := by omega
  all_goals first | have c6 : (b.toNat : Int) ≤ 57 := by omega | have c6 : ¬ (b.toNat : Int) ≤ 57 := by omega
  all_goals first | have c7 : (b.toNat : Int) = 95 := by omega | have c7 : ¬ (b.toNat : Int) = 95 := by omega
  all_goals first | have c8 : ((b.toNat : Int) == 95) = true := by simp; omega | have c8 : ((b.toNat : Int) == 95) = false := by simp; omega
  all_goals
    have HR := HP.out
    simp only [c1, c2, c3, c4, c5, c6, c7, decide_true, decide_false, Bool.and_true, Bool.and_false, Bool.true_or, Bool.false_or, Bool.or_true, Bool.or_false, Bool.and_self, Bool.or_self] at HR
    subst HR
    clear HP c7
    cases f
    all_goals
      go_enter Tryz.func119, Tryz.ntmps119
      go_wp2
      go_ret
      exact ⟨rfl, rfl⟩

set_option maxHeartbeats 2000000 in
theorem leadName_p (s : ByteArray) (hs : s.size ≤ 1099511627776) (w : World) : Calls Tryz.prog 116 #[.string s] w fun e w' => e = .returned (.string (bs ((un s).take (nmL (un s))))) ∧ w' = w := by
  have hsl := un_length s
  have hnl := nmL_le (un s)
  go_enter Tryz.func116, Tryz.ntmps116
  go_wp2
  go_loop [3] (fun i => ∃ k : Nat, k ≤ s.size ∧ i = .int .i64 k ∧ Hid (k ≤ nmL (un s))) (fun i => s.size - (intOf i).toNat)
  case atStart => exact ⟨0, Nat.zero_le _, rfl, Nat.zero_le _⟩
  case round =>
    obtain ⟨k, hk, rfl, HN⟩ := hrel
    by_cases hlt : k < s.size
    · have hget := un_getElem? s k hlt
      have hp := fun W => nameByte_p s[k] (decide (k = 0)) W
      have HS : Hid _ := nm_step (un s) k _ HN.out hget
      have k0 : (0 : Int) ≤ (k : Int) := by omega
      have k1 : (k : Int) < (s.size : Int) := by omega
      have hz : ((k : Int) == 0) = decide (k = 0) := by rw [Bool.eq_iff_iff, beq_iff_eq, decide_eq_true_iff]; omega
      generalize nmB s[k] (decide (k = 0)) = r at *
      generalize decide (k = 0) = z at *
      clear hget
      cases r with
      | true =>
        go_wp2_with (go_at_call 119; refine (hp _).mono ?_; rintro e w1 ⟨rfl, hw⟩; replace hw := hw.symm; subst hw)
        first
          | exact ⟨⟨k + 1, by omega, by go_num, HS.out.1 (by trivial)⟩, by simp [intOf]; omega⟩
          | (go_round
             case rel => exact ⟨k + 1, by omega, by go_num, HS.out.1 (by trivial)⟩
             case measure => simp [intOf]; omega)
      | false =>
        have HE : Hid (s.extract 0 k = bs ((un s).take (nmL (un s)))) := by rw [ext_bs, HS.out.2 (by trivial)]; rfl
        go_wp2_with (go_at_call 119; refine (hp _).mono ?_; rintro e w1 ⟨rfl, hw⟩; replace hw := hw.symm; subst hw)
        go_ret
        exact ⟨by rw [← HE.out]; rfl, rfl⟩
    · obtain rfl : k = s.size := by omega
      have HE : Hid (s = bs ((un s).take (nmL (un s)))) := by
        have := HN.out
        rw [List.take_of_length_le (by omega), bs_un]; rfl
      clear HN
      go_wp2
      go_ret
      exact ⟨(congrArg (fun x => Ending.returned (Value.string x)) HE.out), rfl⟩

theorem opens_p (m : Nat) (hm : m ≤ 3) (w : World) : Calls Tryz.prog 109 #[.int .u8 (m : Int)] w fun e w' => e = .returned (.bool (opq m)) ∧ w' = w := by
  have : m = 0 ∨ m = 1 ∨ m = 2 ∨ m = 3 := by omega
  rcases this with rfl | rfl | rfl | rfl
  all_goals
    go_enter Tryz.func109, Tryz.ntmps109
    go_wp2
    go_ret
    exact ⟨rfl, rfl⟩
set_option maxHeartbeats 2000000 in
theorem escapes_p (m : Nat) (hm : m ≤ 3) (d e : UInt8) (w : World) : Calls Tryz.prog 113 #[.int .u8 (m : Int), .int .u8 d.toNat, .int .u8 e.toNat] w fun x w' => x = .returned (.bool (escs m d e)) ∧ w' = w := by
  have q1 : ((d.toNat : Int) == 36) = (d == 36) := beq_u8n d 36 (by decide)
  have q2 : ((d.toNat : Int) == 34) = (d == 34) := beq_u8n d 34 (by decide)
  have q3 : ((d.toNat : Int) == (e.toNat : Int)) = (d == e) := by
    rw [Bool.eq_iff_iff, beq_iff_eq, beq_iff_eq]
    constructor
    · intro h; apply UInt8.toNat_inj.1; omega
    · rintro rfl; rfl
  have HM : Hid (escs m d e = if m = 1 then d == 36 || d == e else if m = 3 then d == 36 || d == e || d == 34 else true) := rfl
  generalize (d == 36) = c1 at *
  generalize (d == 34) = c2 at *
  generalize (d == e) = c3 at *
  generalize escs m d e = r at *
  have : m = 0 ∨ m = 1 ∨ m = 2 ∨ m = 3 := by omega
  rcases this with rfl | rfl | rfl | rfl
  all_goals
    cases c1 <;> cases c2 <;> cases c3
    all_goals
      have HR := HM.out
      simp at HR
      subst HR
      clear HM
      go_enter Tryz.func113, Tryz.ntmps113
      go_wp2
      go_ret
      exact ⟨rfl, rfl⟩
set_option maxHeartbeats 2000000 in
theorem mayAct_p (b : UInt8) (W : World) (R : Nat) (s : ByteArray) (e : UInt8) (k : Nat) (v : Value) (st : List Nat) (h : Rd W R s e k v st) : Calls Tryz.prog 117 #[.pointer (some ⟨R, 0, none⟩), .int .u8 b.toNat] W fun x w' => x = .returned (.bool (act e b)) ∧ w' = W := by
  have f1 := h.lies.cell (i := 1) rfl
  have q0 : ((b.toNat : Int) == (e.toNat : Int)) = (b == e) := by
    rw [Bool.eq_iff_iff, beq_iff_eq, beq_iff_eq]
    constructor
    · intro h; apply UInt8.toNat_inj.1; omega
    · rintro rfl; rfl
  have q1 : ((b.toNat : Int) == 36) = (b == 36) := beq_u8n b 36 (by decide)
  have q2 : ((b.toNat : Int) == 34) = (b == 34) := beq_u8n b 34 (by decide)
  have q3 : ((b.toNat : Int) == 39) = (b == 39) := beq_u8n b 39 (by decide)
  have q4 : ((b.toNat : Int) == 125) = (b == 125) := beq_u8n b 125 (by decide)
  have HM : Hid (act e b = ((b == e) || (b == 36) || (b == 34) || (b == 39) || (b == 125))) := rfl
  clear h
  generalize (b == e) = c0 at *
  generalize (b == 36) = c1 at *
  generalize (b == 34) = c2 at *
  generalize (b == 39) = c3 at *
  generalize (b == 125) = c4 at *
  generalize act e b = r at *
  cases c0
  rotate_left
  · simp only [Bool.true_or] at HM
    have HR := HM.out
    subst HR
    clear HM
    go_enter Tryz.func117, Tryz.ntmps117
    go_wp2
    go_ret
    exact ⟨rfl, rfl⟩
  all_goals
    cases c1 <;> cases c2 <;> cases c3 <;> cases c4
    all_goals
      have HR := HM.out
      simp at HR
      subst HR
      clear HM
      go_enter Tryz.func117, Tryz.ntmps117
      go_wp2
      go_ret
      exact ⟨rfl, rfl⟩
end Go.Proofs.YtbmakfdljddhcaaGreatDoor
