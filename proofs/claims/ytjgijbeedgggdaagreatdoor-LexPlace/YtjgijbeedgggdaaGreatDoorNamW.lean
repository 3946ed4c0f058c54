/- The program's isNameByte, isName, isQuoted, readOpening. -/
import Derived.Test.YtjgijbeedgggdaaGreatDoorEndW
import Derived.Test.YtjgijbeedgggdaaGreatDoorByM
import Derived.Deep.RegionHeld3
namespace Go.Proofs.YtjgijbeedgggdaaGreatDoor
open Go Go.RowKit

def nmQ (b : UInt8) : Bool := (decide (97 ≤ lowB b) && decide (lowB b ≤ 122)) || (decide (48 ≤ lowB b) && decide (lowB b ≤ 57)) || lowB b == 95
def nmN (n : Nat) : Bool := (decide (65 ≤ n) && decide (n ≤ 90)) || (decide (97 ≤ n) && decide (n ≤ 122)) || (decide (48 ≤ n) && decide (n ≤ 57)) || decide (n = 95)
theorem nm_all : ∀ n, n < 256 → nmQ (UInt8.ofNat n) = nmN n := by decide +kernel
theorem nm_eq (b : UInt8) : nmQ b = nmN b.toNat := by
  have h := nm_all b.toNat (UInt8.toNat_lt b)
  rwa [UInt8.ofNat_toNat] at h
set_option maxRecDepth 100000 in
set_option maxHeartbeats 1000000 in
theorem isNameByte_p (b : UInt8) (w : World) : Calls Tryz.prog 203 #[.int .u8 b.toNat] w fun e w' => e = .returned (.bool (nmQ b)) ∧ w' = w := by
  rw [nm_eq]
  have hlt := UInt8.toNat_lt b
  generalize b.toNat = n at *
  have hc : (0 ≤ n ∧ n ≤ 47) ∨ (48 ≤ n ∧ n ≤ 57) ∨ (58 ≤ n ∧ n ≤ 64) ∨ (65 ≤ n ∧ n ≤ 90) ∨ (91 ≤ n ∧ n ≤ 94) ∨ (95 ≤ n ∧ n ≤ 95) ∨ (96 ≤ n ∧ n ≤ 96) ∨ (97 ≤ n ∧ n ≤ 122) ∨ (123 ≤ n ∧ n ≤ 255) := by omega
  rcases hc with hc | hc | hc | hc | hc | hc | hc | hc | hc
  · have h65 : ¬ ((65 : Int) ≤ (n : Int)) := by omega
    have h90 : ((n : Int) ≤ (90 : Int)) := by omega
    have h97 : ¬ ((97 : Int) ≤ (n : Int)) := by omega
    have h122 : ((n : Int) ≤ (122 : Int)) := by omega
    have h48 : ¬ ((48 : Int) ≤ (n : Int)) := by omega
    have h57 : ((n : Int) ≤ (57 : Int)) := by omega
    have h95 : ((n : Int) == (95 : Int)) = false := by simp; omega
    have hr : nmN n = false := by unfold nmN; simp; omega
    rw [hr]
    clear hr
    go_enter Tryz.func203, Tryz.ntmps203
    go_wp2
    go_ret
    exact ⟨rfl, rfl⟩
  · have h65 : ¬ ((65 : Int) ≤ (n : Int)) := by omega
    have h90 : ((n : Int) ≤ (90 : Int)) := by omega
    have h97 : ¬ ((97 : Int) ≤ (n : Int)) := by omega
    have h122 : ((n : Int) ≤ (122 : Int)) := by omega
    have h48 : ((48 : Int) ≤ (n : Int)) := by omega
    have h57 : ((n : Int) ≤ (57 : Int)) := by omega
    have h95 : ((n : Int) == (95 : Int)) = false := by simp; omega
    have hr : nmN n = true := by unfold nmN; simp; omega
    rw [hr]
    clear hr
    go_enter Tryz.func203, Tryz.ntmps203
    go_wp2
    go_ret
    exact ⟨rfl, rfl⟩
  · have h65 : ¬ ((65 : Int) ≤ (n : Int)) := by omega
    have h90 : ((n : Int) ≤ (90 : Int)) := by omega
    have h97 : ¬ ((97 : Int) ≤ (n : Int)) := by omega
    have h122 : ((n : Int) ≤ (122 : Int)) := by omega
    have h48 : ((48 : Int) ≤ (n : Int)) := by omega
    have h57 : ¬ ((n : Int) ≤ (57 : Int)) := by omega
    have h95 : ((n : Int) == (95 : Int)) = false := by simp; omega
    have hr : nmN n = false := by unfold nmN; simp; omega
    rw [hr]
    clear hr
    go_enter Tryz.func203, Tryz.ntmps203
    go_wp2
    go_ret
    exact ⟨rfl, rfl⟩
  · have h65 : ((65 : Int) ≤ (n : Int)) := by omega
    have h90 : ((n : Int) ≤ (90 : Int)) := by omega
    have h97 : ¬ ((97 : Int) ≤ (n : Int)) := by omega
    have h122 : ((n : Int) ≤ (122 : Int)) := by omega
    have h48 : ((48 : Int) ≤ (n : Int)) := by omega
    have h57 : ¬ ((n : Int) ≤ (57 : Int)) := by omega
    have h95 : ((n : Int) == (95 : Int)) = false := by simp; omega
    have hr : nmN n = true := by unfold nmN; simp; omega
    rw [hr]
    clear hr
    go_enter Tryz.func203, Tryz.ntmps203
    go_wp2
    go_ret
    exact ⟨rfl, rfl⟩
  · have h65 : ((65 : Int) ≤ (n : Int)) := by omega
    have h90 : ¬ ((n : Int) ≤ (90 : Int)) := by omega
    have h97 : ¬ ((97 : Int) ≤ (n : Int)) := by omega
    have h122 : ((n : Int) ≤ (122 : Int)) := by omega
    have h48 : ((48 : Int) ≤ (n : Int)) := by omega
    have h57 : ¬ ((n : Int) ≤ (57 : Int)) := by omega
    have h95 : ((n : Int) == (95 : Int)) = false := by simp; omega
    have hr : nmN n = false := by unfold nmN; simp; omega
    rw [hr]
    clear hr
    go_enter Tryz.func203, Tryz.ntmps203
    go_wp2
    go_ret
    exact ⟨rfl, rfl⟩
  · have h65 : ((65 : Int) ≤ (n : Int)) := by omega
    have h90 : ¬ ((n : Int) ≤ (90 : Int)) := by omega
    have h97 : ¬ ((97 : Int) ≤ (n : Int)) := by omega
    have h122 : ((n : Int) ≤ (122 : Int)) := by omega
    have h48 : ((48 : Int) ≤ (n : Int)) := by omega
    have h57 : ¬ ((n : Int) ≤ (57 : Int)) := by omega
    have h95 : ((n : Int) == (95 : Int)) = true := by simp; omega
    have hr : nmN n = true := by unfold nmN; simp; omega
    rw [hr]
    clear hr
    go_enter Tryz.func203, Tryz.ntmps203
    go_wp2
    go_ret
    exact ⟨rfl, rfl⟩
  · have h65 : ((65 : Int) ≤ (n : Int)) := by omega
    have h90 : ¬ ((n : Int) ≤ (90 : Int)) := by omega
    have h97 : ¬ ((97 : Int) ≤ (n : Int)) := by omega
    have h122 : ((n : Int) ≤ (122 : Int)) := by omega
    have h48 : ((48 : Int) ≤ (n : Int)) := by omega
    have h57 : ¬ ((n : Int) ≤ (57 : Int)) := by omega
    have h95 : ((n : Int) == (95 : Int)) = false := by simp; omega
    have hr : nmN n = false := by unfold nmN; simp; omega
    rw [hr]
    clear hr
    go_enter Tryz.func203, Tryz.ntmps203
    go_wp2
    go_ret
    exact ⟨rfl, rfl⟩
  · have h65 : ((65 : Int) ≤ (n : Int)) := by omega
    have h90 : ¬ ((n : Int) ≤ (90 : Int)) := by omega
    have h97 : ((97 : Int) ≤ (n : Int)) := by omega
    have h122 : ((n : Int) ≤ (122 : Int)) := by omega
    have h48 : ((48 : Int) ≤ (n : Int)) := by omega
    have h57 : ¬ ((n : Int) ≤ (57 : Int)) := by omega
    have h95 : ((n : Int) == (95 : Int)) = false := by simp; omega
    have hr : nmN n = true := by unfold nmN; simp; omega
    rw [hr]
    clear hr
    go_enter Tryz.func203, Tryz.ntmps203
    go_wp2
    go_ret
    exact ⟨rfl, rfl⟩
  · have h65 : ((65 : Int) ≤ (n : Int)) := by omega
    have h90 : ¬ ((n : Int) ≤ (90 : Int)) := by omega
    have h97 : ((97 : Int) ≤ (n : Int)) := by omega
    have h122 : ¬ ((n : Int) ≤ (122 : Int)) := by omega
    have h48 : ((48 : Int) ≤ (n : Int)) := by omega
    have h57 : ¬ ((n : Int) ≤ (57 : Int)) := by omega
    have h95 : ((n : Int) == (95 : Int)) = false := by simp; omega
    have hr : nmN n = false := by unfold nmN; simp; omega
    rw [hr]
    clear hr
    go_enter Tryz.func203, Tryz.ntmps203
    go_wp2
    go_ret
    exact ⟨rfl, rfl⟩
theorem nameL_eq (x : Ln) : nameL x = (decide (1 ≤ x.length) && decide (x.length ≤ 96) && x.all nmQ) := rfl
theorem all_take (p : UInt8 → Bool) (x : Ln) (k : Nat) (b : UInt8) (h : x[k]? = some b) : (x.take (k + 1)).all p = ((x.take k).all p && p b) := by
  rw [List.take_add_one, h, List.all_append]; simp
set_option maxRecDepth 100000 in
set_option maxHeartbeats 1000000 in
theorem isName_p (s : ByteArray) (w : World) (hs : s.size ≤ 1099511627776) : Calls Tryz.prog 195 #[.string s] w fun e w' => e = .returned (.bool (nameL (un s))) ∧ w' = w := by
  have HN : Hid (nameL (un s) = (decide (1 ≤ s.size) && decide (s.size ≤ 96) && (un s).all nmQ)) := by unfold Hid; rw [nameL_eq, un_length]
  go_enter Tryz.func195, Tryz.ntmps195
  go_wp2
  go_loopw [6] (fun v wr => wr = w ∧ ∃ k : Nat, v = .int .i64 k ∧ k ≤ s.size ∧ ((un s).take k).all nmQ = true) (fun v _ => s.size - (intOf v).toNat)
  case atStart => exact ⟨rfl, 0, rfl, Nat.zero_le _, rfl⟩
  case round =>
    obtain ⟨rfl, k, rfl, hk, hall⟩ := hrel
    rcases Nat.lt_or_ge k s.size with hlt | hge
    · obtain ⟨b, hb⟩ : ∃ b, (un s)[k]? = some b := ⟨_, un_getElem? s k hlt⟩
      have hg : s[k]'hlt = b := by have := un_getElem? s k hlt; rw [hb] at this; exact (Option.some.inj this).symm
      have d0 : (0 : Int) ≤ (k : Int) := by omega
      have d1 : (k : Int) < (s.size : Int) := by omega
      have hB := fun W => isNameByte_p b W
      have hT := all_take nmQ (un s) k b hb
      cases hn : nmQ b with
      | true =>
        rw [hn] at hB
        rw [hn, hall] at hT
        go_wp2_with (go_at_call 203; refine (hB _).mono ?_; rintro e w1 ⟨rfl, rfl⟩)
        go_roundw
        case rel => exact ⟨trivial, k + 1, by go_num, by omega, hT⟩
        case measure => simp [intOf]; omega
      | false =>
        rw [hn] at hB
        have hF : nameL (un s) = false := by
          rw [HN.out]
          have : (un s).all nmQ = false := by
            rw [List.all_eq_false]
            exact ⟨b, List.mem_of_getElem? hb, by rw [hn]; decide⟩
          rw [this, Bool.and_false]
        go_wp2_with (go_at_call 203; refine (hB _).mono ?_; rintro e w1 ⟨rfl, rfl⟩)
        go_ret
        exact ⟨by first | rfl | (rw [hF]; rfl), rfl⟩
    · obtain rfl : k = s.size := by omega
      rw [List.take_of_length_le (by rw [un_length]; omega)] at hall
      by_cases h0 : s.size = 0
      · have hF : nameL (un s) = false := by rw [HN.out, h0]; rfl
        have n1 : s.toList.isEmpty = true := (isEmpty_iff s).2 h0
        have n2 : (s.toList == []) = true := by cases hq : s.toList with
          | nil => rfl
          | cons _ _ => rw [hq] at n1; cases n1
        go_wp2
        go_ret
        exact ⟨by first | rfl | (rw [hF]; rfl), rfl⟩
      · have n1 : s.toList.isEmpty = false := (isEmpty_false s).2 (by omega)
        have n2 : (s.toList == []) = false := by cases hq : s.toList with
          | nil => rw [hq] at n1; cases n1
          | cons _ _ => rfl
        rcases Nat.lt_or_ge 96 s.size with h96 | h96
        · have hF : nameL (un s) = false := by rw [HN.out, decide_eq_false (by omega : ¬ s.size ≤ 96), Bool.and_false]; rfl
          have d2 : ¬ (s.size : Int) ≤ 96 := by omega
          go_wp2
          go_ret
          exact ⟨by first | rfl | (rw [hF]; rfl), rfl⟩
        · have hF : nameL (un s) = true := by rw [HN.out, decide_eq_true (by omega : s.size ≤ 96), decide_eq_true (by omega : 1 ≤ s.size), hall]; rfl
          have d2 : (s.size : Int) ≤ 96 := by omega
          go_wp2
          go_ret
          exact ⟨by first | rfl | (rw [hF]; rfl), rfl⟩
/-- Does a text begin and end with the same quote? -/
def quoB (x : Ln) : Bool := decide (2 ≤ x.length) && (x[0]? == some 34 || x[0]? == some 39) && x[x.length - 1]? == x[0]?
set_option maxRecDepth 100000 in
set_option maxHeartbeats 1000000 in
theorem isQuoted_p (s : ByteArray) (w : World) (hs : s.size ≤ 1099511627776) : Calls Tryz.prog 194 #[.string s] w fun e w' => e = .returned (.bool (quoB (un s))) ∧ Below w.heap.size w w' := by
  have HQ : Hid (quoB (un s) = (decide (2 ≤ s.size) && ((un s)[0]? == some 34 || (un s)[0]? == some 39) && (un s)[s.size - 1]? == (un s)[0]?)) := by unfold Hid quoB; rw [un_length]
  rcases Nat.lt_or_ge s.size 2 with hlt | hge
  · have hF : quoB (un s) = false := by rw [HQ.out, decide_eq_false (by omega)]; rfl
    have g1 : decide ((s.size : Int) - 1 > 0) = false := decide_eq_false (by omega)
    have g2 : decide (0 < (s.size : Int) - 1) = false := decide_eq_false (by omega)
    have g3 : decide (1 < s.size) = false := decide_eq_false (by omega)
    have g4 : decide ((1 : Int) < (s.size : Int)) = false := decide_eq_false (by omega)
    have w1 : IntKind.i64.wrap ((s.size : Int) - 1) = (s.size : Int) - 1 := wrap_small _ (by omega) (by omega)
    rw [hF]
    go_enter Tryz.func194, Tryz.ntmps194
    go_wp2
    go_quiet (fail)
    go_wp2
    go_ret
    exact ⟨rfl, below_drawn (Below.refl _ _) _⟩
  · obtain ⟨a, ha⟩ : ∃ a, (un s)[0]? = some a := ⟨_, un_getElem? s 0 (by omega)⟩
    obtain ⟨b, hb⟩ : ∃ b, (un s)[s.size - 1]? = some b := ⟨_, un_getElem? s (s.size - 1) (by omega)⟩
    have ga : s[0]'(by omega) = a := by have := un_getElem? s 0 (by omega); rw [ha] at this; exact (Option.some.inj this).symm
    have gb : s[s.size - 1]'(by omega) = b := by have := un_getElem? s (s.size - 1) (by omega); rw [hb] at this; exact (Option.some.inj this).symm
    have HQ2 : Hid (quoB (un s) = ((decide (a = 34) || decide (a = 39)) && decide (a = b))) := by
      unfold Hid
      rw [HQ.out, decide_eq_true hge, ha, hb, Bool.true_and]
      have c : ∀ x y : UInt8, ((some x : Option UInt8) == some y) = decide (x = y) := fun x y => by
        by_cases h1 : x = y
        · subst h1; simp
        · rw [decide_eq_false h1]; simp [h1]
      rw [c a 34, c a 39, c b a]
      congr 1
      by_cases h1 : a = b
      · subst h1; rfl
      · rw [decide_eq_false h1, decide_eq_false (fun e => h1 e.symm)]
    have g1 : decide ((s.size : Int) - 1 > 0) = true := decide_eq_true (by omega)
    have g2 : decide (0 < (s.size : Int) - 1) = true := decide_eq_true (by omega)
    have g3 : decide (1 < s.size) = true := decide_eq_true (by omega)
    have g4 : decide ((1 : Int) < (s.size : Int)) = true := decide_eq_true (by omega)
    have w1 : IntKind.i64.wrap ((s.size : Int) - 1) = ((s.size - 1 : Nat) : Int) := by rw [wrap_small _ (by omega) (by omega)]; omega
    have d0 : (0 : Int) < (s.size : Int) := by omega
    have d1 : ((s.size - 1 : Nat) : Int) < (s.size : Int) := by omega
    have d2 : (0 : Int) ≤ ((s.size - 1 : Nat) : Int) := by omega
    have d3 : decide (0 < s.size - 1) = true := decide_eq_true (by omega)
    have n0 : 0 < s.size := by omega
    have n1 : s.size - 1 < s.size := by omega
    have n3 : decide ((0 : Int) < (s.size : Int)) = true := decide_eq_true d0
    have n4 : decide (((s.size - 1 : Nat) : Int) < (s.size : Int)) = true := decide_eq_true d1
    have d4 : decide ((0 : Int) < ((s.size - 1 : Nat) : Int)) = true := decide_eq_true (by omega)
    have e1 := beq_b88 a b
    have e2 := beq_b8 a 34 (by decide)
    have e3 := beq_b8 a 39 (by decide)
    rw [show UInt8.ofNat 34 = 34 from rfl] at e2
    rw [show UInt8.ofNat 39 = 39 from rfl] at e3
    clear HQ ha hb
    by_cases k1 : a = b
    · subst k1
      rw [decide_eq_true rfl] at e1 HQ2
      by_cases k2 : a = 34
      · rw [decide_eq_true k2] at e2 HQ2
        have q2 : (a.toNat : Int) = 34 := by rw [k2]; rfl
        clear k2 e3
        rw [HQ2.out]
        clear HQ2
        go_enter Tryz.func194, Tryz.ntmps194
        go_wp2
        refine wp_region_noPanic ?_
        refine wp_region_held_drew (S := fun _ => True) (by kernel_rfl) trivial (fun h0 => ?_)
        refine wpAnyH_take (i := 0) (v := .int .i64 ((s.size - 1 : Nat) : Int)) rfl (by kernel_rfl) (by kernel_rfl) (by kernel_rfl) (fun _ _ _ h => h) (Or.inl ⟨by rfl, fun W hSw => by obtain hS := hSw; go_simp⟩) trivial ?_
        try dsimp [Act.put]
        try simp only [List.setIfInBounds_toArray, List.set_cons_succ, List.set_cons_zero]
        refine wpAnyH_take (i := 1) (v := .bool true) rfl (by kernel_rfl) (by kernel_rfl) (by kernel_rfl) (fun _ _ _ h => h) (Or.inl ⟨by rfl, fun W hSw => by obtain hS := hSw; go_simp⟩) trivial ?_
        try dsimp [Act.put]
        try simp only [List.setIfInBounds_toArray, List.set_cons_succ, List.set_cons_zero]
        refine wpAnyH_take (i := 2) (v := .bool true) rfl (by kernel_rfl) (by kernel_rfl) (by kernel_rfl) (fun _ _ _ h => h) (Or.inl ⟨by rfl, fun W hSw => by obtain hS := hSw; go_simp⟩) trivial ?_
        try dsimp [Act.put]
        try simp only [List.setIfInBounds_toArray, List.set_cons_succ, List.set_cons_zero]
        refine wpAnyH_take (i := 3) (v := .string s) rfl (by kernel_rfl) (by kernel_rfl) (by kernel_rfl) (fun _ _ _ h => h) (Or.inl ⟨by rfl, fun W hSw => by obtain hS := hSw; go_simp⟩) trivial ?_
        try dsimp [Act.put]
        try simp only [List.setIfInBounds_toArray, List.set_cons_succ, List.set_cons_zero]
        refine wpAnyH_take (i := 4) (v := .int .u8 a.toNat) rfl (by kernel_rfl) (by kernel_rfl) (by kernel_rfl) (fun _ _ _ h => h) (Or.inl ⟨by rfl, fun W hSw => by obtain hS := hSw; go_simp⟩) trivial ?_
        try dsimp [Act.put]
        try simp only [List.setIfInBounds_toArray, List.set_cons_succ, List.set_cons_zero]
        refine wpAnyH_take (i := 5) (v := .string s) rfl (by kernel_rfl) (by kernel_rfl) (by kernel_rfl) (fun _ _ _ h => h) (Or.inl ⟨by rfl, fun W hSw => by obtain hS := hSw; go_simp⟩) trivial ?_
        try dsimp [Act.put]
        try simp only [List.setIfInBounds_toArray, List.set_cons_succ, List.set_cons_zero]
        refine wpAnyH_take (i := 6) (v := .int .i64 ((s.size - 1 : Nat) : Int)) rfl (by kernel_rfl) (by kernel_rfl) (by kernel_rfl) (fun _ _ _ h => h) (Or.inl ⟨by rfl, fun W hSw => by obtain hS := hSw; go_simp⟩) trivial ?_
        try dsimp [Act.put]
        try simp only [List.setIfInBounds_toArray, List.set_cons_succ, List.set_cons_zero]
        refine wpAnyH_take (i := 7) (v := .int .u8 a.toNat) rfl (by kernel_rfl) (by kernel_rfl) (by kernel_rfl) (fun _ _ _ h => h) (Or.inl ⟨by rfl, fun W hSw => by obtain hS := hSw; go_simp⟩) trivial ?_
        try dsimp [Act.put]
        try simp only [List.setIfInBounds_toArray, List.set_cons_succ, List.set_cons_zero]
        refine wpAnyH_take (i := 8) (v := .bool true) rfl (by kernel_rfl) (by kernel_rfl) (by kernel_rfl) (fun _ _ _ h => h) (Or.inl ⟨by rfl, fun W hSw => by obtain hS := hSw; go_simp⟩) trivial ?_
        try dsimp [Act.put]
        try simp only [List.setIfInBounds_toArray, List.set_cons_succ, List.set_cons_zero]
        refine wpAnyH_take (i := 9) (v := .bool true) rfl (by kernel_rfl) (by kernel_rfl) (by kernel_rfl) (fun _ _ _ h => h) (Or.inl ⟨by rfl, fun W hSw => by obtain hS := hSw; go_simp⟩) trivial ?_
        try dsimp [Act.put]
        try simp only [List.setIfInBounds_toArray, List.set_cons_succ, List.set_cons_zero]
        refine wpAnyH_take (i := 10) (v := .bool true) rfl (by kernel_rfl) (by kernel_rfl) (by kernel_rfl) (fun _ _ _ h => h) (Or.inl ⟨by rfl, fun W hSw => by obtain hS := hSw; go_simp⟩) trivial ?_
        try dsimp [Act.put]
        try simp only [List.setIfInBounds_toArray, List.set_cons_succ, List.set_cons_zero]
        refine wpAnyH_take (i := 11) (v := .string s) rfl (by kernel_rfl) (by kernel_rfl) (by kernel_rfl) (fun _ _ _ h => h) (Or.inl ⟨by rfl, fun W hSw => by obtain hS := hSw; go_simp⟩) trivial ?_
        try dsimp [Act.put]
        try simp only [List.setIfInBounds_toArray, List.set_cons_succ, List.set_cons_zero]
        refine wpAnyH_take (i := 12) (v := .int .u8 a.toNat) rfl (by kernel_rfl) (by kernel_rfl) (by kernel_rfl) (fun _ _ _ h => h) (Or.inl ⟨by rfl, fun W hSw => by obtain hS := hSw; go_simp⟩) trivial ?_
        try dsimp [Act.put]
        try simp only [List.setIfInBounds_toArray, List.set_cons_succ, List.set_cons_zero]
        refine wpAnyH_take (i := 13) (v := .bool true) rfl (by kernel_rfl) (by kernel_rfl) (by kernel_rfl) (fun _ _ _ h => h) (Or.inl ⟨by rfl, fun W hSw => by obtain hS := hSw; go_simp⟩) trivial ?_
        try dsimp [Act.put]
        try simp only [List.setIfInBounds_toArray, List.set_cons_succ, List.set_cons_zero]
        refine wpAnyH_take (i := 14) (v := .bool true) rfl (by kernel_rfl) (by kernel_rfl) (by kernel_rfl) (fun _ _ _ h => h) (Or.inl ⟨by rfl, fun W hSw => by obtain hS := hSw; go_simp⟩) trivial ?_
        try dsimp [Act.put]
        try simp only [List.setIfInBounds_toArray, List.set_cons_succ, List.set_cons_zero]
        refine wpAnyH_take (i := 15) (v := undef) rfl (by kernel_rfl) (by kernel_rfl) (by kernel_rfl) (fun _ _ _ h => h) (Or.inr ⟨by rfl, rfl⟩) trivial ?_
        try dsimp [Act.put]
        try simp only [List.setIfInBounds_toArray, List.set_cons_succ, List.set_cons_zero]
        refine wpAnyH_take (i := 16) (v := undef) rfl (by kernel_rfl) (by kernel_rfl) (by kernel_rfl) (fun _ _ _ h => h) (Or.inr ⟨by rfl, rfl⟩) trivial ?_
        try dsimp [Act.put]
        try simp only [List.setIfInBounds_toArray, List.set_cons_succ, List.set_cons_zero]
        refine wpAnyH_take (i := 17) (v := undef) rfl (by kernel_rfl) (by kernel_rfl) (by kernel_rfl) (fun _ _ _ h => h) (Or.inr ⟨by rfl, rfl⟩) trivial ?_
        try dsimp [Act.put]
        try simp only [List.setIfInBounds_toArray, List.set_cons_succ, List.set_cons_zero]
        refine wpAnyH_take (i := 18) (v := .bool true) rfl (by kernel_rfl) (by kernel_rfl) (by kernel_rfl) (fun _ _ _ h => h) (Or.inl ⟨by rfl, fun W hSw => by obtain hS := hSw; go_simp⟩) trivial ?_
        try dsimp [Act.put]
        try simp only [List.setIfInBounds_toArray, List.set_cons_succ, List.set_cons_zero]
        refine wpAnyH_take (i := 19) (v := .bool true) rfl (by kernel_rfl) (by kernel_rfl) (by kernel_rfl) (fun _ _ _ h => h) (Or.inl ⟨by rfl, fun W hSw => by obtain hS := hSw; go_simp⟩) trivial ?_
        try dsimp [Act.put]
        try simp only [List.setIfInBounds_toArray, List.set_cons_succ, List.set_cons_zero]
        refine wpAnyH_take (i := 20) (v := .bool true) rfl (by kernel_rfl) (by kernel_rfl) (by kernel_rfl) (fun _ _ _ h => h) (Or.inl ⟨by rfl, fun W hSw => by obtain hS := hSw; go_simp⟩) trivial ?_
        try dsimp [Act.put]
        try simp only [List.setIfInBounds_toArray, List.set_cons_succ, List.set_cons_zero]
        refine wpAnyH_done (by kernel_rfl) ?_ _
        refine NoPanic.normal ?_
        go_wp2
        go_ret
        exact ⟨rfl, (Below.refl _ _).drew⟩
      · rw [decide_eq_false k2] at e2 HQ2
        have q2 : ¬ (a.toNat : Int) = 34 := fun e => k2 (UInt8.toNat_inj.1 (by rw [show a.toNat = 34 by omega]; rfl))
        by_cases k3 : a = 39
        · rw [decide_eq_true k3] at e3 HQ2
          have q3 : (a.toNat : Int) = 39 := by rw [k3]; rfl
          clear k2 k3
          rw [HQ2.out]
          clear HQ2
          go_enter Tryz.func194, Tryz.ntmps194
          go_wp2
          refine wp_region_noPanic ?_
          refine wp_region_held_drew (S := fun _ => True) (by kernel_rfl) trivial (fun h0 => ?_)
          refine wpAnyH_take (i := 0) (v := .int .i64 ((s.size - 1 : Nat) : Int)) rfl (by kernel_rfl) (by kernel_rfl) (by kernel_rfl) (fun _ _ _ h => h) (Or.inl ⟨by rfl, fun W hSw => by obtain hS := hSw; go_simp⟩) trivial ?_
          try dsimp [Act.put]
          try simp only [List.setIfInBounds_toArray, List.set_cons_succ, List.set_cons_zero]
          refine wpAnyH_take (i := 1) (v := .bool true) rfl (by kernel_rfl) (by kernel_rfl) (by kernel_rfl) (fun _ _ _ h => h) (Or.inl ⟨by rfl, fun W hSw => by obtain hS := hSw; go_simp⟩) trivial ?_
          try dsimp [Act.put]
          try simp only [List.setIfInBounds_toArray, List.set_cons_succ, List.set_cons_zero]
          refine wpAnyH_take (i := 2) (v := .bool true) rfl (by kernel_rfl) (by kernel_rfl) (by kernel_rfl) (fun _ _ _ h => h) (Or.inl ⟨by rfl, fun W hSw => by obtain hS := hSw; go_simp⟩) trivial ?_
          try dsimp [Act.put]
          try simp only [List.setIfInBounds_toArray, List.set_cons_succ, List.set_cons_zero]
          refine wpAnyH_take (i := 3) (v := .string s) rfl (by kernel_rfl) (by kernel_rfl) (by kernel_rfl) (fun _ _ _ h => h) (Or.inl ⟨by rfl, fun W hSw => by obtain hS := hSw; go_simp⟩) trivial ?_
          try dsimp [Act.put]
          try simp only [List.setIfInBounds_toArray, List.set_cons_succ, List.set_cons_zero]
          refine wpAnyH_take (i := 4) (v := .int .u8 a.toNat) rfl (by kernel_rfl) (by kernel_rfl) (by kernel_rfl) (fun _ _ _ h => h) (Or.inl ⟨by rfl, fun W hSw => by obtain hS := hSw; go_simp⟩) trivial ?_
          try dsimp [Act.put]
          try simp only [List.setIfInBounds_toArray, List.set_cons_succ, List.set_cons_zero]
          refine wpAnyH_take (i := 5) (v := .string s) rfl (by kernel_rfl) (by kernel_rfl) (by kernel_rfl) (fun _ _ _ h => h) (Or.inl ⟨by rfl, fun W hSw => by obtain hS := hSw; go_simp⟩) trivial ?_
          try dsimp [Act.put]
          try simp only [List.setIfInBounds_toArray, List.set_cons_succ, List.set_cons_zero]
          refine wpAnyH_take (i := 6) (v := .int .i64 ((s.size - 1 : Nat) : Int)) rfl (by kernel_rfl) (by kernel_rfl) (by kernel_rfl) (fun _ _ _ h => h) (Or.inl ⟨by rfl, fun W hSw => by obtain hS := hSw; go_simp⟩) trivial ?_
          try dsimp [Act.put]
          try simp only [List.setIfInBounds_toArray, List.set_cons_succ, List.set_cons_zero]
          refine wpAnyH_take (i := 7) (v := .int .u8 a.toNat) rfl (by kernel_rfl) (by kernel_rfl) (by kernel_rfl) (fun _ _ _ h => h) (Or.inl ⟨by rfl, fun W hSw => by obtain hS := hSw; go_simp⟩) trivial ?_
          try dsimp [Act.put]
          try simp only [List.setIfInBounds_toArray, List.set_cons_succ, List.set_cons_zero]
          refine wpAnyH_take (i := 8) (v := .bool true) rfl (by kernel_rfl) (by kernel_rfl) (by kernel_rfl) (fun _ _ _ h => h) (Or.inl ⟨by rfl, fun W hSw => by obtain hS := hSw; go_simp⟩) trivial ?_
          try dsimp [Act.put]
          try simp only [List.setIfInBounds_toArray, List.set_cons_succ, List.set_cons_zero]
          refine wpAnyH_take (i := 9) (v := .bool true) rfl (by kernel_rfl) (by kernel_rfl) (by kernel_rfl) (fun _ _ _ h => h) (Or.inl ⟨by rfl, fun W hSw => by obtain hS := hSw; go_simp⟩) trivial ?_
          try dsimp [Act.put]
          try simp only [List.setIfInBounds_toArray, List.set_cons_succ, List.set_cons_zero]
          refine wpAnyH_take (i := 10) (v := .bool true) rfl (by kernel_rfl) (by kernel_rfl) (by kernel_rfl) (fun _ _ _ h => h) (Or.inl ⟨by rfl, fun W hSw => by obtain hS := hSw; go_simp⟩) trivial ?_
          try dsimp [Act.put]
          try simp only [List.setIfInBounds_toArray, List.set_cons_succ, List.set_cons_zero]
          refine wpAnyH_take (i := 11) (v := .string s) rfl (by kernel_rfl) (by kernel_rfl) (by kernel_rfl) (fun _ _ _ h => h) (Or.inl ⟨by rfl, fun W hSw => by obtain hS := hSw; go_simp⟩) trivial ?_
          try dsimp [Act.put]
          try simp only [List.setIfInBounds_toArray, List.set_cons_succ, List.set_cons_zero]
          refine wpAnyH_take (i := 12) (v := .int .u8 a.toNat) rfl (by kernel_rfl) (by kernel_rfl) (by kernel_rfl) (fun _ _ _ h => h) (Or.inl ⟨by rfl, fun W hSw => by obtain hS := hSw; go_simp⟩) trivial ?_
          try dsimp [Act.put]
          try simp only [List.setIfInBounds_toArray, List.set_cons_succ, List.set_cons_zero]
          refine wpAnyH_take (i := 13) (v := .bool false) rfl (by kernel_rfl) (by kernel_rfl) (by kernel_rfl) (fun _ _ _ h => h) (Or.inl ⟨by rfl, fun W hSw => by obtain hS := hSw; go_simp⟩) trivial ?_
          try dsimp [Act.put]
          try simp only [List.setIfInBounds_toArray, List.set_cons_succ, List.set_cons_zero]
          refine wpAnyH_take (i := 14) (v := .bool false) rfl (by kernel_rfl) (by kernel_rfl) (by kernel_rfl) (fun _ _ _ h => h) (Or.inl ⟨by rfl, fun W hSw => by obtain hS := hSw; go_simp⟩) trivial ?_
          try dsimp [Act.put]
          try simp only [List.setIfInBounds_toArray, List.set_cons_succ, List.set_cons_zero]
          refine wpAnyH_take (i := 15) (v := .string s) rfl (by kernel_rfl) (by kernel_rfl) (by kernel_rfl) (fun _ _ _ h => h) (Or.inl ⟨by rfl, fun W hSw => by obtain hS := hSw; go_simp⟩) trivial ?_
          try dsimp [Act.put]
          try simp only [List.setIfInBounds_toArray, List.set_cons_succ, List.set_cons_zero]
          refine wpAnyH_take (i := 16) (v := .int .u8 a.toNat) rfl (by kernel_rfl) (by kernel_rfl) (by kernel_rfl) (fun _ _ _ h => h) (Or.inl ⟨by rfl, fun W hSw => by obtain hS := hSw; go_simp⟩) trivial ?_
          try dsimp [Act.put]
          try simp only [List.setIfInBounds_toArray, List.set_cons_succ, List.set_cons_zero]
          refine wpAnyH_take (i := 17) (v := .bool true) rfl (by kernel_rfl) (by kernel_rfl) (by kernel_rfl) (fun _ _ _ h => h) (Or.inl ⟨by rfl, fun W hSw => by obtain hS := hSw; go_simp⟩) trivial ?_
          try dsimp [Act.put]
          try simp only [List.setIfInBounds_toArray, List.set_cons_succ, List.set_cons_zero]
          refine wpAnyH_take (i := 18) (v := .bool true) rfl (by kernel_rfl) (by kernel_rfl) (by kernel_rfl) (fun _ _ _ h => h) (Or.inl ⟨by rfl, fun W hSw => by obtain hS := hSw; go_simp⟩) trivial ?_
          try dsimp [Act.put]
          try simp only [List.setIfInBounds_toArray, List.set_cons_succ, List.set_cons_zero]
          refine wpAnyH_take (i := 19) (v := .bool true) rfl (by kernel_rfl) (by kernel_rfl) (by kernel_rfl) (fun _ _ _ h => h) (Or.inl ⟨by rfl, fun W hSw => by obtain hS := hSw; go_simp⟩) trivial ?_
          try dsimp [Act.put]
          try simp only [List.setIfInBounds_toArray, List.set_cons_succ, List.set_cons_zero]
          refine wpAnyH_take (i := 20) (v := .bool true) rfl (by kernel_rfl) (by kernel_rfl) (by kernel_rfl) (fun _ _ _ h => h) (Or.inl ⟨by rfl, fun W hSw => by obtain hS := hSw; go_simp⟩) trivial ?_
          try dsimp [Act.put]
          try simp only [List.setIfInBounds_toArray, List.set_cons_succ, List.set_cons_zero]
          refine wpAnyH_done (by kernel_rfl) ?_ _
          refine NoPanic.normal ?_
          go_wp2
          go_ret
          exact ⟨rfl, (Below.refl _ _).drew⟩
        · rw [decide_eq_false k3] at e3 HQ2
          have q3 : ¬ (a.toNat : Int) = 39 := fun e => k3 (UInt8.toNat_inj.1 (by rw [show a.toNat = 39 by omega]; rfl))
          clear k2 k3
          rw [HQ2.out]
          clear HQ2
          go_enter Tryz.func194, Tryz.ntmps194
          go_wp2
          refine wp_region_noPanic ?_
          refine wp_region_held_drew (S := fun _ => True) (by kernel_rfl) trivial (fun h0 => ?_)
          refine wpAnyH_take (i := 0) (v := .int .i64 ((s.size - 1 : Nat) : Int)) rfl (by kernel_rfl) (by kernel_rfl) (by kernel_rfl) (fun _ _ _ h => h) (Or.inl ⟨by rfl, fun W hSw => by obtain hS := hSw; go_simp⟩) trivial ?_
          try dsimp [Act.put]
          try simp only [List.setIfInBounds_toArray, List.set_cons_succ, List.set_cons_zero]
          refine wpAnyH_take (i := 1) (v := .bool true) rfl (by kernel_rfl) (by kernel_rfl) (by kernel_rfl) (fun _ _ _ h => h) (Or.inl ⟨by rfl, fun W hSw => by obtain hS := hSw; go_simp⟩) trivial ?_
          try dsimp [Act.put]
          try simp only [List.setIfInBounds_toArray, List.set_cons_succ, List.set_cons_zero]
          refine wpAnyH_take (i := 2) (v := .bool true) rfl (by kernel_rfl) (by kernel_rfl) (by kernel_rfl) (fun _ _ _ h => h) (Or.inl ⟨by rfl, fun W hSw => by obtain hS := hSw; go_simp⟩) trivial ?_
          try dsimp [Act.put]
          try simp only [List.setIfInBounds_toArray, List.set_cons_succ, List.set_cons_zero]
          refine wpAnyH_take (i := 3) (v := .string s) rfl (by kernel_rfl) (by kernel_rfl) (by kernel_rfl) (fun _ _ _ h => h) (Or.inl ⟨by rfl, fun W hSw => by obtain hS := hSw; go_simp⟩) trivial ?_
          try dsimp [Act.put]
          try simp only [List.setIfInBounds_toArray, List.set_cons_succ, List.set_cons_zero]
          refine wpAnyH_take (i := 4) (v := .int .u8 a.toNat) rfl (by kernel_rfl) (by kernel_rfl) (by kernel_rfl) (fun _ _ _ h => h) (Or.inl ⟨by rfl, fun W hSw => by obtain hS := hSw; go_simp⟩) trivial ?_
          try dsimp [Act.put]
          try simp only [List.setIfInBounds_toArray, List.set_cons_succ, List.set_cons_zero]
          refine wpAnyH_take (i := 5) (v := .string s) rfl (by kernel_rfl) (by kernel_rfl) (by kernel_rfl) (fun _ _ _ h => h) (Or.inl ⟨by rfl, fun W hSw => by obtain hS := hSw; go_simp⟩) trivial ?_
          try dsimp [Act.put]
          try simp only [List.setIfInBounds_toArray, List.set_cons_succ, List.set_cons_zero]
          refine wpAnyH_take (i := 6) (v := .int .i64 ((s.size - 1 : Nat) : Int)) rfl (by kernel_rfl) (by kernel_rfl) (by kernel_rfl) (fun _ _ _ h => h) (Or.inl ⟨by rfl, fun W hSw => by obtain hS := hSw; go_simp⟩) trivial ?_
          try dsimp [Act.put]
          try simp only [List.setIfInBounds_toArray, List.set_cons_succ, List.set_cons_zero]
          refine wpAnyH_take (i := 7) (v := .int .u8 a.toNat) rfl (by kernel_rfl) (by kernel_rfl) (by kernel_rfl) (fun _ _ _ h => h) (Or.inl ⟨by rfl, fun W hSw => by obtain hS := hSw; go_simp⟩) trivial ?_
          try dsimp [Act.put]
          try simp only [List.setIfInBounds_toArray, List.set_cons_succ, List.set_cons_zero]
          refine wpAnyH_take (i := 8) (v := .bool true) rfl (by kernel_rfl) (by kernel_rfl) (by kernel_rfl) (fun _ _ _ h => h) (Or.inl ⟨by rfl, fun W hSw => by obtain hS := hSw; go_simp⟩) trivial ?_
          try dsimp [Act.put]
          try simp only [List.setIfInBounds_toArray, List.set_cons_succ, List.set_cons_zero]
          refine wpAnyH_take (i := 9) (v := .bool true) rfl (by kernel_rfl) (by kernel_rfl) (by kernel_rfl) (fun _ _ _ h => h) (Or.inl ⟨by rfl, fun W hSw => by obtain hS := hSw; go_simp⟩) trivial ?_
          try dsimp [Act.put]
          try simp only [List.setIfInBounds_toArray, List.set_cons_succ, List.set_cons_zero]
          refine wpAnyH_take (i := 10) (v := .bool true) rfl (by kernel_rfl) (by kernel_rfl) (by kernel_rfl) (fun _ _ _ h => h) (Or.inl ⟨by rfl, fun W hSw => by obtain hS := hSw; go_simp⟩) trivial ?_
          try dsimp [Act.put]
          try simp only [List.setIfInBounds_toArray, List.set_cons_succ, List.set_cons_zero]
          refine wpAnyH_take (i := 11) (v := .string s) rfl (by kernel_rfl) (by kernel_rfl) (by kernel_rfl) (fun _ _ _ h => h) (Or.inl ⟨by rfl, fun W hSw => by obtain hS := hSw; go_simp⟩) trivial ?_
          try dsimp [Act.put]
          try simp only [List.setIfInBounds_toArray, List.set_cons_succ, List.set_cons_zero]
          refine wpAnyH_take (i := 12) (v := .int .u8 a.toNat) rfl (by kernel_rfl) (by kernel_rfl) (by kernel_rfl) (fun _ _ _ h => h) (Or.inl ⟨by rfl, fun W hSw => by obtain hS := hSw; go_simp⟩) trivial ?_
          try dsimp [Act.put]
          try simp only [List.setIfInBounds_toArray, List.set_cons_succ, List.set_cons_zero]
          refine wpAnyH_take (i := 13) (v := .bool false) rfl (by kernel_rfl) (by kernel_rfl) (by kernel_rfl) (fun _ _ _ h => h) (Or.inl ⟨by rfl, fun W hSw => by obtain hS := hSw; go_simp⟩) trivial ?_
          try dsimp [Act.put]
          try simp only [List.setIfInBounds_toArray, List.set_cons_succ, List.set_cons_zero]
          refine wpAnyH_take (i := 14) (v := .bool false) rfl (by kernel_rfl) (by kernel_rfl) (by kernel_rfl) (fun _ _ _ h => h) (Or.inl ⟨by rfl, fun W hSw => by obtain hS := hSw; go_simp⟩) trivial ?_
          try dsimp [Act.put]
          try simp only [List.setIfInBounds_toArray, List.set_cons_succ, List.set_cons_zero]
          refine wpAnyH_take (i := 15) (v := .string s) rfl (by kernel_rfl) (by kernel_rfl) (by kernel_rfl) (fun _ _ _ h => h) (Or.inl ⟨by rfl, fun W hSw => by obtain hS := hSw; go_simp⟩) trivial ?_
          try dsimp [Act.put]
          try simp only [List.setIfInBounds_toArray, List.set_cons_succ, List.set_cons_zero]
          refine wpAnyH_take (i := 16) (v := .int .u8 a.toNat) rfl (by kernel_rfl) (by kernel_rfl) (by kernel_rfl) (fun _ _ _ h => h) (Or.inl ⟨by rfl, fun W hSw => by obtain hS := hSw; go_simp⟩) trivial ?_
          try dsimp [Act.put]
          try simp only [List.setIfInBounds_toArray, List.set_cons_succ, List.set_cons_zero]
          refine wpAnyH_take (i := 17) (v := .bool false) rfl (by kernel_rfl) (by kernel_rfl) (by kernel_rfl) (fun _ _ _ h => h) (Or.inl ⟨by rfl, fun W hSw => by obtain hS := hSw; go_simp⟩) trivial ?_
          try dsimp [Act.put]
          try simp only [List.setIfInBounds_toArray, List.set_cons_succ, List.set_cons_zero]
          refine wpAnyH_take (i := 18) (v := .bool false) rfl (by kernel_rfl) (by kernel_rfl) (by kernel_rfl) (fun _ _ _ h => h) (Or.inl ⟨by rfl, fun W hSw => by obtain hS := hSw; go_simp⟩) trivial ?_
          try dsimp [Act.put]
          try simp only [List.setIfInBounds_toArray, List.set_cons_succ, List.set_cons_zero]
          refine wpAnyH_take (i := 19) (v := .bool false) rfl (by kernel_rfl) (by kernel_rfl) (by kernel_rfl) (fun _ _ _ h => h) (Or.inl ⟨by rfl, fun W hSw => by obtain hS := hSw; go_simp⟩) trivial ?_
          try dsimp [Act.put]
          try simp only [List.setIfInBounds_toArray, List.set_cons_succ, List.set_cons_zero]
          refine wpAnyH_take (i := 20) (v := .bool false) rfl (by kernel_rfl) (by kernel_rfl) (by kernel_rfl) (fun _ _ _ h => h) (Or.inl ⟨by rfl, fun W hSw => by obtain hS := hSw; go_simp⟩) trivial ?_
          try dsimp [Act.put]
          try simp only [List.setIfInBounds_toArray, List.set_cons_succ, List.set_cons_zero]
          refine wpAnyH_done (by kernel_rfl) ?_ _
          refine NoPanic.normal ?_
          go_wp2
          go_ret
          exact ⟨rfl, (Below.refl _ _).drew⟩
    · rw [decide_eq_false k1, Bool.and_false] at HQ2
      rw [decide_eq_false k1] at e1
      clear k1 e2 e3
      rw [HQ2.out]
      clear HQ2
      go_enter Tryz.func194, Tryz.ntmps194
      go_wp2
      refine wp_region_noPanic ?_
      refine wp_region_held_drew (S := fun _ => True) (by kernel_rfl) trivial (fun h0 => ?_)
      refine wpAnyH_take (i := 0) (v := .int .i64 ((s.size - 1 : Nat) : Int)) rfl (by kernel_rfl) (by kernel_rfl) (by kernel_rfl) (fun _ _ _ h => h) (Or.inl ⟨by rfl, fun W hSw => by obtain hS := hSw; go_simp⟩) trivial ?_
      try dsimp [Act.put]
      try simp only [List.setIfInBounds_toArray, List.set_cons_succ, List.set_cons_zero]
      refine wpAnyH_take (i := 1) (v := .bool true) rfl (by kernel_rfl) (by kernel_rfl) (by kernel_rfl) (fun _ _ _ h => h) (Or.inl ⟨by rfl, fun W hSw => by obtain hS := hSw; go_simp⟩) trivial ?_
      try dsimp [Act.put]
      try simp only [List.setIfInBounds_toArray, List.set_cons_succ, List.set_cons_zero]
      refine wpAnyH_take (i := 2) (v := .bool true) rfl (by kernel_rfl) (by kernel_rfl) (by kernel_rfl) (fun _ _ _ h => h) (Or.inl ⟨by rfl, fun W hSw => by obtain hS := hSw; go_simp⟩) trivial ?_
      try dsimp [Act.put]
      try simp only [List.setIfInBounds_toArray, List.set_cons_succ, List.set_cons_zero]
      refine wpAnyH_take (i := 3) (v := .string s) rfl (by kernel_rfl) (by kernel_rfl) (by kernel_rfl) (fun _ _ _ h => h) (Or.inl ⟨by rfl, fun W hSw => by obtain hS := hSw; go_simp⟩) trivial ?_
      try dsimp [Act.put]
      try simp only [List.setIfInBounds_toArray, List.set_cons_succ, List.set_cons_zero]
      refine wpAnyH_take (i := 4) (v := .int .u8 a.toNat) rfl (by kernel_rfl) (by kernel_rfl) (by kernel_rfl) (fun _ _ _ h => h) (Or.inl ⟨by rfl, fun W hSw => by obtain hS := hSw; go_simp⟩) trivial ?_
      try dsimp [Act.put]
      try simp only [List.setIfInBounds_toArray, List.set_cons_succ, List.set_cons_zero]
      refine wpAnyH_take (i := 5) (v := .string s) rfl (by kernel_rfl) (by kernel_rfl) (by kernel_rfl) (fun _ _ _ h => h) (Or.inl ⟨by rfl, fun W hSw => by obtain hS := hSw; go_simp⟩) trivial ?_
      try dsimp [Act.put]
      try simp only [List.setIfInBounds_toArray, List.set_cons_succ, List.set_cons_zero]
      refine wpAnyH_take (i := 6) (v := .int .i64 ((s.size - 1 : Nat) : Int)) rfl (by kernel_rfl) (by kernel_rfl) (by kernel_rfl) (fun _ _ _ h => h) (Or.inl ⟨by rfl, fun W hSw => by obtain hS := hSw; go_simp⟩) trivial ?_
      try dsimp [Act.put]
      try simp only [List.setIfInBounds_toArray, List.set_cons_succ, List.set_cons_zero]
      refine wpAnyH_take (i := 7) (v := .int .u8 b.toNat) rfl (by kernel_rfl) (by kernel_rfl) (by kernel_rfl) (fun _ _ _ h => h) (Or.inl ⟨by rfl, fun W hSw => by obtain hS := hSw; go_simp⟩) trivial ?_
      try dsimp [Act.put]
      try simp only [List.setIfInBounds_toArray, List.set_cons_succ, List.set_cons_zero]
      refine wpAnyH_take (i := 8) (v := .bool false) rfl (by kernel_rfl) (by kernel_rfl) (by kernel_rfl) (fun _ _ _ h => h) (Or.inl ⟨by rfl, fun W hSw => by obtain hS := hSw; go_simp⟩) trivial ?_
      try dsimp [Act.put]
      try simp only [List.setIfInBounds_toArray, List.set_cons_succ, List.set_cons_zero]
      refine wpAnyH_take (i := 9) (v := .bool false) rfl (by kernel_rfl) (by kernel_rfl) (by kernel_rfl) (fun _ _ _ h => h) (Or.inl ⟨by rfl, fun W hSw => by obtain hS := hSw; go_simp⟩) trivial ?_
      try dsimp [Act.put]
      try simp only [List.setIfInBounds_toArray, List.set_cons_succ, List.set_cons_zero]
      refine wpAnyH_take (i := 10) (v := .bool false) rfl (by kernel_rfl) (by kernel_rfl) (by kernel_rfl) (fun _ _ _ h => h) (Or.inl ⟨by rfl, fun W hSw => by obtain hS := hSw; go_simp⟩) trivial ?_
      try dsimp [Act.put]
      try simp only [List.setIfInBounds_toArray, List.set_cons_succ, List.set_cons_zero]
      refine wpAnyH_take (i := 11) (v := undef) rfl (by kernel_rfl) (by kernel_rfl) (by kernel_rfl) (fun _ _ _ h => h) (Or.inr ⟨by rfl, rfl⟩) trivial ?_
      try dsimp [Act.put]
      try simp only [List.setIfInBounds_toArray, List.set_cons_succ, List.set_cons_zero]
      refine wpAnyH_take (i := 12) (v := undef) rfl (by kernel_rfl) (by kernel_rfl) (by kernel_rfl) (fun _ _ _ h => h) (Or.inr ⟨by rfl, rfl⟩) trivial ?_
      try dsimp [Act.put]
      try simp only [List.setIfInBounds_toArray, List.set_cons_succ, List.set_cons_zero]
      refine wpAnyH_take (i := 13) (v := undef) rfl (by kernel_rfl) (by kernel_rfl) (by kernel_rfl) (fun _ _ _ h => h) (Or.inr ⟨by rfl, rfl⟩) trivial ?_
      try dsimp [Act.put]
      try simp only [List.setIfInBounds_toArray, List.set_cons_succ, List.set_cons_zero]
      refine wpAnyH_take (i := 14) (v := undef) rfl (by kernel_rfl) (by kernel_rfl) (by kernel_rfl) (fun _ _ _ h => h) (Or.inr ⟨by rfl, rfl⟩) trivial ?_
      try dsimp [Act.put]
      try simp only [List.setIfInBounds_toArray, List.set_cons_succ, List.set_cons_zero]
      refine wpAnyH_take (i := 15) (v := undef) rfl (by kernel_rfl) (by kernel_rfl) (by kernel_rfl) (fun _ _ _ h => h) (Or.inr ⟨by rfl, rfl⟩) trivial ?_
      try dsimp [Act.put]
      try simp only [List.setIfInBounds_toArray, List.set_cons_succ, List.set_cons_zero]
      refine wpAnyH_take (i := 16) (v := undef) rfl (by kernel_rfl) (by kernel_rfl) (by kernel_rfl) (fun _ _ _ h => h) (Or.inr ⟨by rfl, rfl⟩) trivial ?_
      try dsimp [Act.put]
      try simp only [List.setIfInBounds_toArray, List.set_cons_succ, List.set_cons_zero]
      refine wpAnyH_take (i := 17) (v := undef) rfl (by kernel_rfl) (by kernel_rfl) (by kernel_rfl) (fun _ _ _ h => h) (Or.inr ⟨by rfl, rfl⟩) trivial ?_
      try dsimp [Act.put]
      try simp only [List.setIfInBounds_toArray, List.set_cons_succ, List.set_cons_zero]
      refine wpAnyH_take (i := 18) (v := undef) rfl (by kernel_rfl) (by kernel_rfl) (by kernel_rfl) (fun _ _ _ h => h) (Or.inr ⟨by rfl, rfl⟩) trivial ?_
      try dsimp [Act.put]
      try simp only [List.setIfInBounds_toArray, List.set_cons_succ, List.set_cons_zero]
      refine wpAnyH_take (i := 19) (v := .bool false) rfl (by kernel_rfl) (by kernel_rfl) (by kernel_rfl) (fun _ _ _ h => h) (Or.inl ⟨by rfl, fun W hSw => by obtain hS := hSw; go_simp⟩) trivial ?_
      try dsimp [Act.put]
      try simp only [List.setIfInBounds_toArray, List.set_cons_succ, List.set_cons_zero]
      refine wpAnyH_take (i := 20) (v := .bool false) rfl (by kernel_rfl) (by kernel_rfl) (by kernel_rfl) (fun _ _ _ h => h) (Or.inl ⟨by rfl, fun W hSw => by obtain hS := hSw; go_simp⟩) trivial ?_
      try dsimp [Act.put]
      try simp only [List.setIfInBounds_toArray, List.set_cons_succ, List.set_cons_zero]
      refine wpAnyH_done (by kernel_rfl) ?_ _
      refine NoPanic.normal ?_
      go_wp2
      go_ret
      exact ⟨rfl, (Below.refl _ _).drew⟩
end Go.Proofs.YtjgijbeedgggdaaGreatDoor
