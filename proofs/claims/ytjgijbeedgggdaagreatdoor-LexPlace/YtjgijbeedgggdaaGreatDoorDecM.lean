/- Characters: what the library's decoding says, and what a character is purely. -/
import Derived.Test.YtjgijbeedgggdaaGreatDoorReM
import Derived.Lib.DecodeN
namespace Go.Proofs.YtjgijbeedgggdaaGreatDoor
open Go

def chrX (n b0 b1 b2 b3 : Nat) : Nat :=
  if b0 < 128 then 1
  else if 194 ≤ b0 ∧ b0 ≤ 223 then (if 1 < n ∧ 128 ≤ b1 ∧ b1 ≤ 191 then 2 else 0)
  else if 224 ≤ b0 ∧ b0 ≤ 239 then (if 2 < n ∧ (if b0 = 224 then 160 else 128) ≤ b1 ∧ b1 ≤ (if b0 = 237 then 159 else 191) ∧ 128 ≤ b2 ∧ b2 ≤ 191 then 3 else 0)
  else if 240 ≤ b0 ∧ b0 ≤ 244 then (if 3 < n ∧ (if b0 = 240 then 144 else 128) ≤ b1 ∧ b1 ≤ (if b0 = 244 then 143 else 191) ∧ 128 ≤ b2 ∧ b2 ≤ 191 ∧ 128 ≤ b3 ∧ b3 ≤ 191 then 4 else 0)
  else 0
set_option maxHeartbeats 4000000 in
theorem dec_chr (n b0 b1 b2 b3 : Nat) (h0 : b0 < 256) (h1 : b1 < 256) (h2 : b2 < 256) (h3 : b3 < 256) :
    (chrX n b0 b1 b2 b3 = 0 → Lib.decodeN n b0 b1 b2 b3 = (65533, 1)) ∧ (0 < chrX n b0 b1 b2 b3 → (Lib.decodeN n b0 b1 b2 b3).2 = chrX n b0 b1 b2 b3 ∧ (chrX n b0 b1 b2 b3 = 1 → (Lib.decodeN n b0 b1 b2 b3).1 < 128)) := by
  unfold chrX Lib.decodeN
  by_cases c1 : b0 < 128
  · simp only [c1, if_true]; exact ⟨fun h => by omega, fun _ => ⟨by first | trivial | rfl, fun _ => by first | trivial | exact c1⟩⟩
  simp only [c1, if_false]
  by_cases c2 : 194 ≤ b0 ∧ b0 ≤ 223
  · simp only [c2, and_self, if_true]
    have e1 : b0 / 32 = 6 := by omega
    have e2 : ¬ b0 / 16 = 14 := by omega
    have e3 : ¬ b0 / 8 = 30 := by omega
    simp only [e1, e2, e3, true_and, false_and, if_false]
    by_cases c3 : 1 < n ∧ 128 ≤ b1 ∧ b1 ≤ 191
    · have e4 : 1 < n ∧ b1 / 64 = 2 := by omega
      have e5 : b0 % 32 * 64 + b1 % 64 ≥ 128 := by omega
      simp only [c3, and_self, if_true, e4, e5]
      exact ⟨fun h => by omega, fun _ => ⟨by first | trivial | rfl, fun h => by omega⟩⟩
    · have e4 : ¬ (1 < n ∧ b1 / 64 = 2) := by omega
      simp only [c3, e4, if_false]
      exact ⟨fun _ => trivial, fun h => by omega⟩
  simp only [c2, if_false]
  by_cases c4 : 224 ≤ b0 ∧ b0 ≤ 239
  · simp only [c4, and_self, if_true]
    have e1 : ¬ b0 / 32 = 6 := by omega
    have e2 : b0 / 16 = 14 := by omega
    have e3 : ¬ b0 / 8 = 30 := by omega
    simp only [e1, e2, e3, true_and, false_and, if_false]
    by_cases c5 : 2 < n ∧ (if b0 = 224 then 160 else 128) ≤ b1 ∧ b1 ≤ (if b0 = 237 then 159 else 191) ∧ 128 ≤ b2 ∧ b2 ≤ 191
    · rw [if_pos c5]
      have e4 : (1 < n ∧ b1 / 64 = 2) ∧ 2 < n ∧ b2 / 64 = 2 := by
        obtain ⟨p1, p2, p3, p4, p5⟩ := c5
        split at p2 <;> split at p3 <;> omega
      have e5 : b0 % 16 * 4096 + b1 % 64 * 64 + b2 % 64 ≥ 2048 ∧ (b0 % 16 * 4096 + b1 % 64 * 64 + b2 % 64 < 55296 ∨ (57344 ≤ b0 % 16 * 4096 + b1 % 64 * 64 + b2 % 64 ∧ b0 % 16 * 4096 + b1 % 64 * 64 + b2 % 64 ≤ 1114111)) := by
        obtain ⟨p1, p2, p3, p4, p5⟩ := c5
        split at p2 <;> split at p3 <;> omega
      rw [if_pos e4, if_pos e5]
      exact ⟨fun h => by omega, fun _ => ⟨by first | trivial | rfl, fun h => by omega⟩⟩
    · rw [if_neg c5]
      refine ⟨fun _ => ?_, fun h => by omega⟩
      by_cases e4 : (1 < n ∧ b1 / 64 = 2) ∧ 2 < n ∧ b2 / 64 = 2
      · rw [if_pos e4, if_neg]
        intro e5
        apply c5
        refine ⟨e4.2.1, ?_, ?_, by omega, by omega⟩ <;> split <;> omega
      · rw [if_neg e4]
  simp only [c4, if_false]
  by_cases c6 : 240 ≤ b0 ∧ b0 ≤ 244
  · simp only [c6, and_self, if_true]
    have e1 : ¬ b0 / 32 = 6 := by omega
    have e2 : ¬ b0 / 16 = 14 := by omega
    have e3 : b0 / 8 = 30 := by omega
    simp only [e1, e2, e3, true_and, false_and, if_false]
    by_cases c5 : 3 < n ∧ (if b0 = 240 then 144 else 128) ≤ b1 ∧ b1 ≤ (if b0 = 244 then 143 else 191) ∧ 128 ≤ b2 ∧ b2 ≤ 191 ∧ 128 ≤ b3 ∧ b3 ≤ 191
    · rw [if_pos c5]
      have e4 : (1 < n ∧ b1 / 64 = 2) ∧ (2 < n ∧ b2 / 64 = 2) ∧ 3 < n ∧ b3 / 64 = 2 := by
        obtain ⟨p1, p2, p3, p4, p5, p6, p7⟩ := c5
        split at p2 <;> split at p3 <;> omega
      have e5 : b0 % 8 * 262144 + b1 % 64 * 4096 + b2 % 64 * 64 + b3 % 64 ≥ 65536 ∧ (b0 % 8 * 262144 + b1 % 64 * 4096 + b2 % 64 * 64 + b3 % 64 < 55296 ∨ (57344 ≤ b0 % 8 * 262144 + b1 % 64 * 4096 + b2 % 64 * 64 + b3 % 64 ∧ b0 % 8 * 262144 + b1 % 64 * 4096 + b2 % 64 * 64 + b3 % 64 ≤ 1114111)) := by
        obtain ⟨p1, p2, p3, p4, p5, p6, p7⟩ := c5
        split at p2 <;> split at p3 <;> omega
      rw [if_pos e4, if_pos e5]
      exact ⟨fun h => by omega, fun _ => ⟨by first | trivial | rfl, fun h => by omega⟩⟩
    · rw [if_neg c5]
      refine ⟨fun _ => ?_, fun h => by omega⟩
      by_cases e4 : (1 < n ∧ b1 / 64 = 2) ∧ (2 < n ∧ b2 / 64 = 2) ∧ 3 < n ∧ b3 / 64 = 2
      · rw [if_pos e4, if_neg]
        intro e5
        apply c5
        refine ⟨e4.2.2.1, ?_, ?_, by omega, by omega, by omega, by omega⟩ <;> split <;> omega
      · rw [if_neg e4]
  simp only [c6, if_false]
  refine ⟨fun _ => ?_, fun h => by omega⟩
  by_cases f1 : b0 / 32 = 6 ∧ (1 < n ∧ b1 / 64 = 2)
  · rw [if_pos f1, if_neg (by omega)]
  rw [if_neg f1, if_neg (by omega)]
  by_cases f2 : b0 / 8 = 30 ∧ (1 < n ∧ b1 / 64 = 2) ∧ (2 < n ∧ b2 / 64 = 2) ∧ (3 < n ∧ b3 / 64 = 2)
  · rw [if_pos f2, if_neg (by omega)]
  · rw [if_neg f2]
theorem if_conv {α : Type} {p q : Prop} [Decidable p] [Decidable q] (h : p ↔ q) (a b : α) : (if p then a else b) = (if q then a else b) := by
  by_cases hp : p
  · rw [if_pos hp, if_pos (h.1 hp)]
  · rw [if_neg hp, if_neg (fun hq => hp (h.2 hq))]
theorem u8_le (a b : UInt8) : (a ≤ b) = (a.toNat ≤ b.toNat) := rfl
theorem u8_lt (a b : UInt8) : (a < b) = (a.toNat < b.toNat) := rfl
theorem u8_eq (a b : UInt8) : (a = b) = (a.toNat = b.toNat) := propext ⟨fun h => by rw [h], fun h => UInt8.toNat_inj.1 h⟩
/-- A character at the beginning of a text, told by its bytes as numbers. -/
theorem chr_x (x : Ln) (b0 : UInt8) (r : Ln) (hx : x = b0 :: r) : chrN x = chrX x.length b0.toNat (x.getD 1 0).toNat (x.getD 2 0).toNat (x.getD 3 0).toNat := by
  subst hx
  rw [chrN_cons]
  unfold chrX
  have l1 : leadN b0 = if b0.toNat < 128 then 1 else if 194 ≤ b0.toNat ∧ b0.toNat ≤ 223 then 2 else if 224 ≤ b0.toNat ∧ b0.toNat ≤ 239 then 3 else if 240 ≤ b0.toNat ∧ b0.toNat ≤ 244 then 4 else 0 := by
    unfold leadN; simp only [u8_le, u8_lt]; rfl
  by_cases c1 : b0.toNat < 128
  · rw [l1]; simp [c1]
  by_cases c2 : 194 ≤ b0.toNat ∧ b0.toNat ≤ 223
  · have l2 : leadN b0 = 2 := by rw [l1, if_neg c1, if_pos c2]
    rw [l2, if_neg (by decide), if_neg c1, if_pos c2]
    cases r with
    | nil => rfl
    | cons b1 r =>
      rw [if_neg (by simp), chrT_cons, l2]
      have e1 : lowU b0 = 128 := by unfold lowU; rw [if_neg (by rw [u8_eq]; intro h; have : b0.toNat = 224 := h; omega), if_neg (by rw [u8_eq]; intro h; have : b0.toNat = 240 := h; omega)]
      have e2 : highU b0 = 191 := by unfold highU; rw [if_neg (by rw [u8_eq]; intro h; have : b0.toNat = 237 := h; omega), if_neg (by rw [u8_eq]; intro h; have : b0.toNat = 244 := h; omega)]
      rw [e1, e2]
      exact if_conv (by
        rw [Bool.and_eq_true, Bool.and_eq_true, decide_eq_true_iff, decide_eq_true_iff]
        show ((128 ≤ b1.toNat ∧ b1.toNat ≤ 191) ∧ _) ↔ (1 < r.length + 1 + 1 ∧ 128 ≤ b1.toNat ∧ b1.toNat ≤ 191)
        simp) _ _
  have lw : (lowU b0).toNat = if b0.toNat = 224 then 160 else if b0.toNat = 240 then 144 else 128 := by
    unfold lowU; simp only [u8_eq]
    show (if b0.toNat = 224 then (160 : UInt8) else if b0.toNat = 240 then 144 else 128).toNat = _
    split
    · rfl
    · split <;> rfl
  have hw : (highU b0).toNat = if b0.toNat = 237 then 159 else if b0.toNat = 244 then 143 else 191 := by
    unfold highU; simp only [u8_eq]
    show (if b0.toNat = 237 then (159 : UInt8) else if b0.toNat = 244 then 143 else 191).toNat = _
    split
    · rfl
    · split <;> rfl
  by_cases c3 : 224 ≤ b0.toNat ∧ b0.toNat ≤ 239
  · have l2 : leadN b0 = 3 := by rw [l1, if_neg c1, if_neg c2, if_pos c3]
    have lw3 : (lowU b0).toNat = if b0.toNat = 224 then 160 else 128 := by rw [lw]; split; rfl; rw [if_neg (by omega)]
    have hw3 : (highU b0).toNat = if b0.toNat = 237 then 159 else 191 := by rw [hw]; split; rfl; rw [if_neg (by omega)]
    rw [l2, if_neg (by decide), if_neg c1, if_neg c2, if_pos c3]
    match r with
    | [] => rfl
    | [b1] => rfl
    | b1 :: b2 :: r =>
      rw [if_neg (by simp), chrT_cons, l2]
      exact if_conv (by
        rw [Bool.and_eq_true, Bool.and_eq_true, decide_eq_true_iff, decide_eq_true_iff]
        show (((lowU b0).toNat ≤ b1.toNat ∧ b1.toNat ≤ (highU b0).toNat) ∧ (contU b2 && true) = true) ↔ (2 < r.length + 1 + 1 + 1 ∧ (if b0.toNat = 224 then 160 else 128) ≤ b1.toNat ∧ b1.toNat ≤ (if b0.toNat = 237 then 159 else 191) ∧ 128 ≤ b2.toNat ∧ b2.toNat ≤ 191)
        rw [lw3, hw3, Bool.and_true]
        unfold contU
        rw [Bool.and_eq_true, decide_eq_true_iff, decide_eq_true_iff]
        show ((_ ∧ _) ∧ (128 ≤ b2.toNat ∧ b2.toNat ≤ 191)) ↔ _
        constructor
        · rintro ⟨⟨a, b⟩, c, d⟩; exact ⟨by omega, a, b, c, d⟩
        · rintro ⟨_, a, b, c, d⟩; exact ⟨⟨a, b⟩, c, d⟩) _ _
  by_cases c4 : 240 ≤ b0.toNat ∧ b0.toNat ≤ 244
  · have l2 : leadN b0 = 4 := by rw [l1, if_neg c1, if_neg c2, if_neg c3, if_pos c4]
    have lw3 : (lowU b0).toNat = if b0.toNat = 240 then 144 else 128 := by rw [lw, if_neg (by omega)]
    have hw3 : (highU b0).toNat = if b0.toNat = 244 then 143 else 191 := by rw [hw, if_neg (by omega)]
    rw [l2, if_neg (by decide), if_neg c1, if_neg c2, if_neg c3, if_pos c4]
    match r with
    | [] => rfl
    | [b1] => rfl
    | [b1, b2] => rfl
    | b1 :: b2 :: b3 :: r =>
      rw [if_neg (by simp), chrT_cons, l2]
      exact if_conv (by
        rw [Bool.and_eq_true, Bool.and_eq_true, decide_eq_true_iff, decide_eq_true_iff]
        show (((lowU b0).toNat ≤ b1.toNat ∧ b1.toNat ≤ (highU b0).toNat) ∧ (contU b2 && (contU b3 && true)) = true) ↔ (3 < r.length + 1 + 1 + 1 + 1 ∧ (if b0.toNat = 240 then 144 else 128) ≤ b1.toNat ∧ b1.toNat ≤ (if b0.toNat = 244 then 143 else 191) ∧ 128 ≤ b2.toNat ∧ b2.toNat ≤ 191 ∧ 128 ≤ b3.toNat ∧ b3.toNat ≤ 191)
        rw [lw3, hw3, Bool.and_true, Bool.and_eq_true]
        unfold contU
        rw [Bool.and_eq_true, Bool.and_eq_true, decide_eq_true_iff, decide_eq_true_iff, decide_eq_true_iff, decide_eq_true_iff]
        show ((_ ∧ _) ∧ (128 ≤ b2.toNat ∧ b2.toNat ≤ 191) ∧ (128 ≤ b3.toNat ∧ b3.toNat ≤ 191)) ↔ _
        constructor
        · rintro ⟨⟨a, b⟩, ⟨c, d⟩, e, f⟩; exact ⟨by omega, a, b, c, d, e, f⟩
        · rintro ⟨_, a, b, c, d, e, f⟩; exact ⟨⟨a, b⟩, ⟨c, d⟩, e, f⟩) _ _
  rw [l1, if_neg c1, if_neg c2, if_neg c3, if_neg c4, if_neg (by decide), if_pos (.inl rfl), if_neg c1, if_neg c2, if_neg c3, if_neg c4]
end Go.Proofs.YtjgijbeedgggdaaGreatDoor
