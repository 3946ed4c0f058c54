/- Pure: the document's references are the program's. -/
import Derived.Test.YtbmakfdljddhcaaGreatDoorDpcC
import Derived.Test.YtbmakfdljddhcaaGreatDoorRefC
import Derived.Test.YtbmakfdljddhcaaGreatDoorSepM
namespace Go.Proofs.YtbmakfdljddhcaaGreatDoor
open Go Go.RowKit

theorem u8_all (p : UInt8 → Bool) (h : (List.range 256).all (fun n => p n.toUInt8) = true) (b : UInt8) : p b = true := by
  have h1 := (List.all_eq_true.1 h) b.toNat (List.mem_range.2 b.toNat_lt)
  simpa using h1
theorem has_sd (b : UInt8) : hasB sdC b = (smB b || dgB b) := by
  have := u8_all (fun b => hasB sdC b == (smB b || dgB b)) (by decide +kernel) b
  simpa using this
theorem has_pc (b : UInt8) : hasB pcC b = (smB b || dgB b || (b.toNat == 46 || b.toNat == 95 || b.toNat == 45)) := by
  have := u8_all (fun b => hasB pcC b == (smB b || dgB b || (b.toNat == 46 || b.toNat == 95 || b.toNat == 45))) (by decide +kernel) b
  simpa using this
theorem has_nm (b : UInt8) : hasB nmC b = (smB b || upB b || dgB b || b.toNat == 95) := by
  have := u8_all (fun b => hasB nmC b == (smB b || upB b || dgB b || b.toNat == 95)) (by decide +kernel) b
  simpa using this
theorem has_tg (b : UInt8) : hasB tgC b = (smB b || upB b || dgB b || b.toNat == 95 || (b.toNat == 46 || b.toNat == 45)) := by
  have := u8_all (fun b => hasB tgC b == (smB b || upB b || dgB b || b.toNat == 95 || (b.toNat == 46 || b.toNat == 45))) (by decide +kernel) b
  simpa using this
theorem dp_iff (l : List UInt8) : dpL l = true ↔ allP l l.length ∧ l ≠ [] := by
  unfold dpL
  rw [Bool.and_eq_true, @decide_eq_true_iff _ (Classical.propDecidable _)]
  cases l <;> simp
theorem dt_iff (l : List UInt8) : dtL l = true ↔ allT l l.length ∧ l ≠ [] := by
  unfold dtL
  rw [Bool.and_eq_true, @decide_eq_true_iff _ (Classical.propDecidable _)]
  cases l <;> simp
theorem made_iff (B l : List UInt8) : madeL B l = true ↔ (∀ (i : Nat) (b : UInt8), l[i]? = some b → hasB B b = true) ∧ l ≠ [] := by
  unfold madeL
  rw [Bool.and_eq_true, List.all_eq_true]
  constructor
  · rintro ⟨h1, h2⟩
    exact ⟨fun i b hb => h1 b (List.mem_of_getElem? hb), by cases l <;> simp_all⟩
  · rintro ⟨h1, h2⟩
    refine ⟨fun b hb => ?_, by cases l <;> simp_all⟩
    obtain ⟨i, hi⟩ := List.mem_iff_getElem?.1 hb
    exact h1 i b hi
theorem beg_iff (B l : List UInt8) (hl : l ≠ []) : begL B l = true ↔ ∀ b, l[0]? = some b → hasB B b = true := by
  unfold begL
  cases l with
  | nil => exact absurd rfl hl
  | cons a l => simp
theorem end_iff (B l : List UInt8) (hl : l ≠ []) : endL B l = true ↔ ∀ b, l[l.length - 1]? = some b → hasB B b = true := by
  unfold endL
  rw [← List.getLast?_eq_getElem?, List.getLast?_eq_some_getLast hl]
  simp
theorem piece_same (l : List UInt8) : dpL l = pieceL l := by
  rw [Bool.eq_iff_iff, dp_iff]
  unfold pieceL
  rw [Bool.and_eq_true, Bool.and_eq_true, made_iff]
  constructor
  · rintro ⟨h, hl⟩
    have hpos := List.length_pos_iff.2 hl
    refine ⟨⟨(beg_iff _ _ hl).2 fun b hb => ?_, (end_iff _ _ hl).2 fun b hb => ?_⟩, fun i b hb => ?_, hl⟩
    · have := h 0 b hpos hb
      rw [has_sd]; simpa [okP] using this
    · have := h _ b (by omega) hb
      have he : (l.length - 1 + 1 == l.length) = true := by rw [beq_iff_eq]; omega
      rw [has_sd]; simpa [okP, he] using this
    · have := h i b (List.getElem?_eq_some_iff.1 hb).1 hb
      rw [has_pc]
      unfold okP at this
      rw [Bool.or_eq_true] at this ⊢
      rcases this with h1 | h1
      · exact .inl h1
      · rw [Bool.and_eq_true] at h1; exact .inr h1.2
  · rintro ⟨⟨h1, h2⟩, h3, hl⟩
    have hpos := List.length_pos_iff.2 hl
    refine ⟨fun i b hi hb => ?_, hl⟩
    have h1 := (beg_iff _ _ hl).1 h1
    have h2 := (end_iff _ _ hl).1 h2
    have h3 := h3 i b hb
    unfold okP
    rw [Bool.or_eq_true]
    by_cases hi0 : i = 0
    · subst hi0; have := h1 b hb; rw [has_sd] at this; exact .inl this
    · by_cases hin : i + 1 = l.length
      · have := h2 b (by rw [show l.length - 1 = i by omega]; exact hb); rw [has_sd] at this; exact .inl this
      · rw [has_pc, Bool.or_eq_true] at h3
        rcases h3 with h3 | h3
        · exact .inl h3
        · exact .inr (by simp [hi0, hin]; simpa using h3)
theorem tag_same (l : List UInt8) : dtL l = tagL l := by
  rw [Bool.eq_iff_iff, dt_iff]
  unfold tagL
  rw [Bool.and_eq_true, made_iff]
  constructor
  · rintro ⟨h, hl⟩
    have hpos := List.length_pos_iff.2 hl
    refine ⟨(beg_iff _ _ hl).2 fun b hb => ?_, fun i b hb => ?_, hl⟩
    · have := h 0 b hpos hb
      rw [has_nm]; simpa [okT] using this
    · have := h i b (List.getElem?_eq_some_iff.1 hb).1 hb
      rw [has_tg]
      unfold okT at this
      rw [Bool.or_eq_true] at this ⊢
      rcases this with h1 | h1
      · exact .inl h1
      · rw [Bool.and_eq_true] at h1; exact .inr h1.2
  · rintro ⟨h1, h3, hl⟩
    refine ⟨fun i b hi hb => ?_, hl⟩
    have h1 := (beg_iff _ _ hl).1 h1
    have h3 := h3 i b hb
    unfold okT
    rw [Bool.or_eq_true]
    by_cases hi0 : i = 0
    · subst hi0; have := h1 b hb; rw [has_nm] at this; exact .inl this
    · rw [has_tg, Bool.or_eq_true] at h3
      rcases h3 with h3 | h3
      · exact .inl h3
      · exact .inr (by simp [hi0]; simpa using h3)
theorem tag_lat : tagL latC = true := by decide +kernel
/-- A tag has no colon. -/
theorem tag_colon (l : List UInt8) (h : tagL l = true) : Lib.indexByte l 58 < 0 := by
  unfold tagL at h
  rw [Bool.and_eq_true, made_iff] at h
  have hr := indexByte_range 58 l
  rcases Int.lt_or_le (Lib.indexByte l 58) 0 with h1 | h1
  · exact h1
  · exfalso
    have hm : (58 : UInt8) ∈ l := by
      clear h hr
      induction l with
      | nil => simp [Lib.indexByte] at h1
      | cons b l ih =>
        unfold Lib.indexByte at h1
        by_cases hb : b = 58
        · simp [hb]
        · rw [if_neg (by simp [hb])] at h1
          by_cases h2 : (Lib.indexByte l 58 == -1) = true
          · rw [if_pos h2] at h1; omega
          · rw [if_neg h2] at h1
            have hr := indexByte_range 58 l
            have : Lib.indexByte l 58 ≠ -1 := by simpa using h2
            exact List.mem_cons_of_mem _ (ih (by omega))
    obtain ⟨i, hi⟩ := List.mem_iff_getElem?.1 hm
    have := h.2.1 i 58 hi
    rw [show hasB tgC 58 = false by decide +kernel] at this
    cases this
end Go.Proofs.YtbmakfdljddhcaaGreatDoor
