/- Decode of what Encode wrote is the header: nothing of a program. -/
import Derived.Test.YtgdkgdlgalinbaaGreatDoorBackM
namespace Go.Proofs.YtgdkgdlgalinbaaGreatDoor
open Go Go.RowKit

theorem join_mem (a b : ByteArray) (c : UInt8) (h : c ∈ un a ∨ c ∈ un b) : c ∈ un (joinB a b) := by
  unfold joinB
  by_cases e : a.toList.isEmpty = true
  · rw [if_pos e]
    rcases h with h | h
    · rw [toList_un, List.isEmpty_iff] at e; rw [e] at h; exact absurd h (List.not_mem_nil)
    · exact h
  · rw [if_neg e, un_append, un_append, List.mem_append, List.mem_append]
    rcases h with h | h
    · exact .inl (.inl h)
    · exact .inr h
theorem num_read {h : Hd} (g : Good h) (S : List UInt8) (hF : ∀ f, f < 16 → fieldL (encL h) f = encF h S f) (k : Nat) (hk : k < 7) : numV (fieldL (encL h) (fld k)) = ((num h k).toNat, true) ∧ ((num h k).toNat : Int) = num h k := by
  obtain ⟨x, m, hx, hm, _, hx8⟩ : ∃ (x m : Nat), num h k = x ∧ rm (fld k) = m + 2 ∧ m ≤ 10 ∧ x < 8 ^ (m + 1) := num_ok h g.nm k hk
  have hT : ∀ c ∈ [(0 : UInt8)], c = 0 ∨ c = 32 := fun c hc => .inl (List.mem_singleton.1 hc)
  refine ⟨?_, by rw [hx]; omega⟩
  obtain ⟨hf, _, _⟩ := rm_fld k hk
  rw [hF (fld k) hf]
  have e : encF h S (fld k) = octD (num h k).toNat (rm (fld k) - 1) ++ [0] := by
    obtain rfl | rfl | rfl | rfl | rfl | rfl | rfl : k = 0 ∨ k = 1 ∨ k = 2 ∨ k = 3 ∨ k = 4 ∨ k = 5 ∨ k = 6 := by omega
    all_goals rfl
  rw [e, hm, show m + 2 - 1 = m + 1 by omega, hx, Int.toNat_natCast]
  exact numV_oct x m hx8 [0] hT
theorem enc_length {h : Hd} (g : Good h) : (encL h).length = 512 := by
  obtain ⟨e, f⟩ := enc_pre g
  rw [e, pre_length f 16 (Nat.le_refl _)]; rfl
theorem enc_field {h : Hd} (g : Good h) (f : Nat) (hf : f < 16) : fieldL (encL h) f = encF h (octD (sumB (numB h 7)) 6 ++ [0, 32]) f := by
  obtain ⟨e, ft⟩ := enc_pre g
  rw [e]; exact field_f ft f hf
theorem sum_small (l : List UInt8) : sumB l < 8 ^ 6 := by
  have := sumTo_le l 512
  unfold sumB; omega
theorem enc_sum (h : Hd) : sumB (encL h) = sumB (numB h 7) := by
  have hl := numB_length h 7 (Nat.le_refl _)
  unfold encL
  exact sum_put _ _ hl (by rw [List.length_append, octD_length]; rfl)
theorem dec_enc {h : Hd} (g : Good h) : decP (bs (encL h)) = (h, 0) := by
  have hlen := enc_length g
  have hF := enc_field g
  have ft := fitted_of g.fit
  obtain ⟨s1, s2, hj, _⟩ := splitP_sizes h.path g.sp
  have hn := num_read g _ hF
  have hT : ∀ c ∈ [(0 : UInt8), 32], c = 0 ∨ c = 32 := fun c hc => by simpa using hc
  have h6 : numV (fieldL (encL h) 6) = (sumB (numB h 7), true) := by
    rw [hF 6 (by omega)]; exact numV_oct _ 5 (sum_small _) _ hT
  have hv : ∀ k, k < 7 → vk (encL h) k = num h k := fun k hk => by unfold vk; rw [(hn k hk).1]; exact (hn k hk).2
  have ho : ∀ k, k < 7 → okk (encL h) k = true := fun k hk => by unfold okk; rw [(hn k hk).1]
  have hall : okAll (encL h) = true := by
    unfold okAll
    rw [ho 0 (by omega), ho 1 (by omega), ho 2 (by omega), ho 3 (by omega), ho 4 (by omega), ho 5 (by omega), ho 6 (by omega)]; rfl
  have hm : fieldL (encL h) 9 = magicL := hF 9 (by omega)
  have htx : ∀ (f n : Nat) (s : ByteArray), f < 16 → encF h (octD (sumB (numB h 7)) 6 ++ [0, 32]) f = fill n (un s) → (∀ c ∈ un s, c ≠ 0) → bs (textL (fieldL (encL h) f)) = s := fun f n s hf he hs => by
    rw [hF f hf, he, fill, headN_fill _ _ hs, bs_un]
  have hzp := noZ_mem h.path ft.z1
  have x14 := htx 14 155 (splitP h.path).1 (by omega) rfl (fun c hc => hzp c (by rw [← hj]; exact join_mem _ _ c (.inl hc)))
  have x0 := htx 0 100 (splitP h.path).2.1 (by omega) rfl (fun c hc => hzp c (by rw [← hj]; exact join_mem _ _ c (.inr hc)))
  have x8 := htx 8 100 h.link (by omega) rfl (noZ_mem h.link ft.z2)
  have x10 := htx 10 32 h.user (by omega) rfl (noZ_mem h.user ft.z3)
  have x11 := htx 11 32 h.group (by omega) rfl (noZ_mem h.group ft.z4)
  have x7 : (encL h).getD 156 0 = h.typ := by
    have e7 : fieldL (encL h) 7 = [h.typ] := hF 7 (by omega)
    unfold fieldL at e7
    have := congrArg (fun l => l[0]?) e7
    simp only [show bg 7 = 156 from rfl, show rm 7 = 1 from rfl, List.getElem?_take_of_lt (show 0 < 1 by omega), List.getElem?_drop] at this
    rw [List.getD_eq_getElem?_getD, this]; rfl
  have hd : decHd (encL h) = h := by
    unfold decHd
    rw [x14, x0, hj, x7, x8, x10, x11, hv 0 (by omega), hv 1 (by omega), hv 2 (by omega), hv 3 (by omega), hv 4 (by omega), hv 5 (by omega), hv 6 (by omega)]
    rfl
  unfold decP
  have hsz : (bs (encL h)).size = 512 := by rw [size_bs, hlen]
  rw [un_bs, hsz, if_neg (by decide), if_neg (by decide), if_neg (fun hh => hh hm), if_neg (by rw [hall]; decide), h6, if_neg (show ¬ true = false by decide), if_neg (fun hh => hh (enc_sum h).symm), hd]
end Go.Proofs.YtgdkgdlgalinbaaGreatDoor
