/- Two texts with a blank between: purely. -/
import Derived.Test.YtmnggnmgiflhjaaDoorCovM
import Derived.Test.YtmnggnmgiflhjaaDoorSplW
namespace Go.Proofs.YtmnggnmgiflhjaaDoor
open Go

def sh (d : Nat) (x : Nat × Nat) : Nat × Nat := (x.1 + d, x.2 + d)
structure Rel (d : Nat) (O : List (Nat × Nat)) (T T' : St) : Prop where
  now : T.now = T'.now
  out : T.out = O ++ T'.out.map (sh d)
  beg : T'.now ≠ 0 → T.beg = T'.beg + d
  quo : 3 ≤ T'.now → T.quo = T'.quo + d
theorem Rel.step {d : Nat} {O : List (Nat × Nat)} {T T' : St} (h : Rel d O T T') (e b : UInt8) (i : Nat) : Rel d O (stepS e b (i + d) T) (stepS e b i T') := by
  obtain ⟨h1, h2, h3, h4⟩ := h
  obtain ⟨o, n, bg, q⟩ := T
  obtain ⟨o', n', bg', q'⟩ := T'
  simp only at h1 h2 h3 h4
  subst h1
  refine ⟨rfl, ?_, ?_, ?_⟩
  · show (if n ≠ 0 ∧ behN n b e = 0 then o ++ [(bg, i + d)] else o) = O ++ (if n ≠ 0 ∧ behN n b e = 0 then o' ++ [(bg', i)] else o').map (sh d)
    by_cases hc : n ≠ 0 ∧ behN n b e = 0
    · rw [if_pos hc, if_pos hc, h2, h3 hc.1]; simp [sh]
    · rw [if_neg hc, if_neg hc, h2]
  · intro ht
    show (if n = 0 ∧ behN n b e ≠ 0 then i + d else bg) = (if n = 0 ∧ behN n b e ≠ 0 then i else bg') + d
    by_cases hc : n = 0
    · rw [if_pos ⟨hc, ht⟩, if_pos ⟨hc, ht⟩]
    · rw [if_neg (fun h => hc h.1), if_neg (fun h => hc h.1)]; exact h3 hc
  · intro ht
    show (if n < 3 ∧ 3 ≤ behN n b e then i + d else q) = (if n < 3 ∧ 3 ≤ behN n b e then i else q') + d
    by_cases hc : n < 3
    · rw [if_pos ⟨hc, ht⟩, if_pos ⟨hc, ht⟩]
    · rw [if_neg (fun h => hc h.1), if_neg (fun h => hc h.1)]; exact h4 (by omega)
theorem Rel.run {d : Nat} {O : List (Nat × Nat)} (e : UInt8) (l : List UInt8) : ∀ (i : Nat) (T T' : St), Rel d O T T' → Rel d O (runS e l (i + d) T) (runS e l i T') := by
  induction l with
  | nil => exact fun _ _ _ h => h
  | cons b l ih =>
    intro i T T' h
    have h2 := ih (i + 1) _ _ (h.step e b i)
    show Rel d O (runS e l (i + d + 1) (stepS e b (i + d) T)) (runS e l (i + 1) (stepS e b i T'))
    rw [show i + d + 1 = i + 1 + d by omega]
    exact h2
theorem now_two (e : UInt8) (l : List UInt8) (k : Nat) (hk : k ≤ l.length) : (stA e l k).now = 2 → 0 < k ∧ l[k - 1]? = some e := by
  refine stA_ind e l (fun k s => s.now = 2 → 0 < k ∧ l[k - 1]? = some e) (fun h => by simp [st0] at h) ?_ k hk
  intro k b hg _ h2
  refine ⟨by omega, ?_⟩
  rw [Nat.add_sub_cancel, hg]
  have h3 : behN (stA e l k).now b e = 2 := h2
  generalize (stA e l k).now = n at h3
  unfold behN at h3
  by_cases c2 : n = 2
  · rw [if_pos c2] at h3; omega
  rw [if_neg c2] at h3
  by_cases c3 : n = 3
  · rw [if_pos c3] at h3; split at h3 <;> omega
  rw [if_neg c3] at h3
  by_cases c5 : n = 5
  · rw [if_pos c5] at h3; omega
  rw [if_neg c5] at h3
  by_cases c4 : n = 4
  · rw [if_pos c4] at h3
    split at h3
    · omega
    · split at h3 <;> omega
  rw [if_neg c4] at h3
  unfold outN at h3
  by_cases hb : b = e
  · rw [hb]
  · rw [if_neg hb] at h3
    repeat' split at h3
    all_goals omega
theorem join_split (e : UInt8) (s t : List UInt8) (b : UInt8) (A B : List (Nat × Nat)) (hs : splitR e s = .ok A) (ht : splitR e t = .ok B) (hb : isBl b = true) (hl : ∀ c, s[s.length - 1]? = some c → c ≠ e) :
    splitR e (s ++ b :: t) = .ok (A ++ B.map (sh (s.length + 1))) := by
  have h2 := now_two e s s.length (Nat.le_refl _)
  have hS' : ∃ bg q, stepS e b s.length (stA e s s.length) = ⟨A, 0, bg, q⟩ := by
    unfold splitR at hs
    by_cases h3 : 3 ≤ (stA e s s.length).now
    · rw [if_pos h3] at hs; cases hs
    rw [if_neg h3] at hs
    cases hs
    have hn2 : (stA e s s.length).now ≠ 2 := fun h => hl e (h2 h).2 rfl
    by_cases h0 : (stA e s s.length).now = 0
    · rw [if_neg (fun h => h h0), step_0b e b _ _ h0 hb]
      generalize stA e s s.length = T at *
      obtain ⟨o, n, bg, q⟩ := T
      simp only at h0; subst h0
      exact ⟨bg, q, rfl⟩
    · rw [if_pos h0, step_1b e b _ _ (by omega) hb]
      exact ⟨_, _, rfl⟩
  obtain ⟨bg, q, hS⟩ := hS'
  have hR : Rel (s.length + 1) A (runS e t (0 + (s.length + 1)) ⟨A, 0, bg, q⟩) (runS e t 0 st0) := Rel.run e t 0 _ _ ⟨rfl, by simp [st0], fun h => absurd rfl h, fun h => by simp [st0] at h⟩
  have hall : stA e (s ++ b :: t) (s ++ b :: t).length = runS e t (0 + (s.length + 1)) ⟨A, 0, bg, q⟩ := by
    unfold stA
    rw [List.take_length, runS_append]
    show runS e t (0 + s.length + 1) (stepS e b (0 + s.length) (runS e s 0 st0)) = _
    rw [show runS e s 0 st0 = stA e s s.length by unfold stA; rw [List.take_length], Nat.zero_add, hS, Nat.zero_add]
  have htt : stA e t t.length = runS e t 0 st0 := by unfold stA; rw [List.take_length]
  unfold splitR at ht ⊢
  rw [hall]
  rw [htt] at ht
  have hlen : (s ++ b :: t).length = t.length + (s.length + 1) := by simp; omega
  rw [hlen]
  generalize runS e t (0 + (s.length + 1)) ⟨A, 0, bg, q⟩ = F at hR ⊢
  generalize runS e t 0 st0 = F' at hR ht
  obtain ⟨r1, r2, r3, r4⟩ := hR
  rw [r1]
  by_cases h3 : 3 ≤ F'.now
  · rw [if_pos h3] at ht; cases ht
  rw [if_neg h3] at ht ⊢
  cases ht
  by_cases h0 : F'.now = 0
  · rw [if_neg (fun h => h h0), if_neg (fun h => h h0), r2]
  · rw [if_pos h0, if_pos h0, r2, r3 h0]
    simp [sh]
/-- The words of both, in the text that holds both. -/
theorem join_left (s t : ByteArray) (b : UInt8) (x : Nat × Nat) (h : x.2 ≤ s.size) : wdOf (s ++ bs [b] ++ t) x = wdOf s x := by
  unfold wdOf
  congr 1
  apply un_inj
  rw [un_extract, un_extract, un_append, un_append, List.append_assoc, List.take_append_of_le_length (by rw [un_length]; exact h)]
theorem join_right (s t : ByteArray) (b : UInt8) (x : Nat × Nat) : wdOf (s ++ bs [b] ++ t) (sh (s.size + 1) x) = ⟨(x.1 : Int) + (s.size : Int) + 1, t.extract x.1 x.2⟩ := by
  unfold wdOf sh
  have h1 : ((x.1 + (s.size + 1) : Nat) : Int) = (x.1 : Int) + (s.size : Int) + 1 := by omega
  have h2 : (s ++ bs [b] ++ t).extract (x.1 + (s.size + 1)) (x.2 + (s.size + 1)) = t.extract x.1 x.2 := by
    apply un_inj
    rw [un_extract, un_extract, un_append, un_append, un_bs]
    have hl : (un s ++ [b]).length = s.size + 1 := by rw [List.length_append, un_length]; rfl
    rw [show x.2 + (s.size + 1) = (un s ++ [b]).length + x.2 by omega, List.take_length_add_append, show x.1 + (s.size + 1) = (un s ++ [b]).length + x.1 by omega, List.drop_length_add_append]
  show Wd.mk _ _ = _
  rw [h1, h2]
end Go.Proofs.YtmnggnmgiflhjaaDoor
