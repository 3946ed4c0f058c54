/- What was written is read: nothing of a program. -/
import Derived.Test.YtgdkgdlgalinbaaGreatDoorDecM
namespace Go.Proofs.YtgdkgdlgalinbaaGreatDoor
open Go Go.RowKit

/-- Fields one behind the other. -/
def pre (F : Nat → List UInt8) : Nat → List UInt8
  | 0 => []
  | k + 1 => pre F k ++ F k
def fr (F : Nat → List UInt8) (k : Nat) : Nat → List UInt8
  | 0 => []
  | n + 1 => fr F k n ++ F (k + n)
theorem pre_add (F : Nat → List UInt8) (k : Nat) : ∀ n, pre F (k + n) = pre F k ++ fr F k n
  | 0 => by simp [fr]
  | n + 1 => by rw [show k + (n + 1) = (k + n) + 1 by omega, pre, pre_add F k n, fr, List.append_assoc]
theorem pre_congr {F G : Nat → List UInt8} : ∀ k, (∀ i, i < k → F i = G i) → pre F k = pre G k
  | 0, _ => rfl
  | k + 1, h => by rw [pre, pre, pre_congr k (fun i hi => h i (by omega)), h k (by omega)]
theorem fr_congr {F G : Nat → List UInt8} (k : Nat) : ∀ n, (∀ i, k ≤ i → F i = G i) → fr F k n = fr G k n
  | 0, _ => rfl
  | n + 1, h => by rw [fr, fr, fr_congr k n h, h (k + n) (by omega)]
def Fits (F : Nat → List UInt8) : Prop := ∀ i, i < 16 → (F i).length = rm i
theorem pre_length {F : Nat → List UInt8} (h : Fits F) : ∀ k, k ≤ 16 → (pre F k).length = bg k
  | 0, _ => rfl
  | k + 1, hk => by
    have h1 := bg_lt k (by omega)
    rw [pre, List.length_append, pre_length h k (by omega), h k (by omega), rm]; omega
def upd (F : Nat → List UInt8) (f : Nat) (X : List UInt8) : Nat → List UInt8 := fun i => if i = f then X else F i
theorem split_f (F : Nat → List UInt8) (f : Nat) (hf : f < 16) : pre F 16 = pre F f ++ F f ++ fr F (f + 1) (15 - f) := by
  have := pre_add F (f + 1) (15 - f)
  rw [show f + 1 + (15 - f) = 16 by omega] at this
  rw [this, pre]
theorem putB_mid (A B C X : List UInt8) (h : X.length ≤ B.length) : putB (A ++ B ++ C) A.length X = A ++ (X ++ B.drop X.length) ++ C := by
  unfold putB
  have e : A ++ B ++ C = A ++ (B ++ C) := List.append_assoc _ _ _
  rw [e, List.take_left, ← List.drop_drop, List.drop_left, List.drop_append_of_le_length h]
  simp
theorem put_f {F : Nat → List UInt8} (hF : Fits F) (f : Nat) (hf : f < 16) (X : List UInt8) (hX : X.length ≤ rm f) : putB (pre F 16) (bg f) X = pre (upd F f (X ++ (F f).drop X.length)) 16 ∧ Fits (upd F f (X ++ (F f).drop X.length)) := by
  constructor
  · rw [split_f F f hf, ← pre_length hF f (by omega), putB_mid _ _ _ _ (by rw [hF f hf]; exact hX), split_f _ f hf]
    congr 1
    · congr 1
      · exact pre_congr f (fun i hi => by unfold upd; rw [if_neg (by omega)])
      · unfold upd; rw [if_pos rfl]
    · exact fr_congr _ _ (fun i hi => by unfold upd; rw [if_neg (by omega)])
  · intro i hi
    unfold upd
    by_cases h : i = f
    · subst h; rw [if_pos rfl, List.length_append, List.length_drop, hF i hi]; omega
    · rw [if_neg h]; exact hF i hi
theorem field_f {F : Nat → List UInt8} (hF : Fits F) (f : Nat) (hf : f < 16) : fieldL (pre F 16) f = F f := by
  unfold fieldL
  rw [split_f F f hf, ← pre_length hF f (by omega), List.append_assoc, List.drop_left, ← hF f hf, List.take_left]
theorem set_put (l : List UInt8) (i : Nat) (t : UInt8) (h : i < l.length) : l.set i t = putB l i [t] := by
  unfold putB; rw [List.set_eq_take_append_cons_drop, if_pos h]; simp
theorem zero_pre : zero512 = pre (fun f => List.replicate (rm f) 0) 16 := by kernel_rfl
theorem zero_fits : Fits (fun f => List.replicate (rm f) 0) := fun i _ => by simp
/-- A text and bytes 0 behind it. -/
def fill (n : Nat) (l : List UInt8) : List UInt8 := l ++ List.replicate (n - l.length) 0
theorem fill_zero (n : Nat) (l : List UInt8) : l ++ (List.replicate n 0).drop l.length = fill n l := by unfold fill; rw [List.drop_replicate]
/-- What a header's fields hold as it is written, the sum's text being x. -/
def encF (h : Hd) (x : List UInt8) (f : Nat) : List UInt8 :=
  match f with
  | 0 => fill 100 (un (splitP h.path).2.1)
  | 1 => octD h.mode.toNat 7 ++ [0]
  | 2 => octD h.uid.toNat 7 ++ [0]
  | 3 => octD h.gid.toNat 7 ++ [0]
  | 4 => octD h.size.toNat 11 ++ [0]
  | 5 => octD h.time.toNat 11 ++ [0]
  | 6 => x
  | 7 => [h.typ]
  | 8 => fill 100 (un h.link)
  | 9 => magicL
  | 10 => fill 32 (un h.user)
  | 11 => fill 32 (un h.group)
  | 12 => octD h.major.toNat 7 ++ [0]
  | 13 => octD h.minor.toNat 7 ++ [0]
  | 14 => fill 155 (un (splitP h.path).1)
  | _ => List.replicate 12 0
theorem splitP_sizes (p : ByteArray) (h : (splitP p).2.2 = 0) : (splitP p).1.size ≤ 155 ∧ (splitP p).2.1.size ≤ 100 ∧ joinB (splitP p).1 (splitP p).2.1 = p ∧ (p.size ≤ 100 → (splitP p) = (⟨#[]⟩, p, 0)) := by
  by_cases h1 : p.size ≤ 100
  · have e : splitP p = (⟨#[]⟩, p, 0) := by unfold splitP; rw [if_pos h1]
    rw [e]
    exact ⟨by show (⟨#[]⟩ : ByteArray).size ≤ 155; decide, h1, by show joinB ⟨#[]⟩ p = p; unfold joinB; rw [if_pos ((isEmpty_iff _).2 rfl)], fun _ => rfl⟩
  · rcases split_cases p (by omega) with ⟨e, _⟩ | ⟨i, hg, _, e⟩
    · rw [e] at h; exact absurd h (by decide)
    · by_cases c : i < 1 ∨ 155 < i
      · rw [if_pos c] at e; rw [e] at h; exact absurd h (by decide)
      · rw [if_neg c] at e
        rw [e]
        have hi := hg.2.1
        have hi2 := hg.2.2
        have s1 := size_extract' p 0 i (by omega)
        have s2 := size_extract' p (i + 1) p.size (Nat.le_refl _)
        refine ⟨by show (p.extract 0 i).size ≤ 155; omega, by show (p.extract (i + 1) p.size).size ≤ 100; omega, ?_, fun hh => absurd hh h1⟩
        show joinB (p.extract 0 i) (p.extract (i + 1) p.size) = p
        unfold joinB
        rw [(isEmpty_false _).2 (by omega), if_neg (by decide)]
        apply un_inj
        rw [un_append, un_append, un_extract, un_extract, List.drop_zero, List.take_of_length_le (i := p.size) (by rw [un_length]; exact Nat.le_refl _)]
        have hil : i < (un p).length := by rw [un_length]; omega
        have h47 : (un p)[i] = 47 := by have := hg.1; rw [List.getElem?_eq_getElem hil] at this; exact Option.some.inj this
        have e4 : un ⟨#[47]⟩ = [47] := rfl
        rw [e4, ← h47, List.append_assoc, List.singleton_append, ← List.drop_eq_getElem_cons hil, List.take_append_drop]

theorem noZ_mem (s : ByteArray) (h : noZ s = true) : ∀ c ∈ un s, c ≠ 0 := by
  unfold noZ at h
  rw [decide_eq_true_iff] at h
  have hr := indexByte_range 0 (un s)
  have hm := indexByte_miss 0 (un s) (by omega)
  intro c hc e
  obtain ⟨j, hj, hjc⟩ := List.getElem_of_mem hc
  exact hm j (by rw [List.getElem?_eq_getElem hj, hjc, e])
theorem headN_fill (l : List UInt8) (n : Nat) (h : ∀ c ∈ l, c ≠ 0) : textL (l ++ List.replicate n 0) = l := by
  unfold textL headN
  rw [List.takeWhile_append_of_pos (fun c hc => by simpa using h c hc)]
  have : (List.replicate n (0 : UInt8)).takeWhile (fun x => x != 0) = [] := by
    cases n with
    | zero => rfl
    | succ n => rw [List.replicate_succ, List.takeWhile_cons_of_neg (by decide)]
  rw [this, List.append_nil, List.take_left]
theorem fill_length (n : Nat) (l : List UInt8) (h : l.length ≤ n) : (fill n l).length = n := by unfold fill; simp; omega
/-- Digits with bytes 0 and blanks behind them are read as their number. -/
theorem numV_oct (u k : Nat) (hu : u < 8 ^ (k + 1)) (T : List UInt8) (hT : ∀ c ∈ T, c = 0 ∨ c = 32) : numV (octD u (k + 1) ++ T) = (u, true) := by
  have hlen := octD_length (k + 1) u
  have hdig := octD_digit (k + 1) u
  obtain ⟨a, D, hD⟩ : ∃ a D, octD u (k + 1) = a :: D := by
    cases e : octD u (k + 1) with
    | nil => rw [e] at hlen; simp at hlen
    | cons a D => exact ⟨a, D, rfl⟩
  obtain ⟨E, z, hE⟩ : ∃ E z, octD u (k + 1) = E ++ [z] := ⟨_, _, by rw [octD]⟩
  have ha := hdig a (by rw [hD]; exact List.mem_cons_self)
  have hz := hdig z (by rw [hE]; exact List.mem_append_right _ (List.mem_singleton.2 rfl))
  have hb : blanks (octD u (k + 1) ++ T) = 0 := by
    unfold blanks
    rw [hD, List.cons_append, List.takeWhile_cons_of_neg (by
      intro e
      have : a = 32 := by simpa using e
      rw [this] at ha
      exact absurd ha.1 (by decide))]
    rfl
  have hc : coreN (octD u (k + 1) ++ T) = k + 1 := by
    unfold coreN
    rw [List.reverse_append, List.dropWhile_append_of_pos (fun c hc => by
      rcases hT c (List.mem_reverse.1 hc) with rfl | rfl <;> rfl), hE, List.reverse_append, List.reverse_singleton, List.singleton_append, List.dropWhile_cons_of_neg (by
        intro e
        have : z = 0 ∨ z = 32 := by simpa using e
        rcases this with e | e <;> rw [e] at hz <;> exact absurd hz.1 (by decide))]
    have := congrArg List.length hE
    rw [hlen, List.length_append, List.length_singleton] at this
    simp; omega
  have hcl : coreL (octD u (k + 1) ++ T) = octD u (k + 1) := by
    unfold coreL
    rw [hb, List.drop_zero, hc]
    exact List.take_left' hlen
  unfold numV
  rw [hcl, if_neg (by rw [hD]; exact List.cons_ne_nil _ _), if_pos (by
    rw [List.all_eq_true]
    intro c hc2
    unfold isOct
    rw [Bool.and_eq_true, decide_eq_true_iff, decide_eq_true_iff]
    exact hdig c hc2), valO_octD _ _ hu]
/-- Bytes of the sum's own field are not added up. -/
theorem sumTo_congr (l m : List UInt8) : ∀ k, (∀ i, i < k → (i < 148 ∨ 156 ≤ i) → l.getD i 0 = m.getD i 0) → sumTo l k = sumTo m k
  | 0, _ => rfl
  | k + 1, h => by
    rw [sumTo, sumTo, sumTo_congr l m k (fun i hi hh => h i (by omega) hh)]
    by_cases c : k < 148 ∨ 156 ≤ k
    · rw [if_pos c, if_pos c, h k (by omega) c]
    · rw [if_neg c, if_neg c]
theorem sum_put (l X : List UInt8) (hl : l.length = 512) (hX : X.length = 8) : sumB (putB l 148 X) = sumB l := by
  unfold sumB
  rw [sumTo_congr _ l 512 (fun i hi hh => ?_)]
  unfold putB
  rw [List.getD_eq_getElem?_getD, List.getD_eq_getElem?_getD]
  congr 1
  rcases hh with hh | hh
  · rw [List.append_assoc, List.getElem?_append_left (by simp; omega), List.getElem?_take_of_lt hh]
  · rw [List.getElem?_append_right (by simp; omega), List.getElem?_drop]
    congr 1
    simp; omega

theorem step_f {F : Nat → List UInt8} (hF : Fits F) (f : Nat) (hf : f < 16) (X Y : List UInt8) (hX : X.length ≤ rm f) (hz : F f = List.replicate (rm f) 0) (hY : fill (rm f) X = Y) : putB (pre F 16) (bg f) X = pre (upd F f Y) 16 ∧ Fits (upd F f Y) := by
  have h := put_f hF f hf X hX
  rw [hz, fill_zero, hY] at h
  exact h
/-- What makes Encode write. -/
structure Good (h : Hd) : Prop where
  fit : fitB h = true
  sp : (splitP h.path).2.2 = 0
  lk : h.link.size ≤ 100
  nm : numsOK h = true
theorem good_of (h : Hd) (he : (encP h).2 = 0) : Good h ∧ (encP h).1 = bs (encL h) := by
  unfold encP at he ⊢
  by_cases h1 : fitB h = false
  · rw [if_pos h1] at he; exact absurd he (by decide)
  rw [if_neg h1] at he ⊢
  by_cases h2 : (splitP h.path).2.2 ≠ 0
  · rw [if_pos h2] at he; exact absurd he h2
  rw [if_neg h2] at he ⊢
  by_cases h3 : 100 < h.link.size
  · rw [if_pos h3] at he; exact absurd he (by decide)
  rw [if_neg h3] at he ⊢
  by_cases h4 : numsOK h = false
  · rw [if_pos h4] at he; exact absurd he (by decide)
  rw [if_neg h4]
  exact ⟨⟨by simpa using h1, by simpa using h2, by omega, by simpa using h4⟩, rfl⟩
theorem Good.enc {h : Hd} (g : Good h) : encP h = (bs (encL h), 0) := by
  unfold encP
  rw [if_neg (by rw [g.fit]; decide), if_neg (fun hh => hh g.sp), if_neg (by have := g.lk; omega), if_neg (by rw [g.nm]; decide)]
structure Fitted (h : Hd) : Prop where
  z1 : noZ h.path = true
  z2 : noZ h.link = true
  z3 : noZ h.user = true
  z4 : noZ h.group = true
  u1 : h.user.size < 32
  u2 : h.group.size < 32
theorem fitted_of {h : Hd} (hf : fitB h = true) : Fitted h := by
  unfold fitB at hf
  simp only [Bool.and_eq_true, decide_eq_true_eq] at hf
  obtain ⟨⟨⟨⟨⟨a, b⟩, c⟩, d⟩, e⟩, f⟩ := hf
  exact ⟨a, b, c, d, e, f⟩
theorem fill_self (n : Nat) (l : List UInt8) (h : l.length = n) : fill n l = l := by unfold fill; rw [h, Nat.sub_self]; simp
theorem fill_oct (u k : Nat) : fill (k + 1) (octD u k) = octD u k ++ [0] := by unfold fill; rw [octD_length, Nat.add_sub_cancel_left]; rfl
def textF (h : Hd) (f : Nat) : List UInt8 :=
  match f with
  | 0 => fill 100 (un (splitP h.path).2.1)
  | 7 => [h.typ]
  | 8 => fill 100 (un h.link)
  | 9 => magicL
  | 10 => fill 32 (un h.user)
  | 11 => fill 32 (un h.group)
  | 14 => fill 155 (un (splitP h.path).1)
  | f => List.replicate (rm f) 0
theorem all16 {P : Nat → Prop} (h0 : P 0) (h1 : P 1) (h2 : P 2) (h3 : P 3) (h4 : P 4) (h5 : P 5) (h6 : P 6) (h7 : P 7) (h8 : P 8) (h9 : P 9) (h10 : P 10) (h11 : P 11) (h12 : P 12) (h13 : P 13) (h14 : P 14) (h15 : P 15) : ∀ i, i < 16 → P i := by
  intro i hi
  obtain rfl | rfl | rfl | rfl | rfl | rfl | rfl | rfl | rfl | rfl | rfl | rfl | rfl | rfl | rfl | rfl : i = 0 ∨ i = 1 ∨ i = 2 ∨ i = 3 ∨ i = 4 ∨ i = 5 ∨ i = 6 ∨ i = 7 ∨ i = 8 ∨ i = 9 ∨ i = 10 ∨ i = 11 ∨ i = 12 ∨ i = 13 ∨ i = 14 ∨ i = 15 := by omega
  all_goals assumption
theorem fits_congr {F G : Nat → List UInt8} (h : ∀ i, i < 16 → F i = G i) (hF : Fits F) : Fits G := fun i hi => by rw [← h i hi]; exact hF i hi
theorem fin_pre {F G : Nat → List UInt8} {l : List UInt8} (hF : Fits F) (e : l = pre F 16) (h : ∀ i, i < 16 → F i = G i) : l = pre G 16 ∧ Fits G := ⟨by rw [e, pre_congr 16 h], fits_congr h hF⟩
theorem text_pre {h : Hd} (g : Good h) : textB h = pre (textF h) 16 ∧ Fits (textF h) := by
  obtain ⟨s1, s2, _, _⟩ := splitP_sizes h.path g.sp
  have ft := fitted_of g.fit
  have gl := g.lk
  have fu := ft.u1
  have fg := ft.u2
  have t0 : (un (splitP h.path).2.1).take 100 = un (splitP h.path).2.1 := List.take_of_length_le (by rw [un_length]; exact s2)
  have t1 : (un (splitP h.path).1).take 155 = un (splitP h.path).1 := List.take_of_length_le (by rw [un_length]; exact s1)
  have t2 : (un h.link).take 100 = un h.link := List.take_of_length_le (by rw [un_length]; exact gl)
  have t3 : (un h.user).take 32 = un h.user := List.take_of_length_le (by rw [un_length]; omega)
  have t4 : (un h.group).take 32 = un h.group := List.take_of_length_le (by rw [un_length]; omega)
  have p0 := step_f zero_fits 0 (by omega) (un (splitP h.path).2.1) _ (by rw [un_length]; exact s2) rfl rfl
  have p1 := step_f p0.2 14 (by omega) (un (splitP h.path).1) _ (by rw [un_length]; exact s1) rfl rfl
  have p2 := step_f p1.2 8 (by omega) (un h.link) _ (by rw [un_length]; exact gl) rfl rfl
  have p3 := step_f p2.2 10 (by omega) (un h.user) _ (by rw [un_length]; show h.user.size ≤ 32; omega) rfl rfl
  have p4 := step_f p3.2 11 (by omega) (un h.group) _ (by rw [un_length]; show h.group.size ≤ 32; omega) rfl rfl
  have p5 := step_f p4.2 9 (by omega) magicL magicL (by decide) rfl rfl
  have p6 := step_f p5.2 7 (by omega) [h.typ] [h.typ] (Nat.le_refl 1) rfl rfl
  refine fin_pre p6.2 ?_ (all16 rfl rfl rfl rfl rfl rfl rfl rfl rfl rfl rfl rfl rfl rfl rfl rfl)
  unfold textB
  rw [t0, t1, t2, t3, t4, zero_pre]
  rw [show putB (pre (fun f => List.replicate (rm f) 0) 16) 0 (un (splitP h.path).2.1) = _ from p0.1]
  rw [show putB (pre (upd _ 0 _) 16) 345 (un (splitP h.path).1) = _ from p1.1]
  rw [show putB (pre (upd _ 14 _) 16) 157 (un h.link) = _ from p2.1]
  rw [show putB (pre (upd _ 8 _) 16) 265 (un h.user) = _ from p3.1]
  rw [show putB (pre (upd _ 10 _) 16) 297 (un h.group) = _ from p4.1]
  rw [show putB (pre (upd _ 11 _) 16) 257 [117, 115, 116, 97, 114, 0, 48, 48] = _ from p5.1]
  rw [set_put _ _ _ (by rw [pre_length p5.2 16 (Nat.le_refl _)]; decide)]
  exact p6.1
theorem num_pre {h : Hd} (g : Good h) : numB h 7 = pre (encF h (List.replicate 8 0)) 16 ∧ Fits (encF h (List.replicate 8 0)) := by
  obtain ⟨e0, f0⟩ := text_pre g
  have p0 := step_f f0 1 (by omega) (octD h.mode.toNat 7) _ (by rw [octD_length]; decide) rfl (fill_oct _ 7)
  have p1 := step_f p0.2 2 (by omega) (octD h.uid.toNat 7) _ (by rw [octD_length]; decide) rfl (fill_oct _ 7)
  have p2 := step_f p1.2 3 (by omega) (octD h.gid.toNat 7) _ (by rw [octD_length]; decide) rfl (fill_oct _ 7)
  have p3 := step_f p2.2 4 (by omega) (octD h.size.toNat 11) _ (by rw [octD_length]; decide) rfl (fill_oct _ 11)
  have p4 := step_f p3.2 5 (by omega) (octD h.time.toNat 11) _ (by rw [octD_length]; decide) rfl (fill_oct _ 11)
  have p5 := step_f p4.2 12 (by omega) (octD h.major.toNat 7) _ (by rw [octD_length]; decide) rfl (fill_oct _ 7)
  have p6 := step_f p5.2 13 (by omega) (octD h.minor.toNat 7) _ (by rw [octD_length]; decide) rfl (fill_oct _ 7)
  refine fin_pre p6.2 ?_ (all16 rfl rfl rfl rfl rfl rfl rfl rfl rfl rfl rfl rfl rfl rfl rfl rfl)
  rw [numB, numB, numB, numB, numB, numB, numB, numB, e0]
  rw [show putB (pre (textF h) 16) (bg (fld 0)) (octD (num h 0).toNat (rm (fld 0) - 1)) = _ from p0.1]
  rw [show putB (pre (upd _ 1 _) 16) (bg (fld 1)) (octD (num h 1).toNat (rm (fld 1) - 1)) = _ from p1.1]
  rw [show putB (pre (upd _ 2 _) 16) (bg (fld 2)) (octD (num h 2).toNat (rm (fld 2) - 1)) = _ from p2.1]
  rw [show putB (pre (upd _ 3 _) 16) (bg (fld 3)) (octD (num h 3).toNat (rm (fld 3) - 1)) = _ from p3.1]
  rw [show putB (pre (upd _ 4 _) 16) (bg (fld 4)) (octD (num h 4).toNat (rm (fld 4) - 1)) = _ from p4.1]
  rw [show putB (pre (upd _ 5 _) 16) (bg (fld 5)) (octD (num h 5).toNat (rm (fld 5) - 1)) = _ from p5.1]
  exact p6.1
theorem enc_pre {h : Hd} (g : Good h) : encL h = pre (encF h (octD (sumB (numB h 7)) 6 ++ [0, 32])) 16 ∧ Fits (encF h (octD (sumB (numB h 7)) 6 ++ [0, 32])) := by
  obtain ⟨e0, f0⟩ := num_pre g
  obtain ⟨S, hS⟩ : ∃ S, octD (sumB (numB h 7)) 6 ++ [0, 32] = S := ⟨_, rfl⟩
  have hl : S.length = 8 := by rw [← hS, List.length_append, octD_length]; rfl
  have p0 := step_f f0 6 (by omega) S S (by rw [hl]; decide) rfl (fill_self _ _ hl)
  rw [encL, hS, e0]
  exact fin_pre p0.2 p0.1 (all16 rfl rfl rfl rfl rfl rfl rfl rfl rfl rfl rfl rfl rfl rfl rfl rfl)
end Go.Proofs.YtgdkgdlgalinbaaGreatDoor
