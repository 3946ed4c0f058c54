/- Package path's Compare. -/
import Derived.Test.YtgildlfanfbebaaGreatDoorCheck
namespace Go.Proofs.YtgildlfanfbebaaGreatDoor
open Go Go.RowKit Go.Shelf
attribute [local go_sem] Oper.semAt_some

theorem compareBytes_self : ∀ l : List UInt8, Lib.compareBytes l l = 0
  | [] => rfl
  | c :: l => by simp [Lib.compareBytes, compareBytes_self l]
theorem compareBytes_zero : ∀ a b : List UInt8, Lib.compareBytes a b = 0 → a = b
  | [], [], _ => rfl
  | [], _ :: _, h => by simp [Lib.compareBytes] at h
  | _ :: _, [], h => by simp [Lib.compareBytes] at h
  | x :: a, y :: b, h => by
    unfold Lib.compareBytes at h
    by_cases h1 : x < y
    · simp [h1] at h
    · by_cases h2 : y < x
      · simp [h1, h2] at h
      · simp only [h1, h2, if_false] at h
        have : x = y := by
          have a1 : ¬ x.toNat < y.toNat := h1
          have a2 : ¬ y.toNat < x.toNat := h2
          exact UInt8.toNat_inj.1 (by omega)
        rw [this, compareBytes_zero a b h]
def cmpB (x y : ByteArray) : Int := Lib.compareBytes (un x) (un y)
theorem cmpB_self (x : ByteArray) : cmpB x x = 0 := compareBytes_self _
theorem cmpB_zero {x y : ByteArray} (h : cmpB x y = 0) : x = y := un_inj (compareBytes_zero _ _ h)
def compareP : List ByteArray → List ByteArray → Int
  | [], [] => 0
  | [], _ :: _ => -1
  | _ :: _, [] => 1
  | x :: xs, y :: ys => if cmpB x y = 0 then compareP xs ys else cmpB x y
theorem compareP_same : ∀ (pre xs ys : List ByteArray), compareP (pre ++ xs) (pre ++ ys) = compareP xs ys
  | [], _, _ => rfl
  | x :: pre, xs, ys => by simp [compareP, cmpB_self, compareP_same pre xs ys]
def compareN (a b : ByteArray) : Int := compareP (piecesB a) (piecesB b)
/-- What is left of a text, and whether there is more of it. -/
def RestIs (r : ByteArray) (m : Bool) (ys : List ByteArray) : Prop := (m = true ∧ ys = piecesB r) ∨ (m = false ∧ ys = [])

theorem cmp_p (a b : ByteArray) (w : World) : Calls Tryz.prog 56 #[.string a, .string b] w fun e w' => e = .returned (.int .i64 (cmpB a b)) ∧ w' = w := Tryz.strings_Compare a b w

set_option maxRecDepth 100000 in
set_option maxHeartbeats 4000000 in
theorem compare_p (a b : ByteArray) (w : World) (ha : a.size ≤ 9223372036854775807) (hb : b.size ≤ 9223372036854775807) :
    Calls Tryz.prog 26 #[.string a, .string b] w fun e w' => e = .returned (.int .i64 (compareN a b)) ∧ Below w.heap.size w w' := by
  obtain ⟨n, hn⟩ : ∃ n : Nat, n = 3 := ⟨3, rfl⟩
  clear hn
  refine (callsIn_wide (n := n)).1 ?_
  refine callsIn_of_wp_marks Tryz.func26 rfl trivial ?_ rfl
  simp only [Tryz.ntmps26, List.size_toArray, List.length_cons, List.length_nil, Nat.reduceAdd, Nat.reduceSub, Array.replicate_succ, Array.replicate_zero, List.push_toArray, List.append_toArray, List.nil_append, List.cons_append]
  gi_wp2_with (refine ⟨trivial, wd _, ?_⟩; gi_at_call 54; refine (callsIn_wide.2 (every_p _ _)).mono ?_; rintro e w' ⟨rfl, rfl⟩)
  obtain ⟨W0, hW0⟩ : ∃ W0, ((((w.alloc (.cells #[.int .i64 0] 3)).alloc (.cells #[.string b] 9)).alloc (.cells #[.bool true] 4)).alloc (.cells #[.string a] 9)) = W0 := ⟨_, rfl⟩
  have hsz : W0.heap.size = w.heap.size + 4 := by rw [← hW0]; simp
  have hB0 : Below w.heap.size w W0 := by rw [← hW0]; exact ((((Below.refl _ w).alloc (Nat.le_refl _) _).alloc (by simp) _).alloc (by simp; omega) _).alloc (by simp; omega) _
  have c0 : Boxed W0 w.heap.size 3 (.int .i64 0) := by rw [← hW0]; exact (((Boxed.new w _ _).alloc _).alloc _).alloc _
  have c1 : Boxed W0 (w.heap.size + 1) 9 (.string b) := by
    have h := Boxed.new (w.alloc (.cells #[.int .i64 0] 3)) 9 (.string b); rw [World.size_alloc] at h; rw [← hW0]; exact (h.alloc _).alloc _
  have c2 : Boxed W0 (w.heap.size + 1 + 1) 4 (.bool true) := by
    have h := Boxed.new ((w.alloc (.cells #[.int .i64 0] 3)).alloc (.cells #[.string b] 9)) 4 (.bool true); simp only [World.size_alloc] at h; rw [← hW0]; exact h.alloc _
  have c3 : Boxed W0 (w.heap.size + 1 + 1 + 1) 9 (.string a) := by
    have h := Boxed.new (((w.alloc (.cells #[.int .i64 0] 3)).alloc (.cells #[.string b] 9)).alloc (.cells #[.bool true] 4)) 9 (.string a); simp only [World.size_alloc] at h; rw [← hW0]; exact h
  rw [hW0]
  clear hW0
  refine range_law (xs := piecesB a) (n₀ := w.heap.size) rfl (enters_of Tryz.func89 (by kernel_rfl) rfl)
    (every_gives a (w.heap.size + 1 + 1 + 1) w.heap.size _ (by omega) c3.cell) (by omega) (Below.refl _ _)
    (fun pre W => ∃ (r : ByteArray) (m : Bool) (ys : List ByteArray), piecesB b = pre ++ ys ∧ RestIs r m ys ∧ r.size ≤ b.size ∧ Boxed W w.heap.size 3 (.int .i64 0) ∧ Boxed W (w.heap.size + 1) 9 (.string r) ∧ Boxed W (w.heap.size + 1 + 1) 4 (.bool m) ∧ Below w.heap.size w W)
    (fun c pre W => ∃ v : Int, c = .ret ∧ (∀ t, compareP (pre ++ t) (piecesB b) = v) ∧ Boxed W w.heap.size 3 (.int .i64 v) ∧ Below w.heap.size w W)
    (fun s A B row hs hg hr => by obtain ⟨r, m, ys, h1, h2, h3, h4, h5, h6, h7⟩ := hs; exact ⟨r, m, ys, h1, h2, h3, bx h4 hg hr, bx h5 hg hr, bx h6 hg hr, blw h7 hg hr (Nat.le_refl _) (by omega)⟩)
    (fun c s A B row hs hg hr => by obtain ⟨v, h1, h2, h3, h4⟩ := hs; exact ⟨v, h1, h2, bx h3 hg hr, blw h4 hg hr (Nat.le_refl _) (by omega)⟩)
    ⟨b, true, _, rfl, .inl ⟨rfl, rfl⟩, Nat.le_refl _, c0, c1, c2, hB0⟩
    (fun x => { tmps := #[.string a, .string b, undef, undef, .pointer (some ⟨w.heap.size, 0, none⟩), .pointer (some ⟨w.heap.size + 1, 0, none⟩), .pointer (some ⟨w.heap.size + 1 + 1, 0, none⟩), .string x, undef, undef, .string b, .string a, .func (.func 89) #[] #[.pointer (some ⟨w.heap.size + 1 + 1 + 1, 0, none⟩)], .string x, undef, undef, undef, undef, undef, undef, undef, undef, undef, undef, undef, undef, undef, undef, undef], defers := [] }) ?assign ?body ?done ?stop
  case assign =>
    intro m l x W K hK
    gi_wp2
    exact hK
  case body =>
    rintro m l pre x W ⟨r, mo, ys, hy, hri, hrs, hc0, hc1, hc2, hB⟩ hx hsz2
    clear c0 c1 c2 c3 hB0 hx
    have hd0 := hc0.cell
    have hd1 := hc1.cell
    have hd2 := hc2.cell
    have hf0 := hc0.frozen
    have hf1 := hc1.frozen
    have hf2 := hc2.frozen
    rcases hri with ⟨rfl, hys⟩ | ⟨rfl, hys⟩
    · rcases ix_cases r with hm | ⟨i, hi, hit⟩
      · have Hm : Hid _ := hm
        have Hy : Hid (piecesB b = pre ++ [r]) := by unfold Hid; rw [hy, hys, piecesB_miss r hm]
        clear hy hys hm
        by_cases hz : cmpB x r = 0
        · have hne : (cmpB x r != 0) = false := by simp [hz]
          have Hz : Hid _ := hz
          clear hz
          gi_wp2_with (first | (refine ⟨trivial, wd _, ?_⟩; gi_at_call 55; refine (CallsIn.inRound l (callsIn_wide.2 (cut_miss r _ Hm.out))).mono ?_; rintro e W2 ⟨rfl, hW2⟩; subst hW2) | (refine ⟨trivial, wd _, ?_⟩; gi_at_call 56; refine (CallsIn.inRound l (callsIn_wide.2 (cmp_p _ _ _))).mono ?_; rintro e W2 ⟨rfl, hW2⟩; subst hW2))
          exact ⟨⟨⟨#[]⟩, false, [], by rw [Hy.out, cmpB_zero Hz.out]; simp, .inr ⟨rfl, rfl⟩, Nat.zero_le _, Boxed.other (Boxed.other hc0 (by omega) _) (by omega) _, Boxed.other (Boxed.set _ hc1) (by omega) _, Boxed.set _ (Boxed.other hc2 (by omega) _), (hB.setCell (p := ⟨w.heap.size + 1, 0, none⟩) (by simp) _).setCell (p := ⟨w.heap.size + 1 + 1, 0, none⟩) (by simp; omega) _⟩,
            ((Below.refl _ _).setCell (p := ⟨w.heap.size + 1, 0, none⟩) (by simp) _).setCell (p := ⟨w.heap.size + 1 + 1, 0, none⟩) (by simp; omega) _, (keeps_set _ _ _).trans (keeps_set _ _ _)⟩
        · have hne : (cmpB x r != 0) = true := by simp [hz]
          have Hz : Hid (¬ cmpB x r = 0) := hz
          clear hz
          gi_wp2_with (first | (refine ⟨trivial, wd _, ?_⟩; gi_at_call 55; refine (CallsIn.inRound l (callsIn_wide.2 (cut_miss r _ Hm.out))).mono ?_; rintro e W2 ⟨rfl, hW2⟩; subst hW2) | (refine ⟨trivial, wd _, ?_⟩; gi_at_call 56; refine (CallsIn.inRound l (callsIn_wide.2 (cmp_p _ _ _))).mono ?_; rintro e W2 ⟨rfl, hW2⟩; subst hW2))
          exact ⟨⟨cmpB x r, rfl, fun t => by rw [Hy.out, List.append_assoc, compareP_same]; exact if_neg Hz.out, Boxed.set _ (Boxed.other (Boxed.other hc0 (by omega) _) (by omega) _), ((hB.setCell (p := ⟨w.heap.size + 1, 0, none⟩) (by simp) _).setCell (p := ⟨w.heap.size + 1 + 1, 0, none⟩) (by simp; omega) _).setCell (p := ⟨w.heap.size, 0, none⟩) (Nat.le_refl _) _⟩,
            (((Below.refl _ _).setCell (p := ⟨w.heap.size + 1, 0, none⟩) (by simp) _).setCell (p := ⟨w.heap.size + 1 + 1, 0, none⟩) (by simp; omega) _).setCell (p := ⟨w.heap.size, 0, none⟩) (Nat.le_refl _) _, ((keeps_set _ _ _).trans (keeps_set _ _ _)).trans (keeps_set _ _ _)⟩
      · have Hi : Hid _ := hi
        have Hy : Hid (piecesB b = pre ++ r.extract 0 i :: piecesB (r.extract (i + 1) r.size)) := by unfold Hid; rw [hy, hys, piecesB_hit r i hi]
        have hle : (r.extract (i + 1) r.size).size ≤ r.size := by rw [← un_length, un_extract, ← un_length]; simp
        clear hy hys hi
        by_cases hz : cmpB x (r.extract 0 i) = 0
        · have hne : (cmpB x (r.extract 0 i) != 0) = false := by simp [hz]
          have Hz : Hid _ := hz
          clear hz
          gi_wp2_with (first | (refine ⟨trivial, wd _, ?_⟩; gi_at_call 55; refine (CallsIn.inRound l (callsIn_wide.2 (cut_hit r i _ Hi.out (by omega)))).mono ?_; rintro e W2 ⟨rfl, k, rfl⟩) | (refine ⟨trivial, wd _, ?_⟩; gi_at_call 56; refine (CallsIn.inRound l (callsIn_wide.2 (cmp_p _ _ _))).mono ?_; rintro e W2 ⟨rfl, hW2⟩; subst hW2))
          have b0 : Boxed (W.drewN k) w.heap.size 3 (.int .i64 0) := hc0
          have b1 : Boxed (W.drewN k) (w.heap.size + 1) 9 (.string r) := hc1
          have b2 : Boxed (W.drewN k) (w.heap.size + 1 + 1) 4 (.bool true) := hc2
          have hd : Below w.heap.size W (W.drewN k) := (below_draw W k).mono hB.size
          exact ⟨⟨r.extract (i + 1) r.size, true, _, by rw [Hy.out, cmpB_zero Hz.out]; simp, .inl ⟨rfl, rfl⟩, by omega, Boxed.other (Boxed.other b0 (by omega) _) (by omega) _, Boxed.other (Boxed.set _ b1) (by omega) _, Boxed.set _ (Boxed.other b2 (by omega) _), ((hB.trans hd).setCell (p := ⟨w.heap.size + 1, 0, none⟩) (by simp) _).setCell (p := ⟨w.heap.size + 1 + 1, 0, none⟩) (by simp; omega) _⟩,
            (hd.setCell (p := ⟨w.heap.size + 1, 0, none⟩) (by simp) _).setCell (p := ⟨w.heap.size + 1 + 1, 0, none⟩) (by simp; omega) _, ((keeps_of_below (below_draw W k)).trans (keeps_set _ _ _)).trans (keeps_set _ _ _)⟩
        · have hne : (cmpB x (r.extract 0 i) != 0) = true := by simp [hz]
          have Hz : Hid (¬ cmpB x (r.extract 0 i) = 0) := hz
          clear hz
          gi_wp2_with (first | (refine ⟨trivial, wd _, ?_⟩; gi_at_call 55; refine (CallsIn.inRound l (callsIn_wide.2 (cut_hit r i _ Hi.out (by omega)))).mono ?_; rintro e W2 ⟨rfl, k, rfl⟩) | (refine ⟨trivial, wd _, ?_⟩; gi_at_call 56; refine (CallsIn.inRound l (callsIn_wide.2 (cmp_p _ _ _))).mono ?_; rintro e W2 ⟨rfl, hW2⟩; subst hW2))
          have b0 : Boxed (W.drewN k) w.heap.size 3 (.int .i64 0) := hc0
          have hd : Below w.heap.size W (W.drewN k) := (below_draw W k).mono hB.size
          exact ⟨⟨cmpB x (r.extract 0 i), rfl, fun t => by rw [Hy.out, List.append_assoc, compareP_same]; exact if_neg Hz.out, Boxed.set _ (Boxed.other (Boxed.other b0 (by omega) _) (by omega) _), (((hB.trans hd).setCell (p := ⟨w.heap.size + 1, 0, none⟩) (by simp) _).setCell (p := ⟨w.heap.size + 1 + 1, 0, none⟩) (by simp; omega) _).setCell (p := ⟨w.heap.size, 0, none⟩) (Nat.le_refl _) _⟩,
            ((hd.setCell (p := ⟨w.heap.size + 1, 0, none⟩) (by simp) _).setCell (p := ⟨w.heap.size + 1 + 1, 0, none⟩) (by simp; omega) _).setCell (p := ⟨w.heap.size, 0, none⟩) (Nat.le_refl _) _, (((keeps_of_below (below_draw W k)).trans (keeps_set _ _ _)).trans (keeps_set _ _ _)).trans (keeps_set _ _ _)⟩
    · gi_wp2
      exact ⟨⟨1, rfl, fun t => by rw [hy, hys, List.append_assoc, compareP_same]; rfl, Boxed.set _ hc0, hB.setCell (p := ⟨w.heap.size, 0, none⟩) (Nat.le_refl _) _⟩, (Below.refl _ _).setCell (p := ⟨w.heap.size, 0, none⟩) (Nat.le_refl _) _, keeps_set _ _ _⟩
  case done =>
    rintro D W hD ⟨r, mo, ys, hy, hri, hrs, hc0, hc1, hc2, hB⟩ hK
    have hd2 := hc2.cell
    have hd0 := hc0.cell
    have hf0 := hc0.frozen
    have fin : ∀ v : Value, (W.setCell ⟨w.heap.size, 0, none⟩ v).heap[D]? = some (.deferred (some [])) ∧ ((W.setCell ⟨w.heap.size, 0, none⟩ v).putObj D (.deferred none)).cell? ⟨w.heap.size, 0, none⟩ = some v ∧ Below w.heap.size w ((W.setCell ⟨w.heap.size, 0, none⟩ v).putObj D (.deferred none)) := fun v => by
      have hK' := (keeps_set (B := 0) W ⟨w.heap.size, 0, none⟩ v).same D _ (Nat.zero_le _) hK rfl
      exact ⟨hK', (boxed_put (.deferred none) (Boxed.set v hc0) hK' rfl).cell, (hB.setCell (p := ⟨w.heap.size, 0, none⟩) (Nat.le_refl _) _).trans (putLoop_below _ hK' (by omega))⟩
    clear c0 c1 c2 c3 hB0
    rcases hri with ⟨rfl, hys⟩ | ⟨rfl, hys⟩
    · have hC : compareN a b = -1 := by
        have e := compareP_same (piecesB a) [] ys
        rw [List.append_nil] at e
        unfold compareN; rw [hy, e]
        cases hq : ys with
        | nil => rw [hys] at hq; exact absurd hq (piecesB_ne r)
        | cons _ _ => rfl
      have HC : Hid _ := hC
      clear hC hy hys
      gi_wp2
      obtain ⟨hK', hc5, hB5⟩ := fin (.int .i64 (-1))
      refine ⟨by simp, .inl ⟨_, _, rfl, run_takeDeferred hK', ?_⟩⟩
      exact ⟨.int .i64 (-1), by simp [results, Tryz.f26, go_sem, hc5], by rw [HC.out], hB5⟩
    · have hC : compareN a b = 0 := by
        have e := compareP_same (piecesB a) [] ys
        rw [List.append_nil] at e
        unfold compareN; rw [hy, e, hys]; rfl
      have HC : Hid _ := hC
      clear hC hy hys
      gi_wp2
      obtain ⟨hK', hc5, hB5⟩ := fin (.int .i64 0)
      refine ⟨by simp, .inl ⟨_, _, rfl, run_takeDeferred hK', ?_⟩⟩
      exact ⟨.int .i64 0, by simp [results, Tryz.f26, go_sem, hc5], by rw [HC.out], hB5⟩
  case stop =>
    rintro D c pre W hD hpre ⟨v, rfl, hv, hcr, hB⟩ hK
    gi_wp2
    refine ⟨by simp, .inl ⟨_, _, rfl, run_takeDeferred hK, ?_⟩⟩
    have hc5 := (boxed_put (.deferred none) hcr hK rfl).cell
    refine ⟨.int .i64 v, ?_, ?_, hB.trans (putLoop_below _ hK (by omega))⟩
    · simp [results, Tryz.f26, go_sem, hc5]
    · obtain ⟨t, ht⟩ := hpre
      unfold compareN; rw [← ht, hv t]
end Go.Proofs.YtgildlfanfbebaaGreatDoor
