/- ResolvePlays: whatever is called on a tree, each answer and the tree behind it are those of the document. -/
import Derived.Test.YtcefgnjgcnboeaaGreatDoorMkN
import Derived.Test.YtcefgnjgcnboeaaGreatDoorRefJK
import Derived.Deep.DeepCutAuto
import Derived.Deep.RegionHeld3

namespace Go.Proofs.YtcefgnjgcnboeaaGreatDoor
open Go Go.RowKit

/-- A list of entries that lies beside a tree. -/
def FreeE (W : World) (v : Value) (L : List Ent) (M : Nat → Prop) : Prop :=
  ∃ (a : Option Addr) (cap b o : Nat), v = .slice a L.length cap ∧ (L ≠ [] → a = some ⟨b, o, none⟩) ∧ L.length ≤ cap ∧ (∀ i e, L[i]? = some e → EntC W b (o + i * 5) e) ∧ (L ≠ [] → ¬ M b ∧ b < W.heap.size)
theorem FreeE.ents {W : World} {v : Value} {L : List Ent} {M : Nat → Prop} (h : FreeE W v L M) : EntsAt W v L := by
  obtain ⟨a, cap, b, o, h1, h2, h3, h4, _⟩ := h
  exact ⟨a, cap, b, o, h1, h2, h3, h4⟩
theorem list_ne {L : List Ent} {i : Nat} {e : Ent} (h : L[i]? = some e) : L ≠ [] := fun h0 => by rw [h0] at h; simp at h
theorem FreeE.rnd {W W' : World} {v : Value} {L : List Ent} {M M' : Nat → Prop} (h : FreeE W v L M) (hr : Rnd M M' W W') : FreeE W' v L M' := by
  obtain ⟨a, cap, b, o, h1, h2, h3, h4, h5⟩ := h
  refine ⟨a, cap, b, o, h1, h2, h3, fun i e he => ?_, fun hL => ?_⟩
  · obtain ⟨q0, q1, q2, q3, q4⟩ := h4 i e he
    obtain ⟨n1, n2⟩ := h5 (list_ne he)
    exact ⟨cell_kept hr n2 n1 q0, cell_kept hr n2 n1 q1, cell_kept hr n2 n1 q2, cell_kept hr n2 n1 q3, cell_kept hr n2 n1 q4⟩
  · obtain ⟨n1, n2⟩ := h5 hL
    have := hr.size
    refine ⟨fun hm => ?_, by omega⟩
    rcases hr.more b hm with h6 | h6
    · exact n1 h6
    · omega
theorem FreeE.below {W W' : World} {v : Value} {L : List Ent} {M : Nat → Prop} (h : FreeE W v L M) (hb : Below W.heap.size W W') : FreeE W' v L M := h.rnd (Rnd.of_below hb)
theorem free_nil (W : World) (M : Nat → Prop) : FreeE W (.slice none 0 0) [] M := ⟨none, 0, 0, 0, rfl, fun h => absurd rfl h, Nat.le_refl _, fun i e h => by simp at h, fun h => absurd rfl h⟩
theorem free_of_owns {W : World} {base : Nat} {v : Value} {L : List Ent} {M : Nat → Prop} (h : W.ownsRow base 52 5 v L.length (ecells L)) (hM : ∀ k, base ≤ k → ¬ M k) : FreeE W v L M := by
  have he := ents_of_owns h
  rcases h.2 with ⟨rfl, h0⟩ | ⟨g, cap, cur, rfl, hg, hgb, hcap, _⟩
  · have : L = [] := List.eq_nil_of_length_eq_zero h0
    subst this
    exact free_nil W M
  · obtain ⟨a2, cap2, b2, o2, hv2, ha2, hcp2, hc2⟩ := he
    refine ⟨some ⟨g, 0, none⟩, cap, g, 0, rfl, fun _ => rfl, hcap, fun i e hi => ?_, fun _ => ⟨hM g hg, (Array.getElem?_eq_some_iff.1 hgb).1⟩⟩
    have h1 := ha2 (list_ne hi)
    subst h1
    simp at hv2
    obtain ⟨⟨rfl, rfl⟩, _⟩ := hv2
    exact hc2 i e hi
/-- Two trees that lie beside each other and beside all that was there. -/
structure Two (w : World) (tb tbase : Nat) (F : Pic) (L : List Ent) (ub ubase : Nat) (G : Pic) (M : List Ent) (W : World) : Prop where
  b : Below w.heap.size w W
  t : TreeOf W tb tbase F L
  u : TreeOf W ub ubase G M
  ap : ∀ k, MineT tb F k → ¬ MineT ub G k
  gt : ∀ k, MineT tb F k → w.heap.size ≤ k
  gu : ∀ k, MineT ub G k → w.heap.size ≤ k
variable {w W W' : World} {tb tbase ub ubase : Nat} {F F' G G' : Pic} {L L' M M' : List Ent}
theorem Two.below (h : Two w tb tbase F L ub ubase G M W) (hb : Below W.heap.size W W') : Two w tb tbase F L ub ubase G M W' :=
  ⟨below_join h.b hb, h.t.below hb, h.u.below hb, h.ap, h.gt, h.gu⟩
theorem Two.first (h : Two w tb tbase F L ub ubase G M W) (ht : TreeOf W' tb tbase F' L') (hr : Rnd (MineT tb F) (MineT tb F') W W') : Two w tb tbase F' L' ub ubase G M W' := by
  have hs := h.b.size
  refine ⟨h.b.trans (hr.below hs h.gt), ht, h.u.keep (fun k hk => hr.same k (h.u.mine_lt hk) (fun hm => h.ap k hm hk)), fun k hm hk => ?_, hr.from' hs h.gt, h.gu⟩
  rcases hr.more k hm with h1 | h1
  · exact h.ap k h1 hk
  · have := h.u.mine_lt hk; omega
theorem Two.second (h : Two w tb tbase F L ub ubase G M W) (ht : TreeOf W' ub ubase G' M') (hr : Rnd (MineT ub G) (MineT ub G') W W') : Two w tb tbase F L ub ubase G' M' W' := by
  have hs := h.b.size
  refine ⟨h.b.trans (hr.below hs h.gu), h.t.keep (fun k hk => hr.same k (h.t.mine_lt hk) (fun hm => h.ap k hk hm)), ht, fun k hk hm => ?_, h.gt, hr.from' hs h.gu⟩
  rcases hr.more k hm with h1 | h1
  · exact h.ap k hk h1
  · have := h.t.mine_lt hk; omega
theorem two_start {w1 w2 : World} (hb1 : Below w.heap.size w w1) (h1 : w.heap.size ≤ tbase) (ht : TreeOf w1 tb tbase F L) (hb2 : Below w1.heap.size w1 w2) (h2 : w1.heap.size ≤ ubase) (hu : TreeOf w2 ub ubase G M) : Two w tb tbase F L ub ubase G M w2 := by
  have hs := hb1.size
  refine ⟨below_join hb1 hb2, ht.below hb2, hu, fun k hk hm => ?_, fun k hk => ?_, fun k hk => ?_⟩
  · have a1 := ht.mine_lt hk
    have a2 := hu.mine_ge k hm
    omega
  · have := ht.mine_ge k hk; omega
  · have := hu.mine_ge k hk; omega
end Go.Proofs.YtcefgnjgcnboeaaGreatDoor

namespace Go.Proofs.YtcefgnjgcnboeaaGreatDoor
open Go Go.RowKit

def pickI (k : Int) : Int := k % 4
theorem pickI_range (k : Int) : 0 ≤ pickI k ∧ pickI k < 4 := by unfold pickI; omega
theorem tmod_emod (k : Int) : pickI k = if k.tmod 4 < 0 then k.tmod 4 + 4 else k.tmod 4 := by
  unfold pickI
  by_cases hk : 0 ≤ k
  · rw [Int.tmod_eq_emod_of_nonneg hk, if_neg (by omega)]
  · have : k.tmod 4 = -((-k).tmod 4) := by rw [Int.neg_tmod]; omega
    rw [this, Int.tmod_eq_emod_of_nonneg (by omega : 0 ≤ -k)]
    split <;> omega
theorem wrapP (z : Int) (h : -9223372036854775808 ≤ z ∧ z ≤ 9223372036854775807) : IntKind.i64.wrap z = z := by
  rw [IntKind.wrap_i64]; omega
set_option maxHeartbeats 1000000 in
theorem pick_4 (k : Int) (w : World) : Calls Tryz.prog 20 #[.int .i64 k, .int .i64 4] w fun e w' => e = .returned (.int .i64 (pickI k)) ∧ w' = w := by
  have hr1 : -(4 : Int) < k.tmod 4 ∧ k.tmod 4 < 4 := by
    have := Int.natAbs_tmod k 4
    have h2 := Nat.mod_lt k.natAbs (show 0 < (4 : Int).natAbs by decide)
    have h3 : (4 : Int).natAbs = 4 := rfl
    omega
  have hp := tmod_emod k
  have w1 : IntKind.i64.wrap (k.tmod 4) = k.tmod 4 := wrapP _ (by omega)
  by_cases h0 : k.tmod 4 < 0
  · have HP : Hid (pickI k = k.tmod 4 + 4) := by rw [if_pos h0] at hp; exact hp
    have w2 : IntKind.i64.wrap (k.tmod 4 + 4) = k.tmod 4 + 4 := wrapP _ (by omega)
    clear hp
    go_enter Tryz.func20, Tryz.ntmps20
    go_wp2
    go_ret
    exact ⟨by rw [HP.out]; rfl, rfl⟩
  · have HP : Hid (pickI k = k.tmod 4) := by rw [if_neg h0] at hp; exact hp
    clear hp
    go_enter Tryz.func20, Tryz.ntmps20
    go_wp2
    go_ret
    exact ⟨by rw [HP.out]; rfl, rfl⟩
/-- What a call comes to. -/
def actR (L : List Ent) (k : Int) (way : ByteArray) : Int × St × List ByteArray := if k = 0 then findR L way true else if k = 1 then findR L way false else if k = 2 then makeR L way else placeR L way
theorem goF_keeps {m : Mn} (hm : m.ab = 0) : ∀ (f : Nat) (st : St), (goF m f st).1 = 0 → (goF m f st).2.1.L = st.L
  | 0, st, _ => rfl
  | f + 1, st, h0 => by
    by_cases hl : st.left = []
    · rw [goF_nil (m := m) (f := f + 1) hl]
    · obtain ⟨c, rest, hl⟩ := List.exists_cons_of_ne_nil hl
      by_cases h1 : (stepN m st c rest).1 = 0
      · rw [goF_ok hl h1] at h0 ⊢
        have hs : (stepN m st c rest).2.L = st.L := by
          rcases step_list h1 with h2 | ⟨p, h2, h3, h4⟩
          · exact h2
          · exact (step_keeps hm h1).1
        rw [goF_keeps hm f _ h0, hs]
      · rw [goF_err hl h1] at h0
        exact absurd h0 h1
theorem find_tree (L : List Ent) (way : ByteArray) (last : Bool) : treeB L (findR L way last) = L := by
  unfold treeB
  split
  · rename_i h; exact goF_keeps (m := ⟨0, false, !last⟩) rfl (msr (start L way) + 1) (start L way) h
  · rfl
variable {tb tbase : Nat} {F : Pic}
set_option maxRecDepth 100000 in
set_option maxHeartbeats 2000000 in
theorem asked_0 (kd : Int) (hk : pickI kd = 0) (way : ByteArray) (L : List Ent) (w : World) (h : TreeOf w tb tbase F L) (hw : way.size ≤ 1099511627776) :
    Calls Tryz.prog 8 #[.pointer (some ⟨tb, 0, none⟩), .agg #[.int .i64 kd, .string way]] w fun e w' => e = .returned (.tuple #[.string (ansB (findR L way true)), errE (findR L way true).1]) ∧ ∃ F', TreeOf w' tb tbase F' (treeB L (findR L way true)) ∧ Rnd (MineT tb F) (MineT tb F') w w' := by
  have hbA : Below w.heap.size w (w.alloc (.cells #[.int .i64 kd, .string way] 36)) := (Below.refl _ _).alloc (Nat.le_refl _) _
  have hC := find_p true way L _ (h.below hbA) hw
  have hP := fun W => pick_4 kd W
  rw [hk] at hP
  have hft := find_tree L way true
  generalize (findR L way true) = r at *
  generalize errE r.1 = er at *
  clear hk
  go_enter Tryz.func8, Tryz.ntmps8
  go_wp2_with (first | (go_at_call 20; refine (hP _).mono ?_; rintro e w1 ⟨rfl, hw1⟩; replace hw1 := hw1.symm; subst hw1) | (go_at_call 21; refine hC.mono ?_; rintro e w2 ⟨rfl, hx⟩))
  go_ret2
  refine ⟨rfl, F, ?_, Rnd.of_below (below_join hbA hx)⟩
  rw [hft]
  exact (h.below hbA).below hx
set_option maxRecDepth 100000 in
set_option maxHeartbeats 2000000 in
theorem asked_1 (kd : Int) (hk : pickI kd = 1) (way : ByteArray) (L : List Ent) (w : World) (h : TreeOf w tb tbase F L) (hw : way.size ≤ 1099511627776) :
    Calls Tryz.prog 8 #[.pointer (some ⟨tb, 0, none⟩), .agg #[.int .i64 kd, .string way]] w fun e w' => e = .returned (.tuple #[.string (ansB (findR L way false)), errE (findR L way false).1]) ∧ ∃ F', TreeOf w' tb tbase F' (treeB L (findR L way false)) ∧ Rnd (MineT tb F) (MineT tb F') w w' := by
  have hbA : Below w.heap.size w (w.alloc (.cells #[.int .i64 kd, .string way] 36)) := (Below.refl _ _).alloc (Nat.le_refl _) _
  have hC := find_p false way L _ (h.below hbA) hw
  have hP := fun W => pick_4 kd W
  rw [hk] at hP
  have hft := find_tree L way false
  generalize (findR L way false) = r at *
  generalize errE r.1 = er at *
  clear hk
  go_enter Tryz.func8, Tryz.ntmps8
  go_wp2_with (first | (go_at_call 20; refine (hP _).mono ?_; rintro e w1 ⟨rfl, hw1⟩; replace hw1 := hw1.symm; subst hw1) | (go_at_call 21; refine hC.mono ?_; rintro e w2 ⟨rfl, hx⟩))
  go_ret2
  refine ⟨rfl, F, ?_, Rnd.of_below (below_join hbA hx)⟩
  rw [hft]
  exact (h.below hbA).below hx
set_option maxRecDepth 100000 in
set_option maxHeartbeats 2000000 in
theorem asked_2 (kd : Int) (hk : pickI kd = 2) (way : ByteArray) (L : List Ent) (w : World) (h : TreeOf w tb tbase F L) (hw : way.size ≤ 1099511627776) :
    Calls Tryz.prog 8 #[.pointer (some ⟨tb, 0, none⟩), .agg #[.int .i64 kd, .string way]] w fun e w' => e = .returned (.tuple #[.string (ansB (makeR L way)), errE (makeR L way).1]) ∧ ∃ F', TreeOf w' tb tbase F' (treeB L (makeR L way)) ∧ Rnd (MineT tb F) (MineT tb F') w w' := by
  have hbA : Below w.heap.size w (w.alloc (.cells #[.int .i64 kd, .string way] 36)) := (Below.refl _ _).alloc (Nat.le_refl _) _
  have hC := make_w way L _ (h.below hbA) hw
  have hP := fun W => pick_4 kd W
  rw [hk] at hP
  generalize (makeR L way) = r at *
  generalize errE r.1 = er at *
  clear hk
  go_enter Tryz.func8, Tryz.ntmps8
  go_wp2_with (first | (go_at_call 20; refine (hP _).mono ?_; rintro e w1 ⟨rfl, hw1⟩; replace hw1 := hw1.symm; subst hw1) | (go_at_call 22; refine hC.mono ?_; rintro e w2 ⟨rfl, hx⟩))
  go_ret2
  obtain ⟨F', hT', hr'⟩ := hx
  exact ⟨rfl, F', hT', (Rnd.of_below hbA).trans hr'⟩
set_option maxRecDepth 100000 in
set_option maxHeartbeats 2000000 in
theorem asked_3 (kd : Int) (hk : pickI kd = 3) (way : ByteArray) (L : List Ent) (w : World) (h : TreeOf w tb tbase F L) (hw : way.size ≤ 1099511627776) :
    Calls Tryz.prog 8 #[.pointer (some ⟨tb, 0, none⟩), .agg #[.int .i64 kd, .string way]] w fun e w' => e = .returned (.tuple #[.string (ansB (placeR L way)), errE (placeR L way).1]) ∧ ∃ F', TreeOf w' tb tbase F' (treeB L (placeR L way)) ∧ Rnd (MineT tb F) (MineT tb F') w w' := by
  have hbA : Below w.heap.size w (w.alloc (.cells #[.int .i64 kd, .string way] 36)) := (Below.refl _ _).alloc (Nat.le_refl _) _
  have hC := place_w way L _ (h.below hbA) hw
  have hP := fun W => pick_4 kd W
  rw [hk] at hP
  generalize (placeR L way) = r at *
  generalize errE r.1 = er at *
  clear hk
  go_enter Tryz.func8, Tryz.ntmps8
  go_wp2_with (first | (go_at_call 20; refine (hP _).mono ?_; rintro e w1 ⟨rfl, hw1⟩; replace hw1 := hw1.symm; subst hw1) | (go_at_call 23; refine hC.mono ?_; rintro e w2 ⟨rfl, hx⟩))
  go_ret2
  obtain ⟨F', hT', hr'⟩ := hx
  exact ⟨rfl, F', hT', (Rnd.of_below hbA).trans hr'⟩
theorem asked_p (kd : Int) (way : ByteArray) (L : List Ent) (w : World) (h : TreeOf w tb tbase F L) (hw : way.size ≤ 1099511627776) :
    Calls Tryz.prog 8 #[.pointer (some ⟨tb, 0, none⟩), .agg #[.int .i64 kd, .string way]] w fun e w' => e = .returned (.tuple #[.string (ansB (actR L (pickI kd) way)), errE (actR L (pickI kd) way).1]) ∧ ∃ F', TreeOf w' tb tbase F' (treeB L (actR L (pickI kd) way)) ∧ Rnd (MineT tb F) (MineT tb F') w w' := by
  have hr := pickI_range kd
  have hcase : pickI kd = 0 ∨ pickI kd = 1 ∨ pickI kd = 2 ∨ pickI kd = 3 := by omega
  rcases hcase with hk | hk | hk | hk
  · have e : actR L (pickI kd) way = findR L way true := by unfold actR; rw [hk]; rfl
    rw [e]; exact asked_0 kd hk way L w h hw
  · have e : actR L (pickI kd) way = findR L way false := by unfold actR; rw [hk]; rfl
    rw [e]; exact asked_1 kd hk way L w h hw
  · have e : actR L (pickI kd) way = makeR L way := by unfold actR; rw [hk]; rfl
    rw [e]; exact asked_2 kd hk way L w h hw
  · have e : actR L (pickI kd) way = placeR L way := by unfold actR; rw [hk]; rfl
    rw [e]; exact asked_3 kd hk way L w h hw
/-- What the document answers to any of the four. -/
theorem go_any (kd : Int) (way : ByteArray) (L : List Ent) (v : Value) (w : World) {NV : Nat → Prop} (hv : EntsF NV w v L) {W : World} {tb2 base2 : Nat} {F2 : Pic} (hT : TreeOf W tb2 base2 F2 L) (hw : way.size ≤ 1073741824) :
    Calls Tryz.prog 34 #[v, .string way, .int .i64 (pickI kd)] w (GoPostK w NV L (actR L (pickI kd) way)) := by
  have hr := pickI_range kd
  have hfew := hT.few
  have hcase : pickI kd = 0 ∨ pickI kd = 1 ∨ pickI kd = 2 ∨ pickI kd = 3 := by omega
  obtain ⟨a, cap, b, o, rfl, _⟩ := id hv
  have hfind : ∀ last : Bool, Calls Tryz.prog 34 #[.slice a L.length cap, .string way, .int .i64 (srtN (!last))] w (GoPostK w NV L (findR L way last)) := fun last => by
    refine (go_r (!last) way L a cap w hv.ents (by omega) hT.right hw).mono (fun e w' h => ?_)
    obtain ⟨hb, hh, lv, ho, trv, dn, an, he, ha, ht, hl, _, _⟩ := h
    exact ⟨hb, _, hh, lv, ho, trv, dn, an, he, ha, ht, hl, by rw [find_tree]; exact (hv.below hb).weak (fun k hk => .inl hk)⟩
  rcases hcase with hk | hk | hk | hk
  · have e : actR L (pickI kd) way = findR L way true := by unfold actR; rw [hk]; rfl
    rw [e, hk]; exact hfind true
  · have e : actR L (pickI kd) way = findR L way false := by unfold actR; rw [hk]; rfl
    rw [e, hk]; exact hfind false
  · have e : actR L (pickI kd) way = makeR L way := by unfold actR; rw [hk]; rfl
    rw [e, hk]; exact go_k2 way L a cap w hv (winv_start hT way) hw
  · have e : actR L (pickI kd) way = placeR L way := by unfold actR; rw [hk]; rfl
    rw [e, hk]; exact go_k3 way L a cap w hv (winv_start hT way) hw
end Go.Proofs.YtcefgnjgcnboeaaGreatDoor

namespace Go.Proofs.YtcefgnjgcnboeaaGreatDoor
open Go Go.RowKit

theorem check_range (p : ByteArray) : checkN p = 0 ∨ (1 ≤ checkN p ∧ checkN p ≤ 32) := by
  unfold checkN splitP
  repeat' split
  all_goals first | exact .inl rfl | exact .inr ⟨by decide, by decide⟩
theorem put_range (L : List Ent) (p : ByteArray) : putAll L (dirE p) = 0 ∨ (1 ≤ putAll L (dirE p) ∧ putAll L (dirE p) ≤ 32) := by
  have hc := check_range p
  unfold putAll
  rw [wrong_dir]
  split
  · exact hc
  · unfold putN upN manyN
    repeat' split
    all_goals first | exact .inl rfl | exact .inr ⟨by decide, by decide⟩ | (exfalso; omega)
theorem step_range (m : Mn) (st : St) (c : ByteArray) (rest : List ByteArray) : (stepN m st c rest).1 = 0 ∨ (1 ≤ (stepN m st c rest).1 ∧ (stepN m st c rest).1 ≤ 32) := by
  unfold stepN
  split
  · exact .inl rfl
  · split
    · exact .inl rfl
    · split
      · unfold absN
        split
        · exact .inr ⟨by simp, by simp⟩
        · exact put_range _ _
        · split
          · exact check_range _
          · exact put_range _ _
      · unfold thereN
        split
        · exact .inr ⟨by simp, by simp⟩
        · split
          · unfold linkS
            split
            · exact .inr ⟨by simp, by simp⟩
            · exact .inl rfl
          · exact .inl rfl
theorem go_range (m : Mn) : ∀ (f : Nat) (st : St), (goF m f st).1 = 0 ∨ (1 ≤ (goF m f st).1 ∧ (goF m f st).1 ≤ 32)
  | 0, st => .inl rfl
  | f + 1, st => by
    by_cases hl : st.left = []
    · rw [goF_nil (m := m) (f := f + 1) hl]; exact .inl rfl
    · obtain ⟨c, rest, hl⟩ := List.exists_cons_of_ne_nil hl
      by_cases h1 : (stepN m st c rest).1 = 0
      · rw [goF_ok hl h1]; exact go_range m f _
      · rw [goF_err hl h1]; exact step_range m st c rest
theorem act_nums (L : List Ent) (k : Int) (way : ByteArray) : (actR L k way).1 = 0 ∨ (1 ≤ (actR L k way).1 ∧ (actR L k way).1 ≤ 32) := by
  unfold actR
  split
  · exact go_range _ _ _
  · split
    · exact go_range _ _ _
    · split <;> exact go_range _ _ _
theorem plain_any (n : Int) (hn : n = 0 ∨ (1 ≤ n ∧ n ≤ 32)) (w : World) (hg : ErrType w) : Calls Tryz.prog 9 #[errE n, .int .i64 n] w fun e w' => e = .returned (.bool true) ∧ Below w.heap.size w w' := by
  rcases hn with rfl | ⟨h1, h2⟩
  · exact plain_nil w
  · rw [errE_some (by omega)]; exact plain_some n h1 h2 w hg
structure Act8 where
  kind : Int
  way : ByteArray
structure ActC (W : World) (b q : Nat) (a : Act8) : Prop where
  c0 : W.cell? ⟨b, q, none⟩ = some (.int .i64 a.kind)
  c1 : W.cell? ⟨b, q + 1, none⟩ = some (.string a.way)
theorem ActC.below {W W2 : World} {b q : Nat} {a : Act8} (h : ActC W b q a) (hb : Below W.heap.size W W2) : ActC W2 b q a := by
  have hl := World.block_lt_of_cell? W _ h.c0
  exact ⟨(hb.cell (p := ⟨b, q, none⟩) hl).trans h.c0, (hb.cell (p := ⟨b, q + 1, none⟩) hl).trans h.c1⟩
def ActsAt (W : World) (v : Value) (al : List Act8) : Prop :=
  ∃ (a : Option Addr) (cap b o : Nat), v = .slice a al.length cap ∧ (al ≠ [] → a = some ⟨b, o, none⟩) ∧ al.length ≤ cap ∧ ∀ i x, al[i]? = some x → ActC W b (o + i * 2) x
theorem ActsAt.below {W W2 : World} {v : Value} {al : List Act8} (h : ActsAt W v al) (hb : Below W.heap.size W W2) : ActsAt W2 v al := by
  obtain ⟨a, cap, b, o, h1, h2, h3, h4⟩ := h
  exact ⟨a, cap, b, o, h1, h2, h3, fun i x hx => (h4 i x hx).below hb⟩
/-- A tree beside all that was there. -/
structure One8 (w : World) (tb tbase : Nat) (F : Pic) (L : List Ent) (W : World) : Prop where
  b : Below w.heap.size w W
  t : TreeOf W tb tbase F L
  g : ∀ k, MineT tb F k → w.heap.size ≤ k
variable {w W W' : World} {tb tbase : Nat} {F F' : Pic} {L L' : List Ent}
theorem One8.below (h : One8 w tb tbase F L W) (hb : Below W.heap.size W W') : One8 w tb tbase F L W' := ⟨below_join h.b hb, h.t.below hb, h.g⟩
theorem One8.rnd (h : One8 w tb tbase F L W) (ht : TreeOf W' tb tbase F' L') (hr : Rnd (MineT tb F) (MineT tb F') W W') : One8 w tb tbase F' L' W' :=
  ⟨h.b.trans (hr.below h.b.size h.g), ht, hr.from' h.b.size h.g⟩
theorem entsF_rnd {S S2 : Nat → Prop} {W W' : World} {v : Value} {L : List Ent} (h : EntsF (fun k => ¬ S k) W v L) (hr : Rnd S S2 W W') : EntsF (fun k => ¬ S2 k) W' v L := h.keep (fun k hk hl => ⟨fun hm => by rcases hr.more k hm with h1 | h1; exact hk h1; omega, hr.same k hl hk⟩)
theorem ents_slice {N : Nat → Prop} {W : World} {v : Value} {L : List Ent} (h : EntsF N W v L) : ∃ a n c, v = .slice a n c := by
  obtain ⟨a, c, b, o, h1, _⟩ := h
  exact ⟨a, _, c, h1⟩
/-- What stands behind the document's answer: its walk in a block. -/
def Walked (tb : Nat) (F : Pic) (L : List Ent) (r : Int × St × List ByteArray) (W0 : World) (s : Value) (wx : World) : Prop :=
  ∃ (b9 : Nat) (tv : Value) (hh : ByteArray) (lv : Value) (ho : Nat) (trv : Value) (dn : Bool), s = .pointer (some ⟨b9, 0, none⟩) ∧ W0.heap.size ≤ b9 ∧ wx.heap[b9]? = some (.cells (wk8 tv hh lv ho trv dn (ansB r) r.1) 81 (0, 0)) ∧ EntsF (fun k => ¬ MineT tb F k) wx tv (treeB L r) ∧ (∃ a n c, tv = .slice a n c) ∧ Below W0.heap.size W0 wx
set_option maxRecDepth 100000 in
set_option maxHeartbeats 8000000 in
theorem rpl_ok (v u : Value) (es : List Ent) (al : List Act8) (w : World) (hg : ErrType w) (hv : EntsAt w v es) (hu : ActsAt w u al) (hl : es.length ≤ 1073741824) (hp : ∀ e ∈ es, e.path.size < 1152921504606846976) (hz : ∀ a ∈ al, a.way.size ≤ 1073741824) (hc : (checkGo [] es).1 = 0) :
    Calls Tryz.prog 16 #[v, u] w fun e w' => e = .returned (.bool true) ∧ Below w.heap.size w w' := by
  have HG : Hid (∀ W, Below w.heap.size w W → ErrType W) := fun W hb => hg.below hb
  have HV0 : Hid (EntsAt w v es) := hv
  have hO := ofl_ok v es w hg hv hl hp hc
  obtain ⟨a0, cap0, b0, o0, rfl, ha0, hcap0, hc0⟩ := hu
  have HA : Hid (∀ W, Below w.heap.size w W → ∀ i x, al[i]? = some x → ActC W b0 (o0 + i * 2) x) := fun W hb i x hx => (hc0 i x hx).below hb
  clear hc hv hg hc0
  go_enter Tryz.func16, Tryz.ntmps16
  go_wp2_with fail
  refine hO.mono ?_
  rintro e w1 ⟨hb1, tb, tbase, F, rfl, hq1, hT1⟩
  have O1 : One8 w tb tbase F es w1 := ⟨hb1, hT1, fun k hk => Nat.le_trans hq1 (hT1.mine_ge k hk)⟩
  have HF1 : Hid (EntsF (fun k => ¬ MineT tb F k) w1 v es) := (entsF_of_ents HV0.out).keep (fun k hk hl => ⟨fun hm => by have := O1.g k hm; omega, hb1.block k hl⟩)
  clear hO hb1 hq1 hT1
  go_wp2
  go_loopw [7, 8, 9, 10, 11] (fun nv i _ _ _ wr => ∃ (k : Nat) (F : Pic) (L : List Ent), i = .int .i64 k ∧ k ≤ al.length ∧ One8 w tb tbase F L wr ∧ EntsF (fun k => ¬ MineT tb F k) wr nv L) (fun _ i _ _ _ _ => al.length - (intOf i).toNat)
  case atStart => exact ⟨0, F, es, rfl, Nat.zero_le _, O1, HF1.out⟩
  case round =>
    obtain ⟨k, F, L, rfl, hk, hO, hFr⟩ := hrel
    clear O1 HF1
    have HO : Hid (One8 w tb tbase F L wr) := hO
    have HFR : Hid (EntsF (fun k => ¬ MineT tb F k) wr u7 L) := hFr
    clear hO hFr
    by_cases hlt : k < al.length
    · by_cases h100 : k < 100
      · have hlt' : (k : Int) < (al.length : Int) := by omega
        have h100' : (k : Int) < 100 := by omega
        have hk0 : (0 : Int) ≤ (k : Int) := by omega
        obtain ⟨x, hx⟩ : ∃ x, al[k]? = some x := ⟨_, List.getElem?_eq_getElem hlt⟩
        obtain rfl := ha0 (fun e => by rw [e] at hlt; simp at hlt)
        obtain ⟨c0, c1⟩ := HA.out wr HO.out.b k x hx
        have hxz := hz x (List.mem_of_getElem? hx)
        have HX : Hid (al[k]? = some x) := hx
        have hP := fun W => pick_4 x.kind W
        have hGo := fun W hV => go_any x.kind x.way L u7 W (NV := fun k => ¬ MineT tb F k ∧ k < wr.heap.size) hV HO.out.t hxz
        clear hx
        go_upto_region 8 with fail
        go_cut [9] (fun s wx => Walked tb F L (actR L (pickI x.kind) x.way) wr s wx)
        case first =>
          have HE0 : Hid (EntsF (fun k => ¬ MineT tb F k) wr u7 L) := HFR.out
          refine wp_region_noPanic ?_
          refine wp_region_held_drew (S := fun W => ActC W b0 (o0 + k * 2) x ∧ Below wr.heap.size wr W) (by kernel_rfl) ⟨⟨c0, c1⟩, below_drewN (Below.refl _ _) 1⟩ (fun h0 => ?_)
          generalize hwd : wr.drew = wd at *
          clear hwd
          refine wpAnyH_take (i := 0) (v := u7) rfl (by kernel_rfl) (by kernel_rfl) (by kernel_rfl) (fun _ _ _ h => h) (Or.inl ⟨by rfl, fun w hSw => by obtain ⟨⟨s0, s1⟩, s2⟩ := hSw; go_simp <;> first | omega | rfl⟩) h0 ?_
          try dsimp [Act.put]
          try simp only [List.setIfInBounds_toArray, List.set_cons_succ, List.set_cons_zero]
          refine wpAnyH_take (i := 1) (v := .slice (some ⟨b0, o0, none⟩) al.length cap0) rfl (by kernel_rfl) (by kernel_rfl) (by kernel_rfl) (fun _ _ _ h => h) (Or.inl ⟨by rfl, fun w hSw => by obtain ⟨⟨s0, s1⟩, s2⟩ := hSw; go_simp <;> first | omega | rfl⟩) h0 ?_
          try dsimp [Act.put]
          try simp only [List.setIfInBounds_toArray, List.set_cons_succ, List.set_cons_zero]
          refine wpAnyH_take (i := 2) (v := .int .i64 k) rfl (by kernel_rfl) (by kernel_rfl) (by kernel_rfl) (fun _ _ _ h => h) (Or.inl ⟨by rfl, fun w hSw => by obtain ⟨⟨s0, s1⟩, s2⟩ := hSw; go_simp <;> first | omega | rfl⟩) h0 ?_
          try dsimp [Act.put]
          try simp only [List.setIfInBounds_toArray, List.set_cons_succ, List.set_cons_zero]
          refine wpAnyH_take (i := 3) (v := .pointer (some ⟨b0, o0 + k * 2, none⟩)) rfl (by kernel_rfl) (by kernel_rfl) (by kernel_rfl) (fun _ _ _ h => h) (Or.inl ⟨by rfl, fun w hSw => by obtain ⟨⟨s0, s1⟩, s2⟩ := hSw; go_simp <;> first | omega | rfl⟩) h0 ?_
          try dsimp [Act.put]
          try simp only [List.setIfInBounds_toArray, List.set_cons_succ, List.set_cons_zero]
          refine wpAnyH_take (i := 4) (v := .pointer (some ⟨b0, o0 + k * 2 + 1, none⟩)) rfl (by kernel_rfl) (by kernel_rfl) (by kernel_rfl) (fun _ _ _ h => h) (Or.inl ⟨by rfl, fun w hSw => by obtain ⟨⟨s0, s1⟩, s2⟩ := hSw; go_simp <;> first | omega | rfl⟩) h0 ?_
          try dsimp [Act.put]
          try simp only [List.setIfInBounds_toArray, List.set_cons_succ, List.set_cons_zero]
          refine wpAnyH_take (i := 5) (v := .string x.way) rfl (by kernel_rfl) (by kernel_rfl) (by kernel_rfl) (fun _ _ _ h => h) (Or.inl ⟨by rfl, fun w hSw => by obtain ⟨⟨s0, s1⟩, s2⟩ := hSw; go_simp <;> first | omega | rfl⟩) h0 ?_
          try dsimp [Act.put]
          try simp only [List.setIfInBounds_toArray, List.set_cons_succ, List.set_cons_zero]
          refine wpAnyH_take (i := 6) (v := .slice (some ⟨b0, o0, none⟩) al.length cap0) rfl (by kernel_rfl) (by kernel_rfl) (by kernel_rfl) (fun _ _ _ h => h) (Or.inl ⟨by rfl, fun w hSw => by obtain ⟨⟨s0, s1⟩, s2⟩ := hSw; go_simp <;> first | omega | rfl⟩) h0 ?_
          try dsimp [Act.put]
          try simp only [List.setIfInBounds_toArray, List.set_cons_succ, List.set_cons_zero]
          refine wpAnyH_take (i := 7) (v := .int .i64 k) rfl (by kernel_rfl) (by kernel_rfl) (by kernel_rfl) (fun _ _ _ h => h) (Or.inl ⟨by rfl, fun w hSw => by obtain ⟨⟨s0, s1⟩, s2⟩ := hSw; go_simp <;> first | omega | rfl⟩) h0 ?_
          try dsimp [Act.put]
          try simp only [List.setIfInBounds_toArray, List.set_cons_succ, List.set_cons_zero]
          refine wpAnyH_take (i := 8) (v := .pointer (some ⟨b0, o0 + k * 2, none⟩)) rfl (by kernel_rfl) (by kernel_rfl) (by kernel_rfl) (fun _ _ _ h => h) (Or.inl ⟨by rfl, fun w hSw => by obtain ⟨⟨s0, s1⟩, s2⟩ := hSw; go_simp <;> first | omega | rfl⟩) h0 ?_
          try dsimp [Act.put]
          try simp only [List.setIfInBounds_toArray, List.set_cons_succ, List.set_cons_zero]
          refine wpAnyH_take (i := 9) (v := .pointer (some ⟨b0, o0 + k * 2, none⟩)) rfl (by kernel_rfl) (by kernel_rfl) (by kernel_rfl) (fun _ _ _ h => h) (Or.inl ⟨by rfl, fun w hSw => by obtain ⟨⟨s0, s1⟩, s2⟩ := hSw; go_simp <;> first | omega | rfl⟩) h0 ?_
          try dsimp [Act.put]
          try simp only [List.setIfInBounds_toArray, List.set_cons_succ, List.set_cons_zero]
          refine wpAnyH_take (i := 10) (v := .int .i64 x.kind) rfl (by kernel_rfl) (by kernel_rfl) (by kernel_rfl) (fun _ _ _ h => h) (Or.inl ⟨by rfl, fun w hSw => by obtain ⟨⟨s0, s1⟩, s2⟩ := hSw; go_simp <;> first | omega | rfl⟩) h0 ?_
          try dsimp [Act.put]
          try simp only [List.setIfInBounds_toArray, List.set_cons_succ, List.set_cons_zero]
          refine wpAnyH_ready (rs := [11, 13]) (by kernel_rfl) (by simp) ?_
          refine AllReadyH.cons rfl ?_ (AllReadyH.cons rfl ?_ AllReadyH.nil)
          · intro K' hK
            rw [if_pos (by rfl)]
            go_simp
            refine (hP _).mono ?_
            rintro e w3 ⟨rfl, hw3⟩
            replace hw3 := hw3.symm
            subst hw3
            refine hK.out _ _ h0 (fun _ => ?_)
            try dsimp [Act.put]
            try simp only [List.setIfInBounds_toArray, List.set_cons_succ, List.set_cons_zero]
            refine wpAnyH_ready (rs := [12, 13]) (by kernel_rfl) (by simp) ?_
            refine AllReadyH.cons rfl ?_ (AllReadyH.cons rfl ?_ AllReadyH.nil)
            · intro K' hK
              rw [if_pos (by rfl)]
              go_simp
              refine (hGo _ (HE0.out.keep (fun k hk hl => ⟨⟨hk, hl⟩, h0.2.block k hl⟩))).mono ?_
              rintro e w4 ⟨hb4, tv, hh, lv, ho, trv, dn, an, rfl, rfl, ⟨t1, t2, t3, rfl⟩, ⟨l1, l2, l3, rfl⟩, hE4⟩
              obtain ⟨y1, y2, y3, rfl⟩ := ents_slice hE4
              have hE5 : EntsF (fun k => ¬ MineT tb F k ∧ k ≠ w4.heap.size) (w4.alloc (.cells zw8 81)) (.slice y1 y2 y3) (treeB L (actR L (pickI x.kind) x.way)) := hE4.keep (fun k hk hl => ⟨⟨by rcases hk with hk | hk; exact hk.1; exact HO.out.t.not_mine (Nat.le_trans h0.2.size hk), by omega⟩, Below.heap_alloc _ _ _ hl⟩)
              have h4 : ActC w4 b0 (o0 + k * 2) x ∧ Below wr.heap.size wr w4 := ⟨h0.1.below hb4, below_join h0.2 hb4⟩
              refine hK.out _ _ h4 (fun _ => ?_)
              try dsimp [Act.put]
              try simp only [List.setIfInBounds_toArray, List.set_cons_succ, List.set_cons_zero]
              refine wpAnyH_ready (rs := [13]) (by kernel_rfl) (by simp) ?_
              refine AllReadyH.cons rfl ?_ AllReadyH.nil
              intro K' hK
              rw [if_pos (by rfl)]
              go_simp
              have h5 : ActC (w4.alloc (.cells zw8 81)) b0 (o0 + k * 2) x ∧ Below wr.heap.size wr (w4.alloc (.cells zw8 81)) := ⟨h4.1.below ((Below.refl _ _).alloc (Nat.le_refl _) _), below_join h4.2 ((Below.refl _ _).alloc (Nat.le_refl _) _)⟩
              refine hK.out _ _ h5 (fun _ => ?_)
              try dsimp [Act.put]
              try simp only [List.setIfInBounds_toArray, List.set_cons_succ, List.set_cons_zero]
              refine wpAnyH_ready (rs := [14]) (by kernel_rfl) (by simp) ?_
              refine AllReadyH.cons rfl ?_ AllReadyH.nil
              intro K' hK
              rw [if_pos (by rfl)]
              have k9 : (w4.alloc (.cells zw8 81)).heap[w4.heap.size]? = some (.cells zw8 81 (0, 0)) := World.alloc_heap_new w4 _
              have hb9 : wr.heap.size ≤ w4.heap.size := h4.2.size
              refine wp_store_row 81 (.tmp 9) (.tmp 43) rfl (w4.heap.size) (wk8 (.slice y1 y2 y3) hh (.slice l1 l2 l3) ho (.slice t1 t2 t3) dn (ansB (actR L (pickI x.kind) x.way)) (actR L (pickI x.kind) x.way).1) rfl rfl 81 zw8 k9 (info_w8 _ rfl) rfl (one_w8 _ _ _ _ _ _ _ _ _ _ _ _ _ _) ?_
              have hbF : Below wr.heap.size wr ((w4.alloc (.cells zw8 81)).setRow (w4.heap.size) (wk8 (.slice y1 y2 y3) hh (.slice l1 l2 l3) ho (.slice t1 t2 t3) dn (ansB (actR L (pickI x.kind) x.way)) (actR L (pickI x.kind) x.way).1)) := below_setRow' h5.2 hb9 _
              refine hK.out _ _ ⟨(HA.out _ (below_join HO.out.b hbF) k x HX.out), hbF⟩ (fun _ => ?_)
              try dsimp [Act.put]
              try simp only [List.setIfInBounds_toArray, List.set_cons_succ, List.set_cons_zero]
              refine wpAnyH_done (by kernel_rfl) ?_ _
              refine NoPanic.normal ?_
              go_wp2
              go_meet
              have hEF : EntsF (fun k => ¬ MineT tb F k) ((w4.alloc (.cells zw8 81)).setRow (w4.heap.size) (wk8 (.slice y1 y2 y3) hh (.slice l1 l2 l3) ho (.slice t1 t2 t3) dn (ansB (actR L (pickI x.kind) x.way)) (actR L (pickI x.kind) x.way).1)) (.slice y1 y2 y3) (treeB L (actR L (pickI x.kind) x.way)) := hE5.keep (fun k hk hl => ⟨hk.1, setRow_other _ _ _ _ hk.2⟩)
              refine ⟨w4.heap.size, _, hh, _, ho, _, dn, rfl, hb9, setRow_heap _ _ _ _ _ (0, 0) k9, hEF, ⟨_, _, _, rfl⟩, hbF⟩
            · intro K' hK
              rw [if_pos (by rfl)]
              go_simp
              have h4 : ActC (wd.alloc (.cells zw8 81)) b0 (o0 + k * 2) x ∧ Below wr.heap.size wr (wd.alloc (.cells zw8 81)) := ⟨h0.1.below ((Below.refl _ _).alloc (Nat.le_refl _) _), below_join h0.2 ((Below.refl _ _).alloc (Nat.le_refl _) _)⟩
              refine hK.out _ _ h4 (fun _ => ?_)
              try dsimp [Act.put]
              try simp only [List.setIfInBounds_toArray, List.set_cons_succ, List.set_cons_zero]
              refine wpAnyH_ready (rs := [12]) (by kernel_rfl) (by simp) ?_
              refine AllReadyH.cons rfl ?_ AllReadyH.nil
              intro K' hK
              rw [if_pos (by rfl)]
              go_simp
              refine (hGo _ (HE0.out.keep (fun k hk hl => ⟨⟨hk, hl⟩, h4.2.block k hl⟩))).mono ?_
              rintro e w4 ⟨hb4, tv, hh, lv, ho, trv, dn, an, rfl, rfl, ⟨t1, t2, t3, rfl⟩, ⟨l1, l2, l3, rfl⟩, hE4⟩
              obtain ⟨y1, y2, y3, rfl⟩ := ents_slice hE4
              have hE5 : EntsF (fun k => ¬ MineT tb F k ∧ k ≠ wd.heap.size) w4 (.slice y1 y2 y3) (treeB L (actR L (pickI x.kind) x.way)) := hE4.keep (fun k hk hl => ⟨by rcases hk with ⟨hk, hk2⟩ | hk; exact ⟨hk, by have := h0.2.size; omega⟩; exact ⟨HO.out.t.not_mine (Nat.le_trans h0.2.size (by simp at hk; omega)), by simp at hk; omega⟩, rfl⟩)
              have h5 : ActC w4 b0 (o0 + k * 2) x ∧ Below wr.heap.size wr w4 := ⟨h4.1.below hb4, below_join h4.2 hb4⟩
              refine hK.out _ _ h5 (fun _ => ?_)
              try dsimp [Act.put]
              try simp only [List.setIfInBounds_toArray, List.set_cons_succ, List.set_cons_zero]
              refine wpAnyH_ready (rs := [14]) (by kernel_rfl) (by simp) ?_
              refine AllReadyH.cons rfl ?_ AllReadyH.nil
              intro K' hK
              rw [if_pos (by rfl)]
              have k9 : (w4).heap[wd.heap.size]? = some (.cells zw8 81 (0, 0)) := (hb4.block _ (by simp)).trans (World.alloc_heap_new wd _)
              have hb9 : wr.heap.size ≤ wd.heap.size := h0.2.size
              refine wp_store_row 81 (.tmp 9) (.tmp 43) rfl (wd.heap.size) (wk8 (.slice y1 y2 y3) hh (.slice l1 l2 l3) ho (.slice t1 t2 t3) dn (ansB (actR L (pickI x.kind) x.way)) (actR L (pickI x.kind) x.way).1) rfl rfl 81 zw8 k9 (info_w8 _ rfl) rfl (one_w8 _ _ _ _ _ _ _ _ _ _ _ _ _ _) ?_
              have hbF : Below wr.heap.size wr ((w4).setRow (wd.heap.size) (wk8 (.slice y1 y2 y3) hh (.slice l1 l2 l3) ho (.slice t1 t2 t3) dn (ansB (actR L (pickI x.kind) x.way)) (actR L (pickI x.kind) x.way).1)) := below_setRow' h5.2 hb9 _
              refine hK.out _ _ ⟨(HA.out _ (below_join HO.out.b hbF) k x HX.out), hbF⟩ (fun _ => ?_)
              try dsimp [Act.put]
              try simp only [List.setIfInBounds_toArray, List.set_cons_succ, List.set_cons_zero]
              refine wpAnyH_done (by kernel_rfl) ?_ _
              refine NoPanic.normal ?_
              go_wp2
              go_meet
              have hEF : EntsF (fun k => ¬ MineT tb F k) ((w4).setRow (wd.heap.size) (wk8 (.slice y1 y2 y3) hh (.slice l1 l2 l3) ho (.slice t1 t2 t3) dn (ansB (actR L (pickI x.kind) x.way)) (actR L (pickI x.kind) x.way).1)) (.slice y1 y2 y3) (treeB L (actR L (pickI x.kind) x.way)) := hE5.keep (fun k hk hl => ⟨hk.1, setRow_other _ _ _ _ hk.2⟩)
              refine ⟨wd.heap.size, _, hh, _, ho, _, dn, rfl, hb9, setRow_heap _ _ _ _ _ (0, 0) k9, hEF, ⟨_, _, _, rfl⟩, hbF⟩
          · intro K' hK
            rw [if_pos (by rfl)]
            go_simp
            have h4 : ActC (wd.alloc (.cells zw8 81)) b0 (o0 + k * 2) x ∧ Below wr.heap.size wr (wd.alloc (.cells zw8 81)) := ⟨h0.1.below ((Below.refl _ _).alloc (Nat.le_refl _) _), below_join h0.2 ((Below.refl _ _).alloc (Nat.le_refl _) _)⟩
            refine hK.out _ _ h4 (fun _ => ?_)
            try dsimp [Act.put]
            try simp only [List.setIfInBounds_toArray, List.set_cons_succ, List.set_cons_zero]
            refine wpAnyH_ready (rs := [11]) (by kernel_rfl) (by simp) ?_
            refine AllReadyH.cons rfl ?_ AllReadyH.nil
            intro K' hK
            rw [if_pos (by rfl)]
            go_simp
            refine (hP _).mono ?_
            rintro e w3 ⟨rfl, hw3⟩
            replace hw3 := hw3.symm
            subst hw3
            refine hK.out _ _ h4 (fun _ => ?_)
            try dsimp [Act.put]
            try simp only [List.setIfInBounds_toArray, List.set_cons_succ, List.set_cons_zero]
            refine wpAnyH_ready (rs := [12]) (by kernel_rfl) (by simp) ?_
            refine AllReadyH.cons rfl ?_ AllReadyH.nil
            intro K' hK
            rw [if_pos (by rfl)]
            go_simp
            refine (hGo _ (HE0.out.keep (fun k hk hl => ⟨⟨hk, hl⟩, h4.2.block k hl⟩))).mono ?_
            rintro e w4 ⟨hb4, tv, hh, lv, ho, trv, dn, an, rfl, rfl, ⟨t1, t2, t3, rfl⟩, ⟨l1, l2, l3, rfl⟩, hE4⟩
            obtain ⟨y1, y2, y3, rfl⟩ := ents_slice hE4
            have hE5 : EntsF (fun k => ¬ MineT tb F k ∧ k ≠ wd.heap.size) w4 (.slice y1 y2 y3) (treeB L (actR L (pickI x.kind) x.way)) := hE4.keep (fun k hk hl => ⟨by rcases hk with ⟨hk, hk2⟩ | hk; exact ⟨hk, by have := h0.2.size; omega⟩; exact ⟨HO.out.t.not_mine (Nat.le_trans h0.2.size (by simp at hk; omega)), by simp at hk; omega⟩, rfl⟩)
            have h5 : ActC w4 b0 (o0 + k * 2) x ∧ Below wr.heap.size wr w4 := ⟨h4.1.below hb4, below_join h4.2 hb4⟩
            refine hK.out _ _ h5 (fun _ => ?_)
            try dsimp [Act.put]
            try simp only [List.setIfInBounds_toArray, List.set_cons_succ, List.set_cons_zero]
            refine wpAnyH_ready (rs := [14]) (by kernel_rfl) (by simp) ?_
            refine AllReadyH.cons rfl ?_ AllReadyH.nil
            intro K' hK
            rw [if_pos (by rfl)]
            have k9 : (w4).heap[wd.heap.size]? = some (.cells zw8 81 (0, 0)) := (hb4.block _ (by simp)).trans (World.alloc_heap_new wd _)
            have hb9 : wr.heap.size ≤ wd.heap.size := h0.2.size
            refine wp_store_row 81 (.tmp 9) (.tmp 43) rfl (wd.heap.size) (wk8 (.slice y1 y2 y3) hh (.slice l1 l2 l3) ho (.slice t1 t2 t3) dn (ansB (actR L (pickI x.kind) x.way)) (actR L (pickI x.kind) x.way).1) rfl rfl 81 zw8 k9 (info_w8 _ rfl) rfl (one_w8 _ _ _ _ _ _ _ _ _ _ _ _ _ _) ?_
            have hbF : Below wr.heap.size wr ((w4).setRow (wd.heap.size) (wk8 (.slice y1 y2 y3) hh (.slice l1 l2 l3) ho (.slice t1 t2 t3) dn (ansB (actR L (pickI x.kind) x.way)) (actR L (pickI x.kind) x.way).1)) := below_setRow' h5.2 hb9 _
            refine hK.out _ _ ⟨(HA.out _ (below_join HO.out.b hbF) k x HX.out), hbF⟩ (fun _ => ?_)
            try dsimp [Act.put]
            try simp only [List.setIfInBounds_toArray, List.set_cons_succ, List.set_cons_zero]
            refine wpAnyH_done (by kernel_rfl) ?_ _
            refine NoPanic.normal ?_
            go_wp2
            go_meet
            have hEF : EntsF (fun k => ¬ MineT tb F k) ((w4).setRow (wd.heap.size) (wk8 (.slice y1 y2 y3) hh (.slice l1 l2 l3) ho (.slice t1 t2 t3) dn (ansB (actR L (pickI x.kind) x.way)) (actR L (pickI x.kind) x.way).1)) (.slice y1 y2 y3) (treeB L (actR L (pickI x.kind) x.way)) := hE5.keep (fun k hk hl => ⟨hk.1, setRow_other _ _ _ _ hk.2⟩)
            refine ⟨wd.heap.size, _, hh, _, ho, _, dn, rfl, hb9, setRow_heap _ _ _ _ _ (0, 0) k9, hEF, ⟨_, _, _, rfl⟩, hbF⟩
        case rest =>
          obtain ⟨b9, tv, hh, lv, ho, trv, dn, rfl, hb9, k9, hEF, ⟨y1, y2, y3, rfl⟩, hbx⟩ := hcut
          have O2 := HO.out.below hbx
          obtain ⟨c0, c1⟩ := HA.out wc O2.b k x HX.out
          have HEF : Hid (EntsF (fun k => ¬ MineT tb F k) wc (.slice y1 y2 y3) (treeB L (actR L (pickI x.kind) x.way))) := hEF
          have HNM : Hid (¬ MineT tb F b9) := HO.out.t.not_mine hb9
          have HK9 : Hid (wc.heap[b9]? = some (.cells (wk8 (.slice y1 y2 y3) hh lv ho trv dn (ansB (actR L (pickI x.kind) x.way)) (actR L (pickI x.kind) x.way).1) 81 (0, 0))) := k9
          have hC := asked_p x.kind x.way L wc O2.t (by omega)
          have HR : Hid ((actR L (pickI x.kind) x.way).1 = 0 ∨ (1 ≤ (actR L (pickI x.kind) x.way).1 ∧ (actR L (pickI x.kind) x.way).1 ≤ 32)) := act_nums L (pickI x.kind) x.way
          clear hEF k9 hGo hP HO HFR
          generalize actR L (pickI x.kind) x.way = r at *
          generalize hans : ansB r = an at *
          clear hans
          generalize hno : r.1 = no at *
          generalize htr : treeB L r = L' at *
          clear hno htr
          go_wp2_with fail
          with_reducible refine hC.mono ?_
          rintro e w5 ⟨rfl, F5, hT5, hr5⟩
          have O5 := O2.rnd hT5 hr5
          have HE5 : Hid (EntsF (fun k => ¬ MineT tb F5 k) w5 (.slice y1 y2 y3) L') := entsF_rnd HEF.out hr5
          have hl9 : b9 < wc.heap.size := (Array.getElem?_eq_some_iff.1 HK9.out).1
          have k95 : w5.heap[b9]? = some (.cells (wk8 (.slice y1 y2 y3) hh lv ho trv dn an no) 81 (0, 0)) := (hr5.same b9 hl9 HNM.out).trans HK9.out
          have HNM5 : Hid (¬ MineT tb F5 b9) := fun hm => by
            rcases hr5.more b9 hm with h1 | h1
            · exact HNM.out h1
            · omega
          clear hC O2 hT5 hr5 HEF HK9 HNM c0 c1 hl9 hbx
          generalize her : errE no = er at *
          go_upto_region 10 with fail
          go_cut [71] (fun s wx => s = .bool false ∧ Below w5.heap.size w5 wx)
          case first =>
            refine wp_region_noPanic ?_
            refine wp_region_held_drew (S := fun W => W.heap[b9]? = some (.cells (wk8 (.slice y1 y2 y3) hh lv ho trv dn an no) 81 (0, 0)) ∧ Below w5.heap.size w5 W) (by kernel_rfl) ⟨k95, below_drewN (Below.refl _ _) 1⟩ (fun h0 => ?_)
            generalize hwd : w5.drew = wd at *
            clear hwd
            have hl95 : b9 < w5.heap.size := (Array.getElem?_eq_some_iff.1 k95).1
            refine wpAnyH_take (i := 0) (v := .string an) rfl (by kernel_rfl) (by kernel_rfl) (by kernel_rfl) (fun _ _ _ h => h) (Or.inl ⟨by rfl, fun w hSw => by obtain ⟨s1, s2⟩ := hSw; have q0 := w8_cells (j := 0) s1 rfl; have q6 := w8_cells (j := 6) s1 rfl; have q7 := w8_cells (j := 7) s1 rfl; simp only [List.getElem_toArray, List.getElem_cons_zero, List.getElem_cons_succ] at q0 q6 q7; go_simp <;> first | omega | rfl⟩) h0 ?_
            try dsimp [Act.put]
            try simp only [List.setIfInBounds_toArray, List.set_cons_succ, List.set_cons_zero]
            refine wpAnyH_take (i := 1) (v := (.pointer (some ⟨b9, 6, none⟩))) rfl (by kernel_rfl) (by kernel_rfl) (by kernel_rfl) (fun _ _ _ h => h) (Or.inl ⟨by rfl, fun w hSw => by obtain ⟨s1, s2⟩ := hSw; have q0 := w8_cells (j := 0) s1 rfl; have q6 := w8_cells (j := 6) s1 rfl; have q7 := w8_cells (j := 7) s1 rfl; simp only [List.getElem_toArray, List.getElem_cons_zero, List.getElem_cons_succ] at q0 q6 q7; go_simp <;> first | omega | rfl⟩) h0 ?_
            try dsimp [Act.put]
            try simp only [List.setIfInBounds_toArray, List.set_cons_succ, List.set_cons_zero]
            refine wpAnyH_take (i := 2) (v := .string an) rfl (by kernel_rfl) (by kernel_rfl) (by kernel_rfl) (fun _ _ _ h => h) (Or.inl ⟨by rfl, fun w hSw => by obtain ⟨s1, s2⟩ := hSw; have q0 := w8_cells (j := 0) s1 rfl; have q6 := w8_cells (j := 6) s1 rfl; have q7 := w8_cells (j := 7) s1 rfl; simp only [List.getElem_toArray, List.getElem_cons_zero, List.getElem_cons_succ] at q0 q6 q7; go_simp <;> first | omega | rfl⟩) h0 ?_
            try dsimp [Act.put]
            try simp only [List.setIfInBounds_toArray, List.set_cons_succ, List.set_cons_zero]
            refine wpAnyH_take (i := 3) (v := .bool false) rfl (by kernel_rfl) (by kernel_rfl) (by kernel_rfl) (fun _ _ _ h => h) (Or.inl ⟨by rfl, fun w hSw => by obtain ⟨s1, s2⟩ := hSw; have q0 := w8_cells (j := 0) s1 rfl; have q6 := w8_cells (j := 6) s1 rfl; have q7 := w8_cells (j := 7) s1 rfl; simp only [List.getElem_toArray, List.getElem_cons_zero, List.getElem_cons_succ] at q0 q6 q7; go_simp <;> first | omega | rfl⟩) h0 ?_
            try dsimp [Act.put]
            try simp only [List.setIfInBounds_toArray, List.set_cons_succ, List.set_cons_zero]
            refine wpAnyH_take (i := 4) (v := .bool false) rfl (by kernel_rfl) (by kernel_rfl) (by kernel_rfl) (fun _ _ _ h => h) (Or.inl ⟨by rfl, fun w hSw => by obtain ⟨s1, s2⟩ := hSw; have q0 := w8_cells (j := 0) s1 rfl; have q6 := w8_cells (j := 6) s1 rfl; have q7 := w8_cells (j := 7) s1 rfl; simp only [List.getElem_toArray, List.getElem_cons_zero, List.getElem_cons_succ] at q0 q6 q7; go_simp <;> first | omega | rfl⟩) h0 ?_
            try dsimp [Act.put]
            try simp only [List.setIfInBounds_toArray, List.set_cons_succ, List.set_cons_zero]
            refine wpAnyH_take (i := 5) (v := er) rfl (by kernel_rfl) (by kernel_rfl) (by kernel_rfl) (fun _ _ _ h => h) (Or.inl ⟨by rfl, fun w hSw => by obtain ⟨s1, s2⟩ := hSw; have q0 := w8_cells (j := 0) s1 rfl; have q6 := w8_cells (j := 6) s1 rfl; have q7 := w8_cells (j := 7) s1 rfl; simp only [List.getElem_toArray, List.getElem_cons_zero, List.getElem_cons_succ] at q0 q6 q7; go_simp <;> first | omega | rfl⟩) h0 ?_
            try dsimp [Act.put]
            try simp only [List.setIfInBounds_toArray, List.set_cons_succ, List.set_cons_zero]
            refine wpAnyH_take (i := 6) (v := (.pointer (some ⟨b9, 7, none⟩))) rfl (by kernel_rfl) (by kernel_rfl) (by kernel_rfl) (fun _ _ _ h => h) (Or.inl ⟨by rfl, fun w hSw => by obtain ⟨s1, s2⟩ := hSw; have q0 := w8_cells (j := 0) s1 rfl; have q6 := w8_cells (j := 6) s1 rfl; have q7 := w8_cells (j := 7) s1 rfl; simp only [List.getElem_toArray, List.getElem_cons_zero, List.getElem_cons_succ] at q0 q6 q7; go_simp <;> first | omega | rfl⟩) h0 ?_
            try dsimp [Act.put]
            try simp only [List.setIfInBounds_toArray, List.set_cons_succ, List.set_cons_zero]
            refine wpAnyH_take (i := 7) (v := .int .i64 no) rfl (by kernel_rfl) (by kernel_rfl) (by kernel_rfl) (fun _ _ _ h => h) (Or.inl ⟨by rfl, fun w hSw => by obtain ⟨s1, s2⟩ := hSw; have q0 := w8_cells (j := 0) s1 rfl; have q6 := w8_cells (j := 6) s1 rfl; have q7 := w8_cells (j := 7) s1 rfl; simp only [List.getElem_toArray, List.getElem_cons_zero, List.getElem_cons_succ] at q0 q6 q7; go_simp <;> first | omega | rfl⟩) h0 ?_
            try dsimp [Act.put]
            try simp only [List.setIfInBounds_toArray, List.set_cons_succ, List.set_cons_zero]
            refine wpAnyH_ready (rs := [8]) (by kernel_rfl) (by simp) ?_
            refine AllReadyH.cons rfl ?_ AllReadyH.nil
            intro K' hK
            rw [if_pos (by rfl)]
            go_simp
            rw [← her]
            refine (plain_any no HR.out _ (HG.out _ (below_join O5.b h0.2))).mono ?_
            rintro e w6 ⟨rfl, hb6⟩
            rw [her]
            have h6 : w6.heap[b9]? = some (.cells (wk8 (.slice y1 y2 y3) hh lv ho trv dn an no) 81 (0, 0)) ∧ Below w5.heap.size w5 w6 := ⟨(hb6.block b9 (Nat.lt_of_lt_of_le hl95 h0.2.size)).trans h0.1, below_join h0.2 hb6⟩
            refine hK.out _ _ h6 (fun _ => ?_)
            try dsimp [Act.put]
            try simp only [List.setIfInBounds_toArray, List.set_cons_succ, List.set_cons_zero]
            refine wpAnyH_take (i := 9) (v := .bool false) rfl (by kernel_rfl) (by kernel_rfl) (by kernel_rfl) (fun _ _ _ h => h) (Or.inl ⟨by rfl, fun w hSw => by obtain ⟨s1, s2⟩ := hSw; have q0 := w8_cells (j := 0) s1 rfl; have q6 := w8_cells (j := 6) s1 rfl; have q7 := w8_cells (j := 7) s1 rfl; simp only [List.getElem_toArray, List.getElem_cons_zero, List.getElem_cons_succ] at q0 q6 q7; go_simp <;> first | omega | rfl⟩) h6 ?_
            try dsimp [Act.put]
            try simp only [List.setIfInBounds_toArray, List.set_cons_succ, List.set_cons_zero]
            refine wpAnyH_take (i := 10) (v := .bool false) rfl (by kernel_rfl) (by kernel_rfl) (by kernel_rfl) (fun _ _ _ h => h) (Or.inl ⟨by rfl, fun w hSw => by obtain ⟨s1, s2⟩ := hSw; have q0 := w8_cells (j := 0) s1 rfl; have q6 := w8_cells (j := 6) s1 rfl; have q7 := w8_cells (j := 7) s1 rfl; simp only [List.getElem_toArray, List.getElem_cons_zero, List.getElem_cons_succ] at q0 q6 q7; go_simp <;> first | omega | rfl⟩) h6 ?_
            try dsimp [Act.put]
            try simp only [List.setIfInBounds_toArray, List.set_cons_succ, List.set_cons_zero]
            refine wpAnyH_take (i := 11) (v := .bool false) rfl (by kernel_rfl) (by kernel_rfl) (by kernel_rfl) (fun _ _ _ h => h) (Or.inl ⟨by rfl, fun w hSw => by obtain ⟨s1, s2⟩ := hSw; have q0 := w8_cells (j := 0) s1 rfl; have q6 := w8_cells (j := 6) s1 rfl; have q7 := w8_cells (j := 7) s1 rfl; simp only [List.getElem_toArray, List.getElem_cons_zero, List.getElem_cons_succ] at q0 q6 q7; go_simp <;> first | omega | rfl⟩) h6 ?_
            try dsimp [Act.put]
            try simp only [List.setIfInBounds_toArray, List.set_cons_succ, List.set_cons_zero]
            refine wpAnyH_take (i := 12) (v := .pointer (some ⟨tb, 0, none⟩)) rfl (by kernel_rfl) (by kernel_rfl) (by kernel_rfl) (fun _ _ _ h => h) (Or.inl ⟨by rfl, fun w hSw => by obtain ⟨s1, s2⟩ := hSw; have q0 := w8_cells (j := 0) s1 rfl; have q6 := w8_cells (j := 6) s1 rfl; have q7 := w8_cells (j := 7) s1 rfl; simp only [List.getElem_toArray, List.getElem_cons_zero, List.getElem_cons_succ] at q0 q6 q7; go_simp <;> first | omega | rfl⟩) h6 ?_
            try dsimp [Act.put]
            try simp only [List.setIfInBounds_toArray, List.set_cons_succ, List.set_cons_zero]
            refine wpAnyH_take (i := 14) (v := (.pointer (some ⟨b9, 0, none⟩))) rfl (by kernel_rfl) (by kernel_rfl) (by kernel_rfl) (fun _ _ _ h => h) (Or.inl ⟨by rfl, fun w hSw => by obtain ⟨s1, s2⟩ := hSw; have q0 := w8_cells (j := 0) s1 rfl; have q6 := w8_cells (j := 6) s1 rfl; have q7 := w8_cells (j := 7) s1 rfl; simp only [List.getElem_toArray, List.getElem_cons_zero, List.getElem_cons_succ] at q0 q6 q7; go_simp <;> first | omega | rfl⟩) h6 ?_
            try dsimp [Act.put]
            try simp only [List.setIfInBounds_toArray, List.set_cons_succ, List.set_cons_zero]
            refine wpAnyH_take (i := 15) (v := .slice y1 y2 y3) rfl (by kernel_rfl) (by kernel_rfl) (by kernel_rfl) (fun _ _ _ h => h) (Or.inl ⟨by rfl, fun w hSw => by obtain ⟨s1, s2⟩ := hSw; have q0 := w8_cells (j := 0) s1 rfl; have q6 := w8_cells (j := 6) s1 rfl; have q7 := w8_cells (j := 7) s1 rfl; simp only [List.getElem_toArray, List.getElem_cons_zero, List.getElem_cons_succ] at q0 q6 q7; go_simp <;> first | omega | rfl⟩) h6 ?_
            try dsimp [Act.put]
            try simp only [List.setIfInBounds_toArray, List.set_cons_succ, List.set_cons_zero]
            refine wpAnyH_ready (rs := [13]) (by kernel_rfl) (by simp) ?_
            refine AllReadyH.cons rfl ?_ AllReadyH.nil
            intro K' hK
            rw [if_pos (by rfl)]
            go_simp
            refine (list_p tb tbase F5 L' _ (O5.t.below h6.2)).mono ?_
            rintro e w7 ⟨u7', rfl, hu7, hb7⟩
            have h7 : w7.heap[b9]? = some (.cells (wk8 (.slice y1 y2 y3) hh lv ho trv dn an no) 81 (0, 0)) ∧ Below w5.heap.size w5 w7 := ⟨(hb7.block b9 (Nat.lt_of_lt_of_le hl95 h6.2.size)).trans h6.1, below_join h6.2 hb7⟩
            refine hK.out _ _ h7 (fun _ => ?_)
            try dsimp [Act.put]
            try simp only [List.setIfInBounds_toArray, List.set_cons_succ, List.set_cons_zero]
            refine wpAnyH_ready (rs := [16]) (by kernel_rfl) (by simp) ?_
            refine AllReadyH.cons rfl ?_ AllReadyH.nil
            intro K' hK
            rw [if_pos (by rfl)]
            go_simp
            refine (same_p u7' (.slice y1 y2 y3) L' _ (ents_of_owns hu7) (HE5.out.below h7.2).ents (by have := O5.t.few; omega)).mono ?_
            rintro e w8 ⟨rfl, hb8⟩
            have h8 : w8.heap[b9]? = some (.cells (wk8 (.slice y1 y2 y3) hh lv ho trv dn an no) 81 (0, 0)) ∧ Below w5.heap.size w5 w8 := ⟨(hb8.block b9 (Nat.lt_of_lt_of_le hl95 h7.2.size)).trans h7.1, below_join h7.2 hb8⟩
            refine hK.out _ _ h8 (fun _ => ?_)
            try dsimp [Act.put]
            try simp only [List.setIfInBounds_toArray, List.set_cons_succ, List.set_cons_zero]
            refine wpAnyH_take (i := 17) (v := .bool false) rfl (by kernel_rfl) (by kernel_rfl) (by kernel_rfl) (fun _ _ _ h => h) (Or.inl ⟨by rfl, fun w hSw => by obtain ⟨s1, s2⟩ := hSw; have q0 := w8_cells (j := 0) s1 rfl; have q6 := w8_cells (j := 6) s1 rfl; have q7 := w8_cells (j := 7) s1 rfl; simp only [List.getElem_toArray, List.getElem_cons_zero, List.getElem_cons_succ] at q0 q6 q7; go_simp <;> first | omega | rfl⟩) h8 ?_
            try dsimp [Act.put]
            try simp only [List.setIfInBounds_toArray, List.set_cons_succ, List.set_cons_zero]
            refine wpAnyH_take (i := 18) (v := .bool false) rfl (by kernel_rfl) (by kernel_rfl) (by kernel_rfl) (fun _ _ _ h => h) (Or.inl ⟨by rfl, fun w hSw => by obtain ⟨s1, s2⟩ := hSw; have q0 := w8_cells (j := 0) s1 rfl; have q6 := w8_cells (j := 6) s1 rfl; have q7 := w8_cells (j := 7) s1 rfl; simp only [List.getElem_toArray, List.getElem_cons_zero, List.getElem_cons_succ] at q0 q6 q7; go_simp <;> first | omega | rfl⟩) h8 ?_
            try dsimp [Act.put]
            try simp only [List.setIfInBounds_toArray, List.set_cons_succ, List.set_cons_zero]
            refine wpAnyH_done (by kernel_rfl) ?_ _
            refine NoPanic.normal ?_
            go_wp2
            go_meet
            exact ⟨rfl, h8.2⟩
          case rest =>
            obtain ⟨rfl, hb8⟩ := hcut
            have O8 := O5.below hb8
            have HE8 := HE5.out.below hb8
            have k98 : wc.heap[b9]? = some (.cells (wk8 (.slice y1 y2 y3) hh lv ho trv dn an no) 81 (0, 0)) := (hb8.block b9 (Array.getElem?_eq_some_iff.1 k95).1).trans k95
            have q0 : wc.cell? ⟨b9, 0, none⟩ = some (.slice y1 y2 y3) := w8_cells (j := 0) k98 rfl
            clear O5 HE5 k95 k98 hb8
            go_wp2
            go_roundw
            case rel => exact ⟨k + 1, F5, L', by go_num, by omega, O8, HE8⟩
            case measure => simp [intOf]; omega
      · have h100' : ¬ (k : Int) < 100 := by omega
        have hlt' : (k : Int) < (al.length : Int) := by omega
        go_wp2_with (go_at_call 31; refine (works_r _ (HG.out _ HO.out.b)).mono ?_; rintro e w6 ⟨rfl, hb6⟩)
        go_ret
        exact ⟨rfl, (HO.out.below hb6).b⟩
    · have hge : ¬ (k : Int) < (al.length : Int) := by omega
      go_wp2_with (go_at_call 31; refine (works_r _ (HG.out _ HO.out.b)).mono ?_; rintro e w6 ⟨rfl, hb6⟩)
      go_ret
      exact ⟨rfl, (HO.out.below hb6).b⟩
set_option maxRecDepth 100000 in
set_option maxHeartbeats 4000000 in
theorem rpl_no (v u : Value) (es : List Ent) (w : World) (hg : ErrType w) (hv : EntsAt w v es) (hl : es.length ≤ 1073741824) (hp : ∀ e ∈ es, e.path.size < 1152921504606846976) (hc : (checkGo [] es).1 ≠ 0) :
    Calls Tryz.prog 16 #[v, u] w fun e w' => e = .returned (.bool true) ∧ Below w.heap.size w w' := by
  have hO := ofl_no v es w hg hv hl hp hc
  clear hc
  go_enter Tryz.func16, Tryz.ntmps16
  go_wp2_with (first | (go_at_call 6; refine hO.mono ?_; rintro e w1 ⟨hb1, rfl⟩) | (go_at_call 31; refine (works_r _ (hg.below hb1)).mono ?_; rintro e w2 ⟨rfl, hb2⟩))
  go_ret
  exact ⟨rfl, below_join hb1 hb2⟩
theorem resolveplays_law (v u : Value) (es : List Ent) (al : List Act8) (w : World) (hg : ErrType w) (hv : EntsAt w v es) (hu : ActsAt w u al) (hl : es.length ≤ 1073741824) (hp : ∀ e ∈ es, e.path.size < 1152921504606846976) (hz : ∀ a ∈ al, a.way.size ≤ 1073741824) :
    Calls Tryz.prog 16 #[v, u] w fun e w' => e = .returned (.bool true) ∧ Below w.heap.size w w' := by
  by_cases hc : (checkGo [] es).1 = 0
  · exact rpl_ok v u es al w hg hv hu hl hp hz hc
  · exact rpl_no v u es w hg hv hl hp hc
end Go.Proofs.YtcefgnjgcnboeaaGreatDoor
