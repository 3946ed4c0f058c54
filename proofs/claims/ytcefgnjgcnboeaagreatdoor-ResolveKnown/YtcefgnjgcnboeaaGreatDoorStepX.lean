/- step, where something is there, and where what is not there is refused. -/
import Derived.Test.YtcefgnjgcnboeaaGreatDoorRsM

namespace Go.Proofs.YtcefgnjgcnboeaaGreatDoor
open Go Go.RowKit Go.Shelf

theorem KidsAt.keep {P : Program} {k : TypeId} {W W' : World} {m n : Nat} {f : List UInt8 → Option Nat} (h : KidsAt W P k m n f) (he : W'.heap[m]? = W.heap[m]?) : KidsAt W' P k m n f := by
  obtain ⟨D, ⟨es, c, e1, rest⟩, g2⟩ := h
  exact ⟨D, ⟨es, c, he.trans e1, rest⟩, g2⟩
theorem TreeOf.keep {W W' : World} {tb base : Nat} {F : Pic} {L : List Ent} (h : TreeOf W tb base F L) (hk : ∀ k, MineT tb F k → W'.heap[k]? = W.heap[k]?) : TreeOf W' tb base F L := by
  refine ⟨⟨h.at'.from', ?_, ⟨fun ns x hx => ⟨(h.at'.tree.node ns x hx).1, (hk x.b (.inr ⟨ns, x, hx, .inl rfl⟩)).trans (h.at'.tree.node ns x hx).2⟩, fun ns x m hx hm => ⟨(h.at'.tree.kids ns x m hx hm).1, (h.at'.tree.kids ns x m hx hm).2.keep (hk m (.inr ⟨ns, x, hx, .inr hm⟩))⟩, h.at'.tree.leaf, h.at'.tree.gone, h.at'.tree.apart⟩, h.at'.kinds⟩, h.says, h.right, h.few, h.light⟩
  obtain ⟨rt, m, h1, h2, h3⟩ := h.at'.root
  exact ⟨rt, m, h1, h2, (hk tb (.inl rfl)).trans h3⟩
theorem TreeOf.mine_lt {W : World} {tb base : Nat} {F : Pic} {L : List Ent} (h : TreeOf W tb base F L) {k : Nat} (hk : MineT tb F k) : k < W.heap.size := Nat.lt_of_not_le (fun hn => h.not_mine hn hk)

/-- A walk, and the tree that it goes over. -/
structure Wk (W : World) (wb : Nat) (ab pas : Value) (m : Mn) (tb tbase : Nat) (F : Pic) (st : St) (lv mv : Value) : Prop where
  walk : WalkAt W wb ab pas m tb st.here st.left st.hops st.made lv mv
  tree : TreeOf W tb tbase F st.L
  apart : ∀ k, walkS wb lv mv k → ¬ MineT tb F k
/-- What a walk may write: its own blocks; those of the tree, where it lays something. -/
def mayS (m : Mn) (wb tb : Nat) (F : Pic) (lv mv : Value) (k : Nat) : Prop := walkS wb lv mv k ∨ (m.ab ≠ 0 ∧ MineT tb F k)
variable {W W' : World} {wb : Nat} {ab pas : Value} {m : Mn} {tb tbase : Nat} {F : Pic} {st : St} {lv mv lv' mv' : Value}
theorem Wk.below (h : Wk W wb ab pas m tb tbase F st lv mv) (hb : Below W.heap.size W W') : Wk W' wb ab pas m tb tbase F st lv mv := ⟨h.walk.below hb, h.tree.below hb, h.apart⟩
/-- The walk alone is written. -/
theorem Wk.walked (h : Wk W wb ab pas m tb tbase F st lv mv) {here : ByteArray} {left : List ByteArray} {hops : Nat} {made : List ByteArray} (hw : WalkAt W' wb ab pas m tb here left hops made lv' mv') (hr : Rnd (walkS wb lv mv) (walkS wb lv' mv') W W') :
    Wk W' wb ab pas m tb tbase F { L := st.L, here := here, left := left, hops := hops, made := made } lv' mv' ∧ Rnd (mayS m wb tb F lv mv) (mayS m wb tb F lv' mv') W W' := by
  refine ⟨⟨hw, h.tree.keep (fun k hk => hr.same k (h.tree.mine_lt hk) (fun e => h.apart k e hk)), fun k hk hm => ?_⟩, ⟨hr.os, hr.tape, hr.output, hr.size, fun k hk hn => hr.same k hk (fun e => hn (.inl e)), fun k hk => ?_⟩⟩
  · rcases hr.more k hk with h1 | h1
    · exact h.apart k h1 hm
    · have := h.tree.mine_lt hm; omega
  · rcases hk with hk | hk
    · rcases hr.more k hk with h1 | h1
      · exact .inl (.inl h1)
      · exact .inr h1
    · exact .inl (.inr hk)
theorem may_below (hb : Below W.heap.size W W') : Rnd (mayS m wb tb F lv mv) (mayS m wb tb F lv mv) W W' := Rnd.of_below hb

theorem follow_12 (s : ByteArray) (w : World) (h : Wk w wb ab pas m tb tbase F st lv mv) (h40 : st.hops = 40) :
    Calls Tryz.prog 73 #[.pointer (some ⟨wb, 0, none⟩), .string s] w fun e w' => e = .returned (errE 12) ∧ Below w.heap.size w w' := by
  obtain ⟨_, _, _, _, _, c5, _, c7, _⟩ := h.walk.cs
  rw [h40] at c7
  clear h40
  go_enter Tryz.func73, Tryz.ntmps73
  go_wp2
  go_ret
  exact ⟨rfl, Below.refl _ _⟩
/-- Where a link leads from. -/
def hereL (st : St) (s : ByteArray) : ByteArray := if slashed s then ⟨#[]⟩ else st.here
theorem follow_0 (s : ByteArray) (w : World) (h : Wk w wb ab pas m tb tbase F st lv mv) (hs : s.size ≤ 100) (hl : st.left.length ≤ 2199023255552) (hh : st.hops ≤ 40) (h40 : st.hops ≠ 40) :
    Calls Tryz.prog 73 #[.pointer (some ⟨wb, 0, none⟩), .string s] w fun e w' => e = .returned .nilIface ∧ ∃ lv', Wk w' wb ab pas m tb tbase F { st with here := hereL st s, left := namesB s ++ st.left, hops := st.hops + 1 } lv' mv ∧ Rnd (mayS m wb tb F lv mv) (mayS m wb tb F lv' mv) w w' := by
  obtain ⟨_, _, _, _, _, c5, _, c7, _⟩ := h.walk.cs
  have hnl := names_len s
  have hne : decide ((st.hops : Int) = 40) = false := by simp; omega
  have hne' : ¬ (st.hops : Int) = 40 := by omega
  have f7 := wfroz h.walk.head 7
  have H : Hid (Wk w wb ab pas m tb tbase F st lv mv) := h
  have hw1 := h.walk.hops_set (st.hops + 1)
  have f5 := wfroz hw1.head 5
  obtain ⟨_, _, _, _, _, c5', _, _, _⟩ := hw1.cs
  have hR1 := rnd_set w wb 7 (.int .i64 ((st.hops + 1 : Nat) : Int)) (walkS wb lv mv) (.inl rfl)
  have hcast : ((st.hops + 1 : Nat) : Int) = (st.hops : Int) + 1 := by omega
  rw [hcast] at hw1 f5 c5' hR1
  cases hsl : Lib.hasPrefix s.data.toList [47] with
  | true =>
    have HS : Hid (hereL st s = ⟨#[]⟩) := if_pos hsl
    have hw2 := hw1.at_set ⟨#[]⟩
    have hR2 := hR1.trans (rnd_set _ wb 5 (.string ⟨#[]⟩) (walkS wb lv mv) (.inl rfl))
    have hA := ahead_p s _ hw2 (by omega) (by omega)
    clear hw1 hw2 h
    go_enter Tryz.func73, Tryz.ntmps73
    go_wp2_with (first | (go_at_call 97; refine (Tryz.strings_HasPrefix _ _ _).mono ?_; rintro e w1 ⟨rfl, hw1⟩; replace hw1 := hw1.symm; subst hw1; rw [show Lib.hasPrefix s.data.toList (ByteArray.mk #[47]).data.toList = true from hsl]) | (go_at_call 46; refine hA.mono ?_; rintro e w3 ⟨rfl, lv3, hw3, hR3⟩))
    go_ret
    have := H.out.walked hw3 (hR2.trans hR3)
    exact ⟨rfl, lv3, by rw [HS.out]; exact this.1, this.2⟩
  | false =>
    have HS : Hid (hereL st s = st.here) := if_neg (by unfold slashed; rw [show Lib.hasPrefix (un s) [47] = false from hsl]; simp)
    have hA := ahead_p s _ hw1 (by omega) (by omega)
    clear hw1 h
    go_enter Tryz.func73, Tryz.ntmps73
    go_wp2_with (first | (go_at_call 97; refine (Tryz.strings_HasPrefix _ _ _).mono ?_; rintro e w1 ⟨rfl, hw1⟩; replace hw1 := hw1.symm; subst hw1; rw [show Lib.hasPrefix s.data.toList (ByteArray.mk #[47]).data.toList = false from hsl]) | (go_at_call 46; refine hA.mono ?_; rintro e w3 ⟨rfl, lv3, hw3, hR3⟩))
    go_ret
    have := H.out.walked hw3 (hR1.trans hR3)
    exact ⟨rfl, lv3, by rw [HS.out]; exact this.1, this.2⟩
end Go.Proofs.YtcefgnjgcnboeaaGreatDoor

namespace Go.Proofs.YtcefgnjgcnboeaaGreatDoor
open Go Go.RowKit Go.Shelf

variable {wb : Nat} {ab pas : Value} {m : Mn} {tb tbase : Nat} {F : Pic} {st : St} {lv mv lv' mv' : Value}
theorem join_size (a b : ByteArray) : (joinB a b).size ≤ a.size + 1 + b.size := by
  unfold joinB
  split
  · omega
  · rw [ByteArray.size_append, ByteArray.size_append, show (ByteArray.mk #[47]).size = 1 from rfl]; omega
theorem lit_eq {c d : ByteArray} (h : c = d) : (c.toList == d.toList) = true := by rw [h]; simp
theorem lit_ne {c d : ByteArray} (h : c ≠ d) : (c.toList == d.toList) = false := by
  cases hh : (c.toList == d.toList) with
  | false => rfl
  | true => rw [beq_iff_eq, toList_un, toList_un] at hh; exact absurd (un_inj hh) h
set_option maxRecDepth 100000 in
theorem step_dot (w : World) : Calls Tryz.prog 48 #[.pointer (some ⟨wb, 0, none⟩), .string dotB] w fun e w' => e = .returned .nilIface ∧ w' = w := by
  unfold dotB
  go_enter Tryz.func48, Tryz.ntmps48
  go_wp2
  go_ret
  exact ⟨rfl, rfl⟩
set_option maxRecDepth 100000 in
theorem step_dd (w : World) (h : Wk w wb ab pas m tb tbase F st lv mv) (hs : st.here.size ≤ 255) : Calls Tryz.prog 48 #[.pointer (some ⟨wb, 0, none⟩), .string ddB] w fun e w' => e = .returned .nilIface ∧ Wk w' wb ab pas m tb tbase F { st with here := parentB st.here } lv mv ∧ Rnd (mayS m wb tb F lv mv) (mayS m wb tb F lv mv) w w' := by
  obtain ⟨_, _, _, _, _, c5, _, _, _⟩ := h.walk.cs
  have f5 := wfroz h.walk.head 5
  have H : Hid (Wk w wb ab pas m tb tbase F st lv mv) := h
  unfold ddB
  go_enter Tryz.func48, Tryz.ntmps48
  go_wp2_with (go_at_call 70; refine (parent_p _ _ (by omega)).mono ?_; rintro e w1 ⟨rfl, hw1⟩; replace hw1 := hw1.symm; subst hw1)
  go_ret
  have := H.out.walked (H.out.walk.at_set (parentB st.here)) (rnd_set w wb 5 _ _ (.inl rfl))
  exact ⟨rfl, this.1, this.2⟩
/-- What all that come by Get have. -/
structure Far (st : St) (c : ByteArray) : Prop where
  nd : c ≠ dotB
  ndd : c ≠ ddB
  hs : st.here.size ≤ 255
  cs : c.size ≤ 4398046511104
theorem ne_dot {c : ByteArray} (h : c ≠ dotB) : (c.toList == [46]) = false := by
  have := lit_ne (d := dotB) h
  rwa [show dotB.toList = [46] by rw [toList_un]; rfl] at this
theorem ne_dd {c : ByteArray} (h : c ≠ ddB) : (c.toList == [46, 46]) = false := by
  have := lit_ne (d := ddB) h
  rwa [show ddB.toList = [46, 46] by rw [toList_un]; rfl] at this
theorem refuse_p (a b : Value) (w : World) : Calls Tryz.prog 30 #[a, b] w fun e w' => e = .returned (errE 10) ∧ w' = w := by
  go_enter Tryz.func30, Tryz.ntmps30
  go_wp2
  go_ret
  exact ⟨rfl, rfl⟩
set_option maxRecDepth 100000 in
set_option maxHeartbeats 4000000 in
theorem step_refuse (c : ByteArray) (w : World) (h : Wk w wb (.func (.func 30) #[] #[]) pas m tb tbase F st lv mv) (hF : Far st c) (hg : getE st.L (joinB st.here c) = none) :
    Calls Tryz.prog 48 #[.pointer (some ⟨wb, 0, none⟩), .string c] w fun e w' => e = .returned (errE 10) ∧ Below w.heap.size w w' := by
  obtain ⟨hn1, hn2, hs, hc⟩ := hF
  have hb1 := ne_dot hn1
  have hb2 := ne_dd hn2
  obtain ⟨_, _, _, _, c4, c5, _, _, _⟩ := h.walk.cs
  have hjs := join_size st.here c
  have hG := get_p tb tbase F st.L (joinB st.here c) (by omega) w h.tree
  rw [hg] at hG
  simp only [getV] at hG
  have H : Hid (Wk w wb (.func (.func 30) #[] #[]) pas m tb tbase F st lv mv) := h
  clear hn1 hn2 hg h
  have hR := fun a b w => refuse_p a b w
  rw [errE_some (n := 10) (by decide)] at *
  go_enter Tryz.func48, Tryz.ntmps48
  go_wp2_with (first | (go_at_call 71; refine (join_p _ _ _ (by omega)).mono ?_; rintro e w1 ⟨rfl, hw1⟩; replace hw1 := hw1.symm; subst hw1) | (go_at_call 72; refine hG.mono ?_; rintro e1 w1 ⟨rfl, hb⟩; have HB : Hid (Below w.heap.size w (w1.alloc (.cells #[.string ⟨#[]⟩, .int .i64 0, .int .i64 0, .string ⟨#[]⟩, .string ⟨#[]⟩] 52))) := hb.alloc hb.size _; have HW := H.out.below HB.out; obtain ⟨d0, d1, d2, _, _, d5, _, _, _⟩ := HW.walk.cs; have g5 := wfroz HW.walk.head 5) | (go_at_call 30; refine (hR _ _ _).mono ?_; rintro e w2 ⟨rfl, hw2⟩; replace hw2 := hw2.symm; subst hw2))
  go_ret
  exact ⟨rfl, HB.out⟩
set_option maxRecDepth 100000 in
set_option maxHeartbeats 4000000 in
theorem step_file (c : ByteArray) (e : Ent) (w : World) (h : Wk w wb ab pas m tb tbase F st lv mv) (hF : Far st c) (hg : getE st.L (joinB st.here c) = some e) (hk : isFile m e st.left = true) :
    Calls Tryz.prog 48 #[.pointer (some ⟨wb, 0, none⟩), .string c] w fun e w' => e = .returned (errE 13) ∧ Below w.heap.size w w' := by
  obtain ⟨hn1, hn2, hs, hc⟩ := hF
  have hb1 := ne_dot hn1
  have hb2 := ne_dd hn2
  obtain ⟨_, _, _, _, c4, c5, _, _, _⟩ := h.walk.cs
  have hjs := join_size st.here c
  have hG := get_p tb tbase F st.L (joinB st.here c) (by omega) w h.tree
  rw [hg] at hG
  simp only [getV] at hG
  have H : Hid (Wk w wb ab pas m tb tbase F st lv mv) := h
  unfold isFile at hk
  rw [Bool.and_eq_true] at hk
  obtain ⟨hk1, hk2⟩ := hk
  clear hn1 hn2 hg h
  cases hd : m.dirs with
  | true =>
    clear hk2
    go_enter Tryz.func48, Tryz.ntmps48
    go_wp2_with (first | (go_at_call 71; refine (join_p _ _ _ (by omega)).mono ?_; rintro e w1 ⟨rfl, hw1⟩; replace hw1 := hw1.symm; subst hw1) | (go_at_call 72; refine hG.mono ?_; rintro e1 w1 ⟨rfl, hb⟩; have HB : Hid (Below w.heap.size w (w1.alloc (.cells #[.string e.path, .int .i64 e.kind, .int .i64 e.mode, .string e.data, .string e.link] 52))) := hb.alloc hb.size _; have HW := H.out.below HB.out; obtain ⟨d0, d1, d2, _, _, d5, _, _, _⟩ := HW.walk.cs; rw [hd] at d1; have g5 := wfroz HW.walk.head 5))
    go_ret
    exact ⟨rfl, HB.out⟩
  | false =>
    have hl : st.left.isEmpty = false := by simpa [hd] using hk2
    clear hk2
    go_enter Tryz.func48, Tryz.ntmps48
    go_wp2_with (first | (go_at_call 71; refine (join_p _ _ _ (by omega)).mono ?_; rintro e w1 ⟨rfl, hw1⟩; replace hw1 := hw1.symm; subst hw1) | (go_at_call 72; refine hG.mono ?_; rintro e1 w1 ⟨rfl, hb⟩; have HB : Hid (Below w.heap.size w (w1.alloc (.cells #[.string e.path, .int .i64 e.kind, .int .i64 e.mode, .string e.data, .string e.link] 52))) := hb.alloc hb.size _; have HW := H.out.below HB.out; obtain ⟨d0, d1, d2, _, _, d5, _, _, _⟩ := HW.walk.cs; rw [hd] at d1; have g5 := wfroz HW.walk.head 5) | (go_at_call 47; refine (ends_p _ HW.walk).mono ?_; rintro e2 w2 ⟨rfl, hw2⟩; replace hw2 := hw2.symm; subst hw2; rw [hl]))
    go_ret
    exact ⟨rfl, HB.out⟩
set_option maxRecDepth 100000 in
set_option maxHeartbeats 4000000 in
theorem step_at (c : ByteArray) (e : Ent) (w : World) (h : Wk w wb ab pas m tb tbase F st lv mv) (hF : Far st c) (hg : getE st.L (joinB st.here c) = some e) (hk : isFile m e st.left = false) (hk3 : isLink m e st.left = false) :
    Calls Tryz.prog 48 #[.pointer (some ⟨wb, 0, none⟩), .string c] w fun e w' => e = .returned .nilIface ∧ Wk w' wb ab pas m tb tbase F { st with here := joinB st.here c } lv mv ∧ Rnd (mayS m wb tb F lv mv) (mayS m wb tb F lv mv) w w' := by
  obtain ⟨hn1, hn2, hs, hc⟩ := hF
  have hb1 := ne_dot hn1
  have hb2 := ne_dd hn2
  obtain ⟨_, _, _, _, c4, c5, _, _, _⟩ := h.walk.cs
  have hjs := join_size st.here c
  have hG := get_p tb tbase F st.L (joinB st.here c) (by omega) w h.tree
  rw [hg] at hG
  simp only [getV] at hG
  have H : Hid (Wk w wb ab pas m tb tbase F st lv mv) := h
  unfold isFile at hk
  unfold isLink at hk3
  clear hn1 hn2 hg h
  cases k2 : (e.kind == 2) with
  | true =>
    have k3 : (e.kind == 3) = false := by rw [beq_iff_eq] at k2; rw [k2]; rfl
    have hd : m.dirs = false := by
      rw [k2] at hk
      cases hm : m.dirs with
      | false => rfl
      | true => rw [hm] at hk; simp at hk
    have hl : st.left.isEmpty = true := by
      rw [k2, hd] at hk
      simpa using hk
    clear hk hk3
    go_enter Tryz.func48, Tryz.ntmps48
    go_wp2_with (first | (go_at_call 71; refine (join_p _ _ _ (by omega)).mono ?_; rintro e w1 ⟨rfl, hw1⟩; replace hw1 := hw1.symm; subst hw1) | (go_at_call 72; refine hG.mono ?_; rintro e1 w1 ⟨rfl, hb⟩; have HB : Hid (Below w.heap.size w (w1.alloc (.cells #[.string e.path, .int .i64 e.kind, .int .i64 e.mode, .string e.data, .string e.link] 52))) := hb.alloc hb.size _; have HW := H.out.below HB.out; obtain ⟨d0, d1, d2, _, _, d5, _, _, _⟩ := HW.walk.cs; rw [hd] at d1; have g5 := wfroz HW.walk.head 5) | (go_at_call 47; refine (ends_p _ HW.walk).mono ?_; rintro e2 w2 ⟨rfl, hw2⟩; replace hw2 := hw2.symm; subst hw2; rw [hl]))
    go_ret
    have := HW.walked (HW.walk.at_set (joinB st.here c)) (rnd_set _ wb 5 _ _ (.inl rfl))
    exact ⟨rfl, this.1, (may_below HB.out).trans this.2⟩
  | false =>
    clear hk
    cases k3 : (e.kind == 3) with
    | false =>
      clear hk3
      go_enter Tryz.func48, Tryz.ntmps48
      go_wp2_with (first | (go_at_call 71; refine (join_p _ _ _ (by omega)).mono ?_; rintro e w1 ⟨rfl, hw1⟩; replace hw1 := hw1.symm; subst hw1) | (go_at_call 72; refine hG.mono ?_; rintro e1 w1 ⟨rfl, hb⟩; have HB : Hid (Below w.heap.size w (w1.alloc (.cells #[.string e.path, .int .i64 e.kind, .int .i64 e.mode, .string e.data, .string e.link] 52))) := hb.alloc hb.size _; have HW := H.out.below HB.out; obtain ⟨d0, d1, d2, _, _, d5, _, _, _⟩ := HW.walk.cs; have g5 := wfroz HW.walk.head 5) | (go_at_call 47; refine (ends_p _ HW.walk).mono ?_; rintro e2 w2 ⟨rfl, hw2⟩; replace hw2 := hw2.symm; subst hw2; skip))
      go_ret
      have := HW.walked (HW.walk.at_set (joinB st.here c)) (rnd_set _ wb 5 _ _ (.inl rfl))
      exact ⟨rfl, this.1, (may_below HB.out).trans this.2⟩
    | true =>
      have hd : m.stay = true := by
        rw [k3] at hk3
        cases hm : m.stay with
        | true => rfl
        | false => rw [hm] at hk3; simp at hk3
      have hl : st.left.isEmpty = true := by
        rw [k3, hd] at hk3
        simpa using hk3
      clear hk3
      go_enter Tryz.func48, Tryz.ntmps48
      go_wp2_with (first | (go_at_call 71; refine (join_p _ _ _ (by omega)).mono ?_; rintro e w1 ⟨rfl, hw1⟩; replace hw1 := hw1.symm; subst hw1) | (go_at_call 72; refine hG.mono ?_; rintro e1 w1 ⟨rfl, hb⟩; have HB : Hid (Below w.heap.size w (w1.alloc (.cells #[.string e.path, .int .i64 e.kind, .int .i64 e.mode, .string e.data, .string e.link] 52))) := hb.alloc hb.size _; have HW := H.out.below HB.out; obtain ⟨d0, d1, d2, _, _, d5, _, _, _⟩ := HW.walk.cs; rw [hd] at d2; have g5 := wfroz HW.walk.head 5) | (go_at_call 47; refine (ends_p _ HW.walk).mono ?_; rintro e2 w2 ⟨rfl, hw2⟩; replace hw2 := hw2.symm; subst hw2; rw [hl]))
      go_ret
      have := HW.walked (HW.walk.at_set (joinB st.here c)) (rnd_set _ wb 5 _ _ (.inl rfl))
      exact ⟨rfl, this.1, (may_below HB.out).trans this.2⟩
set_option maxRecDepth 100000 in
set_option maxHeartbeats 4000000 in
theorem step_12 (c : ByteArray) (e : Ent) (w : World) (h : Wk w wb ab pas m tb tbase F st lv mv) (hF : Far st c) (hg : getE st.L (joinB st.here c) = some e) (hk3 : isLink m e st.left = true) (h40 : st.hops = 40) :
    Calls Tryz.prog 48 #[.pointer (some ⟨wb, 0, none⟩), .string c] w fun e w' => e = .returned (errE 12) ∧ Below w.heap.size w w' := by
  obtain ⟨hn1, hn2, hs, hc⟩ := hF
  have hb1 := ne_dot hn1
  have hb2 := ne_dd hn2
  obtain ⟨_, _, _, _, c4, c5, _, _, _⟩ := h.walk.cs
  have hjs := join_size st.here c
  have hG := get_p tb tbase F st.L (joinB st.here c) (by omega) w h.tree
  rw [hg] at hG
  simp only [getV] at hG
  have H : Hid (Wk w wb ab pas m tb tbase F st lv mv) := h
  have k3' := link_kind hk3
  have k3 : (e.kind == 3) = true := by rw [k3']; rfl
  have k2 : (e.kind == 2) = false := by rw [k3']; rfl
  unfold isLink at hk3
  rw [k3, Bool.true_and] at hk3
  clear hn1 hn2 hg h k3'
  cases hd : m.stay with
  | false =>
    clear hk3
    go_enter Tryz.func48, Tryz.ntmps48
    go_wp2_with (first | (go_at_call 71; refine (join_p _ _ _ (by omega)).mono ?_; rintro e w1 ⟨rfl, hw1⟩; replace hw1 := hw1.symm; subst hw1) | (go_at_call 72; refine hG.mono ?_; rintro e1 w1 ⟨rfl, hb⟩; have HB : Hid (Below w.heap.size w (w1.alloc (.cells #[.string e.path, .int .i64 e.kind, .int .i64 e.mode, .string e.data, .string e.link] 52))) := hb.alloc hb.size _; have HW := H.out.below HB.out; obtain ⟨d0, d1, d2, _, _, d5, _, _, _⟩ := HW.walk.cs; rw [hd] at d2; have g5 := wfroz HW.walk.head 5) | (go_at_call 47; refine (ends_p _ HW.walk).mono ?_; rintro e2 w2 ⟨rfl, hw2⟩; replace hw2 := hw2.symm; subst hw2; skip) | (go_at_call 73; refine (follow_12 _ _ HW h40).mono ?_; rintro e3 w3 ⟨rfl, hb3⟩))
    go_ret
    exact ⟨rfl, below_join HB.out hb3⟩
  | true =>
    have hl : st.left.isEmpty = false := by
      rw [hd] at hk3
      simpa using hk3
    clear hk3
    go_enter Tryz.func48, Tryz.ntmps48
    go_wp2_with (first | (go_at_call 71; refine (join_p _ _ _ (by omega)).mono ?_; rintro e w1 ⟨rfl, hw1⟩; replace hw1 := hw1.symm; subst hw1) | (go_at_call 72; refine hG.mono ?_; rintro e1 w1 ⟨rfl, hb⟩; have HB : Hid (Below w.heap.size w (w1.alloc (.cells #[.string e.path, .int .i64 e.kind, .int .i64 e.mode, .string e.data, .string e.link] 52))) := hb.alloc hb.size _; have HW := H.out.below HB.out; obtain ⟨d0, d1, d2, _, _, d5, _, _, _⟩ := HW.walk.cs; rw [hd] at d2; have g5 := wfroz HW.walk.head 5) | (go_at_call 47; refine (ends_p _ HW.walk).mono ?_; rintro e2 w2 ⟨rfl, hw2⟩; replace hw2 := hw2.symm; subst hw2; rw [hl]) | (go_at_call 73; refine (follow_12 _ _ HW h40).mono ?_; rintro e3 w3 ⟨rfl, hb3⟩))
    go_ret
    exact ⟨rfl, below_join HB.out hb3⟩
set_option maxRecDepth 100000 in
set_option maxHeartbeats 4000000 in
theorem step_link (c : ByteArray) (e : Ent) (w : World) (h : Wk w wb ab pas m tb tbase F st lv mv) (hF : Far st c) (hg : getE st.L (joinB st.here c) = some e) (hk3 : isLink m e st.left = true) (hls : e.link.size ≤ 100) (hll : st.left.length ≤ 2199023255552) (hh : st.hops ≤ 40) (h40 : st.hops ≠ 40) :
    Calls Tryz.prog 48 #[.pointer (some ⟨wb, 0, none⟩), .string c] w fun x w' => x = .returned .nilIface ∧ ∃ lv', Wk w' wb ab pas m tb tbase F { st with here := hereL st e.link, left := namesB e.link ++ st.left, hops := st.hops + 1 } lv' mv ∧ Rnd (mayS m wb tb F lv mv) (mayS m wb tb F lv' mv) w w' := by
  obtain ⟨hn1, hn2, hs, hc⟩ := hF
  have hb1 := ne_dot hn1
  have hb2 := ne_dd hn2
  obtain ⟨_, _, _, _, c4, c5, _, _, _⟩ := h.walk.cs
  have hjs := join_size st.here c
  have hG := get_p tb tbase F st.L (joinB st.here c) (by omega) w h.tree
  rw [hg] at hG
  simp only [getV] at hG
  have H : Hid (Wk w wb ab pas m tb tbase F st lv mv) := h
  have k3' := link_kind hk3
  have k3 : (e.kind == 3) = true := by rw [k3']; rfl
  have k2 : (e.kind == 2) = false := by rw [k3']; rfl
  unfold isLink at hk3
  rw [k3, Bool.true_and] at hk3
  clear hn1 hn2 hg h k3'
  cases hd : m.stay with
  | false =>
    clear hk3
    go_enter Tryz.func48, Tryz.ntmps48
    go_wp2_with (first | (go_at_call 71; refine (join_p _ _ _ (by omega)).mono ?_; rintro e w1 ⟨rfl, hw1⟩; replace hw1 := hw1.symm; subst hw1) | (go_at_call 72; refine hG.mono ?_; rintro e1 w1 ⟨rfl, hb⟩; have HB : Hid (Below w.heap.size w (w1.alloc (.cells #[.string e.path, .int .i64 e.kind, .int .i64 e.mode, .string e.data, .string e.link] 52))) := hb.alloc hb.size _; have HW := H.out.below HB.out; obtain ⟨d0, d1, d2, _, _, d5, _, _, _⟩ := HW.walk.cs; rw [hd] at d2; have g5 := wfroz HW.walk.head 5) | (go_at_call 47; refine (ends_p _ HW.walk).mono ?_; rintro e2 w2 ⟨rfl, hw2⟩; replace hw2 := hw2.symm; subst hw2; skip) | (go_at_call 73; refine (follow_0 _ _ HW hls hll hh h40).mono ?_; rintro e3 w3 ⟨rfl, lv3, hw3, hr3⟩))
    go_ret
    exact ⟨rfl, lv3, hw3, (may_below HB.out).trans hr3⟩
  | true =>
    have hl : st.left.isEmpty = false := by
      rw [hd] at hk3
      simpa using hk3
    clear hk3
    go_enter Tryz.func48, Tryz.ntmps48
    go_wp2_with (first | (go_at_call 71; refine (join_p _ _ _ (by omega)).mono ?_; rintro e w1 ⟨rfl, hw1⟩; replace hw1 := hw1.symm; subst hw1) | (go_at_call 72; refine hG.mono ?_; rintro e1 w1 ⟨rfl, hb⟩; have HB : Hid (Below w.heap.size w (w1.alloc (.cells #[.string e.path, .int .i64 e.kind, .int .i64 e.mode, .string e.data, .string e.link] 52))) := hb.alloc hb.size _; have HW := H.out.below HB.out; obtain ⟨d0, d1, d2, _, _, d5, _, _, _⟩ := HW.walk.cs; rw [hd] at d2; have g5 := wfroz HW.walk.head 5) | (go_at_call 47; refine (ends_p _ HW.walk).mono ?_; rintro e2 w2 ⟨rfl, hw2⟩; replace hw2 := hw2.symm; subst hw2; rw [hl]) | (go_at_call 73; refine (follow_0 _ _ HW hls hll hh h40).mono ?_; rintro e3 w3 ⟨rfl, lv3, hw3, hr3⟩))
    go_ret
    exact ⟨rfl, lv3, hw3, (may_below HB.out).trans hr3⟩
end Go.Proofs.YtcefgnjgcnboeaaGreatDoor
