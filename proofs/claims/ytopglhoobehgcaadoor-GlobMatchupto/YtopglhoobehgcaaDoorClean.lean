/- Package path's Clean. -/
import Derived.Test.YtopglhoobehgcaaDoorPieces
import Derived.Test.YtopglhoobehgcaaDoorSplit
import Derived.Maps.AppendAt
import Derived.WalkSmall
import Derived.Lib.Join
namespace Go.Proofs.YtopglhoobehgcaaDoor
open Go Go.RowKit Go.Shelf
attribute [local go_sem] Oper.semAt_some

def cleanStep (kept : List ByteArray) (x : ByteArray) : List ByteArray := if x.toList == [46] then kept else if x.toList == [46, 46] then kept.dropLast else kept ++ [x]
def cleanL (xs : List ByteArray) : List ByteArray := xs.foldl cleanStep []
theorem cleanL_snoc (pre : List ByteArray) (x : ByteArray) : cleanL (pre ++ [x]) = cleanStep (cleanL pre) x := by simp [cleanL]
def joinL (xs : List ByteArray) : List UInt8 := Lib.join (xs.map un) [47]
def cleanB (s : ByteArray) : ByteArray := bs (joinL (cleanL (namesB s)))

def wt : List ByteArray → Nat
  | [] => 0
  | x :: xs => x.size + 1 + wt xs
theorem wt_append (a b : List ByteArray) : wt (a ++ b) = wt a + wt b := by induction a with | nil => simp [wt] | cons x a ih => simp [wt, ih]; omega
theorem wt_dropLast (a : List ByteArray) : wt a.dropLast ≤ wt a := by
  rcases List.eq_nil_or_concat a with rfl | ⟨l, x, rfl⟩
  · simp
  · simp [wt_append]
theorem wt_step (k : List ByteArray) (x : ByteArray) : wt (cleanStep k x) ≤ wt k + (x.size + 1) := by
  unfold cleanStep; split
  · omega
  · split
    · have := wt_dropLast k; omega
    · simp [wt_append, wt]
theorem wt_clean (xs : List ByteArray) : wt (cleanL xs) ≤ wt xs := by
  have h : ∀ (xs k : List ByteArray), wt (xs.foldl cleanStep k) ≤ wt k + wt xs := by
    intro xs
    induction xs with
    | nil => intro k; simp
    | cons x xs ih => intro k; have h1 := ih (cleanStep k x); have h2 := wt_step k x; simp only [List.foldl_cons, wt]; omega
  have := h xs []; simpa [cleanL, wt] using this
theorem wt_filter (p : ByteArray → Bool) (xs : List ByteArray) : wt (xs.filter p) ≤ wt xs := by
  induction xs with
  | nil => simp
  | cons x xs ih => rw [List.filter_cons]; split <;> simp [wt] <;> omega
theorem wt_cut : ∀ l : List UInt8, wt ((cutL l).map bs) = l.length + 1
  | [] => by simp [cutL, wt, size_bs]
  | c :: l => by
    have ih := wt_cut l
    rw [cutL_cons]
    split
    · simp [wt, size_bs, ih]; omega
    · cases h : cutL l with
      | nil => exact absurd h (cutL_ne l)
      | cons p r => rw [h] at ih; simp [wt, size_bs] at ih ⊢; omega
theorem wt_names (s : ByteArray) : wt (namesB s) ≤ s.size + 1 := by
  have h := wt_filter full (piecesB s)
  have h2 : wt (piecesB s) = s.size + 1 := by unfold piecesB; rw [wt_cut, un_length]
  unfold namesB; omega
theorem length_wt : ∀ xs : List ByteArray, xs.length ≤ wt xs
  | [] => Nat.le_refl _
  | x :: xs => by have := length_wt xs; simp [wt]; omega
theorem wt_prefix {pre xs : List ByteArray} (h : pre <+: xs) : wt pre ≤ wt xs := by obtain ⟨t, rfl⟩ := h; rw [wt_append]; omega
theorem joinL_length : ∀ xs : List ByteArray, (joinL xs).length ≤ wt xs
  | [] => by simp [joinL, Lib.join]
  | [x] => by simp [joinL, Lib.join, wt, un_length]
  | x :: y :: xs => by
    have ih := joinL_length (y :: xs)
    have e : joinL (x :: y :: xs) = un x ++ ([47] ++ joinL (y :: xs)) := by simp [joinL, Lib.join]
    rw [e]; simp only [List.length_append, un_length, wt] at ih ⊢; simp; omega

/- What an append of one's own turns, and what it leaves. -/
theorem own_ge {W : World} {base e size k : Nat} {v : Value} {xs : List Value} (h : W.ownsRow base e size v k xs) : ∀ j, some j = v.ownBlock → base ≤ j ∧ ∃ cur, W.heap[j]? = some (.cells cur e (0, 0)) := by
  intro j hj
  rcases h.2 with ⟨rfl, _⟩ | ⟨g, cap, cur, rfl, hg, hgb, _⟩
  · simp [Value.ownBlock] at hj
  · simp [Value.ownBlock] at hj; subst hj; exact ⟨hg, cur, hgb⟩
theorem app_other {W w1 : World} {tmp : Obj} {v : Value} (v2 : Value) {N j : Nat} (hg : (W.alloc tmp).grownBy w1 v.ownBlock) (hj : j < W.heap.size) (h1 : some j ≠ v.ownBlock) (h2 : j ≠ N) :
    (w1.setCell ⟨N, 0, none⟩ v2).heap[j]? = W.heap[j]? :=
  (Below.heap_setCell w1 ⟨N, 0, none⟩ v2 j h2).trans ((hg.block j (by simp; omega) h1).trans (Below.heap_alloc W tmp j hj))
theorem own_set {w1 : World} {base e size k N : Nat} {v : Value} {xs : List Value} (u : Value) (h : w1.ownsRow base e size v k xs) (hN : N < base) : (w1.setCell ⟨N, 0, none⟩ u).ownsRow base e size v k xs := by
  refine h.kept (grownBy_setCell' w1 N u) ?_
  rcases h.2 with ⟨rfl, _⟩ | ⟨g, cap, cur, rfl, hg, hgb, _⟩
  · exact .inl rfl
  · exact .inr fun e2 => by simp [Value.ownBlock] at e2; omega

theorem app_all {W w1 : World} {tmp : Obj} {v v2 : Value} {N base e t k m : Nat} {xs ys : List Value} (hv : Boxed W N t v) (hrow : W.ownsRow base e 1 v k xs) (hN : N < base) (hbW : base ≤ W.heap.size) (hown2 : w1.ownsRow base e 1 v2 m ys) (hg : (W.alloc tmp).grownBy w1 v.ownBlock) :
    Boxed w1 N t v ∧ Boxed (w1.setCell ⟨N, 0, none⟩ v2) N t v2 ∧ (w1.setCell ⟨N, 0, none⟩ v2).ownsRow base e 1 v2 m ys ∧ Below N W (w1.setCell ⟨N, 0, none⟩ v2) ∧ (∀ B, KeepsFrom B W (w1.setCell ⟨N, 0, none⟩ v2)) ∧ (∀ j, j < base → j ≠ N → (w1.setCell ⟨N, 0, none⟩ v2).heap[j]? = W.heap[j]?) := by
  have ho := own_ge hrow
  have hlt := hv.lt
  have hv1 : Boxed w1 N t v := (hg.block N (by simp; omega) (fun e => by have := (ho _ e).1; omega)).trans ((Below.heap_alloc W tmp N hlt).trans hv)
  refine ⟨hv1, Boxed.set _ hv1, own_set _ hown2 hN, ?_, fun B => ⟨?_, fun j o _ hj hc => ?_⟩, fun j hj hne => app_other _ hg (by omega) (fun e => by have := (ho _ e).1; omega) hne⟩
  · exact (((Below.refl N W).alloc (by omega) tmp).grown hg (by simp; omega) (fun j e => by have := (ho j e.symm).1; omega)).setCell (p := ⟨N, 0, none⟩) (Nat.le_refl _) _
  · have h1 := hg.size
    have h2 := (KeepsOthers.setCell w1 ⟨N, 0, none⟩ v2).size
    simp at h1; omega
  · have hjl := (Array.getElem?_eq_some_iff.1 hj).1
    refine (app_other _ hg hjl (fun e => ?_) (fun e => ?_)).trans hj
    · obtain ⟨_, cur, hcur⟩ := ho _ e
      rw [hj] at hcur; cases hcur; cases hc
    · subst e
      rw [show W.heap[j]? = _ from hv] at hj; cases hj; cases hc
theorem info_str : (Tryd.prog.info? 9).map (fun i => (i.zero, i.size, i.bytes)) = some (some (.string ⟨#[]⟩), 1, 16) := by kernel_rfl
def strs (xs : List ByteArray) : List Value := xs.map Value.string

set_option maxRecDepth 100000 in
set_option maxHeartbeats 4000000 in
theorem clean_p (s : ByteArray) (w : World) (hs : s.size ≤ 1099511627776) :
    Calls Tryd.prog 33 #[.string s] w fun e w' => e = .returned (.string (cleanB s)) ∧ Below w.heap.size w w' := by
  obtain ⟨i0, hi, hz0, hz1, hz2⟩ := info_parts info_str
  obtain ⟨n, hn⟩ : ∃ n : Nat, n = 3 := ⟨3, rfl⟩
  clear hn
  refine (callsIn_wide (n := n)).1 ?_
  refine callsIn_of_wp_marks Tryd.func33 rfl trivial ?_ rfl
  simp only [Tryd.ntmps33, List.size_toArray, List.length_cons, List.length_nil, Nat.reduceAdd, Nat.reduceSub, Array.replicate_succ, Array.replicate_zero, List.push_toArray, List.append_toArray, List.nil_append, List.cons_append]
  gi_wp2_with (refine ⟨trivial, wd _, ?_⟩; gi_at_call 53; refine (callsIn_wide.2 (pieces_p _ _)).mono ?_; rintro e w' ⟨rfl, rfl⟩)
  obtain ⟨W0, hW0⟩ : ∃ W0, ((w.alloc (.cells #[.slice none 0 0] 23)).alloc (.cells #[.string s] 9)) = W0 := ⟨_, rfl⟩
  have hsz : W0.heap.size = w.heap.size + 2 := by rw [← hW0]; simp
  have hB0 : Below w.heap.size w W0 := by rw [← hW0]; exact ((Below.refl _ w).alloc (Nat.le_refl _) _).alloc (by simp) _
  have c0 : Boxed W0 w.heap.size 23 (.slice none 0 0) := by rw [← hW0]; exact (Boxed.new w _ _).alloc _
  have c1 : Boxed W0 (w.heap.size + 1) 9 (.string s) := by
    have h := Boxed.new (w.alloc (.cells #[.slice none 0 0] 23)) 9 (.string s); rw [World.size_alloc] at h; rw [← hW0]; exact h
  rw [hW0]
  clear hW0
  have hwn := wt_names s
  refine range_lawD (xs := namesB s) (n₀ := w.heap.size) (d := 1) rfl (enters_of Tryd.func77 (by kernel_rfl) rfl)
    (pieces_gives s (w.heap.size + 1) w.heap.size _ (by omega) c1.cell (by omega)) (by omega) (Below.refl _ _)
    (fun pre W => (∃ v, Boxed W w.heap.size 23 v ∧ W.ownsRow (w.heap.size + 5) 9 1 v (cleanL pre).length (strs (cleanL pre)) ∧ True) ∧ Below w.heap.size w W)
    (fun _ _ _ => False)
    (OwnFrom.and (Own.from (holdsRow_own (w.heap.size + 5) w.heap.size 23 9 1 (fun pre => (cleanL pre).length) (fun pre => strs (cleanL pre)) (fun _ _ => True)) _) (ownFrom_below (Nat.le_refl _) (by omega)))
    (fun _ _ _ _ _ hs _ _ => hs)
    ⟨⟨_, c0, World.ownsRow_nil _ _ _ _, trivial⟩, hB0⟩
    (fun x => { tmps := #[.string s, undef, .string ⟨#[]⟩, .pointer (some ⟨w.heap.size, 0, none⟩), .string x, .string s, .func (.func 77) #[] #[.pointer (some ⟨w.heap.size + 1, 0, none⟩)], .string x, undef, undef, undef, undef, undef, undef, undef, undef, undef, undef, undef, undef, undef, undef, undef, undef, undef, undef, undef, undef, undef], defers := [] }) ?assign ?body ?done ?stop
  case assign =>
    intro m l x W K hK
    gi_wp2
    exact hK
  case body =>
    rintro m l pre x W ⟨⟨v, hv, hrow, _⟩, hB⟩ hx hsz2
    have hc := hv.cell
    have hf := hv.frozen
    have hlen : (cleanL pre).length ≤ 1099511627777 := by
      have h1 := length_wt (cleanL pre)
      have h2 := wt_clean pre
      have h3 := wt_prefix hx
      rw [wt_append] at h3
      omega
    have hown := own_ge hrow
    clear c0 c1 hB0 hx
    cases hd : (x.toList == [46])
    rotate_left
    · have Hc : Hid (cleanL (pre ++ [x]) = cleanL pre) := by unfold Hid; rw [cleanL_snoc]; simp only [cleanStep, hd, if_true]
      gi_wp2
      exact ⟨⟨⟨v, hv, by rw [Hc.out]; exact hrow, trivial⟩, hB⟩, Below.refl _ _, KeepsFrom.refl _ _, SameIn.refl _ _ _⟩
    cases hdd : (x.toList == [46, 46])
    · have Hc : Hid (cleanL (pre ++ [x]) = cleanL pre ++ [x]) := by unfold Hid; rw [cleanL_snoc]; simp only [cleanStep, hd, hdd]; rfl
      gi_wp2_with (gi_at_builtin; refine wpListIn_append_own _ rfl _ _ 23 rfl (w.heap.size + 5) 9 i0 (.string ⟨#[]⟩) 1 16 Tryd.underlying23 hi hz0 hz1 hz2 rfl (by decide) _ _ _ rfl (hrow.alloc _) ⟨W.heap.size, 0, none⟩ 1 1 [.string x] rfl rfl (cell_one_new _ _ _) (by simp [Value.oneCell']) (by unfold maxLen; omega) (by omega) (by simp; omega) ?_; intro v' w1 hown' hgrow _; obtain ⟨g', cap', rfl⟩ := ownsRow_succ hown'; obtain ⟨a1, a2, a3, a4, a5, a6⟩ := app_all hv hrow (by omega) (by omega) hown' hgrow; have hc1 := a1.cell; have hf1 := a1.frozen)
      exact ⟨⟨⟨_, a2, by rw [Hc.out]; simpa [strs] using a3, trivial⟩, hB.trans a4⟩, a4, a5 _, fun j h1 h2 => a6 j (by omega) (by omega)⟩
    · have Hc : Hid (cleanL (pre ++ [x]) = (cleanL pre).dropLast) := by unfold Hid; rw [cleanL_snoc]; simp only [cleanStep, hd, hdd]; rfl
      rcases hrow.2 with ⟨rfl, h0⟩ | ⟨g, cap, cur, rfl, hg, hgb, hncap, hcm, hcs, htk⟩
      · have hnil : cleanL pre = [] := List.eq_nil_of_length_eq_zero h0
        have Hc2 : Hid (cleanL (pre ++ [x]) = []) := by unfold Hid; rw [Hc.out, hnil]; rfl
        clear hnil h0
        gi_wp2
        exact ⟨⟨⟨_, hv, by rw [Hc2.out]; exact World.ownsRow_nil _ _ _ _, trivial⟩, hB⟩, Below.refl _ _, KeepsFrom.refl _ _, SameIn.refl _ _ _⟩
      · rcases List.eq_nil_or_concat (cleanL pre) with hnil | ⟨kl, y, hcat⟩
        · have Hn : Hid _ := hnil
          have h0 : ¬ (0 : Int) < ((cleanL pre).length : Int) := by rw [hnil]; simp
          clear hnil
          gi_wp2
          have hrow2 : W.ownsRow (w.heap.size + 5) 9 1 (.slice (some ⟨g, 0, none⟩) (cleanL pre).length cap) (cleanL (pre ++ [x])).length (strs (cleanL (pre ++ [x]))) := by rw [Hc.out, Hn.out]; rw [Hn.out] at hrow; exact hrow
          first | exact ⟨⟨⟨_, hv, hrow2, trivial⟩, hB⟩, Below.refl _ _, KeepsFrom.refl _ _, SameIn.refl _ _ _⟩ | exact ⟨⟨⟨_, hv, hrow2⟩, hB⟩, Below.refl _ _, KeepsFrom.refl _ _, SameIn.refl _ _ _⟩
        · have Hn : Hid _ := hcat
          have h0 : (0 : Int) < ((cleanL pre).length : Int) := by rw [hcat]; simp
          have hcap : ((cleanL pre).length : Int) ≤ cap := by omega
          have hcm2 : (cap : Int) ≤ 9223372036854775807 := by unfold maxLen at hcm; omega
          clear hcat hcm hcs htk hgb
          gi_wp2
          have hl : (cleanL pre).length = kl.length + 1 := by rw [Hn.out]; simp
          have hrow3 : W.ownsRow (w.heap.size + 5) 9 1 (.slice (some ⟨g, 0, none⟩) (kl.length + 1) cap) (kl.length + 1) (strs kl ++ [.string y]) := by
            rw [hl] at hrow; rw [Hn.out] at hrow; simpa [strs] using hrow
          have hrow4 := own_set (N := w.heap.size) (.slice (some ⟨g, 0, none⟩) kl.length cap) (ownsRow_pop (by simp [strs]) hrow3) (by omega)
          have hdl : cleanL (pre ++ [x]) = kl := by rw [Hc.out, Hn.out]; simp
          rw [show (cleanL pre).length - 1 = kl.length by omega]
          have hrow5 : (W.setCell ⟨w.heap.size, 0, none⟩ (.slice (some ⟨g, 0, none⟩) kl.length cap)).ownsRow (w.heap.size + 5) 9 1 (.slice (some ⟨g, 0, none⟩) kl.length cap) (cleanL (pre ++ [x])).length (strs (cleanL (pre ++ [x]))) := by rw [hdl]; exact hrow4
          exact ⟨⟨⟨_, Boxed.set _ hv, hrow5, trivial⟩, hB.setCell (p := ⟨w.heap.size, 0, none⟩) (Nat.le_refl _) _⟩, (Below.refl _ _).setCell (p := ⟨w.heap.size, 0, none⟩) (Nat.le_refl _) _, keeps_set _ _ _, fun j h1 h2 => Below.heap_setCell W ⟨w.heap.size, 0, none⟩ _ j (by simp; omega)⟩
  case done =>
    rintro D W hD ⟨⟨v, hv, hrow, _⟩, hB⟩ hK
    have hc := hv.cell
    have hDw : w.heap.size ≤ D := by omega
    have hjl := joinL_length (cleanL (namesB s))
    have hwc := wt_clean (namesB s)
    have hll := length_wt (cleanL (namesB s))
    clear c0 c1 hB0
    rcases hrow.2 with ⟨rfl, h0⟩ | ⟨g, cap, cur, rfl, hg, hgb, hncap, hcm, hcs, htk⟩
    · have hnil : cleanL (namesB s) = [] := List.eq_nil_of_length_eq_zero h0
      have Hr : Hid (cleanB s = ⟨#[]⟩) := by unfold Hid cleanB; rw [hnil]; rfl
      clear hnil h0
      gi_wp2_with (refine ⟨trivial, wd _, ?_⟩; gi_at_call 54; refine (callsIn_wide.2 (Tryd.strings_Join_none _ _ _ _)).mono ?_; rintro e W2 ⟨rfl, hW2⟩; subst hW2)
      refine ⟨by simp, .inl ⟨_, _, rfl, run_takeDeferred hK, ?_⟩⟩
      exact ⟨_, results_tmp rfl _ _ _, by rw [Hr.out]; rfl, hB.trans (putLoop_below _ hK hDw)⟩
    · cases hq : cleanL (namesB s) with
      | nil =>
        have Hr : Hid (cleanB s = ⟨#[]⟩) := by unfold Hid cleanB; rw [hq]; rfl
        rw [hq] at hc
        clear hq
        gi_wp2_with (refine ⟨trivial, wd _, ?_⟩; gi_at_call 54; refine (callsIn_wide.2 (Tryd.strings_Join_none _ _ _ _)).mono ?_; rintro e W2 ⟨rfl, hW2⟩; subst hW2)
        refine ⟨by simp, .inl ⟨_, _, rfl, run_takeDeferred hK, ?_⟩⟩
        exact ⟨_, results_tmp rfl _ _ _, by rw [Hr.out]; rfl, hB.trans (putLoop_below _ hK hDw)⟩
      | cons y0 ys0 =>
        have hcells : ∀ (j : Nat) z, (cleanL (namesB s))[j]? = some z → W.cell? ⟨g, 0 + j, none⟩ = some (.string z) := fun j z hz => by
          have h := hrow.cells (g := g) rfl j (.string z) (by simp [strs, hz])
          rcases j with _ | j <;> simpa [Addr.add] using h
        have hgl : g < W.heap.size := (Array.getElem?_eq_some_iff.1 hgb).1
        clear hq hgb hcs htk
        have Hcells : Hid _ := hcells
        clear hcells
        gi_wp2_with (refine ⟨trivial, wd _, ?_⟩; gi_at_call 54; refine (callsIn_wide.2 (Tryd.strings_Join g 0 cap (cleanL (namesB s)) ⟨#[47]⟩ W Hcells.out hgl (by omega) hncap (by show (joinL (cleanL (namesB s))).length ≤ _; omega))).mono ?_; rintro e W2 ⟨rfl, hb⟩)
        have hK2 := (keeps_of_below (B := 0) hb).same D _ (Nat.zero_le _) hK rfl
        refine ⟨by simp, .inl ⟨_, _, rfl, run_takeDeferred hK2, ?_⟩⟩
        exact ⟨_, results_tmp rfl _ _ _, rfl, (hB.trans (hb.mono hB.size)).trans (putLoop_below _ hK2 hDw)⟩
  case stop =>
    rintro D c pre W _ _ h _
    exact h.elim
end Go.Proofs.YtopglhoobehgcaaDoor
