/- resolve.Make and resolve.Place. -/
import Derived.Test.YtcefgnjgcnboeaaGreatDoorTakeX
import Derived.Test.YtcefgnjgcnboeaaGreatDoorLeadW
import Derived.Deep.RegionHeld3

namespace Go.Proofs.YtcefgnjgcnboeaaGreatDoor
open Go Go.RowKit

theorem TreeOf.one {W : World} {tb base : Nat} {F : Pic} {L : List Ent} (h : TreeOf W tb base F L) {pre r : List Ent} {e : Ent} (hL : L = pre ++ e :: r) : oneN pre e = 0 := by
  have heL : e ∈ L := by rw [hL]; simp
  have hpre : ∀ x ∈ pre, x ∈ L := fun x hx => by rw [hL]; simp [hx]
  have ho := h.says.order
  rw [hL] at ho
  obtain ⟨ho1, ho2, ho3⟩ := List.pairwise_append.1 ho
  have hlt : ∀ x ∈ pre, ltE x e := fun x hx => ho3 x hx e (by simp)
  have hw := h.right e heL
  have hck := wrong_check hw
  have hoo : ooN (lastP pre) e.path = 0 := by
    rcases List.eq_nil_or_concat pre with rfl | ⟨l, d, rfl⟩
    · exact oo_start hck
    · have hd : lastP (l.concat d) = d.path := by simp [lastP]
      have hde := hlt d (by simp)
      unfold ltE at hde
      rw [hd]
      unfold ooN
      rw [if_neg (by omega), if_neg (by omega)]
  have hup : upN pre e.path = 0 := by
    unfold upN
    by_cases hz : (parentB e.path).size = 0
    · rw [if_pos hz]
    · rw [if_neg hz]
      obtain ⟨x, hx, _⟩ := h.says.at' e heL
      have hsp := names_split hck
      obtain ⟨u, hu⟩ : ∃ u, F (namesP (parentB e.path)) = some u := by
        cases hq : F (namesP (parentB e.path)) with
        | some u => exact ⟨u, rfl⟩
        | none =>
          have := h.says.gone _ (un (lastB e.path)) hq
          rw [hsp, hx] at this; cases this
      have huk : u.e.kind = 1 := by
        by_cases hk : u.e.kind = 1
        · exact hk
        · have hm := (h.at'.kinds _ u hu).2 hk
          have := h.at'.tree.leaf _ u (un (lastB e.path)) hu hm
          rw [hsp, hx] at this; cases this
      obtain ⟨hu1, hu2⟩ := h.says.of' _ u (names_ne hz) hu
      have hup : u.e.path = parentB e.path := names_inj (h.says.full _ hu1) hz hu2
      have hlu : ltE u.e e := lt_below (y := un (lastB e.path)) (t := []) (h.says.full _ hu1) (h.says.full _ heL) (by rw [hu2, ← hsp])
      have hin : u.e ∈ pre := by
        rw [hL] at hu1
        rcases List.mem_append.1 hu1 with h1 | h1
        · exact h1
        · rcases List.mem_cons.1 h1 with h1 | h1
          · rw [h1] at hlu; exact absurd hlu (ltE_self _)
          · exact absurd ((List.pairwise_cons.1 ho2).1 _ h1) (ltE_asymm hlu)
      cases hf : pre.find? (pathIs (parentB e.path)) with
      | none => exact absurd (pathIs_iff.2 hup) (by simpa using List.find?_eq_none.1 hf _ hin)
      | some y =>
        have hy1 := List.mem_of_find?_eq_some hf
        have hy2 : y.path = parentB e.path := pathIs_iff.1 (List.find?_some hf)
        obtain ⟨z, hz1, hz2⟩ := h.says.at' y (hpre y hy1)
        rw [hy2, hu] at hz1
        cases hz1
        simp [← hz2, huk]
  have hmany : manyN pre e = 0 := by
    unfold manyN
    rw [put_end hlt]
    have h1 := h.few
    have h2 := h.light
    rw [hL] at h1 h2
    have h3 : bytesL (pre ++ e :: r) = bytesL pre + (e.data.size + bytesL r) := by simp [bytesL]
    rw [h3] at h2
    simp at h1
    simp only
    rw [if_neg (by omega)]
  unfold oneN putN
  rw [if_neg (show ¬ (wrongN e ≠ 0) by simpa using hw), if_neg (show ¬ (ooN (lastP pre) e.path ≠ 0) by simpa using hoo), if_neg (show ¬ (upN pre e.path ≠ 0) by simpa using hup), hmany]
theorem TreeOf.check {W : World} {tb base : Nat} {F : Pic} {L : List Ent} (h : TreeOf W tb base F L) : (checkGo [] L).1 = 0 := by
  have main : ∀ r pre, L = pre ++ r → (checkGo pre r).1 = 0 := by
    intro r
    induction r with
    | nil => intro pre _; rfl
    | cons e r ih =>
      intro pre hL
      unfold checkGo
      rw [if_neg (show ¬ (oneN pre e ≠ 0) by simpa using h.one hL)]
      exact ih _ (by rw [hL]; simp)
  exact main L [] rfl
def notP (p : ByteArray) (e : Ent) : Bool := !pathIs p e
theorem but_laid {L : List Ent} (h : L.Pairwise ltE) (e : Ent) : (laidL L e).filter (notP e.path) = L.filter (notP e.path) := by
  refine srt_ext _ _ ((laid_order h e).sublist List.filter_sublist) (h.sublist List.filter_sublist) (fun x => ?_)
  have hn : notP e.path x = true ↔ x.path ≠ e.path := by
    unfold notP
    rw [Bool.not_eq_true', ← Bool.not_eq_true, pathIs_iff]
  rw [List.mem_filter, List.mem_filter, laid_mem, hn]
  constructor
  · rintro ⟨rfl | ⟨h1, h2⟩, h3⟩
    · exact absurd rfl h3
    · exact ⟨h1, h3⟩
  · rintro ⟨h1, h2⟩
    exact ⟨.inr ⟨h1, h2⟩, h2⟩
theorem find_laid {L : List Ent} {e : Ent} : (laidL L e).find? (pathIs e.path) = some e := by
  unfold laidL
  rw [List.find?_append, List.find?_eq_none.2 (fun x hx => by
    have h1 := (List.mem_filter.1 hx).2
    simp at h1
    intro hp
    rw [pathIs_iff.1 hp, order_self] at h1; omega)]
  have : pathIs e.path e = true := pathIs_iff.2 rfl
  simp [List.find?, this]
/-- What stays, by the statement's words. -/
def keptB (p : ByteArray) (e : Ent) : Bool := !pathIs p e && !belowB p e.path
theorem prefix_below {p q : ByteArray} (hp : p.size ≠ 0) (hq : q.size ≠ 0) : (namesP p).isPrefixOf (namesP q) = (un q == un p || belowB p q) := by
  have hpe : p.toList.isEmpty = false := (isEmpty_false p).2 (by omega)
  rw [Bool.eq_iff_iff, List.isPrefixOf_iff_prefix, Bool.or_eq_true, beq_iff_eq]
  constructor
  · rintro ⟨t, ht⟩
    cases t with
    | nil => left; rw [List.append_nil] at ht; rw [names_inj hp hq ht]
    | cons y t =>
      right
      refine pieces_below hpe (u := (y :: t).map bs) (by simp) ?_
      rw [pieces_names hp, pieces_names hq, ← ht, List.map_append]
  · rintro (h | h)
    · rw [un_inj h]; exact List.prefix_refl _
    · obtain ⟨t, ht⟩ := (below_iff hpe).1 h
      unfold namesP
      rw [if_neg hp, if_neg hq, ht, cut_append]
      exact List.prefix_append _ _
theorem kept_gone {F : Pic} {L : List Ent} (h : Says F L) {p : ByteArray} (hp : p.size ≠ 0) : L.filter (keptB p) = goneL L (namesP p) := by
  unfold goneL
  refine List.filter_congr (fun e he => ?_)
  unfold keptB pathIs
  rw [prefix_below hp (h.full e he)]
  simp
end Go.Proofs.YtcefgnjgcnboeaaGreatDoor

namespace Go.Proofs.YtcefgnjgcnboeaaGreatDoor
open Go Go.RowKit Go.Shelf

variable {wb : Nat} {ab pas : Value} {m : Mn} {tb tbase : Nat} {F : Pic} {st : St} {lv mv lv' mv' : Value}
/-- A trail: its box, its row. -/
structure TrailAt (W : World) (bx base : Nat) (v : Value) (ts : List ByteArray) : Prop where
  box : Boxed W bx 38 v
  row : W.ownsRow base 9 1 v ts.length (tvs ts)
  off : v.ownBlock ≠ some bx
def trailS (bx : Nat) (v : Value) (k : Nat) : Prop := k = bx ∨ v.ownBlock = some k
theorem TrailAt.lt {W : World} {bx base : Nat} {v : Value} {ts : List ByteArray} (h : TrailAt W bx base v ts) : ∀ k, trailS bx v k → k < W.heap.size := by
  rintro k (rfl | hk)
  · exact h.box.lt
  · exact (h.row.lt k hk).2
theorem TrailAt.keep {W W' : World} {bx base : Nat} {v : Value} {ts : List ByteArray} (h : TrailAt W bx base v ts) (hk : ∀ k, trailS bx v k → W'.heap[k]? = W.heap[k]?) : TrailAt W' bx base v ts :=
  ⟨(hk bx (.inl rfl)).trans h.box, row_loc h.row (fun k e => hk k (.inr e)), h.off⟩
theorem TrailAt.below {W W' : World} {bx base : Nat} {v : Value} {ts : List ByteArray} (h : TrailAt W bx base v ts) (hb : Below W.heap.size W W') : TrailAt W' bx base v ts := h.keep (fun k hk => hb.block k (h.lt k hk))
set_option maxRecDepth 100000 in
set_option maxHeartbeats 4000000 in
theorem note_p (bx base : Nat) (v : Value) (ts : List ByteArray) (p : ByteArray) (w : World) (h : TrailAt w bx base v ts) (hb : base ≤ w.heap.size) (hl : ts.length ≤ 4398046511104) :
    Calls Tryz.prog 28 #[.string p, .pointer (some ⟨bx, 0, none⟩)] w fun e w' => e = .returned (.tuple #[]) ∧ ∃ v', TrailAt w' bx base v' (ts ++ [p]) ∧ Rnd (trailS bx v) (trailS bx v') w w' := by
  obtain ⟨i0, hi, hz0, hz1, hz2⟩ := info_parts info_str'
  have hc := h.box.cell
  have hrow := h.row
  have hv := h.box
  have HO : Hid (v.ownBlock ≠ some bx) := h.off
  have hbl := h.box.lt
  clear h
  go_enter Tryz.func28, Tryz.ntmps28
  go_wp2_with (at_builtin; refine wpList_append_own_at _ rfl _ _ 38 rfl base 9 i0 (.string ⟨#[]⟩) 1 16 Tryz.underlying38 hi hz0 hz1 hz2 rfl (by decide) _ _ _ rfl (hrow.alloc _) ⟨w.heap.size, 0, none⟩ 1 1 [.string p] rfl rfl (cell_one_new _ _ _) (by simp [Value.oneCell']) (by unfold maxLen; omega) (by omega) (by simp; omega) ?_; intro v1 w1 hown1 hgrow1 hcap1 hat1; obtain ⟨g1, cap1, rfl⟩ := ownsRow_succ hown1; have hv1 : Boxed w1 bx 38 v := (hgrow1.block bx (by simp; omega) (fun e => HO.out e.symm)).trans ((Below.heap_alloc w _ bx hbl).trans hv); have hc1 := hv1.cell; have hf1 := hv1.frozen)
  go_end0
  have hsg := hgrow1.size
  simp at hsg
  have hnb1 : some bx ≠ (Value.slice (some ⟨g1, 0, none⟩) (ts.length + 1) cap1).ownBlock := fun e => by
    rcases hat1 with h | h
    · exact HO.out (e.trans h).symm
    · rw [h] at e; simp at e; omega
  refine ⟨rfl, _, ⟨Boxed.set _ hv1, ?_, fun e => hnb1 e.symm⟩, ⟨hgrow1.os, hgrow1.tape, hgrow1.output, by simp [World.setCell]; omega, fun k hk hn => ?_, fun k hk => ?_⟩⟩
  · have : (w1.setCell ⟨bx, 0, none⟩ (.slice (some ⟨g1, 0, none⟩) (ts.length + 1) cap1)).ownsRow base 9 1 (.slice (some ⟨g1, 0, none⟩) (ts.length + 1) cap1) (ts.length + 1) (tvs ts ++ [.string p]) := hown1.kept (grownBy_setCell' w1 bx _) (.inr hnb1.symm)
    rw [tvs_append, List.length_append]
    simpa [tvs] using this
  · exact (Below.heap_setCell _ _ _ _ (fun e => hn (.inl e))).trans ((hgrow1.block k (by simp; omega) (fun e => hn (.inr e.symm))).trans (Below.heap_alloc w _ k hk))
  · rcases hk with rfl | hk
    · exact .inl (.inl rfl)
    · rcases hat1 with h | h
      · exact .inl (.inr (h.symm.trans hk))
      · have h2 := (hown1.lt k hk).2
        rw [h] at hk
        have h3 : w.heap.size + 1 = k := by simpa using hk
        exact .inr ⟨by omega, by simp [World.setCell]; omega⟩
abbrev notV (bx : Nat) : Value := .func (.func 28) #[] #[.pointer (some ⟨bx, 0, none⟩)]
set_option maxRecDepth 100000 in
set_option maxHeartbeats 8000000 in
theorem lead_trail (bx base : Nat) (tv0 : Value) (ts0 : List ByteArray) (way : ByteArray) (L : List Ent) (w : World) (h : TreeOf w tb tbase F L) (hw : way.size ≤ 1099511627776) (hbx : base ≤ bx) (hTr : TrailAt w bx base tv0 ts0) (hts : ts0.length ≤ 4) (hmine : ∀ k, MineT tb F k → k < base) :
    Calls Tryz.prog 29 #[.pointer (some ⟨tb, 0, none⟩), .string way, .agg #[refV, .bool false, .bool false, notV bx]] w fun e w' =>
      e = .returned (.tuple #[.string (ansB (goN ⟨0, false, false⟩ (start L way))), errE (goN ⟨0, false, false⟩ (start L way)).1]) ∧ Below base w w' ∧ ((goN ⟨0, false, false⟩ (start L way)).1 = 0 → ∃ v', TrailAt w' bx base v' (ts0 ++ (goN ⟨0, false, false⟩ (start L way)).2.2)) := by
  have hnl := names_len way
  have hbA : Below w.heap.size w ((w.alloc (.cells #[refV, .bool false, .bool false, notV bx] 75)).alloc (.cells (wcells refV (notV bx) ⟨0, false, false⟩ tb ⟨#[]⟩ (.slice none 0 0) 0 (.slice none 0 0)) 100)) := ((Below.refl _ _).alloc (Nat.le_refl _) _).alloc (by simp) _
  have hW0 := walk_new (w.alloc (.cells #[refV, .bool false, .bool false, notV bx] 75)) refV (notV bx) ⟨0, false, false⟩ tb
  rw [World.size_alloc] at hW0
  have hK0 : Wk ((w.alloc (.cells #[refV, .bool false, .bool false, notV bx] 75)).alloc (.cells (wcells refV (notV bx) ⟨0, false, false⟩ tb ⟨#[]⟩ (.slice none 0 0) 0 (.slice none 0 0)) 100)) (w.heap.size + 1) refV (notV bx) ⟨0, false, false⟩ tb tbase F { L := L, here := ⟨#[]⟩, left := [], hops := 0, made := [] } (.slice none 0 0) (.slice none 0 0) :=
    ⟨hW0, h.below hbA, fun k hk => by
      rcases hk with rfl | hk | hk
      · exact h.not_mine (by omega)
      · simp [Value.ownBlock] at hk
      · simp [Value.ownBlock] at hk⟩
  have hA := ahead_p way _ hW0 (by omega) (by simp; omega)
  rw [List.append_nil] at hA
  have HK0 : Hid _ := hK0
  have HBA : Hid (Below w.heap.size w ((w.alloc (.cells #[refV, .bool false, .bool false, notV bx] 75)).alloc (.cells (wcells refV (notV bx) ⟨0, false, false⟩ tb ⟨#[]⟩ (.slice none 0 0) 0 (.slice none 0 0)) 100))) := hbA
  have hsA : ((w.alloc (.cells #[refV, .bool false, .bool false, notV bx] 75)).alloc (.cells (wcells refV (notV bx) ⟨0, false, false⟩ tb ⟨#[]⟩ (.slice none 0 0) 0 (.slice none 0 0)) 100)).heap.size = w.heap.size + 2 := by simp
  clear hK0 hbA hW0
  go_enter Tryz.func29, Tryz.ntmps29
  go_wp2_with fail
  refine hA.mono ?_
  rintro e w1 ⟨rfl, lv1, hw1, hr1⟩
  obtain ⟨hK1, hR1⟩ := HK0.out.walked hw1 hr1
  have HB1 : Hid (Below w.heap.size w w1) := HBA.out.trans (hr1.below (by omega) (fun k hk => by
    rcases hk with rfl | hk | hk
    · omega
    · simp [Value.ownBlock] at hk
    · simp [Value.ownBlock] at hk))
  have HK1 : Hid (Wk w1 (w.heap.size + 1) refV (notV bx) ⟨0, false, false⟩ tb tbase F (start L way) lv1 (.slice none 0 0)) := hK1
  have hB : max way.size 100 ≤ 1099511627776 := by omega
  have HG : Hid (Good (max way.size 100) (start L way)) := start_good L way
  generalize max way.size 100 = B at *
  have HT1 : Hid (TrailAt w1 bx base tv0 ts0) := hTr.below HB1.out
  have hbw := hTr.box.lt
  have HAP : Hid (∀ k, walkS (w.heap.size + 1) lv1 (.slice none 0 0) k → ¬ trailS bx tv0 k) := fun k hk ht => by
    have h1 := hTr.lt k ht
    have h2 := (hK1.walk.lt k hk).1
    omega
  clear hA hK1 hw1 hr1 hR1 HK0 HBA hsA h
  obtain ⟨wb, hwb⟩ : ∃ wb, wb = w.heap.size + 1 := ⟨_, rfl⟩
  rw [← hwb] at HK1 HAP ⊢
  replace hwb : w.heap.size ≤ wb := by omega
  go_wp2
  go_loopw [] (fun wr => ∃ st lv mv f tv ts, TrailAt wr bx base tv ts ∧ (∀ k, walkS wb lv mv k → ¬ trailS bx tv k) ∧ ts.length + msr st ≤ 2 * B + 9000 ∧ ts0 ++ (goN ⟨0, false, false⟩ (start L way)).2.2 = ts ++ (goF ⟨0, false, false⟩ f st).2.2 ∧ Wk wr wb refV (notV bx) ⟨0, false, false⟩ tb tbase F st lv mv ∧ Good B st ∧ st.made = [] ∧ msr st < f ∧ (goN ⟨0, false, false⟩ (start L way)).1 = (goF ⟨0, false, false⟩ f st).1 ∧ (goN ⟨0, false, false⟩ (start L way)).2.1 = (goF ⟨0, false, false⟩ f st).2.1 ∧ Below base w wr) (fun wr => msrW wb wr)
  case atStart => exact ⟨start L way, lv1, _, _, tv0, ts0, HT1.out, HAP.out, by
      have := HG.out.ln
      unfold msr
      show ts0.length + ((start L way).left.length + 200 * (40 - 0)) ≤ _
      simp [start] at this ⊢; omega, rfl, HK1.out, HG.out, rfl, Nat.lt_succ_self _, rfl, rfl, HB1.out.mono (by omega)⟩
  case round =>
    obtain ⟨st, lv, mv, f, tv, ts, hTA, hap, hbd, htr, hW, hG, hmd, hf, hr1, hr2, hbl⟩ := hrel
    have HTA : Hid (TrailAt wr bx base tv ts) := hTA
    have HAP2 : Hid (∀ k, walkS wb lv mv k → ¬ trailS bx tv k) := hap
    have HTR : Hid (ts0 ++ (goN ⟨0, false, false⟩ (start L way)).2.2 = ts ++ (goF ⟨0, false, false⟩ f st).2.2) := htr
    clear hTA hap htr HT1 HAP
    have HW : Hid (Wk wr wb refV (notV bx) ⟨0, false, false⟩ tb tbase F st lv mv) := hW
    have HBL : Hid (Below base w wr) := hbl
    have HGo : Hid (Good B st) := hG
    cases hl : st.left with
    | nil =>
      have HNL : Hid ((goF ⟨0, false, false⟩ f st).2.2 = []) := by unfold Hid; rw [goF_nil hl]
      have HR1 : Hid ((goN ⟨0, false, false⟩ (start L way)).1 = 0 ∧ ansB (goN ⟨0, false, false⟩ (start L way)) = st.here) := by
        rw [goF_nil hl] at hr1 hr2
        refine ⟨hr1, ?_⟩
        unfold ansB
        rw [if_pos hr1, hr2]
      obtain ⟨_, _, _, _, _, c5, _, _, _⟩ := hW.walk.cs
      have hE := ends_p wr hW.walk
      rw [hl] at hE
      clear hW hG hbl hr1 hr2 HK1 HB1 HG hl
      go_wp2_with (go_at_call 47; refine hE.mono ?_; rintro e w2 ⟨rfl, hw2⟩; replace hw2 := hw2.symm; subst hw2)
      go_ret2
      exact ⟨by rw [HR1.out.1, HR1.out.2]; rfl, HBL.out, fun _ => ⟨tv, by rw [HTR.out, HNL.out, List.append_nil]; exact HTA.out⟩⟩
    | cons c rest =>
      have hE := ends_p wr hW.walk
      rw [hl] at hE
      have hwk := hW.walk
      rw [hl] at hwk
      have hln := hG.ln
      have hhh := hG.hh
      rw [hl, List.length_cons] at hln
      have hN := next_p c rest wr hwk (by omega)
      have HL : Hid (st.left = c :: rest) := hl
      by_cases h0 : (stepN ⟨0, false, false⟩ st c rest).1 = 0
      · have H0 : Hid ((stepN ⟨0, false, false⟩ st c rest).1 = 0) := h0
        have HE0 : Hid (errE (stepN ⟨0, false, false⟩ st c rest).1 = .nilIface) := by unfold Hid; rw [h0]; rfl
        have HGn : Hid (Good B (stepN ⟨0, false, false⟩ st c rest).2 ∧ (stepN ⟨0, false, false⟩ st c rest).2.made = []) := ⟨(step_good hG hl hW.tree.right h0).1, (step_keeps rfl h0).2.trans hmd⟩
        have HMS : Hid (msr (stepN ⟨0, false, false⟩ st c rest).2 < msr st) := (step_msr _ st c rest hl (right_short hW.tree.right) hG.hh h0).1
        obtain ⟨f, rfl⟩ : ∃ g, f = g + 1 := ⟨f - 1, by omega⟩
        rw [goF_ok hl h0] at hr1 hr2
        have HR1 : Hid ((goN ⟨0, false, false⟩ (start L way)).1 = (goF ⟨0, false, false⟩ f (stepN ⟨0, false, false⟩ st c rest).2).1 ∧ (goN ⟨0, false, false⟩ (start L way)).2.1 = (goF ⟨0, false, false⟩ f (stepN ⟨0, false, false⟩ st c rest).2).2.1) := ⟨hr1, hr2⟩
        have HMW : Hid (msrW wb wr = msr st) := msrW_eq hW
        have HTR2 : Hid (ts0 ++ (goN ⟨0, false, false⟩ (start L way)).2.2 = (ts ++ [(stepN ⟨0, false, false⟩ st c rest).2.here]) ++ (goF ⟨0, false, false⟩ f (stepN ⟨0, false, false⟩ st c rest).2).2.2) := by
          have := HTR.out
          rw [goF_ok hl h0] at this
          unfold Hid
          rw [this]; simp
        clear hW hG hbl hr1 hr2 HK1 HB1 HG hl hwk h0 hmd
        have hnf := fun W => nf_ne W 28 #[.pointer (some ⟨bx, 0, none⟩)]
        have hbds := HMS.out
        go_wp2_with (first
          | (go_at_call 47; refine hE.mono ?_; rintro e w2 ⟨rfl, hw2⟩; replace hw2 := hw2.symm; subst hw2)
          | (go_at_call 49; refine hN.mono ?_; rintro e w3 ⟨rfl, lv3, hk3, hr3⟩; have hW3 := HW.out.walked hk3 hr3)
          | (go_at_call 48; refine (step_ref c rest _ HL.out hW3.1 rfl HGo.out hB).mono ?_; rintro e w4 ⟨rfl, h4, _⟩; rw [HE0.out]; obtain ⟨lv4, mv4, F4, hF4, hW4, hr4⟩ := h4 H0.out; obtain rfl := hF4 rfl; obtain ⟨_, _, _, d3, _, d5, _, _, _⟩ := hW4.walk.cs))
        have hwl := (HW.out.walk.lt wb (.inl rfl)).2
        have hR := hW3.2.trans hr4
        have hbw4 : w.heap.size ≤ w4.heap.size := Nat.le_trans HBL.out.size hR.size
        have hT4 : TrailAt w4 bx base tv ts := HTA.out.keep (fun k hk => hR.same k (HTA.out.lt k hk) (fun e => by
          rcases e with e | e
          · exact HAP2.out k e hk
          · exact absurd rfl e.1))
        have HAP4 : Hid (∀ k, walkS wb lv4 mv4 k → ¬ trailS bx tv k) := fun k hk ht => by
          rcases hR.more k (.inl hk) with h1 | h1
          · rcases h1 with h1 | h1
            · exact HAP2.out k h1 ht
            · exact absurd rfl h1.1
          · have := HTA.out.lt k ht; omega
        have HB4 : Hid (Below base w w4) := HBL.out.trans ((hR.below (n := wb) (by omega) (fun k hk => by
          rcases hk with hk | hk
          · exact (HW.out.walk.lt k hk).1
          · exact absurd rfl hk.1)).mono (by omega))
        have HW4 : Hid (Wk w4 wb refV (notV bx) ⟨0, false, false⟩ tb tbase F4 (stepN ⟨0, false, false⟩ st c rest).2 lv4 mv4) := hW4
        have HT4 : Hid (TrailAt w4.drew bx base tv ts) := ⟨hT4.box, hT4.row, hT4.off⟩
        have hnote := note_p bx base tv ts (stepN ⟨0, false, false⟩ st c rest).2.here w4.drew HT4.out (show base ≤ w4.heap.size by omega) (by omega)
        have d3' : w4.drew.cell? ⟨wb, 3, none⟩ = some (notV bx) := d3
        have d5' : w4.drew.cell? ⟨wb, 5, none⟩ = some (.string (stepN ⟨0, false, false⟩ st c rest).2.here) := d5
        clear hW4 hT4 hR hr4 hE hN d3 d5
        go_region_with (go_at_call 28; refine hnote.mono ?_; rintro e w5 ⟨rfl, v5, hT5, hR5⟩)
        all_goals
          have hWk5 : Wk w5 wb refV (notV bx) ⟨0, false, false⟩ tb tbase F4 (stepN ⟨0, false, false⟩ st c rest).2 lv4 mv4 := by
            refine ⟨HW4.out.walk.keep (fun k hk => hR5.same k (HW4.out.walk.lt k hk).2 (HAP4.out k hk)), HW4.out.tree.keep (fun k hk => hR5.same k (HW4.out.tree.mine_lt hk) (fun ht => ?_)), HW4.out.apart⟩
            have h1 := hmine k hk
            rcases ht with rfl | ht
            · omega
            · have := (HT4.out.row.lt k ht).1; omega
          go_wp2
          go_roundw
          case rel =>
            refine ⟨_, lv4, mv4, f, v5, ts ++ [(stepN ⟨0, false, false⟩ st c rest).2.here], hT5, fun k hk ht => ?_, by rw [List.length_append]; simp; omega, HTR2.out, hWk5, HGn.out.1, HGn.out.2, by omega, HR1.out.1, HR1.out.2, HB4.out.trans ?_⟩
            · rcases hR5.more k ht with h1 | h1
              · exact HAP4.out k hk h1
              · have h2 := (HW4.out.walk.lt k hk).2
                have : w4.heap.size ≤ k := h1.1
                omega
            · exact (show Below base w4 w4.drew from ⟨rfl, rfl, rfl, Nat.le_refl _, fun _ _ => rfl⟩).trans (hR5.below (show base ≤ w4.heap.size by omega) (fun k hk => by
                rcases hk with rfl | hk
                · exact hbx
                · exact (HT4.out.row.lt k hk).1))
          case measure => rw [msrW_eq hWk5, HMW.out]; exact HMS.out
      · have HR1 : Hid ((goN ⟨0, false, false⟩ (start L way)).1 = (stepN ⟨0, false, false⟩ st c rest).1 ∧ ansB (goN ⟨0, false, false⟩ (start L way)) = ⟨#[]⟩) := by
          obtain ⟨f, rfl⟩ : ∃ g, f = g + 1 := ⟨f - 1, by omega⟩
          rw [goF_err hl h0] at hr1
          exact ⟨hr1, if_neg (by rw [hr1]; exact h0)⟩
        have H0 : Hid (errE (stepN ⟨0, false, false⟩ st c rest).1 = .iface 56 (.int .i64 (stepN ⟨0, false, false⟩ st c rest).1) ∧ (stepN ⟨0, false, false⟩ st c rest).1 ≠ 0) := ⟨errE_some h0, h0⟩
        have HM : Hid (st.made = []) := hmd
        clear hW hG hbl hr1 hr2 HK1 HB1 HG hl hwk h0 hmd
        go_wp2_with (first
          | (go_at_call 47; refine hE.mono ?_; rintro e w2 ⟨rfl, hw2⟩; replace hw2 := hw2.symm; subst hw2)
          | (go_at_call 49; refine hN.mono ?_; rintro e w3 ⟨rfl, lv3, hk3, hr3⟩; have hW3 := HW.out.walked hk3 hr3)
          | (go_at_call 48; refine (step_ref c rest _ HL.out hW3.1 rfl HGo.out hB).mono ?_; rintro e w4 ⟨rfl, _, h4⟩; rw [H0.out.1]; have hb4 := h4 H0.out.2)
          | (go_at_call 50; refine (undo_nil _ (hW3.1.below hb4) HM.out).mono ?_; rintro e w5 ⟨rfl, hb5⟩))
        go_ret2
        have hs3 := HBL.out.size
        have hwl := (HW.out.walk.lt wb (.inl rfl)).2
        have hb3 : Below base w w3 := HBL.out.trans ((hW3.2.below (n := wb) (by omega) (fun k hk => by
          rcases hk with hk | hk
          · exact (HW.out.walk.lt k hk).1
          · exact absurd rfl hk.1)).mono (by omega))
        have hs4 := hW3.2.size
        have hs5 := hb4.size
        exact ⟨by rw [HR1.out.1, HR1.out.2, H0.out.1]; rfl, hb3.trans ((hb4.mono (by omega)).trans (hb5.mono (by omega))), fun h => absurd h (by rw [HR1.out.1]; exact H0.out.2)⟩
/-- Where a way comes by. -/
def trailL (L : List Ent) (way : ByteArray) : List ByteArray := ⟨#[]⟩ :: (goN ⟨0, false, false⟩ (start L way)).2.2
theorem trail_new (w : World) : TrailAt ((w.alloc (.cells #[.string ⟨#[]⟩] 9)).alloc (.cells #[.slice (some ⟨w.heap.size, 0, none⟩) 1 1] 38)) (w.heap.size + 1) w.heap.size (.slice (some ⟨w.heap.size, 0, none⟩) 1 1) [⟨#[]⟩] := by
  refine ⟨?_, ?_, by simp [Value.ownBlock]⟩
  · have h := Boxed.new (w.alloc (.cells #[.string ⟨#[]⟩] 9)) 38 (.slice (some ⟨w.heap.size, 0, none⟩) 1 1)
    rw [World.size_alloc] at h
    exact h
  · exact World.ownsRow.alloc ⟨rfl, .inr ⟨w.heap.size, 1, #[.string ⟨#[]⟩], rfl, Nat.le_refl _, World.alloc_heap_new w _, Nat.le_refl _, by unfold maxLen; omega, rfl, rfl⟩⟩ _
set_option maxRecDepth 100000 in
set_option maxHeartbeats 4000000 in
theorem trail_ok (way : ByteArray) (L : List Ent) (w : World) (h : TreeOf w tb tbase F L) (hw : way.size ≤ 1099511627776) (h0 : (goN ⟨0, false, false⟩ (start L way)).1 = 0) :
    Calls Tryz.prog 11 #[.pointer (some ⟨tb, 0, none⟩), .string way] w fun e w' => ∃ v, e = .returned (.tuple #[v, .nilIface]) ∧ w'.ownsRow w.heap.size 9 1 v (trailL L way).length (tvs (trailL L way)) ∧ Below w.heap.size w w' := by
  have hb0 : Below w.heap.size w ((w.alloc (.cells #[.string ⟨#[]⟩] 9)).alloc (.cells #[.slice (some ⟨w.heap.size, 0, none⟩) 1 1] 38)) := ((Below.refl _ _).alloc (Nat.le_refl _) _).alloc (by simp) _
  have hL := lead_trail (w.heap.size + 1) w.heap.size _ [⟨#[]⟩] way L _ (h.below hb0) hw (by omega) (trail_new w) (by simp) (fun k hk => h.mine_lt hk)
  have HE : Hid (errE (goN ⟨0, false, false⟩ (start L way)).1 = .nilIface) := by unfold Hid; rw [h0]; rfl
  have H0 : Hid ((goN ⟨0, false, false⟩ (start L way)).1 = 0) := h0
  clear h0
  go_enter Tryz.func11, Tryz.ntmps11
  go_wp2_with (go_at_call 29; refine hL.mono ?_; rintro e w1 ⟨rfl, hb1, ht1⟩; rw [HE.out]; obtain ⟨v1, hT1⟩ := ht1 H0.out; have hc1 := hT1.box.cell)
  go_ret2
  exact ⟨v1, rfl, hT1.row, hb0.trans hb1⟩
set_option maxRecDepth 100000 in
set_option maxHeartbeats 4000000 in
theorem trail_err (way : ByteArray) (L : List Ent) (w : World) (h : TreeOf w tb tbase F L) (hw : way.size ≤ 1099511627776) (h0 : (goN ⟨0, false, false⟩ (start L way)).1 ≠ 0) :
    Calls Tryz.prog 11 #[.pointer (some ⟨tb, 0, none⟩), .string way] w fun e w' => e = .returned (.tuple #[.slice none 0 0, .iface 56 (.int .i64 (goN ⟨0, false, false⟩ (start L way)).1)]) ∧ Below w.heap.size w w' := by
  have hb0 : Below w.heap.size w ((w.alloc (.cells #[.string ⟨#[]⟩] 9)).alloc (.cells #[.slice (some ⟨w.heap.size, 0, none⟩) 1 1] 38)) := ((Below.refl _ _).alloc (Nat.le_refl _) _).alloc (by simp) _
  have hL := lead_trail (w.heap.size + 1) w.heap.size _ [⟨#[]⟩] way L _ (h.below hb0) hw (by omega) (trail_new w) (by simp) (fun k hk => h.mine_lt hk)
  have HE : Hid (errE (goN ⟨0, false, false⟩ (start L way)).1 = .iface 56 (.int .i64 (goN ⟨0, false, false⟩ (start L way)).1)) := errE_some h0
  clear h0
  go_enter Tryz.func11, Tryz.ntmps11
  go_wp2_with (go_at_call 29; refine hL.mono ?_; rintro e w1 ⟨rfl, hb1, ht1⟩; rw [HE.out])
  go_ret2
  exact ⟨rfl, hb0.trans hb1⟩
end Go.Proofs.YtcefgnjgcnboeaaGreatDoor

namespace Go.Proofs.YtcefgnjgcnboeaaGreatDoor
open Go Go.RowKit Go.Shelf

variable {W W' : World} {wb : Nat} {ab pas : Value} {m : Mn} {tb tbase : Nat} {F : Pic} {st : St} {lv mv lv' mv' : Value}
/-- The tree has changed under a walk. -/
theorem Wk.grown (h : Wk W wb ab pas m tb tbase F st lv mv) {F' : Pic} {L' : List Ent} (ht : TreeOf W' tb tbase F' L') (hr : Rnd (MineT tb F) (MineT tb F') W W') : Wk W' wb ab pas m tb tbase F' { st with L := L' } lv mv := by
  refine ⟨h.walk.keep (fun k hk => hr.same k (h.walk.lt k hk).2 (h.apart k hk)), ht, fun k hk hm => ?_⟩
  rcases hr.more k hm with h1 | h1
  · exact h.apart k hk h1
  · have := (h.walk.lt k hk).2; omega
theorem Wk.grown_rnd (h0 : m.ab ≠ 0) {F' : Pic} (hr : Rnd (MineT tb F) (MineT tb F') W W') : Rnd (mayS m wb tb F lv mv) (mayS m wb tb F' lv mv) W W' :=
  hr.weak (fun k hk => .inr ⟨h0, hk⟩) (fun k hk => by
    rcases hk with hk | ⟨_, hk⟩
    · exact .inr (.inl hk)
    · exact .inl hk)
theorem Wk.tbase_le (h : Wk W wb ab pas m tb tbase F st lv mv) : tbase ≤ W.heap.size := by
  have h1 := h.tree.at'.from'
  have h2 := h.tree.mine_lt (k := tb) (.inl rfl)
  omega
/-- A text more among those that a walk has made. -/
theorem WalkAt.made_grow {here : ByteArray} {left made made' : List ByteArray} {hops : Nat} (h : WalkAt W wb ab pas m tb here left hops made lv mv) (hk : ∀ k, k = wb ∨ lv.ownBlock = some k → W'.heap[k]? = W.heap[k]?) (hr : W'.ownsRow (wb + 1) 9 1 mv' made'.length (tvs made')) (hap : ∀ k, lv.ownBlock = some k → mv'.ownBlock ≠ some k) :
    WalkAt (W'.setCell ⟨wb, 8, none⟩ mv') wb ab pas m tb here left hops made' lv mv' := by
  have hl : W'.ownsRow (wb + 1) 9 1 lv left.length (tvs left.reverse) := row_loc h.left (fun k e => hk k (.inr e))
  exact ⟨set_block ((hk wb (.inl rfl)).trans h.head) _, row_loc hl (fun k e => Below.heap_setCell _ _ _ _ (by have := (hl.lt k e).1; show k ≠ wb; omega)), row_loc hr (fun k e => Below.heap_setCell _ _ _ _ (by have := (hr.lt k e).1; show k ≠ wb; omega)), hap⟩
theorem Wk.made_grow {q : ByteArray} (h : Wk W wb ab pas m tb tbase F st lv mv) {g cap : Nat} (hown : W'.ownsRow (wb + 1) 9 1 (.slice (some ⟨g, 0, none⟩) (st.made.length + 1) cap) (st.made.length + 1) (tvs st.made ++ [.string q])) (hg : (W.alloc (.cells #[.string q] 9)).grownBy W' mv.ownBlock)
    (hat : (Value.slice (some ⟨g, 0, none⟩) (st.made.length + 1) cap).ownBlock = mv.ownBlock ∨ (Value.slice (some ⟨g, 0, none⟩) (st.made.length + 1) cap).ownBlock = some (W.alloc (.cells #[.string q] 9)).heap.size) :
    Wk (W'.setCell ⟨wb, 8, none⟩ (.slice (some ⟨g, 0, none⟩) (st.made.length + 1) cap)) wb ab pas m tb tbase F { st with made := st.made ++ [q] } lv (.slice (some ⟨g, 0, none⟩) (st.made.length + 1) cap) ∧
    Rnd (mayS m wb tb F lv mv) (mayS m wb tb F lv (.slice (some ⟨g, 0, none⟩) (st.made.length + 1) cap)) W (W'.setCell ⟨wb, 8, none⟩ (.slice (some ⟨g, 0, none⟩) (st.made.length + 1) cap)) := by
  have hsg := hg.size
  simp at hsg
  have hlt := h.walk.lt
  have hwb := (hlt wb (.inl rfl)).2
  have hmb : ∀ k, mv.ownBlock = some k → wb < k := fun k e => by have := (h.walk.made.lt k e).1; omega
  have hold : ∀ k, k < W.heap.size → mv.ownBlock ≠ some k → W'.heap[k]? = W.heap[k]? := fun k hk hn => (hg.block k (by simp; omega) (fun e => hn e.symm)).trans (Below.heap_alloc W _ k hk)
  have hr : Rnd (walkS wb lv mv) (walkS wb lv (.slice (some ⟨g, 0, none⟩) (st.made.length + 1) cap)) W (W'.setCell ⟨wb, 8, none⟩ (.slice (some ⟨g, 0, none⟩) (st.made.length + 1) cap)) := by
    refine ⟨hg.os, hg.tape, hg.output, by simp [World.setCell]; omega, fun k hk hn => ?_, fun k hk => ?_⟩
    · exact (Below.heap_setCell _ _ _ _ (fun e => hn (.inl e))).trans (hold k hk (fun e => hn (.inr (.inr e))))
    · rcases hk with rfl | hk | hk
      · exact .inl (.inl rfl)
      · exact .inl (.inr (.inl hk))
      · rcases hat with h1 | h1
        · exact .inl (.inr (.inr (h1.symm.trans hk)))
        · have h2 := (hown.lt k hk).2
          rw [h1] at hk
          have h3 : W.heap.size + 1 = k := by simpa using hk
          exact .inr ⟨by omega, by simp [World.setCell]; omega⟩
  refine h.walked (h.walk.made_grow (made' := st.made ++ [q]) (fun k hk => hold k ?_ ?_) ?_ ?_) hr
  · rcases hk with rfl | hk
    · exact hwb
    · exact (hlt k (.inr (.inl hk))).2
  · rcases hk with rfl | hk
    · intro e; have := hmb _ e; omega
    · exact h.walk.apart k hk
  · rw [tvs_append, List.length_append]
    simpa [tvs] using hown
  · intro k hk e
    rcases hat with h1 | h1
    · exact h.walk.apart k hk (h1.symm.trans e)
    · rw [h1] at e
      have h3 : W.heap.size + 1 = k := by simpa using e
      have := (hlt k (.inr (.inl hk))).2
      omega
set_option maxRecDepth 100000 in
set_option maxHeartbeats 4000000 in
theorem layw_err (p : ByteArray) (w : World) (h : Wk w wb ab pas m tb tbase F st lv mv) (hp : p.size < 1152921504606846976) (h0 : putAll st.L (dirE p) ≠ 0) :
    Calls Tryz.prog 36 #[.pointer (some ⟨wb, 0, none⟩), .string p] w fun e w' => e = .returned (errE (putAll st.L (dirE p))) ∧ Below w.heap.size w w' := by
  have hP := put_p tb tbase F st.L (dirE p) hp w h.tree h.tbase_le
  obtain ⟨_, _, _, _, c4, _, _, _, _⟩ := h.walk.cs
  have HE : Hid (errE (putAll st.L (dirE p)) = .iface 56 (.int .i64 (putAll st.L (dirE p)))) := errE_some h0
  have H0 : Hid (putAll st.L (dirE p) ≠ 0) := h0
  clear h h0
  rw [HE.out] at hP ⊢
  generalize putAll st.L (dirE p) = n at *
  have hP' : Calls Tryz.prog 59 #[.pointer (some ⟨tb, 0, none⟩), .agg #[.string p, .int .i64 1, .int .i64 493, .string ⟨#[]⟩, .string ⟨#[]⟩]] w fun e w' => e = .returned (.iface 56 (.int .i64 n)) ∧ Below w.heap.size w w' := by
    refine hP.mono ?_
    rintro e w1 ⟨rfl, _, ⟨_, hb⟩ | ⟨h1, _⟩⟩
    · exact ⟨rfl, hb⟩
    · exact absurd h1 H0.out
  clear hP
  go_enter Tryz.func36, Tryz.ntmps36
  go_wp2_with (go_at_call 59; refine hP'.mono ?_; rintro e w1 ⟨rfl, hb1⟩)
  go_ret
  exact ⟨rfl, hb1⟩
set_option maxRecDepth 100000 in
set_option maxHeartbeats 4000000 in
theorem layw_ok (p : ByteArray) (w : World) (h : Wk w wb ab pas m tb tbase F st lv mv) (hp : p.size < 1152921504606846976) (hm : st.made.length ≤ 4398046511104) (hab : m.ab ≠ 0) (h0 : putAll st.L (dirE p) = 0) :
    Calls Tryz.prog 36 #[.pointer (some ⟨wb, 0, none⟩), .string p] w fun e w' => e = .returned .nilIface ∧ ∃ F' mv', Wk w' wb ab pas m tb tbase F' { st with L := laidL st.L (dirE p), made := st.made ++ [p] } lv mv' ∧ Rnd (mayS m wb tb F lv mv) (mayS m wb tb F' lv mv') w w' := by
  obtain ⟨i0, hi, hz0, hz1, hz2⟩ := info_parts info_str'
  have hP := put_p tb tbase F st.L (dirE p) hp w h.tree h.tbase_le
  obtain ⟨_, _, _, _, c4, _, _, _, _⟩ := h.walk.cs
  have H : Hid (Wk w wb ab pas m tb tbase F st lv mv) := h
  have HAB : Hid (m.ab ≠ 0) := hab
  rw [h0] at hP
  clear h h0 hab
  have hP' : Calls Tryz.prog 59 #[.pointer (some ⟨tb, 0, none⟩), .agg #[.string p, .int .i64 1, .int .i64 493, .string ⟨#[]⟩, .string ⟨#[]⟩]] w fun e w' => e = .returned .nilIface ∧ ∃ F', TreeOf w' tb tbase F' (laidL st.L (dirE p)) ∧ Rnd (MineT tb F) (MineT tb F') w w' := by
    refine hP.mono ?_
    rintro e w1 ⟨rfl, _, ⟨h1, _⟩ | ⟨_, h1⟩⟩
    · exact absurd rfl h1
    · exact ⟨rfl, h1⟩
  clear hP
  go_enter Tryz.func36, Tryz.ntmps36
  go_wp2_with (first
    | (go_at_call 59; refine hP'.mono ?_; rintro e w1 ⟨rfl, F', ht1, hr1⟩; have HW1 : Hid _ := H.out.grown ht1 hr1; have HR1 : Hid _ := Wk.grown_rnd (wb := wb) (lv := lv) (mv := mv) HAB.out hr1; obtain ⟨_, _, _, _, _, _, _, _, d8⟩ := HW1.out.walk.cs; have hwb1 := (HW1.out.walk.lt wb (.inl rfl)).2; have HMD : Hid (w1.ownsRow (wb + 1) 9 1 mv st.made.length (tvs st.made)) := HW1.out.walk.made; clear hP' ht1 hr1)
    | (at_builtin; refine wpList_append_own_at _ rfl _ _ 38 rfl (wb + 1) 9 i0 (.string ⟨#[]⟩) 1 16 Tryz.underlying38 hi hz0 hz1 hz2 rfl (by decide) _ _ _ rfl (HMD.out.alloc _) ⟨w1.heap.size, 0, none⟩ 1 1 [.string p] rfl rfl (cell_one_new _ _ _) (by simp [Value.oneCell']) (by unfold maxLen; omega) (by omega) (by simp; omega) ?_; intro v1 w2 hown1 hgrow1 hcap1 hat1; obtain ⟨g1, cap1, rfl⟩ := ownsRow_succ hown1; have hM := HW1.out.made_grow hown1 hgrow1 hat1; have hd2 : w2.heap[wb]? = _ := ((hgrow1.block wb (by simp; omega) (fun e => by have := (HW1.out.walk.made.lt wb e.symm).1; omega)).trans (Below.heap_alloc w1 _ wb hwb1)).trans HW1.out.walk.head; have e8 := wcell (j := 8) hd2 rfl; have f8 := wfroz hd2 8))
  go_ret
  exact ⟨rfl, F', _, hM.1, HR1.out.trans hM.2⟩
set_option maxRecDepth 100000 in
set_option maxHeartbeats 4000000 in
theorem resw_end (p : ByteArray) (w : World) (h : Wk w wb ab pas m tb tbase F st lv mv) (hp : p.size < 1152921504606846976) (hl : st.left = []) :
    Calls Tryz.prog 37 #[.pointer (some ⟨wb, 0, none⟩), .string p] w fun e w' => e = .returned (errV (checkN p)) ∧ Below w.heap.size w w' := by
  have hE := ends_p w h.walk
  rw [show st.left.isEmpty = true by rw [hl]; rfl] at hE
  go_enter Tryz.func37, Tryz.ntmps37
  go_wp2_with (first
    | (go_at_call 47; refine hE.mono ?_; rintro e w1 ⟨rfl, hw1⟩; replace hw1 := hw1.symm; subst hw1)
    | (go_at_call 60; refine (check_any p _ hp).mono ?_; rintro e w1 ⟨rfl, hb1⟩))
  go_ret
  exact ⟨rfl, hb1⟩
set_option maxRecDepth 100000 in
set_option maxHeartbeats 4000000 in
theorem resw_err (p : ByteArray) (w : World) (h : Wk w wb ab pas m tb tbase F st lv mv) (hp : p.size < 1152921504606846976) (hl : st.left ≠ []) (h0 : putAll st.L (dirE p) ≠ 0) :
    Calls Tryz.prog 37 #[.pointer (some ⟨wb, 0, none⟩), .string p] w fun e w' => e = .returned (errE (putAll st.L (dirE p))) ∧ Below w.heap.size w w' := by
  have hE := ends_p w h.walk
  rw [show st.left.isEmpty = false by cases hh : st.left with | nil => exact absurd hh hl | cons => rfl] at hE
  have hL := layw_err p w h hp h0
  clear h h0 hl
  generalize errE (putAll st.L (dirE p)) = en at *
  go_enter Tryz.func37, Tryz.ntmps37
  go_wp2_with (first
    | (go_at_call 47; refine hE.mono ?_; rintro e w1 ⟨rfl, hw1⟩; replace hw1 := hw1.symm; subst hw1)
    | (go_at_call 36; refine hL.mono ?_; rintro e w1 ⟨rfl, hb1⟩))
  go_ret
  exact ⟨rfl, hb1⟩
set_option maxRecDepth 100000 in
set_option maxHeartbeats 4000000 in
theorem resw_ok (p : ByteArray) (w : World) (h : Wk w wb ab pas m tb tbase F st lv mv) (hp : p.size < 1152921504606846976) (hm : st.made.length ≤ 4398046511104) (hab : m.ab ≠ 0) (hl : st.left ≠ []) (h0 : putAll st.L (dirE p) = 0) :
    Calls Tryz.prog 37 #[.pointer (some ⟨wb, 0, none⟩), .string p] w fun e w' => e = .returned .nilIface ∧ ∃ F' mv', Wk w' wb ab pas m tb tbase F' { st with L := laidL st.L (dirE p), made := st.made ++ [p] } lv mv' ∧ Rnd (mayS m wb tb F lv mv) (mayS m wb tb F' lv mv') w w' := by
  have hE := ends_p w h.walk
  rw [show st.left.isEmpty = false by cases hh : st.left with | nil => exact absurd hh hl | cons => rfl] at hE
  have hL := layw_ok p w h hp hm hab h0
  clear h h0 hl
  go_enter Tryz.func37, Tryz.ntmps37
  go_wp2_with (first
    | (go_at_call 47; refine hE.mono ?_; rintro e w1 ⟨rfl, hw1⟩; replace hw1 := hw1.symm; subst hw1)
    | (go_at_call 36; refine hL.mono ?_; rintro e w1 ⟨rfl, hx1⟩))
  go_ret
  exact ⟨rfl, hx1⟩
end Go.Proofs.YtcefgnjgcnboeaaGreatDoor

namespace Go.Proofs.YtcefgnjgcnboeaaGreatDoor
open Go Go.RowKit Go.Shelf

variable {W W' : World} {wb : Nat} {ab pas : Value} {m : Mn} {tb tbase : Nat} {F : Pic} {st : St} {lv mv lv' mv' : Value}
set_option maxRecDepth 100000 in
set_option maxHeartbeats 4000000 in
theorem step_lay_err (c : ByteArray) (n : Int) (hn : n ≠ 0) (w : World) (h : Wk w wb (.func (.func 36) #[] #[]) pas m tb tbase F st lv mv) (hF : Far st c) (hg : getE st.L (joinB st.here c) = none)
    (hA : ∀ W, Wk W wb (.func (.func 36) #[] #[]) pas m tb tbase F st lv mv → Calls Tryz.prog 36 #[.pointer (some ⟨wb, 0, none⟩), .string (joinB st.here c)] W fun e w' => e = .returned (errE n) ∧ Below W.heap.size W w') :
    Calls Tryz.prog 48 #[.pointer (some ⟨wb, 0, none⟩), .string c] w fun e w' => e = .returned (errE n) ∧ Below w.heap.size w w' := by
  obtain ⟨hn1, hn2, hs, hc⟩ := hF
  have hb1 := ne_dot hn1
  have hb2 := ne_dd hn2
  obtain ⟨_, _, _, _, c4, c5, _, _, _⟩ := h.walk.cs
  have hjs := join_size st.here c
  have hG := get_p tb tbase F st.L (joinB st.here c) (by omega) w h.tree
  rw [hg] at hG
  simp only [getV] at hG
  have H : Hid (Wk w wb (.func (.func 36) #[] #[]) pas m tb tbase F st lv mv) := h
  have HA : Hid _ := hA
  clear hn1 hn2 hg h hA
  rw [errE_some hn] at *
  go_enter Tryz.func48, Tryz.ntmps48
  go_wp2_with (first | (go_at_call 71; refine (join_p _ _ _ (by omega)).mono ?_; rintro e w1 ⟨rfl, hw1⟩; replace hw1 := hw1.symm; subst hw1) | (go_at_call 72; refine hG.mono ?_; rintro e1 w1 ⟨rfl, hb⟩; have HB : Hid (Below w.heap.size w (w1.alloc (.cells #[.string ⟨#[]⟩, .int .i64 0, .int .i64 0, .string ⟨#[]⟩, .string ⟨#[]⟩] 52))) := hb.alloc hb.size _; have HW := H.out.below HB.out; obtain ⟨d0, d1, d2, _, _, d5, _, _, _⟩ := HW.walk.cs; have hAA := HA.out _ HW; clear HW) | (go_at_call 36; refine hAA.mono ?_; rintro e w2 ⟨rfl, hb2x⟩))
  go_ret
  exact ⟨rfl, below_join HB.out hb2x⟩
set_option maxRecDepth 100000 in
set_option maxHeartbeats 4000000 in
theorem step_lay_ok (c : ByteArray) (L' : List Ent) (made' : List ByteArray) (w : World) (h : Wk w wb (.func (.func 36) #[] #[]) pas m tb tbase F st lv mv) (hF : Far st c) (hg : getE st.L (joinB st.here c) = none)
    (hA : ∀ W, Wk W wb (.func (.func 36) #[] #[]) pas m tb tbase F st lv mv → Calls Tryz.prog 36 #[.pointer (some ⟨wb, 0, none⟩), .string (joinB st.here c)] W fun e w' => e = .returned .nilIface ∧ ∃ F' mv', Wk w' wb (.func (.func 36) #[] #[]) pas m tb tbase F' { st with L := L', made := made' } lv mv' ∧ Rnd (mayS m wb tb F lv mv) (mayS m wb tb F' lv mv') W w') :
    Calls Tryz.prog 48 #[.pointer (some ⟨wb, 0, none⟩), .string c] w fun e w' => e = .returned .nilIface ∧ ∃ F' mv', Wk w' wb (.func (.func 36) #[] #[]) pas m tb tbase F' { st with L := L', here := joinB st.here c, made := made' } lv mv' ∧ Rnd (mayS m wb tb F lv mv) (mayS m wb tb F' lv mv') w w' := by
  obtain ⟨hn1, hn2, hs, hc⟩ := hF
  have hb1 := ne_dot hn1
  have hb2 := ne_dd hn2
  obtain ⟨_, _, _, _, c4, c5, _, _, _⟩ := h.walk.cs
  have hjs := join_size st.here c
  have hG := get_p tb tbase F st.L (joinB st.here c) (by omega) w h.tree
  rw [hg] at hG
  simp only [getV] at hG
  have H : Hid (Wk w wb (.func (.func 36) #[] #[]) pas m tb tbase F st lv mv) := h
  have HA : Hid _ := hA
  clear hn1 hn2 hg h hA
  go_enter Tryz.func48, Tryz.ntmps48
  go_wp2_with (first | (go_at_call 71; refine (join_p _ _ _ (by omega)).mono ?_; rintro e w1 ⟨rfl, hw1⟩; replace hw1 := hw1.symm; subst hw1) | (go_at_call 72; refine hG.mono ?_; rintro e1 w1 ⟨rfl, hb⟩; have HB : Hid (Below w.heap.size w (w1.alloc (.cells #[.string ⟨#[]⟩, .int .i64 0, .int .i64 0, .string ⟨#[]⟩, .string ⟨#[]⟩] 52))) := hb.alloc hb.size _; have HW := H.out.below HB.out; obtain ⟨d0, d1, d2, _, _, d5, _, _, _⟩ := HW.walk.cs; have hAA := HA.out _ HW; clear HW) | (go_at_call 36; refine hAA.mono ?_; rintro e w2 ⟨rfl, F', mv', hW2, hR2⟩; have HW2 : Hid _ := hW2; have HR2 : Hid _ := hR2; obtain ⟨_, _, _, _, _, g5, _, _, _⟩ := hW2.walk.cs; have f5 := wfroz hW2.walk.head 5; clear hW2 hR2 hAA))
  go_ret
  have hz := HW2.out.walked (HW2.out.walk.at_set (joinB st.here c)) (rnd_set _ wb 5 (.string (joinB st.here c)) _ (.inl rfl))
  exact ⟨rfl, F', mv', hz.1, (may_below HB.out).trans (HR2.out.trans hz.2)⟩
set_option maxRecDepth 100000 in
set_option maxHeartbeats 4000000 in
theorem step_reserve_err (c : ByteArray) (n : Int) (hn : n ≠ 0) (w : World) (h : Wk w wb (.func (.func 37) #[] #[]) pas m tb tbase F st lv mv) (hF : Far st c) (hg : getE st.L (joinB st.here c) = none)
    (hA : ∀ W, Wk W wb (.func (.func 37) #[] #[]) pas m tb tbase F st lv mv → Calls Tryz.prog 37 #[.pointer (some ⟨wb, 0, none⟩), .string (joinB st.here c)] W fun e w' => e = .returned (errE n) ∧ Below W.heap.size W w') :
    Calls Tryz.prog 48 #[.pointer (some ⟨wb, 0, none⟩), .string c] w fun e w' => e = .returned (errE n) ∧ Below w.heap.size w w' := by
  obtain ⟨hn1, hn2, hs, hc⟩ := hF
  have hb1 := ne_dot hn1
  have hb2 := ne_dd hn2
  obtain ⟨_, _, _, _, c4, c5, _, _, _⟩ := h.walk.cs
  have hjs := join_size st.here c
  have hG := get_p tb tbase F st.L (joinB st.here c) (by omega) w h.tree
  rw [hg] at hG
  simp only [getV] at hG
  have H : Hid (Wk w wb (.func (.func 37) #[] #[]) pas m tb tbase F st lv mv) := h
  have HA : Hid _ := hA
  clear hn1 hn2 hg h hA
  rw [errE_some hn] at *
  go_enter Tryz.func48, Tryz.ntmps48
  go_wp2_with (first | (go_at_call 71; refine (join_p _ _ _ (by omega)).mono ?_; rintro e w1 ⟨rfl, hw1⟩; replace hw1 := hw1.symm; subst hw1) | (go_at_call 72; refine hG.mono ?_; rintro e1 w1 ⟨rfl, hb⟩; have HB : Hid (Below w.heap.size w (w1.alloc (.cells #[.string ⟨#[]⟩, .int .i64 0, .int .i64 0, .string ⟨#[]⟩, .string ⟨#[]⟩] 52))) := hb.alloc hb.size _; have HW := H.out.below HB.out; obtain ⟨d0, d1, d2, _, _, d5, _, _, _⟩ := HW.walk.cs; have hAA := HA.out _ HW; clear HW) | (go_at_call 37; refine hAA.mono ?_; rintro e w2 ⟨rfl, hb2x⟩))
  go_ret
  exact ⟨rfl, below_join HB.out hb2x⟩
set_option maxRecDepth 100000 in
set_option maxHeartbeats 4000000 in
theorem step_reserve_ok (c : ByteArray) (L' : List Ent) (made' : List ByteArray) (w : World) (h : Wk w wb (.func (.func 37) #[] #[]) pas m tb tbase F st lv mv) (hF : Far st c) (hg : getE st.L (joinB st.here c) = none)
    (hA : ∀ W, Wk W wb (.func (.func 37) #[] #[]) pas m tb tbase F st lv mv → Calls Tryz.prog 37 #[.pointer (some ⟨wb, 0, none⟩), .string (joinB st.here c)] W fun e w' => e = .returned .nilIface ∧ ∃ F' mv', Wk w' wb (.func (.func 37) #[] #[]) pas m tb tbase F' { st with L := L', made := made' } lv mv' ∧ Rnd (mayS m wb tb F lv mv) (mayS m wb tb F' lv mv') W w') :
    Calls Tryz.prog 48 #[.pointer (some ⟨wb, 0, none⟩), .string c] w fun e w' => e = .returned .nilIface ∧ ∃ F' mv', Wk w' wb (.func (.func 37) #[] #[]) pas m tb tbase F' { st with L := L', here := joinB st.here c, made := made' } lv mv' ∧ Rnd (mayS m wb tb F lv mv) (mayS m wb tb F' lv mv') w w' := by
  obtain ⟨hn1, hn2, hs, hc⟩ := hF
  have hb1 := ne_dot hn1
  have hb2 := ne_dd hn2
  obtain ⟨_, _, _, _, c4, c5, _, _, _⟩ := h.walk.cs
  have hjs := join_size st.here c
  have hG := get_p tb tbase F st.L (joinB st.here c) (by omega) w h.tree
  rw [hg] at hG
  simp only [getV] at hG
  have H : Hid (Wk w wb (.func (.func 37) #[] #[]) pas m tb tbase F st lv mv) := h
  have HA : Hid _ := hA
  clear hn1 hn2 hg h hA
  go_enter Tryz.func48, Tryz.ntmps48
  go_wp2_with (first | (go_at_call 71; refine (join_p _ _ _ (by omega)).mono ?_; rintro e w1 ⟨rfl, hw1⟩; replace hw1 := hw1.symm; subst hw1) | (go_at_call 72; refine hG.mono ?_; rintro e1 w1 ⟨rfl, hb⟩; have HB : Hid (Below w.heap.size w (w1.alloc (.cells #[.string ⟨#[]⟩, .int .i64 0, .int .i64 0, .string ⟨#[]⟩, .string ⟨#[]⟩] 52))) := hb.alloc hb.size _; have HW := H.out.below HB.out; obtain ⟨d0, d1, d2, _, _, d5, _, _, _⟩ := HW.walk.cs; have hAA := HA.out _ HW; clear HW) | (go_at_call 37; refine hAA.mono ?_; rintro e w2 ⟨rfl, F', mv', hW2, hR2⟩; have HW2 : Hid _ := hW2; have HR2 : Hid _ := hR2; obtain ⟨_, _, _, _, _, g5, _, _, _⟩ := hW2.walk.cs; have f5 := wfroz hW2.walk.head 5; clear hW2 hR2 hAA))
  go_ret
  have hz := HW2.out.walked (HW2.out.walk.at_set (joinB st.here c)) (rnd_set _ wb 5 (.string (joinB st.here c)) _ (.inl rfl))
  exact ⟨rfl, F', mv', hz.1, (may_below HB.out).trans (HR2.out.trans hz.2)⟩
end Go.Proofs.YtcefgnjgcnboeaaGreatDoor

namespace Go.Proofs.YtcefgnjgcnboeaaGreatDoor
open Go Go.RowKit

theorem none_below {F : Pic} {L : List Ent} (h : Says F L) {p : ByteArray} (hp : p.size ≠ 0) (hn : L.find? (pathIs p) = none) : ∀ x ∈ L, (namesP p).isPrefixOf (namesP x.path) = false := by
  intro x hx
  cases hb : (namesP p).isPrefixOf (namesP x.path) with
  | false => rfl
  | true =>
    exfalso
    obtain ⟨t, ht⟩ := List.isPrefixOf_iff_prefix.1 hb
    have hF : F (namesP p) = none := by
      rcases h.at_text hp with ⟨h1, _⟩ | ⟨y, _, h2⟩
      · exact h1
      · rw [hn] at h2; cases h2
    have h1 := h.gone_all hF t
    rw [ht] at h1
    obtain ⟨y, hy, _⟩ := h.at' x hx
    rw [h1] at hy
    cases hy
theorem gone_laid {F : Pic} {L : List Ent} (h : Says F L) {p : ByteArray} (hp : p.size ≠ 0) (hn : L.find? (pathIs p) = none) : goneL (laidL L (dirE p)) (namesP p) = L := by
  have hnb := none_below h hp hn
  have hne : ∀ x ∈ L, pathIs p x = false := fun x hx => by
    have := List.find?_eq_none.1 hn x hx
    simpa using this
  have h1 : goneL (laidL L (dirE p)) (namesP p) = (laidL L (dirE p)).filter (notP p) := by
    unfold goneL
    refine List.filter_congr (fun x hx => ?_)
    unfold notP
    rcases laid_mem.1 hx with rfl | ⟨hx, _⟩
    · have e1 : (namesP p).isPrefixOf (namesP (dirE p).path) = true := List.isPrefixOf_iff_prefix.2 (List.prefix_refl _)
      have e2 : pathIs p (dirE p) = true := by
        have := find_laid (L := L) (e := dirE p)
        have := List.find?_some this
        exact this
      rw [e1, e2]
    · rw [hnb x hx, hne x hx]
  rw [h1]
  have h2 := but_laid h.order (dirE p)
  rw [show (dirE p).path = p from rfl] at h2
  rw [h2]
  exact List.filter_eq_self.2 (fun x hx => by unfold notP; rw [hne x hx]; rfl)
/-- The lists of a walk that lays: the first, and one more for each path that it has made. -/
structure Hist (LS : Nat → List Ent) (made : List ByteArray) : Prop where
  next : ∀ i p, made[i]? = some p → p.size ≠ 0 ∧ (LS i).find? (pathIs p) = none ∧ LS (i + 1) = laidL (LS i) (dirE p) ∧ ∃ F, Says F (LS i)
theorem Hist.nil (L : List Ent) : Hist (fun _ => L) [] := ⟨fun i p h => by simp at h⟩
theorem Hist.gone {LS : Nat → List Ent} {made : List ByteArray} (h : Hist LS made) {i : Nat} {p : ByteArray} (hi : made[i]? = some p) : goneL (LS (i + 1)) (namesP p) = LS i := by
  obtain ⟨h1, h2, h3, F, hF⟩ := h.next i p hi
  rw [h3]
  exact gone_laid hF h1 h2
theorem Hist.more {LS : Nat → List Ent} {made : List ByteArray} {L : List Ent} (h : Hist LS made) (hL : LS made.length = L) {p : ByteArray} (hp : p.size ≠ 0) (hn : L.find? (pathIs p) = none) (hF : ∃ F, Says F L) :
    ∃ LS', Hist LS' (made ++ [p]) ∧ LS' 0 = LS 0 ∧ LS' (made ++ [p]).length = laidL L (dirE p) := by
  refine ⟨fun i => if i ≤ made.length then LS i else laidL L (dirE p), ⟨fun i q hi => ?_⟩, ?_, ?_⟩
  · by_cases hlt : i < made.length
    · rw [List.getElem?_append_left hlt] at hi
      have := h.next i q hi
      rw [if_pos (by omega), if_pos (by omega)]
      exact this
    · have hle : i = made.length := by
        have := (List.getElem?_eq_some_iff.1 hi).1
        simp at this; omega
      subst hle
      rw [List.getElem?_append_right (Nat.le_refl _), Nat.sub_self] at hi
      simp at hi
      subst hi
      rw [if_pos (Nat.le_refl _), if_neg (by omega), hL]
      exact ⟨hp, hn, rfl, hF⟩
  · simp
  · simp; omega
/-- What is to be taken is there. -/
theorem Hist.there {LS : Nat → List Ent} {made : List ByteArray} (h : Hist LS made) {i : Nat} {p : ByteArray} (hi : made[i]? = some p) {F : Pic} (hs : Says F (LS (i + 1))) : ∃ x, F (namesP p) = some x := by
  obtain ⟨h1, h2, h3, _⟩ := h.next i p hi
  rcases hs.at_text h1 with ⟨_, h5⟩ | ⟨x, h5, _⟩
  · rw [h3] at h5
    have := find_laid (L := LS i) (e := dirE p)
    rw [show (dirE p).path = p from rfl, h5] at this
    cases this
  · exact ⟨x, h5⟩
end Go.Proofs.YtcefgnjgcnboeaaGreatDoor

namespace Go.Proofs.YtcefgnjgcnboeaaGreatDoor
open Go Go.RowKit Go.Shelf
attribute [local go_sem] Oper.semAt_some

variable {W W' : World} {wb : Nat} {ab pas : Value} {m : Mn} {tb tbase : Nat} {F : Pic} {st : St} {lv mv lv' mv' : Value}
def atR (made : List ByteArray) (i : Nat) : ByteArray := (made[i]?).getD ⟨#[]⟩
theorem atR_get {made : List ByteArray} {i : Nat} (h : i < made.length) : made[i]? = some (atR made i) := by
  unfold atR; rw [List.getElem?_eq_getElem h]; rfl
theorem made_cells {B n cap : Nat} {o : Option Addr} {made : List ByteArray} (hn : n = made.length) (h : W.ownsRow B 9 1 (.slice o n cap) n (tvs made)) : ∃ g, ∀ i, i < n → o = some ⟨g, 0, none⟩ ∧ W.cell? ⟨g, i, none⟩ = some (.string (atR made i)) := by
  subst hn
  rcases h.2 with ⟨_, h0⟩ | ⟨g, cap', cur, hv, _⟩
  · exact ⟨0, fun i hi => by omega⟩
  · cases hv
    refine ⟨g, fun i hi => ⟨rfl, ?_⟩⟩
    have hc := h.cells rfl i (.string (atR made i)) (by unfold tvs; rw [List.getElem?_map, atR_get hi]; rfl)
    rw [Addr.add_mid] at hc
    simpa using hc
/-- What stands between two rounds of undo. -/
structure UndoJ (LS : Nat → List Ent) (made : List ByteArray) (bx pw wb : Nat) (ab pas : Value) (m : Mn) (tb tbase : Nat) (st : St) (lv mv : Value) (j : Nat) (F' : Pic) (S : Nat → Prop) (W : World) : Prop where
  walk : Wk W wb ab pas m tb tbase F' { st with L := LS j } lv mv
  box : Boxed W bx 38 mv
  own : Boxed W pw 73 (.pointer (some ⟨wb, 0, none⟩))
  offb : ¬ MineT tb F' bx
  offp : ¬ MineT tb F' pw
  all : ∀ k, S k ↔ k = bx ∨ k = pw ∨ walkS wb lv mv k ∨ MineT tb F' k
theorem undoJ_local (LS : Nat → List Ent) (made : List ByteArray) (bx pw : Nat) : LocalQ (fun (pre : List Nat) S W => ∃ F', UndoJ LS made bx pw wb ab pas m tb tbase st lv mv (made.length - pre.length) F' S W) := by
  constructor
  · rintro pre S A B ⟨F', h⟩ hs hk
    refine ⟨F', ⟨h.walk.walk.keep (fun k e => hk k ((h.all k).2 (.inr (.inr (.inl e))))), h.walk.tree.keep (fun k e => hk k ((h.all k).2 (.inr (.inr (.inr e))))), h.walk.apart⟩, (hk bx ((h.all bx).2 (.inl rfl))).trans h.box, (hk pw ((h.all pw).2 (.inr (.inl rfl)))).trans h.own, h.offb, h.offp, h.all⟩
  · rintro pre S A ⟨F', h⟩ k hk
    rcases (h.all k).1 hk with rfl | rfl | hk | hk
    · exact h.box.lt
    · exact h.own.lt
    · exact (h.walk.walk.lt k hk).2
    · exact h.walk.tree.mine_lt hk
/-- One is taken. -/
theorem UndoJ.take {LS : Nat → List Ent} {made : List ByteArray} {bx pw j : Nat} {F' F2 : Pic} {S : Nat → Prop} (h : UndoJ LS made bx pw wb ab pas m tb tbase st lv mv (j + 1) F' S W) (ht : TreeOf W' tb tbase F2 (LS j)) (hr : Rnd (MineT tb F') (MineT tb F2) W W') :
    UndoJ LS made bx pw wb ab pas m tb tbase st lv mv j F2 (fun k => k = bx ∨ k = pw ∨ walkS wb lv mv k ∨ MineT tb F2 k) W' ∧ Rnd S (fun k => k = bx ∨ k = pw ∨ walkS wb lv mv k ∨ MineT tb F2 k) W W' := by
  have hoff : ∀ k, k < W.heap.size → ¬ MineT tb F' k → ¬ MineT tb F2 k := fun k hk hn hm => by
    rcases hr.more k hm with h1 | h1
    · exact hn h1
    · omega
  refine ⟨⟨?_, (hr.same bx h.box.lt h.offb).trans h.box, (hr.same pw h.own.lt h.offp).trans h.own, hoff bx h.box.lt h.offb, hoff pw h.own.lt h.offp, fun k => Iff.rfl⟩, hr.weak (fun k hk => (h.all k).2 (.inr (.inr (.inr hk)))) (fun k hk => ?_)⟩
  · exact h.walk.grown ht hr
  · rcases hk with hk | hk | hk | hk
    · exact .inr ((h.all k).2 (.inl hk))
    · exact .inr ((h.all k).2 (.inr (.inl hk)))
    · exact .inr ((h.all k).2 (.inr (.inr (.inl hk))))
    · exact .inl hk
set_option maxRecDepth 100000 in
set_option maxHeartbeats 8000000 in
theorem undo_p (LS : Nat → List Ent) (w : World) (h : Wk w wb ab pas m tb tbase F st lv mv) (hH : Hist LS st.made) (hL : LS st.made.length = st.L) (hml : st.made.length ≤ 4398046511104) :
    Calls Tryz.prog 50 #[.pointer (some ⟨wb, 0, none⟩)] w fun e w' => e = .returned (.tuple #[]) ∧ ∃ F', TreeOf w' tb tbase F' (LS 0) ∧ Rnd (fun k => walkS wb lv mv k ∨ MineT tb F k) (fun k => walkS wb lv mv k ∨ MineT tb F' k) w w' := by
  obtain ⟨_, _, _, _, _, _, _, _, c8⟩ := h.walk.cs
  obtain ⟨a, cp, rfl⟩ := row_form h.walk.made
  obtain ⟨g, hgc⟩ := made_cells rfl h.walk.made
  have hwl := (h.walk.lt wb (.inl rfl)).2
  have hb1 : Below w.heap.size w (w.alloc (.cells #[.pointer (some ⟨wb, 0, none⟩)] 73)) := (Below.refl _ _).alloc (Nat.le_refl _) _
  have c8' : (w.alloc (.cells #[.pointer (some ⟨wb, 0, none⟩)] 73)).cell? ⟨wb, 8, none⟩ = some (.slice a st.made.length cp) := (hb1.cell (p := ⟨wb, 8, none⟩) hwl).trans c8
  obtain ⟨n, hn⟩ : ∃ n : Nat, n = 3 := ⟨3, rfl⟩
  have H : Hid (Wk w wb ab pas m tb tbase F st lv (.slice a st.made.length cp)) := h
  have HH : Hid (Hist LS st.made ∧ LS st.made.length = st.L) := ⟨hH, hL⟩
  have HG : Hid (∀ i, i < st.made.length → a = some ⟨g, 0, none⟩) := fun i hi => (hgc i hi).1
  clear hn c8 h hH hL hgc
  refine (callsIn_wide (n := n)).1 ?_
  refine callsIn_of_wp_marks Tryz.func50 rfl trivial ?_ rfl
  simp only [Tryz.ntmps50, List.size_toArray, List.length_cons, List.length_nil, Nat.reduceAdd, Nat.reduceSub, Array.replicate_succ, Array.replicate_zero, List.push_toArray, List.append_toArray, List.nil_append, List.cons_append]
  gi_wp2_with (refine ⟨trivial, wd _, ?_⟩; gi_at_call 74; refine (callsIn_wide.2 (backwardS_p _ _ _ _)).mono ?_; rintro e w' ⟨rfl, rfl⟩)
  obtain ⟨W0, hW0⟩ : ∃ W0, ((w.alloc (.cells #[.pointer (some ⟨wb, 0, none⟩)] 73)).alloc (.cells #[.slice a st.made.length cp] 38)) = W0 := ⟨_, rfl⟩
  have hB0 : Below w.heap.size w W0 := by rw [← hW0]; exact hb1.alloc (by simp) _
  have hsz : W0.heap.size = w.heap.size + 2 := by rw [← hW0]; simp
  have hbx : Boxed W0 (w.heap.size + 1) 38 (.slice a st.made.length cp) := by
    have h := Boxed.new (w.alloc (.cells #[.pointer (some ⟨wb, 0, none⟩)] 73)) 38 (.slice a st.made.length cp); rw [World.size_alloc] at h; rw [← hW0]; exact h
  have hpw : Boxed W0 w.heap.size 73 (.pointer (some ⟨wb, 0, none⟩)) := by
    have h := Boxed.new w 73 (.pointer (some ⟨wb, 0, none⟩))
    rw [← hW0]
    exact (Below.heap_alloc _ _ _ (by simp)).trans h
  rw [hW0]
  have hJ0 : UndoJ LS st.made (w.heap.size + 1) w.heap.size wb ab pas m tb tbase st lv (.slice a st.made.length cp) st.made.length F (fun k => k = w.heap.size + 1 ∨ k = w.heap.size ∨ walkS wb lv (.slice a st.made.length cp) k ∨ MineT tb F k) W0 := by
    refine ⟨?_, hbx, hpw, fun e => ?_, fun e => ?_, fun k => Iff.rfl⟩
    · have := H.out.below hB0
      rw [HH.out.2]
      exact this
    · have := H.out.tree.mine_lt e; omega
    · have := H.out.tree.mine_lt e; omega
  clear hW0 c8' hb1 hbx hpw
  refine range_lawQ (xs := (List.range st.made.length).reverse) (Iv := RowI (w.heap.size + 1) g st.made.length cp a (atR st.made)) (va := fun i : Nat => #[.int .i64 (i : Nat), .string (atR st.made i)]) rfl eg_back (fun _ => rfl) (backS_gives g cp st.made.length (w.heap.size + 1) a (atR st.made) W0 (by omega)) (Below.refl _ _)
    (fun (pre : List Nat) S W => ∃ F', UndoJ LS st.made (w.heap.size + 1) w.heap.size wb ab pas m tb tbase st lv (.slice a st.made.length cp) (st.made.length - pre.length) F' S W) _ (undoJ_local LS st.made _ _) ?row ⟨F, hJ0⟩
    (fun x => { tmps := #[.pointer (some ⟨wb, 0, none⟩), .pointer (some ⟨w.heap.size, 0, none⟩), undef, .string (atR st.made x), .pointer (some ⟨wb, 0, none⟩), .pointer (some ⟨wb, 0, none⟩), .pointer (some ⟨wb, 8, none⟩), .slice a st.made.length cp, .func (.func 98) #[] #[.pointer (some ⟨w.heap.size + 1, 0, none⟩)], .int .i64 (x : Nat), .string (atR st.made x), undef, undef, undef, undef, undef, undef], defers := [] }) ?assign ?body ?done
  case row =>
    rintro pre S W ⟨F', h⟩
    refine ⟨h.box.cell, fun i hi => ?_⟩
    obtain ⟨g', hg'⟩ := made_cells rfl h.walk.walk.made
    obtain ⟨e1, e2⟩ := hg' i hi
    have e3 := HG.out i hi
    rw [e3] at e1
    cases e1
    exact ⟨e3, e2⟩
  case assign =>
    intro n' l x W K hK
    gi_wp2
    exact hK
  case body =>
    rintro n' l pre x S W ⟨F', hJ⟩ hx
    obtain ⟨j, hj⟩ : ∃ j, st.made.length - pre.length = j + 1 ∧ st.made.length - (pre ++ [x]).length = j ∧ x = j ∧ j < st.made.length := by
      have hle := hx.length_le
      simp at hle
      refine ⟨st.made.length - pre.length - 1, by omega, by simp; omega, ?_, by omega⟩
      have h1 : (List.range st.made.length).reverse[pre.length]? = some x := by
        obtain ⟨t, ht⟩ := hx
        rw [← ht]
        simp
      rw [List.getElem?_reverse (by simp; omega), List.length_range] at h1
      have h2 := (List.getElem?_eq_some_iff.1 h1).2
      rw [List.getElem_range] at h2
      omega
    obtain ⟨e1, e2, rfl, hjm⟩ := hj
    rw [e1] at hJ
    rw [e2]
    have hgt := atR_get hjm
    obtain ⟨nd, hnd⟩ := HH.out.1.there hgt hJ.walk.tree.says
    have hT := take_0 tb tbase F' (LS (x + 1)) (atR st.made x) (HH.out.1.next x _ hgt).1 W hJ.walk.tree nd hnd
    rw [HH.out.1.gone hgt] at hT
    have HJ : Hid _ := hJ
    have c1 := hJ.own.cell
    obtain ⟨_, _, _, _, c4, _, _, _, _⟩ := hJ.walk.walk.cs
    clear hJ e1 e2 hnd hx
    generalize atR st.made x = r at *
    gi_wp2_with (refine ⟨trivial, wd _, ?_⟩; gi_at_call 75; refine (callsIn_wide.2 hT).mono ?_; rintro e w' ⟨rfl, _, F2, ht2, hr2⟩)
    have hz := HJ.out.take ht2 hr2
    exact ⟨_, ⟨F2, hz.1⟩, hz.2⟩
  case done =>
    rintro D S W hD ⟨F', hJ⟩ hr hSD hK
    rw [show st.made.length - (List.range st.made.length).reverse.length = 0 by simp] at hJ
    have HJ : Hid _ := hJ
    have HR : Hid _ := hr
    clear hJ hr
    gi_wp2
    refine ⟨by simp, .inl ⟨_, _, rfl, run_takeDeferred hK, ?_⟩⟩
    refine ⟨_, results_none rfl _ _ _, rfl, F', ?_, ?_⟩
    · refine HJ.out.walk.tree.keep (fun k hk => ?_)
      exact (grownBy_putObj' W D _).block k (HJ.out.walk.tree.mine_lt hk) (fun e => hSD (by cases e; exact (HJ.out.all _).2 (.inr (.inr (.inr hk)))))
    · have hDl := (Array.getElem?_eq_some_iff.1 hK).1
      have hg' := grownBy_putObj' W D (.deferred none)
      have hs1 := HR.out.size
      have hs2 := hg'.size
      have hbl := HJ.out.box.lt
      have hpl := HJ.out.own.lt
      refine ⟨hg'.os.trans (HR.out.os.trans hB0.os), hg'.tape.trans (HR.out.tape.trans hB0.tape), hg'.output.trans (HR.out.output.trans hB0.output), by omega, fun k hk hn => ?_, fun k hk => ?_⟩
      · refine (hg'.block k (by omega) (fun e => by cases e; omega)).trans ((HR.out.same k (by omega) (fun e => ?_)).trans (hB0.block k hk))
        rcases e with e | e | e | e
        · omega
        · omega
        · exact hn (.inl e)
        · exact hn (.inr e)
      · have hS : S k := (HJ.out.all k).2 (by
          rcases hk with hk | hk
          · exact .inr (.inr (.inl hk))
          · exact .inr (.inr (.inr hk)))
        rcases HR.out.more k hS with h1 | h1
        · rcases h1 with e | e | e | e
          · exact .inr ⟨by omega, by omega⟩
          · exact .inr ⟨by omega, by omega⟩
          · exact .inl (.inl e)
          · exact .inl (.inr e)
        · exact .inr ⟨by omega, by omega⟩
end Go.Proofs.YtcefgnjgcnboeaaGreatDoor

namespace Go.Proofs.YtcefgnjgcnboeaaGreatDoor
open Go Go.RowKit Go.Shelf

variable {wb : Nat} {ab pas : Value} {m : Mn} {tb tbase : Nat} {F : Pic} {st : St} {lv mv lv' mv' : Value}
abbrev layV : Value := .func (.func 36) #[] #[]
abbrev resV : Value := .func (.func 37) #[] #[]
theorem step_klay (c : ByteArray) (rest : List ByteArray) (w : World) (hl : st.left = c :: rest) (h : Wk w wb layV pas m tb tbase F { st with left := rest } lv mv) (hm : m.ab = 1) (hmd : st.made.length ≤ 4398046511104) {B : Nat} (hg : Good B st) (hB : B ≤ 1099511627776) :
    Calls Tryz.prog 48 #[.pointer (some ⟨wb, 0, none⟩), .string c] w (StepPost w wb layV pas m tb tbase F st lv mv c rest) := by
  have hcs : c.size ≤ B := hg.ps c (by rw [hl]; simp)
  have hln := hg.ln
  rw [hl] at hln
  simp at hln
  have hh := hg.hh
  have hR : Right st.L := h.tree.right
  by_cases h1 : c = dotB
  · subst h1
    refine (step_dot w).mono ?_
    rintro e w' ⟨rfl, rfl⟩
    exact post_ok (st' := { st with left := rest }) (by unfold stepN; rw [if_pos rfl]) (fun _ => rfl) h (Rnd.refl _ _)
  · by_cases h2 : c = ddB
    · subst h2
      refine (step_dd w h hg.hs).mono ?_
      rintro e w' ⟨rfl, h3, h4⟩
      exact post_ok (by unfold stepN; rw [if_neg h1, if_pos rfl]) (fun _ => rfl) h3 h4
    · have hF : Far { st with left := rest } c := ⟨h1, h2, hg.hs, by omega⟩
      have hst : stepN m st c rest = match getE st.L (joinB st.here c) with | none => absN m st (joinB st.here c) rest | some e => thereN m st (joinB st.here c) rest e := by unfold stepN; rw [if_neg h1, if_neg h2]; rfl
      cases hge : getE st.L (joinB st.here c) with
      | none =>
        rw [hge] at hst
        have hjs := join_size st.here c
        have hps : (joinB st.here c).size < 1152921504606846976 := by have := hg.hs; omega
        have hab : m.ab ≠ 0 := by omega
        simp only [absN, hm] at hst
        unfold layS at hst
        by_cases h0 : putAll st.L (dirE (joinB st.here c)) = 0
        · rw [h0] at hst
          refine (step_lay_ok c (laidL st.L (dirE (joinB st.here c))) (st.made ++ [joinB st.here c]) w h hF hge (fun W hW => layw_ok _ W hW hps hmd hab h0)).mono ?_
          rintro e w' ⟨rfl, F', mv', h6, h7⟩
          exact post_ok hst (fun hz => absurd hz hab) h6 h7
        · refine (step_lay_err c _ h0 w h hF hge (fun W hW => layw_err (st := { st with left := rest }) _ W hW hps h0)).mono ?_
          rintro e w' ⟨rfl, h3⟩
          exact post_err h0 hst h3
      | some e =>
        rw [hge] at hst
        simp only [thereN] at hst
        cases h3 : isFile m e rest with
        | true =>
          rw [if_pos h3] at hst
          refine (step_file c e w h hF hge h3).mono ?_
          rintro e w' ⟨rfl, h4⟩
          exact post_err (by decide) hst h4
        | false =>
          rw [if_neg (by rw [h3]; simp)] at hst
          cases h4 : isLink m e rest with
          | true =>
            rw [if_pos h4] at hst
            unfold linkS at hst
            by_cases h5 : st.hops = 40
            · rw [if_pos h5] at hst
              refine (step_12 c e w h hF hge h4 h5).mono ?_
              rintro e w' ⟨rfl, h6⟩
              exact post_err (by decide) hst h6
            · rw [if_neg h5] at hst
              obtain ⟨he, _, _⟩ := get_mem hge
              refine (step_link c e w h hF hge h4 (wrong_link (hR e he) (link_kind h4)).1 (by show rest.length ≤ _; omega) hh h5).mono ?_
              rintro e w' ⟨rfl, lv3, h6, h7⟩
              exact post_ok hst (fun _ => rfl) h6 h7
          | false =>
            rw [if_neg (by rw [h4]; simp)] at hst
            refine (step_at c e w h hF hge h3 h4).mono ?_
            rintro e w' ⟨rfl, h6, h7⟩
            exact post_ok hst (fun _ => rfl) h6 h7
theorem step_kres (c : ByteArray) (rest : List ByteArray) (w : World) (hl : st.left = c :: rest) (h : Wk w wb resV pas m tb tbase F { st with left := rest } lv mv) (hm : m.ab = 2) (hmd : st.made.length ≤ 4398046511104) {B : Nat} (hg : Good B st) (hB : B ≤ 1099511627776) :
    Calls Tryz.prog 48 #[.pointer (some ⟨wb, 0, none⟩), .string c] w (StepPost w wb resV pas m tb tbase F st lv mv c rest) := by
  have hcs : c.size ≤ B := hg.ps c (by rw [hl]; simp)
  have hln := hg.ln
  rw [hl] at hln
  simp at hln
  have hh := hg.hh
  have hR : Right st.L := h.tree.right
  by_cases h1 : c = dotB
  · subst h1
    refine (step_dot w).mono ?_
    rintro e w' ⟨rfl, rfl⟩
    exact post_ok (st' := { st with left := rest }) (by unfold stepN; rw [if_pos rfl]) (fun _ => rfl) h (Rnd.refl _ _)
  · by_cases h2 : c = ddB
    · subst h2
      refine (step_dd w h hg.hs).mono ?_
      rintro e w' ⟨rfl, h3, h4⟩
      exact post_ok (by unfold stepN; rw [if_neg h1, if_pos rfl]) (fun _ => rfl) h3 h4
    · have hF : Far { st with left := rest } c := ⟨h1, h2, hg.hs, by omega⟩
      have hst : stepN m st c rest = match getE st.L (joinB st.here c) with | none => absN m st (joinB st.here c) rest | some e => thereN m st (joinB st.here c) rest e := by unfold stepN; rw [if_neg h1, if_neg h2]; rfl
      cases hge : getE st.L (joinB st.here c) with
      | none =>
        rw [hge] at hst
        have hjs := join_size st.here c
        have hps : (joinB st.here c).size < 1152921504606846976 := by have := hg.hs; omega
        have hab : m.ab ≠ 0 := by omega
        simp only [absN, hm] at hst
        by_cases hr : rest = []
        · subst hr
          rw [if_pos rfl] at hst
          by_cases h0 : checkN (joinB st.here c) = 0
          · rw [h0] at hst
            refine (step_reserve_ok c st.L st.made w h hF hge (fun W hW => (resw_end _ W hW hps rfl).mono ?_)).mono ?_
            · rintro e w' ⟨rfl, hb⟩
              exact ⟨by rw [h0]; rfl, F, mv, hW.below hb, may_below hb⟩
            · rintro e w' ⟨rfl, F', mv', h6, h7⟩
              exact post_ok hst (fun hz => absurd hz hab) h6 h7
          · refine (step_reserve_err c _ h0 w h hF hge (fun W hW => resw_end _ W hW hps rfl)).mono ?_
            rintro e w' ⟨rfl, h3⟩
            exact post_err h0 hst h3
        · rw [if_neg hr] at hst
          unfold layS at hst
          by_cases h0 : putAll st.L (dirE (joinB st.here c)) = 0
          · rw [h0] at hst
            refine (step_reserve_ok c (laidL st.L (dirE (joinB st.here c))) (st.made ++ [joinB st.here c]) w h hF hge (fun W hW => resw_ok _ W hW hps hmd hab hr h0)).mono ?_
            rintro e w' ⟨rfl, F', mv', h6, h7⟩
            exact post_ok hst (fun hz => absurd hz hab) h6 h7
          · refine (step_reserve_err c _ h0 w h hF hge (fun W hW => resw_err (st := { st with left := rest }) _ W hW hps hr h0)).mono ?_
            rintro e w' ⟨rfl, h3⟩
            exact post_err h0 hst h3
      | some e =>
        rw [hge] at hst
        simp only [thereN] at hst
        cases h3 : isFile m e rest with
        | true =>
          rw [if_pos h3] at hst
          refine (step_file c e w h hF hge h3).mono ?_
          rintro e w' ⟨rfl, h4⟩
          exact post_err (by decide) hst h4
        | false =>
          rw [if_neg (by rw [h3]; simp)] at hst
          cases h4 : isLink m e rest with
          | true =>
            rw [if_pos h4] at hst
            unfold linkS at hst
            by_cases h5 : st.hops = 40
            · rw [if_pos h5] at hst
              refine (step_12 c e w h hF hge h4 h5).mono ?_
              rintro e w' ⟨rfl, h6⟩
              exact post_err (by decide) hst h6
            · rw [if_neg h5] at hst
              obtain ⟨he, _, _⟩ := get_mem hge
              refine (step_link c e w h hF hge h4 (wrong_link (hR e he) (link_kind h4)).1 (by show rest.length ≤ _; omega) hh h5).mono ?_
              rintro e w' ⟨rfl, lv3, h6, h7⟩
              exact post_ok hst (fun _ => rfl) h6 h7
          | false =>
            rw [if_neg (by rw [h4]; simp)] at hst
            refine (step_at c e w h hF hge h3 h4).mono ?_
            rintro e w' ⟨rfl, h6, h7⟩
            exact post_ok hst (fun _ => rfl) h6 h7
end Go.Proofs.YtcefgnjgcnboeaaGreatDoor

namespace Go.Proofs.YtcefgnjgcnboeaaGreatDoor
open Go Go.RowKit

/-- A walk that began at the list L0. -/
def Began (L0 : List Ent) (st : St) : Prop := ∃ LS, Hist LS st.made ∧ LS 0 = L0 ∧ LS st.made.length = st.L
theorem Began.start (L : List Ent) (way : ByteArray) : Began L (start L way) := ⟨fun _ => L, Hist.nil L, rfl, rfl⟩
theorem Began.same {L0 : List Ent} {st st' : St} (h : Began L0 st) (h1 : st'.L = st.L) (h2 : st'.made = st.made) : Began L0 st' := by
  obtain ⟨LS, a, b, c⟩ := h
  exact ⟨LS, by rw [h2]; exact a, b, by rw [h1, h2]; exact c⟩
theorem Began.lay {L0 : List Ent} {st : St} {p : ByteArray} {rest : List ByteArray} (h : Began L0 st) (hF : ∃ F, Says F st.L) (hg : getE st.L p = none) (h0 : putAll st.L (dirE p) = 0) : Began L0 (layS st p rest).2 := by
  obtain ⟨LS, a, b, c⟩ := h
  have hp : p.size ≠ 0 := (check_facts (wrong_check (putAll_wrong h0))).1
  have hn : st.L.find? (pathIs p) = none := by
    unfold getE at hg
    rwa [if_neg hp] at hg
  obtain ⟨LS', a', b', c'⟩ := a.more c hp hn hF
  exact ⟨LS', a', b'.trans b, c'⟩
theorem step_began {L0 : List Ent} {m : Mn} {st : St} {c : ByteArray} {rest : List ByteArray} (h : Began L0 st) (hF : ∃ F, Says F st.L) (h0 : (stepN m st c rest).1 = 0) :
    Began L0 (stepN m st c rest).2 ∧ (stepN m st c rest).2.made.length ≤ st.made.length + 1 := by
  unfold stepN at h0 ⊢
  by_cases h1 : c = dotB
  · rw [if_pos h1]; exact ⟨h.same rfl rfl, Nat.le_succ _⟩
  · rw [if_neg h1] at h0 ⊢
    by_cases h2 : c = ddB
    · rw [if_pos h2]; exact ⟨h.same rfl rfl, Nat.le_succ _⟩
    · rw [if_neg h2] at h0 ⊢
      cases hg : getE st.L (joinB st.here c) with
      | none =>
        rw [hg] at h0
        simp only at h0 ⊢
        unfold absN at h0 ⊢
        split at h0
        · simp at h0
        · exact ⟨h.lay hF hg h0, by show (st.made ++ [_]).length ≤ _; simp⟩
        · split at h0
          · rename_i hrr
            rw [if_pos hrr]; exact ⟨h.same rfl rfl, Nat.le_succ _⟩
          · rename_i hrr
            rw [if_neg hrr]; exact ⟨h.lay hF hg h0, by show (st.made ++ [_]).length ≤ _; simp⟩
      | some e =>
        rw [hg] at h0
        simp only at h0 ⊢
        unfold thereN at h0 ⊢
        by_cases h3 : isFile m e rest = true
        · rw [if_pos h3] at h0; simp at h0
        · rw [if_neg h3] at h0 ⊢
          by_cases h4 : isLink m e rest = true
          · rw [if_pos h4] at h0 ⊢
            unfold linkS at h0 ⊢
            by_cases h5 : st.hops = 40
            · rw [if_pos h5] at h0; simp at h0
            · rw [if_neg h5]; exact ⟨h.same rfl rfl, Nat.le_succ _⟩
          · rw [if_neg h4]; exact ⟨h.same rfl rfl, Nat.le_succ _⟩
end Go.Proofs.YtcefgnjgcnboeaaGreatDoor

namespace Go.Proofs.YtcefgnjgcnboeaaGreatDoor
open Go Go.RowKit Go.Shelf

variable {tb tbase : Nat} {F : Pic}
/-- The tree behind a walk: with an error it is as it was. -/
def treeB (L : List Ent) (r : Int × St × List ByteArray) : List Ent := if r.1 = 0 then r.2.1.L else L
set_option maxRecDepth 100000 in
set_option maxHeartbeats 8000000 in
theorem lead_klay (way : ByteArray) (L : List Ent) (w : World) (h : TreeOf w tb tbase F L) (hw : way.size ≤ 1099511627776) :
    Calls Tryz.prog 29 #[.pointer (some ⟨tb, 0, none⟩), .string way, .agg #[layV, .bool true, .bool false, .nilFunc]] w fun e w' =>
      e = .returned (.tuple #[.string (ansB (goN ⟨1, true, false⟩ (start L way))), errE (goN ⟨1, true, false⟩ (start L way)).1]) ∧ ∃ F', TreeOf w' tb tbase F' (treeB L (goN ⟨1, true, false⟩ (start L way))) ∧ Rnd (MineT tb F) (MineT tb F') w w' := by
  have hnl := names_len way
  have hbA : Below w.heap.size w ((w.alloc (.cells #[layV, .bool true, .bool false, .nilFunc] 75)).alloc (.cells (wcells layV .nilFunc ⟨1, true, false⟩ tb ⟨#[]⟩ (.slice none 0 0) 0 (.slice none 0 0)) 100)) := ((Below.refl _ _).alloc (Nat.le_refl _) _).alloc (by simp) _
  have hW0 := walk_new (w.alloc (.cells #[layV, .bool true, .bool false, .nilFunc] 75)) layV .nilFunc ⟨1, true, false⟩ tb
  rw [World.size_alloc] at hW0
  have hK0 : Wk ((w.alloc (.cells #[layV, .bool true, .bool false, .nilFunc] 75)).alloc (.cells (wcells layV .nilFunc ⟨1, true, false⟩ tb ⟨#[]⟩ (.slice none 0 0) 0 (.slice none 0 0)) 100)) (w.heap.size + 1) layV .nilFunc ⟨1, true, false⟩ tb tbase F { L := L, here := ⟨#[]⟩, left := [], hops := 0, made := [] } (.slice none 0 0) (.slice none 0 0) :=
    ⟨hW0, h.below hbA, fun k hk => by
      rcases hk with rfl | hk | hk
      · exact h.not_mine (by omega)
      · simp [Value.ownBlock] at hk
      · simp [Value.ownBlock] at hk⟩
  have hA := ahead_p way _ hW0 (by omega) (by simp; omega)
  rw [List.append_nil] at hA
  have HK0 : Hid _ := hK0
  have HBA : Hid (Below w.heap.size w ((w.alloc (.cells #[layV, .bool true, .bool false, .nilFunc] 75)).alloc (.cells (wcells layV .nilFunc ⟨1, true, false⟩ tb ⟨#[]⟩ (.slice none 0 0) 0 (.slice none 0 0)) 100))) := hbA
  have hsA : ((w.alloc (.cells #[layV, .bool true, .bool false, .nilFunc] 75)).alloc (.cells (wcells layV .nilFunc ⟨1, true, false⟩ tb ⟨#[]⟩ (.slice none 0 0) 0 (.slice none 0 0)) 100)).heap.size = w.heap.size + 2 := by simp
  clear hK0 hbA hW0
  go_enter Tryz.func29, Tryz.ntmps29
  go_wp2_with fail
  refine hA.mono ?_
  rintro e w1 ⟨rfl, lv1, hw1, hr1⟩
  obtain ⟨hK1, hR1⟩ := HK0.out.walked hw1 hr1
  have hb1 : Below w.heap.size w w1 := HBA.out.trans (hr1.below (by omega) (fun k hk => by
    rcases hk with rfl | hk | hk
    · omega
    · simp [Value.ownBlock] at hk
    · simp [Value.ownBlock] at hk))
  have HK1 : Hid (Wk w1 (w.heap.size + 1) layV .nilFunc ⟨1, true, false⟩ tb tbase F (start L way) lv1 (.slice none 0 0)) := hK1
  have HB1 : Hid (Rnd (MineT tb F) (mayS ⟨1, true, false⟩ (w.heap.size + 1) tb F lv1 (.slice none 0 0)) w w1) := by
    refine ⟨hb1.os, hb1.tape, hb1.output, hb1.size, fun k hk _ => hb1.block k hk, fun k hk => ?_⟩
    rcases hk with hk | hk
    · have := hK1.walk.lt k hk; exact .inr ⟨by omega, by omega⟩
    · exact .inl hk.2
  have hB : max way.size 100 ≤ 1099511627776 := by omega
  have HG : Hid (Good (max way.size 100) (start L way)) := start_good L way
  have HM0 : Hid ((start L way).made.length + msr (start L way) ≤ 2 * max way.size 100 + 9000) := by
    show 0 + ((namesB way).length + 200 * (40 - 0)) ≤ _
    omega
  generalize max way.size 100 = B at *
  clear hA hK1 hw1 hr1 hR1 HK0 HBA hsA h hb1
  obtain ⟨wb, hwb⟩ : ∃ wb, wb = w.heap.size + 1 := ⟨_, rfl⟩
  rw [← hwb] at HK1 HB1 ⊢
  replace hwb : w.heap.size ≤ wb := by omega
  go_wp2
  go_loopw [] (fun wr => ∃ st lv mv Fr f, Wk wr wb layV .nilFunc ⟨1, true, false⟩ tb tbase Fr st lv mv ∧ Good B st ∧ Began L st ∧ st.made.length + msr st ≤ 2 * B + 9000 ∧ msr st < f ∧ (goN ⟨1, true, false⟩ (start L way)).1 = (goF ⟨1, true, false⟩ f st).1 ∧ (goN ⟨1, true, false⟩ (start L way)).2.1 = (goF ⟨1, true, false⟩ f st).2.1 ∧ Rnd (MineT tb F) (mayS ⟨1, true, false⟩ wb tb Fr lv mv) w wr) (fun wr => msrW wb wr)
  case atStart => exact ⟨start L way, lv1, _, F, _, HK1.out, HG.out, Began.start L way, HM0.out, Nat.lt_succ_self _, rfl, rfl, HB1.out⟩
  case round =>
    obtain ⟨st, lv, mv, Fr, f, hW, hG, hbg, hmm, hf, hr1, hr2, hbl⟩ := hrel
    have HW : Hid (Wk wr wb layV .nilFunc ⟨1, true, false⟩ tb tbase Fr st lv mv) := hW
    have HBL : Hid (Rnd (MineT tb F) (mayS ⟨1, true, false⟩ wb tb Fr lv mv) w wr) := hbl
    have HGo : Hid (Good B st) := hG
    have HBG : Hid (Began L st) := hbg
    have hmd : st.made.length ≤ 4398046511104 := by omega
    have HQQ : Hid (st.made.length + msr st ≤ 2 * B + 9000) := hmm
    cases hl : st.left with
    | nil =>
      have HR1 : Hid ((goN ⟨1, true, false⟩ (start L way)).1 = 0 ∧ ansB (goN ⟨1, true, false⟩ (start L way)) = st.here ∧ treeB L (goN ⟨1, true, false⟩ (start L way)) = st.L) := by
        rw [goF_nil hl] at hr1 hr2
        refine ⟨hr1, ?_, ?_⟩
        · unfold ansB
          rw [if_pos hr1, hr2]
        · unfold treeB
          rw [if_pos hr1, hr2]
      obtain ⟨_, _, _, _, _, c5, _, _, _⟩ := hW.walk.cs
      have hE := ends_p wr hW.walk
      rw [hl] at hE
      clear hW hG hbl hr1 hr2 HK1 HB1 HG hl hbg hmm hmd HM0
      go_wp2_with (go_at_call 47; refine hE.mono ?_; rintro e w2 ⟨rfl, hw2⟩; replace hw2 := hw2.symm; subst hw2)
      go_ret2
      exact ⟨by rw [HR1.out.1, HR1.out.2.1]; rfl, Fr, by rw [HR1.out.2.2]; exact HW.out.tree, HBL.out.weak (fun k hk => hk) (fun k hk => .inl (.inr ⟨by decide, hk⟩))⟩
    | cons c rest =>
      have hE := ends_p wr hW.walk
      rw [hl] at hE
      have hwk := hW.walk
      rw [hl] at hwk
      have hln := hG.ln
      have hhh := hG.hh
      rw [hl, List.length_cons] at hln
      have hN := next_p c rest wr hwk (by omega)
      have HL : Hid (st.left = c :: rest) := hl
      by_cases h0 : (stepN ⟨1, true, false⟩ st c rest).1 = 0
      · have H0 : Hid ((stepN ⟨1, true, false⟩ st c rest).1 = 0) := h0
        have HE0 : Hid (errE (stepN ⟨1, true, false⟩ st c rest).1 = .nilIface) := by unfold Hid; rw [h0]; rfl
        have hsb := step_began hbg ⟨_, hW.tree.says⟩ h0
        have hms := (step_msr _ st c rest hl (right_short hW.tree.right) hG.hh h0).1
        have HGn : Hid (Good B (stepN ⟨1, true, false⟩ st c rest).2 ∧ Began L (stepN ⟨1, true, false⟩ st c rest).2 ∧ (stepN ⟨1, true, false⟩ st c rest).2.made.length + msr (stepN ⟨1, true, false⟩ st c rest).2 ≤ 2 * B + 9000) := ⟨(step_good hG hl hW.tree.right h0).1, hsb.1, by have := hsb.2; omega⟩
        have HMS : Hid (msr (stepN ⟨1, true, false⟩ st c rest).2 < msr st) := hms
        obtain ⟨f, rfl⟩ : ∃ g, f = g + 1 := ⟨f - 1, by omega⟩
        rw [goF_ok hl h0] at hr1 hr2
        have HR1 : Hid ((goN ⟨1, true, false⟩ (start L way)).1 = (goF ⟨1, true, false⟩ f (stepN ⟨1, true, false⟩ st c rest).2).1 ∧ (goN ⟨1, true, false⟩ (start L way)).2.1 = (goF ⟨1, true, false⟩ f (stepN ⟨1, true, false⟩ st c rest).2).2.1) := ⟨hr1, hr2⟩
        have HMW : Hid (msrW wb wr = msr st) := msrW_eq hW
        clear hW hG hbl hr1 hr2 HK1 HB1 HG hl hwk h0 hbg hmm hms hsb HM0
        have hnf := nf_eq
        go_wp2_with (first
          | (go_at_call 47; refine hE.mono ?_; rintro e w2 ⟨rfl, hw2⟩; replace hw2 := hw2.symm; subst hw2)
          | (go_at_call 49; refine hN.mono ?_; rintro e w3 ⟨rfl, lv3, hk3, hr3⟩; have hW3 := HW.out.walked hk3 hr3)
          | (go_at_call 48; refine (step_klay c rest _ HL.out hW3.1 rfl hmd HGo.out hB).mono ?_; rintro e w4 ⟨rfl, h4, _⟩; rw [HE0.out]; obtain ⟨lv4, mv4, F4, _, hW4, hr4⟩ := h4 H0.out; obtain ⟨_, _, _, d3, _, _, _, _, _⟩ := hW4.walk.cs))
        go_roundw
        case rel => exact ⟨_, lv4, mv4, F4, f, hW4, HGn.out.1, HGn.out.2.1, HGn.out.2.2, by have := HMS.out; omega, HR1.out.1, HR1.out.2, HBL.out.trans (hW3.2.trans hr4)⟩
        case measure => rw [msrW_eq hW4, HMW.out]; exact HMS.out
      · have HR1 : Hid ((goN ⟨1, true, false⟩ (start L way)).1 = (stepN ⟨1, true, false⟩ st c rest).1 ∧ ansB (goN ⟨1, true, false⟩ (start L way)) = ⟨#[]⟩ ∧ treeB L (goN ⟨1, true, false⟩ (start L way)) = L) := by
          obtain ⟨f, rfl⟩ : ∃ g, f = g + 1 := ⟨f - 1, by omega⟩
          rw [goF_err hl h0] at hr1
          exact ⟨hr1, if_neg (by rw [hr1]; exact h0), if_neg (by rw [hr1]; exact h0)⟩
        have H0 : Hid (errE (stepN ⟨1, true, false⟩ st c rest).1 = .iface 56 (.int .i64 (stepN ⟨1, true, false⟩ st c rest).1) ∧ (stepN ⟨1, true, false⟩ st c rest).1 ≠ 0) := ⟨errE_some h0, h0⟩
        obtain ⟨LS, hls⟩ := hbg
        have HLS : Hid (Hist LS st.made ∧ LS 0 = L ∧ LS st.made.length = st.L) := hls
        clear hW hG hbl hr1 hr2 HK1 HB1 HG hl hwk h0 hls hmm HM0
        go_wp2_with (first
          | (go_at_call 47; refine hE.mono ?_; rintro e w2 ⟨rfl, hw2⟩; replace hw2 := hw2.symm; subst hw2)
          | (go_at_call 49; refine hN.mono ?_; rintro e w3 ⟨rfl, lv3, hk3, hr3⟩; have hW3 := HW.out.walked hk3 hr3)
          | (go_at_call 48; refine (step_klay c rest _ HL.out hW3.1 rfl hmd HGo.out hB).mono ?_; rintro e w4 ⟨rfl, _, h4⟩; rw [H0.out.1]; have hb4 := h4 H0.out.2)
          | (go_at_call 50; refine (undo_p LS _ (hW3.1.below hb4) HLS.out.1 HLS.out.2.2 hmd).mono ?_; rintro e w5 ⟨rfl, F5, ht5, hr5⟩))
        go_ret2
        have hr4 := HBL.out.trans (hW3.2.trans (may_below hb4))
        have hr6 := hr4.trans (hr5.weak (T := mayS ⟨1, true, false⟩ wb tb Fr lv3 mv) (T2 := MineT tb F5) (fun k hk => by
          rcases hk with hk | hk
          · exact .inl hk
          · exact .inr ⟨by decide, hk⟩) (fun k hk => .inl (.inr hk)))
        exact ⟨by rw [HR1.out.1, HR1.out.2.1, H0.out.1]; rfl, F5, by rw [HR1.out.2.2, ← HLS.out.2.1]; exact ht5, hr6⟩
set_option maxRecDepth 100000 in
set_option maxHeartbeats 8000000 in
theorem lead_kres (way : ByteArray) (L : List Ent) (w : World) (h : TreeOf w tb tbase F L) (hw : way.size ≤ 1099511627776) :
    Calls Tryz.prog 29 #[.pointer (some ⟨tb, 0, none⟩), .string way, .agg #[resV, .bool false, .bool false, .nilFunc]] w fun e w' =>
      e = .returned (.tuple #[.string (ansB (goN ⟨2, false, false⟩ (start L way))), errE (goN ⟨2, false, false⟩ (start L way)).1]) ∧ ∃ F', TreeOf w' tb tbase F' (treeB L (goN ⟨2, false, false⟩ (start L way))) ∧ Rnd (MineT tb F) (MineT tb F') w w' := by
  have hnl := names_len way
  have hbA : Below w.heap.size w ((w.alloc (.cells #[resV, .bool false, .bool false, .nilFunc] 75)).alloc (.cells (wcells resV .nilFunc ⟨2, false, false⟩ tb ⟨#[]⟩ (.slice none 0 0) 0 (.slice none 0 0)) 100)) := ((Below.refl _ _).alloc (Nat.le_refl _) _).alloc (by simp) _
  have hW0 := walk_new (w.alloc (.cells #[resV, .bool false, .bool false, .nilFunc] 75)) resV .nilFunc ⟨2, false, false⟩ tb
  rw [World.size_alloc] at hW0
  have hK0 : Wk ((w.alloc (.cells #[resV, .bool false, .bool false, .nilFunc] 75)).alloc (.cells (wcells resV .nilFunc ⟨2, false, false⟩ tb ⟨#[]⟩ (.slice none 0 0) 0 (.slice none 0 0)) 100)) (w.heap.size + 1) resV .nilFunc ⟨2, false, false⟩ tb tbase F { L := L, here := ⟨#[]⟩, left := [], hops := 0, made := [] } (.slice none 0 0) (.slice none 0 0) :=
    ⟨hW0, h.below hbA, fun k hk => by
      rcases hk with rfl | hk | hk
      · exact h.not_mine (by omega)
      · simp [Value.ownBlock] at hk
      · simp [Value.ownBlock] at hk⟩
  have hA := ahead_p way _ hW0 (by omega) (by simp; omega)
  rw [List.append_nil] at hA
  have HK0 : Hid _ := hK0
  have HBA : Hid (Below w.heap.size w ((w.alloc (.cells #[resV, .bool false, .bool false, .nilFunc] 75)).alloc (.cells (wcells resV .nilFunc ⟨2, false, false⟩ tb ⟨#[]⟩ (.slice none 0 0) 0 (.slice none 0 0)) 100))) := hbA
  have hsA : ((w.alloc (.cells #[resV, .bool false, .bool false, .nilFunc] 75)).alloc (.cells (wcells resV .nilFunc ⟨2, false, false⟩ tb ⟨#[]⟩ (.slice none 0 0) 0 (.slice none 0 0)) 100)).heap.size = w.heap.size + 2 := by simp
  clear hK0 hbA hW0
  go_enter Tryz.func29, Tryz.ntmps29
  go_wp2_with fail
  refine hA.mono ?_
  rintro e w1 ⟨rfl, lv1, hw1, hr1⟩
  obtain ⟨hK1, hR1⟩ := HK0.out.walked hw1 hr1
  have hb1 : Below w.heap.size w w1 := HBA.out.trans (hr1.below (by omega) (fun k hk => by
    rcases hk with rfl | hk | hk
    · omega
    · simp [Value.ownBlock] at hk
    · simp [Value.ownBlock] at hk))
  have HK1 : Hid (Wk w1 (w.heap.size + 1) resV .nilFunc ⟨2, false, false⟩ tb tbase F (start L way) lv1 (.slice none 0 0)) := hK1
  have HB1 : Hid (Rnd (MineT tb F) (mayS ⟨2, false, false⟩ (w.heap.size + 1) tb F lv1 (.slice none 0 0)) w w1) := by
    refine ⟨hb1.os, hb1.tape, hb1.output, hb1.size, fun k hk _ => hb1.block k hk, fun k hk => ?_⟩
    rcases hk with hk | hk
    · have := hK1.walk.lt k hk; exact .inr ⟨by omega, by omega⟩
    · exact .inl hk.2
  have hB : max way.size 100 ≤ 1099511627776 := by omega
  have HG : Hid (Good (max way.size 100) (start L way)) := start_good L way
  have HM0 : Hid ((start L way).made.length + msr (start L way) ≤ 2 * max way.size 100 + 9000) := by
    show 0 + ((namesB way).length + 200 * (40 - 0)) ≤ _
    omega
  generalize max way.size 100 = B at *
  clear hA hK1 hw1 hr1 hR1 HK0 HBA hsA h hb1
  obtain ⟨wb, hwb⟩ : ∃ wb, wb = w.heap.size + 1 := ⟨_, rfl⟩
  rw [← hwb] at HK1 HB1 ⊢
  replace hwb : w.heap.size ≤ wb := by omega
  go_wp2
  go_loopw [] (fun wr => ∃ st lv mv Fr f, Wk wr wb resV .nilFunc ⟨2, false, false⟩ tb tbase Fr st lv mv ∧ Good B st ∧ Began L st ∧ st.made.length + msr st ≤ 2 * B + 9000 ∧ msr st < f ∧ (goN ⟨2, false, false⟩ (start L way)).1 = (goF ⟨2, false, false⟩ f st).1 ∧ (goN ⟨2, false, false⟩ (start L way)).2.1 = (goF ⟨2, false, false⟩ f st).2.1 ∧ Rnd (MineT tb F) (mayS ⟨2, false, false⟩ wb tb Fr lv mv) w wr) (fun wr => msrW wb wr)
  case atStart => exact ⟨start L way, lv1, _, F, _, HK1.out, HG.out, Began.start L way, HM0.out, Nat.lt_succ_self _, rfl, rfl, HB1.out⟩
  case round =>
    obtain ⟨st, lv, mv, Fr, f, hW, hG, hbg, hmm, hf, hr1, hr2, hbl⟩ := hrel
    have HW : Hid (Wk wr wb resV .nilFunc ⟨2, false, false⟩ tb tbase Fr st lv mv) := hW
    have HBL : Hid (Rnd (MineT tb F) (mayS ⟨2, false, false⟩ wb tb Fr lv mv) w wr) := hbl
    have HGo : Hid (Good B st) := hG
    have HBG : Hid (Began L st) := hbg
    have hmd : st.made.length ≤ 4398046511104 := by omega
    have HQQ : Hid (st.made.length + msr st ≤ 2 * B + 9000) := hmm
    cases hl : st.left with
    | nil =>
      have HR1 : Hid ((goN ⟨2, false, false⟩ (start L way)).1 = 0 ∧ ansB (goN ⟨2, false, false⟩ (start L way)) = st.here ∧ treeB L (goN ⟨2, false, false⟩ (start L way)) = st.L) := by
        rw [goF_nil hl] at hr1 hr2
        refine ⟨hr1, ?_, ?_⟩
        · unfold ansB
          rw [if_pos hr1, hr2]
        · unfold treeB
          rw [if_pos hr1, hr2]
      obtain ⟨_, _, _, _, _, c5, _, _, _⟩ := hW.walk.cs
      have hE := ends_p wr hW.walk
      rw [hl] at hE
      clear hW hG hbl hr1 hr2 HK1 HB1 HG hl hbg hmm hmd HM0
      go_wp2_with (go_at_call 47; refine hE.mono ?_; rintro e w2 ⟨rfl, hw2⟩; replace hw2 := hw2.symm; subst hw2)
      go_ret2
      exact ⟨by rw [HR1.out.1, HR1.out.2.1]; rfl, Fr, by rw [HR1.out.2.2]; exact HW.out.tree, HBL.out.weak (fun k hk => hk) (fun k hk => .inl (.inr ⟨by decide, hk⟩))⟩
    | cons c rest =>
      have hE := ends_p wr hW.walk
      rw [hl] at hE
      have hwk := hW.walk
      rw [hl] at hwk
      have hln := hG.ln
      have hhh := hG.hh
      rw [hl, List.length_cons] at hln
      have hN := next_p c rest wr hwk (by omega)
      have HL : Hid (st.left = c :: rest) := hl
      by_cases h0 : (stepN ⟨2, false, false⟩ st c rest).1 = 0
      · have H0 : Hid ((stepN ⟨2, false, false⟩ st c rest).1 = 0) := h0
        have HE0 : Hid (errE (stepN ⟨2, false, false⟩ st c rest).1 = .nilIface) := by unfold Hid; rw [h0]; rfl
        have hsb := step_began hbg ⟨_, hW.tree.says⟩ h0
        have hms := (step_msr _ st c rest hl (right_short hW.tree.right) hG.hh h0).1
        have HGn : Hid (Good B (stepN ⟨2, false, false⟩ st c rest).2 ∧ Began L (stepN ⟨2, false, false⟩ st c rest).2 ∧ (stepN ⟨2, false, false⟩ st c rest).2.made.length + msr (stepN ⟨2, false, false⟩ st c rest).2 ≤ 2 * B + 9000) := ⟨(step_good hG hl hW.tree.right h0).1, hsb.1, by have := hsb.2; omega⟩
        have HMS : Hid (msr (stepN ⟨2, false, false⟩ st c rest).2 < msr st) := hms
        obtain ⟨f, rfl⟩ : ∃ g, f = g + 1 := ⟨f - 1, by omega⟩
        rw [goF_ok hl h0] at hr1 hr2
        have HR1 : Hid ((goN ⟨2, false, false⟩ (start L way)).1 = (goF ⟨2, false, false⟩ f (stepN ⟨2, false, false⟩ st c rest).2).1 ∧ (goN ⟨2, false, false⟩ (start L way)).2.1 = (goF ⟨2, false, false⟩ f (stepN ⟨2, false, false⟩ st c rest).2).2.1) := ⟨hr1, hr2⟩
        have HMW : Hid (msrW wb wr = msr st) := msrW_eq hW
        clear hW hG hbl hr1 hr2 HK1 HB1 HG hl hwk h0 hbg hmm hms hsb HM0
        have hnf := nf_eq
        go_wp2_with (first
          | (go_at_call 47; refine hE.mono ?_; rintro e w2 ⟨rfl, hw2⟩; replace hw2 := hw2.symm; subst hw2)
          | (go_at_call 49; refine hN.mono ?_; rintro e w3 ⟨rfl, lv3, hk3, hr3⟩; have hW3 := HW.out.walked hk3 hr3)
          | (go_at_call 48; refine (step_kres c rest _ HL.out hW3.1 rfl hmd HGo.out hB).mono ?_; rintro e w4 ⟨rfl, h4, _⟩; rw [HE0.out]; obtain ⟨lv4, mv4, F4, _, hW4, hr4⟩ := h4 H0.out; obtain ⟨_, _, _, d3, _, _, _, _, _⟩ := hW4.walk.cs))
        go_roundw
        case rel => exact ⟨_, lv4, mv4, F4, f, hW4, HGn.out.1, HGn.out.2.1, HGn.out.2.2, by have := HMS.out; omega, HR1.out.1, HR1.out.2, HBL.out.trans (hW3.2.trans hr4)⟩
        case measure => rw [msrW_eq hW4, HMW.out]; exact HMS.out
      · have HR1 : Hid ((goN ⟨2, false, false⟩ (start L way)).1 = (stepN ⟨2, false, false⟩ st c rest).1 ∧ ansB (goN ⟨2, false, false⟩ (start L way)) = ⟨#[]⟩ ∧ treeB L (goN ⟨2, false, false⟩ (start L way)) = L) := by
          obtain ⟨f, rfl⟩ : ∃ g, f = g + 1 := ⟨f - 1, by omega⟩
          rw [goF_err hl h0] at hr1
          exact ⟨hr1, if_neg (by rw [hr1]; exact h0), if_neg (by rw [hr1]; exact h0)⟩
        have H0 : Hid (errE (stepN ⟨2, false, false⟩ st c rest).1 = .iface 56 (.int .i64 (stepN ⟨2, false, false⟩ st c rest).1) ∧ (stepN ⟨2, false, false⟩ st c rest).1 ≠ 0) := ⟨errE_some h0, h0⟩
        obtain ⟨LS, hls⟩ := hbg
        have HLS : Hid (Hist LS st.made ∧ LS 0 = L ∧ LS st.made.length = st.L) := hls
        clear hW hG hbl hr1 hr2 HK1 HB1 HG hl hwk h0 hls hmm HM0
        go_wp2_with (first
          | (go_at_call 47; refine hE.mono ?_; rintro e w2 ⟨rfl, hw2⟩; replace hw2 := hw2.symm; subst hw2)
          | (go_at_call 49; refine hN.mono ?_; rintro e w3 ⟨rfl, lv3, hk3, hr3⟩; have hW3 := HW.out.walked hk3 hr3)
          | (go_at_call 48; refine (step_kres c rest _ HL.out hW3.1 rfl hmd HGo.out hB).mono ?_; rintro e w4 ⟨rfl, _, h4⟩; rw [H0.out.1]; have hb4 := h4 H0.out.2)
          | (go_at_call 50; refine (undo_p LS _ (hW3.1.below hb4) HLS.out.1 HLS.out.2.2 hmd).mono ?_; rintro e w5 ⟨rfl, F5, ht5, hr5⟩))
        go_ret2
        have hr4 := HBL.out.trans (hW3.2.trans (may_below hb4))
        have hr6 := hr4.trans (hr5.weak (T := mayS ⟨2, false, false⟩ wb tb Fr lv3 mv) (T2 := MineT tb F5) (fun k hk => by
          rcases hk with hk | hk
          · exact .inl hk
          · exact .inr ⟨by decide, hk⟩) (fun k hk => .inl (.inr hk)))
        exact ⟨by rw [HR1.out.1, HR1.out.2.1, H0.out.1]; rfl, F5, by rw [HR1.out.2.2, ← HLS.out.2.1]; exact ht5, hr6⟩
end Go.Proofs.YtcefgnjgcnboeaaGreatDoor

namespace Go.Proofs.YtcefgnjgcnboeaaGreatDoor
open Go Go.RowKit Go.Shelf

variable {tb tbase : Nat} {F : Pic}
def makeR (L : List Ent) (way : ByteArray) : Int × St × List ByteArray := goN ⟨1, true, false⟩ (start L way)
def placeR (L : List Ent) (way : ByteArray) : Int × St × List ByteArray := goN ⟨2, false, false⟩ (start L way)
set_option maxRecDepth 100000 in
theorem make_w (way : ByteArray) (L : List Ent) (w : World) (h : TreeOf w tb tbase F L) (hw : way.size ≤ 1099511627776) :
    Calls Tryz.prog 22 #[.pointer (some ⟨tb, 0, none⟩), .string way] w fun e w' =>
      e = .returned (.tuple #[.string (ansB (makeR L way)), errE (makeR L way).1]) ∧ ∃ F', TreeOf w' tb tbase F' (treeB L (makeR L way)) ∧ Rnd (MineT tb F) (MineT tb F') w w' := by
  have hL := lead_klay way L w h hw
  change Calls _ _ _ _ (fun e w' => e = .returned (.tuple #[.string (ansB (makeR L way)), errE (makeR L way).1]) ∧ ∃ F', TreeOf w' tb tbase F' (treeB L (makeR L way)) ∧ Rnd (MineT tb F) (MineT tb F') w w') at hL
  generalize makeR L way = r at *
  generalize errE r.1 = er at *
  go_enter Tryz.func22, Tryz.ntmps22
  go_wp2_with (go_at_call 29; refine hL.mono ?_; rintro e w1 ⟨rfl, hx⟩)
  go_ret2
  exact ⟨rfl, hx⟩
set_option maxRecDepth 100000 in
theorem place_w (way : ByteArray) (L : List Ent) (w : World) (h : TreeOf w tb tbase F L) (hw : way.size ≤ 1099511627776) :
    Calls Tryz.prog 23 #[.pointer (some ⟨tb, 0, none⟩), .string way] w fun e w' =>
      e = .returned (.tuple #[.string (ansB (placeR L way)), errE (placeR L way).1]) ∧ ∃ F', TreeOf w' tb tbase F' (treeB L (placeR L way)) ∧ Rnd (MineT tb F) (MineT tb F') w w' := by
  have hL := lead_kres way L w h hw
  change Calls _ _ _ _ (fun e w' => e = .returned (.tuple #[.string (ansB (placeR L way)), errE (placeR L way).1]) ∧ ∃ F', TreeOf w' tb tbase F' (treeB L (placeR L way)) ∧ Rnd (MineT tb F) (MineT tb F') w w') at hL
  generalize placeR L way = r at *
  generalize errE r.1 = er at *
  go_enter Tryz.func23, Tryz.ntmps23
  go_wp2_with (go_at_call 29; refine hL.mono ?_; rintro e w1 ⟨rfl, hx⟩)
  go_ret2
  exact ⟨rfl, hx⟩
end Go.Proofs.YtcefgnjgcnboeaaGreatDoor
