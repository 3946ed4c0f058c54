/- Package glob's (*List).read where a line adds a rule. -/
import Derived.Test.YthkbhcefckbcnaaGreatDoorRead
import Derived.Deep.RegionHeld3
import Derived.Deep.AppendLies
import Derived.Deep.RegionLaw
import Derived.Deep.DrawnRows
namespace Go.Proofs.YthkbhcefckbcnaaGreatDoor
open Go Go.RowKit Go.Shelf
attribute [local go_sem ↓] Go.wp_at_zero Go.wp_at_succ

theorem info_ruleAll : (Tryz.prog.info? 78).map (fun i => (i.zero, i.size, i.bytes)) = some (some (.agg #[.bool false, .slice none 0 0]), 2, 32) := by kernel_rfl
/-- What the two appends and the store leave. -/
theorem read_fin {w w3 w4 w5 : World} {l b g4 cap4 g5 cap5 : Nat} {rs : List Rule} {ps : List Pc} {m : Bool} {lv v : Value} {cs pcs : List Value} (hB3 : Below w.heap.size w w3) (hlw : l < w.heap.size) (hrep : RulesRep w rs cs)
    (hprep : PcsRep w3 ps pcs) (hpown : w3.ownsRow b 110 2 v ps.length pcs) (hb : w.heap.size ≤ b)
    (hgrow4 : (w3.alloc (.cells #[.bool true, .slice none 0 0] 110)).drew.grownBy w4 v.ownBlock) (hown4 : w4.ownsRow b 110 2 (.slice (some ⟨g4, 0, none⟩) (ps.length + 1) cap4) (ps.length + 1) (pcs ++ [.bool true, .slice none 0 0])) (hl4 : w4.ownsRow (l + 1) 78 2 lv rs.length cs)
    (hgrow5 : (w4.alloc (.cells #[.bool m, .slice (some ⟨g4, 0, none⟩) (ps.length + 1) cap4] 78)).grownBy w5 lv.ownBlock) (hown5 : w5.ownsRow (l + 1) 78 2 (.slice (some ⟨g5, 0, none⟩) (rs.length + 1) cap5) (rs.length + 1) (cs ++ [.bool m, .slice (some ⟨g4, 0, none⟩) (ps.length + 1) cap4])) (hbx5 : Boxed w5 l 53 lv) :
    ListIn (w5.setCell ⟨l, 0, none⟩ (.slice (some ⟨g5, 0, none⟩) (rs.length + 1) cap5)) l (rs ++ [(m, ps ++ [none])]) ∧ Below l w (w5.setCell ⟨l, 0, none⟩ (.slice (some ⟨g5, 0, none⟩) (rs.length + 1) cap5)) := by
  have s3 := hB3.size
  have h3b : Below w.heap.size w (w3.alloc (.cells #[.bool true, .slice none 0 0] 110)).drew := below_drew (hB3.alloc hB3.size _)
  have hB4 : Below w.heap.size w w4 := h3b.grown hgrow4 h3b.size (fun j hj => by have := (own_cell hpown).2 j hj; omega)
  have s4 := hB4.size
  have a3 : ∀ e, SameRows w3 (w3.alloc (.cells #[.bool true, .slice none 0 0] 110)).drew e := fun e k cur hk => (Below.heap_alloc w3 _ k (Array.getElem?_eq_some_iff.1 hk).1).trans hk
  have p34 : SameRows w3 w4 174 := same_trans (a3 _) (same_grown hgrow4 (fun k cur e1 e2 => by
    obtain ⟨_, cur2, e3⟩ := own_ge hpown k e1.symm
    have e5 := (a3 _ k _ e3).symm.trans e2
    simp at e5))
  have a4 : ∀ e, SameRows w4 (w4.alloc (.cells #[.bool m, .slice (some ⟨g4, 0, none⟩) (ps.length + 1) cap4] 78)) e := fun e k cur hk => (Below.heap_alloc w4 _ k (Array.getElem?_eq_some_iff.1 hk).1).trans hk
  have q45 : ∀ e, e ≠ 78 → e ≠ 53 → SameRows w4 (w5.setCell ⟨l, 0, none⟩ (.slice (some ⟨g5, 0, none⟩) (rs.length + 1) cap5)) e := fun e n1 n2 => same_trans (a4 e) (same_trans (same_grown hgrow5 (fun k cur e1 e2 => by
    obtain ⟨_, cur2, e3⟩ := own_ge hl4 k e1.symm
    have e5 := (a4 _ k _ e3).symm.trans e2
    simp at e5
    exact n1 e5.2.symm)) (same_set _ hbx5 (Ne.symm n2)))
  have hnew : PcsIn w4 0 (.slice (some ⟨g4, 0, none⟩) (ps.length + 1) cap4) (ps ++ [none]) := PcsIn.le (base := b) ⟨pcs ++ [.bool true, .slice none 0 0], (hprep.same p34).snoc (p := none) rfl rfl, by rw [List.length_append]; exact hown4⟩ (Nat.zero_le _)
  have qp := q45 174 (by decide) (by decide)
  have qq := q45 110 (by decide) (by decide)
  refine ⟨⟨_, cs ++ [.bool m, .slice (some ⟨g4, 0, none⟩) (ps.length + 1) cap4], Boxed.set _ hbx5, ?_, ?_⟩, ?_⟩
  · exact ((hrep.same (same_below _ hB4) (same_below _ hB4)).same qp qq).snoc (r := (m, ps ++ [none])) (hnew.same qp qq)
  · rw [List.length_append]; exact own_set _ hown5 (by omega)
  · refine Below.setCell (p := ⟨l, 0, none⟩) (((hB4.mono (Nat.le_of_lt hlw)).alloc (by omega) _).grown hgrow5 (by simp; omega) (fun j hj => by have := (own_cell hl4).2 j hj; omega)) (Nat.le_refl _) _

set_option maxRecDepth 100000 in
set_option maxHeartbeats 8000000 in
theorem read_rule (line : ByteArray) (l : Nat) (rs : List Rule) (r : Rule) (w : World) (hl : ListIn w l rs) (hz : line.size ≤ 1099511627776) (h : lineRule line = some (some r)) (hr : rs.length < 256) :
    Calls Tryz.prog 27 #[.pointer (some ⟨l, 0, none⟩), .string line] w fun e w' => e = .returned .nilIface ∧ ListIn w' l (rs ++ [r]) ∧ Below l w w' := by
  obtain ⟨i0, hi0, hz0, hz1, hz2⟩ := info_parts info_pieceAll
  obtain ⟨i1, hi1, hy0, hy1, hy2⟩ := info_parts info_ruleAll
  have hzt := trimB_size line
  obtain ⟨h0, h2, h1⟩ := lineRule_cases line (by rw [h]; simp)
  rw [h] at h1
  obtain ⟨t, e1⟩ : ∃ t, trimB line = t := ⟨_, rfl⟩
  rw [e1] at h0 h1 h2 hzt
  obtain ⟨ps, hp, hrr⟩ : ∃ ps, patOf (restB t) = some ps ∧ r = (markB t, ps ++ [none]) := by
    cases e : patOf (restB t) with
    | none => rw [e] at h1; cases h1
    | some ps => rw [e] at h1; exact ⟨ps, rfl, by simpa using h1⟩
  have h3 : t[0].toNat ≠ 35 := fun e => h2 (by rw [un_getElem? t 0 h0]; congr 1; exact UInt8.toNat_inj.1 e)
  have h4 : t.toList.isEmpty = false := (isEmpty_false _).2 h0
  have d2 : (0 : Int) < (t.size : Int) := by omega
  have h6 : ((rs.length : Int) == 256) = false := by simp; omega
  have hzr := restB_size t
  have hpl : ps.length ≤ 1099511627776 := by have := (pat_facts hp).1; omega
  have HL : Hid (ListIn w l rs) := hl
  have HR : Hid (∀ W, Calls Tryz.prog 58 #[.string (restB t)] W fun e w' => ∃ v, e = .returned (.tuple #[v, .nilIface]) ∧ PcsIn w' W.heap.size v ps ∧ Below W.heap.size W w') := fun W =>
    (readPattern_p (restB t) W (by omega)).mono fun e w' hpost => by
      rcases hpost with ⟨⟨ps2, v, hps, hv, he⟩ | ⟨hn, he⟩, hb⟩
      · rw [hp] at hps; cases hps; exact ⟨v, he, hv, hb⟩
      · rw [hp] at hn; cases hn
  have hcut := cutMark_p t
  have hzc := cutB_size t
  clear h h1 h2 hl hp
  subst hrr
  cases hm : markB t
  · rw [restB_plain t hm] at HR
    rw [hm] at hcut
    clear hm
    generalize cutB t = c at *
    go_enter Tryz.func27, Tryz.ntmps27
    go_wp2_with (first
      | (go_at_call 56; refine (trim_p _ _ (by omega)).mono ?_; rintro e w' ⟨rfl, hB⟩; rw [e1]; obtain ⟨o, c2, hc⟩ := (HL.out.below hB).cell)
      | (go_at_call 57; refine (hcut _).mono ?_; rintro e w2 ⟨rfl, rfl⟩)
      | (go_at_call 58; refine (HR.out _).mono ?_; rintro e w3 ⟨v, rfl, hv, hB2⟩))
    have hB3 : Below w.heap.size w w3 := hB.trans (hB2.mono hB.size)
    obtain ⟨lv, cs, hbx0, hrep, hown0⟩ := HL.out
    have hbx := boxed_below hbx0 hB3
    have hown := own_below hown0 hB3
    obtain ⟨pcs, hprep, hpown⟩ := hv
    have hlw : l < w.heap.size := hbx0.lt
    have hs3 := hB3.size
    have hs2 := hB.size
    have hs23 := hB2.size
    have av : v.ownBlock ≠ some l := fun e => by have := (own_cell hpown).2 _ e; omega
    have al : lv.ownBlock ≠ some l := fun e => by have := (own_cell hown).2 _ e; omega
    have hcl := hbx.cell
    have hfl := hbx.frozen
    clear hc
    have hst : SameRows w3 (w3.alloc (.cells #[.bool true, .slice none 0 0] 110)).drew 78 := fun k cur hk => (Below.heap_alloc w3 _ k (Array.getElem?_eq_some_iff.1 hk).1).trans hk
    have hnr : ∀ k cur, v.ownBlock = some k → (w3.alloc (.cells #[.bool true, .slice none 0 0] 110)).drew.heap[k]? ≠ some (.cells cur 78 (0, 0)) := fun k cur e1 e2 => by
      obtain ⟨_, cur2, e3⟩ := own_ge hpown k e1.symm
      have e4 := (Below.heap_alloc w3 (.cells #[.bool true, .slice none 0 0] 110) k (Array.getElem?_eq_some_iff.1 e3).1).trans e3
      have e5 := e4.symm.trans e2
      simp at e5
    have HA : Hid (∀ w4, (w3.alloc (.cells #[.bool true, .slice none 0 0] 110)).drew.grownBy w4 v.ownBlock → w4.ownsRow (l + 1) 78 2 lv rs.length cs ∧ Boxed w4 l 53 lv) := fun w4 hg =>
      ⟨own_same hown (same_trans hst (same_grown hg hnr)), Boxed.kept (W := (w3.alloc (.cells #[.bool true, .slice none 0 0] 110)).drew) (hbx.alloc _) hg (Ne.symm av)⟩
    clear hst hnr
    have hne3 := World.new_ne w3 ⟨l, 0, none⟩ hcl
    have hca : (w3.alloc (.cells #[.bool true, .slice none 0 0] 110)).cell? ⟨l, 0, none⟩ = some lv := (World.cell?_alloc_lt _ _ ⟨l, 0, none⟩ hbx.lt).trans hcl
    have hcb : (w3.alloc (.cells #[.bool true, .slice none 0 0] 110)).drew.cell? ⟨l, 0, none⟩ = some lv := hca
    go_region_law (first
        | (refine step_append_lies _ (by rfl) (.tmp 47) (.tmp 49) 76 (by rfl) w2.heap.size 110 i0 (.agg #[.bool false, .slice none 0 0]) 2 32 Tryz.underlying76 hi0 hz0 hz1 hz2 rfl (by omega) v ps.length pcs (by rfl) ((hpown.alloc _).drew)
            ⟨w3.heap.size, 0, none⟩ 1 1 [.bool true, .slice none 0 0] (by rfl) (by rfl) (World.news_of_block (cs := #[.bool true, .slice none 0 0]) (t := 110) (fr := (0, 0)) (heap_alloc_new w3 _)) (by simp [Value.oneCell'])
            (by omega) (by unfold maxLen; omega) (by omega) (by simp; omega) (w3.heap.size + 1) (by simp) ?_; intro g4 cap4 w4 hown4 hgrow4 hat4 hlt4; obtain ⟨hl4, hbx4⟩ := HA.out w4 hgrow4; have hc4 := hbx4.cell; have hlt6 := hbx4.lt; have hne4 := World.new_ne w4 ⟨l, 0, none⟩ hc4; have hcd : (w4.alloc (.cells #[.bool false, .slice (some ⟨g4, 0, none⟩) (ps.length + 1) cap4] 78)).cell? ⟨l, 0, none⟩ = some lv := (World.cell?_alloc_lt _ _ ⟨l, 0, none⟩ hbx4.lt).trans hc4)
        | (refine step_append_lies _ (by rfl) (.tmp 47) (.tmp 49) 76 (by rfl) w2.heap.size 110 i0 (.agg #[.bool false, .slice none 0 0]) 2 32 Tryz.underlying76 hi0 hz0 hz1 hz2 rfl (by omega) v ps.length pcs (by rfl) (hpown.alloc _)
            ⟨w3.heap.size, 0, none⟩ 1 1 [.bool true, .slice none 0 0] (by rfl) (by rfl) (World.news_of_block (cs := #[.bool true, .slice none 0 0]) (t := 110) (fr := (0, 0)) (heap_alloc_new w3 _)) (by simp [Value.oneCell'])
            (by omega) (by unfold maxLen; omega) (by omega) (by simp; omega) (w3.heap.size + 1) (by simp) ?_; intro g4 cap4 w4 hown4 hgrow4 hat4 hlt4; obtain ⟨hl4, hbx4⟩ := HA.out w4 hgrow4; have hc4 := hbx4.cell; have hlt6 := hbx4.lt; have hne4 := World.new_ne w4 ⟨l, 0, none⟩ hc4; have hcd : (w4.alloc (.cells #[.bool false, .slice (some ⟨g4, 0, none⟩) (ps.length + 1) cap4] 78)).cell? ⟨l, 0, none⟩ = some lv := (World.cell?_alloc_lt _ _ ⟨l, 0, none⟩ hbx4.lt).trans hc4)
        | (refine step_append_lies _ (by rfl) (.tmp 45) (.tmp 52) 51 (by rfl) (l + 1) 78 i1 (.agg #[.bool false, .slice none 0 0]) 2 32 Tryz.underlying51 hi1 hy0 hy1 hy2 rfl (by omega) lv rs.length cs (by rfl) (hl4.alloc _)
            ⟨w4.heap.size, 0, none⟩ 1 1 [.bool false, .slice (some ⟨g4, 0, none⟩) (ps.length + 1) cap4] (by rfl) (by rfl) (World.news_of_block (cs := #[.bool false, .slice (some ⟨g4, 0, none⟩) (ps.length + 1) cap4]) (t := 78) (fr := (0, 0)) (heap_alloc_new w4 _)) (by simp [Value.oneCell'])
            (by omega) (by unfold maxLen; omega) (by omega) (by simp; omega) (w4.heap.size + 1) (by simp) ?_; intro g5 cap5 w5 hown5 hgrow5 hat5 hlt5; have hbx5 := Boxed.kept (hbx4.alloc _) hgrow5 (Ne.symm al); have hc5 := hbx5.cell; have hf5 := hbx5.frozen)
        | (refine step_append_lies _ (by rfl) (.tmp 45) (.tmp 52) 51 (by rfl) (l + 1) 78 i1 (.agg #[.bool false, .slice none 0 0]) 2 32 Tryz.underlying51 hi1 hy0 hy1 hy2 rfl (by omega) lv rs.length cs (by rfl) ((hl4.alloc _).drew)
            ⟨w4.heap.size, 0, none⟩ 1 1 [.bool false, .slice (some ⟨g4, 0, none⟩) (ps.length + 1) cap4] (by rfl) (by rfl) (World.news_of_block (cs := #[.bool false, .slice (some ⟨g4, 0, none⟩) (ps.length + 1) cap4]) (t := 78) (fr := (0, 0)) (heap_alloc_new w4 _)) (by simp [Value.oneCell'])
            (by omega) (by unfold maxLen; omega) (by omega) (by simp; omega) (w4.heap.size + 1) (by simp) ?_; intro g5 cap5 w5 hown5 hgrow5 hat5 hlt5; have hbx5 := Boxed.kept (hbx4.alloc _) hgrow5 (Ne.symm al); have hc5 := hbx5.cell; have hf5 := hbx5.frozen))
    all_goals go_wp2
    all_goals go_ret
    all_goals exact ⟨rfl, read_fin hB3 hlw hrep hprep hpown (by omega) hgrow4 hown4 hl4 hgrow5 hown5 hbx5⟩
  · rw [restB_mark t hm] at HR
    rw [hm] at hcut
    clear hm
    generalize cutB t = c at *
    obtain ⟨d, e2⟩ : ∃ d, trimB c = d := ⟨_, rfl⟩
    rw [e2] at HR
    go_enter Tryz.func27, Tryz.ntmps27
    go_wp2_with (first
      | (go_at_call 56; refine (trim_p _ _ (by omega)).mono ?_; rintro e w' ⟨rfl, hB⟩; rw [e1]; obtain ⟨o, c2, hc⟩ := (HL.out.below hB).cell)
      | (go_at_call 56; refine (trim_p _ _ (by omega)).mono ?_; rintro e w9 ⟨rfl, hB9⟩; rw [e2])
      | (go_at_call 57; refine (hcut _).mono ?_; rintro e w2 ⟨rfl, rfl⟩)
      | (go_at_call 58; refine (HR.out _).mono ?_; rintro e w3 ⟨v, rfl, hv, hB2⟩))
    have hBm : Below w.heap.size w w9 := hB.trans (hB9.mono hB.size)
    have hB3 : Below w.heap.size w w3 := hBm.trans (hB2.mono hBm.size)
    obtain ⟨lv, cs, hbx0, hrep, hown0⟩ := HL.out
    have hbx := boxed_below hbx0 hB3
    have hown := own_below hown0 hB3
    obtain ⟨pcs, hprep, hpown⟩ := hv
    have hlw : l < w.heap.size := hbx0.lt
    have hs3 := hB3.size
    have hs2 := hBm.size
    have hs23 := hB2.size
    have av : v.ownBlock ≠ some l := fun e => by have := (own_cell hpown).2 _ e; omega
    have al : lv.ownBlock ≠ some l := fun e => by have := (own_cell hown).2 _ e; omega
    have hcl := hbx.cell
    have hfl := hbx.frozen
    clear hc
    have hst : SameRows w3 (w3.alloc (.cells #[.bool true, .slice none 0 0] 110)).drew 78 := fun k cur hk => (Below.heap_alloc w3 _ k (Array.getElem?_eq_some_iff.1 hk).1).trans hk
    have hnr : ∀ k cur, v.ownBlock = some k → (w3.alloc (.cells #[.bool true, .slice none 0 0] 110)).drew.heap[k]? ≠ some (.cells cur 78 (0, 0)) := fun k cur e1 e2 => by
      obtain ⟨_, cur2, e3⟩ := own_ge hpown k e1.symm
      have e4 := (Below.heap_alloc w3 (.cells #[.bool true, .slice none 0 0] 110) k (Array.getElem?_eq_some_iff.1 e3).1).trans e3
      have e5 := e4.symm.trans e2
      simp at e5
    have HA : Hid (∀ w4, (w3.alloc (.cells #[.bool true, .slice none 0 0] 110)).drew.grownBy w4 v.ownBlock → w4.ownsRow (l + 1) 78 2 lv rs.length cs ∧ Boxed w4 l 53 lv) := fun w4 hg =>
      ⟨own_same hown (same_trans hst (same_grown hg hnr)), Boxed.kept (W := (w3.alloc (.cells #[.bool true, .slice none 0 0] 110)).drew) (hbx.alloc _) hg (Ne.symm av)⟩
    clear hst hnr
    have hne3 := World.new_ne w3 ⟨l, 0, none⟩ hcl
    have hca : (w3.alloc (.cells #[.bool true, .slice none 0 0] 110)).cell? ⟨l, 0, none⟩ = some lv := (World.cell?_alloc_lt _ _ ⟨l, 0, none⟩ hbx.lt).trans hcl
    have hcb : (w3.alloc (.cells #[.bool true, .slice none 0 0] 110)).drew.cell? ⟨l, 0, none⟩ = some lv := hca
    go_region_law (first
        | (refine step_append_lies _ (by rfl) (.tmp 47) (.tmp 49) 76 (by rfl) w9.heap.size 110 i0 (.agg #[.bool false, .slice none 0 0]) 2 32 Tryz.underlying76 hi0 hz0 hz1 hz2 rfl (by omega) v ps.length pcs (by rfl) ((hpown.alloc _).drew)
            ⟨w3.heap.size, 0, none⟩ 1 1 [.bool true, .slice none 0 0] (by rfl) (by rfl) (World.news_of_block (cs := #[.bool true, .slice none 0 0]) (t := 110) (fr := (0, 0)) (heap_alloc_new w3 _)) (by simp [Value.oneCell'])
            (by omega) (by unfold maxLen; omega) (by omega) (by simp; omega) (w3.heap.size + 1) (by simp) ?_; intro g4 cap4 w4 hown4 hgrow4 hat4 hlt4; obtain ⟨hl4, hbx4⟩ := HA.out w4 hgrow4; have hc4 := hbx4.cell; have hlt6 := hbx4.lt; have hne4 := World.new_ne w4 ⟨l, 0, none⟩ hc4; have hcd : (w4.alloc (.cells #[.bool true, .slice (some ⟨g4, 0, none⟩) (ps.length + 1) cap4] 78)).cell? ⟨l, 0, none⟩ = some lv := (World.cell?_alloc_lt _ _ ⟨l, 0, none⟩ hbx4.lt).trans hc4)
        | (refine step_append_lies _ (by rfl) (.tmp 47) (.tmp 49) 76 (by rfl) w9.heap.size 110 i0 (.agg #[.bool false, .slice none 0 0]) 2 32 Tryz.underlying76 hi0 hz0 hz1 hz2 rfl (by omega) v ps.length pcs (by rfl) (hpown.alloc _)
            ⟨w3.heap.size, 0, none⟩ 1 1 [.bool true, .slice none 0 0] (by rfl) (by rfl) (World.news_of_block (cs := #[.bool true, .slice none 0 0]) (t := 110) (fr := (0, 0)) (heap_alloc_new w3 _)) (by simp [Value.oneCell'])
            (by omega) (by unfold maxLen; omega) (by omega) (by simp; omega) (w3.heap.size + 1) (by simp) ?_; intro g4 cap4 w4 hown4 hgrow4 hat4 hlt4; obtain ⟨hl4, hbx4⟩ := HA.out w4 hgrow4; have hc4 := hbx4.cell; have hlt6 := hbx4.lt; have hne4 := World.new_ne w4 ⟨l, 0, none⟩ hc4; have hcd : (w4.alloc (.cells #[.bool true, .slice (some ⟨g4, 0, none⟩) (ps.length + 1) cap4] 78)).cell? ⟨l, 0, none⟩ = some lv := (World.cell?_alloc_lt _ _ ⟨l, 0, none⟩ hbx4.lt).trans hc4)
        | (refine step_append_lies _ (by rfl) (.tmp 45) (.tmp 52) 51 (by rfl) (l + 1) 78 i1 (.agg #[.bool false, .slice none 0 0]) 2 32 Tryz.underlying51 hi1 hy0 hy1 hy2 rfl (by omega) lv rs.length cs (by rfl) (hl4.alloc _)
            ⟨w4.heap.size, 0, none⟩ 1 1 [.bool true, .slice (some ⟨g4, 0, none⟩) (ps.length + 1) cap4] (by rfl) (by rfl) (World.news_of_block (cs := #[.bool true, .slice (some ⟨g4, 0, none⟩) (ps.length + 1) cap4]) (t := 78) (fr := (0, 0)) (heap_alloc_new w4 _)) (by simp [Value.oneCell'])
            (by omega) (by unfold maxLen; omega) (by omega) (by simp; omega) (w4.heap.size + 1) (by simp) ?_; intro g5 cap5 w5 hown5 hgrow5 hat5 hlt5; have hbx5 := Boxed.kept (hbx4.alloc _) hgrow5 (Ne.symm al); have hc5 := hbx5.cell; have hf5 := hbx5.frozen)
        | (refine step_append_lies _ (by rfl) (.tmp 45) (.tmp 52) 51 (by rfl) (l + 1) 78 i1 (.agg #[.bool false, .slice none 0 0]) 2 32 Tryz.underlying51 hi1 hy0 hy1 hy2 rfl (by omega) lv rs.length cs (by rfl) ((hl4.alloc _).drew)
            ⟨w4.heap.size, 0, none⟩ 1 1 [.bool true, .slice (some ⟨g4, 0, none⟩) (ps.length + 1) cap4] (by rfl) (by rfl) (World.news_of_block (cs := #[.bool true, .slice (some ⟨g4, 0, none⟩) (ps.length + 1) cap4]) (t := 78) (fr := (0, 0)) (heap_alloc_new w4 _)) (by simp [Value.oneCell'])
            (by omega) (by unfold maxLen; omega) (by omega) (by simp; omega) (w4.heap.size + 1) (by simp) ?_; intro g5 cap5 w5 hown5 hgrow5 hat5 hlt5; have hbx5 := Boxed.kept (hbx4.alloc _) hgrow5 (Ne.symm al); have hc5 := hbx5.cell; have hf5 := hbx5.frozen))
    all_goals go_wp2
    all_goals go_ret
    all_goals exact ⟨rfl, read_fin hB3 hlw hrep hprep hpown (by omega) hgrow4 hown4 hl4 hgrow5 hown5 hbx5⟩
end Go.Proofs.YthkbhcefckbcnaaGreatDoor
