/- The document's cut: a text's pieces, as a list. -/
import Derived.Test.YtbmakfdljddhcaaGreatDoorSepM
import Derived.Test.YtbmakfdljddhcaaGreatDoorLists
import Derived.Laws.AppendOwn
namespace Go.Proofs.YtbmakfdljddhcaaGreatDoor
open Go Go.RowKit

theorem own_ge' {W : World} {base e size k : Nat} {v : Value} {xs : List Value} (h : W.ownsRow base e size v k xs) : ∀ j, some j = v.ownBlock → base ≤ j := by
  intro j hj
  rcases h.2 with ⟨rfl, _⟩ | ⟨g, cap, cur, rfl, hg, hgb, _⟩
  · simp [Value.ownBlock] at hj
  · simp [Value.ownBlock] at hj; subst hj; exact hg
theorem cell_one'' (w : World) (x : Value) (t : TypeId) : ∀ (j : Nat) u, [x][j]? = some u → (w.alloc (.cells #[x] t)).cell? ((⟨w.heap.size, 0, none⟩ : Addr).add j) = some u := by
  intro j u hj
  rcases j with _ | j
  · simp at hj; subst hj; simp [Addr.add]
  · simp at hj
theorem own_setG {W : World} {base e sz n g cap i : Nat} {xs : List Value} (h : W.ownsRow base e sz (.slice (some ⟨g, 0, none⟩) n cap) n xs) (x : Value) : (W.setCell ⟨g, i, none⟩ x).ownsRow base e sz (.slice (some ⟨g, 0, none⟩) n cap) n (xs.set i x) := by
  refine ⟨by rw [List.length_set]; exact h.1, ?_⟩
  rcases h.2 with ⟨hv, _⟩ | ⟨g', cap', cur, hv, hb, hg, h1, h2, h3, h4⟩
  · cases hv
  · cases hv
    refine .inr ⟨g, cap, cur.setIfInBounds i x, rfl, hb, Lies.set hg x, h1, h2, by rw [Array.size_setIfInBounds]; exact h3, ?_⟩
    rw [Array.toList_setIfInBounds, ← h4, List.take_set]
theorem own_frozenG {w : World} {B e sz n g c : Nat} {xs : List Value} (h : w.ownsRow B e sz (.slice (some ⟨g, 0, none⟩) n c) n xs) (i : Nat) : w.frozen? ⟨g, i, none⟩ = false := by
  rcases h.2 with ⟨hv, _⟩ | ⟨g', cap, cur, hv, _, hg, _⟩
  · cases hv
  · cases hv; exact Lies.frozen hg i
theorem own_slice {w : World} {B e sz n : Nat} {u : Value} {xs : List Value} (h : w.ownsRow B e sz u n xs) (hn : n ≠ 0) : ∃ g cap, u = .slice (some ⟨g, 0, none⟩) n cap ∧ B ≤ g ∧ n ≤ cap ∧ cap ≤ maxLen := by
  rcases h.2 with ⟨rfl, rfl⟩ | ⟨g, cap, cur, rfl, hb, _, h1, h2, _⟩
  · exact absurd rfl hn
  · exact ⟨g, cap, rfl, hb, h1, h2⟩
theorem own_first (w : World) (x : Value) (t : TypeId) : (w.alloc (.cells #[x] t)).ownsRow w.heap.size t 1 (.slice (some ⟨w.heap.size, 0, none⟩) 1 1) 1 [x] :=
  ⟨rfl, .inr ⟨w.heap.size, 1, #[x], rfl, Nat.le_refl _, World.alloc_heap_new w _, Nat.le_refl _, by unfold maxLen; omega, rfl, rfl⟩⟩
theorem sep_total (c : UInt8) : ∀ l : List UInt8, ∀ x ∈ sepL c l, x.length ≤ l.length
  | [], x, h => by simp [sepL] at h; simp [h]
  | b :: l, x, h => by
    have ih := sep_total c l
    obtain ⟨z, zs, hz⟩ : ∃ z zs, sepL c l = z :: zs := List.exists_cons_of_ne_nil (sepL_ne c l)
    have e2 : sepL c (b :: l) = if b = c then [] :: sepL c l else ((b :: (sepL c l).headD []) :: (sepL c l).tail) := rfl
    rw [e2, hz] at h
    rw [hz] at ih
    split at h
    · rcases List.mem_cons.1 h with rfl | h
      · simp
      · have := ih x h; simp; omega
    · rcases List.mem_cons.1 h with rfl | h
      · have := ih z (by simp); simpa using this
      · have := ih x (by simp at h; simp [h]); simp; omega
set_option maxRecDepth 100000 in
set_option maxHeartbeats 4000000 in
theorem cut_r (s : ByteArray) (c : UInt8) (w : World) (hs : s.size ≤ 1073741824) : Calls Tryz.prog 15 #[.string s, .int .u8 c.toNat] w fun e w' => ∃ v, e = .returned v ∧ w'.ownsRow w.heap.size 9 1 v (sepL c (un s)).length (strs ((sepL c (un s)).map bs)) ∧ Below w.heap.size w w' := by
  obtain ⟨i0, hi, z0, z1, z2⟩ := info_parts str_info
  have hsl := un_length s
  go_enter Tryz.func15, Tryz.ntmps15
  go_wp2
  go_loopw [5, 6] (fun v iv wr => ∃ i : Nat, iv = .int .i64 i ∧ i ≤ s.size ∧ wr.ownsRow w.heap.size 9 1 v (sepL c ((un s).take i)).length (strs ((sepL c ((un s).take i)).map bs)) ∧ Below w.heap.size w wr) (fun _ iv _ => s.size - (intOf iv).toNat)
  case atStart => exact ⟨0, rfl, Nat.zero_le _, own_first w _ _, (Below.refl _ w).alloc (Nat.le_refl _) _⟩
  case round =>
    obtain ⟨i, rfl, hi1, hown, hB⟩ := hrel
    have hsz := hB.size
    have k0 : (0 : Int) ≤ (i : Int) := by omega
    by_cases hlt : i < s.size
    rotate_left
    · obtain rfl : i = s.size := by omega
      have k1 : ¬ (s.size : Int) < (s.size : Int) := by omega
      have HE : Hid ((un s).take s.size = un s) := by unfold Hid; rw [← hsl, List.take_length]
      rw [HE.out] at hown
      go_wp2
      go_ret
      exact ⟨_, rfl, hown, hB⟩
    have k1 : (i : Int) < (s.size : Int) := by omega
    have hget := un_getElem? s i hlt
    have HT : Hid ((un s).take (i + 1) = (un s).take i ++ [s[i]]) := by unfold Hid; rw [List.take_add_one, hget]; rfl
    have HS : Hid (sepL c ((un s).take (i + 1)) = sepStep c s[i] (sepL c ((un s).take i))) := by unfold Hid; rw [HT.out, sep_snoc]
    have hne := sepL_ne c ((un s).take i)
    have hln := sep_length c ((un s).take i)
    have hpos := List.length_pos_iff.2 hne
    have htk : ((un s).take i).length = i := by rw [List.length_take]; omega
    rw [htk] at hln
    have htot := sep_total c ((un s).take i)
    rw [htk] at htot
    generalize sepL c ((un s).take i) = ps at *
    clear hget HT htk
    by_cases hc : s[i] = c
    · have q1 : ((s[i].toNat : Int) == (c.toNat : Int)) = true := by rw [hc]; simp
      have HS2 : Hid (sepL c ((un s).take (i + 1)) = ps ++ [[]]) := by unfold Hid; rw [HS.out]; unfold sepStep; rw [if_pos hc]
      clear HS hc
      go_wp2_with (at_builtin; refine wpList_append_own _ rfl _ _ 42 rfl w.heap.size 9 i0 (.string ⟨#[]⟩) 1 16 Tryz.underlying42 hi z0 z1 z2 rfl (by decide) _ _ _ rfl (hown.alloc _) ⟨wr.heap.size, 0, none⟩ 1 1 [.string ⟨#[]⟩] rfl rfl (cell_one'' _ _ _) (by simp [Value.oneCell']) (by unfold maxLen; omega) (by omega) (by simp; omega) ?_; intro v1 w1 hown1 hgrow1 _)
      have hb1 : Below w.heap.size w w1 := (hB.alloc hsz _).grown hgrow1 (by simp; omega) (fun j hj => own_ge' hown j hj.symm)
      have hfin : w1.ownsRow w.heap.size 9 1 v1 (sepL c ((un s).take (i + 1))).length (strs ((sepL c ((un s).take (i + 1))).map bs)) := by
        rw [HS2.out, List.map_append, strs_append, List.length_append]; exact hown1
      first
        | exact ⟨⟨i + 1, by go_num, by omega, hfin, hb1⟩, by simp [intOf]; omega⟩
        | (go_roundw
           case rel => exact ⟨i + 1, by go_num, by omega, hfin, hb1⟩
           case measure => simp [intOf]; omega)
    · have q1 : ((s[i].toNat : Int) == (c.toNat : Int)) = false := by
        rw [beq_eq_false_iff_ne]
        intro h
        exact hc (UInt8.toNat_inj.1 (by omega))
      have HS2 : Hid (sepL c ((un s).take (i + 1)) = ps.set (ps.length - 1) (ps.getLastD [] ++ [s[i]])) := by unfold Hid; rw [HS.out]; unfold sepStep; rw [if_neg hc]
      obtain ⟨g, cap, rfl, hg, hcap, hmax⟩ := own_slice hown (by omega)
      have hcell : wr.cell? ⟨g, ps.length - 1, none⟩ = some (.string (bs (ps.getLastD []))) := by
        refine row_cell hown _ _ ?_
        unfold strs
        rw [List.getElem?_map, List.getElem?_map, ← List.getLast?_eq_getElem?, List.getLast?_eq_some_getLast hne]
        simp [List.getLastD_eq_getLast?, List.getLast?_eq_some_getLast hne]
      have hfz := own_frozenG hown (ps.length - 1)
      have hlast : (ps.getLastD []).length ≤ i := htot _ (by rw [List.getLastD_eq_getLast?, List.getLast?_eq_some_getLast hne]; exact List.getLast_mem hne)
      have e1 : ((ps.length : Int) - 1).toNat = ps.length - 1 := by omega
      have j1 : (0 : Int) ≤ (ps.length : Int) - 1 := by omega
      have j2 : (ps.length : Int) - 1 < (ps.length : Int) := by omega
      have j3 : (i : Int) ≤ (i : Int) + 1 := by omega
      have j4 : (i : Int) + 1 ≤ (s.size : Int) := by omega
      have j5 : (0 : Int) ≤ (i : Int) + 1 := by omega
      have hbz : (bs (ps.getLastD [])).size ≤ i := by rw [size_bs]; exact hlast
      have HY : Hid (ps.getLastD [] = un (bs (ps.getLastD []))) := (un_bs _).symm
      clear HS hc htot hlast
      generalize bs (ps.getLastD []) = y at *
      have hx : (s.extract i (i + 1)).size = 1 := by rw [size_extract' _ _ _ (by omega)]; omega
      have hcc : y.size + (s.extract i (i + 1)).size ≤ 9223372036854775807 := by omega
      have HX : Hid (un (s.extract i (i + 1)) = [s[i]]) := by
        unfold Hid
        rw [un_extract, List.take_add_one, un_getElem? s i hlt, List.drop_append_of_le_length (by rw [List.length_take, un_length]; omega), List.drop_of_length_le (by rw [List.length_take]; omega)]; rfl
      go_wp2
      go_region
      have hset := own_setG (i := ps.length - 1) hown (.string (y ++ s.extract i (i + 1)))
      have hfin : ((wr.setCell ⟨g, ps.length - 1, none⟩ (.string (y ++ s.extract i (i + 1)))).drew).ownsRow w.heap.size 9 1 (.slice (some ⟨g, 0, none⟩) ps.length cap) (sepL c ((un s).take (i + 1))).length (strs ((sepL c ((un s).take (i + 1))).map bs)) := by
        have e : strs ((sepL c ((un s).take (i + 1))).map bs) = (strs (ps.map bs)).set (ps.length - 1) (.string (y ++ s.extract i (i + 1))) := by
          rw [HS2.out, List.map_set]
          unfold strs
          rw [List.map_set]
          congr 2
          apply un_inj
          rw [un_bs, un_append, ← HY.out, HX.out]
        rw [e, HS2.out, List.length_set]
        exact hset
      have hb1 : Below w.heap.size w ((wr.setCell ⟨g, ps.length - 1, none⟩ (.string (y ++ s.extract i (i + 1)))).drew) := (hB.trans (Below.setCell (p := ⟨g, ps.length - 1, none⟩) (Below.refl _ wr) hg _)).trans ⟨rfl, rfl, rfl, Nat.le_refl _, fun _ _ => rfl⟩
      generalize ((wr.setCell ⟨g, ps.length - 1, none⟩ (.string (y ++ s.extract i (i + 1)))).drew) = W2 at *
      first
        | exact ⟨⟨i + 1, by go_num, by omega, hfin, hb1⟩, by simp [intOf]; omega⟩
        | (go_wp2
           go_roundw
           case rel => exact ⟨i + 1, by go_num, by omega, hfin, hb1⟩
           case measure => simp [intOf]; omega)
end Go.Proofs.YtbmakfdljddhcaaGreatDoor
