/- The document's answer for the bytes and the sets of a pattern's piece. -/
import Derived.Test.YthkbhcefckbcnaaGreatDoorBoolRow
import Derived.Test.YthkbhcefckbcnaaGreatDoorRefNames
namespace Go.Proofs.YthkbhcefckbcnaaGreatDoor
open Go Go.RowKit

theorem drop_cons (s : ByteArray) (i : Nat) (h : i < s.size) : (un s).drop i = s[i] :: (un s).drop (i + 1) := by
  have hl : i < (un s).length := by rw [un_length]; exact h
  have h1 := un_getElem? s i h
  rw [List.getElem?_eq_getElem hl] at h1
  rw [List.drop_eq_getElem_cons hl, Option.some.inj h1]
theorem drop_end (s : ByteArray) (i : Nat) (h : s.size ≤ i) : (un s).drop i = [] := List.drop_eq_nil_of_le (by rw [un_length]; exact h)
/-- What byteAt owes. -/
def BytePost (s : ByteArray) (i : Nat) (w : World) (e : Ending) (w' : World) : Prop :=
  ((∃ (b : UInt8) (j : Nat), rByte ((un s).drop i) = some (b, (un s).drop j) ∧ i < j ∧ j ≤ s.size ∧ e = .returned (.tuple #[.int .u8 b.toNat, .int .i64 j, .bool true])) ∨
   (rByte ((un s).drop i) = none ∧ e = .returned (.tuple #[.int .u8 0, .int .i64 i, .bool false]))) ∧ w' = w

set_option maxHeartbeats 1000000 in
theorem byteAt_r (s : ByteArray) (i : Nat) (w : World) (hs : s.size ≤ 1099511627776) (hi : i ≤ 1099511627777) : Calls Tryz.prog 85 #[.string s, .int .i64 i] w (BytePost s i w) := by
  by_cases h0 : s.size ≤ i
  · have H : Hid (rByte ((un s).drop i) = none) := by unfold Hid; rw [drop_end s i h0]; rfl
    have d1 : (s.size : Int) ≤ (i : Int) := by omega
    go_enter Tryz.func85, Tryz.ntmps85
    go_wp2
    go_ret3
    exact ⟨.inr ⟨H.out, rfl⟩, rfl⟩
  · have hlt : i < s.size := by omega
    have hd := drop_cons s i hlt
    have d1 : ¬ (s.size : Int) ≤ (i : Int) := by omega
    have d2 : (0 : Int) ≤ (i : Int) := by omega
    have d3 : (i : Int) < (s.size : Int) := by omega
    by_cases hc : s[i].toNat = 92
    · have hc2 : s[i] = 92 := UInt8.toNat_inj.1 hc
      by_cases h1 : s.size ≤ i + 1
      · have H : Hid (rByte ((un s).drop i) = none) := by unfold Hid; rw [hd, hc2, drop_end s (i + 1) h1]; rfl
        have d4 : (s.size : Int) ≤ (i : Int) + 1 := by omega
        clear hd hc2
        go_enter Tryz.func85, Tryz.ntmps85
        go_wp2
        go_ret3
        exact ⟨.inr ⟨H.out, rfl⟩, rfl⟩
      · have hlt1 : i + 1 < s.size := by omega
        have H : Hid (rByte ((un s).drop i) = some (s[i + 1], (un s).drop (i + 2))) := by unfold Hid; rw [hd, hc2, drop_cons s (i + 1) hlt1]; rfl
        have d4 : ¬ (s.size : Int) ≤ (i : Int) + 1 := by omega
        have d5 : (i : Int) + 1 < (s.size : Int) := by omega
        clear hd hc2
        go_enter Tryz.func85, Tryz.ntmps85
        go_wp2
        go_ret3
        exact ⟨.inl ⟨_, i + 2, H.out, by omega, by omega, rfl⟩, rfl⟩
    · have H : Hid (rByte ((un s).drop i) = some (s[i], (un s).drop (i + 1))) := by
        unfold Hid; rw [hd]; simp only [rByte]; rw [if_neg (fun e => hc (by rw [beq_iff_eq.1 e]; rfl))]
      have hcb : ((s[i].toNat : Int) == 92) = false := by simp; omega
      clear hd
      go_enter Tryz.func85, Tryz.ntmps85
      go_wp2
      go_ret3
      exact ⟨.inl ⟨_, i + 1, H.out, by omega, by omega, rfl⟩, rfl⟩

/-- A set's 256 bools. -/
def setRow (st : BSet) : Nat → Bool := fun k => st (UInt8.ofNat k)
theorem setRow_at (st : BSet) (b : UInt8) : setRow st b.toNat = st b := by unfold setRow; rw [UInt8.ofNat_toNat]
/-- What single owes. -/
theorem info_rpart : (Tryz.prog.info? 133).map (·.size) = some 2 := by kernel_rfl

set_option maxRecDepth 100000 in
set_option maxHeartbeats 2000000 in
theorem single_r (c : UInt8) (all : Bool) (w : World) : Calls Tryz.prog 83 #[.int .u8 c.toNat, .bool all] w fun e w' => ∃ g, e = .returned (.agg #[.bool false, .slice (some ⟨g, 0, none⟩) 256 256]) ∧ w.heap.size ≤ g ∧ Lies w' g 4 (rowB 256 (setRow fun b => all || b == c)) ∧ Below w.heap.size w w' := by
  have hmk : ∀ w, (Instr.makeSlice 66 (.int .i64 256) (.int .i64 256)).run Tryz.prog w = .ok (.slice (some ⟨w.heap.size, 0, none⟩) 256 256) (w.alloc (.cells (rowB 256 fun _ => false) 4)) := make_bools 256 (by decide)
  have hcb := c.toNat_lt
  go_enter Tryz.func83, Tryz.ntmps83
  go_wp2
  go_loopw [6] (fun i wr => ∃ k : Nat, i = .int .i64 k ∧ k ≤ 256 ∧ Lies wr (w.heap.size + 1) 4 (rowB 256 (fun j => decide (j < k) && (all || decide (j = c.toNat)))) ∧ Lies wr w.heap.size 133 #[.bool false, .slice none 0 0] ∧ Below w.heap.size w wr) (fun i _ => 256 - (intOf i).toNat)
  case atStart =>
    refine ⟨0, rfl, by omega, ?_, (Lies.new w _ _).alloc _, ((Below.refl _ w).alloc (Nat.le_refl _) _).alloc (by simp) _⟩
    have h := Lies.new (w.alloc (.cells #[.bool false, .slice none 0 0] 133)) 4 (rowB 256 fun _ => false)
    rw [World.size_alloc] at h
    rw [rowB_congr (g := fun _ => false) (fun k _ => by simp)]; exact h
  case round =>
    obtain ⟨k, rfl, hk, hl, hr, hB⟩ := hrel
    have c0 : wr.cell? ⟨w.heap.size, 0, none⟩ = some (.bool false) := hr.cell rfl
    have c1 : wr.cell? ⟨w.heap.size, 1, none⟩ = some (.slice none 0 0) := hr.cell rfl
    have f0 := hr.frozen 0
    have f1 := hr.frozen 1
    by_cases hlt : k < 256
    · have hc := hl.cell (rowB_get 256 (fun j => decide (j < k) && (all || decide (j = c.toNat))) k hlt)
      have hf := hl.frozen k
      have HL : Hid (∀ v, Lies (wr.setCell ⟨w.heap.size + 1, k, none⟩ v) (w.heap.size + 1) 4 ((rowB 256 (fun j => decide (j < k) && (all || decide (j = c.toNat)))).setIfInBounds k v)) := fun v => hl.set v
      have HR : Hid (∀ v, Lies (wr.setCell ⟨w.heap.size + 1, k, none⟩ v) w.heap.size 133 #[.bool false, .slice none 0 0]) := fun v => (Below.heap_setCell wr ⟨w.heap.size + 1, k, none⟩ v w.heap.size (by simp)).trans hr
      have HB : Hid (∀ v, Below w.heap.size w (wr.setCell ⟨w.heap.size + 1, k, none⟩ v)) := fun v => hB.setCell (p := ⟨w.heap.size + 1, k, none⟩) (by simp) v
      have d1 : (0 : Int) ≤ (k : Int) := by omega
      have d2 : (k : Int) < 256 := by omega
      clear hl hr
      cases all
      · go_wp2
        go_roundw
        case rel =>
          refine ⟨k + 1, by go_num, by omega, ?_, HR.out _, HB.out _⟩
          have h := HL.out (.bool ((k : Int) == (c.toNat : Int)))
          rw [rowB_set _ _ _ _ hlt] at h
          rw [rowB_congr (g := fun i => if i = k then ((k : Int) == (c.toNat : Int)) else decide (i < k) && (false || decide (i = c.toNat)))]
          · exact h
          · intro j hj
            by_cases hjk : j = k
            · subst hjk
              rw [if_pos rfl]
              by_cases hjc : j = c.toNat
              · simp [hjc]
              · simp [hjc]; omega
            · rw [if_neg hjk]
              by_cases hjl : j < k
              · simp [hjl, show j < k + 1 by omega]
              · simp [hjl, show ¬ j < k + 1 by omega]
        case measure => simp [intOf]; omega
      · go_wp2
        go_roundw
        case rel =>
          refine ⟨k + 1, by go_num, by omega, ?_, HR.out _, HB.out _⟩
          have h := HL.out (.bool true)
          rw [rowB_set _ _ _ _ hlt] at h
          rw [rowB_congr (g := fun i => if i = k then true else decide (i < k) && (true || decide (i = c.toNat)))]
          · exact h
          · intro j hj
            by_cases hjk : j = k
            · subst hjk
              simp
            · rw [if_neg hjk]
              by_cases hjl : j < k
              · simp [hjl, show j < k + 1 by omega]
              · simp [hjl, show ¬ j < k + 1 by omega]
        case measure => simp [intOf]; omega
    · obtain rfl : k = 256 := by omega
      have HE : Hid (rowB 256 (fun j => decide (j < 256) && (all || decide (j = c.toNat))) = rowB 256 (setRow fun b => all || b == c)) := rowB_congr (fun j hj => by
        unfold setRow
        rw [decide_eq_true hj, Bool.true_and]
        congr 1
        by_cases h : j = c.toNat
        · rw [h]; simp
        · rw [decide_eq_false h]
          refine (beq_false_of_ne fun e => h ?_).symm
          rw [← e, UInt8.toNat_ofNat']; omega)
      have Hl : Hid (Lies wr (w.heap.size + 1) 4 (rowB 256 (fun j => decide (j < 256) && (all || decide (j = c.toNat))))) := hl
      have Hr : Hid (Lies wr w.heap.size 133 #[.bool false, .slice none 0 0]) := hr
      clear hl hr
      go_wp2
      refine bodyPost_ret (results_cell_row rfl _ _ w.heap.size 133 _ (0, 0) _ rfl (Lies.set2 Hr.out _ _) Tryz.underlying133 rfl info_rpart) rfl ?_
      refine ⟨w.heap.size + 1, rfl, by omega, ?_, below_set2 hB (Nat.le_refl _) _ _⟩
      rw [← HE.out]
      exact (Below.heap_setCell _ ⟨w.heap.size, 1, none⟩ _ _ (by simp)).trans ((Below.heap_setCell _ ⟨w.heap.size, 0, none⟩ _ _ (by simp)).trans Hl.out)
end Go.Proofs.YthkbhcefckbcnaaGreatDoor
