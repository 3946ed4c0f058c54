/- Package glob's namesOf: the names of a text in a list of its own. -/
import Derived.Test.YthkbhcefckbcnaaGreatDoorPattern
namespace Go.Proofs.YthkbhcefckbcnaaGreatDoor
open Go Go.RowKit Go.Shelf
attribute [local go_sem] Oper.semAt_some

set_option maxRecDepth 100000 in
set_option maxHeartbeats 4000000 in
theorem appendSeq_p (s : ByteArray) (S : Nat) (w : World) (hS : Boxed w S 9 (.string s)) (hs : s.size ≤ 1099511627776) :
    Calls Tryz.prog 104 #[.slice none 0 0, .func (.func 105) #[] #[.pointer (some ⟨S, 0, none⟩)]] w fun e w' => ∃ v, e = .returned v ∧ w'.ownsRow w.heap.size 9 1 v (namesB s).length (strs (namesB s)) ∧ Below w.heap.size w w' := by
  obtain ⟨i0, hi, hz0, hz1, hz2⟩ := info_parts info_str
  obtain ⟨n, hn⟩ : ∃ n : Nat, n = 3 := ⟨3, rfl⟩
  clear hn
  refine (callsIn_wide (n := n)).1 ?_
  refine callsIn_of_wp_marks Tryz.func104 rfl trivial ?_ rfl
  simp only [Tryz.ntmps104, List.size_toArray, List.length_cons, List.length_nil, Nat.reduceAdd, Nat.reduceSub, Array.replicate_succ, Array.replicate_zero, List.push_toArray, List.append_toArray, List.nil_append, List.cons_append]
  gi_wp2
  obtain ⟨W0, hW0⟩ : ∃ W0, (w.alloc (.cells #[.slice none 0 0] 46)) = W0 := ⟨_, rfl⟩
  have hsz : W0.heap.size = w.heap.size + 1 := by rw [← hW0]; simp
  have hB0 : Below w.heap.size w W0 := by rw [← hW0]; exact (Below.refl _ w).alloc (Nat.le_refl _) _
  have c0 : Boxed W0 w.heap.size 46 (.slice none 0 0) := by rw [← hW0]; exact Boxed.new w _ _
  have c1 : Boxed W0 S 9 (.string s) := by rw [← hW0]; exact hS.alloc _
  rw [hW0]
  clear hW0
  have hwn := wt_names s
  refine range_lawD (xs := namesB s) (n₀ := w.heap.size) (d := 1) rfl (enters_of Tryz.func105 (by kernel_rfl) rfl)
    (pieces_gives s S w.heap.size _ (by omega) c1.cell (by omega)) (by omega) (Below.refl _ _)
    (fun pre W => (∃ v, Boxed W w.heap.size 46 v ∧ W.ownsRow (w.heap.size + 4) 9 1 v pre.length (strs pre) ∧ True) ∧ Below w.heap.size w W)
    (fun _ _ _ => False)
    (OwnFrom.and (Own.from (holdsRow_own (w.heap.size + 4) w.heap.size 46 9 1 (fun pre => pre.length) (fun pre => strs pre) (fun _ _ => True)) _) (ownFrom_below (Nat.le_refl _) (by omega)))
    (fun _ _ _ _ _ hs _ _ => hs)
    ⟨⟨_, c0, World.ownsRow_nil _ _ _ _, trivial⟩, hB0⟩
    (fun x => { tmps := #[.slice none 0 0, .func (.func 105) #[] #[.pointer (some ⟨S, 0, none⟩)], .pointer (some ⟨w.heap.size, 0, none⟩), undef, .slice none 0 0, .string x, .func (.func 105) #[] #[.pointer (some ⟨S, 0, none⟩)], .string x, undef, undef, undef, undef, undef], defers := [] }) ?assign ?body ?done ?stop
  case assign =>
    intro m l x W K hK
    gi_wp2
    exact hK
  case body =>
    rintro m l pre x W ⟨⟨v, hv, hrow, _⟩, hB⟩ hx hsz2
    have hc := hv.cell
    have hf := hv.frozen
    have hlen : pre.length ≤ 1099511627777 := by
      have h1 := length_wt pre
      have h3 := wt_prefix hx
      rw [wt_append] at h3
      omega
    clear c0 c1 hB0 hx
    gi_wp2_with (gi_at_builtin; refine wpListIn_append_own _ rfl _ _ 46 rfl (w.heap.size + 4) 9 i0 (.string ⟨#[]⟩) 1 16 Tryz.underlying46 hi hz0 hz1 hz2 rfl (by decide) _ _ _ rfl (hrow.alloc _) ⟨W.heap.size, 0, none⟩ 1 1 [.string x] rfl rfl (cell_one_new _ _ _) (by simp [Value.oneCell']) (by unfold maxLen; omega) (by omega) (by simp; omega) ?_; intro v' w1 hown' hgrow _; obtain ⟨g', cap', rfl⟩ := ownsRow_succ hown'; obtain ⟨a1, a2, a3, a4, a5, a6⟩ := app_all hv hrow (by omega) (by omega) hown' hgrow; have hc1 := a1.cell; have hf1 := a1.frozen)
    exact ⟨⟨⟨_, a2, by rw [List.length_append]; simpa [strs] using a3, trivial⟩, hB.trans a4⟩, a4, a5 _, fun j h1 h2 => a6 j (by omega) (by omega)⟩
  case done =>
    rintro D W hD ⟨⟨v, hv, hrow, _⟩, hB⟩ hK
    have hc := hv.cell
    have hDw : w.heap.size ≤ D := by omega
    clear c0 c1 hB0
    gi_wp2
    refine ⟨by simp, .inl ⟨_, _, rfl, run_takeDeferred hK, ?_⟩⟩
    refine ⟨_, results_tmp rfl _ _ _, _, rfl, ?_, hB.trans (putLoop_below _ hK hDw)⟩
    refine (owns_le2 hrow (by omega)).kept (grownBy_putObj' _ D _) ?_
    rcases hrow.2 with ⟨rfl, _⟩ | ⟨g, cap, cur, rfl, _, hgb, _⟩
    · exact .inl rfl
    · exact .inr fun e => by cases e; rw [hgb] at hK; cases hK
  case stop =>
    rintro D c pre W _ _ h _
    exact h.elim

set_option maxHeartbeats 1000000 in
theorem collect_p (s : ByteArray) (S : Nat) (w : World) (hS : Boxed w S 9 (.string s)) (hs : s.size ≤ 1099511627776) :
    Calls Tryz.prog 69 #[.func (.func 105) #[] #[.pointer (some ⟨S, 0, none⟩)]] w fun e w' => ∃ v, e = .returned v ∧ w'.ownsRow w.heap.size 9 1 v (namesB s).length (strs (namesB s)) ∧ Below w.heap.size w w' := by
  have hcall := appendSeq_p s S w hS hs
  go_enter Tryz.func69, Tryz.ntmps69
  go_wp2_with fail
  refine hcall.mono ?_
  rintro e w1 ⟨v, rfl, ho, hb⟩
  go_wp2_with fail
  go_ret
  exact ⟨v, rfl, ho, hb⟩

set_option maxHeartbeats 1000000 in
theorem namesOf_p (s : ByteArray) (w : World) (hs : s.size ≤ 1099511627776) :
    Calls Tryz.prog 40 #[.string s] w fun e w' => ∃ v, e = .returned v ∧ w'.ownsRow w.heap.size 9 1 v (namesB s).length (strs (namesB s)) ∧ Below w.heap.size w w' := by
  have hcall := collect_p s w.heap.size (w.alloc (.cells #[.string s] 9)) (Boxed.new w _ _) hs
  go_enter Tryz.func40, Tryz.ntmps40
  go_wp2_with (go_at_call 70; refine (pieces_p _ _).mono ?_; rintro e w' ⟨rfl, rfl⟩)
  refine hcall.mono ?_
  rintro e w1 ⟨v, rfl, ho, hb⟩
  go_wp2_with fail
  go_ret
  exact ⟨v, rfl, owns_le2 ho (by simp), ((Below.refl _ w).alloc (Nat.le_refl _) _).trans (hb.mono (by simp))⟩
end Go.Proofs.YthkbhcefckbcnaaGreatDoor
