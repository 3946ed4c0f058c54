/- PathClean, walked, at texts of at most 2^20 bytes: what is clean stays so, has no piece that leads nowhere or up, and two texts one behind the other are cleaned one by one. -/
import Derived.Test.YtlbckjdlfdiceabDoorWorks
import Derived.Test.YtlbckjdlfdiceabDoorCleanM
namespace Go.Proofs.YtlbckjdlfdiceabDoor
open Go Go.RowKit Go.Shelf
attribute [local go_sem] Oper.semAt_some

theorem cleanB_size (s : ByteArray) : (cleanB s).size ≤ s.size + 1 := by
  have h1 := joinL_length (cleanL (namesB s))
  have h2 := wt_clean (namesB s)
  have h3 := wt_names s
  unfold cleanB; rw [size_bs]; omega
set_option maxRecDepth 100000 in
set_option maxHeartbeats 8000000 in
theorem clean_law (s t : ByteArray) (w : World) (hg : ErrType w) (hp : s.size ≤ 1048576) (hq : t.size ≤ 1048576) :
    Calls Tryd.prog 5 #[.string s, .string t] w fun e w' => e = .returned (.bool true) ∧ Below w.heap.size w w' := by
  obtain ⟨c, hc⟩ : ∃ c, cleanB s = c := ⟨_, rfl⟩
  have hcs : c.size ≤ 1048577 := by rw [← hc]; have := cleanB_size s; omega
  have hcc : cleanB c = c := by rw [← hc]; exact clean_clean s
  have hap : cleanB (s ++ ⟨#[47]⟩ ++ t) = cleanB (c ++ ⟨#[47]⟩ ++ t) := by rw [← hc]; exact clean_append s t
  have hnm : namesB c = cleanL (namesB s) := by rw [← hc]; exact names_clean s
  have hpl : ∀ x ∈ namesB c, Plainly x := by rw [hnm]; exact clean_plain s
  have hsz := clean_size s
  rw [hc, ← hnm] at hsz
  have hwn := wt_names c
  have l1 : (s ++ (⟨#[47]⟩ : ByteArray) ++ t).size ≤ 1099511627776 := by rw [ByteArray.size_append, ByteArray.size_append, show (ByteArray.mk #[47]).size = 1 from rfl]; omega
  have l2 : (c ++ (⟨#[47]⟩ : ByteArray) ++ t).size ≤ 1099511627776 := by rw [ByteArray.size_append, ByteArray.size_append, show (ByteArray.mk #[47]).size = 1 from rfl]; omega
  have HC : Hid _ := hc
  have HCC : Hid _ := hcc
  have HAP : Hid _ := hap
  have L1 : Hid _ := l1
  have L2 : Hid _ := l2
  have HPL : Hid _ := hpl
  have HSZ : Hid _ := hsz
  clear hc hcc hap l1 l2 hpl hsz hnm
  have e1 : (c.toList == c.toList) = true := by simp
  have e2 : ((cleanB (c ++ ⟨#[47]⟩ ++ t)).toList == (cleanB (c ++ ⟨#[47]⟩ ++ t)).toList) = true := by simp
  obtain ⟨n, hn⟩ : ∃ n : Nat, n = 3 := ⟨3, rfl⟩
  clear hn
  refine (callsIn_wide (n := n)).1 ?_
  refine callsIn_of_wp_marks Tryd.func5 rfl trivial ?_ rfl
  simp only [Tryd.ntmps5, List.size_toArray, List.length_cons, List.length_nil, Nat.reduceAdd, Nat.reduceSub, Array.replicate_succ, Array.replicate_zero, List.push_toArray, List.append_toArray, List.nil_append, List.cons_append]
  have bA : Below w.heap.size w (w.alloc (.cells #[.bool false] 4)) := (Below.refl _ w).alloc (Nat.le_refl _) _
  have x0 := Boxed.new w 4 (.bool false)
  obtain ⟨wA, hwA⟩ : ∃ wA, w.alloc (.cells #[.bool false] 4) = wA := ⟨_, rfl⟩
  rw [hwA] at bA x0
  have HWA : Hid _ := hwA
  have hszA : wA.heap.size = w.heap.size + 1 := by rw [← hwA]; simp
  clear hwA
  gi_wp2_with fail
  rw [HWA.out]
  refine ⟨trivial, wd _, ?_⟩
  refine (callsIn_wide.2 (clean_p s _ (by omega))).mono ?_
  rintro e w1 ⟨rfl, b1⟩
  rw [HC.out]
  gi_wp2_with fail
  refine ⟨trivial, wd _, ?_⟩
  refine (callsIn_wide.2 (works_p _ ((hg.below bA).below b1))).mono ?_
  rintro e w2 ⟨rfl, b2⟩
  replace b2 := below_join b1 b2
  clear b1
  gi_wp2_with fail
  refine ⟨trivial, wd _, ?_⟩
  refine (callsIn_wide.2 (clean_p c _ (by omega))).mono ?_
  rintro e w3 ⟨rfl, b3⟩
  rw [HCC.out]
  replace b3 := below_join b2 b3
  clear b2
  gi_wp2_with fail
  refine ⟨trivial, wd _, ?_⟩
  refine (callsIn_wide.2 (clean_p _ _ L1.out)).mono ?_
  rintro e w4 ⟨rfl, b4⟩
  rw [HAP.out]
  replace b4 := below_join b3 b4
  clear b3
  gi_wp2_with fail
  refine ⟨trivial, wd _, ?_⟩
  refine (callsIn_wide.2 (clean_p _ _ L2.out)).mono ?_
  rintro e w5 ⟨rfl, b5⟩
  replace b5 := below_join b4 b5
  clear b4
  gi_wp2_with fail
  refine ⟨trivial, wd _, ?_⟩
  refine (callsIn_wide.2 (pieces_p _ _)).mono ?_
  rintro e w6 ⟨rfl, hw6⟩
  gi_wp2_with fail
  clear hw6
  obtain ⟨W0, hW0⟩ : ∃ W0, ((w5.alloc (.cells #[.int .i64 0] 3)).alloc (.cells #[.string c] 9)) = W0 := ⟨_, rfl⟩
  have hsz0 : W0.heap.size = w5.heap.size + 2 := by rw [← hW0]; simp
  have hsz5 := b5.size
  have hB0 : Below w.heap.size w W0 := by rw [← hW0]; exact ((below_join bA b5).alloc (by omega) _).alloc (by simp; omega) _
  have x5 := boxed_below x0 b5
  have c0 : Boxed W0 w.heap.size 4 (.bool false) := by rw [← hW0]; exact (x5.alloc _).alloc _
  have c1 : Boxed W0 w5.heap.size 3 (.int .i64 0) := by rw [← hW0]; exact (Boxed.new w5 _ _).alloc _
  have c2 : Boxed W0 (w5.heap.size + 1) 9 (.string c) := by
    have h := Boxed.new (w5.alloc (.cells #[.int .i64 0] 3)) 9 (.string c); rw [World.size_alloc] at h; rw [← hW0]; exact h
  rw [hW0]
  clear hW0
  refine range_lawD (xs := namesB c) (n₀ := w.heap.size) (d := 1) rfl (enters_of Tryd.func27 (by kernel_rfl) rfl)
    (pieces_gives c (w5.heap.size + 1) w.heap.size _ (by omega) c2.cell (by omega)) (by omega) (Below.refl _ _)
    (fun pre W => Boxed W w.heap.size 4 (.bool false) ∧ Boxed W w5.heap.size 3 (.int .i64 (wt pre : Nat)) ∧ Below w.heap.size w W)
    (fun _ _ _ => False)
    (fun s A B row hs hg hr => ⟨bx hs.1 hg hr, bx hs.2.1 hg hr, blw hs.2.2 hg hr (Nat.le_refl _) (by omega)⟩)
    (fun _ _ _ _ _ hs _ _ => hs)
    ⟨c0, c1, hB0⟩
    ?a1 ?assign ?body ?done ?stop
  case assign =>
    intro m l x W K hK
    gi_wp2
    exact hK
  case body =>
    rintro m l pre x W ⟨hc0, hc1, hB⟩ hx hz2
    have hd1 := hc1.cell
    have hf1 := hc1.frozen
    have hmem : x ∈ namesB c := hx.subset (by simp)
    have hpx := HPL.out x hmem
    have f1 : x.toList.isEmpty = false := by have h := hpx.1; simpa [full] using h
    have f2 := hpx.2.1
    have f3 := hpx.2.2.1
    have hwt : wt pre + (x.size + 1) ≤ 1048578 := by have h := wt_prefix hx; rw [wt_append] at h; simp [wt] at h; omega
    have Hwt : Hid (wt (pre ++ [x]) = wt pre + x.size + 1) := by unfold Hid; rw [wt_append]; simp [wt]; omega
    clear hpx hmem hx c0 c1 c2 hB0 x5
    gi_wp2
    have hset := Boxed.set (.int .i64 ((wt pre : Int) + x.size + 1)) hc1
    have hset2 : Boxed (W.setCell ⟨w5.heap.size, 0, none⟩ (.int .i64 ((wt pre : Int) + x.size + 1))) w5.heap.size 3 (.int .i64 ((wt (pre ++ [x]) : Nat) : Int)) := by
      rw [Hwt.out]; simpa using hset
    exact ⟨⟨Boxed.other hc0 (by omega) _, hset2, hB.setCell (p := ⟨w5.heap.size, 0, none⟩) (by simp; omega) _⟩, (Below.refl _ _).setCell (p := ⟨w5.heap.size, 0, none⟩) (by simp; omega) _, keeps_set _ _ _, fun j h1 h2 => Below.heap_setCell W ⟨w5.heap.size, 0, none⟩ _ j (by simp; omega)⟩
  case done =>
    rintro D W hD ⟨hc0, hc1, hB⟩ hK
    have hd1 := hc1.cell
    have hd0 := hc0.cell
    have hf0 := hc0.frozen
    have hK' := (keeps_set (B := 0) W ⟨w.heap.size, 0, none⟩ (.bool true)).same D _ (Nat.zero_le _) hK rfl
    have hc5 := (boxed_put (.deferred none) (Boxed.set (.bool true) hc0) hK' rfl).cell
    have hB5 := (hB.setCell (p := ⟨w.heap.size, 0, none⟩) (Nat.le_refl _) (.bool true)).trans (putLoop_below (.deferred none) hK' (by omega))
    have HK' : Hid _ := hK'
    have HC5 : Hid _ := hc5
    clear hK' hc5 c0 c1 c2 hB0 x5
    rcases HSZ.out with ⟨h1, h2⟩ | h1
    · have k1 : c.toList.isEmpty = true := by rw [h2]; exact (isEmpty_iff _).2 rfl
      have k2 : wt (namesB c) = 0 := by rw [h1]; rfl
      rw [k2] at hd1
      clear h1 h2 k2
      gi_wp2
      refine ⟨by simp, .inl ⟨_, _, rfl, run_takeDeferred HK'.out, ?_⟩⟩
      exact ⟨.bool true, by simp [results, Tryd.f5, go_sem, HC5.out], rfl, hB5⟩
    · have k3 : ((wt (namesB c) : Int) == (c.size : Int) + 1) = true := by rw [h1]; simp
      have k4 : ((wt (namesB c) : Int) == 0) = false := by rw [h1]; simp; omega
      clear h1
      cases k1 : c.toList.isEmpty
      all_goals
        gi_wp2
        refine ⟨by simp, .inl ⟨_, _, rfl, run_takeDeferred HK'.out, ?_⟩⟩
        exact ⟨.bool true, by simp [results, Tryd.f5, go_sem, HC5.out], rfl, hB5⟩
  case stop =>
    rintro D c pre W _ _ h _
    exact h.elim
end Go.Proofs.YtlbckjdlfdiceabDoor
