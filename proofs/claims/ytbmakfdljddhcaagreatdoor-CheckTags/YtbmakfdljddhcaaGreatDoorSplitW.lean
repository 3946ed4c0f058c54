/- strings.SplitSeq at "/": it hands on all pieces of a text. -/
import Derived.Test.YtbmakfdljddhcaaGreatDoorRndX
import Derived.Test.YtbmakfdljddhcaaGreatDoorEvery
namespace Go.Proofs.YtbmakfdljddhcaaGreatDoor
open Go Go.RowKit Go.Shelf
attribute [local go_sem] Oper.semAt_some

theorem sIndex_p (s : ByteArray) (w : World) : Calls Tryz.prog 69 #[.string s, .string ⟨#[47]⟩] w fun e w' => e = .returned (.int .i64 (ix s)) ∧ w' = w := by
  go_enter Tryz.func69, Tryz.ntmps69
  go_wp2_with (go_at_call 47; refine (index_p _ _).mono ?_; rintro e w' ⟨rfl, rfl⟩)
  go_ret
  exact ⟨rfl, rfl⟩
/-- The three boxes of splitSeq. -/
def splitBox (s : ByteArray) (w : World) : World := ((w.alloc (.cells #[.string s] 9)).alloc (.cells #[.string ⟨#[47]⟩] 9)).alloc (.cells #[.int .i64 0] 3)
theorem splitSeq_i (s : ByteArray) (w : World) : Calls Tryz.prog 48 #[.string s, .string ⟨#[47]⟩, .int .i64 0] w fun e w' => e = .returned (.func (.func 67) #[] #[.pointer (some ⟨w.heap.size + 1, 0, none⟩), .pointer (some ⟨w.heap.size, 0, none⟩), .pointer (some ⟨w.heap.size + 2, 0, none⟩)]) ∧ w' = splitBox s w := by
  go_enter Tryz.func48, Tryz.ntmps48
  go_wp2
  go_ret
  exact ⟨rfl, rfl⟩
theorem splitSeq_p (s : ByteArray) (w : World) : Calls Tryz.prog 38 #[.string s, .string ⟨#[47]⟩] w fun e w' => e = .returned (.func (.func 67) #[] #[.pointer (some ⟨w.heap.size + 1, 0, none⟩), .pointer (some ⟨w.heap.size, 0, none⟩), .pointer (some ⟨w.heap.size + 2, 0, none⟩)]) ∧ w' = splitBox s w := by
  go_enter Tryz.func38, Tryz.ntmps38
  go_wp2_with (go_at_call 48; refine (splitSeq_i _ _).mono ?_; rintro e w' ⟨rfl, rfl⟩)
  go_ret
  exact ⟨rfl, rfl⟩
theorem split_boxes (s : ByteArray) (w : World) : Boxed (splitBox s w) w.heap.size 9 (.string s) ∧ Boxed (splitBox s w) (w.heap.size + 1) 9 (.string ⟨#[47]⟩) ∧ Boxed (splitBox s w) (w.heap.size + 2) 3 (.int .i64 0) ∧ Below w.heap.size w (splitBox s w) ∧ (splitBox s w).heap.size = w.heap.size + 3 := by
  refine ⟨((Boxed.new w _ _).alloc _).alloc _, ?_, ?_, (((Below.refl _ w).alloc (Nat.le_refl _) _).alloc (by simp) _).alloc (by simp; omega) _, by simp [splitBox]⟩
  · have h := Boxed.new (w.alloc (.cells #[.string s] 9)) 9 (.string ⟨#[47]⟩); rw [World.size_alloc] at h; exact h.alloc _
  · have h := Boxed.new ((w.alloc (.cells #[.string s] 9)).alloc (.cells #[.string ⟨#[47]⟩] 9)) 3 (.int .i64 0); simp only [World.size_alloc] at h; exact h
def boxLen (B : Nat) (W : World) : Nat := match W.cell? ⟨B, 0, none⟩ with | some (.string t) => t.size | _ => 0
theorem boxLen_of {B : Nat} {W : World} {t : ByteArray} (h : Boxed W B 9 (.string t)) : boxLen B W = t.size := by unfold boxLen; rw [h.cell]
theorem boxed_same {A B : World} {b : Nat} {t : TypeId} {v : Value} (h : Boxed A b t v) (hs : B.heap[b]? = A.heap[b]?) : Boxed B b t v := hs.trans h
set_option maxRecDepth 100000 in
set_option maxHeartbeats 4000000 in
theorem split_gives (s : ByteArray) (B : Nat) (w : World) (hs : s.size ≤ 4611686018427387904) (hB : Boxed w B 9 (.string s)) (hB1 : Boxed w (B + 1) 9 (.string ⟨#[47]⟩)) (hB2 : Boxed w (B + 2) 3 (.int .i64 0)) :
    GivesX Tryz.prog 67 #[.pointer (some ⟨B + 1, 0, none⟩), .pointer (some ⟨B, 0, none⟩), .pointer (some ⟨B + 2, 0, none⟩)] (fun x : ByteArray => #[.string x]) (piecesB s) (fun k => k = B ∨ k = B + 1 ∨ k = B + 2) w := by
  intro n l J Jx S W hW hJ hJx hS hY h0
  have bW := boxed_same hB (hW.block B hB.lt)
  have bW1 := boxed_same hB1 (hW.block _ hB1.lt)
  have bW2 := boxed_same hB2 (hW.block _ hB2.lt)
  have hBs : B + 2 < W.heap.size := by have := hB2.lt; have := hW.size; omega
  have c1 := bW1.cell
  have HS : Hid (∀ k, S k → ¬ (k = B ∨ k = B + 1 ∨ k = B + 2)) := hS
  have HSl : Hid (∀ k, S k → k < W.heap.size) := hJ.there _ _ _ h0
  have HJ : Hid (LocalQ J) := hJ
  have HJx : Hid (LocalQ Jx) := hJx
  have HY : Hid (RoundX Tryz.prog l (fun x : ByteArray => #[.string x]) (piecesB s) J Jx) := hY
  have H0 : Hid (J [] S W ∧ Boxed W B 9 (.string s) ∧ Boxed W (B + 1) 9 (.string ⟨#[47]⟩) ∧ Boxed W (B + 2) 3 (.int .i64 0)) := ⟨h0, bW, bW1, bW2⟩
  -- what a round leaves of the boxes
  have KEEP : Hid (∀ (S2 : Nat → Prop) (X : World), RndO (fun k => k = B ∨ k = B + 1 ∨ k = B + 2) S S2 W X → ∀ j, j ≤ 2 → ¬ S2 (B + j)) := fun S2 X hr j hj h => by
    rcases hr.2 (B + j) h with h1 | h1
    · exact hS _ h1 (by omega)
    · omega
  clear hW hJ hJx hS hY h0 bW bW1 bW2 hB hB1 hB2
  refine callsIn_of_wp Tryz.func67 rfl trivial ?_ rfl
  simp only [Tryz.ntmps67, List.size_toArray, List.length_cons, List.length_nil, Nat.reduceAdd, Nat.reduceSub, Array.replicate_succ, Array.replicate_zero, List.push_toArray, List.append_toArray, List.nil_append, List.cons_append]
  gi_wp2
  clear c1
  gi_loopw [7, 8] (fun _ _ wr => ∃ (pre : List ByteArray) (t : ByteArray) (S2 : Nat → Prop), J pre S2 wr ∧ RndO (fun k => k = B ∨ k = B + 1 ∨ k = B + 2) S S2 W wr ∧ Boxed wr B 9 (.string t) ∧ Boxed wr (B + 1) 9 (.string ⟨#[47]⟩) ∧ Boxed wr (B + 2) 3 (.int .i64 0) ∧ t.size ≤ s.size ∧ piecesB s = pre ++ piecesB t) (fun _ _ wr => boxLen B wr)
  case atStart => exact ⟨[], s, S, H0.out.1, RndO.refl _ _ _, H0.out.2.1, H0.out.2.2.1, H0.out.2.2.2, Nat.le_refl _, rfl⟩
  case round =>
    obtain ⟨pre, t, S2, hj, hr, b0, b1, b2, hts, hp⟩ := hrel
    have HJ2 : Hid (J pre S2 wr) := hj
    have HR : Hid (RndO (fun k => k = B ∨ k = B + 1 ∨ k = B + 2) S S2 W wr) := hr
    have HB : Hid (Boxed wr B 9 (.string t) ∧ Boxed wr (B + 1) 9 (.string ⟨#[47]⟩) ∧ Boxed wr (B + 2) 3 (.int .i64 0)) := ⟨b0, b1, b2⟩
    have c0 := b0.cell
    have c1 := b1.cell
    have c2 := b2.cell
    clear hj hr b0 b1 b2
    rcases ix_cases t with hm | ⟨i, hi, hit⟩
    · have Hp : Hid (piecesB s = pre ++ [t]) := by unfold Hid; rw [hp, piecesB_miss t hm]
      have Hm : Hid (ix t = -1) := hm
      obtain ⟨fn, tmps, assign, body, hy, hR⟩ := HY.out (n - 1) pre t S2 wr HJ2.out ⟨[], by rw [Hp.out]; simp⟩
      clear hp hm
      gi_wp2_with (refine ⟨trivial, wd _, ?_⟩; gi_at_call 69; refine (callsIn_wide.2 (sIndex_p _ _)).mono ?_; rintro e w' ⟨rfl, rfl⟩; rw [Hm.out])
      refine ⟨wd _, hR.mono ?_⟩
      rintro e W3 ⟨S3, hr3, ⟨rfl, hj3⟩ | ⟨rfl, hj3⟩⟩
      · gi_wp2
        go_end0
        exact ⟨⟨_, rfl⟩, S3, HR.out.round hr3, .inl (by rw [Hp.out]; exact hj3)⟩
      · gi_wp2
        go_end0
        exact ⟨⟨_, rfl⟩, S3, HR.out.round hr3, .inr ⟨pre ++ [t], by rw [Hp.out]; exact List.prefix_refl _, hj3⟩⟩
    · have Hp : Hid (piecesB s = pre ++ [t.extract 0 i] ++ piecesB (t.extract (i + 1) t.size)) := by unfold Hid; rw [hp, piecesB_hit t i hi]; simp
      have Hi : Hid (ix t = i) := hi
      have hle : Hid ((t.extract (i + 1) t.size).size < t.size) := by unfold Hid; rw [← un_length, un_extract, ← un_length]; simp; rw [un_length]; omega
      clear hp hi
      obtain ⟨fn, tmps, assign, body, hy, hR⟩ := HY.out (n - 1) pre (t.extract 0 i) S2 wr HJ2.out ⟨piecesB (t.extract (i + 1) t.size), Hp.out.symm⟩
      gi_wp2_with (refine ⟨trivial, wd _, ?_⟩; gi_at_call 69; refine (callsIn_wide.2 (sIndex_p _ _)).mono ?_; rintro e w' ⟨rfl, rfl⟩; rw [Hi.out])
      refine ⟨wd _, hR.mono ?_⟩
      rintro e W3 ⟨S3, hr3, ⟨rfl, hj3⟩ | ⟨rfl, hj3⟩⟩
      · have hk := KEEP.out S2 _ HR.out
        have hwr := HR.out.1.size
        have d0 : Boxed W3 B 9 (.string t) := boxed_same HB.out.1 (hr3.same B (by omega) (hk 0 (by omega)))
        have d1 : Boxed W3 (B + 1) 9 (.string ⟨#[47]⟩) := boxed_same HB.out.2.1 (hr3.same _ (by omega) (hk 1 (by omega)))
        have d2 : Boxed W3 (B + 2) 3 (.int .i64 0) := boxed_same HB.out.2.2 (hr3.same _ (by omega) (hk 2 (by omega)))
        have e0 := d0.cell
        have f0 := d0.frozen
        have e1 := d1.cell
        have HJ3 : Hid (J (pre ++ [t.extract 0 i]) S3 W3 ∧ Rnd S2 S3 _ W3) := ⟨hj3, hr3⟩
        have HD : Hid (Boxed W3 B 9 (.string t) ∧ Boxed W3 (B + 1) 9 (.string ⟨#[47]⟩) ∧ Boxed W3 (B + 2) 3 (.int .i64 0)) := ⟨d0, d1, d2⟩
        clear hj3 hr3 d0 d1 d2 hk
        gi_wp2
        go_roundw
        case rel =>
          have hr4 := HR.out.round HJ3.out.2
          have hk3 := KEEP.out S3 W3 hr4 0 (by omega)
          refine ⟨pre ++ [t.extract 0 i], t.extract (i + 1) t.size, S3, HJ.out.keep _ S3 W3 _ HJ3.out.1 (by simp [World.setCell]) (fun k hk => Below.heap_setCell _ _ _ _ (fun e => hk3 ((show k = B + 0 from e) ▸ hk))), hr4.set (.inl rfl) _, Boxed.set _ HD.out.1, Boxed.other HD.out.2.1 (by omega) _, Boxed.other HD.out.2.2 (by omega) _, by have := hle.out; omega, Hp.out⟩
        case measure =>
          rw [boxLen_of HB.out.1, boxLen_of (Boxed.set _ HD.out.1)]
          exact hle.out
      · gi_wp2
        refine bodyPost_ret (results_none rfl _ _ _) rfl ?_
        exact ⟨⟨_, rfl⟩, S3, HR.out.round hr3, .inr ⟨pre ++ [t.extract 0 i], ⟨_, Hp.out.symm⟩, hj3⟩⟩
end Go.Proofs.YtbmakfdljddhcaaGreatDoor
