/- Package path's Check. -/
import Derived.Test.YtgildlfanfbebaaGreatDoorSplit
import Derived.Test.YtgildlfanfbebaaGreatDoorEvery
namespace Go.Proofs.YtgildlfanfbebaaGreatDoor
open Go Go.RowKit Go.Shelf
attribute [local go_sem] Oper.semAt_some

theorem nameN_cases (s : ByteArray) : nameN s = 0 ∨ nameN s = 8 := by
  unfold nameN
  repeat' split
  all_goals first | exact .inl rfl | exact .inr rfl
def checkN (p : ByteArray) : Int :=
  if p.toList.isEmpty then 15 else if (piecesB p).any (fun x => nameN x != 0) then 8 else if 32 < (piecesB p).length then 9 else if 255 < p.size then 9 else (splitP (whiteoutB p)).2.2
theorem cutL_length : ∀ l : List UInt8, (cutL l).length ≤ l.length + 1
  | [] => by simp [cutL]
  | c :: l => by
    have ih := cutL_length l
    have hn : 0 < (cutL l).length := List.length_pos_iff.2 (cutL_ne l)
    rw [cutL_cons]; split <;> simp <;> omega
theorem piecesB_length (s : ByteArray) : (piecesB s).length ≤ s.size + 1 := by
  unfold piecesB; rw [List.length_map, ← un_length]; exact cutL_length _
theorem pre_length {pre xs : List ByteArray} {x : ByteArray} (h : pre ++ [x] <+: xs) : pre.length < xs.length := by
  have := h.length_le; simp at this; omega

theorem joinB_size (a b : ByteArray) : (joinB a b).size ≤ a.size + 1 + b.size := by
  unfold joinB; split
  · omega
  · rw [ByteArray.size_append, ByteArray.size_append, show (ByteArray.mk #[47]).size = 1 from rfl]; omega
theorem whiteoutB_size (p : ByteArray) : (whiteoutB p).size ≤ 2 * p.size + 5 := by
  have h1 := parentB_size p
  have h2 := lastB_size p
  have h3 := joinB_size (parentB p) (⟨#[46, 119, 104, 46]⟩ ++ lastB p)
  rw [ByteArray.size_append, show (ByteArray.mk #[46, 119, 104, 46]).size = 4 from rfl] at h3
  unfold whiteoutB; omega
theorem splitP_cases (p : ByteArray) : (splitP p).2.2 = 0 ∨ (splitP p).2.2 = 9 := by
  unfold splitP
  repeat' split
  all_goals first | exact .inl rfl | exact .inr rfl
theorem check_root (p : ByteArray) (w : World) (h : p.toList.isEmpty = true) : Calls Tryz.prog 116 #[.string p] w fun e w' => e = .returned (errV 15) ∧ Below w.heap.size w w' := by
  go_enter Tryz.func116, Tryz.ntmps116
  go_wp2
  refine bodyPost_ret (v := errV 15) (by simp [results, Tryz.results116, go_sem]; rfl) rfl ⟨rfl, (Below.refl _ _).alloc (Nat.le_refl _) _⟩

set_option maxRecDepth 100000 in
set_option maxHeartbeats 4000000 in
theorem check_some (p : ByteArray) (w : World) (h : p.toList.isEmpty = false) (hs : p.size < 1152921504606846976) (hc : ∀ x ∈ piecesB p, x.size ≤ 96 → AnyOK x) :
    Calls Tryz.prog 116 #[.string p] w fun e w' => e = .returned (errV (checkN p)) ∧ Below w.heap.size w w' := by
  obtain ⟨n, hn⟩ : ∃ n : Nat, n = 3 := ⟨3, rfl⟩
  clear hn
  refine (callsIn_wide (n := n)).1 ?_
  refine callsIn_of_wp_marks Tryz.func116 rfl trivial ?_ rfl
  simp only [Tryz.ntmps116, List.size_toArray, List.length_cons, List.length_nil, Nat.reduceAdd, Nat.reduceSub, Array.replicate_succ, Array.replicate_zero, List.push_toArray, List.append_toArray, List.nil_append, List.cons_append]
  gi_wp2_with (refine ⟨trivial, wd _, ?_⟩; gi_at_call 54; refine (callsIn_wide.2 (every_p _ _)).mono ?_; rintro e w' ⟨rfl, rfl⟩)
  have hB0 : Below w.heap.size w (((w.alloc (.cells #[.nilIface] 30)).alloc (.cells #[.int .i64 0] 3)).alloc (.cells #[.string p] 9)) := (((Below.refl _ w).alloc (Nat.le_refl _) _).alloc (by simp) _).alloc (by simp; omega) _
  have c0 : Boxed (((w.alloc (.cells #[.nilIface] 30)).alloc (.cells #[.int .i64 0] 3)).alloc (.cells #[.string p] 9)) w.heap.size 30 .nilIface := ((Boxed.new w _ _).alloc _).alloc _
  have c1 : Boxed (((w.alloc (.cells #[.nilIface] 30)).alloc (.cells #[.int .i64 0] 3)).alloc (.cells #[.string p] 9)) (w.heap.size + 1) 3 (.int .i64 0) := by
    have h := Boxed.new (w.alloc (.cells #[.nilIface] 30)) 3 (.int .i64 0); rw [World.size_alloc] at h; exact h.alloc _
  have c2 : Boxed (((w.alloc (.cells #[.nilIface] 30)).alloc (.cells #[.int .i64 0] 3)).alloc (.cells #[.string p] 9)) (w.heap.size + 1 + 1) 9 (.string p) := by
    have h := Boxed.new ((w.alloc (.cells #[.nilIface] 30)).alloc (.cells #[.int .i64 0] 3)) 9 (.string p); simp only [World.size_alloc] at h; exact h
  have hpl := piecesB_length p
  refine range_law (xs := piecesB p) (n₀ := w.heap.size) rfl (enters_of Tryz.func89 (by kernel_rfl) rfl)
    (every_gives p (w.heap.size + 1 + 1) w.heap.size _ (by omega) c2.cell) (by simp; omega) (Below.refl _ _)
    (fun pre W => (∀ y ∈ pre, nameN y = 0) ∧ Boxed W w.heap.size 30 .nilIface ∧ Boxed W (w.heap.size + 1) 3 (.int .i64 pre.length) ∧ Below w.heap.size w W)
    (fun c pre W => c = .ret ∧ (∃ y ∈ pre, nameN y = 8) ∧ Boxed W w.heap.size 30 (errV 8) ∧ Below w.heap.size w W)
    (fun s A B row hs hg hr => ⟨hs.1, bx hs.2.1 hg hr, bx hs.2.2.1 hg hr, blw hs.2.2.2 hg hr (Nat.le_refl _) (by simp; omega)⟩)
    (fun c s A B row hs hg hr => ⟨hs.1, hs.2.1, bx hs.2.2.1 hg hr, blw hs.2.2.2 hg hr (Nat.le_refl _) (by simp; omega)⟩)
    ⟨by simp, c0, c1, hB0⟩
    (fun x => { tmps := #[.string p, undef, .pointer (some ⟨w.heap.size, 0, none⟩), .pointer (some ⟨w.heap.size + 1, 0, none⟩), .string x, undef, undef, undef, undef, .string p, .bool false, undef, .string p, .func (.func 89) #[] #[.pointer (some ⟨w.heap.size + 1 + 1, 0, none⟩)], .string x, undef, undef, undef, undef, undef, undef, undef, undef, undef, undef, undef, undef, undef, undef, undef, undef, undef, undef, undef, undef, undef, undef, undef], defers := [] }) ?assign ?body ?done ?stop
  case assign =>
    intro m l x W K hK
    gi_wp2
    exact hK
  case body =>
    rintro m l pre x W ⟨hp, hc0, hc1, hB⟩ hx hsz
    have hlen := pre_length hx
    have hmem : x ∈ piecesB p := hx.subset (by simp)
    have hcx := hc x hmem
    clear hsz c0 c1 c2 hB0 hmem hc
    rcases nameN_cases x with h0 | h8
    · have H0 : Hid _ := h0
      clear h0
      have hbd : (pre.length : Int) < 1152921504606846978 := by omega
      gi_wp2_with (refine ⟨trivial, wd _, ?_⟩; gi_at_call 134; refine (CallsIn.inRound l (callsIn_wide.2 (name_p x _ hcx))).mono ?_; rintro e W2 ⟨rfl, hb⟩; rw [H0.out, errV_zero]; have hd0 := (boxed_below hc0 hb).cell; have hd1 := (boxed_below hc1 hb).cell; have hf1 := (boxed_below hc1 hb).frozen)
      exact ⟨⟨fun y hy => (List.mem_append.1 hy).elim (hp y) (fun e => by simp at e; rw [e]; exact H0.out), Boxed.other (boxed_below hc0 hb) (by omega) _, by have := Boxed.set (.int .i64 ((pre ++ [x]).length : Nat)) (boxed_below hc1 hb); simpa using this, (hB.trans (hb.mono hB.size)).setCell (p := ⟨w.heap.size + 1, 0, none⟩) (by simp) _⟩, (hb.mono hB.size).setCell (p := ⟨w.heap.size + 1, 0, none⟩) (by simp) _, (keeps_of_below hb).trans (keeps_set _ _ _)⟩
    · have H8 : Hid _ := h8
      clear h8
      gi_wp2_with (refine ⟨trivial, wd _, ?_⟩; gi_at_call 134; refine (CallsIn.inRound l (callsIn_wide.2 (name_p x _ hcx))).mono ?_; rintro e W2 ⟨rfl, hb⟩; rw [H8.out, errV_some 8 (by decide)]; have hd0 := (boxed_below hc0 hb).cell; have hf0 := (boxed_below hc0 hb).frozen)
      exact ⟨⟨rfl, ⟨x, by simp, H8.out⟩, by have := Boxed.set (errV 8) (boxed_below hc0 hb); exact this, (hB.trans (hb.mono hB.size)).setCell (p := ⟨w.heap.size, 0, none⟩) (Nat.le_refl _) _⟩, (hb.mono hB.size).setCell (p := ⟨w.heap.size, 0, none⟩) (Nat.le_refl _) _, (keeps_of_below hb).trans (keeps_set _ _ _)⟩
  case done =>
    rintro D W hD ⟨hp, hc0, hc1, hB⟩ hK
    have hany : (piecesB p).any (fun x => nameN x != 0) = false := by
      rw [List.any_eq_false]; intro y hy; rw [hp y hy]; decide
    have hd1 := hc1.cell
    have hd0 := hc0.cell
    have hf0 := hc0.frozen
    have hDw : w.heap.size ≤ D := by simp at hD; omega
    have fin : ∀ (W2 : World) (v : Value), Boxed W2 w.heap.size 30 .nilIface → W2.heap[D]? = some (.deferred (some [])) → Below w.heap.size w W2 →
        (W2.setCell ⟨w.heap.size, 0, none⟩ v).heap[D]? = some (.deferred (some [])) ∧ ((W2.setCell ⟨w.heap.size, 0, none⟩ v).putObj D (.deferred none)).cell? ⟨w.heap.size, 0, none⟩ = some v ∧ Below w.heap.size w ((W2.setCell ⟨w.heap.size, 0, none⟩ v).putObj D (.deferred none)) := fun W2 v hb2 hk2 hB2 => by
      have hK' := (keeps_set (B := 0) W2 ⟨w.heap.size, 0, none⟩ v).same D _ (Nat.zero_le _) hk2 rfl
      exact ⟨hK', (boxed_put (.deferred none) (Boxed.set v hb2) hK' rfl).cell, (hB2.setCell (p := ⟨w.heap.size, 0, none⟩) (Nat.le_refl _) _).trans (putLoop_below _ hK' hDw)⟩
    clear hp c0 c1 c2 hB0 hc hD
    by_cases h32 : 32 < (piecesB p).length
    · have h32' : (32 : Int) < (piecesB p).length := by omega
      have hC : checkN p = 9 := by simp [checkN, h, hany, h32]
      have HC : Hid _ := hC
      clear hC hany
      gi_wp2
      obtain ⟨hK', hc5, hB5⟩ := fin W (.iface 77 (.int .i64 9)) hc0 hK hB
      refine ⟨by simp, .inl ⟨_, _, rfl, run_takeDeferred hK', ?_⟩⟩
      exact ⟨.iface 77 (.int .i64 9), by simp [results, Tryz.f116, go_sem, hc5], by rw [HC.out]; rfl, hB5⟩
    have h32' : ¬ (32 : Int) < (piecesB p).length := by omega
    by_cases h255 : 255 < p.size
    · have h255' : (255 : Int) < p.size := by omega
      have hC : checkN p = 9 := by simp [checkN, h, hany, h255]
      have HC : Hid _ := hC
      clear hC hany
      gi_wp2
      obtain ⟨hK', hc5, hB5⟩ := fin W (.iface 77 (.int .i64 9)) hc0 hK hB
      refine ⟨by simp, .inl ⟨_, _, rfl, run_takeDeferred hK', ?_⟩⟩
      exact ⟨.iface 77 (.int .i64 9), by simp [results, Tryz.f116, go_sem, hc5], by rw [HC.out]; rfl, hB5⟩
    · have h255' : ¬ (255 : Int) < p.size := by omega
      have hC : checkN p = (splitP (whiteoutB p)).2.2 := by simp [checkN, h, hany, h32, h255]
      have HC : Hid _ := hC
      have hwz := whiteoutB_size p
      clear hC hany
      rcases splitP_cases (whiteoutB p) with h0 | h9
      · have H0 : Hid _ := h0
        clear h0
        gi_wp2_with (first | (refine ⟨trivial, wd _, ?_⟩; gi_at_call 136; refine (callsIn_wide.2 (whiteout_p _ _ (by omega))).mono ?_; rintro e W2 ⟨rfl, rfl⟩) | (refine ⟨trivial, wd _, ?_⟩; gi_at_call 135; refine (callsIn_wide.2 (split_p _ _ (by omega))).mono ?_; rintro e W2 ⟨rfl, hb⟩; rw [H0.out, errV_zero]; have hd0 := (boxed_below hc0 hb).cell; have hf0 := (boxed_below hc0 hb).frozen))
        obtain ⟨hK', hc5, hB5⟩ := fin W2 .nilIface (boxed_below hc0 hb) ((keeps_of_below (B := 0) hb).same D _ (Nat.zero_le _) hK rfl) (hB.trans (hb.mono hB.size))
        refine ⟨by simp, .inl ⟨_, _, rfl, run_takeDeferred hK', ?_⟩⟩
        exact ⟨.nilIface, by simp [results, Tryz.f116, go_sem, hc5], by rw [HC.out, H0.out]; rfl, hB5⟩
      · have H9 : Hid _ := h9
        clear h9
        gi_wp2_with (first | (refine ⟨trivial, wd _, ?_⟩; gi_at_call 136; refine (callsIn_wide.2 (whiteout_p _ _ (by omega))).mono ?_; rintro e W2 ⟨rfl, rfl⟩) | (refine ⟨trivial, wd _, ?_⟩; gi_at_call 135; refine (callsIn_wide.2 (split_p _ _ (by omega))).mono ?_; rintro e W2 ⟨rfl, hb⟩; rw [H9.out, errV_some 9 (by decide)]; have hd0 := (boxed_below hc0 hb).cell; have hf0 := (boxed_below hc0 hb).frozen))
        obtain ⟨hK', hc5, hB5⟩ := fin W2 (.iface 77 (.int .i64 9)) (boxed_below hc0 hb) ((keeps_of_below (B := 0) hb).same D _ (Nat.zero_le _) hK rfl) (hB.trans (hb.mono hB.size))
        refine ⟨by simp, .inl ⟨_, _, rfl, run_takeDeferred hK', ?_⟩⟩
        exact ⟨.iface 77 (.int .i64 9), by simp [results, Tryz.f116, go_sem, hc5], by rw [HC.out, H9.out]; rfl, hB5⟩
  case stop =>
    rintro D c pre W hD hpre ⟨rfl, ⟨y, hy, hy8⟩, hcr, hB⟩ hK
    gi_wp2
    refine ⟨by simp, .inl ⟨_, _, rfl, run_takeDeferred hK, ?_⟩⟩
    have hc5 := (boxed_put (.deferred none) hcr hK rfl).cell
    refine ⟨errV 8, ?_, ?_, hB.trans (putLoop_below _ hK (by simp at hD; omega))⟩
    · simp [results, Tryz.f116, go_sem, hc5]
    · have ha : (piecesB p).any (fun x => nameN x != 0) = true := List.any_eq_true.2 ⟨y, hpre.subset hy, by rw [hy8]; rfl⟩
      simp [checkN, h, ha]

theorem check_p (p : ByteArray) (w : World) (hs : p.size < 1152921504606846976) (hc : ∀ x ∈ piecesB p, x.size ≤ 96 → AnyOK x) :
    Calls Tryz.prog 116 #[.string p] w fun e w' => e = .returned (errV (checkN p)) ∧ Below w.heap.size w w' := by
  cases h : p.toList.isEmpty
  · exact check_some p w h hs hc
  · have e : checkN p = 15 := by simp [checkN, h]
    rw [e]; exact check_root p w h
end Go.Proofs.YtgildlfanfbebaaGreatDoor
