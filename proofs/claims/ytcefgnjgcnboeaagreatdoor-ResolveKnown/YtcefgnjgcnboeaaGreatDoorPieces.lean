/- Package path's Pieces: it hands on the pieces of a text that are not empty. -/
import Derived.Test.YtcefgnjgcnboeaaGreatDoorEvery
namespace Go.Proofs.YtcefgnjgcnboeaaGreatDoor
open Go Go.RowKit Go.Shelf
attribute [local go_sem] Oper.semAt_some

def full (x : ByteArray) : Bool := !x.toList.isEmpty
def namesB (s : ByteArray) : List ByteArray := (piecesB s).filter full

theorem pieces_p (s : ByteArray) (w : World) : Calls Tryz.prog 68 #[.string s] w fun e w' => e = .returned (.func (.func 95) #[] #[.pointer (some ⟨w.heap.size, 0, none⟩)]) ∧ w' = w.alloc (.cells #[.string s] 9) := by
  go_enter Tryz.func68, Tryz.ntmps68
  go_wp2
  go_ret
  exact ⟨rfl, rfl⟩

theorem filter_prefix {pre xs : List ByteArray} {x : ByteArray} (h : pre ++ [x] <+: xs) (hx : full x = true) : pre.filter full ++ [x] <+: xs.filter full := by
  obtain ⟨t, rfl⟩ := h
  refine ⟨t.filter full, ?_⟩
  simp [hx]

set_option maxRecDepth 100000 in
set_option maxHeartbeats 4000000 in
theorem pieces_gives (s : ByteArray) (B n₀ : Nat) (w : World) (hs : s.size ≤ 9223372036854775807) (hB : w.cell? ⟨B, 0, none⟩ = some (.string s)) (hn₀ : n₀ ≤ w.heap.size) :
    GivesD Tryz.prog 95 #[.pointer (some ⟨B, 0, none⟩)] (namesB s) n₀ 1 w := by
  intro n l J Jx W hW hJ hJx hY h0
  have hBlt : B < w.heap.size := by
    rcases Nat.lt_or_ge B w.heap.size with h | h
    · exact h
    · simp [World.cell?, Array.getElem?_eq_none h] at hB
  have hBW : (W.alloc (.cells #[.func (.yield l) #[] #[]] 146)).cell? ⟨B, 0, none⟩ = some (.string s) := by
    have hz := hW.size
    rw [World.cell?_alloc_lt _ _ ⟨B, 0, none⟩ (by simp; omega)]
    exact (hW.cell (p := ⟨B, 0, none⟩) hBlt).trans hB
  refine callsIn_of_wp_marks Tryz.func95 rfl trivial ?_ rfl
  simp only [Tryz.ntmps95, List.size_toArray, List.length_cons, List.length_nil, Nat.reduceAdd, Nat.reduceSub, Array.replicate_succ, Array.replicate_zero, List.push_toArray, List.append_toArray, List.nil_append, List.cons_append]
  gi_wp2_with (refine ⟨trivial, wd _, ?_⟩; gi_at_call 88; refine (callsIn_wide.2 (every_p _ _)).mono ?_; rintro e w' ⟨rfl, rfl⟩)
  obtain ⟨W0, hW0⟩ : ∃ W0, ((W.alloc (.cells #[.func (.yield l) #[] #[]] 146)).alloc (.cells #[.string s] 9)) = W0 := ⟨_, rfl⟩
  have hsz : W0.heap.size = W.heap.size + 2 := by rw [← hW0]; simp
  have c0 : Boxed W0 W.heap.size 146 (.func (.yield l) #[] #[]) := by rw [← hW0]; exact (Boxed.new W _ _).alloc _
  have c1 : Boxed W0 (W.heap.size + 1) 9 (.string s) := by
    have h := Boxed.new (W.alloc (.cells #[.func (.yield l) #[] #[]] 146)) 9 (.string s); rw [World.size_alloc] at h; rw [← hW0]; exact h
  have hj0 : J [] W0 := by
    rw [← hW0]
    exact hJ [] _ _ none (hJ [] _ _ none h0 (World.grownBy_alloc W _ none) (fun r e => by cases e)) (World.grownBy_alloc _ _ none) (fun r e => by cases e)
  rw [hW0]
  clear hW0
  have hWn : n₀ ≤ W.heap.size := Nat.le_trans hn₀ hW.size
  refine range_law (xs := piecesB s) (n₀ := n₀) rfl (enters_of Tryz.func105 (by kernel_rfl) rfl)
    (every_gives s (W.heap.size + 1) n₀ _ (by omega) c1.cell) (by omega) (Below.refl _ _)
    (fun pre X => J (pre.filter full) X ∧ Boxed X W.heap.size 146 (.func (.yield l) #[] #[]))
    (fun c pre X => c = .ret ∧ Jx (pre.filter full) X)
    (fun s A B row hs hg hr => ⟨hJ _ A B row hs.1 hg (fun r e => ⟨by have := (hr r e).1; omega, (hr r e).2⟩), bx hs.2 hg hr⟩)
    (fun c s A B row hs hg hr => ⟨hs.1, hJx _ A B row hs.2 hg (fun r e => ⟨by have := (hr r e).1; omega, (hr r e).2⟩)⟩)
    ⟨hj0, c0⟩
    (fun x => { tmps := #[.func (.yield l) #[] #[], .pointer (some ⟨B, 0, none⟩), .pointer (some ⟨W.heap.size, 0, none⟩), .string x, .string s, .func (.func 105) #[] #[.pointer (some ⟨W.heap.size + 1, 0, none⟩)], .string x, undef, undef, undef, undef, undef, undef, undef, undef], defers := [] }) ?assign ?body ?done ?stop
  case assign =>
    intro m l x W K hK
    gi_wp2
    exact hK
  case body =>
    rintro m l2 pre x X ⟨hj, hc0⟩ hx hsz2
    have hd0 := hc0.cell
    clear c0 c1 hj0 hBW hB
    cases he : x.toList.isEmpty
    · have hfx : full x = true := by simp [full, he]
      have hfp := filter_prefix hx hfx
      have Hf : Hid ((pre ++ [x]).filter full = pre.filter full ++ [x]) := by unfold Hid; simp [hfx]
      obtain ⟨fn, tmps, assign, body, hy, hR⟩ := hY (m - 1) (pre.filter full) x X hj hfp (by omega)
      clear hfx hfp
      gi_wp2
      refine ⟨wd _, RoundIn.mono (F := Fence.wide.inRound l2) hR ?_⟩
      rintro e W2 ⟨⟨rfl, hj2⟩ | ⟨rfl, hjx2⟩, hb2, hk2, hs2⟩
      · gi_wp2
        exact ⟨⟨by rw [Hf.out]; exact hj2, (hs2 W.heap.size (Nat.le_refl _) (by omega)).trans hc0⟩, hb2, hk2.size, fun k o hk => hk2.same k o (by omega)⟩
      · gi_wp2
        exact ⟨⟨rfl, by rw [Hf.out]; exact hjx2⟩, hb2, hk2.size, fun k o hk => hk2.same k o (by omega)⟩
    · have hfx : full x = false := by simp [full, he]
      have Hf : Hid ((pre ++ [x]).filter full = pre.filter full) := by unfold Hid; simp [hfx]
      clear hfx
      gi_wp2
      refine ⟨fun _ h => (by cases h), ?_⟩
      gi_wp2
      exact ⟨⟨by rw [Hf.out]; exact hj, hc0⟩, Below.refl _ _, KeepsFrom.refl _ _⟩
  case done =>
    rintro D X hD ⟨hj, _⟩ hK
    gi_wp2
    refine ⟨by simp, .inl ⟨_, _, rfl, run_takeDeferred hK, ?_⟩⟩
    exact ⟨_, results_none rfl _ _ _, ⟨_, rfl⟩, .inl (hJ _ _ _ (some D) hj (grownBy_putObj' X D (.deferred none)) (fun r e => by cases e; exact ⟨by omega, _, hK, rfl⟩))⟩
  case stop =>
    rintro D c pre X hD hpre ⟨rfl, hjx⟩ hK
    gi_wp2
    refine ⟨by simp, .inl ⟨_, _, rfl, run_takeDeferred hK, ?_⟩⟩
    refine ⟨_, results_none rfl _ _ _, ⟨_, rfl⟩, .inr ⟨pre.filter full, ?_, hJx _ _ _ (some D) hjx (grownBy_putObj' X D (.deferred none)) (fun r e => by cases e; exact ⟨by omega, _, hK, rfl⟩)⟩⟩
    exact hpre.filter full
end Go.Proofs.YtcefgnjgcnboeaaGreatDoor
