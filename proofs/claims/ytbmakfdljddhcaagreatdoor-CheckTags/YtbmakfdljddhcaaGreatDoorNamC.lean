/- Package check's isImageName. -/
import Derived.Test.YtbmakfdljddhcaaGreatDoorPieC
namespace Go.Proofs.YtbmakfdljddhcaaGreatDoor
open Go Go.RowKit Go.Shelf
attribute [local go_sem] Oper.semAt_some

def scrC : List UInt8 := [115, 99, 114, 97, 116, 99, 104]
def nameL (l : List UInt8) : Bool := (cutL l).all pieceL && !(l == scrC)
theorem cut_size : ∀ (l y : List UInt8), y ∈ cutL l → y.length ≤ l.length
  | [], y, h => by simp [cutL] at h; simp [h]
  | c :: l, y, h => by
    have ih := cut_size l
    have hc : ∃ z zs, cutL l = z :: zs := List.exists_cons_of_ne_nil (cutL_ne l)
    obtain ⟨z, zs, hc⟩ := hc
    rw [cutL_cons, hc] at h
    rw [hc] at ih
    split at h
    · rcases List.mem_cons.1 h with rfl | h
      · simp
      · have := ih y h; simp; omega
    · rcases List.mem_cons.1 h with rfl | h
      · have := ih z (by simp); simpa using this
      · have := ih y (by simp at h; simp [h]); simp; omega
theorem piece_size {p x : ByteArray} (h : x ∈ piecesB p) : x.size ≤ p.size := by
  unfold piecesB at h
  obtain ⟨y, hy, rfl⟩ := List.mem_map.1 h
  have := cut_size (un p) y hy
  rw [un_length] at this
  rw [size_bs]; exact this
theorem nameL_pieces (s : ByteArray) : nameL (un s) = ((piecesB s).all (fun x => pieceL (un x)) && !(un s == scrC)) := by
  unfold nameL piecesB
  rw [List.all_map, show (fun x => pieceL (un x)) ∘ bs = pieceL from funext fun l => by simp [un_bs]]
/-- What stands between the rounds: all pieces so far are right; the result's box stays as it is. -/
def NmI (w : World) (pre : List ByteArray) (S : Nat → Prop) (W : World) : Prop :=
  S = (fun k => k < w.heap.size + 1) ∧ w.heap.size + 1 ≤ W.heap.size ∧ (∀ k, k < w.heap.size → W.heap[k]? = w.heap[k]?) ∧ Boxed W w.heap.size 4 (.bool false) ∧ pre.all (fun x => pieceL (un x)) = true
def NmX (w : World) (c : Code) (pre : List ByteArray) (S : Nat → Prop) (W : World) : Prop :=
  c = .ret ∧ S = (fun k => k < w.heap.size + 1) ∧ w.heap.size + 1 ≤ W.heap.size ∧ (∀ k, k < w.heap.size → W.heap[k]? = w.heap[k]?) ∧ Boxed W w.heap.size 4 (.bool false) ∧ pre.all (fun x => pieceL (un x)) = false
theorem nmI_local (w : World) : LocalQ (NmI w) := by
  refine ⟨?_, ?_⟩
  · rintro pre S A B ⟨rfl, h1, h2, h3, h4⟩ hs hk
    exact ⟨rfl, by omega, fun k hk2 => (hk k (by omega)).trans (h2 k hk2), (hk _ (by omega)).trans h3, h4⟩
  · rintro pre S A ⟨rfl, h1, _⟩ k hk
    omega
theorem nmX_local (w : World) (c : Code) : LocalQ (NmX w c) := by
  refine ⟨?_, ?_⟩
  · rintro pre S A B ⟨h0, rfl, h1, h2, h3, h4⟩ hs hk
    exact ⟨h0, rfl, by omega, fun k hk2 => (hk k (by omega)).trans (h2 k hk2), (hk _ (by omega)).trans h3, h4⟩
  · rintro pre S A ⟨_, rfl, h1, _⟩ k hk
    omega
theorem rnd_set {S : Nat → Prop} {b : Nat} (hb : S b) (W : World) (i : Nat) (v : Value) : Rnd S S W (W.setCell ⟨b, i, none⟩ v) :=
  ⟨rfl, rfl, rfl, by simp [World.setCell], fun k _ hk => Below.heap_setCell _ _ _ _ (fun e => hk ((show k = b from e) ▸ hb)), fun _ h => .inl h⟩
theorem eg_split : ∀ args w, (callFunc 67 args).run Tryz.prog w = .ok (.enter 67 args) w := enters_of Tryz.func67 (by kernel_rfl) rfl
set_option maxRecDepth 100000 in
set_option maxHeartbeats 4000000 in
theorem name_p (p : ByteArray) (w : World) (hp : p.size ≤ 1099511627776) :
    Calls Tryz.prog 24 #[.string p] w fun e w' => e = .returned (.bool (nameL (un p))) ∧ Below w.heap.size w w' := by
  obtain ⟨n, hn⟩ : ∃ n : Nat, n = 3 := ⟨3, rfl⟩
  clear hn
  refine (callsIn_wide (n := n)).1 ?_
  refine callsIn_of_wp_marks Tryz.func24 rfl trivial ?_ rfl
  simp only [Tryz.ntmps24, List.size_toArray, List.length_cons, List.length_nil, Nat.reduceAdd, Nat.reduceSub, Array.replicate_succ, Array.replicate_zero, List.push_toArray, List.append_toArray, List.nil_append, List.cons_append]
  gi_wp2_with (refine ⟨trivial, wd _, ?_⟩; gi_at_call 38; refine (callsIn_wide.2 (splitSeq_p _ _)).mono ?_; rintro e w' ⟨rfl, rfl⟩)
  obtain ⟨WA, hWA⟩ : ∃ WA, w.alloc (.cells #[.bool false] 4) = WA := ⟨_, rfl⟩
  have hBA : Below w.heap.size w WA := by rw [← hWA]; exact (Below.refl _ w).alloc (Nat.le_refl _) _
  have c0 : Boxed WA w.heap.size 4 (.bool false) := by rw [← hWA]; exact Boxed.new w _ _
  have hsA : WA.heap.size = w.heap.size + 1 := by rw [← hWA]; simp
  rw [hWA]
  obtain ⟨b0, b1, b2, hBS, hsS⟩ := split_boxes p WA
  have hG := split_gives p WA.heap.size (splitBox p WA) (by omega) b0 b1 b2
  rw [hsA] at hG hBS hsS
  clear hWA b0 b1 b2
  generalize splitBox p WA = WS at *
  refine range_lawX (xs := piecesB p) (own := fun k => k = w.heap.size + 1 ∨ k = w.heap.size + 1 + 1 ∨ k = w.heap.size + 1 + 2) rfl eg_split (fun _ => rfl) hG (Below.refl _ _) (NmI w) (NmX w) (fun k => k < w.heap.size + 1) (nmI_local w) (nmX_local w) (fun k hk ho => by omega) (fun k hk => by omega)
    ⟨rfl, by omega, fun k hk => (hBS.block k (by omega)).trans (hBA.block k hk), (hBS.block _ (by omega)).trans c0, rfl⟩
    (fun x => { tmps := #[.string p, undef, .pointer (some ⟨w.heap.size, 0, none⟩), .string x, .string p, .func (.func 67) #[] #[.pointer (some ⟨w.heap.size + 1 + 1, 0, none⟩), .pointer (some ⟨w.heap.size + 1, 0, none⟩), .pointer (some ⟨w.heap.size + 1 + 2, 0, none⟩)], .string x, undef, undef, undef, undef, undef], defers := [] }) ?assign ?body ?done ?stop
  case assign =>
    intro m l x W K hK
    gi_wp2
    exact hK
  case body =>
    rintro m l pre x S W ⟨rfl, hsz, hfr, hR, hall⟩ hx
    have hxs : x.size ≤ p.size := piece_size (hx.subset (by simp))
    have hpp := fun W => piece_p x W (by omega)
    have HI : Hid ((∀ k, k < w.heap.size → W.heap[k]? = w.heap[k]?) ∧ Boxed W w.heap.size 4 (.bool false)) := ⟨hfr, hR⟩
    have hfR := hR.frozen
    have hcR := hR.cell
    cases hb : pieceL (un x)
    · have HA : Hid ((pre ++ [x]).all (fun x => pieceL (un x)) = false) := by unfold Hid; rw [List.all_append, hall]; simp [hb]
      rw [hb] at hpp
      clear hb hall hG hfr hR c0 hBA hBS
      gi_wp2_with (refine ⟨trivial, wd _, ?_⟩; gi_at_call 39; refine (callsIn_wide.2 (hpp _)).mono ?_; rintro e w1 ⟨rfl, hw⟩; replace hw := hw.symm; subst hw)
      refine ⟨_, rnd_set (by omega) W 0 _, rfl, rfl, by simpa [World.setCell] using hsz, fun k hk => ?_, Boxed.set _ HI.out.2, HA.out⟩
      exact (Below.heap_setCell _ _ _ _ (show k ≠ w.heap.size by omega)).trans (HI.out.1 k hk)
    · have HA : Hid ((pre ++ [x]).all (fun x => pieceL (un x)) = true) := by unfold Hid; rw [List.all_append, hall]; simp [hb]
      rw [hb] at hpp
      clear hb hall hG hfr hR c0 hBA hBS
      gi_wp2_with (refine ⟨trivial, wd _, ?_⟩; gi_at_call 39; refine (callsIn_wide.2 (hpp _)).mono ?_; rintro e w1 ⟨rfl, hw⟩; replace hw := hw.symm; subst hw)
      exact ⟨_, Rnd.refl _ _, rfl, hsz, HI.out.1, HI.out.2, HA.out⟩
  case done =>
    rintro D S W hD ⟨rfl, hsz, hfr, hR, hall⟩ hr hSD hK
    rw [hsS] at hD
    have hcR := hR.cell
    have hfR := hR.frozen
    have HI : Hid ((∀ k, k < w.heap.size → W.heap[k]? = w.heap[k]?) ∧ Boxed W w.heap.size 4 (.bool false) ∧ W.heap[D]? = some (.deferred (some [])) ∧ W.os = w.os ∧ W.tape = w.tape ∧ W.output = w.output) := ⟨hfr, hR, hK, hr.1.os.trans (hBS.os.trans hBA.os), hr.1.tape.trans (hBS.tape.trans hBA.tape), hr.1.output.trans (hBS.output.trans hBA.output)⟩
    have HN : Hid (nameL (un p) = !(un p == scrC)) := by unfold Hid; rw [nameL_pieces, hall]; rfl
    clear hall hG hfr hR c0 hBA hBS hr hK hSD
    have HV : Hid (nameL (un p) = !p.toList == [115, 99, 114, 97, 116, 99, 104]) := by unfold Hid; rw [HN.out, toList_un]; rfl
    gi_wp2
    have hK2 : (W.setCell ⟨w.heap.size, 0, none⟩ (.bool (!p.toList == [115, 99, 114, 97, 116, 99, 104]))).heap[D]? = some (.deferred (some [])) := (Below.heap_setCell _ _ _ _ (show D ≠ w.heap.size by omega)).trans HI.out.2.2.1
    refine ⟨by simp, .inl ⟨_, _, rfl, run_takeDeferred hK2, ?_⟩⟩
    have hc5 := (boxed_put (.deferred none) (Boxed.set (.bool (!p.toList == [115, 99, 114, 97, 116, 99, 104])) HI.out.2.1) hK2 rfl).cell
    refine ⟨(.bool (!p.toList == [115, 99, 114, 97, 116, 99, 104])), by simp only [results, Tryz.f24]; simp [go_sem, hc5], by rw [HV.out], ⟨HI.out.2.2.2.1, HI.out.2.2.2.2.1, HI.out.2.2.2.2.2, by rw [put_size]; simp [World.setCell]; omega, fun k hk => ?_⟩⟩
    exact (World.putObj_heap_other (by omega)).trans ((Below.heap_setCell _ _ _ _ (show k ≠ w.heap.size by omega)).trans (HI.out.1 k hk))
  case stop =>
    rintro D c pre S W hD hpre ⟨rfl, rfl, hsz, hfr, hR, hno⟩ hr hSD hK
    rw [hsS] at hD
    have HI : Hid ((∀ k, k < w.heap.size → W.heap[k]? = w.heap[k]?) ∧ Boxed W w.heap.size 4 (.bool false) ∧ W.heap[D]? = some (.deferred (some [])) ∧ W.os = w.os ∧ W.tape = w.tape ∧ W.output = w.output) := ⟨hfr, hR, hK, hr.1.os.trans (hBS.os.trans hBA.os), hr.1.tape.trans (hBS.tape.trans hBA.tape), hr.1.output.trans (hBS.output.trans hBA.output)⟩
    have HN : Hid (nameL (un p) = false) := by
      unfold Hid
      obtain ⟨t, ht⟩ := hpre
      rw [nameL_pieces, ← ht, List.all_append, hno]; rfl
    clear hno hG hfr hR c0 hBA hBS hr hK hSD
    gi_wp2
    have hK2 := HI.out.2.2.1
    refine ⟨by simp, .inl ⟨_, _, rfl, run_takeDeferred hK2, ?_⟩⟩
    have hc5 := (boxed_put (.deferred none) HI.out.2.1 hK2 rfl).cell
    refine ⟨.bool false, by simp [results, Tryz.f24, go_sem, hc5], by rw [HN.out], ⟨HI.out.2.2.2.1, HI.out.2.2.2.2.1, HI.out.2.2.2.2.2, by rw [put_size]; omega, fun k hk => ?_⟩⟩
    exact (World.putObj_heap_other (by omega)).trans (HI.out.1 k hk)
end Go.Proofs.YtbmakfdljddhcaaGreatDoor
