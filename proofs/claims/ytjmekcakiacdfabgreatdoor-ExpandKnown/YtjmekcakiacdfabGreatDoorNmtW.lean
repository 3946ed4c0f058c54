/- What gathers the names, at each kind of piece. -/
import Derived.Test.YtjmekcakiacdfabGreatDoorNmsW
namespace Go.Proofs.YtjmekcakiacdfabGreatDoor
open Go Go.RowKit Go.Maps

def addN (p : Pc) (ns : List (List UInt8)) : List (List UInt8) := if askP p = [] ∨ askP p ∈ ns then ns else ns ++ [askP p]
theorem Nz.belowK {W W2 : World} {B M L g m : Nat} {v : Value} {D : DataW Unit} {ns : List (List UInt8)} (h : Nz W B M L g m v D ns) (hb : Below W.heap.size W W2) : Nz W2 B M L g m v D ns := h.keep (fun j hj => hb.block j (h.there j hj))
/-- What gathers names leaves. -/
def NmP (p : Pc) (W : World) (B M L g : Nat) (v : Value) (ns : List (List UInt8)) (x : Ending) (w' : World) : Prop := x = .returned (.tuple #[]) ∧ ∃ m2 v2 D2, Nz w' B M L g m2 v2 D2 (addN p ns) ∧ Rnd (nzS M L g v) (nzS M L g v2) W w'
/-- A name more: the list's cell turned. -/
theorem Nz.more {W W1 W2 : World} {B M L g m cap q : Nat} {v : Value} {D : DataW Unit} {ns : List (List UInt8)} (n : List UInt8) (u : DataW Unit) (h : Nz W B M L g m v D ns) (_hn : n ∉ ns)
    (hm1 : W1.ownsMap Tryz.prog 9 unitElem g (m + 1) (D.put (kS (bs n)) u)) (hg1 : W.grownBy W1 (some g))
    {o : Obj} (hown : W2.ownsRow B 9 1 (.slice (some ⟨q, 0, none⟩) (ns.length + 1) cap) (ns.length + 1) (nsC ns ++ [.string (bs n)])) (hg2 : (W1.alloc o).grownBy W2 v.ownBlock) (hat : v.ownBlock = some q ∨ q = (W1.alloc o).heap.size) (hq : q < W2.heap.size) :
    Nz (W2.setCell ⟨L, 0, none⟩ (.slice (some ⟨q, 0, none⟩) (ns.length + 1) cap)) B M L g (m + 1) (.slice (some ⟨q, 0, none⟩) (ns.length + 1) cap) (D.put (kS (bs n)) u) (ns ++ [n]) ∧ Rnd (nzS M L g v) (nzS M L g (.slice (some ⟨q, 0, none⟩) (ns.length + 1) cap)) W (W2.setCell ⟨L, 0, none⟩ (.slice (some ⟨q, 0, none⟩) (ns.length + 1) cap)) := by
  obtain ⟨a1, a2, a3, a4, a5, a6⟩ := h.apart
  have s1 := hg1.size
  have s2 := hg2.size
  rw [World.size_alloc] at s2
  have hth := h.there
  have ek : ∀ j, j < W.heap.size → j ≠ g → v.ownBlock ≠ some j → W2.heap[j]? = W.heap[j]? := fun j hj h1 h2 => (hg2.block j (by rw [World.size_alloc]; omega) (fun e => h2 e.symm)).trans ((Below.heap_alloc _ _ _ (by omega)).trans (hg1.block j hj (fun e => h1 (Option.some.inj e))))
  have hgM : W2.heap[g]? = W1.heap[g]? := (hg2.block g (by rw [World.size_alloc]; have := hth g (.inr (.inr (.inl rfl))); omega) (fun e => a6 e.symm)).trans (Below.heap_alloc _ _ _ (by have := hth g (.inr (.inr (.inl rfl))); omega))
  have lM : M < W.heap.size := hth M (.inl rfl)
  have lL : L < W.heap.size := hth L (.inr (.inl rfl))
  have lg : g < W.heap.size := hth g (.inr (.inr (.inl rfl)))
  have hM2 : Lies W2 M 84 #[.map (some g)] := (ek M lM a2 a4).trans h.lm
  have hL2 : Lies W2 L 36 #[v] := (ek L lL a3 a5).trans h.ll
  have hqL : q ≠ L := by
    rcases hat with h9 | h9
    · exact fun e => a5 (by rw [h9, e])
    · rw [World.size_alloc] at h9; omega
  refine ⟨⟨hM2.other _ (fun e => a1 e.symm), hL2.set (i := 0) _, own_keepN (by rw [List.length_append, List.length_singleton]; simpa [nsC] using hown) (fun j hj => Below.heap_setCell _ _ _ _ (fun e => ?_)), own_mapU hm1 ((Below.heap_setCell _ _ _ _ (fun e => a3 e.symm)).trans hgM), ?_, by rw [List.length_append, List.length_singleton]; have := h.few; omega, h.low⟩, ?_⟩
  · have hj : q = j := by simpa [Value.ownBlock] using hj
    exact hqL (hj.trans e)
  · have := metOK_put h.met h.map.isMap (bs n) u
    rw [un_bs] at this; exact this
  · have r1 : Rnd (nzS M L g v) (nzS M L g v) W W1 := (Rnd.refl _ W).grown hg1 (fun j hj => by cases hj; exact .inr (.inr (.inl rfl)))
    have r2 := ((r1.alloc o).grown hg2 (fun j hj => .inr (.inr (.inr hj)))).set (b := L) (i := 0) (.inr (.inl rfl)) (.slice (some ⟨q, 0, none⟩) (ns.length + 1) cap)
    refine r2.to (fun j hj => ?_)
    rcases hj with hj | hj | hj | hj
    · exact .inl (.inl hj)
    · exact .inl (.inr (.inl hj))
    · exact .inl (.inr (.inr (.inl hj)))
    · have hj : q = j := by simpa [Value.ownBlock] using hj
      rcases hat with h9 | h9
      · exact .inl (.inr (.inr (.inr (by rw [h9, hj]))))
      · right
        rw [World.size_alloc] at h9
        exact ⟨by omega, by simp [World.setCell]; omega⟩

set_option maxHeartbeats 4000000 in
set_option maxRecDepth 100000 in
theorem names_lit (l : List UInt8) (W : World) (B M L g m : Nat) (v : Value) (D : DataW Unit) (ns : List (List UInt8)) (hz : Nz W B M L g m v D ns) (_hnl : ns.length ≤ 1099511627776) (_hB : B ≤ W.heap.size) : Calls Tryz.prog 40 #[pcV (.lit l), .pointer (some ⟨M, 0, none⟩), .pointer (some ⟨L, 0, none⟩)] W fun x w' => NmP (.lit l) W B M L g v ns x w' := by
  have hm := a_lit
  have hkd := key_size (n := ⟨#[]⟩) (by decide)
  have hh0 := hz.met ⟨#[]⟩
  obtain ⟨kn, hkn⟩ : ∃ kn, decide (un ⟨#[]⟩ ∈ ns) = kn := ⟨_, rfl⟩
  rw [hkn] at hh0
  have HH : Hid (has D (kS ⟨#[]⟩) = kn) := hh0
  have HA : Hid (addN (.lit l) ns = ns) := if_pos (.inl rfl)
  clear hh0 hkn
  unfold pcV
  cases kn
  all_goals
    go_enter Tryz.func40, Tryz.ntmps40
    go_wp2_with (first | (go_at_call 124; refine (litAsk_p (bs l) _).mono ?_; rintro x w1 ⟨rfl, b1⟩; have hz1 := hz.belowK b1; have m0 := hz1.lm.cell (i := 0) rfl; have m1 := fun o => (hz1.lm.alloc o).cell (i := 0) rfl; have hmapA := fun o => own_mapU (w' := w1.alloc o) hz1.map (Below.heap_alloc _ _ _ hz1.map.lt)) | (at_lookup; refine wpList_lookup_own_unit _ rfl _ _ 84 rfl 9 86 str_keyed Tryz.underlying84 (zero_unit _) g m D rfl hz1.map _ _ rfl hkd ?_; rw [HH.out]))
    go_end0
    refine ⟨rfl, m, v, D, ?_, ?_⟩
    · rw [HA.out]; exact hz1.keep (fun j hj => Below.heap_alloc _ _ _ (hz1.there j hj))
    · exact (Rnd.alloc ⟨b1.os, b1.tape, b1.output, b1.size, fun k hk _ => b1.block k hk, fun _ h => .inl h⟩ _)

set_option maxHeartbeats 4000000 in
set_option maxRecDepth 100000 in
theorem names_fin (W : World) (B M L g m : Nat) (v : Value) (D : DataW Unit) (ns : List (List UInt8)) (hz : Nz W B M L g m v D ns) (_hnl : ns.length ≤ 1099511627776) (_hB : B ≤ W.heap.size) : Calls Tryz.prog 40 #[pcV (.fin), .pointer (some ⟨M, 0, none⟩), .pointer (some ⟨L, 0, none⟩)] W fun x w' => NmP (.fin) W B M L g v ns x w' := by
  have hm := a_fin
  have hkd := key_size (n := ⟨#[]⟩) (by decide)
  have hh0 := hz.met ⟨#[]⟩
  obtain ⟨kn, hkn⟩ : ∃ kn, decide (un ⟨#[]⟩ ∈ ns) = kn := ⟨_, rfl⟩
  rw [hkn] at hh0
  have HH : Hid (has D (kS ⟨#[]⟩) = kn) := hh0
  have HA : Hid (addN (.fin) ns = ns) := if_pos (.inl rfl)
  clear hh0 hkn
  unfold pcV
  cases kn
  all_goals
    go_enter Tryz.func40, Tryz.ntmps40
    go_wp2_with (first | (go_at_call 131; refine (finAsk_p _).mono ?_; rintro x w1 ⟨rfl, b1⟩; have hz1 := hz.belowK b1; have m0 := hz1.lm.cell (i := 0) rfl; have m1 := fun o => (hz1.lm.alloc o).cell (i := 0) rfl; have hmapA := fun o => own_mapU (w' := w1.alloc o) hz1.map (Below.heap_alloc _ _ _ hz1.map.lt)) | (at_lookup; refine wpList_lookup_own_unit _ rfl _ _ 84 rfl 9 86 str_keyed Tryz.underlying84 (zero_unit _) g m D rfl hz1.map _ _ rfl hkd ?_; rw [HH.out]))
    go_end0
    refine ⟨rfl, m, v, D, ?_, ?_⟩
    · rw [HA.out]; exact hz1.keep (fun j hj => Below.heap_alloc _ _ _ (hz1.there j hj))
    · exact (Rnd.alloc ⟨b1.os, b1.tape, b1.output, b1.size, fun k hk _ => b1.block k hk, fun _ h => .inl h⟩ _)

set_option maxHeartbeats 4000000 in
set_option maxRecDepth 100000 in
theorem names_var (n : List UInt8) (W : World) (B M L g m : Nat) (v : Value) (D : DataW Unit) (ns : List (List UInt8)) (hz : Nz W B M L g m v D ns) (hn : n.length ≤ 1099511627776) (hnl : ns.length ≤ 1099511627776) (hB : B ≤ W.heap.size) : Calls Tryz.prog 40 #[pcV (.var n), .pointer (some ⟨M, 0, none⟩), .pointer (some ⟨L, 0, none⟩)] W fun x w' => NmP (.var n) W B M L g v ns x w' := by
  have hm := a_var
  have hkd := key_size (n := (bs n)) (by rw [size_bs]; exact hn)
  have hh0 := hz.met (bs n)
  obtain ⟨kn, hkn⟩ : ∃ kn, decide (un (bs n) ∈ ns) = kn := ⟨_, rfl⟩
  rw [hkn] at hh0
  have HH : Hid (has D (kS (bs n)) = kn) := hh0
  have hem : (bs n).toList.isEmpty = n.isEmpty := by rw [toList_un, un_bs]
  rw [un_bs] at hkn
  have HA : Hid (addN (.var n) ns = if n = [] ∨ n ∈ ns then ns else ns ++ [n]) := rfl
  obtain ⟨i0, hi, z0, z1, z2⟩ := info_parts info_str
  clear hh0
  unfold pcV
  cases kn with
  | true =>
    have HA2 : Hid (addN (.var n) ns = ns) := by unfold Hid; rw [HA.out, if_pos (.inr (of_decide_eq_true hkn))]
    clear HA hkn
    go_enter Tryz.func40, Tryz.ntmps40
    go_wp2_with (first | (go_at_call 133; refine (varAsk_p (bs n) _).mono ?_; rintro x w1 ⟨rfl, b1⟩; have hz1 := hz.belowK b1; have m0 := hz1.lm.cell (i := 0) rfl; have m1 := fun o => (hz1.lm.alloc o).cell (i := 0) rfl; have hmapA := fun o => own_mapU (w' := w1.alloc o) hz1.map (Below.heap_alloc _ _ _ hz1.map.lt)) | (at_lookup; refine wpList_lookup_own_unit _ rfl _ _ 84 rfl 9 86 str_keyed Tryz.underlying84 (zero_unit _) g m D rfl hz1.map _ _ rfl hkd ?_; rw [HH.out]))
    go_end0
    refine ⟨rfl, m, v, D, ?_, ?_⟩
    · rw [HA2.out]; exact hz1.keep (fun j hj => Below.heap_alloc _ _ _ (hz1.there j hj))
    · exact (Rnd.alloc ⟨b1.os, b1.tape, b1.output, b1.size, fun k hk _ => b1.block k hk, fun _ h => .inl h⟩ _)
  | false =>
    cases hne : n.isEmpty with
    | true =>
      have HA2 : Hid (addN (.var n) ns = ns) := by unfold Hid; rw [HA.out, if_pos (.inl (List.isEmpty_iff.1 hne))]
      rw [hne] at hem
      clear HA hkn hne
      go_enter Tryz.func40, Tryz.ntmps40
      go_wp2_with (first | (go_at_call 133; refine (varAsk_p (bs n) _).mono ?_; rintro x w1 ⟨rfl, b1⟩; have hz1 := hz.belowK b1; have m0 := hz1.lm.cell (i := 0) rfl; have m1 := fun o => (hz1.lm.alloc o).cell (i := 0) rfl; have hmapA := fun o => own_mapU (w' := w1.alloc o) hz1.map (Below.heap_alloc _ _ _ hz1.map.lt)) | (at_lookup; refine wpList_lookup_own_unit _ rfl _ _ 84 rfl 9 86 str_keyed Tryz.underlying84 (zero_unit _) g m D rfl hz1.map _ _ rfl hkd ?_; rw [HH.out]))
      go_end0
      refine ⟨rfl, m, v, D, ?_, ?_⟩
      · rw [HA2.out]; exact hz1.keep (fun j hj => Below.heap_alloc _ _ _ (hz1.there j hj))
      · exact (Rnd.alloc ⟨b1.os, b1.tape, b1.output, b1.size, fun k hk _ => b1.block k hk, fun _ h => .inl h⟩ _)
    | false =>
      have hnn : n ∉ ns := of_decide_eq_false hkn
      have HA2 : Hid (addN (.var n) ns = ns ++ [n]) := by unfold Hid; rw [HA.out, if_neg (by rintro (h | h); rw [h] at hne; simp at hne; exact hnn h)]
      have HNN : Hid (n ∉ ns) := hnn
      rw [hne] at hem
      have hmf := hz.few
      obtain ⟨va, vc, hv⟩ := own_sliceN hz.own
      subst hv
      have HZ : Hid _ := hz
      clear HA hkn hne hnn
      go_enter Tryz.func40, Tryz.ntmps40
      go_wp2_with (first
        | (go_at_call 133; refine (varAsk_p (bs n) _).mono ?_; rintro x w1 ⟨rfl, b1⟩; have hz1 := hz.belowK b1; have m0 := hz1.lm.cell (i := 0) rfl; have m1 := fun o => (hz1.lm.alloc o).cell (i := 0) rfl; have hmapA := fun o => own_mapU (w' := w1.alloc o) hz1.map (Below.heap_alloc _ _ _ hz1.map.lt))
        | (at_lookup; refine wpList_lookup_own_unit _ rfl _ _ 84 rfl 9 86 str_keyed Tryz.underlying84 (zero_unit _) g m D rfl hz1.map _ _ rfl hkd ?_; rw [HH.out])
        | (at_mapUpdate; refine wpList_mapUpdate_own _ rfl _ _ _ 84 rfl 9 86 str_keyed Tryz.underlying84 unitElem g m D rfl (hmapA _) (by unfold maxLen; omega) _ _ _ rfl rfl hkd _ [] unitElem_mk ?_; intro w3 hmap3 hgrow3; have hz2 : Nz (w1.alloc (.cells #[] 86)) B M L g m (.slice va ns.length vc) D ns := hz1.keep (fun j hj => Below.heap_alloc _ _ _ (hz1.there j hj)); have hL3 : Lies w3 L 36 #[.slice va ns.length vc] := (hgrow3.block L (hz2.there L (.inr (.inl rfl))) (fun e => hz2.apart.2.2.1 (Option.some.inj e))).trans hz2.ll; have l3 := hL3.cell (i := 0) rfl; have hown3 : w3.ownsRow B 9 1 (.slice va ns.length vc) ns.length (nsC ns) := own_keepN hz2.own (fun j hj => hgrow3.block j (hz2.there j (.inr (.inr (.inr hj)))) (fun e => hz2.apart.2.2.2.2.2 (by rw [hj, Option.some.inj e]))); have hB3 : B ≤ w3.heap.size := Nat.le_trans hB (Nat.le_trans b1.size (Nat.le_trans (by simp) hgrow3.size)))
        | (at_builtin; refine wpList_append_own_at _ rfl _ _ 36 rfl B 9 i0 (.string ⟨#[]⟩) 1 16 Tryz.underlying36 hi z0 z1 z2 rfl (by decide) (.slice va ns.length vc) ns.length (nsC ns) rfl (hown3.alloc _) ⟨w3.heap.size, 0, none⟩ 1 1 [.string (bs n)] rfl rfl (cell_one_new _ _ _) (by intro u hu; simp at hu; subst hu; rfl) (by unfold maxLen; omega) (by omega) (by rw [World.size_alloc]; omega) ?_; intro v4 w4 hown4 hgrow4 _ hat; obtain ⟨q4, cap4, rfl, _, hq4⟩ := hown4.form (by omega); have hL4 : Lies w4 L 36 #[.slice va ns.length vc] := (hgrow4.block L (by rw [World.size_alloc]; exact Nat.lt_succ_of_lt hL3.lt) (fun e => hz2.apart.2.2.2.2.1 e.symm)).trans (hL3.alloc _); have l4 := hL4.cell (i := 0) rfl; have lf4 := hL4.frozen 0))
      go_end0
      have hat2 : (Value.slice va ns.length vc).ownBlock = some q4 ∨ q4 = (w3.alloc (.cells #[.string (bs n)] 9)).heap.size := by
        rcases hat with h9 | h9
        · exact .inl (by rw [← h9]; rfl)
        · exact .inr (by simpa [Value.ownBlock] using h9)
      obtain ⟨hz5, r5⟩ := hz2.more n (.agg []) HNN.out hmap3 hgrow3 hown4 hgrow4 hat2 hq4
      refine ⟨rfl, m + 1, _, _, by rw [HA2.out]; exact hz5, ?_⟩
      exact (Rnd.alloc (S := nzS M L g (.slice va ns.length vc)) (S2 := nzS M L g (.slice va ns.length vc)) ⟨b1.os, b1.tape, b1.output, b1.size, fun k hk _ => b1.block k hk, fun _ h => .inl h⟩ _).trans r5

set_option maxHeartbeats 4000000 in
set_option maxRecDepth 100000 in
theorem names_ifE (n : List UInt8) (W : World) (B M L g m : Nat) (v : Value) (D : DataW Unit) (ns : List (List UInt8)) (hz : Nz W B M L g m v D ns) (hn : n.length ≤ 1099511627776) (hnl : ns.length ≤ 1099511627776) (hB : B ≤ W.heap.size) : Calls Tryz.prog 40 #[pcV (.ifE n), .pointer (some ⟨M, 0, none⟩), .pointer (some ⟨L, 0, none⟩)] W fun x w' => NmP (.ifE n) W B M L g v ns x w' := by
  have hm := a_ifE
  have hkd := key_size (n := (bs n)) (by rw [size_bs]; exact hn)
  have hh0 := hz.met (bs n)
  obtain ⟨kn, hkn⟩ : ∃ kn, decide (un (bs n) ∈ ns) = kn := ⟨_, rfl⟩
  rw [hkn] at hh0
  have HH : Hid (has D (kS (bs n)) = kn) := hh0
  have hem : (bs n).toList.isEmpty = n.isEmpty := by rw [toList_un, un_bs]
  rw [un_bs] at hkn
  have HA : Hid (addN (.ifE n) ns = if n = [] ∨ n ∈ ns then ns else ns ++ [n]) := rfl
  obtain ⟨i0, hi, z0, z1, z2⟩ := info_parts info_str
  clear hh0
  unfold pcV
  cases kn with
  | true =>
    have HA2 : Hid (addN (.ifE n) ns = ns) := by unfold Hid; rw [HA.out, if_pos (.inr (of_decide_eq_true hkn))]
    clear HA hkn
    go_enter Tryz.func40, Tryz.ntmps40
    go_wp2_with (first | (go_at_call 137; refine (ifEAsk_p (bs n) _).mono ?_; rintro x w1 ⟨rfl, b1⟩; have hz1 := hz.belowK b1; have m0 := hz1.lm.cell (i := 0) rfl; have m1 := fun o => (hz1.lm.alloc o).cell (i := 0) rfl; have hmapA := fun o => own_mapU (w' := w1.alloc o) hz1.map (Below.heap_alloc _ _ _ hz1.map.lt)) | (at_lookup; refine wpList_lookup_own_unit _ rfl _ _ 84 rfl 9 86 str_keyed Tryz.underlying84 (zero_unit _) g m D rfl hz1.map _ _ rfl hkd ?_; rw [HH.out]))
    go_end0
    refine ⟨rfl, m, v, D, ?_, ?_⟩
    · rw [HA2.out]; exact hz1.keep (fun j hj => Below.heap_alloc _ _ _ (hz1.there j hj))
    · exact (Rnd.alloc ⟨b1.os, b1.tape, b1.output, b1.size, fun k hk _ => b1.block k hk, fun _ h => .inl h⟩ _)
  | false =>
    cases hne : n.isEmpty with
    | true =>
      have HA2 : Hid (addN (.ifE n) ns = ns) := by unfold Hid; rw [HA.out, if_pos (.inl (List.isEmpty_iff.1 hne))]
      rw [hne] at hem
      clear HA hkn hne
      go_enter Tryz.func40, Tryz.ntmps40
      go_wp2_with (first | (go_at_call 137; refine (ifEAsk_p (bs n) _).mono ?_; rintro x w1 ⟨rfl, b1⟩; have hz1 := hz.belowK b1; have m0 := hz1.lm.cell (i := 0) rfl; have m1 := fun o => (hz1.lm.alloc o).cell (i := 0) rfl; have hmapA := fun o => own_mapU (w' := w1.alloc o) hz1.map (Below.heap_alloc _ _ _ hz1.map.lt)) | (at_lookup; refine wpList_lookup_own_unit _ rfl _ _ 84 rfl 9 86 str_keyed Tryz.underlying84 (zero_unit _) g m D rfl hz1.map _ _ rfl hkd ?_; rw [HH.out]))
      go_end0
      refine ⟨rfl, m, v, D, ?_, ?_⟩
      · rw [HA2.out]; exact hz1.keep (fun j hj => Below.heap_alloc _ _ _ (hz1.there j hj))
      · exact (Rnd.alloc ⟨b1.os, b1.tape, b1.output, b1.size, fun k hk _ => b1.block k hk, fun _ h => .inl h⟩ _)
    | false =>
      have hnn : n ∉ ns := of_decide_eq_false hkn
      have HA2 : Hid (addN (.ifE n) ns = ns ++ [n]) := by unfold Hid; rw [HA.out, if_neg (by rintro (h | h); rw [h] at hne; simp at hne; exact hnn h)]
      have HNN : Hid (n ∉ ns) := hnn
      rw [hne] at hem
      have hmf := hz.few
      obtain ⟨va, vc, hv⟩ := own_sliceN hz.own
      subst hv
      have HZ : Hid _ := hz
      clear HA hkn hne hnn
      go_enter Tryz.func40, Tryz.ntmps40
      go_wp2_with (first
        | (go_at_call 137; refine (ifEAsk_p (bs n) _).mono ?_; rintro x w1 ⟨rfl, b1⟩; have hz1 := hz.belowK b1; have m0 := hz1.lm.cell (i := 0) rfl; have m1 := fun o => (hz1.lm.alloc o).cell (i := 0) rfl; have hmapA := fun o => own_mapU (w' := w1.alloc o) hz1.map (Below.heap_alloc _ _ _ hz1.map.lt))
        | (at_lookup; refine wpList_lookup_own_unit _ rfl _ _ 84 rfl 9 86 str_keyed Tryz.underlying84 (zero_unit _) g m D rfl hz1.map _ _ rfl hkd ?_; rw [HH.out])
        | (at_mapUpdate; refine wpList_mapUpdate_own _ rfl _ _ _ 84 rfl 9 86 str_keyed Tryz.underlying84 unitElem g m D rfl (hmapA _) (by unfold maxLen; omega) _ _ _ rfl rfl hkd _ [] unitElem_mk ?_; intro w3 hmap3 hgrow3; have hz2 : Nz (w1.alloc (.cells #[] 86)) B M L g m (.slice va ns.length vc) D ns := hz1.keep (fun j hj => Below.heap_alloc _ _ _ (hz1.there j hj)); have hL3 : Lies w3 L 36 #[.slice va ns.length vc] := (hgrow3.block L (hz2.there L (.inr (.inl rfl))) (fun e => hz2.apart.2.2.1 (Option.some.inj e))).trans hz2.ll; have l3 := hL3.cell (i := 0) rfl; have hown3 : w3.ownsRow B 9 1 (.slice va ns.length vc) ns.length (nsC ns) := own_keepN hz2.own (fun j hj => hgrow3.block j (hz2.there j (.inr (.inr (.inr hj)))) (fun e => hz2.apart.2.2.2.2.2 (by rw [hj, Option.some.inj e]))); have hB3 : B ≤ w3.heap.size := Nat.le_trans hB (Nat.le_trans b1.size (Nat.le_trans (by simp) hgrow3.size)))
        | (at_builtin; refine wpList_append_own_at _ rfl _ _ 36 rfl B 9 i0 (.string ⟨#[]⟩) 1 16 Tryz.underlying36 hi z0 z1 z2 rfl (by decide) (.slice va ns.length vc) ns.length (nsC ns) rfl (hown3.alloc _) ⟨w3.heap.size, 0, none⟩ 1 1 [.string (bs n)] rfl rfl (cell_one_new _ _ _) (by intro u hu; simp at hu; subst hu; rfl) (by unfold maxLen; omega) (by omega) (by rw [World.size_alloc]; omega) ?_; intro v4 w4 hown4 hgrow4 _ hat; obtain ⟨q4, cap4, rfl, _, hq4⟩ := hown4.form (by omega); have hL4 : Lies w4 L 36 #[.slice va ns.length vc] := (hgrow4.block L (by rw [World.size_alloc]; exact Nat.lt_succ_of_lt hL3.lt) (fun e => hz2.apart.2.2.2.2.1 e.symm)).trans (hL3.alloc _); have l4 := hL4.cell (i := 0) rfl; have lf4 := hL4.frozen 0))
      go_end0
      have hat2 : (Value.slice va ns.length vc).ownBlock = some q4 ∨ q4 = (w3.alloc (.cells #[.string (bs n)] 9)).heap.size := by
        rcases hat with h9 | h9
        · exact .inl (by rw [← h9]; rfl)
        · exact .inr (by simpa [Value.ownBlock] using h9)
      obtain ⟨hz5, r5⟩ := hz2.more n (.agg []) HNN.out hmap3 hgrow3 hown4 hgrow4 hat2 hq4
      refine ⟨rfl, m + 1, _, _, by rw [HA2.out]; exact hz5, ?_⟩
      exact (Rnd.alloc (S := nzS M L g (.slice va ns.length vc)) (S2 := nzS M L g (.slice va ns.length vc)) ⟨b1.os, b1.tape, b1.output, b1.size, fun k hk _ => b1.block k hk, fun _ h => .inl h⟩ _).trans r5

set_option maxHeartbeats 4000000 in
set_option maxRecDepth 100000 in
theorem names_ifF (n : List UInt8) (W : World) (B M L g m : Nat) (v : Value) (D : DataW Unit) (ns : List (List UInt8)) (hz : Nz W B M L g m v D ns) (hn : n.length ≤ 1099511627776) (hnl : ns.length ≤ 1099511627776) (hB : B ≤ W.heap.size) : Calls Tryz.prog 40 #[pcV (.ifF n), .pointer (some ⟨M, 0, none⟩), .pointer (some ⟨L, 0, none⟩)] W fun x w' => NmP (.ifF n) W B M L g v ns x w' := by
  have hm := a_ifF
  have hkd := key_size (n := (bs n)) (by rw [size_bs]; exact hn)
  have hh0 := hz.met (bs n)
  obtain ⟨kn, hkn⟩ : ∃ kn, decide (un (bs n) ∈ ns) = kn := ⟨_, rfl⟩
  rw [hkn] at hh0
  have HH : Hid (has D (kS (bs n)) = kn) := hh0
  have hem : (bs n).toList.isEmpty = n.isEmpty := by rw [toList_un, un_bs]
  rw [un_bs] at hkn
  have HA : Hid (addN (.ifF n) ns = if n = [] ∨ n ∈ ns then ns else ns ++ [n]) := rfl
  obtain ⟨i0, hi, z0, z1, z2⟩ := info_parts info_str
  clear hh0
  unfold pcV
  cases kn with
  | true =>
    have HA2 : Hid (addN (.ifF n) ns = ns) := by unfold Hid; rw [HA.out, if_pos (.inr (of_decide_eq_true hkn))]
    clear HA hkn
    go_enter Tryz.func40, Tryz.ntmps40
    go_wp2_with (first | (go_at_call 140; refine (ifFAsk_p (bs n) _).mono ?_; rintro x w1 ⟨rfl, b1⟩; have hz1 := hz.belowK b1; have m0 := hz1.lm.cell (i := 0) rfl; have m1 := fun o => (hz1.lm.alloc o).cell (i := 0) rfl; have hmapA := fun o => own_mapU (w' := w1.alloc o) hz1.map (Below.heap_alloc _ _ _ hz1.map.lt)) | (at_lookup; refine wpList_lookup_own_unit _ rfl _ _ 84 rfl 9 86 str_keyed Tryz.underlying84 (zero_unit _) g m D rfl hz1.map _ _ rfl hkd ?_; rw [HH.out]))
    go_end0
    refine ⟨rfl, m, v, D, ?_, ?_⟩
    · rw [HA2.out]; exact hz1.keep (fun j hj => Below.heap_alloc _ _ _ (hz1.there j hj))
    · exact (Rnd.alloc ⟨b1.os, b1.tape, b1.output, b1.size, fun k hk _ => b1.block k hk, fun _ h => .inl h⟩ _)
  | false =>
    cases hne : n.isEmpty with
    | true =>
      have HA2 : Hid (addN (.ifF n) ns = ns) := by unfold Hid; rw [HA.out, if_pos (.inl (List.isEmpty_iff.1 hne))]
      rw [hne] at hem
      clear HA hkn hne
      go_enter Tryz.func40, Tryz.ntmps40
      go_wp2_with (first | (go_at_call 140; refine (ifFAsk_p (bs n) _).mono ?_; rintro x w1 ⟨rfl, b1⟩; have hz1 := hz.belowK b1; have m0 := hz1.lm.cell (i := 0) rfl; have m1 := fun o => (hz1.lm.alloc o).cell (i := 0) rfl; have hmapA := fun o => own_mapU (w' := w1.alloc o) hz1.map (Below.heap_alloc _ _ _ hz1.map.lt)) | (at_lookup; refine wpList_lookup_own_unit _ rfl _ _ 84 rfl 9 86 str_keyed Tryz.underlying84 (zero_unit _) g m D rfl hz1.map _ _ rfl hkd ?_; rw [HH.out]))
      go_end0
      refine ⟨rfl, m, v, D, ?_, ?_⟩
      · rw [HA2.out]; exact hz1.keep (fun j hj => Below.heap_alloc _ _ _ (hz1.there j hj))
      · exact (Rnd.alloc ⟨b1.os, b1.tape, b1.output, b1.size, fun k hk _ => b1.block k hk, fun _ h => .inl h⟩ _)
    | false =>
      have hnn : n ∉ ns := of_decide_eq_false hkn
      have HA2 : Hid (addN (.ifF n) ns = ns ++ [n]) := by unfold Hid; rw [HA.out, if_neg (by rintro (h | h); rw [h] at hne; simp at hne; exact hnn h)]
      have HNN : Hid (n ∉ ns) := hnn
      rw [hne] at hem
      have hmf := hz.few
      obtain ⟨va, vc, hv⟩ := own_sliceN hz.own
      subst hv
      have HZ : Hid _ := hz
      clear HA hkn hne hnn
      go_enter Tryz.func40, Tryz.ntmps40
      go_wp2_with (first
        | (go_at_call 140; refine (ifFAsk_p (bs n) _).mono ?_; rintro x w1 ⟨rfl, b1⟩; have hz1 := hz.belowK b1; have m0 := hz1.lm.cell (i := 0) rfl; have m1 := fun o => (hz1.lm.alloc o).cell (i := 0) rfl; have hmapA := fun o => own_mapU (w' := w1.alloc o) hz1.map (Below.heap_alloc _ _ _ hz1.map.lt))
        | (at_lookup; refine wpList_lookup_own_unit _ rfl _ _ 84 rfl 9 86 str_keyed Tryz.underlying84 (zero_unit _) g m D rfl hz1.map _ _ rfl hkd ?_; rw [HH.out])
        | (at_mapUpdate; refine wpList_mapUpdate_own _ rfl _ _ _ 84 rfl 9 86 str_keyed Tryz.underlying84 unitElem g m D rfl (hmapA _) (by unfold maxLen; omega) _ _ _ rfl rfl hkd _ [] unitElem_mk ?_; intro w3 hmap3 hgrow3; have hz2 : Nz (w1.alloc (.cells #[] 86)) B M L g m (.slice va ns.length vc) D ns := hz1.keep (fun j hj => Below.heap_alloc _ _ _ (hz1.there j hj)); have hL3 : Lies w3 L 36 #[.slice va ns.length vc] := (hgrow3.block L (hz2.there L (.inr (.inl rfl))) (fun e => hz2.apart.2.2.1 (Option.some.inj e))).trans hz2.ll; have l3 := hL3.cell (i := 0) rfl; have hown3 : w3.ownsRow B 9 1 (.slice va ns.length vc) ns.length (nsC ns) := own_keepN hz2.own (fun j hj => hgrow3.block j (hz2.there j (.inr (.inr (.inr hj)))) (fun e => hz2.apart.2.2.2.2.2 (by rw [hj, Option.some.inj e]))); have hB3 : B ≤ w3.heap.size := Nat.le_trans hB (Nat.le_trans b1.size (Nat.le_trans (by simp) hgrow3.size)))
        | (at_builtin; refine wpList_append_own_at _ rfl _ _ 36 rfl B 9 i0 (.string ⟨#[]⟩) 1 16 Tryz.underlying36 hi z0 z1 z2 rfl (by decide) (.slice va ns.length vc) ns.length (nsC ns) rfl (hown3.alloc _) ⟨w3.heap.size, 0, none⟩ 1 1 [.string (bs n)] rfl rfl (cell_one_new _ _ _) (by intro u hu; simp at hu; subst hu; rfl) (by unfold maxLen; omega) (by omega) (by rw [World.size_alloc]; omega) ?_; intro v4 w4 hown4 hgrow4 _ hat; obtain ⟨q4, cap4, rfl, _, hq4⟩ := hown4.form (by omega); have hL4 : Lies w4 L 36 #[.slice va ns.length vc] := (hgrow4.block L (by rw [World.size_alloc]; exact Nat.lt_succ_of_lt hL3.lt) (fun e => hz2.apart.2.2.2.2.1 e.symm)).trans (hL3.alloc _); have l4 := hL4.cell (i := 0) rfl; have lf4 := hL4.frozen 0))
      go_end0
      have hat2 : (Value.slice va ns.length vc).ownBlock = some q4 ∨ q4 = (w3.alloc (.cells #[.string (bs n)] 9)).heap.size := by
        rcases hat with h9 | h9
        · exact .inl (by rw [← h9]; rfl)
        · exact .inr (by simpa [Value.ownBlock] using h9)
      obtain ⟨hz5, r5⟩ := hz2.more n (.agg []) HNN.out hmap3 hgrow3 hown4 hgrow4 hat2 hq4
      refine ⟨rfl, m + 1, _, _, by rw [HA2.out]; exact hz5, ?_⟩
      exact (Rnd.alloc (S := nzS M L g (.slice va ns.length vc)) (S2 := nzS M L g (.slice va ns.length vc)) ⟨b1.os, b1.tape, b1.output, b1.size, fun k hk _ => b1.block k hk, fun _ h => .inl h⟩ _).trans r5
end Go.Proofs.YtjmekcakiacdfabGreatDoor
