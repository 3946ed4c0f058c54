/- The document's variable: a name in braces, and a text that stands for it. -/
import Derived.Test.YtjmekcakiacdfabGreatDoorDcF
import Derived.Deep.Cut
namespace Go.Proofs.YtjmekcakiacdfabGreatDoor
open Go Go.RowKit

/-- What the reading of a text within braces leaves, wherever it begins behind k. -/
def PlainT (st : List Nat) (B R : Nat) (s : ByteArray) (e : UInt8) (k : Nat) : Prop :=
  ∀ (W2 : World) (k2 : Nat) (v2 : Value) (ns2 : List (List UInt8)), k < k2 → k2 ≤ s.size → DR W2 B R s e k2 0 v2 ns2 → B ≤ W2.heap.size → ns2.length ≤ k2 → Calls Tryz.prog 35 #[.pointer (some ⟨R, 0, none⟩), .bool true] W2 fun x w' => LPost (2 :: st) (2 :: st) (fun k3 => ∃ r, (un s).drop k3 = 125 :: r ∧ (125 : UInt8) ≠ e) s.size W2 B R s e k2 v2 ns2 x w'
set_option maxHeartbeats 4000000 in
set_option maxRecDepth 100000 in
theorem var_ifE (st : List Nat) (W : World) (B R : Nat) (s : ByteArray) (e : UInt8) (k : Nat) (v : Value) (ns : List (List UInt8)) (h : DR W B R s e k 0 v ns) (he : (36 : UInt8) ≠ e) (u r : List UInt8) (hd : (un s).drop k = 36 :: 123 :: u) (hn0 : nmL u ≠ 0) (hu : u.drop (nmL u) = 58 :: 45 :: r) (hB : B ≤ W.heap.size) (hnl : ns.length ≤ k) (hP : PlainT st B R s e k) (hs : s.size ≤ 1099511627776) : Calls Tryz.prog 54 #[.pointer (some ⟨R, 0, none⟩)] W fun x w' => VPost st W B R s e k v ns x w' := by
  have hsl := un_length s
  have hlen := congrArg List.length hd
  rw [List.length_drop, hsl] at hlen
  simp only [List.length_cons] at hlen
  have hul := congrArg List.length hu
  rw [List.length_drop, List.length_cons] at hul
  simp only [List.length_cons] at hul
  have hnle := nmL_le u
  have hd1 : (un s).drop (k + 1) = 123 :: u := by rw [← List.drop_drop, hd]; rfl
  have hdk : (un s).drop (k + 2 + nmL u + 2) = r := by rw [show k + 2 + nmL u + 2 = k + 2 + (nmL u + 2) by omega, ← List.drop_drop, ← List.drop_drop (i := 2), show (un s).drop (k + 2) = u by rw [← List.drop_drop, hd]; rfl, hu]; rfl
  have HX : Hid (s.extract (k + 1) s.size = bs (123 :: u)) := by unfold Hid; rw [ext_tail, hd1]
  have hsz : (bs (123 :: u)).size = u.length + 1 := size_bs _
  have HU : Hid ((bs (123 :: u)).extract 1 (bs (123 :: u)).size = bs u) := by unfold Hid; rw [ext_tail, un_bs]; rfl
  have HX2 : Hid ((bs (123 :: u)).extract 1 (1 + nmL u) = bs (u.take (nmL u))) := by unfold Hid; rw [ext_part, un_bs]; rfl
  have HX3 : Hid ((bs (123 :: u)).extract (1 + nmL u) (bs (123 :: u)).size = bs (58 :: 45 :: r)) := by unfold Hid; rw [ext_tail, un_bs, Nat.add_comm, List.drop_succ_cons, hu]
  have hN : ∀ W, Calls Tryz.prog 71 #[.string (bs (123 :: u))] W fun e w' => e = .returned (.int .i64 0) ∧ w' = W := fun W => by
    have := name_r (bs (123 :: u)) (by omega) W
    rw [un_bs, nmL_brace] at this
    exact this
  have hN2 := fun W => name_r (bs u) (by rw [size_bs]; omega) W
  rw [un_bs] at hN2
  have hg0 : 0 < (bs (123 :: u)).size := by omega
  have hg : (bs (123 :: u))[0]'hg0 = 123 := by
    have := un_getElem? (bs (123 :: u)) 0 hg0
    rw [un_bs] at this
    exact (Option.some.inj this).symm
  have hgi : (0 : Int) < ((bs (123 :: u)).size : Int) := by omega
  have hgj : (1 : Int) ≤ ((bs (123 :: u)).size : Int) := by omega
  have hge : (((bs (123 :: u)).size : Int) == 0) = false := by rw [beq_eq_false_iff_ne]; omega
  have hq : (((123 : UInt8).toNat : Int) != 123) = false := by decide
  have hbn0 : 1 + nmL u < (bs (123 :: u)).size := by omega
  have hbn : (bs (123 :: u))[1 + nmL u]'hbn0 = 58 := by
    have h5 := un_getElem? (bs (123 :: u)) (1 + nmL u) hbn0
    have h6 : (u.drop (nmL u))[0]? = some 58 := by rw [hu]; rfl
    rw [List.getElem?_drop, Nat.add_zero] at h6
    have h7 : (123 :: u)[1 + nmL u]? = some 58 := by rw [Nat.add_comm, List.getElem?_cons_succ, h6]
    rw [un_bs] at h5
    exact (Option.some.inj (h7.symm.trans h5)).symm
  have hy : ∀ (b : ByteArray) (hb : 0 < b.size), b = bs (58 :: 45 :: r) → b[0]'hb = 58 := by
    rintro b hb rfl
    have h8 := un_getElem? (bs (58 :: 45 :: r)) 0 hb
    rw [un_bs] at h8
    exact (Option.some.inj h8).symm
  have hz : ∀ (b : ByteArray) (hb : 1 < b.size), b = bs (58 :: 45 :: r) → b[1]'hb = 45 := by
    rintro b hb rfl
    have h8 := un_getElem? (bs (58 :: 45 :: r)) 1 hb
    rw [un_bs] at h8
    exact (Option.some.inj h8).symm
  have hbq : (((58 : UInt8).toNat : Int) == 125) = false := by decide
  have hbp : (((58 : UInt8).toNat : Int) != 58) = false := by decide
  have hbr : (((45 : UInt8).toNat : Int) != 45) = false := by decide
  have HRun : Hid (Run e st ((un s).drop k) (2 :: st) ((un s).drop (k + 2 + nmL u + 2)) [.ifE (u.take (nmL u))]) := by
    unfold Hid; rw [hd, hdk]; exact run_ifE he hn0 hu
  have hNE : Hid (u.take (nmL u) ≠ []) := nmL_ne hn0
  have hMt := fun W2 (hdr : DR W2 B R s e k 0 v ns) (hb : B ≤ W2.heap.size) => met_r (bs (u.take (nmL u))) W2 B R s e k 0 v ns hdr hb (by omega)
  rw [un_bs] at hMt
  have f0 := h.lies.cell (i := 0) rfl
  have f1 := h.lies.cell (i := 1) rfl
  have hRW := h.lies.lt
  have HR : Hid (DR W B R s e k 0 v ns) := h
  have w1 : IntKind.i64.wrap ((k : Int) + 1) = ((k + 1 : Nat) : Int) := by rw [wrap_small _ (by omega) (by omega)]; omega
  have w2 : IntKind.i64.wrap (1 + (nmL u : Int)) = ((1 + nmL u : Nat) : Int) := by rw [wrap_small _ (by omega) (by omega)]; omega
  have w3 : IntKind.i64.wrap ((k : Int) + 2) = ((k + 2 : Nat) : Int) := by rw [wrap_small _ (by omega) (by omega)]; omega
  have w4 : IntKind.i64.wrap (((k + 2 : Nat) : Int) + (nmL u : Int)) = ((k + 2 + nmL u : Nat) : Int) := by rw [wrap_small _ (by omega) (by omega)]; omega
  have w5 : IntKind.i64.wrap (((k + 2 + nmL u : Nat) : Int) + 2) = ((k + 2 + nmL u + 2 : Nat) : Int) := by rw [wrap_small _ (by omega) (by omega)]; omega
  have hkf : k + 2 + nmL u + 2 ≤ s.size := by omega
  have hkg : k + 2 < k + 2 + nmL u + 2 := by omega
  have d0 : (0 : Int) ≤ ((k + 1 : Nat) : Int) := by omega
  have d1 : ((k + 1 : Nat) : Int) ≤ (s.size : Int) := by omega
  have d2 : (0 : Int) < (nmL u : Int) := by omega
  have d2e : ((nmL u : Int) == 0) = false := by rw [beq_eq_false_iff_ne]; omega
  have d3 : (1 : Int) ≤ ((1 + nmL u : Nat) : Int) := by omega
  have d4 : ((1 + nmL u : Nat) : Int) ≤ ((bs (123 :: u)).size : Int) := by omega
  have d5 : (0 : Int) ≤ ((1 + nmL u : Nat) : Int) := by omega
  have hk3 : k < s.size := by omega
  clear h hd hlen hul hnle hd1 hsz hn0 hu hdk
  generalize nmL u = n at *
  generalize bs (123 :: u) = bt at *
  generalize bs u = bu at *
  generalize List.take n u = nm at *
  generalize hnm2 : bs nm = nm2 at *
  generalize hkb : k + 1 = kb at *
  generalize hn1 : 1 + n = n1 at *
  generalize hkc : k + 2 = kc at *
  generalize hkd : kc + n = kd at *
  generalize hke : kd + 2 = kf at *
  go_enter Tryz.func54, Tryz.ntmps54
  go_wp2
  go_quiet (fail)
  have hz0 : Lies ((W.alloc (.cells #[.string ⟨#[]⟩, .string ⟨#[]⟩, .int .u8 0, .slice none 0 0] 108)).drewN nq) W.heap.size 108 #[.string ⟨#[]⟩, .string ⟨#[]⟩, .int .u8 0, .slice none 0 0] := Lies.new W 108 _
  have h0 := (HR.out.belowK ((Below.refl _ W).alloc (Nat.le_refl _) (.cells #[.string ⟨#[]⟩, .string ⟨#[]⟩, .int .u8 0, .slice none 0 0] 108))).drew nq
  have r0 := ((Rnd.refl (rdS R v) W).alloc (.cells #[.string ⟨#[]⟩, .string ⟨#[]⟩, .int .u8 0, .slice none 0 0] 108)).drewR nq
  have hL : ¬ rdS R v W.heap.size := fun hh => Nat.lt_irrefl _ (HR.out.there _ hh)
  clear f0 f1
  generalize ((W.alloc (.cells #[.string ⟨#[]⟩, .string ⟨#[]⟩, .int .u8 0, .slice none 0 0] 108)).drewN nq) = W0 at *
  have hLW := hz0.lt
  have hR0 := h0.lies.lt
  have hB0 : B ≤ W0.heap.size := Nat.le_trans hB r0.size
  rw [HX.out]
  have h1 := h0.belowK ((Below.refl _ W0).alloc (Nat.le_refl _) (.cells #[.string ⟨#[]⟩, .string nm2, .int .u8 0, .slice none 0 0] 108))
  have hz1 := lies_alloc hz0 (.cells #[.string ⟨#[]⟩, .string nm2, .int .u8 0, .slice none 0 0] 108)
  have hy1 : Lies (W0.alloc (.cells #[.string ⟨#[]⟩, .string nm2, .int .u8 0, .slice none 0 0] 108)) W0.heap.size 108 #[.string ⟨#[]⟩, .string nm2, .int .u8 0, .slice none 0 0] := Lies.new W0 108 _
  have hL0 : ¬ rdS R v W0.heap.size := fun hh => Nat.lt_irrefl _ (h0.there _ hh)
  have r01 := r0.alloc (.cells #[.string ⟨#[]⟩, .string nm2, .int .u8 0, .slice none 0 0] 108)
  have hB1 : B ≤ (W0.alloc (.cells #[.string ⟨#[]⟩, .string nm2, .int .u8 0, .slice none 0 0] 108)).heap.size := by rw [World.size_alloc]; omega
  have hlx := hz1.lt
  have hly := hy1.lt
  go_wp2_with (first
    | (go_at_call 71; (first | (with_reducible refine (hN _).mono ?_) | (rw [HU.out]; with_reducible refine (hN2 _).mono ?_)); rintro x w1 ⟨rfl, hw⟩; replace hw := hw.symm; subst hw))
  rw [HX2.out]
  refine (hMt _ h1 hB1).mono ?_
  rintro x w1 ⟨rfl, v1, hdr1, r1⟩
  have g1 := hdr1.lies.cell (i := 1) rfl
  have gr := hdr1.lies.frozen 1
  have hz2 := (r1.same _ hlx hL).trans hz1
  have hy2 := (r1.same _ hly hL0).trans hy1
  have hyz : (bt.extract n1 bt.size).size = r.length + 2 := by rw [HX3.out, size_bs]; rfl
  have hyi0 : 0 < (bt.extract n1 bt.size).size := by omega
  have hyi' : (0 : Int) < ((bt.extract n1 bt.size).size : Int) := by omega
  have hyj' : ¬ ((bt.extract n1 bt.size).size : Int) < 2 := by omega
  have hyk : bt.size - n1 = r.length + 2 := by have := size_extract' bt n1 bt.size (Nat.le_refl _); omega
  have hyl : ¬ ((r.length : Int) + 2 < 2) := by omega
  have hy' : (bt.extract n1 bt.size)[0]'hyi0 = 58 := hy _ _ HX3.out
  have hyi1 : 1 < (bt.extract n1 bt.size).size := by omega
  have hyi1' : (1 : Int) < ((bt.extract n1 bt.size).size : Int) := by omega
  have hz' : (bt.extract n1 bt.size)[1]'hyi1 = 45 := hz _ _ HX3.out
  have h3 := hdr1.move kd
  have hz3 := lies_other hz2 (i := 1) (g := R) (by omega) (.int .i64 (kd : Int))
  have hy3 := lies_other hy2 (i := 1) (g := R) (by omega) (.int .i64 (kd : Int))
  have hL1 : ¬ rdS R v1 W.heap.size := fun hh => by
    rcases r1.more _ hh with h9 | h9
    · exact hL h9
    · omega
  have hL2 : ¬ rdS R v1 W0.heap.size := fun hh => by
    rcases r1.more _ hh with h9 | h9
    · exact hL0 h9
    · omega
  have r2 := (r01.trans r1).set (b := R) (i := 1) (.inl rfl) (.int .i64 (kd : Int))
  have hB3 : B ≤ (w1.setCell ⟨R, 1, none⟩ (.int .i64 (kd : Int))).heap.size := by have := r1.size; rw [size_setCell]; omega
  clear hy hz hg hgi hgj hge hq HX HU HX2 HX3 hN hN2 hMt h0 h1 hz0 hz1 hy1 hB0 hB1 d0 d1 d2 d2e
  dsimp only
  go_upto_region 23 with fail
  generalize (w1.setCell ⟨R, 1, none⟩ (.int .i64 (kd : Int))) = w2 at *
  have yc := hy3.cell (i := 2) rfl
  have yf := hy3.frozen 2
  go_upto_region 24 with fail
  have hy4 : Lies (w2.setCell ⟨W0.heap.size, 2, none⟩ (.int .u8 45)) W0.heap.size 108 #[.string ⟨#[]⟩, .string nm2, .int .u8 45, .slice none 0 0] := hy3.set (i := 2) (.int .u8 45)
  have hz4 := lies_other hz3 (i := 2) (g := W0.heap.size) (by omega) (.int .u8 45)
  have h4 := h3.aside (i := 2) hL2 (.int .u8 45)
  have r4 := r2.setNew (i := 2) (b := W0.heap.size) r0.size (.int .u8 45)
  have s4 := size_setCell w2 W0.heap.size 2 (.int .u8 45)
  generalize (w2.setCell ⟨W0.heap.size, 2, none⟩ (.int .u8 45)) = w3 at *
  clear yc yf g1 gr
  have xc := h4.lies.cell (i := 1) rfl
  have xf := h4.lies.frozen 1
  go_upto_region 25 with fail
  have hy5 := lies_other hy4 (i := 1) (g := R) (by omega) (.int .i64 (kf : Int))
  have hz5 := lies_other hz4 (i := 1) (g := R) (by omega) (.int .i64 (kf : Int))
  have h5 := h4.move kf
  have r5 := r4.set (b := R) (i := 1) (.inl rfl) (.int .i64 (kf : Int))
  have s5 := size_setCell w3 R 1 (.int .i64 (kf : Int))
  clear xc xf
  generalize (w3.setCell ⟨R, 1, none⟩ (.int .i64 (kf : Int))) = w4 at *
  have hC := hP w4 kf v1 (metN nm ns) (by omega) hkf h5 (by omega) (by have := metN_len nm ns; omega)
  have hly5 := hy5.lt
  have hlz5 := hz5.lt
  clear hP
  go_upto_region 26 with fail
  refine hC.mono ?_
  rintro x w5 ⟨lv, ts, us, k3, no3, v3, ns3, rfl, h6, p6, r6, len6, hi6, ok6, bad6⟩
  obtain ⟨va, vc, g6, rfl, _⟩ := p6.form
  have hy6 := lies_rnd hy5 r6 hL2
  have yc := hy6.cell (i := 3) rfl
  have yf := hy6.frozen 3
  dsimp only
  go_upto_region 26 with fail
  have hz6 := lies_rnd hz5 r6 hL1
  have hL3 : ¬ rdS R v3 W.heap.size := fun hh => by
    rcases r6.more _ hh with h9 | h9
    · exact hL1 h9
    · omega
  have hL4 : ¬ rdS R v3 W0.heap.size := fun hh => by
    rcases r6.more _ hh with h9 | h9
    · exact hL2 h9
    · omega
  generalize hlv : Value.slice va ts.length vc = lv at *
  have hy7 : Lies (w5.setCell ⟨W0.heap.size, 3, none⟩ lv) W0.heap.size 108 #[.string ⟨#[]⟩, .string nm2, .int .u8 45, lv] := hy6.set (i := 3) lv
  have hz7 := lies_other hz6 (i := 3) (g := W0.heap.size) (by omega) lv
  have h7 := h6.aside (i := 3) hL4 lv
  have r7 := (r5.trans r6).setNew (i := 3) (b := W0.heap.size) r0.size lv
  have p7 := p6.to (w2 := w5.setCell ⟨W0.heap.size, 3, none⟩ lv) (by rw [size_setCell]; exact Nat.le_refl _) (fun j hj => Below.heap_setCell _ _ _ _ (fun e => by have := hj.1; simp at e; omega))
  clear yc yf
  generalize (w5.setCell ⟨W0.heap.size, 3, none⟩ lv) = w6 at *
  have xc := h7.lies.cell (i := 1) rfl
  have xf := h7.lies.frozen 1
  have hkk : kf ≤ k3 := by
    by_cases h0 : no3 = 0
    · have := len6.2 h0; omega
    · have := (bad6 h0).1; omega
  obtain ⟨k4, hk4⟩ : ∃ k4, k3 + 1 = k4 := ⟨_, rfl⟩
  have w9 : IntKind.i64.wrap ((k3 : Int) + 1) = (k4 : Int) := by rw [wrap_small _ (by omega) (by omega)]; omega
  go_upto_region 27 with fail
  have hy8 := lies_other hy7 (i := 1) (g := R) (by omega) (.int .i64 (k4 : Int))
  have hz8 := lies_other hz7 (i := 1) (g := R) (by omega) (.int .i64 (k4 : Int))
  have h8 := h7.move k4
  have r8 := r7.set (b := R) (i := 1) (.inl rfl) (.int .i64 (k4 : Int))
  have p8 := p7.to (w2 := w6.setCell ⟨R, 1, none⟩ (.int .i64 (k4 : Int))) (by rw [size_setCell]; exact Nat.le_refl _) (fun j hj => Below.heap_setCell _ _ _ _ (fun e => hj.2.2 (.inl (by simp at e; exact e))))
  clear xc xf
  generalize (w6.setCell ⟨R, 1, none⟩ (.int .i64 (k4 : Int))) = w7 at *
  go_wp2_with (first
    | (refine wpList_load_row rfl 108 (.tmp 5) rfl W0.heap.size rfl 108 _ (0, 0) _ hy8 Tryz.underlying108 rfl pcD_info ?_)
    | (refine wpList_store_row rfl 108 (.tmp 2) (.tmp 138) rfl W.heap.size #[.string ⟨#[]⟩, .string nm2, .int .u8 45, lv] rfl rfl 108 _ hz8 pcD_info rfl (by simp [Value.oneCell', ← hlv]) ?_))
  refine bodyPost_ret (results_cell_row rfl _ _ W.heap.size 108 #[.string ⟨#[]⟩, .string nm2, .int .u8 45, lv] (0, 0) _ rfl (lies_row hz8 _) Tryz.underlying108 rfl pcD_info) rfl ?_
  have hT : ∀ j, TAp w4 w7 R v3 j → TAp W (w7.setRow W.heap.size #[.string ⟨#[]⟩, .string nm2, .int .u8 45, lv]) R v3 j := fun j hj => ⟨by have := r5.size; have := hj.1; omega, by have := hj.2.1; simpa [World.setRow] using this, hj.2.2⟩
  have hk : ∀ j, TAp w4 w7 R v3 j → (w7.setRow W.heap.size #[.string ⟨#[]⟩, .string nm2, .int .u8 45, lv]).heap[j]? = w7.heap[j]? := fun j hj => setRow_other _ _ _ _ (fun e => by have := hj.1; omega)
  refine ⟨.mk [] nm 45 ts, lv, k4, no3, v3, ns3, by rw [← hnm2]; rfl, h8.row hL3 _, by have := hkk; omega, by omega, ?_, r8.fresh (Nat.le_refl _) _, fun h0 => ?_, fun h0 => ⟨by have := bad6 h0; omega, HRun.out.bad (bad6 h0).2⟩⟩
  · rw [PatP]
    refine ⟨by simp, fun j hj => hT j (p8.blk j hj), us, p8.pts.kids.len, own_keep4 p8.pts.own (fun j hj => hk j (p8.blk j hj)), PatL.keep (fun j hj => hT j hj.1) (fun j hj => hk j hj.1) ts us p8.pts.kids⟩
  · obtain ⟨q1, q2, q3, q4, r3, q5, q6⟩ := ok6 h0
    have q7 : (un s).drop k4 = r3 := by rw [← hk4, ← List.drop_drop, q5]; rfl
    have q8 := congrArg List.length q5
    rw [List.length_drop, List.length_cons, hsl] at q8
    have hF : flatP (.mk [] nm 45 ts) = .ifE nm :: flatL ts ++ [.fin] := by
      rw [flatP, if_neg hNE.out]
      rfl
    refine ⟨by omega, ?_, ?_, by have := metN_len nm ns; omega⟩
    · rw [hF, q7]
      rw [q5] at q2
      exact (HRun.out.trans q2).trans (run_fin q6 r3)
    · rw [hF, metL_fin nm hNE.out _ _ (by simp) ns]
      exact q3
set_option maxHeartbeats 4000000 in
set_option maxRecDepth 100000 in
theorem var_ifF (st : List Nat) (W : World) (B R : Nat) (s : ByteArray) (e : UInt8) (k : Nat) (v : Value) (ns : List (List UInt8)) (h : DR W B R s e k 0 v ns) (he : (36 : UInt8) ≠ e) (u r : List UInt8) (hd : (un s).drop k = 36 :: 123 :: u) (hn0 : nmL u ≠ 0) (hu : u.drop (nmL u) = 58 :: 43 :: r) (hB : B ≤ W.heap.size) (hnl : ns.length ≤ k) (hP : PlainT st B R s e k) (hs : s.size ≤ 1099511627776) : Calls Tryz.prog 54 #[.pointer (some ⟨R, 0, none⟩)] W fun x w' => VPost st W B R s e k v ns x w' := by
  have hsl := un_length s
  have hlen := congrArg List.length hd
  rw [List.length_drop, hsl] at hlen
  simp only [List.length_cons] at hlen
  have hul := congrArg List.length hu
  rw [List.length_drop, List.length_cons] at hul
  simp only [List.length_cons] at hul
  have hnle := nmL_le u
  have hd1 : (un s).drop (k + 1) = 123 :: u := by rw [← List.drop_drop, hd]; rfl
  have hdk : (un s).drop (k + 2 + nmL u + 2) = r := by rw [show k + 2 + nmL u + 2 = k + 2 + (nmL u + 2) by omega, ← List.drop_drop, ← List.drop_drop (i := 2), show (un s).drop (k + 2) = u by rw [← List.drop_drop, hd]; rfl, hu]; rfl
  have HX : Hid (s.extract (k + 1) s.size = bs (123 :: u)) := by unfold Hid; rw [ext_tail, hd1]
  have hsz : (bs (123 :: u)).size = u.length + 1 := size_bs _
  have HU : Hid ((bs (123 :: u)).extract 1 (bs (123 :: u)).size = bs u) := by unfold Hid; rw [ext_tail, un_bs]; rfl
  have HX2 : Hid ((bs (123 :: u)).extract 1 (1 + nmL u) = bs (u.take (nmL u))) := by unfold Hid; rw [ext_part, un_bs]; rfl
  have HX3 : Hid ((bs (123 :: u)).extract (1 + nmL u) (bs (123 :: u)).size = bs (58 :: 43 :: r)) := by unfold Hid; rw [ext_tail, un_bs, Nat.add_comm, List.drop_succ_cons, hu]
  have hN : ∀ W, Calls Tryz.prog 71 #[.string (bs (123 :: u))] W fun e w' => e = .returned (.int .i64 0) ∧ w' = W := fun W => by
    have := name_r (bs (123 :: u)) (by omega) W
    rw [un_bs, nmL_brace] at this
    exact this
  have hN2 := fun W => name_r (bs u) (by rw [size_bs]; omega) W
  rw [un_bs] at hN2
  have hg0 : 0 < (bs (123 :: u)).size := by omega
  have hg : (bs (123 :: u))[0]'hg0 = 123 := by
    have := un_getElem? (bs (123 :: u)) 0 hg0
    rw [un_bs] at this
    exact (Option.some.inj this).symm
  have hgi : (0 : Int) < ((bs (123 :: u)).size : Int) := by omega
  have hgj : (1 : Int) ≤ ((bs (123 :: u)).size : Int) := by omega
  have hge : (((bs (123 :: u)).size : Int) == 0) = false := by rw [beq_eq_false_iff_ne]; omega
  have hq : (((123 : UInt8).toNat : Int) != 123) = false := by decide
  have hbn0 : 1 + nmL u < (bs (123 :: u)).size := by omega
  have hbn : (bs (123 :: u))[1 + nmL u]'hbn0 = 58 := by
    have h5 := un_getElem? (bs (123 :: u)) (1 + nmL u) hbn0
    have h6 : (u.drop (nmL u))[0]? = some 58 := by rw [hu]; rfl
    rw [List.getElem?_drop, Nat.add_zero] at h6
    have h7 : (123 :: u)[1 + nmL u]? = some 58 := by rw [Nat.add_comm, List.getElem?_cons_succ, h6]
    rw [un_bs] at h5
    exact (Option.some.inj (h7.symm.trans h5)).symm
  have hy : ∀ (b : ByteArray) (hb : 0 < b.size), b = bs (58 :: 43 :: r) → b[0]'hb = 58 := by
    rintro b hb rfl
    have h8 := un_getElem? (bs (58 :: 43 :: r)) 0 hb
    rw [un_bs] at h8
    exact (Option.some.inj h8).symm
  have hz : ∀ (b : ByteArray) (hb : 1 < b.size), b = bs (58 :: 43 :: r) → b[1]'hb = 43 := by
    rintro b hb rfl
    have h8 := un_getElem? (bs (58 :: 43 :: r)) 1 hb
    rw [un_bs] at h8
    exact (Option.some.inj h8).symm
  have hbq : (((58 : UInt8).toNat : Int) == 125) = false := by decide
  have hbp : (((58 : UInt8).toNat : Int) != 58) = false := by decide
  have hbr : (((43 : UInt8).toNat : Int) != 45) = true := by decide
  have hbs : (((43 : UInt8).toNat : Int) != 43) = false := by decide
  have HRun : Hid (Run e st ((un s).drop k) (2 :: st) ((un s).drop (k + 2 + nmL u + 2)) [.ifF (u.take (nmL u))]) := by
    unfold Hid; rw [hd, hdk]; exact run_ifF he hn0 hu
  have hNE : Hid (u.take (nmL u) ≠ []) := nmL_ne hn0
  have hMt := fun W2 (hdr : DR W2 B R s e k 0 v ns) (hb : B ≤ W2.heap.size) => met_r (bs (u.take (nmL u))) W2 B R s e k 0 v ns hdr hb (by omega)
  rw [un_bs] at hMt
  have f0 := h.lies.cell (i := 0) rfl
  have f1 := h.lies.cell (i := 1) rfl
  have hRW := h.lies.lt
  have HR : Hid (DR W B R s e k 0 v ns) := h
  have w1 : IntKind.i64.wrap ((k : Int) + 1) = ((k + 1 : Nat) : Int) := by rw [wrap_small _ (by omega) (by omega)]; omega
  have w2 : IntKind.i64.wrap (1 + (nmL u : Int)) = ((1 + nmL u : Nat) : Int) := by rw [wrap_small _ (by omega) (by omega)]; omega
  have w3 : IntKind.i64.wrap ((k : Int) + 2) = ((k + 2 : Nat) : Int) := by rw [wrap_small _ (by omega) (by omega)]; omega
  have w4 : IntKind.i64.wrap (((k + 2 : Nat) : Int) + (nmL u : Int)) = ((k + 2 + nmL u : Nat) : Int) := by rw [wrap_small _ (by omega) (by omega)]; omega
  have w5 : IntKind.i64.wrap (((k + 2 + nmL u : Nat) : Int) + 2) = ((k + 2 + nmL u + 2 : Nat) : Int) := by rw [wrap_small _ (by omega) (by omega)]; omega
  have hkf : k + 2 + nmL u + 2 ≤ s.size := by omega
  have hkg : k + 2 < k + 2 + nmL u + 2 := by omega
  have d0 : (0 : Int) ≤ ((k + 1 : Nat) : Int) := by omega
  have d1 : ((k + 1 : Nat) : Int) ≤ (s.size : Int) := by omega
  have d2 : (0 : Int) < (nmL u : Int) := by omega
  have d2e : ((nmL u : Int) == 0) = false := by rw [beq_eq_false_iff_ne]; omega
  have d3 : (1 : Int) ≤ ((1 + nmL u : Nat) : Int) := by omega
  have d4 : ((1 + nmL u : Nat) : Int) ≤ ((bs (123 :: u)).size : Int) := by omega
  have d5 : (0 : Int) ≤ ((1 + nmL u : Nat) : Int) := by omega
  have hk3 : k < s.size := by omega
  clear h hd hlen hul hnle hd1 hsz hn0 hu hdk
  generalize nmL u = n at *
  generalize bs (123 :: u) = bt at *
  generalize bs u = bu at *
  generalize List.take n u = nm at *
  generalize hnm2 : bs nm = nm2 at *
  generalize hkb : k + 1 = kb at *
  generalize hn1 : 1 + n = n1 at *
  generalize hkc : k + 2 = kc at *
  generalize hkd : kc + n = kd at *
  generalize hke : kd + 2 = kf at *
  go_enter Tryz.func54, Tryz.ntmps54
  go_wp2
  go_quiet (fail)
  have hz0 : Lies ((W.alloc (.cells #[.string ⟨#[]⟩, .string ⟨#[]⟩, .int .u8 0, .slice none 0 0] 108)).drewN nq) W.heap.size 108 #[.string ⟨#[]⟩, .string ⟨#[]⟩, .int .u8 0, .slice none 0 0] := Lies.new W 108 _
  have h0 := (HR.out.belowK ((Below.refl _ W).alloc (Nat.le_refl _) (.cells #[.string ⟨#[]⟩, .string ⟨#[]⟩, .int .u8 0, .slice none 0 0] 108))).drew nq
  have r0 := ((Rnd.refl (rdS R v) W).alloc (.cells #[.string ⟨#[]⟩, .string ⟨#[]⟩, .int .u8 0, .slice none 0 0] 108)).drewR nq
  have hL : ¬ rdS R v W.heap.size := fun hh => Nat.lt_irrefl _ (HR.out.there _ hh)
  clear f0 f1
  generalize ((W.alloc (.cells #[.string ⟨#[]⟩, .string ⟨#[]⟩, .int .u8 0, .slice none 0 0] 108)).drewN nq) = W0 at *
  have hLW := hz0.lt
  have hR0 := h0.lies.lt
  have hB0 : B ≤ W0.heap.size := Nat.le_trans hB r0.size
  rw [HX.out]
  have h1 := h0.belowK ((Below.refl _ W0).alloc (Nat.le_refl _) (.cells #[.string ⟨#[]⟩, .string nm2, .int .u8 0, .slice none 0 0] 108))
  have hz1 := lies_alloc hz0 (.cells #[.string ⟨#[]⟩, .string nm2, .int .u8 0, .slice none 0 0] 108)
  have hy1 : Lies (W0.alloc (.cells #[.string ⟨#[]⟩, .string nm2, .int .u8 0, .slice none 0 0] 108)) W0.heap.size 108 #[.string ⟨#[]⟩, .string nm2, .int .u8 0, .slice none 0 0] := Lies.new W0 108 _
  have hL0 : ¬ rdS R v W0.heap.size := fun hh => Nat.lt_irrefl _ (h0.there _ hh)
  have r01 := r0.alloc (.cells #[.string ⟨#[]⟩, .string nm2, .int .u8 0, .slice none 0 0] 108)
  have hB1 : B ≤ (W0.alloc (.cells #[.string ⟨#[]⟩, .string nm2, .int .u8 0, .slice none 0 0] 108)).heap.size := by rw [World.size_alloc]; omega
  have hlx := hz1.lt
  have hly := hy1.lt
  go_wp2_with (first
    | (go_at_call 71; (first | (with_reducible refine (hN _).mono ?_) | (rw [HU.out]; with_reducible refine (hN2 _).mono ?_)); rintro x w1 ⟨rfl, hw⟩; replace hw := hw.symm; subst hw))
  rw [HX2.out]
  refine (hMt _ h1 hB1).mono ?_
  rintro x w1 ⟨rfl, v1, hdr1, r1⟩
  have g1 := hdr1.lies.cell (i := 1) rfl
  have gr := hdr1.lies.frozen 1
  have hz2 := (r1.same _ hlx hL).trans hz1
  have hy2 := (r1.same _ hly hL0).trans hy1
  have hyz : (bt.extract n1 bt.size).size = r.length + 2 := by rw [HX3.out, size_bs]; rfl
  have hyi0 : 0 < (bt.extract n1 bt.size).size := by omega
  have hyi' : (0 : Int) < ((bt.extract n1 bt.size).size : Int) := by omega
  have hyj' : ¬ ((bt.extract n1 bt.size).size : Int) < 2 := by omega
  have hyk : bt.size - n1 = r.length + 2 := by have := size_extract' bt n1 bt.size (Nat.le_refl _); omega
  have hyl : ¬ ((r.length : Int) + 2 < 2) := by omega
  have hy' : (bt.extract n1 bt.size)[0]'hyi0 = 58 := hy _ _ HX3.out
  have hyi1 : 1 < (bt.extract n1 bt.size).size := by omega
  have hyi1' : (1 : Int) < ((bt.extract n1 bt.size).size : Int) := by omega
  have hz' : (bt.extract n1 bt.size)[1]'hyi1 = 43 := hz _ _ HX3.out
  have h3 := hdr1.move kd
  have hz3 := lies_other hz2 (i := 1) (g := R) (by omega) (.int .i64 (kd : Int))
  have hy3 := lies_other hy2 (i := 1) (g := R) (by omega) (.int .i64 (kd : Int))
  have hL1 : ¬ rdS R v1 W.heap.size := fun hh => by
    rcases r1.more _ hh with h9 | h9
    · exact hL h9
    · omega
  have hL2 : ¬ rdS R v1 W0.heap.size := fun hh => by
    rcases r1.more _ hh with h9 | h9
    · exact hL0 h9
    · omega
  have r2 := (r01.trans r1).set (b := R) (i := 1) (.inl rfl) (.int .i64 (kd : Int))
  have hB3 : B ≤ (w1.setCell ⟨R, 1, none⟩ (.int .i64 (kd : Int))).heap.size := by have := r1.size; rw [size_setCell]; omega
  clear hy hz hg hgi hgj hge hq HX HU HX2 HX3 hN hN2 hMt h0 h1 hz0 hz1 hy1 hB0 hB1 d0 d1 d2 d2e
  dsimp only
  go_upto_region 23 with fail
  generalize (w1.setCell ⟨R, 1, none⟩ (.int .i64 (kd : Int))) = w2 at *
  have yc := hy3.cell (i := 2) rfl
  have yf := hy3.frozen 2
  go_upto_region 24 with fail
  have hy4 : Lies (w2.setCell ⟨W0.heap.size, 2, none⟩ (.int .u8 43)) W0.heap.size 108 #[.string ⟨#[]⟩, .string nm2, .int .u8 43, .slice none 0 0] := hy3.set (i := 2) (.int .u8 43)
  have hz4 := lies_other hz3 (i := 2) (g := W0.heap.size) (by omega) (.int .u8 43)
  have h4 := h3.aside (i := 2) hL2 (.int .u8 43)
  have r4 := r2.setNew (i := 2) (b := W0.heap.size) r0.size (.int .u8 43)
  have s4 := size_setCell w2 W0.heap.size 2 (.int .u8 43)
  generalize (w2.setCell ⟨W0.heap.size, 2, none⟩ (.int .u8 43)) = w3 at *
  clear yc yf g1 gr
  have xc := h4.lies.cell (i := 1) rfl
  have xf := h4.lies.frozen 1
  go_upto_region 25 with fail
  have hy5 := lies_other hy4 (i := 1) (g := R) (by omega) (.int .i64 (kf : Int))
  have hz5 := lies_other hz4 (i := 1) (g := R) (by omega) (.int .i64 (kf : Int))
  have h5 := h4.move kf
  have r5 := r4.set (b := R) (i := 1) (.inl rfl) (.int .i64 (kf : Int))
  have s5 := size_setCell w3 R 1 (.int .i64 (kf : Int))
  clear xc xf
  generalize (w3.setCell ⟨R, 1, none⟩ (.int .i64 (kf : Int))) = w4 at *
  have hC := hP w4 kf v1 (metN nm ns) (by omega) hkf h5 (by omega) (by have := metN_len nm ns; omega)
  have hly5 := hy5.lt
  have hlz5 := hz5.lt
  clear hP
  go_upto_region 26 with fail
  refine hC.mono ?_
  rintro x w5 ⟨lv, ts, us, k3, no3, v3, ns3, rfl, h6, p6, r6, len6, hi6, ok6, bad6⟩
  obtain ⟨va, vc, g6, rfl, _⟩ := p6.form
  have hy6 := lies_rnd hy5 r6 hL2
  have yc := hy6.cell (i := 3) rfl
  have yf := hy6.frozen 3
  dsimp only
  go_upto_region 26 with fail
  have hz6 := lies_rnd hz5 r6 hL1
  have hL3 : ¬ rdS R v3 W.heap.size := fun hh => by
    rcases r6.more _ hh with h9 | h9
    · exact hL1 h9
    · omega
  have hL4 : ¬ rdS R v3 W0.heap.size := fun hh => by
    rcases r6.more _ hh with h9 | h9
    · exact hL2 h9
    · omega
  generalize hlv : Value.slice va ts.length vc = lv at *
  have hy7 : Lies (w5.setCell ⟨W0.heap.size, 3, none⟩ lv) W0.heap.size 108 #[.string ⟨#[]⟩, .string nm2, .int .u8 43, lv] := hy6.set (i := 3) lv
  have hz7 := lies_other hz6 (i := 3) (g := W0.heap.size) (by omega) lv
  have h7 := h6.aside (i := 3) hL4 lv
  have r7 := (r5.trans r6).setNew (i := 3) (b := W0.heap.size) r0.size lv
  have p7 := p6.to (w2 := w5.setCell ⟨W0.heap.size, 3, none⟩ lv) (by rw [size_setCell]; exact Nat.le_refl _) (fun j hj => Below.heap_setCell _ _ _ _ (fun e => by have := hj.1; simp at e; omega))
  clear yc yf
  generalize (w5.setCell ⟨W0.heap.size, 3, none⟩ lv) = w6 at *
  have xc := h7.lies.cell (i := 1) rfl
  have xf := h7.lies.frozen 1
  have hkk : kf ≤ k3 := by
    by_cases h0 : no3 = 0
    · have := len6.2 h0; omega
    · have := (bad6 h0).1; omega
  obtain ⟨k4, hk4⟩ : ∃ k4, k3 + 1 = k4 := ⟨_, rfl⟩
  have w9 : IntKind.i64.wrap ((k3 : Int) + 1) = (k4 : Int) := by rw [wrap_small _ (by omega) (by omega)]; omega
  go_upto_region 27 with fail
  have hy8 := lies_other hy7 (i := 1) (g := R) (by omega) (.int .i64 (k4 : Int))
  have hz8 := lies_other hz7 (i := 1) (g := R) (by omega) (.int .i64 (k4 : Int))
  have h8 := h7.move k4
  have r8 := r7.set (b := R) (i := 1) (.inl rfl) (.int .i64 (k4 : Int))
  have p8 := p7.to (w2 := w6.setCell ⟨R, 1, none⟩ (.int .i64 (k4 : Int))) (by rw [size_setCell]; exact Nat.le_refl _) (fun j hj => Below.heap_setCell _ _ _ _ (fun e => hj.2.2 (.inl (by simp at e; exact e))))
  clear xc xf
  generalize (w6.setCell ⟨R, 1, none⟩ (.int .i64 (k4 : Int))) = w7 at *
  go_wp2_with (first
    | (refine wpList_load_row rfl 108 (.tmp 5) rfl W0.heap.size rfl 108 _ (0, 0) _ hy8 Tryz.underlying108 rfl pcD_info ?_)
    | (refine wpList_store_row rfl 108 (.tmp 2) (.tmp 138) rfl W.heap.size #[.string ⟨#[]⟩, .string nm2, .int .u8 43, lv] rfl rfl 108 _ hz8 pcD_info rfl (by simp [Value.oneCell', ← hlv]) ?_))
  refine bodyPost_ret (results_cell_row rfl _ _ W.heap.size 108 #[.string ⟨#[]⟩, .string nm2, .int .u8 43, lv] (0, 0) _ rfl (lies_row hz8 _) Tryz.underlying108 rfl pcD_info) rfl ?_
  have hT : ∀ j, TAp w4 w7 R v3 j → TAp W (w7.setRow W.heap.size #[.string ⟨#[]⟩, .string nm2, .int .u8 43, lv]) R v3 j := fun j hj => ⟨by have := r5.size; have := hj.1; omega, by have := hj.2.1; simpa [World.setRow] using this, hj.2.2⟩
  have hk : ∀ j, TAp w4 w7 R v3 j → (w7.setRow W.heap.size #[.string ⟨#[]⟩, .string nm2, .int .u8 43, lv]).heap[j]? = w7.heap[j]? := fun j hj => setRow_other _ _ _ _ (fun e => by have := hj.1; omega)
  refine ⟨.mk [] nm 43 ts, lv, k4, no3, v3, ns3, by rw [← hnm2]; rfl, h8.row hL3 _, by have := hkk; omega, by omega, ?_, r8.fresh (Nat.le_refl _) _, fun h0 => ?_, fun h0 => ⟨by have := bad6 h0; omega, HRun.out.bad (bad6 h0).2⟩⟩
  · rw [PatP]
    refine ⟨by simp, fun j hj => hT j (p8.blk j hj), us, p8.pts.kids.len, own_keep4 p8.pts.own (fun j hj => hk j (p8.blk j hj)), PatL.keep (fun j hj => hT j hj.1) (fun j hj => hk j hj.1) ts us p8.pts.kids⟩
  · obtain ⟨q1, q2, q3, q4, r3, q5, q6⟩ := ok6 h0
    have q7 : (un s).drop k4 = r3 := by rw [← hk4, ← List.drop_drop, q5]; rfl
    have q8 := congrArg List.length q5
    rw [List.length_drop, List.length_cons, hsl] at q8
    have hF : flatP (.mk [] nm 43 ts) = .ifF nm :: flatL ts ++ [.fin] := by
      rw [flatP, if_neg hNE.out]
      rfl
    refine ⟨by omega, ?_, ?_, by have := metN_len nm ns; omega⟩
    · rw [hF, q7]
      rw [q5] at q2
      exact (HRun.out.trans q2).trans (run_fin q6 r3)
    · rw [hF, metL_fin nm hNE.out _ _ (by simp) ns]
      exact q3
end Go.Proofs.YtjmekcakiacdfabGreatDoor
