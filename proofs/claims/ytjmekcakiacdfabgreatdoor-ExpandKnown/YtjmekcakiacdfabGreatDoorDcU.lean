/- The document's variable: a name behind an opening brace, and anything else behind it. -/
import Derived.Test.YtjmekcakiacdfabGreatDoorDcT
namespace Go.Proofs.YtjmekcakiacdfabGreatDoor
open Go Go.RowKit

set_option maxHeartbeats 4000000 in
set_option maxRecDepth 100000 in
theorem var_three (st : List Nat) (W : World) (B R : Nat) (s : ByteArray) (e : UInt8) (k : Nat) (v : Value) (ns : List (List UInt8)) (h : DR W B R s e k 0 v ns) (he : (36 : UInt8) ≠ e) (u : List UInt8) (c : UInt8) (r : List UInt8) (hd : (un s).drop k = 36 :: 123 :: u) (hn0 : nmL u ≠ 0) (hu : u.drop (nmL u) = 58 :: c :: r) (hc5 : c ≠ 45) (hc3 : c ≠ 43) (hB : B ≤ W.heap.size) (hnl : ns.length ≤ 1099511627776) (hs : s.size ≤ 1099511627776) : Calls Tryz.prog 54 #[.pointer (some ⟨R, 0, none⟩)] W fun x w' => VPost st W B R s e k v ns x w' := by
  have hsl := un_length s
  have hlen := congrArg List.length hd
  rw [List.length_drop, hsl] at hlen
  simp only [List.length_cons] at hlen
  have hul := congrArg List.length hu
  rw [List.length_drop, List.length_cons] at hul
  simp only [List.length_cons] at hul
  have hnle := nmL_le u
  have hd1 : (un s).drop (k + 1) = 123 :: u := by rw [← List.drop_drop, hd]; rfl
  have HX : Hid (s.extract (k + 1) s.size = bs (123 :: u)) := by unfold Hid; rw [ext_tail, hd1]
  have hsz : (bs (123 :: u)).size = u.length + 1 := size_bs _
  have HU : Hid ((bs (123 :: u)).extract 1 (bs (123 :: u)).size = bs u) := by unfold Hid; rw [ext_tail, un_bs]; rfl
  have HX2 : Hid ((bs (123 :: u)).extract 1 (1 + nmL u) = bs (u.take (nmL u))) := by unfold Hid; rw [ext_part, un_bs]; rfl
  have HX3 : Hid ((bs (123 :: u)).extract (1 + nmL u) (bs (123 :: u)).size = bs (58 :: c :: r)) := by unfold Hid; rw [ext_tail, un_bs, Nat.add_comm, List.drop_succ_cons, hu]
  have hN : ∀ W, Calls Tryz.prog 71 #[.string (bs (123 :: u))] W fun e w' => e = .returned (.int .i64 0) ∧ w' = W := fun W => by
    have := name_r (bs (123 :: u)) (by omega) W
    rw [un_bs, nmL_brace] at this
    exact this
  have hN2 := fun W => name_r (bs u) (by rw [size_bs]; omega) W
  rw [un_bs] at hN2
  have hg0 : 0 < (bs (123 :: u)).size := by omega
  have hg : (bs (123 :: u))[0]'hg0 = 123 := by
    have := un_getElem? (bs (123 :: u)) 0 hg0
    rw [un_bs] at this
    exact (Option.some.inj this).symm
  have hgi : (0 : Int) < ((bs (123 :: u)).size : Int) := by omega
  have hgj : (1 : Int) ≤ ((bs (123 :: u)).size : Int) := by omega
  have hge : (((bs (123 :: u)).size : Int) == 0) = false := by rw [beq_eq_false_iff_ne]; omega
  have hq : (((123 : UInt8).toNat : Int) != 123) = false := by decide
  have hbn0 : 1 + nmL u < (bs (123 :: u)).size := by omega
  have hbn : (bs (123 :: u))[1 + nmL u]'hbn0 = 58 := by
    have h5 := un_getElem? (bs (123 :: u)) (1 + nmL u) hbn0
    have h6 : (u.drop (nmL u))[0]? = some 58 := by rw [hu]; rfl
    rw [List.getElem?_drop, Nat.add_zero] at h6
    have h7 : (123 :: u)[1 + nmL u]? = some 58 := by rw [Nat.add_comm, List.getElem?_cons_succ, h6]
    rw [un_bs] at h5
    exact (Option.some.inj (h7.symm.trans h5)).symm
  have hy : ∀ (b : ByteArray) (hb : 0 < b.size), b = bs (58 :: c :: r) → b[0]'hb = 58 := by
    rintro b hb rfl
    have h8 := un_getElem? (bs (58 :: c :: r)) 0 hb
    rw [un_bs] at h8
    exact (Option.some.inj h8).symm
  have hz : ∀ (b : ByteArray) (hb : 1 < b.size), b = bs (58 :: c :: r) → b[1]'hb = c := by
    rintro b hb rfl
    have h8 := un_getElem? (bs (58 :: c :: r)) 1 hb
    rw [un_bs] at h8
    exact (Option.some.inj h8).symm
  have hbq : (((58 : UInt8).toNat : Int) == 125) = false := by decide
  have hbp : (((58 : UInt8).toNat : Int) != 58) = false := by decide
  have hbr : ((c.toNat : Int) != 45) = true := by unfold bne; rw [show ((c.toNat : Int) == 45) = decide (c = 45) from beq_u8n c 45 (by decide), decide_eq_false hc5]; rfl
  have hbs : ((c.toNat : Int) != 43) = true := by unfold bne; rw [show ((c.toNat : Int) == 43) = decide (c = 43) from beq_u8n c 43 (by decide), decide_eq_false hc3]; rfl
  have HBad : Hid (Bad e st ((un s).drop k) 4) := by
    unfold Hid; rw [hd]; exact bad_behind he hn0 (by rw [hu]; simp) (by rw [hu]; rintro c2 r2 ⟨⟩; exact ⟨hc5, hc3⟩)
  have hMt := fun W2 (hdr : DR W2 B R s e k 0 v ns) (hb : B ≤ W2.heap.size) => met_r (bs (u.take (nmL u))) W2 B R s e k 0 v ns hdr hb hnl
  rw [un_bs] at hMt
  have f0 := h.lies.cell (i := 0) rfl
  have f1 := h.lies.cell (i := 1) rfl
  have hRW := h.lies.lt
  have HR : Hid (DR W B R s e k 0 v ns) := h
  have w1 : IntKind.i64.wrap ((k : Int) + 1) = ((k + 1 : Nat) : Int) := by rw [wrap_small _ (by omega) (by omega)]; omega
  have w2 : IntKind.i64.wrap (1 + (nmL u : Int)) = ((1 + nmL u : Nat) : Int) := by rw [wrap_small _ (by omega) (by omega)]; omega
  have w3 : IntKind.i64.wrap ((k : Int) + 2) = ((k + 2 : Nat) : Int) := by rw [wrap_small _ (by omega) (by omega)]; omega
  have w4 : IntKind.i64.wrap (((k + 2 : Nat) : Int) + (nmL u : Int)) = ((k + 2 + nmL u : Nat) : Int) := by rw [wrap_small _ (by omega) (by omega)]; omega
  have d0 : (0 : Int) ≤ ((k + 1 : Nat) : Int) := by omega
  have d1 : ((k + 1 : Nat) : Int) ≤ (s.size : Int) := by omega
  have d2 : (0 : Int) < (nmL u : Int) := by omega
  have d2e : ((nmL u : Int) == 0) = false := by rw [beq_eq_false_iff_ne]; omega
  have d3 : (1 : Int) ≤ ((1 + nmL u : Nat) : Int) := by omega
  have d4 : ((1 + nmL u : Nat) : Int) ≤ ((bs (123 :: u)).size : Int) := by omega
  have d5 : (0 : Int) ≤ ((1 + nmL u : Nat) : Int) := by omega
  have hk3 : k < s.size := by omega
  clear h hd hlen hul hnle hd1 hsz hn0 hu
  generalize nmL u = n at *
  generalize bs (123 :: u) = bt at *
  generalize bs u = bu at *
  generalize List.take n u = nm at *
  generalize hnm2 : bs nm = nm2 at *
  generalize hkb : k + 1 = kb at *
  generalize hn1 : 1 + n = n1 at *
  generalize hkc : k + 2 = kc at *
  generalize hkd : kc + n = kd at *
  go_enter Tryz.func54, Tryz.ntmps54
  go_wp2
  go_quiet (fail)
  have hz0 : Lies ((W.alloc (.cells #[.string ⟨#[]⟩, .string ⟨#[]⟩, .int .u8 0, .slice none 0 0] 108)).drewN nq) W.heap.size 108 #[.string ⟨#[]⟩, .string ⟨#[]⟩, .int .u8 0, .slice none 0 0] := Lies.new W 108 _
  have h0 := (HR.out.belowK ((Below.refl _ W).alloc (Nat.le_refl _) (.cells #[.string ⟨#[]⟩, .string ⟨#[]⟩, .int .u8 0, .slice none 0 0] 108))).drew nq
  have r0 := ((Rnd.refl (rdS R v) W).alloc (.cells #[.string ⟨#[]⟩, .string ⟨#[]⟩, .int .u8 0, .slice none 0 0] 108)).drewR nq
  have hL : ¬ rdS R v W.heap.size := fun hh => Nat.lt_irrefl _ (HR.out.there _ hh)
  clear f0 f1
  generalize ((W.alloc (.cells #[.string ⟨#[]⟩, .string ⟨#[]⟩, .int .u8 0, .slice none 0 0] 108)).drewN nq) = W0 at *
  have hLW := hz0.lt
  have hR0 := h0.lies.lt
  have hB0 : B ≤ W0.heap.size := Nat.le_trans hB r0.size
  rw [HX.out]
  have h1 := h0.belowK ((Below.refl _ W0).alloc (Nat.le_refl _) (.cells #[.string ⟨#[]⟩, .string nm2, .int .u8 0, .slice none 0 0] 108))
  have hz1 := lies_alloc hz0 (.cells #[.string ⟨#[]⟩, .string nm2, .int .u8 0, .slice none 0 0] 108)
  have hy1 : Lies (W0.alloc (.cells #[.string ⟨#[]⟩, .string nm2, .int .u8 0, .slice none 0 0] 108)) W0.heap.size 108 #[.string ⟨#[]⟩, .string nm2, .int .u8 0, .slice none 0 0] := Lies.new W0 108 _
  have hL0 : ¬ rdS R v W0.heap.size := fun hh => Nat.lt_irrefl _ (h0.there _ hh)
  have r01 := r0.alloc (.cells #[.string ⟨#[]⟩, .string nm2, .int .u8 0, .slice none 0 0] 108)
  have hB1 : B ≤ (W0.alloc (.cells #[.string ⟨#[]⟩, .string nm2, .int .u8 0, .slice none 0 0] 108)).heap.size := by rw [World.size_alloc]; omega
  have hlx := hz1.lt
  have hly := hy1.lt
  go_wp2_with (first
    | (go_at_call 71; (first | (with_reducible refine (hN _).mono ?_) | (rw [HU.out]; with_reducible refine (hN2 _).mono ?_)); rintro x w1 ⟨rfl, hw⟩; replace hw := hw.symm; subst hw))
  rw [HX2.out]
  refine (hMt _ h1 hB1).mono ?_
  rintro x w1 ⟨rfl, v1, hdr1, r1⟩
  have g1 := hdr1.lies.cell (i := 1) rfl
  have gr := hdr1.lies.frozen 1
  have hz2 := (r1.same _ hlx hL).trans hz1
  have hy2 := (r1.same _ hly hL0).trans hy1
  have hyz : (bt.extract n1 bt.size).size = r.length + 2 := by rw [HX3.out, size_bs]; rfl
  have hyi0 : 0 < (bt.extract n1 bt.size).size := by omega
  have hyi' : (0 : Int) < ((bt.extract n1 bt.size).size : Int) := by omega
  have hyj' : ¬ ((bt.extract n1 bt.size).size : Int) < 2 := by omega
  have hyk : bt.size - n1 = r.length + 2 := by have := size_extract' bt n1 bt.size (Nat.le_refl _); omega
  have hyl : ¬ ((r.length : Int) + 2 < 2) := by omega
  have hy' : (bt.extract n1 bt.size)[0]'hyi0 = 58 := hy _ _ HX3.out
  have hyi1 : 1 < (bt.extract n1 bt.size).size := by omega
  have hyi1' : (1 : Int) < ((bt.extract n1 bt.size).size : Int) := by omega
  have hz' : (bt.extract n1 bt.size)[1]'hyi1 = c := hz _ _ HX3.out
  have h3 := hdr1.move kd
  have hW := wrong_r 4 _ B R s e kd 0 v1 _ h3 hs
  have hz3 := lies_other hz2 (i := 1) (g := R) (by omega) (.int .i64 (kd : Int))
  have hL1 : ¬ rdS R v1 W.heap.size := fun hh => by
    rcases r1.more _ hh with h9 | h9
    · exact hL h9
    · omega
  have r2 := (r01.trans r1).set (b := R) (i := 1) (.inl rfl) (.int .i64 (kd : Int))
  have hlz := hz3.lt
  clear hy hz hg hgi hgj hge hq HX HU HX2 HX3 hN hN2 hMt h0 h1 hz0 hz1 hy1 hB0 hB1 d0 d1 d2 d2e
  dsimp only
  go_wp2_with (first
    | (go_at_call 52; refine hW.mono ?_; rintro x w4 ⟨rfl, hdr4, r4⟩; have hz4 := (r4.same _ hlz hL1).trans hz3)
    | (refine wpList_store_row rfl 108 (.tmp 2) (.tmp 116) rfl W.heap.size #[.string ⟨#[]⟩, .string ⟨#[]⟩, .int .u8 0, .slice none 0 0] rfl rfl 108 _ hz4 pcD_info rfl (by simp [Value.oneCell']) ?_))
  refine bodyPost_ret (results_cell_row rfl _ _ W.heap.size 108 #[.string ⟨#[]⟩, .string ⟨#[]⟩, .int .u8 0, .slice none 0 0] (0, 0) _ rfl (lies_row hz4 _) Tryz.underlying108 rfl pcD_info) rfl ?_
  exact ⟨.mk [] [] 0 [], .slice none 0 0, s.size, 4, v1, metN nm ns, rfl, hdr4.row hL1 _, hk3, by omega, patP_leaf _ _ _ _ _, (r2.trans r4).fresh (Nat.le_refl _) _, fun h => (by cases h), fun _ => ⟨Nat.le_refl _, HBad.out⟩⟩
end Go.Proofs.YtjmekcakiacdfabGreatDoor
