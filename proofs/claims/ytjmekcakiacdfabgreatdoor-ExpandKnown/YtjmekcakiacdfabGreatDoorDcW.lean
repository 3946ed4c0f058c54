/- The document's variable: a dollar alone, and braces with no name. -/
import Derived.Test.YtjmekcakiacdfabGreatDoorDcV
namespace Go.Proofs.YtjmekcakiacdfabGreatDoor
open Go Go.RowKit


set_option maxHeartbeats 4000000 in
set_option maxRecDepth 100000 in
theorem var_lone (st : List Nat) (W : World) (B R : Nat) (s : ByteArray) (e : UInt8) (k : Nat) (v : Value) (ns : List (List UInt8)) (h : DR W B R s e k 0 v ns) (he : (36 : UInt8) ≠ e) (c : UInt8) (r : List UInt8) (hd : (un s).drop k = 36 :: c :: r) (hn0 : nmL (c :: r) = 0) (hc : c ≠ 123) (hs : s.size ≤ 1099511627776) : Calls Tryz.prog 54 #[.pointer (some ⟨R, 0, none⟩)] W fun x w' => VPost st W B R s e k v ns x w' := by
  have hsl := un_length s
  have hlen := congrArg List.length hd
  rw [List.length_drop, hsl] at hlen
  simp only [List.length_cons] at hlen
  have hd1 : (un s).drop (k + 1) = c :: r := by rw [← List.drop_drop, hd]; rfl
  have HX : Hid (s.extract (k + 1) s.size = bs (c :: r)) := by unfold Hid; rw [ext_tail, hd1]
  have hsz : (bs (c :: r)).size = r.length + 1 := size_bs _
  have hN : ∀ W, Calls Tryz.prog 71 #[.string (bs (c :: r))] W fun e w' => e = .returned (.int .i64 0) ∧ w' = W := fun W => by
    have := name_r (bs (c :: r)) (by omega) W
    rw [un_bs, hn0] at this
    exact this
  have hg0 : 0 < (bs (c :: r)).size := by omega
  have hg : (bs (c :: r))[0]'hg0 = c := by
    have := un_getElem? (bs (c :: r)) 0 hg0
    rw [un_bs] at this
    exact (Option.some.inj this).symm
  have hgi : (0 : Int) < ((bs (c :: r)).size : Int) := by omega
  have hge : (((bs (c :: r)).size : Int) == 0) = false := by rw [beq_eq_false_iff_ne]; omega
  have hq : ((c.toNat : Int) != 123) = true := by
    have : ((c.toNat : Int) == 123) = decide (c = 123) := beq_u8n c 123 (by decide)
    unfold bne; rw [this, decide_eq_false hc]; rfl
  have HRun : Hid (Run e st ((un s).drop k) st ((un s).drop (k + 1)) [.lit [36]]) := by
    unfold Hid; rw [hd1, hd]; exact run_dollar he hn0 (by simpa using hc)
  have hB1 := fun W2 (hdr : DR W2 B R s e k 0 v ns) => bytes_r 1 W2 B R s e k 0 v ns hdr (by omega) hs
  rw [show ((un s).drop k).take 1 = [36] by rw [hd]; rfl] at hB1
  have f0 := h.lies.cell (i := 0) rfl
  have f1 := h.lies.cell (i := 1) rfl
  have hRW := h.lies.lt
  have HR : Hid (DR W B R s e k 0 v ns) := h
  have w1 : IntKind.i64.wrap ((k : Int) + 1) = ((k + 1 : Nat) : Int) := by rw [wrap_small _ (by omega) (by omega)]; omega
  have d0 : (0 : Int) ≤ ((k + 1 : Nat) : Int) := by omega
  have d1 : ((k + 1 : Nat) : Int) ≤ (s.size : Int) := by omega
  have hk2 : k + 1 ≤ s.size := by omega
  have hk3 : k < k + 1 := by omega
  clear h hd hlen hd1 hsz hn0 hc
  generalize bs (c :: r) = bt at *
  generalize hkb : k + 1 = kb at *
  go_enter Tryz.func54, Tryz.ntmps54
  go_wp2
  go_quiet (fail)
  have hz0 : Lies ((W.alloc (.cells #[.string ⟨#[]⟩, .string ⟨#[]⟩, .int .u8 0, .slice none 0 0] 108)).drewN nq) W.heap.size 108 #[.string ⟨#[]⟩, .string ⟨#[]⟩, .int .u8 0, .slice none 0 0] := Lies.new W 108 _
  have h0 := (HR.out.belowK ((Below.refl _ W).alloc (Nat.le_refl _) (.cells #[.string ⟨#[]⟩, .string ⟨#[]⟩, .int .u8 0, .slice none 0 0] 108))).drew nq
  have r0 := ((Rnd.refl (rdS R v) W).alloc (.cells #[.string ⟨#[]⟩, .string ⟨#[]⟩, .int .u8 0, .slice none 0 0] 108)).drewR nq
  have hL : ¬ rdS R v W.heap.size := fun hh => Nat.lt_irrefl _ (HR.out.there _ hh)
  clear f0 f1
  generalize ((W.alloc (.cells #[.string ⟨#[]⟩, .string ⟨#[]⟩, .int .u8 0, .slice none 0 0] 108)).drewN nq) = W0 at *
  have hLW := hz0.lt
  rw [HX.out]
  go_wp2_with (first
    | (go_at_call 71; refine (hN _).mono ?_; rintro x w1 ⟨rfl, hw⟩; replace hw := hw.symm; subst hw)
    | (go_at_call 51; refine (hB1 _ h0).mono ?_; rintro x w1 ⟨rfl, hdr1, r1⟩; unfold pcD; have hz1 : Lies w1 W.heap.size 108 #[.string ⟨#[]⟩, .string ⟨#[]⟩, .int .u8 0, .slice none 0 0] := (r1.same _ hLW hL).trans hz0)
    | (refine wpList_store_row rfl 108 (.tmp 2) (.tmp 48) rfl W.heap.size #[.string (bs [36]), .string ⟨#[]⟩, .int .u8 0, .slice none 0 0] rfl rfl 108 _ hz1 pcD_info rfl (by simp [Value.oneCell']) ?_))
  refine bodyPost_ret (results_cell_row rfl _ _ W.heap.size 108 #[.string (bs [36]), .string ⟨#[]⟩, .int .u8 0, .slice none 0 0] (0, 0) _ rfl (lies_row hz1 _) Tryz.underlying108 rfl pcD_info) rfl ?_
  refine ⟨.mk [36] [] 0 [], .slice none 0 0, kb, 0, v, ns, rfl, hdr1.row hL _, hk3, by omega, patP_leaf _ _ _ _ _, (r0.trans r1).fresh (Nat.le_refl _) _, fun _ => ⟨hk2, ?_, ?_⟩, fun h => (h rfl).elim⟩
  · rw [flatP_lit]; exact HRun.out
  · rw [flatP_lit]; exact ⟨rfl, by omega⟩
set_option maxHeartbeats 4000000 in
set_option maxRecDepth 100000 in
theorem var_end (st : List Nat) (W : World) (B R : Nat) (s : ByteArray) (e : UInt8) (k : Nat) (v : Value) (ns : List (List UInt8)) (h : DR W B R s e k 0 v ns) (he : (36 : UInt8) ≠ e) (hd : (un s).drop k = [36]) (hs : s.size ≤ 1099511627776) : Calls Tryz.prog 54 #[.pointer (some ⟨R, 0, none⟩)] W fun x w' => VPost st W B R s e k v ns x w' := by
  have hsl := un_length s
  have hlen := congrArg List.length hd
  rw [List.length_drop, hsl] at hlen
  simp only [List.length_cons] at hlen
  have hd1 : (un s).drop (k + 1) = [] := by rw [← List.drop_drop, hd]; rfl
  have HX : Hid (s.extract (k + 1) s.size = bs []) := by unfold Hid; rw [ext_tail, hd1]
  have hN : ∀ W, Calls Tryz.prog 71 #[.string (bs [])] W fun e w' => e = .returned (.int .i64 0) ∧ w' = W := fun W => by
    have := name_r (bs []) (by decide) W
    rw [un_bs] at this
    exact this
  have hge : (((bs []).size : Int) == 0) = true := by decide
  have HRun : Hid (Run e st ((un s).drop k) st ((un s).drop (k + 1)) [.lit [36]]) := by
    unfold Hid; rw [hd1, hd]; exact run_dollar he rfl (by simp)
  have hB1 := fun W2 (hdr : DR W2 B R s e k 0 v ns) => bytes_r 1 W2 B R s e k 0 v ns hdr (by omega) hs
  rw [show ((un s).drop k).take 1 = [36] by rw [hd]; rfl] at hB1
  have f0 := h.lies.cell (i := 0) rfl
  have f1 := h.lies.cell (i := 1) rfl
  have hRW := h.lies.lt
  have HR : Hid (DR W B R s e k 0 v ns) := h
  have w1 : IntKind.i64.wrap ((k : Int) + 1) = ((k + 1 : Nat) : Int) := by rw [wrap_small _ (by omega) (by omega)]; omega
  have d0 : (0 : Int) ≤ ((k + 1 : Nat) : Int) := by omega
  have d1 : ((k + 1 : Nat) : Int) ≤ (s.size : Int) := by omega
  have hk2 : k + 1 ≤ s.size := by omega
  have hk3 : k < k + 1 := by omega
  clear h hd hlen hd1
  generalize bs [] = bt at *
  generalize hkb : k + 1 = kb at *
  go_enter Tryz.func54, Tryz.ntmps54
  go_wp2
  go_quiet (fail)
  have hz0 : Lies ((W.alloc (.cells #[.string ⟨#[]⟩, .string ⟨#[]⟩, .int .u8 0, .slice none 0 0] 108)).drewN nq) W.heap.size 108 #[.string ⟨#[]⟩, .string ⟨#[]⟩, .int .u8 0, .slice none 0 0] := Lies.new W 108 _
  have h0 := (HR.out.belowK ((Below.refl _ W).alloc (Nat.le_refl _) (.cells #[.string ⟨#[]⟩, .string ⟨#[]⟩, .int .u8 0, .slice none 0 0] 108))).drew nq
  have r0 := ((Rnd.refl (rdS R v) W).alloc (.cells #[.string ⟨#[]⟩, .string ⟨#[]⟩, .int .u8 0, .slice none 0 0] 108)).drewR nq
  have hL : ¬ rdS R v W.heap.size := fun hh => Nat.lt_irrefl _ (HR.out.there _ hh)
  clear f0 f1
  generalize ((W.alloc (.cells #[.string ⟨#[]⟩, .string ⟨#[]⟩, .int .u8 0, .slice none 0 0] 108)).drewN nq) = W0 at *
  have hLW := hz0.lt
  rw [HX.out]
  go_wp2_with (first
    | (go_at_call 71; refine (hN _).mono ?_; rintro x w1 ⟨rfl, hw⟩; replace hw := hw.symm; subst hw)
    | (go_at_call 51; refine (hB1 _ h0).mono ?_; rintro x w1 ⟨rfl, hdr1, r1⟩; unfold pcD; have hz1 : Lies w1 W.heap.size 108 #[.string ⟨#[]⟩, .string ⟨#[]⟩, .int .u8 0, .slice none 0 0] := (r1.same _ hLW hL).trans hz0)
    | (refine wpList_store_row rfl 108 (.tmp 2) (.tmp 48) rfl W.heap.size #[.string (bs [36]), .string ⟨#[]⟩, .int .u8 0, .slice none 0 0] rfl rfl 108 _ hz1 pcD_info rfl (by simp [Value.oneCell']) ?_))
  refine bodyPost_ret (results_cell_row rfl _ _ W.heap.size 108 #[.string (bs [36]), .string ⟨#[]⟩, .int .u8 0, .slice none 0 0] (0, 0) _ rfl (lies_row hz1 _) Tryz.underlying108 rfl pcD_info) rfl ?_
  refine ⟨.mk [36] [] 0 [], .slice none 0 0, kb, 0, v, ns, rfl, hdr1.row hL _, hk3, by omega, patP_leaf _ _ _ _ _, (r0.trans r1).fresh (Nat.le_refl _) _, fun _ => ⟨hk2, ?_, ?_⟩, fun h => (h rfl).elim⟩
  · rw [flatP_lit]; exact HRun.out
  · rw [flatP_lit]; exact ⟨rfl, by omega⟩
set_option maxHeartbeats 4000000 in
set_option maxRecDepth 100000 in
theorem var_bad (st : List Nat) (W : World) (B R : Nat) (s : ByteArray) (e : UInt8) (k : Nat) (v : Value) (ns : List (List UInt8)) (h : DR W B R s e k 0 v ns) (he : (36 : UInt8) ≠ e) (u : List UInt8) (hd : (un s).drop k = 36 :: 123 :: u) (hn0 : nmL u = 0) (hs : s.size ≤ 1099511627776) : Calls Tryz.prog 54 #[.pointer (some ⟨R, 0, none⟩)] W fun x w' => VPost st W B R s e k v ns x w' := by
  have hsl := un_length s
  have hlen := congrArg List.length hd
  rw [List.length_drop, hsl] at hlen
  simp only [List.length_cons] at hlen
  have hd1 : (un s).drop (k + 1) = 123 :: u := by rw [← List.drop_drop, hd]; rfl
  have HX : Hid (s.extract (k + 1) s.size = bs (123 :: u)) := by unfold Hid; rw [ext_tail, hd1]
  have hsz : (bs (123 :: u)).size = u.length + 1 := size_bs _
  have HU : Hid ((bs (123 :: u)).extract 1 (bs (123 :: u)).size = bs u) := by unfold Hid; rw [ext_tail, un_bs]; rfl
  have hN : ∀ W, Calls Tryz.prog 71 #[.string (bs (123 :: u))] W fun e w' => e = .returned (.int .i64 0) ∧ w' = W := fun W => by
    have := name_r (bs (123 :: u)) (by omega) W
    rw [un_bs, nmL_brace] at this
    exact this
  have hN2 : ∀ W, Calls Tryz.prog 71 #[.string (bs u)] W fun e w' => e = .returned (.int .i64 0) ∧ w' = W := fun W => by
    have := name_r (bs u) (by rw [size_bs]; omega) W
    rw [un_bs, hn0] at this
    exact this
  have hg0 : 0 < (bs (123 :: u)).size := by omega
  have hg : (bs (123 :: u))[0]'hg0 = 123 := by
    have := un_getElem? (bs (123 :: u)) 0 hg0
    rw [un_bs] at this
    exact (Option.some.inj this).symm
  have hgi : (0 : Int) < ((bs (123 :: u)).size : Int) := by omega
  have hgj : (1 : Int) ≤ ((bs (123 :: u)).size : Int) := by omega
  have hge : (((bs (123 :: u)).size : Int) == 0) = false := by rw [beq_eq_false_iff_ne]; omega
  have hq : (((123 : UInt8).toNat : Int) != 123) = false := by decide
  have HBad : Hid (Bad e st ((un s).drop k) 4) := by
    unfold Hid; rw [hd]; exact bad_brace he hn0
  have hB1 := fun W2 (hdr : DR W2 B R s e k 0 v ns) => wrong_r 4 W2 B R s e k 0 v ns hdr hs
  have f0 := h.lies.cell (i := 0) rfl
  have f1 := h.lies.cell (i := 1) rfl
  have hRW := h.lies.lt
  have HR : Hid (DR W B R s e k 0 v ns) := h
  have w1 : IntKind.i64.wrap ((k : Int) + 1) = ((k + 1 : Nat) : Int) := by rw [wrap_small _ (by omega) (by omega)]; omega
  have d0 : (0 : Int) ≤ ((k + 1 : Nat) : Int) := by omega
  have d1 : ((k + 1 : Nat) : Int) ≤ (s.size : Int) := by omega
  have hk3 : k < s.size := by omega
  clear h hd hlen hd1 hsz hn0
  generalize bs (123 :: u) = bt at *
  generalize bs u = bu at *
  generalize hkb : k + 1 = kb at *
  go_enter Tryz.func54, Tryz.ntmps54
  go_wp2
  go_quiet (fail)
  have hz0 : Lies ((W.alloc (.cells #[.string ⟨#[]⟩, .string ⟨#[]⟩, .int .u8 0, .slice none 0 0] 108)).drewN nq) W.heap.size 108 #[.string ⟨#[]⟩, .string ⟨#[]⟩, .int .u8 0, .slice none 0 0] := Lies.new W 108 _
  have h0 := (HR.out.belowK ((Below.refl _ W).alloc (Nat.le_refl _) (.cells #[.string ⟨#[]⟩, .string ⟨#[]⟩, .int .u8 0, .slice none 0 0] 108))).drew nq
  have r0 := ((Rnd.refl (rdS R v) W).alloc (.cells #[.string ⟨#[]⟩, .string ⟨#[]⟩, .int .u8 0, .slice none 0 0] 108)).drewR nq
  have hL : ¬ rdS R v W.heap.size := fun hh => Nat.lt_irrefl _ (HR.out.there _ hh)
  clear f0 f1
  generalize ((W.alloc (.cells #[.string ⟨#[]⟩, .string ⟨#[]⟩, .int .u8 0, .slice none 0 0] 108)).drewN nq) = W0 at *
  have hLW := hz0.lt
  rw [HX.out]
  go_wp2_with (first
    | (go_at_call 71; (first | (with_reducible refine (hN _).mono ?_) | (rw [HU.out]; with_reducible refine (hN2 _).mono ?_)); rintro x w1 ⟨rfl, hw⟩; replace hw := hw.symm; subst hw)
    | (go_at_call 52; refine (hB1 _ h0).mono ?_; rintro x w1 ⟨rfl, hdr1, r1⟩; have hz1 : Lies w1 W.heap.size 108 #[.string ⟨#[]⟩, .string ⟨#[]⟩, .int .u8 0, .slice none 0 0] := (r1.same _ hLW hL).trans hz0)
    | (refine wpList_store_row rfl 108 (.tmp 2) (.tmp 56) rfl W.heap.size #[.string ⟨#[]⟩, .string ⟨#[]⟩, .int .u8 0, .slice none 0 0] rfl rfl 108 _ hz1 pcD_info rfl (by simp [Value.oneCell']) ?_))
  refine bodyPost_ret (results_cell_row rfl _ _ W.heap.size 108 #[.string ⟨#[]⟩, .string ⟨#[]⟩, .int .u8 0, .slice none 0 0] (0, 0) _ rfl (lies_row hz1 _) Tryz.underlying108 rfl pcD_info) rfl ?_
  exact ⟨.mk [] [] 0 [], .slice none 0 0, s.size, 4, v, ns, rfl, hdr1.row hL _, hk3, by omega, patP_leaf _ _ _ _ _, (r0.trans r1).fresh (Nat.le_refl _) _, fun h => (by cases h), fun _ => ⟨Nat.le_refl _, HBad.out⟩⟩
end Go.Proofs.YtjmekcakiacdfabGreatDoor
