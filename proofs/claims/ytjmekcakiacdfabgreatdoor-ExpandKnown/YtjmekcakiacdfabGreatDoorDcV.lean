/- The document's variable, where no braces with a text are. -/
import Derived.Test.YtjmekcakiacdfabGreatDoorDcP
namespace Go.Proofs.YtjmekcakiacdfabGreatDoor
open Go Go.RowKit

/-- Blocks that were made on the way, and are the reader's no more. -/
def TAp (W w' : World) (R : Nat) (v' : Value) : Nat → Prop := fun j => W.heap.size ≤ j ∧ j < w'.heap.size ∧ ¬ rdS R v' j
/-- What a variable's reading leaves. -/
def VPost (st : List Nat) (W : World) (B R : Nat) (s : ByteArray) (e : UInt8) (k : Nat) (v : Value) (ns : List (List UInt8)) (x : Ending) (w' : World) : Prop :=
  ∃ p u k2 no2 v2 ns2, x = .returned (.agg (ptC p u).toArray) ∧ DR w' B R s e k2 no2 v2 ns2 ∧ k < k2 ∧ k2 ≤ s.size + 1 ∧ PatP w' (TAp W w' R v2) p u ∧ Rnd (rdS R v) (rdS R v2) W w' ∧
    (no2 = 0 → k2 ≤ s.size ∧ Run e st ((un s).drop k) st ((un s).drop k2) (flatP p) ∧ ns2 = metL (flatP p) ns ∧ ns2.length + k ≤ ns.length + k2) ∧ (no2 ≠ 0 → s.size ≤ k2 ∧ Bad e st ((un s).drop k) no2)
theorem lies_other {W : World} {b g i : Nat} {t : TypeId} {cur : Array Value} (h : Lies W b t cur) (hn : b ≠ g) (v : Value) : Lies (W.setCell ⟨g, i, none⟩ v) b t cur := (Below.heap_setCell W ⟨g, i, none⟩ v b hn).trans h
theorem lies_row {W : World} {b : Nat} {t : TypeId} {cur : Array Value} (h : Lies W b t cur) (cs : Array Value) : Lies (W.setRow b cs) b t cs := setRow_heap W b cur cs t (0, 0) h
theorem Rnd.fresh {S S2 : Nat → Prop} {A C : World} (h : Rnd S S2 A C) {L : Nat} (hL : A.heap.size ≤ L) (cs : Array Value) : Rnd S S2 A (C.setRow L cs) :=
  ⟨h.os, h.tape, h.output, by simpa [World.setRow] using h.size, fun k hk hn => (setRow_other C L k cs (by omega)).trans (h.same k hk hn), fun k hk => by simpa [World.setRow] using h.more k hk⟩
theorem DR.row {W : World} {B R : Nat} {s : ByteArray} {e : UInt8} {k no : Nat} {v : Value} {ns : List (List UInt8)} (h : DR W B R s e k no v ns) {L : Nat} (hL : ¬ rdS R v L) (cs : Array Value) : DR (W.setRow L cs) B R s e k no v ns :=
  h.keep (fun j hj => setRow_other W L j cs (fun e => hL (e ▸ hj)))
theorem patP_leaf (W : World) (T : Nat → Prop) (t n : List UInt8) (o : UInt8) (ht : t.length ≤ 1099511627776 := by simp) : PatP W T (.mk t n o []) (.slice none 0 0) := by
  rw [PatP]
  exact ⟨ht, fun j hj => (by cases hj), [], rfl, ⟨by simp [ptsC], .inl ⟨rfl, rfl⟩⟩, by rw [PatL]⟩
theorem nmL_ne {t : List UInt8} (h : nmL t ≠ 0) : t.take (nmL t) ≠ [] := by
  intro h2
  have h3 := congrArg List.length h2
  rw [List.length_take, Nat.min_eq_left (nmL_le t)] at h3
  exact h h3
theorem metN_len (n : List UInt8) (ns : List (List UInt8)) : (metN n ns).length ≤ ns.length + 1 := by
  unfold metN
  split <;> simp
theorem metL_var {n : List UInt8} (h : n ≠ []) (ns : List (List UInt8)) : metL [.var n] ns = metN n ns := by
  simp only [metL, metN, askP, h, false_or]
set_option maxHeartbeats 4000000 in
set_option maxRecDepth 100000 in
/-- A name behind the dollar. -/
theorem var_name (st : List Nat) (W : World) (B R : Nat) (s : ByteArray) (e : UInt8) (k : Nat) (v : Value) (ns : List (List UInt8)) (h : DR W B R s e k 0 v ns) (he : (36 : UInt8) ≠ e) (t : List UInt8) (hd : (un s).drop k = 36 :: t) (hn0 : nmL t ≠ 0) (hB : B ≤ W.heap.size) (hnl : ns.length ≤ 1099511627776) (hs : s.size ≤ 1099511627776) : Calls Tryz.prog 54 #[.pointer (some ⟨R, 0, none⟩)] W fun x w' => VPost st W B R s e k v ns x w' := by
  have hsl := un_length s
  have hlen := congrArg List.length hd
  rw [List.length_drop, List.length_cons, hsl] at hlen
  have hnle := nmL_le t
  have hd1 : (un s).drop (k + 1) = t := by rw [← List.drop_drop, hd]; rfl
  have HX : Hid (s.extract (k + 1) s.size = bs t) := by unfold Hid; rw [ext_tail, hd1]
  have HX2 : Hid ((bs t).extract 0 (nmL t) = bs (t.take (nmL t))) := by unfold Hid; rw [ext_bs, un_bs]; rfl
  have hN := fun W => name_r (bs t) (by rw [size_bs]; omega) W
  rw [un_bs] at hN
  have hsz : (bs t).size = t.length := size_bs t
  have hRun := run_var (e := e) (st := st) he hn0
  have hdk : (un s).drop (k + 1 + nmL t) = t.drop (nmL t) := by rw [← List.drop_drop, hd1]
  have HRun : Hid (Run e st ((un s).drop k) st ((un s).drop (k + 1 + nmL t)) [.var (t.take (nmL t))]) := by unfold Hid; rw [hd, hdk]; exact hRun
  have hML := metL_var (nmL_ne hn0) ns
  have HML : Hid (flatP (.mk [] (t.take (nmL t)) 0 []) = [.var (t.take (nmL t))]) := by
    unfold Hid; rw [flatP, if_neg (nmL_ne hn0), if_neg (by decide), if_neg (by decide)]
  have hMt := fun W2 (hdr : DR W2 B R s e k 0 v ns) (hb : B ≤ W2.heap.size) => met_r (bs (t.take (nmL t))) W2 B R s e k 0 v ns hdr hb hnl
  rw [un_bs] at hMt
  have f0 := h.lies.cell (i := 0) rfl
  have f1 := h.lies.cell (i := 1) rfl
  have hRW := h.lies.lt
  have HR : Hid (DR W B R s e k 0 v ns) := h
  have w1 : IntKind.i64.wrap ((k : Int) + 1) = ((k + 1 : Nat) : Int) := by rw [wrap_small _ (by omega) (by omega)]; omega
  have w2 : IntKind.i64.wrap (((k + 1 : Nat) : Int) + (nmL t : Int)) = ((k + 1 + nmL t : Nat) : Int) := by rw [wrap_small _ (by omega) (by omega)]; omega
  have d0 : (0 : Int) ≤ ((k + 1 : Nat) : Int) := by omega
  have d1 : ((k + 1 : Nat) : Int) ≤ (s.size : Int) := by omega
  have d2 : (0 : Int) < (nmL t : Int) := by omega
  have d3 : (nmL t : Int) ≤ ((bs t).size : Int) := by omega
  have hk2 : k + 1 + nmL t ≤ s.size := by omega
  have hk3 : k < k + 1 + nmL t := by omega
  clear h hd hlen hnle hd1 hsz hRun hdk hn0
  generalize nmL t = n at *
  generalize bs t = bt at *
  generalize List.take n t = nm at *
  generalize hnm2 : bs nm = nm2 at *
  generalize hkb : k + 1 = kb at *
  generalize hkc : kb + n = kc at *
  go_enter Tryz.func54, Tryz.ntmps54
  go_wp2
  go_quiet (fail)
  have hz0 : Lies ((W.alloc (.cells #[.string ⟨#[]⟩, .string ⟨#[]⟩, .int .u8 0, .slice none 0 0] 108)).drewN nq) W.heap.size 108 #[.string ⟨#[]⟩, .string ⟨#[]⟩, .int .u8 0, .slice none 0 0] := Lies.new W 108 _
  have h0 := (HR.out.belowK ((Below.refl _ W).alloc (Nat.le_refl _) (.cells #[.string ⟨#[]⟩, .string ⟨#[]⟩, .int .u8 0, .slice none 0 0] 108))).drew nq
  have r0 := ((Rnd.refl (rdS R v) W).alloc (.cells #[.string ⟨#[]⟩, .string ⟨#[]⟩, .int .u8 0, .slice none 0 0] 108)).drewR nq
  have hL : ¬ rdS R v W.heap.size := fun hh => Nat.lt_irrefl _ (HR.out.there _ hh)
  clear f0 f1
  generalize ((W.alloc (.cells #[.string ⟨#[]⟩, .string ⟨#[]⟩, .int .u8 0, .slice none 0 0] 108)).drewN nq) = W0 at *
  have hB0 : B ≤ W0.heap.size := Nat.le_trans hB r0.size
  have hLW := hz0.lt
  rw [HX.out]
  go_wp2_with (first
    | (go_at_call 71; refine (hN _).mono ?_; rintro x w1 ⟨rfl, hw⟩; replace hw := hw.symm; subst hw)
    | (go_at_call 72; rw [HX2.out]; refine (hMt _ h0 hB0).mono ?_; rintro x w1 ⟨rfl, v1, hdr1, r1⟩; have g1 := hdr1.lies.cell (i := 1) rfl; have gr := hdr1.lies.frozen 1; have hz1 : Lies w1 W.heap.size 108 #[.string ⟨#[]⟩, .string ⟨#[]⟩, .int .u8 0, .slice none 0 0] := (r1.same _ hLW hL).trans hz0; have hz2 := lies_other hz1 (i := 1) (g := R) (by omega) (.int .i64 (kc : Int)))
    | (refine wpList_store_row rfl 108 (.tmp 2) (.tmp 38) rfl W.heap.size #[.string ⟨#[]⟩, .string (bt.extract 0 n), .int .u8 0, .slice none 0 0] rfl rfl 108 _ hz2 pcD_info rfl (by simp [Value.oneCell']) ?_))
  rw [HX2.out]
  refine bodyPost_ret (results_cell_row rfl _ _ W.heap.size 108 #[.string ⟨#[]⟩, .string nm2, .int .u8 0, .slice none 0 0] (0, 0) _ rfl (lies_row hz2 _) Tryz.underlying108 rfl pcD_info) rfl ?_
  have hL1 : ¬ rdS R v1 W.heap.size := fun hh => by
    rcases r1.more _ hh with h9 | h9
    · exact hL h9
    · omega
  refine ⟨.mk [] nm 0 [], .slice none 0 0, kc, 0, v1, metN nm ns, by rw [← hnm2]; rfl, (hdr1.move kc).row hL1 _, hk3, by omega, patP_leaf _ _ _ _ _, ((r0.trans r1).set (b := R) (i := 1) (.inl rfl) _).fresh (Nat.le_refl _) _, fun _ => ⟨hk2, ?_, ?_⟩, fun h => (h rfl).elim⟩
  · rw [HML.out]; exact HRun.out
  · rw [HML.out]; exact ⟨hML.symm, by have := metN_len nm ns; omega⟩
end Go.Proofs.YtjmekcakiacdfabGreatDoor
