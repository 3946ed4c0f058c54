/- Package digest's takeBlock: a block is taken into the sums. -/
import Derived.Test.YtodgcmhkojkpcaaGreatDoorSpread
import Derived.Lib.LaidTab
import Derived.Deep.Quiet
namespace Go.Proofs.YtodgcmhkojkpcaaGreatDoor
open Go Go.RowKit

/-- A hash's cells. -/
def hcells (wd len : Int) (sums : List Int) (bl : List UInt8) : Array Value := (.int .i64 wd :: .int .u64 len :: (sums.map (Value.int .u32) ++ bl.map fun b => Value.int .u8 b.toNat)).toArray
theorem hcells_size (wd len : Int) (sums : List Int) (bl : List UInt8) (h8 : sums.length = 8) (hb : bl.length = 64) : (hcells wd len sums bl).size = 74 := by simp [hcells, h8, hb]
theorem hcells_sum (wd len : Int) (sums : List Int) (bl : List UInt8) (h8 : sums.length = 8) (i : Nat) (hi : i < 8) : (hcells wd len sums bl)[2 + i]? = some (.int .u32 (sums.getD i 0)) := by
  have e : 2 + i = i + 1 + 1 := by omega
  simp [hcells, e, List.getElem?_append_left, h8, hi]
theorem hcells_byte (wd len : Int) (sums : List Int) (bl : List UInt8) (h8 : sums.length = 8) (i : Nat) (hi : i < bl.length) : (hcells wd len sums bl)[10 + i]? = some (.int .u8 bl[i].toNat) := by
  have e : 10 + i = (8 + i) + 1 + 1 := by omega
  simp [hcells, e, h8, hi]
/-- The round's numbers stand as they are laid. -/
def kTab : List Int := [1116352408, 1899447441, 3049323471, 3921009573, 961987163, 1508970993, 2453635748, 2870763221, 3624381080, 310598401, 607225278, 1426881987, 1925078388, 2162078206, 2614888103, 3248222580, 3835390401, 4022224774, 264347078, 604807628, 770255983, 1249150122, 1555081692, 1996064986, 2554220882, 2821834349, 2952996808, 3210313671, 3336571891, 3584528711, 113926993, 338241895, 666307205, 773529912, 1294757372, 1396182291, 1695183700, 1986661051, 2177026350, 2456956037, 2730485921, 2820302411, 3259730800, 3345764771, 3516065817, 3600352804, 4094571909, 275423344, 430227734, 506948616, 659060556, 883997877, 958139571, 1322822218, 1537002063, 1747873779, 1955562222, 2024104815, 2227730452, 2361852424, 2428436474, 2756734187, 3204031479, 3329325298]
abbrev KTab (w : World) : Prop := Lib.TabIs Tryz.prog w "strata/digest.roundNumbers" .u32 kTab
theorem l_k : Tryz.prog.globalNamed "strata/digest.roundNumbers" = some 1 := by kernel_rfl

theorem var_lt {P : Program} {w : World} {n : String} {g : Nat} {cs : Array Value} (hg : P.globalNamed n = some g) (h : w.var? P n = some cs) : g < w.heap.size := by
  rcases Nat.lt_or_ge g w.heap.size with h1 | h1
  · exact h1
  · simp [World.var?, hg, Array.getElem?_eq_none h1] at h
/-- The eight numbers in hand. -/
structure St where
  (a b c d e f g h : Int)

def notI (x : Int) : Int := bits .xor .u32 (if IntKind.u32.signed = true then -1 else IntKind.u32.max) x
def T1 (h e f g kk ww : Int) : Int := (h + S1 e + bits .xor .u32 (bits .and .u32 e f) (bits .and .u32 (notI e) g) + kk + ww) % 4294967296
def T2 (a b c : Int) : Int := (S0 a + bits .xor .u32 (bits .xor .u32 (bits .and .u32 a b) (bits .and .u32 a c)) (bits .and .u32 b c)) % 4294967296
/-- One round. -/
def rnd (kk ww : Int) (s : St) : St := ⟨(T1 s.h s.e s.f s.g kk ww + T2 s.a s.b s.c) % 4294967296, s.a, s.b, s.c, (s.d + T1 s.h s.e s.f s.g kk ww) % 4294967296, s.e, s.f, s.g⟩
/-- The first k rounds. -/
def rnds (ws : List Int) (s : St) : Nat → St
  | 0 => s
  | k + 1 => rnd (kTab.getD k 0) (ws.getD k 0) (rnds ws s k)
def stL (s : St) : List Int := [s.a, s.b, s.c, s.d, s.e, s.f, s.g, s.h]
def addI (x y : Int) : Int := (x + y) % 4294967296
/-- The first k of the sums are added to. -/
def addK (xs ys : List Int) (k : Nat) : List Int := List.zipWith addI (xs.take k) (ys.take k) ++ xs.drop k
theorem addK_length (xs ys : List Int) (k : Nat) (hx : xs.length = 8) (hy : ys.length = 8) : (addK xs ys k).length = 8 := by simp [addK, hx, hy]; omega
theorem addK_get (xs ys : List Int) (k : Nat) (hx : xs.length = 8) (hy : ys.length = 8) (hk : k < 8) : (addK xs ys k).getD k 0 = xs.getD k 0 := by
  unfold addK
  rw [List.getD_eq_getElem?_getD, List.getD_eq_getElem?_getD, List.getElem?_append_right (by simp [hx, hy]; omega)]
  simp [hx, hy, Nat.min_eq_left (Nat.le_of_lt hk)]
theorem addK_set (xs ys : List Int) (k : Nat) (hx : xs.length = 8) (hy : ys.length = 8) (hk : k < 8) : (addK xs ys k).set k (addI (xs.getD k 0) (ys.getD k 0)) = addK xs ys (k + 1) := by
  have hxk : k < xs.length := by omega
  have hyk : k < ys.length := by omega
  have e1 : (List.zipWith addI (xs.take k) (ys.take k)).length = k := by simp [hx, hy]; omega
  unfold addK
  rw [List.set_append_right _ _ (by rw [e1]; exact Nat.le_refl _), e1, Nat.sub_self, List.drop_eq_getElem_cons hxk, List.set_cons_zero, List.take_add_one, List.take_add_one, List.getElem?_eq_getElem hxk, List.getElem?_eq_getElem hyk, List.zipWith_append (by simp [hx, hy])]
  simp [List.getD_eq_getElem?_getD, hxk, hyk]
/-- The sums behind a block. -/
def compress (xs : List Int) (bl : List UInt8) : List Int :=
  List.zipWith addI xs (stL (rnds (sched bl 64) ⟨xs.getD 0 0, xs.getD 1 0, xs.getD 2 0, xs.getD 3 0, xs.getD 4 0, xs.getD 5 0, xs.getD 6 0, xs.getD 7 0⟩ 64))
theorem compress_length (xs : List Int) (bl : List UInt8) (hx : xs.length = 8) : (compress xs bl).length = 8 := by simp [compress, stL, hx]
theorem addK_all (xs ys : List Int) (hx : xs.length = 8) (hy : ys.length = 8) : addK xs ys 8 = List.zipWith addI xs ys := by
  unfold addK
  rw [List.take_of_length_le (by omega), List.take_of_length_le (by omega), List.drop_of_length_le (by omega), List.append_nil]
theorem hcells_setSum (wd len : Int) (sums : List Int) (bl : List UInt8) (k : Nat) (v : Int) (hk : k < sums.length) : (hcells wd len sums bl).setIfInBounds (2 + k) (.int .u32 v) = hcells wd len (sums.set k v) bl := by
  unfold hcells
  rw [List.setIfInBounds_toArray, show 2 + k = k + 1 + 1 by omega, List.set_cons_succ, List.set_cons_succ, List.set_append_left _ _ (by simpa using hk), List.map_set]
theorem list8 {xs : List Int} (h : xs.length = 8) : xs = [xs.getD 0 0, xs.getD 1 0, xs.getD 2 0, xs.getD 3 0, xs.getD 4 0, xs.getD 5 0, xs.getD 6 0, xs.getD 7 0] := by
  match xs, h with
  | [a, b, c, d, e, f, g, i], _ => rfl

/-- Of what was there block b alone has turned. -/
abbrev Turned (b : Nat) (w w' : World) : Prop := w.grownBy w' (some b)
theorem Turned.refl (b : Nat) (w : World) : Turned b w w := ⟨rfl, rfl, rfl, Nat.le_refl _, fun _ _ _ => rfl⟩
theorem Turned.trans {b : Nat} {u v w : World} (h : Turned b u v) (k : Turned b v w) : Turned b u w :=
  ⟨k.os.trans h.os, k.tape.trans h.tape, k.output.trans h.output, Nat.le_trans h.size k.size, fun i hi hn => (k.block i (Nat.lt_of_lt_of_le hi h.size) hn).trans (h.block i hi hn)⟩
theorem Turned.of {b : Nat} {w w' : World} (h : Below w.heap.size w w') : Turned b w w' := ⟨h.os, h.tape, h.output, h.size, fun i hi _ => h.block i hi⟩
theorem Turned.set (b : Nat) (w : World) (i : Nat) (v : Value) : Turned b w (w.setCell ⟨b, i, none⟩ v) :=
  ⟨rfl, rfl, rfl, by simp [World.setCell], fun j _ hn => by
    show (w.heap.modify b _)[j]? = _
    rw [Array.getElem?_modify, if_neg (fun e => hn (by rw [e]))]⟩
theorem Turned.drew (b : Nat) (w : World) (n : Nat) : Turned b w (w.drewN n) := ⟨rfl, rfl, rfl, Nat.le_refl _, fun _ _ _ => rfl⟩
theorem Lies.turned {b B : Nat} {w w' : World} {t : TypeId} {c : Array Value} (h : Lies w B t c) (k : Turned b w w') (hne : B ≠ b) : Lies w' B t c := (k.block B h.lt (fun e => hne (Option.some.inj e))).trans h

set_option maxRecDepth 100000 in
set_option maxHeartbeats 4000000 in
theorem take_p8 (wd len x0 x1 x2 x3 x4 x5 x6 x7 : Int) (bl : List UInt8) (hbl : bl.length = 64) (b : Nat) (w : World) (hL : Lies w b 84 (hcells wd len [x0, x1, x2, x3, x4, x5, x6, x7] bl)) (hk : KTab w) :
    Calls Tryz.prog 50 #[.pointer (some ⟨b, 0, none⟩)] w fun e w' => e = .returned (.tuple #[]) ∧ Lies w' b 84 (hcells wd len (compress [x0, x1, x2, x3, x4, x5, x6, x7] bl) bl) ∧ Turned b w w' := by
  have hz := (zero_of_info (P := Tryz.prog) info_words).1
  have hi : (Tryz.prog.info? 110).map (·.size) = some (u32s (sched bl 64)).size := by rw [u32s_size, sched_length]; kernel_rfl
  go_enter Tryz.func50, Tryz.ntmps50
  go_wp2_with fail
  refine (spread_p bl hbl b 10 w (fun i h => hL.cell (hcells_byte wd len _ bl rfl i h))).mono ?_
  rintro e w1 ⟨rfl, b1⟩
  have hL1 : Lies ((w1.alloc (.cells (u32s zero64) 110)).setRow w1.heap.size (u32s (sched bl 64))) b 84 (hcells wd len [x0, x1, x2, x3, x4, x5, x6, x7] bl) := ((hL.below b1).alloc _).otherRow _ (by have := (hL.below b1).lt; omega)
  have hW1 : Lies ((w1.alloc (.cells (u32s zero64) 110)).setRow w1.heap.size (u32s (sched bl 64))) w1.heap.size 110 (u32s (sched bl 64)) := (Lies.new w1 _ _).row _
  have hB1 : Below w.heap.size w ((w1.alloc (.cells (u32s zero64) 110)).setRow w1.heap.size (u32s (sched bl 64))) := below_setRow (b1.alloc b1.size _) b1.size _
  go_wp2_with (refine wpList_store_row rfl 110 (.tmp 2) (.tmp 19) rfl w1.heap.size (u32s (sched bl 64)) rfl rfl 110 (u32s zero64) (Lies.new w1 _ _) hi (by rw [u32s_size, u32s_size, sched_length]; rfl) (u32s_one _) ?_)
  generalize hWW : (w1.alloc (.cells (u32s zero64) 110)).setRow w1.heap.size (u32s (sched bl 64)) = W at *
  clear hWW
  have c0 : W.cell? ⟨b, 2, none⟩ = some (.int .u32 x0) := hL1.cell rfl
  have c1 : W.cell? ⟨b, 3, none⟩ = some (.int .u32 x1) := hL1.cell rfl
  have c2 : W.cell? ⟨b, 4, none⟩ = some (.int .u32 x2) := hL1.cell rfl
  have c3 : W.cell? ⟨b, 5, none⟩ = some (.int .u32 x3) := hL1.cell rfl
  have c4 : W.cell? ⟨b, 6, none⟩ = some (.int .u32 x4) := hL1.cell rfl
  have c5 : W.cell? ⟨b, 7, none⟩ = some (.int .u32 x5) := hL1.cell rfl
  have c6 : W.cell? ⟨b, 8, none⟩ = some (.int .u32 x6) := hL1.cell rfl
  have c7 : W.cell? ⟨b, 9, none⟩ = some (.int .u32 x7) := hL1.cell rfl
  go_quiet (fail)
  go_wp2
  go_quiet (fail)
  go_wp2
  clear c0 c1 c2 c3 c4 c5 c6 c7
  have hkW : ∀ i, i < 64 → W.cell? ⟨1, i, none⟩ = some (.int .u32 (kTab.getD i 0)) := fun i h => by
    have hlt := var_lt l_k hk
    rw [hB1.cell (p := ⟨1, i, none⟩) hlt]
    exact Lib.TabIs.cell hk l_k i h
  have hkB : 1 < W.heap.size := Nat.lt_of_lt_of_le (var_lt l_k hk) hB1.size
  go_loopw [3, 4, 5, 6, 7, 8, 9, 10, 60] (fun va vb vc vd ve vf vg vh n wr => ∃ (k : Nat) (a b' c d e f g h : Int), k ≤ 64 ∧ rnds (sched bl 64) ⟨x0, x1, x2, x3, x4, x5, x6, x7⟩ k = ⟨a, b', c, d, e, f, g, h⟩ ∧ n = .int .i64 k ∧ va = .int .u32 a ∧ vb = .int .u32 b' ∧ vc = .int .u32 c ∧ vd = .int .u32 d ∧ ve = .int .u32 e ∧ vf = .int .u32 f ∧ vg = .int .u32 g ∧ vh = .int .u32 h ∧ Below W.heap.size W wr) (fun _ _ _ _ _ _ _ _ n _ => 64 - (intOf n).toNat)
  case atStart => exact ⟨0, x0, x1, x2, x3, x4, x5, x6, x7, by omega, rfl, rfl, rfl, rfl, rfl, rfl, rfl, rfl, rfl, rfl, below_drawn (below_drawn (Below.refl _ W) _) _⟩
  case round =>
    obtain ⟨k, a, b', c, d, e, f, g, h, hk6, hst, rfl, rfl, rfl, rfl, rfl, rfl, rfl, rfl, rfl, hBr⟩ := hrel
    by_cases hlt : k < 64
    · have ck := (hBr.cell (p := ⟨1, k, none⟩) hkB).trans (hkW k hlt)
      have cw := (hW1.below hBr).cell (u32s_get (sched bl 64) k (by rw [sched_length]; exact hlt))
      have HN : Hid (rnds (sched bl 64) ⟨x0, x1, x2, x3, x4, x5, x6, x7⟩ (k + 1) = rnd (kTab.getD k 0) ((sched bl 64).getD k 0) ⟨a, b', c, d, e, f, g, h⟩) := by unfold Hid; rw [rnds, hst]
      generalize kTab.getD k 0 = kk at *
      generalize (sched bl 64).getD k 0 = ww at *
      have d1 : (0 : Int) ≤ (k : Int) := by omega
      have d2 : (k : Int) < 64 := by omega
      clear hst
      go_wp2_with fail
      go_quiet (first | (go_at_call 68; refine Calls.quiet_of_same (turnLow_p e _)))
      go_wp2_with (go_at_call 69; refine (turnHigh_p a _).mono ?_; rintro e1 w2 ⟨rfl, rfl⟩)
      exact ⟨⟨k + 1, _, _, _, _, _, _, _, _, by omega, HN.out, by go_num, rfl, rfl, rfl, rfl, rfl, rfl, rfl, rfl, below_drawn hBr _⟩, by simp [intOf]; omega⟩
    · obtain rfl : k = 64 := by omega
      have HC : Hid (compress [x0, x1, x2, x3, x4, x5, x6, x7] bl = addK [x0, x1, x2, x3, x4, x5, x6, x7] [a, b', c, d, e, f, g, h] 8) := by
        unfold Hid; rw [addK_all _ _ rfl rfl]; unfold compress
        have e1 : ([x0, x1, x2, x3, x4, x5, x6, x7].getD 0 0) = x0 := rfl
        show List.zipWith addI _ (stL (rnds (sched bl 64) ⟨x0, x1, x2, x3, x4, x5, x6, x7⟩ 64)) = _
        rw [hst]; rfl
      have hLr := hL1.below hBr
      clear hst
      go_wp2
      have hTW : Turned b w wr := Turned.of (hB1.trans (hBr.mono hB1.size))
      go_loopw [120] (fun n wq => ∃ k : Nat, k ≤ 8 ∧ n = .int .i64 k ∧ Lies wq b 84 (hcells wd len (addK [x0, x1, x2, x3, x4, x5, x6, x7] [a, b', c, d, e, f, g, h] k) bl) ∧ Turned b w wq) (fun n _ => 8 - (intOf n).toNat)
      case atStart => exact ⟨0, by omega, rfl, hLr, hTW⟩
      case round =>
        obtain ⟨k, hk8, rfl, hLq, hTq⟩ := hrel
        by_cases hlt : k < 8
        · have hal := addK_length [x0, x1, x2, x3, x4, x5, x6, x7] [a, b', c, d, e, f, g, h] k rfl rfl
          have cs := hLq.cell (hcells_sum wd len _ bl hal k hlt)
          rw [addK_get _ _ k rfl rfl hlt] at cs
          have cf := hLq.frozen (2 + k)
          have ci : (Instr.index 80 (.agg #[.int .u32 a, .int .u32 b', .int .u32 c, .int .u32 d, .int .u32 e, .int .u32 f, .int .u32 g, .int .u32 h]) (.int .i64 k)).run Tryz.prog wr = .ok (.int .u32 ([a, b', c, d, e, f, g, h].getD k 0)) wr := run_index_arr k Tryz.underlying80 (Tryz.sizeOf79 _) (Tryz.isAgg79 _) hlt (u32s_get [a, b', c, d, e, f, g, h] k hlt)
          have HL : Hid (Lies (wr.setCell ⟨b, 2 + k, none⟩ (.int .u32 (addI ([x0, x1, x2, x3, x4, x5, x6, x7].getD k 0) ([a, b', c, d, e, f, g, h].getD k 0)))) b 84 (hcells wd len (addK [x0, x1, x2, x3, x4, x5, x6, x7] [a, b', c, d, e, f, g, h] (k + 1)) bl)) := by
            have h1 := hLq.set (i := 2 + k) (.int .u32 (addI ([x0, x1, x2, x3, x4, x5, x6, x7].getD k 0) ([a, b', c, d, e, f, g, h].getD k 0)))
            rw [hcells_setSum _ _ _ _ _ _ (by rw [hal]; exact hlt), addK_set _ _ k rfl rfl hlt] at h1
            exact h1
          generalize [x0, x1, x2, x3, x4, x5, x6, x7].getD k 0 = xk at *
          generalize [a, b', c, d, e, f, g, h].getD k 0 = yk at *
          have d1 : (0 : Int) ≤ (k : Int) := by omega
          have d2 : (k : Int) < 8 := by omega
          go_wp2
          go_region
          go_wp2
          exact ⟨⟨k + 1, by omega, by go_num, HL.out.drew 1, (hTq.trans (Turned.set b _ _ _)).trans (Turned.drew b _ 1)⟩, by simp [intOf]; omega⟩
        · obtain rfl : k = 8 := by omega
          rw [← HC.out] at hLq
          go_wp2
          go_end0
          exact ⟨rfl, hLq, hTq⟩

theorem take_p (wd len : Int) (xs : List Int) (h8 : xs.length = 8) (bl : List UInt8) (hbl : bl.length = 64) (b : Nat) (w : World) (hL : Lies w b 84 (hcells wd len xs bl)) (hk : KTab w) :
    Calls Tryz.prog 50 #[.pointer (some ⟨b, 0, none⟩)] w fun e w' => e = .returned (.tuple #[]) ∧ Lies w' b 84 (hcells wd len (compress xs bl) bl) ∧ Turned b w w' := by
  rw [list8 h8] at hL ⊢
  exact take_p8 wd len _ _ _ _ _ _ _ _ bl hbl b w hL hk
theorem KTab.turned {b : Nat} {w w' : World} (h : KTab w) (k : Turned b w w') (hb : 1 ≠ b) : KTab w' := by
  have h2 : w.var? Tryz.prog "strata/digest.roundNumbers" = some (kTab.map fun z => Value.int .u32 z).toArray := h
  have hlt := var_lt l_k h2
  have hb2 := k.block _ hlt (fun e => hb (Option.some.inj e))
  show w'.var? Tryz.prog "strata/digest.roundNumbers" = _
  rw [← h2]
  simp [World.var?, l_k, hb2]
end Go.Proofs.YtodgcmhkojkpcaaGreatDoor
