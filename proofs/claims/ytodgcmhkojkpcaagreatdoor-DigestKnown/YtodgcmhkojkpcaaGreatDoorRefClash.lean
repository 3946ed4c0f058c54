/- The document's Clash. -/
import Derived.Test.YtodgcmhkojkpcaaGreatDoorClashP
import Derived.Test.YtodgcmhkojkpcaaGreatDoorRefSum3
import Derived.Deep.MidRow
import Derived.Deep.RegionHeld3
import Derived.Great.BuildSlice
namespace Go.Proofs.YtodgcmhkojkpcaaGreatDoor
open Go Go.RowKit

/-- The cells of the digests of texts, one behind the other. -/
def flatD (f : ByteArray → List UInt8) : List ByteArray → List Value
  | [] => []
  | x :: l => Lib.byteCells (f x) ++ flatD f l
theorem flatD_append (f : ByteArray → List UInt8) : ∀ a b : List ByteArray, flatD f (a ++ b) = flatD f a ++ flatD f b
  | [], b => rfl
  | x :: a, b => by
    show Lib.byteCells (f x) ++ flatD f (a ++ b) = Lib.byteCells (f x) ++ flatD f a ++ flatD f b
    rw [flatD_append f a b, List.append_assoc]
theorem flatD_length {f : ByteArray → List UInt8} (hf : ∀ x, (f x).length = 32) : ∀ l : List ByteArray, (flatD f l).length = l.length * 32
  | [] => rfl
  | x :: l => by unfold flatD; rw [List.length_append, Lib.byteCells_length, hf, flatD_length hf l]; simp; omega
theorem flatD_get {f : ByteArray → List UInt8} (hf : ∀ x, (f x).length = 32) : ∀ {l : List ByteArray} {i : Nat} {x : ByteArray} (t : Nat) (v : Value), l[i]? = some x → (Lib.byteCells (f x))[t]? = some v → (flatD f l)[i * 32 + t]? = some v
  | [], _, _, _, _, h, _ => by simp at h
  | y :: l, 0, x, t, v, h, ht => by
    simp at h; subst h
    have hl := (List.getElem?_eq_some_iff.1 ht).1
    unfold flatD
    rw [Nat.zero_mul, Nat.zero_add, List.getElem?_append_left hl]; exact ht
  | y :: l, i + 1, x, t, v, h, ht => by
    unfold flatD
    have e : (i + 1) * 32 + t = (Lib.byteCells (f y)).length + (i * 32 + t) := by rw [Lib.byteCells_length, hf]; omega
    rw [e, List.getElem?_append_right (by omega), Nat.add_sub_cancel_left]
    exact flatD_get hf t v (by simpa using h) ht
theorem info_digestAll : (Tryz.prog.info? 25).map (fun i => (i.zero, i.size, i.bytes)) = some (some (.agg (dig32 zeros)), 32, 32) := by kernel_rfl

theorem rng_belowC {w w' : World} {b o : Nat} {cs : List Value} (h : w.rangeAt b o cs) (hb : Below w.heap.size w w') (hlt : b < w.heap.size) : w'.rangeAt b o cs := by
  intro j v hv
  exact (World.cell?_of_block (hb.block b hlt)).trans (h j v hv)
theorem own_belowD {W W2 : World} {base e size n : Nat} {v : Value} {xs : List Value} (h : W.ownsRow base e size v n xs) (hb : Below W.heap.size W W2) : W2.ownsRow base e size v n xs := by
  refine ⟨h.1, ?_⟩
  rcases h.2 with hn | ⟨g, cap, cur, rfl, hg, hgg, rest⟩
  · exact .inl hn
  · exact .inr ⟨g, cap, cur, rfl, hg, (hb.block g (Array.getElem?_eq_some_iff.1 hgg).1).trans hgg, rest⟩
theorem wpList_buildOne {P : Program} {ops : Array Oper} {rest : List Oper} {o : Oper} {a : Act} {w : World} {Q : Exit → Act → World → Prop} (hg : o.guard = none) (t e : TypeId) (x : Operand) (ho : o.op = .buildSlice t 1 #[(0, x)])
    (v : Value) (hx : a.eval x = v) (cells : Array Value) (ie : TypeInfo) (z : Value) (hu : P.underlying t = some (.slice e)) (hie : P.info? e = some ie) (hz : ie.zero = some z) (his : ie.size = 32)
    (hfill : Instr.fill (fun i => some (i * ie.size, ie.size)) ((Array.range (1 * ie.size)).map (z.cells[· % z.cells.size]!)) [(0, v)] = some cells)
    (h : wpList P ops Q rest (a.put o.dst (.slice (some ⟨w.heap.size, 0, none⟩) 1 1)) (w.alloc (.cells cells e))) : wpList P ops Q (o :: rest) a w :=
  wpList_buildSlice hg t e 1 #[(0, x)] ho cells ie z hu hie hz (by rw [his]; decide) (by rw [his]; decide) (by
    have e1 : (#[(0, x)].map fun (y : Nat × Operand) => match y with | (i, x) => (i, a.eval x)).toList = [(0, v)] := by simp [hx]
    rw [e1]; exact hfill) h
theorem own_ltD {W : World} {base e size n g c : Nat} {xs : List Value} (h : W.ownsRow base e size (.slice (some ⟨g, 0, none⟩) n c) n xs) : g < W.heap.size := by
  rcases h.2 with ⟨e, _⟩ | ⟨g', cap, cur, e, hg, hgg, _⟩
  · cases e
  · cases e; exact (Array.getElem?_eq_some_iff.1 hgg).1
theorem own_geD {W : World} {base e size n : Nat} {v : Value} {xs : List Value} (h : W.ownsRow base e size v n xs) : ∀ k, v.ownBlock = some k → base ≤ k := by
  rcases h.2 with ⟨rfl, _⟩ | ⟨g, cap, cur, rfl, hg, _⟩
  · intro k e; cases e
  · intro k e; cases e; exact hg
theorem own_sliceN {W : World} {base e size n : Nat} {v : Value} {xs : List Value} (h : W.ownsRow base e size v n xs) : ∃ o c, v = .slice o n c := by
  rcases h.2 with ⟨rfl, h0⟩ | ⟨g, cap, cur, rfl, _⟩
  · exact ⟨_, _, by rw [h0]⟩
  · exact ⟨_, _, rfl⟩
theorem cells_new (W : World) (cur : Array Value) (t : TypeId) : ∀ (j : Nat) u, cur.toList[j]? = some u → (W.alloc (.cells cur t)).cell? ((⟨W.heap.size, 0, none⟩ : Addr).add j) = some u := by
  intro j u h
  have hadd : (⟨W.heap.size, 0, none⟩ : Addr).add j = ⟨W.heap.size, j, none⟩ := by unfold Addr.add; split <;> simp_all
  rw [hadd]; exact (Lies.new W t cur).cell (by simpa using h)
theorem fill_dig (d : List UInt8) (h : d.length = 32) (cells : Array Value) (hc : cells.size = 32) : Instr.fill (fun i => some (i * 32, 32)) cells [(0, .agg (dig32 d))] = some (dig32 d) := by
  have h2 := Great.fill_whole (s := 32) (by decide) [.agg (dig32 d)] cells (fun v hv => by simp at hv; subst hv; simp [Value.cells, dig32_size, h]) (by simp [hc])
  simpa [Value.cells] using h2

set_option maxRecDepth 100000 in
set_option maxHeartbeats 8000000 in
theorem clash_r (n : Int) (l : List ByteArray) (v : Value) (w : World) (hr : RTab w) (hbt : BTab w) (h : TextsAt w v l) (hz : wt l ≤ 1048576) :
    Calls Tryz.prog 46 #[.int .i64 n, v] w (ClashPost n l w) := by
  have hln := length_wt l
  obtain ⟨o, cap, rfl, hnil, hcell⟩ := h
  have HF : Hid (∀ x : ByteArray, (sumB (widthN n) (un x)).length = 32) := fun x => sumB_length _ _ (widthN_le n)
  obtain ⟨i0, hi0, hz0, hz1, hz2⟩ := info_parts info_digestAll
  go_enter Tryz.func46, Tryz.ntmps46
  go_wp2
  go_loopw [7, 8] (fun sv s wr => ∃ j : Nat, s = .int .i64 j ∧ j ≤ l.length ∧ wr.ownsRow w.heap.size 25 32 sv j (flatD (fun x => sumB (widthN n) (un x)) (l.take j)) ∧ calm (fun x => sumB (widthN n) (un x)) l j ∧ Below w.heap.size w wr) (fun _ s _ => l.length - (intOf s).toNat)
  case atStart => exact ⟨0, rfl, Nat.zero_le _, World.ownsRow_nil _ _ _ _, calm_zero _ _, Below.refl _ w⟩
  case round =>
    obtain ⟨j, rfl, hjl, hown, hcalm, hB⟩ := hrel
    by_cases hlt : j < l.length
    · obtain ⟨x, hx⟩ : ∃ x, l[j]? = some x := ⟨_, List.getElem?_eq_getElem hlt⟩
      obtain ⟨b, of, rfl, hcx⟩ := hcell j x hx
      have HX : Hid (l[j]? = some x) := hx
      have hcw : wr.cell? ⟨b, of + j, none⟩ = some (.string x) := (hB.cell (p := ⟨b, of + j, none⟩) (World.block_lt_of_cell? w _ hcx)).trans hcx
      have hsz : x.size ≤ 1048576 := by have := size_wt (List.mem_of_getElem? hx); omega
      have hRT : RTab wr := var?_below hB l_r (var_lt l_r hr) hr
      have hBT : BTab wr := var?_below hB l_b (var_lt l_b hbt) hbt
      have hS := sum_r n x wr hRT hBT (by omega)
      have hdl := HF.out x
      have HCalm : Hid _ := hcalm
      have hd1 : (j : Int) < (l.length : Int) := by omega
      have HFX : Hid (sumB (widthN n) (un x) = (fun x => sumB (widthN n) (un x)) x) := rfl
      obtain ⟨osv, csv, rfl⟩ := own_sliceN hown
      have HOwn : Hid _ := hown
      have h1c : ∀ v ∈ Lib.byteCells (sumB (widthN n) (un x)), v.oneCell' = true := fun v hv => by unfold Lib.byteCells at hv; obtain ⟨_, _, rfl⟩ := List.mem_map.1 hv; rfl
      generalize sumB (widthN n) (un x) = d at *
      clear hx hcx hcalm hown
      go_wp2_with fail
      refine hS.mono ?_
      rintro e w1 ⟨rfl, B1⟩
      have hib : i0.bytes = 32 := hz2
      have his : i0.size = 32 := hz1
      have hfill : Instr.fill (fun i => some (i * i0.size, i0.size)) ((Array.range (1 * i0.size)).map ((Value.agg (dig32 zeros)).cells[· % (Value.agg (dig32 zeros)).cells.size]!)) [(0, .agg (dig32 d))] = some (dig32 d) := by
        rw [his]; exact fill_dig d hdl _ (by simp)
      have hsz1 : w.heap.size ≤ w1.heap.size := Nat.le_trans hB.size B1.size
      have hgeo := own_geD HOwn.out
      have hownA := (own_belowD HOwn.out B1).alloc (.cells (dig32 d) 25)
      have HN : Hid _ := cells_new w1 (dig32 d) 25
      go_wp2_with (first
        | (refine wpList_buildOne rfl 105 25 (.tmp 22) rfl (.agg (dig32 d)) rfl (dig32 d) i0 (.agg (dig32 zeros)) Tryz.underlying105 hi0 hz0 his hfill ?_)
        | (at_builtin; refine wpList_append_own _ rfl (.tmp 16) (.tmp 23) 105 rfl w.heap.size 25 i0 (.agg (dig32 zeros)) 32 32 Tryz.underlying105 hi0 hz0 hz1 hz2 (by kernel_rfl) (by decide) _ _ _ rfl hownA ⟨w1.heap.size, 0, none⟩ 1 1 (Lib.byteCells d) rfl (by rw [Lib.byteCells_length, hdl]) (fun j u hu => HN.out j u (by unfold dig32; simpa using hu)) h1c (by unfold maxLen; omega) (by omega) (by simp; omega) ?_; intro v2 w2 hown2 hgrow2 _; obtain ⟨g2, cap2, rfl⟩ := ownsRow_succ hown2))
      have hgrA := hgrow2
      have B2 : Below w.heap.size w w2 := ((below_join hB B1).alloc hsz1 _).grown hgrow2 (by simp; omega) (fun k e => hgeo k e)
      have hgl : g2 < w2.heap.size := own_ltD hown2
      have HRow : Hid (∀ (i : Nat) (z : ByteArray), i ≤ j → l[i]? = some z → w2.rangeAt g2 (i * 32) (Lib.byteCells (sumB (widthN n) (un z)))) := fun i z hi hz t u hu => by
        refine row_cell hown2 (i * 32 + t) u ?_
        have e1 : flatD (fun x => sumB (widthN n) (un x)) (l.take j) ++ Lib.byteCells d = flatD (fun x => sumB (widthN n) (un x)) (l.take (j + 1)) := by
          rw [List.take_add_one, HX.out, flatD_append, HFX.out]
          simp [flatD]
        rw [e1]
        refine flatD_get HF.out t u (l := l.take (j + 1)) (x := z) ?_ hu
        rw [List.getElem?_take, if_pos (by omega)]; exact hz
      have HOwn2 : Hid (w2.ownsRow w.heap.size 25 32 (.slice (some ⟨g2, 0, none⟩) (j + 1) cap2) (j + 1) (flatD (fun x => sumB (widthN n) (un x)) (l.take (j + 1)))) := by
        have e1 : flatD (fun x => sumB (widthN n) (un x)) (l.take j) ++ Lib.byteCells d = flatD (fun x => sumB (widthN n) (un x)) (l.take (j + 1)) := by
          rw [List.take_add_one, HX.out, flatD_append, HFX.out]
          simp [flatD]
        rw [← e1]; exact hown2
      have hcx2 : w2.cell? ⟨b, of + j, none⟩ = some (.string x) := by
        obtain ⟨b9, o9, e9, h9⟩ := hcell j x HX.out
        have e3 : b = b9 ∧ of = o9 := by injection e9 with e9; injection e9 with e4 e5; exact ⟨e4, e5⟩
        obtain ⟨rfl, rfl⟩ := e3
        exact (B2.cell (p := ⟨b, of + j, none⟩) (World.block_lt_of_cell? w _ h9)).trans h9
      have hrx := HRow.out j x (Nat.le_refl _) HX.out
      have hxd : sumB (widthN n) (un x) = d := HFX.out.symm
      rw [hxd] at hrx
      clear hown2 hgrow2 hgrA hownA HN hfill HOwn hgeo h1c hRT hBT hS hcw B1
      go_loopw [9] (fun s w' => ∃ i : Nat, s = .int .i64 i ∧ i ≤ j ∧ (∀ q, q < i → ¬ clashes (fun x => sumB (widthN n) (un x)) l q j) ∧ Below w2.heap.size w2 w') (fun s _ => j - (intOf s).toNat)
      case atStart => exact ⟨0, rfl, Nat.zero_le _, fun q hq => by omega, Below.refl _ _⟩
      case round =>
        obtain ⟨i, rfl, hij, hno, hBq⟩ := hrel
        have HNo : Hid _ := hno
        clear hno
        by_cases hlt2 : i < j
        · obtain ⟨y, hy⟩ : ∃ y, l[i]? = some y := ⟨_, List.getElem?_eq_getElem (by omega)⟩
          obtain ⟨b9, o9, e9, h9⟩ := hcell i y hy
          have e3 : b = b9 ∧ of = o9 := by injection e9 with e9; injection e9 with e4 e5; exact ⟨e4, e5⟩
          obtain ⟨rfl, rfl⟩ := e3
          have hcy2 : w2.cell? ⟨b, of + i, none⟩ = some (.string y) := (B2.cell (p := ⟨b, of + i, none⟩) (World.block_lt_of_cell? w _ h9)).trans h9
          have hcyr : wr.cell? ⟨b, of + i, none⟩ = some (.string y) := (hBq.cell (p := ⟨b, of + i, none⟩) (World.block_lt_of_cell? w2 _ hcy2)).trans hcy2
          have hcxr : wr.cell? ⟨b, of + j, none⟩ = some (.string x) := (hBq.cell (p := ⟨b, of + j, none⟩) (World.block_lt_of_cell? w2 _ hcx2)).trans hcx2
          have HY : Hid _ := hy
          have hd3 : (i : Int) < (j : Int) := by omega
          have hd4 : (i : Int) < (l.length : Int) := by omega
          have hd5 : (i : Int) < (j : Int) + 1 := by omega
          have hd6 : (j : Int) < (j : Int) + 1 := by omega
          by_cases hxy : y = x
          · subst hxy
            clear e9 h9 hy
            go_wp2_with fail
            go_quiet (fail)
            go_wp2
            refine ⟨⟨i + 1, by go_num, by omega, ?_, below_drawn hBq _⟩, by simp [intOf]; omega⟩
            intro q hq
            rcases Nat.lt_or_ge q i with e | e
            · exact HNo.out q e
            · obtain rfl : q = i := by omega
              rintro ⟨x1, y1, h1, h2, h3, _⟩
              exact h3 ((Option.some.inj (h1.symm.trans HY.out)).trans (Option.some.inj (HX.out.symm.trans h2)))
          · have hne2 : (y.toList == x.toList) = false := toList_ne hxy
            have hry := rng_belowC (HRow.out i y hij hy) hBq hgl
            have hrxr := rng_belowC hrx hBq hgl
            obtain ⟨dy, hdy⟩ : ∃ dy, sumB (widthN n) (un y) = dy := ⟨_, rfl⟩
            have hdyl : dy.length = 32 := by rw [← hdy]; exact HF.out y
            rw [hdy] at hry
            have hu := Tryz.underlying25
            have hiy : (Tryz.prog.info? 25).map (·.size) = some (Lib.byteCells dy).length := by rw [Lib.byteCells_length, hdyl]; kernel_rfl
            have hix : (Tryz.prog.info? 25).map (·.size) = some (Lib.byteCells d).length := by rw [Lib.byteCells_length, hdl]; kernel_rfl
            have heq : ∀ W, (Op.equalIn 10000 25 (.agg (Lib.byteCells dy).toArray) (.agg (Lib.byteCells d).toArray)).run Tryz.prog W = .ok (dy == d) W := fun W => eq_dig dy d hdyl hdl W
            have HS0 : Hid (wr.drew.cell? ⟨b, of + i, none⟩ = some (.string y) ∧ wr.drew.cell? ⟨b, of + j, none⟩ = some (.string x) ∧ wr.drew.rangeAt g2 (i * 32) (Lib.byteCells dy) ∧ wr.drew.rangeAt g2 (j * 32) (Lib.byteCells d) ∧ Below w2.heap.size w2 wr.drew) := ⟨hcyr, hcxr, hry, hrxr, below_drawn hBq 1⟩
            have Hne : Hid _ := hxy
            have Hdy : Hid _ := hdy
            clear e9 h9 hy hcyr hcxr hry hrxr hcy2 hcx2 hrx hdy hxy hxd
            go_wp2_with fail
            refine wp_region_noPanic ?_
            refine wp_region_held_drew (S := fun w' => w'.cell? ⟨b, of + i, none⟩ = some (.string y) ∧ w'.cell? ⟨b, of + j, none⟩ = some (.string x) ∧ w'.rangeAt g2 (i * 32) (Lib.byteCells dy) ∧ w'.rangeAt g2 (j * 32) (Lib.byteCells d) ∧ Below w2.heap.size w2 w') (by kernel_rfl) HS0.out (fun h0 => ?_)
            generalize wr.drew = wd at *
            refine wpAnyH_take (i := 0) (v := .slice (some ⟨b, of, none⟩) l.length cap) rfl (by kernel_rfl) (by kernel_rfl) (by kernel_rfl) (fun _ _ _ h => h) (Or.inl ⟨by rfl, fun w hSw => by obtain ⟨hs1, hs2, hs3, hs4, hs5⟩ := hSw; go_simp⟩) h0 ?_
            dsimp [Act.put]
            simp only [List.setIfInBounds_toArray, List.set_cons_succ, List.set_cons_zero]
            refine wpAnyH_take (i := 1) (v := .int .i64 i) rfl (by kernel_rfl) (by kernel_rfl) (by kernel_rfl) (fun _ _ _ h => h) (Or.inl ⟨by rfl, fun w hSw => by obtain ⟨hs1, hs2, hs3, hs4, hs5⟩ := hSw; go_simp⟩) h0 ?_
            dsimp [Act.put]
            simp only [List.setIfInBounds_toArray, List.set_cons_succ, List.set_cons_zero]
            refine wpAnyH_take (i := 2) (v := .pointer (some ⟨b, of + i, none⟩)) rfl (by kernel_rfl) (by kernel_rfl) (by kernel_rfl) (fun _ _ _ h => h) (Or.inl ⟨by rfl, fun w hSw => by obtain ⟨hs1, hs2, hs3, hs4, hs5⟩ := hSw; go_simp⟩) h0 ?_
            dsimp [Act.put]
            simp only [List.setIfInBounds_toArray, List.set_cons_succ, List.set_cons_zero]
            refine wpAnyH_take (i := 3) (v := .string y) rfl (by kernel_rfl) (by kernel_rfl) (by kernel_rfl) (fun _ _ _ h => h) (Or.inl ⟨by rfl, fun w hSw => by obtain ⟨hs1, hs2, hs3, hs4, hs5⟩ := hSw; go_simp⟩) h0 ?_
            dsimp [Act.put]
            simp only [List.setIfInBounds_toArray, List.set_cons_succ, List.set_cons_zero]
            refine wpAnyH_take (i := 4) (v := .slice (some ⟨b, of, none⟩) l.length cap) rfl (by kernel_rfl) (by kernel_rfl) (by kernel_rfl) (fun _ _ _ h => h) (Or.inl ⟨by rfl, fun w hSw => by obtain ⟨hs1, hs2, hs3, hs4, hs5⟩ := hSw; go_simp⟩) h0 ?_
            dsimp [Act.put]
            simp only [List.setIfInBounds_toArray, List.set_cons_succ, List.set_cons_zero]
            refine wpAnyH_take (i := 5) (v := .int .i64 j) rfl (by kernel_rfl) (by kernel_rfl) (by kernel_rfl) (fun _ _ _ h => h) (Or.inl ⟨by rfl, fun w hSw => by obtain ⟨hs1, hs2, hs3, hs4, hs5⟩ := hSw; go_simp⟩) h0 ?_
            dsimp [Act.put]
            simp only [List.setIfInBounds_toArray, List.set_cons_succ, List.set_cons_zero]
            refine wpAnyH_take (i := 6) (v := .pointer (some ⟨b, of + j, none⟩)) rfl (by kernel_rfl) (by kernel_rfl) (by kernel_rfl) (fun _ _ _ h => h) (Or.inl ⟨by rfl, fun w hSw => by obtain ⟨hs1, hs2, hs3, hs4, hs5⟩ := hSw; go_simp⟩) h0 ?_
            dsimp [Act.put]
            simp only [List.setIfInBounds_toArray, List.set_cons_succ, List.set_cons_zero]
            refine wpAnyH_take (i := 7) (v := .string x) rfl (by kernel_rfl) (by kernel_rfl) (by kernel_rfl) (fun _ _ _ h => h) (Or.inl ⟨by rfl, fun w hSw => by obtain ⟨hs1, hs2, hs3, hs4, hs5⟩ := hSw; go_simp⟩) h0 ?_
            dsimp [Act.put]
            simp only [List.setIfInBounds_toArray, List.set_cons_succ, List.set_cons_zero]
            refine wpAnyH_take (i := 8) (v := .bool true) rfl (by kernel_rfl) (by kernel_rfl) (by kernel_rfl) (fun _ _ _ h => h) (Or.inl ⟨by rfl, fun w hSw => by obtain ⟨hs1, hs2, hs3, hs4, hs5⟩ := hSw; go_simp⟩) h0 ?_
            dsimp [Act.put]
            simp only [List.setIfInBounds_toArray, List.set_cons_succ, List.set_cons_zero]
            refine wpAnyH_take (i := 9) (v := .bool true) rfl (by kernel_rfl) (by kernel_rfl) (by kernel_rfl) (fun _ _ _ h => h) (Or.inl ⟨by rfl, fun w hSw => by obtain ⟨hs1, hs2, hs3, hs4, hs5⟩ := hSw; go_simp⟩) h0 ?_
            dsimp [Act.put]
            simp only [List.setIfInBounds_toArray, List.set_cons_succ, List.set_cons_zero]
            refine wpAnyH_take (i := 10) (v := .slice (some ⟨g2, 0, none⟩) (j + 1) cap2) rfl (by kernel_rfl) (by kernel_rfl) (by kernel_rfl) (fun _ _ _ h => h) (Or.inl ⟨by rfl, fun w hSw => by obtain ⟨hs1, hs2, hs3, hs4, hs5⟩ := hSw; go_simp⟩) h0 ?_
            dsimp [Act.put]
            simp only [List.setIfInBounds_toArray, List.set_cons_succ, List.set_cons_zero]
            refine wpAnyH_take (i := 11) (v := .int .i64 i) rfl (by kernel_rfl) (by kernel_rfl) (by kernel_rfl) (fun _ _ _ h => h) (Or.inl ⟨by rfl, fun w hSw => by obtain ⟨hs1, hs2, hs3, hs4, hs5⟩ := hSw; go_simp⟩) h0 ?_
            dsimp [Act.put]
            simp only [List.setIfInBounds_toArray, List.set_cons_succ, List.set_cons_zero]
            refine wpAnyH_take (i := 12) (v := .pointer (some ⟨g2, i * 32, none⟩)) rfl (by kernel_rfl) (by kernel_rfl) (by kernel_rfl) (fun _ _ _ h => h) (Or.inl ⟨by rfl, fun w hSw => by obtain ⟨hs1, hs2, hs3, hs4, hs5⟩ := hSw; go_simp⟩) h0 ?_
            dsimp [Act.put]
            simp only [List.setIfInBounds_toArray, List.set_cons_succ, List.set_cons_zero]
            refine wpAnyH_take (i := 13) (v := _) rfl (by kernel_rfl) (by kernel_rfl) (by kernel_rfl) (fun _ _ _ h => h) (yieldsIf_load_mid (by rfl) _ _ rfl _ _ rfl (Lib.byteCells dy) _ (fun w h => h.2.2.1) hu rfl hiy) h0 ?_
            dsimp [Act.put]
            simp only [List.setIfInBounds_toArray, List.set_cons_succ, List.set_cons_zero]
            refine wpAnyH_take (i := 14) (v := .slice (some ⟨g2, 0, none⟩) (j + 1) cap2) rfl (by kernel_rfl) (by kernel_rfl) (by kernel_rfl) (fun _ _ _ h => h) (Or.inl ⟨by rfl, fun w hSw => by obtain ⟨hs1, hs2, hs3, hs4, hs5⟩ := hSw; go_simp⟩) h0 ?_
            dsimp [Act.put]
            simp only [List.setIfInBounds_toArray, List.set_cons_succ, List.set_cons_zero]
            refine wpAnyH_take (i := 15) (v := .int .i64 j) rfl (by kernel_rfl) (by kernel_rfl) (by kernel_rfl) (fun _ _ _ h => h) (Or.inl ⟨by rfl, fun w hSw => by obtain ⟨hs1, hs2, hs3, hs4, hs5⟩ := hSw; go_simp⟩) h0 ?_
            dsimp [Act.put]
            simp only [List.setIfInBounds_toArray, List.set_cons_succ, List.set_cons_zero]
            refine wpAnyH_take (i := 16) (v := .pointer (some ⟨g2, j * 32, none⟩)) rfl (by kernel_rfl) (by kernel_rfl) (by kernel_rfl) (fun _ _ _ h => h) (Or.inl ⟨by rfl, fun w hSw => by obtain ⟨hs1, hs2, hs3, hs4, hs5⟩ := hSw; go_simp⟩) h0 ?_
            dsimp [Act.put]
            simp only [List.setIfInBounds_toArray, List.set_cons_succ, List.set_cons_zero]
            refine wpAnyH_take (i := 17) (v := _) rfl (by kernel_rfl) (by kernel_rfl) (by kernel_rfl) (fun _ _ _ h => h) (yieldsIf_load_mid (by rfl) _ _ rfl _ _ rfl (Lib.byteCells d) _ (fun w h => h.2.2.2.1) hu rfl hix) h0 ?_
            dsimp [Act.put]
            simp only [List.setIfInBounds_toArray, List.set_cons_succ, List.set_cons_zero]
            refine wpAnyH_take (i := 18) (v := .bool (dy == d)) rfl (by kernel_rfl) (by kernel_rfl) (by kernel_rfl) (fun _ _ _ h => h) (Or.inl ⟨by rfl, fun w hSw => by obtain ⟨hs1, hs2, hs3, hs4, hs5⟩ := hSw; go_simp⟩) h0 ?_
            dsimp [Act.put]
            simp only [List.setIfInBounds_toArray, List.set_cons_succ, List.set_cons_zero]
            refine wpAnyH_take (i := 19) (v := .bool (dy == d)) rfl (by kernel_rfl) (by kernel_rfl) (by kernel_rfl) (fun _ _ _ h => h) (Or.inl ⟨by rfl, fun w hSw => by obtain ⟨hs1, hs2, hs3, hs4, hs5⟩ := hSw; go_simp⟩) h0 ?_
            dsimp [Act.put]
            simp only [List.setIfInBounds_toArray, List.set_cons_succ, List.set_cons_zero]
            refine wpAnyH_done (by kernel_rfl) ?_ _
            refine NoPanic.normal ?_
            have hBd := h0.2.2.2.2
            cases hb : (dy == d)
            · have Hb : Hid _ := hb
              clear hb h0 heq
              go_wp2
              refine ⟨⟨i + 1, by go_num, by omega, ?_, hBd⟩, by simp [intOf]; omega⟩
              intro q hq
              rcases Nat.lt_or_ge q i with e | e
              · exact HNo.out q e
              · obtain rfl : q = i := by omega
                rintro ⟨x1, y1, h1, h2, _, h4⟩
                obtain rfl := Option.some.inj (HY.out.symm.trans h1)
                obtain rfl := Option.some.inj (HX.out.symm.trans h2)
                have hdd : dy = d := Hdy.out.symm.trans (h4.trans HFX.out.symm)
                have := Hb.out
                rw [hdd] at this
                simp at this
            · have Hc : Hid (clashes (fun x => sumB (widthN n) (un x)) l i j) := ⟨y, x, HY.out, HX.out, Hne.out, Hdy.out.trans ((eq_of_beq hb).trans HFX.out)⟩
              clear hb h0 heq
              go_wp2
              refine bodyPost_ret (results_tmp3 rfl _ _ _) rfl ?_
              exact ⟨i, j, true, rfl, .inr ⟨rfl, hlt2, hlt, Hc.out, HNo.out, HCalm.out⟩, below_join B2 hBd⟩
        · obtain rfl : i = j := by omega
          have hd3 : ¬ ((i : Nat) : Int) < (i : Int) := by omega
          go_wp2
          exact ⟨⟨i + 1, by go_num, by omega, own_belowD HOwn2.out hBq, calm_succ HCalm.out HNo.out, below_join B2 hBq⟩, by simp [intOf]; omega⟩
    · obtain rfl : j = l.length := by omega
      have hd1 : ¬ ((l.length : Nat) : Int) < (l.length : Int) := by omega
      have HC : Hid (calm (fun x => sumB (widthN n) (un x)) l l.length) := hcalm
      clear hcalm hown
      go_wp2
      refine bodyPost_ret (results_tmp3 rfl _ _ _) rfl ?_
      exact ⟨0, 0, false, rfl, .inl ⟨rfl, rfl, rfl, HC.out⟩, hB⟩
end Go.Proofs.YtodgcmhkojkpcaaGreatDoor
