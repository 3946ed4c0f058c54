/- Package flate's codeOf. -/
import Derived.Test.YtcoinfancoeepabDoorCodeM
import Derived.Test.YtcoinfancoeepabDoorBaseU
import Derived.Deep.RegionHeld3
import Derived.OwnWalk
import Derived.Laws.OwnMore
namespace Go.Proofs.YtcoinfancoeepabDoor
open Go Go.RowKit

theorem codeC_get (cs : List Nat) (sym : Value) (lng x : Nat) (hc : cs.length = 16) (hx : x < 16) : (codeC cs sym lng)[x]? = some (.int .i64 (cs.getD x 0 : Nat)) := by
  unfold codeC
  rw [List.getElem?_toArray, List.getElem?_append_left (by rw [ints_length]; omega), ints_get _ _ (by omega)]
theorem codeC_set (cs : List Nat) (sym : Value) (lng x n : Nat) (hc : cs.length = 16) (hx : x < 16) : (codeC cs sym lng).setIfInBounds x (.int .i64 n) = codeC (cs.set x n) sym lng := by
  unfold codeC
  rw [List.setIfInBounds_toArray, List.set_append_left _ _ (by rw [ints_length]; omega), ints_set]
theorem codeC_lng (cs : List Nat) (sym : Value) (lng : Nat) (hc : cs.length = 16) : (codeC cs sym lng)[17]? = some (.int .i64 lng) := by
  unfold codeC
  rw [List.getElem?_toArray, List.getElem?_append_right (by rw [ints_length]; omega), ints_length, hc]; rfl
theorem codeC_setLng (cs : List Nat) (sym : Value) (lng n : Nat) (hc : cs.length = 16) : (codeC cs sym lng).setIfInBounds 17 (.int .i64 n) = codeC cs sym n := by
  unfold codeC
  rw [List.setIfInBounds_toArray, List.set_append_right _ _ (by rw [ints_length]; omega), ints_length, hc]; rfl
theorem codeC_sym (cs : List Nat) (sym : Value) (lng : Nat) (hc : cs.length = 16) : (codeC cs sym lng)[16]? = some sym := by
  unfold codeC
  rw [List.getElem?_toArray, List.getElem?_append_right (by rw [ints_length]; omega), ints_length, hc]; rfl
theorem codeC_setSym (cs : List Nat) (sym s2 : Value) (lng : Nat) (hc : cs.length = 16) : (codeC cs sym lng).setIfInBounds 16 s2 = codeC cs s2 lng := by
  unfold codeC
  rw [List.setIfInBounds_toArray, List.set_append_right _ _ (by rw [ints_length]; omega), ints_length, hc]; rfl
theorem codeC_range {W : World} {g : Nat} {T : TypeId} {cs : List Nat} {sym : Value} {lng : Nat} (h : Lies W g T (codeC cs sym lng)) : W.rangeAt g 0 (ints cs) := fun j v hv => by
  rw [Nat.zero_add]
  refine h.cell ?_
  unfold codeC
  rw [List.getElem?_toArray, List.getElem?_append_left (List.getElem?_eq_some_iff.1 hv).1, hv]
theorem info16 : (Tryd.prog.info? 141).map (·.size) = some 16 := by kernel_rfl
theorem info_int : (Tryd.prog.info? 3).map (fun i => (i.zero, i.size, i.bytes)) = some (some (.int .i64 0), 1, 8) := by kernel_rfl
theorem make_ints (n : Nat) (hn : n ≤ 1099511627777) (w : World) : (Instr.makeSlice 113 (.int .i64 n) (.int .i64 n)).run Tryd.prog w = .ok (.slice (some ⟨w.heap.size, 0, none⟩) n n) (w.alloc (.cells (ints (List.replicate n 0)).toArray 3)) := by
  obtain ⟨i0, hi, hz0, hz1, hz2⟩ := info_parts info_int
  have h := run_make w (P := Tryd.prog) 113 3 i0 (.int .i64 0) Tryd.underlying113 hi hz0 .i64 .i64 n n (by omega) (by omega) (by rw [hz2]; omega) (by omega)
  have e : madeCells (Value.int .i64 0).cells ((n : Int).toNat * i0.size) = (ints (List.replicate n 0)).toArray := by
    rw [hz1, Int.toNat_natCast, Nat.mul_one]
    unfold madeCells ints
    apply Array.toList_inj.1
    simp [Value.cells, Nat.mod_one]
    exact List.eq_replicate_iff.2 ⟨by simp, fun b hb => by simp at hb; exact hb.2.symm⟩
  rw [e] at h
  exact h
theorem arr_get (l : List Nat) (k : Nat) (h : k < l.length) : (ints l).toArray[k]? = some (.int .i64 (l.getD k 0 : Nat)) := by rw [List.getElem?_toArray, ints_get _ _ h]
theorem arr_set (l : List Nat) (k n : Nat) : (ints l).toArray.setIfInBounds k (.int .i64 n) = (ints (l.set k n)).toArray := by rw [List.setIfInBounds_toArray, ints_set]
theorem getD_le15 {xs : List Nat} (h : ∀ x ∈ xs, x ≤ 15) (k : Nat) : xs.getD k 0 ≤ 15 := by
  rw [List.getD_eq_getElem?_getD]
  cases hx : xs[k]? with
  | none => simp
  | some x => exact h x (List.mem_of_getElem? hx)
set_option maxRecDepth 100000 in
set_option maxHeartbeats 4000000 in
theorem codeOf_p (gz cap : Nat) (xs : List Nat) (hx : ∀ x ∈ xs, x ≤ 15) (hn : xs.length ≤ 400) (hr : ∀ k, k < xs.length → xs.getD k 0 ≠ 0 → (symRun xs k).1.getD (xs.getD k 0) 0 < manyN xs) (w : World)
    (hI : ∀ k, k < xs.length → w.cell? ⟨gz, k, none⟩ = some (.int .i64 (xs.getD k 0 : Nat))) (hgz : gz < w.heap.size) :
    Calls Tryd.prog 65 #[.slice (some ⟨gz, 0, none⟩) xs.length cap] w fun e w' => ∃ gc gs, e = .returned (.pointer (some ⟨gc, 0, none⟩)) ∧ Lies w' gc 143 (codeC (counts xs) (.slice (some ⟨gs, 0, none⟩) (manyN xs) (manyN xs)) (lngRun xs xs.length)) ∧
      Lies w' gs 3 (ints (symRun xs xs.length).2).toArray ∧ w.heap.size ≤ gc ∧ gc < gs ∧ Below w.heap.size w w' := by
  have HI : Hid (∀ k, k < xs.length → w.cell? ⟨gz, k, none⟩ = some (.int .i64 (xs.getD k 0 : Nat))) := hI
  have HR : Hid _ := hr
  have HX : Hid _ := hx
  have HZ : Hid ((#[.int .i64 0, .int .i64 0, .int .i64 0, .int .i64 0, .int .i64 0, .int .i64 0, .int .i64 0, .int .i64 0, .int .i64 0, .int .i64 0, .int .i64 0, .int .i64 0, .int .i64 0, .int .i64 0, .int .i64 0, .int .i64 0, .slice none 0 0, .int .i64 0] : Array Value) = codeC (cntRun xs 0) (.slice none 0 0) (lngRun xs 0)) := rfl
  have HZ2 : Hid ((#[.int .i64 0, .int .i64 0, .int .i64 0, .int .i64 0, .int .i64 0, .int .i64 0, .int .i64 0, .int .i64 0, .int .i64 0, .int .i64 0, .int .i64 0, .int .i64 0, .int .i64 0, .int .i64 0, .int .i64 0, .int .i64 0, .int .i64 0] : Array Value) = (ints (plRun (counts xs) 0)).toArray) := rfl
  clear hI hr hx
  go_enter Tryd.func65, Tryd.ntmps65
  go_wp2
  go_loopw [15] (fun i wr => ∃ k : Nat, k ≤ xs.length ∧ i = .int .i64 k ∧ Lies wr w.heap.size 143 (codeC (cntRun xs k) (.slice none 0 0) (lngRun xs k)) ∧ Below w.heap.size w wr ∧ wr.heap.size = w.heap.size + 1) (fun i _ => xs.length - (intOf i).toNat)
  case atStart => exact ⟨0, Nat.zero_le _, rfl, by rw [← HZ.out]; exact Lies.new w _ _, (Below.refl _ w).alloc (Nat.le_refl _) _, by simp⟩
  case round =>
    obtain ⟨k, hk, rfl, hL, hB, hw⟩ := hrel
    by_cases hlt : k < xs.length
    · have hlt' : (k : Int) < (xs.length : Int) := by omega
      have hk0 : (0 : Int) ≤ (k : Int) := by omega
      have c0 : wr.cell? ⟨gz, k, none⟩ = some (.int .i64 (xs.getD k 0 : Nat)) := (hB.cell (p := ⟨gz, k, none⟩) hgz).trans (HI.out k hlt)
      have hx15 := getD_le15 HX.out k
      have hcl := cntRun_length xs k
      have c1 : wr.cell? ⟨w.heap.size, xs.getD k 0, none⟩ = some (.int .i64 ((cntRun xs k).getD (xs.getD k 0) 0 : Nat)) := hL.cell (codeC_get _ _ _ _ hcl (by omega))
      have fz1 := hL.frozen (xs.getD k 0)
      have hle := cntRun_le xs k (xs.getD k 0)
      have L1 : Lies (wr.setCell ⟨w.heap.size, xs.getD k 0, none⟩ (.int .i64 ((cntRun xs k).getD (xs.getD k 0) 0 + 1 : Nat))) w.heap.size 143 (codeC (cntRun xs (k + 1)) (.slice none 0 0) (lngRun xs k)) := by
        have := hL.set (i := xs.getD k 0) (.int .i64 ((cntRun xs k).getD (xs.getD k 0) 0 + 1 : Nat))
        rw [codeC_set _ _ _ _ _ hcl (by omega)] at this; exact this
      have B1 : Below w.heap.size w (wr.setCell ⟨w.heap.size, xs.getD k 0, none⟩ (.int .i64 ((cntRun xs k).getD (xs.getD k 0) 0 + 1 : Nat))) := hB.setCell (p := ⟨w.heap.size, xs.getD k 0, none⟩) (Nat.le_refl _) _
      have hcl2 := cntRun_length xs (k + 1)
      have c17 := hL.cell (codeC_lng _ _ _ hcl)
      have fz17 := hL.frozen 17
      have hxne : xs.getD k 0 ≠ 17 := by omega
      have hlg := lngRun_le xs HX.out k
      have L2 := L1.set (i := 17) (.int .i64 (lngRun xs (k + 1) : Nat))
      rw [codeC_setLng _ _ _ _ hcl2] at L2
      have HL2 : Hid _ := L2
      have HB2 : Hid _ := B1.setCell (p := ⟨w.heap.size, 17, none⟩) (Nat.le_refl _) (.int .i64 (lngRun xs (k + 1) : Nat))
      have s1 : IntKind.i64.wrap (((cntRun xs k).getD (xs.getD k 0) 0 : Int) + 1) = (((cntRun xs k).getD (xs.getD k 0) 0 + 1 : Nat) : Int) := by rw [wrapZ _ (by omega)]; omega
      have hm : (if lngRun xs k < xs.getD k 0 then ((xs.getD k 0 : Nat) : Int) else ((lngRun xs k : Nat) : Int)) = ((lngRun xs (k + 1) : Nat) : Int) := by
        have : lngRun xs (k + 1) = max (lngRun xs k) (xs.getD k 0) := rfl
        split <;> omega
      have x1 : ((xs.getD k 0 : Nat) : Int) < 16 := by omega
      have x0 : (0 : Int) ≤ ((xs.getD k 0 : Nat) : Int) := by omega
      clear hL hB L1 L2 B1 hcl hcl2 hle hlg
      obtain ⟨C1, hC1⟩ : ∃ c, (cntRun xs k).getD (xs.getD k 0) 0 + 1 = c := ⟨_, rfl⟩
      rw [hC1] at HL2 HB2 s1
      clear hC1
      generalize (cntRun xs k).getD (xs.getD k 0) 0 = C at *
      generalize lngRun xs k = M at *
      generalize xs.getD k 0 = X at *
      go_wp2
      go_region
      go_wp2
      exact ⟨⟨k + 1, by omega, by go_num, HL2.out, below_drawn HB2.out 1, by simp [hw]⟩, by simp [intOf]; omega⟩
    · obtain rfl : k = xs.length := by omega
      have hlt' : ¬ (xs.length : Int) < (xs.length : Int) := by omega
      have hcl := cntRun_length xs xs.length
      have c0 := hL.cell (codeC_get _ _ _ 0 hcl (by omega))
      have fz0 := hL.frozen 0
      have L1 : Lies (wr.setCell ⟨w.heap.size, 0, none⟩ (.int .i64 0)) w.heap.size 143 (codeC (counts xs) (.slice none 0 0) (lngRun xs xs.length)) := by
        have := hL.set (i := 0) (.int .i64 (0 : Nat))
        rw [codeC_set _ _ _ _ _ hcl (by omega)] at this; exact this
      have B1 : Below w.heap.size w (wr.setCell ⟨w.heap.size, 0, none⟩ (.int .i64 0)) := hB.setCell (p := ⟨w.heap.size, 0, none⟩) (Nat.le_refl _) _
      have hw1 : (wr.setCell ⟨w.heap.size, 0, none⟩ (.int .i64 0)).heap.size = w.heap.size + 1 := by simp [hw]
      have hi16 : (Tryd.prog.info? 141).map (·.size) = some (ints (counts xs)).length := by rw [ints_length, counts_length]; exact info16
      have HR2 : Hid (∀ o, ((wr.setCell ⟨w.heap.size, 0, none⟩ (.int .i64 0)).alloc o).rangeAt w.heap.size 0 (ints (counts xs))) := fun o => codeC_range (L1.alloc o)
      have HL1 : Hid (∀ o, Lies ((wr.setCell ⟨w.heap.size, 0, none⟩ (.int .i64 0)).alloc o) w.heap.size 143 (codeC (counts xs) (.slice none 0 0) (lngRun xs xs.length))) := fun o => L1.alloc o
      have HB1 : Hid (∀ o, Below w.heap.size w ((wr.setCell ⟨w.heap.size, 0, none⟩ (.int .i64 0)).alloc o)) := fun o => B1.alloc (by rw [hw1]; omega) o
      have HLP : Hid (∀ cs t, Lies ((wr.setCell ⟨w.heap.size, 0, none⟩ (.int .i64 0)).alloc (.cells cs t)) (w.heap.size + 1) t cs) := fun cs t => by
        have := Lies.new (wr.setCell ⟨w.heap.size, 0, none⟩ (.int .i64 0)) t cs
        rw [hw1] at this; exact this
      clear hL hB hcl L1 B1
      go_wp2_with (refine wpList_load_mid rfl 141 (.tmp 45) rfl w.heap.size 0 rfl (ints (counts xs)) _ (HR2.out _) Tryd.underlying141 rfl hi16 ?_)
      go_loopw [47] (fun i wr2 => ∃ k : Nat, k ≤ 16 ∧ i = .int .i64 k ∧ Lies wr2 (w.heap.size + 1) 144 (ints (plRun (counts xs) k)).toArray ∧ Lies wr2 w.heap.size 143 (codeC (counts xs) (.slice none 0 0) (lngRun xs xs.length)) ∧ Below w.heap.size w wr2 ∧ wr2.heap.size = w.heap.size + 2) (fun i _ => 16 - (intOf i).toNat)
      case atStart => exact ⟨0, Nat.zero_le _, rfl, by rw [← HZ2.out]; exact HLP.out _ _, HL1.out _, HB1.out _, by simp [hw]⟩
      case round =>
        obtain ⟨k, hk, rfl, hP, hL, hB, hw2⟩ := hrel
        have hpl := plRun_length (counts xs) k
        have hle := plRun_le (counts xs) xs.length (counts_le xs) k
        have hcl := counts_length xs
        have hcc := counts_le xs k
        by_cases hlt : k < 16
        · have hlt' : (k : Int) < 16 := by omega
          have hk0 : (0 : Int) ≤ (k : Int) := by omega
          have ci : (Instr.index 141 (.agg (ints (counts xs)).toArray) (.int .i64 k)).run Tryd.prog wr = .ok (.int .i64 ((counts xs).getD k 0 : Nat)) wr := run_index_arr k Tryd.underlying141 (by kernel_rfl) (by kernel_rfl) hlt (arr_get _ _ (by omega))
          have c1 := hP.cell (arr_get _ k (by omega))
          have c2 := hP.cell (arr_get _ (k + 1) (by omega))
          have f2 := hP.frozen (k + 1)
          have hle1 := hle k
          have hm : xs.length * k ≤ 400 * 16 := Nat.mul_le_mul hn (by omega)
          have P1 := hP.set (i := k + 1) (.int .i64 ((plRun (counts xs) k).getD k 0 + (counts xs).getD k 0 : Nat))
          rw [arr_set] at P1
          have HP1 : Hid (Lies (wr.setCell ⟨w.heap.size + 1, k + 1, none⟩ (.int .i64 ((plRun (counts xs) k).getD k 0 + (counts xs).getD k 0 : Nat))) (w.heap.size + 1) 144 (ints (plRun (counts xs) (k + 1))).toArray) := P1
          have HL1 : Hid (Lies (wr.setCell ⟨w.heap.size + 1, k + 1, none⟩ (.int .i64 ((plRun (counts xs) k).getD k 0 + (counts xs).getD k 0 : Nat))) w.heap.size 143 (codeC (counts xs) (.slice none 0 0) (lngRun xs xs.length))) := hL.other _ (by omega)
          have HB1' : Hid (Below w.heap.size w (wr.setCell ⟨w.heap.size + 1, k + 1, none⟩ (.int .i64 ((plRun (counts xs) k).getD k 0 + (counts xs).getD k 0 : Nat)))) := hB.setCell (p := ⟨w.heap.size + 1, k + 1, none⟩) (by show w.heap.size ≤ w.heap.size + 1; omega) _
          have s1 : IntKind.i64.wrap (((plRun (counts xs) k).getD k 0 : Int) + ((counts xs).getD k 0 : Int)) = (((plRun (counts xs) k).getD k 0 + (counts xs).getD k 0 : Nat) : Int) := by rw [wrapZ _ (by omega)]; omega
          have k17 : (k : Int) < 17 := by omega
          have k18 : (k : Int) + 1 < 17 := by omega
          clear P1 hP hL hB hle HR2 HB1 HLP hpl hcl
          obtain ⟨V, hV⟩ : ∃ v, (plRun (counts xs) k).getD k 0 + (counts xs).getD k 0 = v := ⟨_, rfl⟩
          rw [hV] at HP1 HL1 HB1' s1
          clear hV
          generalize (plRun (counts xs) k).getD k 0 = P at *
          generalize (counts xs).getD k 0 = C at *
          go_wp2
          exact ⟨⟨k + 1, by omega, by go_num, HP1.out, HL1.out, HB1'.out, by simp [hw2]⟩, by simp [intOf]; omega⟩
        · obtain rfl : k = 16 := by omega
          have hlt' : ¬ (16 : Int) < 16 := by omega
          have c16 : wr.cell? ⟨w.heap.size + 1, 16, none⟩ = some (.int .i64 (manyN xs : Nat)) := hP.cell (arr_get _ 16 (by omega))
          have hml := manyN_le xs
          have hmk := make_ints (manyN xs) (by omega) wr
          have hm0 : (0 : Int) ≤ (manyN xs : Int) := by omega
          have cS := hL.cell (codeC_sym _ _ _ hcl)
          have fS := hL.frozen 16
          have L1 := hL.set (i := 16) (.slice (some ⟨w.heap.size + 2, 0, none⟩) (manyN xs) (manyN xs))
          rw [codeC_setSym _ _ _ _ hcl] at L1
          have HL3 : Hid (Lies ((wr.setCell ⟨w.heap.size, 16, none⟩ (.slice (some ⟨w.heap.size + 2, 0, none⟩) (manyN xs) (manyN xs))).alloc (.cells (ints (List.replicate (manyN xs) 0)).toArray 3)) w.heap.size 143 (codeC (counts xs) (.slice (some ⟨w.heap.size + 2, 0, none⟩) (manyN xs) (manyN xs)) (lngRun xs xs.length))) := L1.alloc _
          have HP3 : Hid (Lies ((wr.setCell ⟨w.heap.size, 16, none⟩ (.slice (some ⟨w.heap.size + 2, 0, none⟩) (manyN xs) (manyN xs))).alloc (.cells (ints (List.replicate (manyN xs) 0)).toArray 3)) (w.heap.size + 1) 144 (ints (symRun xs 0).1).toArray) := (hP.other _ (by omega)).alloc _
          have HS3 : Hid (Lies ((wr.setCell ⟨w.heap.size, 16, none⟩ (.slice (some ⟨w.heap.size + 2, 0, none⟩) (manyN xs) (manyN xs))).alloc (.cells (ints (List.replicate (manyN xs) 0)).toArray 3)) (w.heap.size + 2) 3 (ints (symRun xs 0).2).toArray) := by
            have := Lies.new (wr.setCell ⟨w.heap.size, 16, none⟩ (.slice (some ⟨w.heap.size + 2, 0, none⟩) (manyN xs) (manyN xs))) 3 (ints (List.replicate (manyN xs) 0)).toArray
            rw [show (wr.setCell ⟨w.heap.size, 16, none⟩ (.slice (some ⟨w.heap.size + 2, 0, none⟩) (manyN xs) (manyN xs))).heap.size = w.heap.size + 2 by simp [hw2]] at this
            exact this
          have HB3 : Hid (Below w.heap.size w ((wr.setCell ⟨w.heap.size, 16, none⟩ (.slice (some ⟨w.heap.size + 2, 0, none⟩) (manyN xs) (manyN xs))).alloc (.cells (ints (List.replicate (manyN xs) 0)).toArray 3))) := (hB.setCell (p := ⟨w.heap.size, 16, none⟩) (Nat.le_refl _) _).alloc (by simp [hw2]) _
          clear L1 hP hL hB hle HR2 HB1 HLP HL1 hpl hcl HZ HZ2 hcc
          go_wp2
          go_loopw [68] (fun i wr => ∃ k : Nat, k ≤ xs.length ∧ i = .int .i64 k ∧ Lies wr (w.heap.size + 2) 3 (ints (symRun xs k).2).toArray ∧ Lies wr (w.heap.size + 1) 144 (ints (symRun xs k).1).toArray ∧ Lies wr w.heap.size 143 (codeC (counts xs) (.slice (some ⟨w.heap.size + 2, 0, none⟩) (manyN xs) (manyN xs)) (lngRun xs xs.length)) ∧ Below w.heap.size w wr) (fun i _ => xs.length - (intOf i).toNat)
          case atStart => exact ⟨0, Nat.zero_le _, rfl, HS3.out, HP3.out, HL3.out, HB3.out⟩
          case round =>
            obtain ⟨k, hk, rfl, hS, hP, hL, hB⟩ := hrel
            by_cases hlt : k < xs.length
            · have hltX : (k : Int) < (xs.length : Int) := by omega
              have hk0 : (0 : Int) ≤ (k : Int) := by omega
              have c0 : wr.cell? ⟨gz, k, none⟩ = some (.int .i64 (xs.getD k 0 : Nat)) := (hB.cell (p := ⟨gz, k, none⟩) hgz).trans (HI.out k hlt)
              have hx15 := getD_le15 HX.out k
              by_cases hx0 : xs.getD k 0 = 0
              · have HSy : Hid (symRun xs (k + 1) = symRun xs k) := by unfold Hid; rw [symRun, if_pos hx0]
                rw [hx0] at c0
                go_wp2
                exact ⟨⟨k + 1, by omega, by go_num, by rw [HSy.out]; exact hS, by rw [HSy.out]; exact hP, hL, hB⟩, by simp [intOf]; omega⟩
              · have hpl := (symRun_len xs k).1
                have hsl := (symRun_len xs k).2
                have hin := HR.out k hlt hx0
                have hle := symRun_le xs k (xs.getD k 0)
                have hcl := counts_length xs
                have cS := hL.cell (codeC_sym _ _ _ hcl)
                have c1 := hP.cell (arr_get _ (xs.getD k 0) (by omega))
                have c2 := hS.cell (arr_get _ ((symRun xs k).1.getD (xs.getD k 0) 0) (by omega))
                have f1 := hP.frozen (xs.getD k 0)
                have f2 := hS.frozen ((symRun xs k).1.getD (xs.getD k 0) 0)
                have S1 := hS.set (i := (symRun xs k).1.getD (xs.getD k 0) 0) (.int .i64 k)
                rw [arr_set] at S1
                have P1 := hP.set (i := xs.getD k 0) (.int .i64 ((symRun xs k).1.getD (xs.getD k 0) 0 + 1 : Nat))
                rw [arr_set] at P1
                have HSy : Hid (symRun xs (k + 1) = ((symRun xs k).1.set (xs.getD k 0) ((symRun xs k).1.getD (xs.getD k 0) 0 + 1), (symRun xs k).2.set ((symRun xs k).1.getD (xs.getD k 0) 0) k)) := by unfold Hid; rw [symRun, if_neg hx0]
                have FS : Hid (Lies ((wr.setCell ⟨w.heap.size + 2, (symRun xs k).1.getD (xs.getD k 0) 0, none⟩ (.int .i64 k)).setCell ⟨w.heap.size + 1, xs.getD k 0, none⟩ (.int .i64 ((symRun xs k).1.getD (xs.getD k 0) 0 + 1 : Nat))) (w.heap.size + 2) 3 (ints (symRun xs (k + 1)).2).toArray) := by
                  unfold Hid; rw [HSy.out]; exact S1.other _ (by omega)
                have FP : Hid (Lies ((wr.setCell ⟨w.heap.size + 2, (symRun xs k).1.getD (xs.getD k 0) 0, none⟩ (.int .i64 k)).setCell ⟨w.heap.size + 1, xs.getD k 0, none⟩ (.int .i64 ((symRun xs k).1.getD (xs.getD k 0) 0 + 1 : Nat))) (w.heap.size + 1) 144 (ints (symRun xs (k + 1)).1).toArray) := by
                  unfold Hid; rw [HSy.out]
                  have := (hP.other (b := w.heap.size + 2) (i := (symRun xs k).1.getD (xs.getD k 0) 0) (.int .i64 k) (by omega)).set (i := xs.getD k 0) (.int .i64 ((symRun xs k).1.getD (xs.getD k 0) 0 + 1 : Nat))
                  rw [arr_set] at this; exact this
                have FL : Hid (Lies ((wr.setCell ⟨w.heap.size + 2, (symRun xs k).1.getD (xs.getD k 0) 0, none⟩ (.int .i64 k)).setCell ⟨w.heap.size + 1, xs.getD k 0, none⟩ (.int .i64 ((symRun xs k).1.getD (xs.getD k 0) 0 + 1 : Nat))) w.heap.size 143 (codeC (counts xs) (.slice (some ⟨w.heap.size + 2, 0, none⟩) (manyN xs) (manyN xs)) (lngRun xs xs.length))) := (hL.other _ (by omega)).other _ (by omega)
                have FB : Hid (Below w.heap.size w ((wr.setCell ⟨w.heap.size + 2, (symRun xs k).1.getD (xs.getD k 0) 0, none⟩ (.int .i64 k)).setCell ⟨w.heap.size + 1, xs.getD k 0, none⟩ (.int .i64 ((symRun xs k).1.getD (xs.getD k 0) 0 + 1 : Nat)))) := (hB.setCell (p := ⟨w.heap.size + 2, (symRun xs k).1.getD (xs.getD k 0) 0, none⟩) (by show w.heap.size ≤ w.heap.size + 2; omega) _).setCell (p := ⟨w.heap.size + 1, xs.getD k 0, none⟩) (by show w.heap.size ≤ w.heap.size + 1; omega) _
                have x0 : (0 : Int) < ((xs.getD k 0 : Nat) : Int) := by omega
                have x0' : (0 : Int) ≤ ((xs.getD k 0 : Nat) : Int) := by omega
                have x17 : ((xs.getD k 0 : Nat) : Int) < 17 := by omega
                have p0 : (0 : Int) ≤ (((symRun xs k).1.getD (xs.getD k 0) 0 : Nat) : Int) := by omega
                have pm : (((symRun xs k).1.getD (xs.getD k 0) 0 : Nat) : Int) < (manyN xs : Int) := by omega
                have s1 : IntKind.i64.wrap ((((symRun xs k).1.getD (xs.getD k 0) 0 : Nat) : Int) + 1) = (((symRun xs k).1.getD (xs.getD k 0) 0 + 1 : Nat) : Int) := by rw [wrapZ _ (by omega)]; omega
                clear S1 P1 hS hP hL hB hpl hsl hle HSy hcl hin HS3 HP3 HL3 HB3 hmk
                obtain ⟨Q1, hQ1⟩ : ∃ q, (symRun xs k).1.getD (xs.getD k 0) 0 + 1 = q := ⟨_, rfl⟩
                rw [hQ1] at FS FP FL FB s1
                clear hQ1
                generalize (symRun xs k).1.getD (xs.getD k 0) 0 = Q at *
                generalize xs.getD k 0 = X at *
                generalize manyN xs = m at *
                go_wp2
                go_region
                all_goals go_wp2
                all_goals exact ⟨⟨k + 1, by omega, by go_num, FS.out, FP.out, FL.out, below_drawn FB.out 1⟩, by simp [intOf]; omega⟩
            · obtain rfl : k = xs.length := by omega
              have hltX : ¬ (xs.length : Int) < (xs.length : Int) := by omega
              go_wp2
              go_ret
              exact ⟨_, rfl, _, hL, hS, Nat.le_refl _, by omega, hB⟩
end Go.Proofs.YtcoinfancoeepabDoor
