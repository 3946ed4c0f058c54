/- The program's readOpening. -/
import Derived.Test.YtjgijbeedgggdaaGreatDoorNamW
namespace Go.Proofs.YtjgijbeedgggdaaGreatDoor
open Go Go.RowKit

def opC (nm : ByteArray) (raw tabs : Bool) : Array Value := #[.string nm, .bool raw, .bool tabs]
theorem op_info : (Tryz.prog.info? 304).map (·.size) = some 3 := by kernel_rfl
theorem op_one (nm : ByteArray) (a b : Bool) : (opC nm a b).all (·.oneCell') = true := by simp [opC, Value.oneCell']
theorem trimPre (raw : Ln) (h : raw.take 2 = [60, 60]) : Lib.trimPrefix raw [60, 60] = raw.drop 2 := by
  unfold Lib.trimPrefix Lib.hasPrefix
  rw [if_pos]; · rfl
  rw [List.isPrefixOf_iff_prefix]
  exact ⟨raw.drop 2, by rw [← h, List.take_append_drop]⟩
theorem cutPre (x : Ln) : Lib.trimPrefix x [45] = (if (x[0]? == some 45) = true then x.drop 1 else x) ∧ Lib.hasPrefix x [45] = (x[0]? == some 45) := by
  have h : Lib.hasPrefix x [45] = (x[0]? == some 45) := by
    unfold Lib.hasPrefix
    cases x with
    | nil => rfl
    | cons b r =>
      show ((45 : UInt8) == b && true) = (some b == some 45)
      rw [Bool.and_true]
      by_cases hb : b = 45
      · subst hb; rfl
      · have h1 : ((45 : UInt8) == b) = false := by simp; exact fun e => hb e.symm
        rw [h1]; simp [hb]
  refine ⟨?_, h⟩
  unfold Lib.trimPrefix
  rw [h]; rfl
set_option maxRecDepth 100000 in
set_option maxHeartbeats 1000000 in
theorem readOpening_p (raw : Ln) (h2 : raw.take 2 = [60, 60]) (w : World) (hs : raw.length ≤ 1099511627776) : Calls Tryz.prog 178 #[.string (bs raw)] w fun e w' => e = .returned (.tuple #[.agg (opC (bs (openL raw).1) (openL raw).2.1 (openL raw).2.2), .bool (nameL (openL raw).1)]) ∧ Below w.heap.size w w' := by
  have hT := fun W => Tryz.strings_TrimPrefix (bs raw) ⟨#[60, 60]⟩ W
  rw [show (bs raw).data.toList = raw from un_bs raw, show Lib.trimPrefix raw (⟨#[60, 60]⟩ : ByteArray).data.toList = raw.drop 2 from trimPre raw h2] at hT
  have hC := fun W => Tryz.strings_CutPrefix (bs (raw.drop 2)) ⟨#[45]⟩ W
  obtain ⟨c1, c2⟩ := cutPre (raw.drop 2)
  rw [show (bs (raw.drop 2)).data.toList = raw.drop 2 from un_bs _, show (⟨#[45]⟩ : ByteArray).data.toList = [45] from rfl, c1, c2] at hC
  have hT : ∀ W, Calls Tryz.prog 193 #[.string (bs raw), .string ⟨#[60, 60]⟩] W fun e w' => e = .returned (.string (bs (raw.drop 2))) ∧ w' = W := hT
  have hC : ∀ W, Calls Tryz.prog 192 #[.string (bs (raw.drop 2)), .string ⟨#[45]⟩] W fun e w' => e = .returned (.tuple #[.string (bs (if ((raw.drop 2)[0]? == some 45) = true then (raw.drop 2).drop 1 else raw.drop 2)), .bool ((raw.drop 2)[0]? == some 45)]) ∧ w' = W := hC
  have HO : Hid (openL raw = (if quoB (if ((raw.drop 2)[0]? == some 45) = true then (raw.drop 2).drop 1 else raw.drop 2) = true then ((if ((raw.drop 2)[0]? == some 45) = true then (raw.drop 2).drop 1 else raw.drop 2).take ((if ((raw.drop 2)[0]? == some 45) = true then (raw.drop 2).drop 1 else raw.drop 2).length - 1)).drop 1 else (if ((raw.drop 2)[0]? == some 45) = true then (raw.drop 2).drop 1 else raw.drop 2), quoB (if ((raw.drop 2)[0]? == some 45) = true then (raw.drop 2).drop 1 else raw.drop 2), (raw.drop 2)[0]? == some 45)) := rfl
  have hZl : (if ((raw.drop 2)[0]? == some 45) = true then (raw.drop 2).drop 1 else raw.drop 2).length ≤ 1099511627776 := by split <;> simp <;> omega
  generalize (if ((raw.drop 2)[0]? == some 45) = true then (raw.drop 2).drop 1 else raw.drop 2) = Z at *
  generalize ((raw.drop 2)[0]? == some 45) = T at *
  generalize bs (raw.drop 2) = R2 at *
  generalize bs raw = R at *
  have hQ := fun W => isQuoted_p (bs Z) W (by rw [size_bs]; exact hZl)
  rw [un_bs] at hQ
  have hD0 := Lies.new w 304 (opC ⟨#[]⟩ false false)
  have hB0 : Below w.heap.size w (w.alloc (.cells (opC ⟨#[]⟩ false false) 304)) := (Below.refl _ w).alloc (Nat.le_refl _) _
  rw [HO.out]
  clear c1 c2 HO h2
  cases hq : quoB Z with
  | false =>
    rw [hq] at hQ
    have hN := fun W => isName_p (bs Z) W (by rw [size_bs]; exact hZl)
    rw [un_bs] at hN
    unfold opC at hD0 hB0
    simp only [Bool.false_eq_true, if_false]
    go_enter Tryz.func178, Tryz.ntmps178
    go_wp2_with (first
      | (go_at_call 193; refine (hT _).mono ?_; rintro e w1 ⟨rfl, rfl⟩)
      | (go_at_call 192; refine (hC _).mono ?_; rintro e w2 ⟨rfl, rfl⟩)
      | (go_at_call 194; refine (hQ _).mono ?_; rintro e w3 ⟨rfl, b3⟩; have hD3 := hD0.below b3)
      | (go_at_call 195; refine (hN _).mono ?_; rintro e w4 ⟨rfl, rfl⟩)
      | (refine wpList_store_row rfl 304 (.tmp 2) (.tmp 24) rfl w.heap.size (opC (bs Z) false T) rfl rfl 304 _ hD3 op_info rfl (op_one _ _ _) ?_))
    refine bodyPost_ret (results_row_tmp rfl _ _ w.heap.size 304 (opC (bs Z) false T) (0, 0) _ rfl (lies_setRow hD3 _) Tryz.underlying304 rfl op_info) rfl ?_
    exact ⟨rfl, below_setRow' (below_join hB0 b3) (Nat.le_refl _) _⟩
  | true =>
    rw [hq] at hQ
    have hz2 : 2 ≤ Z.length := by
      unfold quoB at hq
      rw [Bool.and_eq_true, Bool.and_eq_true] at hq
      exact of_decide_eq_true hq.1.1
    have hX : (bs Z).extract 1 (Z.length - 1) = bs ((Z.take (Z.length - 1)).drop 1) := by rw [ext_bs, un_bs]
    have hzs : ((bs Z).size : Int) = (Z.length : Int) := by rw [size_bs]
    have hw1 : IntKind.i64.wrap ((Z.length : Int) - 1) = ((Z.length - 1 : Nat) : Int) := by rw [wrap_small _ (by omega) (by omega)]; omega
    have d1 : (1 : Int) ≤ ((Z.length - 1 : Nat) : Int) := by omega
    have d2 : ((Z.length - 1 : Nat) : Int) ≤ (Z.length : Int) := by omega
    have hN := fun W => isName_p (bs ((Z.take (Z.length - 1)).drop 1)) W (by rw [size_bs]; simp; omega)
    rw [un_bs] at hN
    simp only [if_true]
    unfold opC at hD0 hB0
    generalize (Z.take (Z.length - 1)).drop 1 = Y at *
    go_enter Tryz.func178, Tryz.ntmps178
    go_wp2_with (first
      | (go_at_call 193; refine (hT _).mono ?_; rintro e w1 ⟨rfl, rfl⟩)
      | (go_at_call 192; refine (hC _).mono ?_; rintro e w2 ⟨rfl, rfl⟩)
      | (go_at_call 194; refine (hQ _).mono ?_; rintro e w3 ⟨rfl, b3⟩; have hD3 := hD0.below b3)
      | (go_at_call 195; refine (hN _).mono ?_; rintro e w4 ⟨rfl, rfl⟩)
      | (refine wpList_store_row rfl 304 (.tmp 2) (.tmp 24) rfl w.heap.size (opC (bs Y) true T) rfl rfl 304 _ hD3 op_info rfl (op_one _ _ _) ?_))
    refine bodyPost_ret (results_row_tmp rfl _ _ w.heap.size 304 (opC (bs Y) true T) (0, 0) _ rfl (lies_setRow hD3 _) Tryz.underlying304 rfl op_info) rfl ?_
    exact ⟨rfl, below_setRow' (below_join hB0 b3) (Nat.le_refl _) _⟩
end Go.Proofs.YtjgijbeedgggdaaGreatDoor
