/- Package ustar's number and text: a field that is read. -/
import Derived.Test.YtgdkgdlgalinbaaGreatDoorOctU
namespace Go.Proofs.YtgdkgdlgalinbaaGreatDoor
open Go Go.RowKit

def isOct (c : UInt8) : Bool := decide (48 ≤ c.toNat) && decide (c.toNat ≤ 55)
/-- What is left of a field between blanks ahead and blanks and bytes 0 behind. -/
def coreL (l : List UInt8) : List UInt8 := (l.drop (blanks l)).take (coreN (l.drop (blanks l)))
/-- A field's number, and whether it has one. -/
def numV (l : List UInt8) : Nat × Bool := if coreL l = [] then (0, false) else if (coreL l).all isOct then (valO (coreL l), true) else (0, false)
def fieldL (cs : List UInt8) (f : Nat) : List UInt8 := (cs.drop (bg f)).take (rm f)
def textL (l : List UInt8) : List UInt8 := l.take (headN l)
theorem headN_le (l : List UInt8) : headN l ≤ l.length := by
  unfold headN
  have := congrArg List.length (List.takeWhile_append_dropWhile (p := fun x : UInt8 => x != 0) (l := l))
  rw [List.length_append] at this
  omega
theorem fieldL_length (cs : List UInt8) (hc : cs.length = 512) (f : Nat) (hf : f < 16) : (fieldL cs f).length = rm f := by
  have h1 := bg_lt f hf
  have h2 := bg_le (f + 1) (by omega)
  unfold fieldL rm
  simp; omega
theorem zero_one : (Tryz.prog.info? 5).map (·.zero) = some (some (.int .u8 0)) := by kernel_rfl
set_option maxRecDepth 100000 in
theorem text_p (S : Shelf5) (f : Nat) (hf : f < 16) (b : Nat) (cs : List UInt8) (w : World) (hc : cs.length = 512) (hL : Lies w b 59 (bcs cs)) (hE : Env w) :
    Calls Tryz.prog 37 #[.pointer (some ⟨b, 0, none⟩), .int .i64 f] w fun e w' => e = .returned (.string (bs (textL (fieldL cs f)))) ∧ Below w.heap.size w w' := by
  have hbt := bytes_p f hf b w hE.tab
  have h1 := bg_lt f hf
  have h2 := bg_le (f + 1) (by omega)
  have h3 : bg f + rm f ≤ 512 := by unfold rm; omega
  have hcut := fun (W : World) (q : Nat) (hW : Lies W b 59 (bcs cs)) (hq : W.cell? ⟨q, 0, none⟩ = some (.int .u8 0)) => S.cut 59 cs b (bg f) (rm f) (512 - bg f) q W hW (by omega) (by omega) (by omega) hq
  have hcv := fun (W : World) (hW : Lies W b 59 (bcs cs)) => conv_lies cs b (bg f) (headN (fieldL cs f)) (512 - bg f) W 59 hW (by have := headN_le (fieldL cs f); rw [fieldL_length cs hc f hf] at this; omega)
  have HT : Hid ((cs.drop (bg f)).take (headN (fieldL cs f)) = textL (fieldL cs f)) := by
    unfold Hid textL
    conv => rhs; arg 2; unfold fieldL
    rw [List.take_take, Nat.min_eq_left (by have := headN_le (fieldL cs f); rw [fieldL_length cs hc f hf] at this; exact this)]
  have HC : Hid _ := hcut
  have HV : Hid (∀ W : World, Lies W b 59 (bcs cs) → (convert 44 9 (.slice (some ⟨b, bg f, none⟩) (headN (fieldL cs f)) (512 - bg f))).run Tryz.prog W = .ok (.string (bs (textL (fieldL cs f)))) W) := by
    rw [HT.out] at hcv; exact hcv
  have HL : Hid (Lies w b 59 (bcs cs)) := hL
  clear hcut hcv hL h1 h2 h3 HT
  go_enter Tryz.func37, Tryz.ntmps37
  go_wp2_with fail
  refine hbt.mono ?_
  rintro e w1 ⟨rfl, d, rfl⟩
  go_wp2_with fail
  have L1 : Lies ((w.drewN d).alloc (.cells #[.int .u8 0] 5)) b 59 (bcs cs) := (HL.out.drew d).alloc _
  have hq : ((w.drewN d).alloc (.cells #[.int .u8 0] 5)).cell? ⟨w.heap.size, 0, none⟩ = some (.int .u8 0) := (Lies.new (w.drewN d) _ _).cell rfl
  have B1 : Below w.heap.size w ((w.drewN d).alloc (.cells #[.int .u8 0] 5)) := (below_drawn (Below.refl _ w) d).alloc (Nat.le_refl _) _
  refine (HC.out _ w.heap.size L1 hq).mono ?_
  rintro e w2 ⟨v, u, rfl, b2⟩
  have hv := HV.out w2 (L1.below b2)
  have HB2 : Hid (Below w.heap.size w w2) := below_join B1 b2
  clear L1 hq B1 b2 HV HC HL
  change Calls _ _ _ _ _ at hbt
  rw [show (cs.drop (bg f)).take (rm f) = fieldL cs f from rfl]
  generalize headN (fieldL cs f) = hn at *
  obtain ⟨R, hR⟩ : ∃ R, bs (textL (fieldL cs f)) = R := ⟨_, rfl⟩
  have HR : Hid (bs (textL (fieldL cs f)) = R) := hR
  rw [hR] at hv
  clear hR
  go_wp2
  go_ret
  exact ⟨by rw [HR.out]; rfl, HB2.out⟩

theorem wrap_small (n : Nat) (h : n < 9223372036854775808) : IntKind.i64.wrap (n : Int) = (n : Int) := by
  have e : (n : Int) % 2 ^ 64 = n := Int.emod_eq_of_lt (by omega) (by omega)
  simp only [IntKind.wrap, IntKind.bits, IntKind.signed, e]
  rw [if_neg]
  simp
  omega
theorem or8 (n d : Nat) (hn : n < 1099511627776) (hd : d < 8) : bits .or .i64 ((n : Int) * 8) (d : Int) = ((8 * n + d : Nat) : Int) := by
  rw [show (n : Int) * 8 = ((n * 8 : Nat) : Int) by omega]
  show IntKind.i64.wrap ((BitVec.ofInt 64 ((n * 8 : Nat) : Int) ||| BitVec.ofInt 64 (d : Int)).toNat : Int) = _
  rw [BitVec.toNat_or, ofInt_u64 (n * 8) (by omega), ofInt_u64 d (by omega), show n * 8 = n <<< 3 by rw [Nat.shiftLeft_eq], ← Nat.shiftLeft_add_eq_or_of_lt (by omega : d < 2 ^ 3), Nat.shiftLeft_eq]
  rw [show n * 2 ^ 3 + d = 8 * n + d by omega]
  exact wrap_small _ (by omega)
theorem fold_lt : ∀ (l : List UInt8) (a : Nat), (∀ c ∈ l, c.toNat ≤ 55) → l.foldl (fun n c => 8 * n + (c.toNat - 48)) a < (a + 1) * 8 ^ l.length
  | [], a, _ => by simp
  | c :: l, a, h => by
    have h1 := fold_lt l (8 * a + (c.toNat - 48)) (fun x hx => h x (List.mem_cons_of_mem _ hx))
    have h2 := h c List.mem_cons_self
    rw [List.foldl_cons, List.length_cons, Nat.pow_succ, Nat.mul_comm (8 ^ l.length) 8, ← Nat.mul_assoc]
    exact Nat.lt_of_lt_of_le h1 (Nat.mul_le_mul_right _ (by omega))
theorem valO_lt (l : List UInt8) (h : ∀ c ∈ l, c.toNat ≤ 55) : valO l < 8 ^ l.length := by
  have := fold_lt l 0 h
  unfold valO
  omega
theorem coreL_length_le (l : List UInt8) : (coreL l).length ≤ l.length := by unfold coreL; simp; omega
theorem coreN_le (l : List UInt8) : coreN l ≤ l.length := by
  unfold coreN
  have := congrArg List.length (List.takeWhile_append_dropWhile (p := fun c : UInt8 => c == 0 || c == 32) (l := l.reverse))
  rw [List.length_append, List.length_reverse] at this
  omega
set_option maxRecDepth 100000 in
set_option maxHeartbeats 1000000 in
/-- The digits of a field, read. -/
theorem digits_p (S : Shelf5) (f : Nat) (hf : f < 16) (hr : rm f ≤ 12) (b : Nat) (cs : List UInt8) (w : World) (hc : cs.length = 512) (hL : Lies w b 59 (bcs cs)) (hE : Env w) :
    Calls Tryz.prog 34 #[.pointer (some ⟨b, 0, none⟩), .int .i64 f] w fun e w' => e = .returned (.tuple #[.int .i64 (numV (fieldL cs f)).1, .bool (numV (fieldL cs f)).2]) ∧ Below w.heap.size w w' := by
  have hbt := bytes_p f hf b w hE.tab
  have h1 := bg_lt f hf
  have h2 := bg_le (f + 1) (by omega)
  have h3 : bg f + rm f ≤ 512 := by unfold rm; omega
  have hr0 : 0 < rm f := by unfold rm; omega
  have hfl := fieldL_length cs hc f hf
  have htl := fun (W : World) (hW : Lies W b 59 (bcs cs)) => S.triml 59 cs b (bg f) (rm f) (512 - bg f) W hW hr0 (by omega) (by omega) (by omega)
  rw [show (cs.drop (bg f)).take (rm f) = fieldL cs f from rfl] at htl
  go_enter Tryz.func34, Tryz.ntmps34
  go_wp2_with fail
  refine hbt.mono ?_
  rintro e w1 ⟨rfl, d, rfl⟩
  go_wp2_with fail
  refine (htl (w.drewN d) (hL.drew d)).mono ?_
  rintro e w2 ⟨rfl, b2⟩
  have L2 := (hL.drew d).below b2
  have B2 : Below w.heap.size w w2 := (below_drawn (Below.refl _ w) d).trans b2
  clear b2 hbt htl
  by_cases hbl : blanks (fieldL cs f) = rm f
  · rw [if_pos hbl]
    have HV : Hid (numV (fieldL cs f) = (0, false)) := by
      unfold Hid numV
      rw [if_pos (by unfold coreL; rw [hbl, List.drop_of_length_le (by omega)]; rfl)]
    clear hbl
    go_wp2_with fail
    refine (S.trimn w2).mono ?_
    rintro e w3 ⟨rfl, b3⟩
    go_wp2
    go_ret2
    exact ⟨by rw [HV.out]; rfl, below_join B2 b3⟩
  rw [if_neg hbl]
  have hble : blanks (fieldL cs f) ≤ (fieldL cs f).length := by
    unfold blanks
    have := congrArg List.length (List.takeWhile_append_dropWhile (p := fun c : UInt8 => c == 32) (l := fieldL cs f))
    rw [List.length_append] at this
    omega
  obtain ⟨q, hq⟩ : ∃ q, blanks (fieldL cs f) = q := ⟨_, rfl⟩
  rw [hq] at hbl hble ⊢
  have hD : (cs.drop (bg f + q)).take (rm f - q) = (fieldL cs f).drop q := by
    unfold fieldL; rw [List.drop_take, List.drop_drop]
  have htr := S.trimr 59 cs b (bg f + q) (rm f - q) (512 - bg f - q) w2 L2 (by omega) (by omega) (by omega) (by omega)
  rw [hD] at htr
  obtain ⟨t, ht⟩ : ∃ t, coreL (fieldL cs f) = t := ⟨_, rfl⟩
  have ht2 : ((fieldL cs f).drop q).take (coreN ((fieldL cs f).drop q)) = t := by rw [← ht]; unfold coreL; rw [hq]
  have hcn := coreN_le ((fieldL cs f).drop q)
  obtain ⟨m, hm⟩ : ∃ m, coreN ((fieldL cs f).drop q) = m := ⟨_, rfl⟩
  rw [hm] at htr ht2 hcn
  have hdl : ((fieldL cs f).drop q).length = rm f - q := by rw [List.length_drop, hfl]
  have htlen : t.length = m := by rw [← ht2, List.length_take]; omega
  have HV : Hid (numV (fieldL cs f) = if t = [] then (0, false) else if t.all isOct then (valO t, true) else (0, false)) := by
    unfold Hid numV; rw [ht]
  have hcell : ∀ (W : World) (_ : Lies W b 59 (bcs cs)) (j : Nat) (hj : j < m), W.cell? ⟨b, bg f + q + j, none⟩ = some (.int .u8 (t.getD j 0).toNat) := fun W hW j hj => by
    have e1 : t[j]? = cs[bg f + q + j]? := by
      rw [← ht2, List.getElem?_take_of_lt hj, ← hD, List.getElem?_take_of_lt (by omega), List.getElem?_drop]
    have hj2 : bg f + q + j < cs.length := by omega
    rw [hW.cell (bcs_get cs (bg f + q + j) hj2), List.getD_eq_getElem?_getD, e1, List.getElem?_eq_getElem hj2]
    rfl
  go_wp2_with fail
  refine htr.mono ?_
  rintro e w3 ⟨rfl, b3⟩
  have HC : Hid (∀ j, j < m → w3.cell? ⟨b, bg f + q + j, none⟩ = some (.int .u8 (t.getD j 0).toNat)) := fun j hj => hcell w3 (L2.below b3) j hj
  have B3 := below_join B2 b3
  have hm12 : m ≤ 12 := by omega
  clear htr hcell b3 B2 L2 hD ht ht2 hm hcn hdl hq hble hbl hfl hL hc hE h1 h2 h3 S
  generalize bg f + q = o at *
  generalize 512 - bg f - q = cp at *
  by_cases hm0 : m = 0
  · subst hm0
    have HT : Hid (t = []) := List.length_eq_zero_iff.1 htlen
    go_wp2
    go_ret2
    exact ⟨by rw [HV.out, if_pos HT.out]; rfl, B3⟩
  have HT : Hid (¬ t = []) := fun e => hm0 (by rw [← htlen, e]; rfl)
  have hm0' : ((m : Int) == 0) = false := beq_eq_false_iff_ne.2 (by omega)
  go_wp2
  go_loopw [7, 20] (fun v n wr => ∃ k : Nat, k ≤ m ∧ n = .int .i64 k ∧ v = .int .i64 (valO (t.take k) : Int) ∧ Hid (∀ c ∈ t.take k, isOct c = true) ∧ wr = w3) (fun _ n _ => m - (intOf n).toNat)
  case atStart => exact ⟨0, by omega, rfl, rfl, fun c hc => by simp at hc, rfl⟩
  case round =>
    obtain ⟨k, hk, rfl, rfl, HA, rfl⟩ := hrel
    by_cases hlt : k < m
    · have ck := HC.out k hlt
      have hkl : k < t.length := by omega
      have htk : t.take (k + 1) = t.take k ++ [t.getD k 0] := by
        rw [List.take_add_one, List.getElem?_eq_getElem hkl, List.getD_eq_getElem?_getD, List.getElem?_eq_getElem hkl]; rfl
      have hmem : t.getD k 0 ∈ t := by rw [List.getD_eq_getElem?_getD, List.getElem?_eq_getElem hkl]; exact List.getElem_mem hkl
      have hvl := valO_lt (t.take k) (fun c hc => by have := HA.out c hc; unfold isOct at this; rw [Bool.and_eq_true, decide_eq_true_iff, decide_eq_true_iff] at this; exact this.2)
      have hv12 : valO (t.take k) < 68719476736 := Nat.lt_of_lt_of_le hvl (by rw [List.length_take]; exact Nat.pow_le_pow_right (by decide) (show min k t.length ≤ 12 by omega))
      have HK : Hid (t.take (k + 1) = t.take k ++ [t.getD k 0]) := htk
      have HM : Hid (t.getD k 0 ∈ t) := hmem
      have hc8 := (t.getD k 0).toNat_lt
      have HVS : Hid (valO (t.take (k + 1)) = 8 * valO (t.take k) + ((t.getD k 0).toNat - 48)) := by unfold Hid; rw [htk, valO_snoc]
      generalize valO (t.take k) = V at *
      generalize t.getD k 0 = c at *
      clear htk hmem hvl
      have e1 : (0 : Int) ≤ (k : Int) := by omega
      have e2 : (k : Int) < (m : Int) := by omega
      by_cases ho : 48 ≤ c.toNat ∧ c.toNat ≤ 55
      · obtain ⟨x, hx⟩ : ∃ x, c.toNat = 48 + x := ⟨c.toNat - 48, by omega⟩
        have hor := or8 V x (by omega) (by omega)
        have HX : Hid (c.toNat = 48 + x) := hx
        rw [hx] at ck
        have hx8 : x < 8 := by omega
        have HOR : Hid (bits .or .i64 ((V : Int) * 8) (x : Int) = ((8 * V + x : Nat) : Int)) := hor
        clear hx hor
        go_wp2
        refine ⟨⟨k + 1, by omega, by go_num, ?_, fun y hy => ?_, trivial⟩, by simp [intOf]; omega⟩
        · rw [HVS.out, HX.out, show (48 : Int) + (x : Int) - 48 = (x : Int) by omega, HOR.out, show 48 + x - 48 = x by omega]
        · rw [HK.out, List.mem_append, List.mem_singleton] at hy
          rcases hy with hy | rfl
          · exact HA.out y hy
          · unfold isOct; rw [Bool.and_eq_true, decide_eq_true_iff, decide_eq_true_iff]; exact ho
      · have HNO : Hid (t.all isOct = false) := by
          unfold Hid
          rw [List.all_eq_false]
          refine ⟨c, HM.out, ?_⟩
          unfold isOct
          rw [Bool.and_eq_true, decide_eq_true_iff, decide_eq_true_iff]; exact ho
        by_cases hlo : c.toNat < 48
        · have hlo' : (c.toNat : Int) < 48 := by omega
          clear ho
          go_wp2
          go_ret2
          exact ⟨by rw [HV.out, if_neg HT.out, if_neg (by rw [HNO.out]; decide)]; rfl, B3⟩
        · have hlo' : ¬ (c.toNat : Int) < 48 := by omega
          have hhi' : (55 : Int) < (c.toNat : Int) := by omega
          clear ho
          go_wp2
          go_ret2
          exact ⟨by rw [HV.out, if_neg HT.out, if_neg (by rw [HNO.out]; decide)]; rfl, B3⟩
    · obtain rfl : k = m := by omega
      have HTT : Hid (t.take k = t) := List.take_of_length_le (by omega)
      have HYO : Hid (t.all isOct = true) := by
        unfold Hid
        rw [List.all_eq_true]
        intro c hc
        exact HA.out c (by rw [HTT.out]; exact hc)
      rw [HTT.out]
      generalize hV : valO t = V at *
      have HVV : Hid (valO t = V) := hV
      clear hV
      go_wp2
      go_ret2
      exact ⟨by rw [HV.out, if_neg HT.out, if_pos HYO.out]; rfl, B3⟩
end Go.Proofs.YtgdkgdlgalinbaaGreatDoor
