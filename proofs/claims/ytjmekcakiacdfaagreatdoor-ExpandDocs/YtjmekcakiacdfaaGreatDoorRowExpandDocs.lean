/- ExpandDocs, for every document's text, escape and list of variables: the program answers what the document answers, and leaves the list as it was: from its walk to its row and its card. -/
import Derived.Test.YtjmekcakiacdfaaGreatDoorDcL
import Derived.Deep.MidRow
import Derived.Deep.Cut
import Derived.Lib.AppendStr
import Derived.Test.YtjmekcakiacdfaaGreatDoorWrdW
import Derived.Test.YtjmekcakiacdfaaGreatDoorBytes
import Derived.Laws.IdiomStrings
import Derived.Laws.CopyOwn
import Derived.Laws.StructEq
import Derived.Laws.OwnMore
import Derived.Laws.Tables
import Derived.Laws.AppendOwn
import Derived.OwnWalk
import Derived.Deep.CutRange
import Derived.ChangeKeysEq
import Derived.Test.YtjmekcakiacdfaaGreatDoorPrX
import Derived.Test.YtjmekcakiacdfaaGreatDoorWksX
import Derived.Test.YtjmekcakiacdfaaGreatDoorPlain
import Derived.Test.YtjmekcakiacdfaaGreatDoorCards
import Derived.Test.YtjmekcakiacdfaaGreatDoorTie
import Derived.Test.YtjmekcakiacdfaaGreatDoorLaid
import Derived.Test.YtjmekcakiacdfaaGreatDoorLaidX
import Derived.ProofKit
import Derived.OpenShut
import Derived.SizedLaws
import Derived.Deep.DeepHandedRow
import Derived.SevenTiedAt

namespace Go.Proofs.YtjmekcakiacdfaaGreatDoor
open Go Go.RowKit

mutual
def txtP (vs : List (List UInt8 × List UInt8)) : Pt → List UInt8
  | .mk t n o ks => (if o = 43 then [] else (if n = [] then t else valL vs n)) ++ (if (o = 45 ∧ (if n = [] then t else valL vs n) = []) ∨ (o = 43 ∧ (if n = [] then t else valL vs n) ≠ []) then txtL vs ks else [])
def txtL (vs : List (List UInt8 × List UInt8)) : List Pt → List UInt8
  | [] => []
  | p :: l => txtP vs p ++ txtL vs l
end
theorem txtL_append (vs : List (List UInt8 × List UInt8)) (a b : List Pt) : txtL vs (a ++ b) = txtL vs a ++ txtL vs b := by
  induction a with
  | nil => rw [txtL]; rfl
  | cons p a ih => rw [List.cons_append, txtL, txtL, ih, List.append_assoc]
theorem txtL_one (vs : List (List UInt8 × List UInt8)) (p : Pt) : txtL vs [p] = txtP vs p := by rw [txtL, txtL, List.append_nil]
mutual
/-- Hid pieces come to nothing, and leave the depth as it was. -/
theorem hid_P (vs : List (List UInt8 × List UInt8)) : ∀ (p : Pt) (d : Dp), 0 < d.hid → d.hid ≤ d.depth → den vs (flatP p) d = [] ∧ depL vs (flatP p) d = d
  | .mk t n o ks, d, h1, h2 => by
    have hl := hid_L vs ks
    rw [flatP]
    have e1 : ∀ p : Pc, layP vs p d = [] := fun p => by unfold layP; rw [if_pos h1]
    have e2 : ∀ c : Bool, begD c d = ⟨d.depth + 1, d.hid⟩ := fun c => by
      unfold begD
      rw [if_neg (by rintro ⟨_, h⟩; omega)]
    have e3 : endD ⟨d.depth + 1, d.hid⟩ = d := by
      unfold endD
      cases d with
      | mk a b =>
        simp only at h1 h2 ⊢
        rw [if_neg (by omega)]
        congr 1
        omega
    have e4 := hl ⟨d.depth + 1, d.hid⟩ h1 (by simp only; omega)
    have e5 : layP vs .fin ⟨d.depth + 1, d.hid⟩ = [] := by unfold layP; rw [if_pos h1]
    split
    · split
      · split
        · have := hl d h1 h2
          simp only [den, depL, e1, stepD, this.1, this.2]
          all_goals (refine ⟨?_, ?_⟩ <;> first | rfl | trivial | simp)
        · simp only [den, depL, e1, stepD]
          all_goals (refine ⟨?_, ?_⟩ <;> first | rfl | trivial | simp)
      · split
        · split
          · exact ⟨rfl, rfl⟩
          · exact hl d h1 h2
        · simp only [den, depL, e1, stepD]
          all_goals (refine ⟨?_, ?_⟩ <;> first | rfl | trivial | simp)
    · split
      · rw [den_append, depL_append]
        simp only [den, depL, e1, stepD, e2, e4.1, e4.2, e5, e3]
        all_goals (refine ⟨?_, ?_⟩ <;> first | rfl | trivial | simp)
      · split
        · rw [den_append, depL_append]
          simp only [den, depL, e1, stepD, e2, e4.1, e4.2, e5, e3]
          all_goals (refine ⟨?_, ?_⟩ <;> first | rfl | trivial | simp)
        · simp only [den, depL, e1, stepD]
          all_goals (refine ⟨?_, ?_⟩ <;> first | rfl | trivial | simp)
theorem hid_L (vs : List (List UInt8 × List UInt8)) : ∀ (l : List Pt) (d : Dp), 0 < d.hid → d.hid ≤ d.depth → den vs (flatL l) d = [] ∧ depL vs (flatL l) d = d
  | [], d, _, _ => by rw [flatL]; exact ⟨rfl, rfl⟩
  | p :: l, d, h1, h2 => by
    rw [flatL, den_append, depL_append]
    obtain ⟨a1, a2⟩ := hid_P vs p d h1 h2
    obtain ⟨b1, b2⟩ := hid_L vs l d h1 h2
    rw [a1, a2, b1, b2]
    exact ⟨rfl, rfl⟩
end
mutual
theorem txt_P (vs : List (List UInt8 × List UInt8)) : ∀ (p : Pt) (dep : Int), 0 ≤ dep → den vs (flatP p) ⟨dep, 0⟩ = txtP vs p ∧ depL vs (flatP p) ⟨dep, 0⟩ = ⟨dep, 0⟩
  | .mk t n o ks, dep, hd => by
    have hl := txt_L vs ks
    have hh := hid_L vs ks
    rw [flatP, txtP]
    have e0 : ¬ (0 : Int) < 0 := by omega
    by_cases hn : n = []
    · rw [if_pos hn]
      simp only [hn, if_true]
      by_cases h5 : o = 45
      · subst h5
        simp only [if_true, true_and, show ¬ ((45 : UInt8) = 43) by decide, if_false, false_and, or_false]
        by_cases ht : t = []
        · subst ht
          have := hl dep hd
          simp only [if_true, den, depL, stepD, layP, e0, if_false, this.1, this.2]
          all_goals (refine ⟨?_, ?_⟩ <;> first | rfl | trivial | simp)
        · simp only [ht, if_false, den, depL, stepD, layP, e0]
          all_goals (refine ⟨?_, ?_⟩ <;> first | rfl | trivial | simp)
      · by_cases h3 : o = 43
        · subst h3
          simp only [if_true, true_and, show ¬ ((43 : UInt8) = 45) by decide, if_false, false_and, false_or]
          by_cases ht : t = []
          · subst ht
            simp
            all_goals (refine ⟨?_, ?_⟩ <;> first | rfl | trivial | simp)
          · have := hl dep hd
            simp only [ht, if_false, ne_eq, not_false_eq_true, if_true, this.1, this.2]
            all_goals (refine ⟨?_, ?_⟩ <;> first | rfl | trivial | simp)
        · simp only [h5, h3, if_false, false_and, or_self, den, depL, stepD, layP, e0]
          all_goals (refine ⟨?_, ?_⟩ <;> first | rfl | trivial | simp)
    · rw [if_neg hn]
      simp only [hn, if_false]
      by_cases h5 : o = 45
      · subst h5
        simp only [if_true, true_and, show ¬ ((45 : UInt8) = 43) by decide, if_false, false_and, or_false]
        rw [den_append, depL_append]
        by_cases hv : valL vs n = []
        · have := hl (dep + 1) (by omega)
          have e1 : begD true ⟨dep, 0⟩ = ⟨dep + 1, 0⟩ := rfl
          have e2 : endD ⟨dep + 1, 0⟩ = ⟨dep, 0⟩ := by
            unfold endD
            simp only
            rw [if_neg (by omega)]
            congr 1
            omega
          simp only [den, depL, stepD, layP, e0, if_false, hv, List.isEmpty_nil, e1, this.1, this.2, e2, if_true]
          all_goals (refine ⟨?_, ?_⟩ <;> first | rfl | trivial | simp)
        · have e1 : begD (valL vs n).isEmpty ⟨dep, 0⟩ = ⟨dep + 1, dep + 1⟩ := by
            cases h : valL vs n with
            | nil => exact (hv h).elim
            | cons a b => rfl
          have := hh ⟨dep + 1, dep + 1⟩ (by simp only; omega) (by simp only; omega)
          have e2 : endD ⟨dep + 1, dep + 1⟩ = ⟨dep, 0⟩ := by
            unfold endD
            simp only [if_true]
            congr 1
            omega
          have e3 : (0 : Int) < dep + 1 := by omega
          simp only [den, depL, stepD, layP, e0, if_false, e1, this.1, this.2, e2, hv, e3, if_true]
          all_goals (refine ⟨?_, ?_⟩ <;> first | rfl | trivial | simp)
      · by_cases h3 : o = 43
        · subst h3
          simp only [if_true, true_and, show ¬ ((43 : UInt8) = 45) by decide, if_false, false_and, false_or]
          rw [den_append, depL_append]
          by_cases hv : valL vs n = []
          · have e1 : begD (!true) ⟨dep, 0⟩ = ⟨dep + 1, dep + 1⟩ := rfl
            have := hh ⟨dep + 1, dep + 1⟩ (by simp only; omega) (by simp only; omega)
            have e2 : endD ⟨dep + 1, dep + 1⟩ = ⟨dep, 0⟩ := by
              unfold endD
              simp only [if_true]
              congr 1
              omega
            have e3 : (0 : Int) < dep + 1 := by omega
            simp only [den, depL, stepD, layP, e0, if_false, hv, List.isEmpty_nil, e1, this.1, this.2, e2, e3, if_true, ne_eq, not_true_eq_false]
            all_goals (refine ⟨?_, ?_⟩ <;> first | rfl | trivial | simp)
          · have e1 : begD (!(valL vs n).isEmpty) ⟨dep, 0⟩ = ⟨dep + 1, 0⟩ := by
              cases h : valL vs n with
              | nil => exact (hv h).elim
              | cons a b => rfl
            have := hl (dep + 1) (by omega)
            have e2 : endD ⟨dep + 1, 0⟩ = ⟨dep, 0⟩ := by
              unfold endD
              simp only
              rw [if_neg (by omega)]
              congr 1
              omega
            simp only [den, depL, stepD, layP, e0, if_false, e1, this.1, this.2, e2, hv, ne_eq, not_false_eq_true, if_true]
            all_goals (refine ⟨?_, ?_⟩ <;> first | rfl | trivial | simp)
        · simp only [h5, h3, if_false, false_and, or_self, den, depL, stepD, layP, e0]
          all_goals (refine ⟨?_, ?_⟩ <;> first | rfl | trivial | simp)
theorem txt_L (vs : List (List UInt8 × List UInt8)) : ∀ (l : List Pt) (dep : Int), 0 ≤ dep → den vs (flatL l) ⟨dep, 0⟩ = txtL vs l ∧ depL vs (flatL l) ⟨dep, 0⟩ = ⟨dep, 0⟩
  | [], dep, _ => by rw [flatL, txtL]; exact ⟨rfl, rfl⟩
  | p :: l, dep, hd => by
    rw [flatL, txtL, den_append, depL_append]
    obtain ⟨a1, a2⟩ := txt_P vs p dep hd
    obtain ⟨b1, b2⟩ := txt_L vs l dep hd
    rw [a1, a2, b1, b2]
    exact ⟨rfl, rfl⟩
end
/-- What a whole text comes to. -/
theorem ans_txt {e : UInt8} {m : Nat} (hm : m ≤ 1) (vs : List (List UInt8 × List UInt8)) {l : List UInt8} {ts : List Pt} (h : Run e [m] l [m] [] (flatL ts)) : ansL vs (eachL e [m] l) = if 65536 < (txtL vs ts).length then (5, []) else (0, txtL vs ts) := by
  obtain ⟨h1, h2⟩ := whole_ok hm h
  unfold ansL
  rw [if_neg (by omega), (h2.1 vs d0).1, show d0 = ⟨0, 0⟩ from rfl, (txt_L vs ts 0 (Int.le_refl _)).1]
end Go.Proofs.YtjmekcakiacdfaaGreatDoor

namespace Go.Proofs.YtjmekcakiacdfaaGreatDoor
open Go Go.RowKit

theorem val_none' {vs : List PrZ} {n : ByteArray} (h : ∀ (q : Nat) (y : PrZ), 0 ≤ q → vs[q]? = some y → y.key ≠ n) : valL (prL vs) (un n) = [] := val_none (fun i x hx => h i x (Nat.zero_le _) hx)
set_option maxHeartbeats 2000000 in
set_option maxRecDepth 100000 in
theorem value_r (x : ByteArray) (v : Value) (vs : List PrZ) (W : World) (hv : PrsAt W v vs) (hl : vs.length ≤ 1099511627776) : Calls Tryz.prog 42 #[v, .string x] W fun y w' => y = .returned (.string (bs (valL (prL vs) (un x)))) ∧ w' = W := by
  obtain ⟨a, cap, b, o, rfl, ha, hcap, hc⟩ := hv
  have HC : Hid (∀ (i : Nat) (e : PrZ), vs[i]? = some e → PrC W b (o + i * 2) e) := hc
  have HA : Hid (vs ≠ [] → a = some ⟨b, o, none⟩) := ha
  have w0 : IntKind.i64.wrap ((vs.length : Int) - 1) = (vs.length : Int) - 1 := by rw [IntKind.wrap_i64]; omega
  clear hc ha
  go_enter Tryz.func42, Tryz.ntmps42
  go_wp2
  go_loop [5] (fun i => ∃ j : Nat, j ≤ vs.length ∧ i = .int .i64 ((j : Int) - 1) ∧ Hid (∀ (q : Nat) (y : PrZ), j ≤ q → vs[q]? = some y → y.key ≠ x)) (fun i => (intOf i + 1).toNat)
  case atStart => exact ⟨vs.length, Nat.le_refl _, rfl, fun q y h1 h2 => by have := (List.getElem?_eq_some_iff.1 h2).1; omega⟩
  case round =>
    obtain ⟨j, hj, rfl, HN⟩ := hrel
    cases j with
    | zero =>
      have HV : Hid (valL (prL vs) (un x) = []) := val_none' HN.out
      go_wp2
      go_ret
      exact ⟨by rw [HV.out]; rfl, rfl⟩
    | succ j =>
      have hjl : j < vs.length := by omega
      obtain ⟨y, hy⟩ : ∃ y, vs[j]? = some y := ⟨_, List.getElem?_eq_getElem hjl⟩
      obtain rfl := HA.out (fun e => by rw [e] at hjl; simp at hjl)
      obtain ⟨c0, c1⟩ := HC.out j y hy
      have HY : Hid (vs[j]? = some y) := hy
      have e0 : ((j + 1 : Nat) : Int) - 1 = (j : Int) := by omega
      rw [e0]
      have d0 : (0 : Int) ≤ (j : Int) := by omega
      have d1 : (j : Int) < (vs.length : Int) := by omega
      have w1 : IntKind.i64.wrap ((j : Int) - 1) = (j : Int) - 1 := by rw [IntKind.wrap_i64]; omega
      have hq : (y.key.toList == x.toList) = decide (y.key = x) := by
        rw [Bool.eq_iff_iff, beq_iff_eq, decide_eq_true_iff, toList_un, toList_un]
        exact ⟨fun h => un_inj h, fun h => by rw [h]⟩
      clear hy e0
      by_cases hk : y.key = x
      · have HV : Hid (valL (prL vs) (un x) = un y.val) := val_last HY.out hk (fun q z h1 h2 => HN.out q z (by omega) h2)
        rw [decide_eq_true hk] at hq
        clear hk
        go_wp2
        go_ret
        exact ⟨by rw [HV.out, bs_un]; rfl, rfl⟩
      · have HN2 : Hid (∀ (q : Nat) (z : PrZ), j ≤ q → vs[q]? = some z → z.key ≠ x) := fun q z h1 h2 => by
          rcases Nat.lt_or_ge j q with h3 | h3
          · exact HN.out q z h3 h2
          · obtain rfl : q = j := by omega
            obtain rfl := Option.some.inj (HY.out.symm.trans h2)
            exact hk
        rw [decide_eq_false hk] at hq
        clear hk
        go_wp2
        first
          | exact ⟨⟨j, by omega, rfl, HN2⟩, by simp [intOf]⟩
          | (go_round
             case rel => exact ⟨j, by omega, rfl, HN2⟩
             case measure => simp [intOf])
theorem ptsC_at : ∀ (ts : List Pt) (us : List Value) (i : Nat) (p : Pt) (u : Value), us.length = ts.length → ts[i]? = some p → us[i]? = some u → ∀ (c : Nat) (x : Value), (ptC p u)[c]? = some x → (ptsC ts us)[i * 4 + c]? = some x
  | [], us, i, p, u, _, h, _ => by simp at h
  | q :: ts, [], i, p, u, hl, _, _ => by simp at hl
  | q :: ts, y :: us, 0, p, u, _, h, k => by
    simp at h k
    subst h; subst k
    intro c x hx
    have hc := (List.getElem?_eq_some_iff.1 hx).1
    rw [ptsC, Nat.zero_mul, Nat.zero_add, List.getElem?_append_left hc]
    exact hx
  | q :: ts, y :: us, i + 1, p, u, hl, h, k => by
    intro c x hx
    have h2 := ptsC_at ts us i p u (by simpa using hl) (by simpa using h) (by simpa using k) c x hx
    rw [ptsC, List.getElem?_append_right (by rw [ptC_length]; omega), ptC_length, show (i + 1) * 4 + c - 4 = i * 4 + c by omega]
    exact h2
theorem PatL.at {W : World} {T : Nat → Prop} : ∀ {ts : List Pt} {us : List Value}, PatL W T ts us → ∀ (i : Nat) (p : Pt), ts[i]? = some p → ∃ u, us[i]? = some u ∧ PatP W T p u
  | [], us, _, i, p, h => by simp at h
  | q :: ts, us, hp, 0, p, h => by
    rw [PatL] at hp
    obtain ⟨u, us2, rfl, h1, _⟩ := hp
    simp at h; subst h
    exact ⟨u, rfl, h1⟩
  | q :: ts, us, hp, i + 1, p, h => by
    rw [PatL] at hp
    obtain ⟨u, us2, rfl, _, h2⟩ := hp
    obtain ⟨u', h3, h4⟩ := h2.at i p (by simpa using h)
    exact ⟨u', by simpa using h3, h4⟩
end Go.Proofs.YtjmekcakiacdfaaGreatDoor

namespace Go.Proofs.YtjmekcakiacdfaaGreatDoor
open Go Go.RowKit

theorem info_u8 : (Tryz.prog.info? 5).map (fun i => (i.zero, i.size, i.bytes)) = some (some (.int .u8 0), 1, 1) := by kernel_rfl
/-- What put answers. -/
def PutPost (B : Nat) (vs : List PrZ) (ol : List UInt8) (ts : List Pt) (W : World) (x : Ending) (w' : World) : Prop :=
  ∃ ov ol2 ok, x = .returned (.tuple #[ov, .bool ok]) ∧ w'.ownsRow B 5 1 ov ol2.length (Lib.byteCells ol2) ∧ Below B W w' ∧ ol2.length ≤ 65536 ∧ (ok = true → ol2 = ol ++ txtL (prL vs) ts) ∧ (ok = false → 65536 < ol.length + (txtL (prL vs) ts).length)
/-- What a piece lays itself. -/
def ownT (vs : List (List UInt8 × List UInt8)) (t n : List UInt8) (o : UInt8) : List UInt8 := if o = 43 then [] else (if n = [] then t else valL vs n)
theorem PrsIn.at {B : Nat} {W : World} {v : Value} {es : List PrZ} (h : PrsIn B W v es) : PrsAt W v es := by
  obtain ⟨a, cap, b, o, h1, h2, h3, h4⟩ := h
  exact ⟨a, cap, b, o, h1, h2, h3, fun i e he => (h4 i e he).2⟩
def takenT (vs : List (List UInt8 × List UInt8)) (t n : List UInt8) (o : UInt8) : Bool := decide ((o = 45 ∧ (if n = [] then t else valL vs n) = []) ∨ (o = 43 ∧ (if n = [] then t else valL vs n) ≠ []))
theorem txtP_eq (vs : List (List UInt8 × List UInt8)) (t n : List UInt8) (o : UInt8) (ks : List Pt) : txtP vs (.mk t n o ks) = ownT vs t n o ++ (if takenT vs t n o = true then txtL vs ks else []) := by
  rw [txtP]
  unfold ownT takenT
  congr 1
  simp only [decide_eq_true_eq]
theorem txtL_take (vs : List (List UInt8 × List UInt8)) (ts : List Pt) (i : Nat) (p : Pt) (h : ts[i]? = some p) : txtL vs (ts.take (i + 1)) = txtL vs (ts.take i) ++ txtP vs p := by
  rw [List.take_add_one, h, txtL_append]
  show _ ++ txtL vs [p] = _
  rw [txtL_one]
theorem txtL_len (vs : List (List UInt8 × List UInt8)) (ts : List Pt) (i : Nat) : (txtL vs (ts.take i)).length ≤ (txtL vs ts).length := by
  have h := txtL_append vs (ts.take i) (ts.drop i)
  rw [List.take_append_drop] at h
  rw [h, List.length_append]; omega
theorem own_up8 {w w' : World} {B : Nat} {v : Value} {n : Nat} {xs : List Value} {e z : Nat} (h : w.ownsRow B e z v n xs) (hk : ∀ j, v.ownBlock = some j → w'.heap[j]? = w.heap[j]?) : w'.ownsRow B e z v n xs := own_keepN h hk
theorem own_ge8 {w : World} {B e z n : Nat} {v : Value} {xs : List Value} (h : w.ownsRow B e z v n xs) (j : Nat) (hj : v.ownBlock = some j) : B ≤ j := by
  rcases h.2 with ⟨rfl, _⟩ | ⟨g, cap, cur, rfl, hb, _⟩
  · cases hj
  · simp [Value.ownBlock] at hj; omega
theorem own_lt8 {w : World} {B e z n : Nat} {v : Value} {xs : List Value} (h : w.ownsRow B e z v n xs) (j : Nat) (hj : v.ownBlock = some j) : j < w.heap.size := by
  rcases h.2 with ⟨rfl, _⟩ | ⟨g, cap, cur, rfl, _, hg, _⟩
  · cases hj
  · simp [Value.ownBlock] at hj
    have := (Array.getElem?_eq_some_iff.1 hg).1
    omega
theorem own_app8 {w : World} {B : Nat} {v : Value} {l k : List UInt8} (h : w.ownsRow B 5 1 v (l.length + (bs k).size) (Lib.byteCells l ++ Lib.strCells (bs k))) : w.ownsRow B 5 1 v (l ++ k).length (Lib.byteCells (l ++ k)) := by
  rw [List.length_append, Lib.byteCells_append]
  rw [size_bs] at h
  exact h
theorem grow_cell {w w2 : World} {B e z n : Nat} {v : Value} {xs : List Value} (hg : w.grownBy w2 v.ownBlock) (_ho : w.ownsRow B e z v n xs) {b i : Nat} {x : Value} (hc : w.cell? ⟨b, i, none⟩ = some x) (hn : v.ownBlock ≠ some b) : w2.cell? ⟨b, i, none⟩ = some x := by
  have h1 := hg.block b (World.block_lt_of_cell? w _ hc) (fun e => hn e.symm)
  have : w2.cell? ⟨b, i, none⟩ = w.cell? ⟨b, i, none⟩ := by simp [World.cell?, h1]
  rw [this]; exact hc
theorem bs_nil_eq (l : List UInt8) : ((bs l).toList == ([] : List UInt8)) = decide (l = []) := by
  rw [Bool.eq_iff_iff, beq_iff_eq, decide_eq_true_iff, toList_un, un_bs]
theorem valL_few {vs : List PrZ} (hf : FewP vs) (n : List UInt8) : (valL (prL vs) n).length ≤ 140737488355328 := by
  have h := hf.2
  clear hf
  induction vs with
  | nil => simp [prL, valL]
  | cons x vs ih =>
    have h1 := ih (fun y hy => h y (List.mem_cons_of_mem _ hy))
    have h2 := (h x (List.mem_cons_self ..)).2
    show (if (prL vs).any (fun z => z.1 == n) = true then valL (prL vs) n else if un x.key = n then un x.val else []).length ≤ _
    split
    · exact h1
    · split
      · rw [un_length]; exact h2
      · simp
set_option maxHeartbeats 16000000 in
set_option maxRecDepth 100000 in
theorem put_n (vs : List PrZ) (hf : FewP vs) (m : Nat) : ∀ (ts : List Pt) (us : List Value) (lv vv ov : Value) (ol : List UInt8) (W : World) (B : Nat), SizeOf.sizeOf ts ≤ m → PtsAt W (· < B) lv ts us → (∀ j, lv.ownBlock = some j → j < B) → PrsIn B W vv vs → B ≤ W.heap.size → W.ownsRow B 5 1 ov ol.length (Lib.byteCells ol) → ol.length ≤ 65536 → Calls Tryz.prog 29 #[ov, lv, vv] W fun x w' => PutPost B vs ol ts W x w' := by
  induction m with
  | zero =>
    intro ts us lv vv ov ol W B hm
    cases ts <;> simp at hm
  | succ m ih =>
  intro ts us lv vv ov ol W B hm hp hlb hv hB hown hol
  obtain ⟨i0, hi, hz0, hz1, hz2⟩ := info_parts info_u8
  have hkl := hp.kids.len
  have hnl : ts.length ≤ maxLen := by
    rcases hp.own.2 with ⟨_, h0⟩ | ⟨g, cap, cur, _, _, _, h1, h2, _⟩
    · omega
    · omega
  obtain ⟨va, vc, g, rfl, hva⟩ := own_form4 hp.own
  have HP : Hid (PtsAt W (· < B) (.slice va ts.length vc) ts us) := hp
  have HV : Hid (PrsIn B W vv vs) := hv
  have HVA : Hid (ts.length ≠ 0 → va = some ⟨g, 0, none⟩) := hva
  have HLB : Hid (∀ j, (Value.slice va ts.length vc).ownBlock = some j → j < B) := hlb
  have HIH : Hid _ := ih
  have hML : maxLen = 9223372036854775807 := rfl
  clear hp hv hva hlb ih
  go_enter Tryz.func29, Tryz.ntmps29
  go_wp2
  go_loopw [0, 8, 9] (fun ov1 okv iv wr => ∃ (i : Nat) (ol1 : List UInt8) (okb : Bool), iv = .int .i64 i ∧ okv = .bool okb ∧ i ≤ ts.length ∧ wr.ownsRow B 5 1 ov1 ol1.length (Lib.byteCells ol1) ∧ Below B W wr ∧ ol1.length ≤ 65536 ∧ Hid ((okb = true → ol1 = ol ++ txtL (prL vs) (ts.take i)) ∧ (okb = false → 65536 < ol.length + (txtL (prL vs) ts).length))) (fun _ _ iv _ => ts.length - (intOf iv).toNat)
  case atStart => exact ⟨0, ol, true, rfl, rfl, Nat.zero_le _, hown, Below.refl _ _, hol, fun _ => by rw [List.take_zero, txtL, List.append_nil], fun h => by cases h⟩
  case round =>
    obtain ⟨i, ol1, okb, rfl, rfl, hil, hown1, hb1, hol1, HT⟩ := hrel
    cases okb with
    | false =>
      have HX : Hid _ := HT.out.2 rfl
      have HO : Hid _ := hown1
      clear HT hown1
      by_cases hlt : i < ts.length
      · have d1 : (i : Int) < (ts.length : Int) := by omega
        go_wp2
        go_ret2
        exact ⟨_, ol1, false, rfl, HO.out, hb1, hol1, fun h => (by cases h), fun _ => HX.out⟩
      · have d1 : ¬ (i : Int) < (ts.length : Int) := by omega
        go_wp2
        go_ret2
        exact ⟨_, ol1, false, rfl, HO.out, hb1, hol1, fun h => (by cases h), fun _ => HX.out⟩
    | true =>
      by_cases hlt : i < ts.length
      · obtain ⟨p, hpi⟩ : ∃ p, ts[i]? = some p := ⟨_, List.getElem?_eq_getElem hlt⟩
        obtain ⟨u, hui, hpu⟩ := HP.out.kids.at i p hpi
        obtain ⟨t, n, o, ks⟩ := p
        have hks : SizeOf.sizeOf ks ≤ m := by
          have h1 := List.sizeOf_lt_of_mem (List.mem_of_getElem? hpi)
          simp at h1
          omega
        rw [PatP] at hpu
        obtain ⟨htl0, hub, us2, hul, huo, huk⟩ := hpu
        obtain ⟨ua, uc, ug, rfl, _⟩ := own_form4 huo
        have hva := HVA.out (by omega)
        subst hva
        have hgB : g < B := HLB.out g rfl
        have hcells := fun c x hx => HP.out.cells rfl _ _ (ptsC_at ts us i _ _ hkl hpi hui c x hx)
        have hrange : wr.rangeAt g (i * 4) [.string (bs t), .string (bs n), .int .u8 o.toNat, .slice ua ks.length uc] := by
          intro c x hx
          have h1 := hcells c x hx
          rw [Addr.add_mid, Nat.zero_add] at h1
          exact (hb1.cell (p := ⟨g, i * 4 + c, none⟩) hgB).trans h1
        have HTX : Hid (txtL (prL vs) (ts.take (i + 1)) = txtL (prL vs) (ts.take i) ++ txtP (prL vs) (.mk t n o ks)) := txtL_take _ _ _ _ hpi
        have HLE : Hid ((txtL (prL vs) (ts.take (i + 1))).length ≤ (txtL (prL vs) ts).length) := txtL_len _ _ _
        have HOL : Hid (ol1 = ol ++ txtL (prL vs) (ts.take i)) := HT.out.1 rfl
        have HK : Hid (PtsAt W (· < B) (.slice ua ks.length uc) ks us2 ∧ ∀ j, (Value.slice ua ks.length uc).ownBlock = some j → j < B) := ⟨⟨huo, huk⟩, hub⟩
        have d0 : (0 : Int) ≤ (i : Int) := by omega
        have d1 : (i : Int) < (ts.length : Int) := by omega
        have hsz := hb1.size
        clear hpi hui hub huo huk hcells HT
        go_upto_region 6 with (refine wpList_load_mid rfl 59 (.tmp 24) rfl g (i * 4) rfl _ _ hrange Tryz.underlying59 rfl (by kernel_rfl) ?_)
        have hL := Lies.new wr 59 #[.string (bs t), .string (bs n), .int .u8 o.toNat, .slice ua ks.length uc]
        have hbp := hb1.alloc (Nat.le_trans hB hsz) (.cells #[.string (bs t), .string (bs n), .int .u8 o.toNat, .slice ua ks.length uc] 59)
        have hoB : ∀ j, u0.ownBlock = some j → j < wr.heap.size := fun j hj => own_lt8 hown1 j hj
        have hop := hown1.alloc (.cells #[.string (bs t), .string (bs n), .int .u8 o.toNat, .slice ua ks.length uc] 59)
        generalize (wr.alloc (.cells #[.string (bs t), .string (bs n), .int .u8 o.toNat, .slice ua ks.length uc] 59)) = wp at *
        have x0 := hL.cell (i := 0) rfl
        have x1 := hL.cell (i := 1) rfl
        have x2 := hL.cell (i := 2) rfl
        have x3 := hL.cell (i := 3) rfl
        have hvp : PrsAt wp vv vs := (HV.out.keep (fun j hj => hbp.block j hj)).at
        have hVal := value_r (bs n) vv vs wp hvp (by have := hf.1; omega)
        rw [un_bs] at hVal
        have hVF := valL_few hf n
        have htl : t.length ≤ 140737488355328 := by omega
        clear hrange hL hown1 hvp
        obtain ⟨S, hS⟩ : ∃ S, S = (if n = [] then t else valL (prL vs) n) := ⟨_, rfl⟩
        have HTP : Hid (txtP (prL vs) (.mk t n o ks) = (if o = 43 then [] else S) ++ (if (o = 45 ∧ S = []) ∨ (o = 43 ∧ S ≠ []) then txtL (prL vs) ks else [])) := by
          unfold Hid; rw [txtP, ← hS]
        have hSl : S.length ≤ 140737488355328 := by rw [hS]; split <;> assumption
        have qs : ((bs S).toList == ([] : List UInt8)) = decide (S = []) := bs_nil_eq S
        have q45 : ((o.toNat : Int) == 45) = decide (o = 45) := beq_u8n o 45 (by decide)
        have q43 : ((o.toNat : Int) == 43) = decide (o = 43) := beq_u8n o 43 (by decide)
        have hss : (bs S).size = S.length := size_bs S
        obtain ⟨bS, hbS⟩ : ∃ b, decide (S = []) = b := ⟨_, rfl⟩
        obtain ⟨b5, hb5⟩ : ∃ b, decide (o = 45) = b := ⟨_, rfl⟩
        obtain ⟨b3, hb3⟩ : ∃ b, decide (o = 43) = b := ⟨_, rfl⟩
        obtain ⟨L, hLd⟩ : ∃ L : List UInt8, L = if b3 = true then [] else S := ⟨_, rfl⟩
        obtain ⟨tk, htk⟩ : ∃ tk : Bool, tk = ((b5 && bS) || (b3 && !bS)) := ⟨_, rfl⟩
        have HTQ : Hid (txtP (prL vs) (.mk t n o ks) = L ++ if tk = true then txtL (prL vs) ks else []) := by
          unfold Hid
          rw [HTP.out, hLd, htk]
          congr 1
          · by_cases h : o = 43 <;> simp [← hb3, h]
          · by_cases h : o = 43 <;> by_cases h2 : o = 45 <;> by_cases h3 : S = [] <;> simp [← hb3, ← hb5, ← hbS, h, h2, h3]
        rw [hbS] at qs
        rw [hb5] at q45
        rw [hb3] at q43
        obtain ⟨oa, oc, og, rfl, _⟩ := own_form4 hop
        have hPB : (Value.slice oa ol1.length oc).ownBlock ≠ some wr.heap.size := fun e => Nat.lt_irrefl _ (hoB _ e)
        by_cases hn : n = []
        · have qn : ((bs n).toList == ([] : List UInt8)) = true := by rw [bs_nil_eq, decide_eq_true hn]
          rw [if_pos hn] at hS
          clear hn hVal hVF
          subst hS
          go_upto_region 9 with fail
          cases b3 with
          | true =>
            cases b5 with
            | true => exact absurd ((decide_eq_true_eq.mp hb5).symm.trans (decide_eq_true_eq.mp hb3)) (by decide)
            | false =>
              cases bS with
              | true =>
                have hLd2 : L = [] := by rw [hLd]; rfl
                have htk2 : tk = false := by rw [htk]; rfl
                have HTZ : Hid (txtL (prL vs) (ts.take (i + 1)) = txtL (prL vs) (ts.take i) ++ L) := by
                  unfold Hid; rw [HTX.out, HTQ.out, htk2]; rw [if_neg (by decide), List.append_nil]
                clear hbS hb5 hb3 hLd htk htk2 HTQ HTX HTP
                subst hLd2
                go_upto_region 12 with fail
                have HLn : Hid ((ol ++ txtL (prL vs) (ts.take (i + 1))).length ≤ ol.length + (txtL (prL vs) ts).length) := by
                  unfold Hid; rw [List.length_append]; have := HLE.out; omega
                have HOZ : Hid (ol ++ txtL (prL vs) (ts.take (i + 1)) = ol1 ++ ([] : List UInt8)) := by
                  unfold Hid; rw [HTZ.out, HOL.out]; simp only [List.append_assoc]
                clear HTZ HLE HOL
                have wl : IntKind.i64.wrap (ol1.length : Int) = (ol1.length : Int) := by rw [wrap_small _ (by omega) (by omega)]
                have wg : ¬ (65536 : Int) < (ol1.length : Int) := by omega
                have hln : (ol1 ++ ([] : List UInt8)).length ≤ 65536 := by rw [List.append_nil]; exact hol1
                go_wp2_with (at_builtin; refine Lib.wpList_append_own_string _ rfl _ _ 63 9 rfl B 5 i0 Tryz.underlying63 Tryz.underlying9 hi hz0 hz1 hz2 (.slice oa ol1.length oc) ol1.length (Lib.byteCells ol1) rfl hop (bs ([] : List UInt8)) rfl (by rw [size_bs]; rw [List.length_append] at hln; unfold maxLen; omega) (by rw [size_bs]; rw [List.length_append] at hln; omega) (Nat.le_trans hB hbp.size) ?_; intro v2 w2 hown2 hgrow2 _; have hb2 : Below B W w2 := hbp.grown hgrow2 (Nat.le_trans hB hbp.size) (fun j hj => (own_ge8 hop j hj)); have hown2' : w2.ownsRow B 5 1 v2 (ol1 ++ ([] : List UInt8)).length (Lib.byteCells (ol1 ++ ([] : List UInt8))) := own_app8 hown2)
                have HN : Hid ((true = true → ol1 ++ ([] : List UInt8) = ol ++ txtL (prL vs) (ts.take (i + 1))) ∧ (true = false → 65536 < ol.length + (txtL (prL vs) ts).length)) := ⟨fun _ => HOZ.out.symm, fun h => by cases h⟩
                go_roundw
                case rel => exact ⟨i + 1, ol1 ++ ([] : List UInt8), true, by go_num, rfl, by omega, hown2', hb2, hln, HN⟩
                case measure => simp [intOf]; omega
              | false =>
                have hLd2 : L = [] := by rw [hLd]; rfl
                have htk2 : tk = true := by rw [htk]; rfl
                have HTZ : Hid (txtL (prL vs) (ts.take (i + 1)) = txtL (prL vs) (ts.take i) ++ L ++ txtL (prL vs) ks) := by
                  unfold Hid; rw [HTX.out, HTQ.out, htk2]; rw [if_pos rfl, List.append_assoc]
                clear hbS hb5 hb3 hLd htk htk2 HTQ HTX HTP
                subst hLd2
                go_upto_region 12 with fail
                have HLn : Hid ((ol ++ txtL (prL vs) (ts.take (i + 1))).length ≤ ol.length + (txtL (prL vs) ts).length) := by
                  unfold Hid; rw [List.length_append]; have := HLE.out; omega
                have HOZ : Hid (ol ++ txtL (prL vs) (ts.take (i + 1)) = ol1 ++ ([] : List UInt8) ++ txtL (prL vs) ks) := by
                  unfold Hid; rw [HTZ.out, HOL.out]; simp only [List.append_assoc]
                clear HTZ HLE HOL
                have wl : IntKind.i64.wrap (ol1.length : Int) = (ol1.length : Int) := by rw [wrap_small _ (by omega) (by omega)]
                have wg : ¬ (65536 : Int) < (ol1.length : Int) := by omega
                have hln : (ol1 ++ ([] : List UInt8)).length ≤ 65536 := by rw [List.append_nil]; exact hol1
                go_wp2_with (first
                  | (at_builtin; refine Lib.wpList_append_own_string _ rfl _ _ 63 9 rfl B 5 i0 Tryz.underlying63 Tryz.underlying9 hi hz0 hz1 hz2 (.slice oa ol1.length oc) ol1.length (Lib.byteCells ol1) rfl hop (bs ([] : List UInt8)) rfl (by rw [size_bs]; rw [List.length_append] at hln; unfold maxLen; omega) (by rw [size_bs]; rw [List.length_append] at hln; omega) (Nat.le_trans hB hbp.size) ?_; intro v2 w2 hown2 hgrow2 _; have hb2 : Below B W w2 := hbp.grown hgrow2 (Nat.le_trans hB hbp.size) (fun j hj => (own_ge8 hop j hj)); have hown2' : w2.ownsRow B 5 1 v2 (ol1 ++ ([] : List UInt8)).length (Lib.byteCells (ol1 ++ ([] : List UInt8))) := own_app8 hown2; have hIH := HIH.out ks us2 (.slice ua ks.length uc) vv v2 (ol1 ++ ([] : List UInt8)) w2 B hks (HK.out.1.keep (fun _ h => h) (fun j hj => hb2.block j (hj.elim id (HK.out.2 j)))) HK.out.2 (HV.out.keep (fun j hj => hb2.block j hj)) (Nat.le_trans hB hb2.size) hown2' hln; have x3b : w2.cell? ⟨wr.heap.size, 3, none⟩ = some (.slice ua ks.length uc) := (grow_cell hgrow2 hop x3 hPB))
                  | (go_at_call 29; refine hIH.mono ?_; rintro x w3 ⟨ov3, ol3, ok3, rfl, hown3, hb3, hl3, hok3, hbad3⟩))
                have HN : Hid ((ok3 = true → ol3 = ol ++ txtL (prL vs) (ts.take (i + 1))) ∧ (ok3 = false → 65536 < ol.length + (txtL (prL vs) ts).length)) := by
                  refine ⟨fun h => ?_, fun h => ?_⟩
                  · rw [HOZ.out, hok3 h]
                  · have h1 := hbad3 h
                    have h2 := HLn.out
                    rw [HOZ.out, List.length_append] at h2
                    omega
                go_roundw
                case rel => exact ⟨i + 1, ol3, ok3, by go_num, rfl, by omega, hown3, hb2.trans hb3, hl3, HN⟩
                case measure => simp [intOf]; omega
          | false =>
            cases b5 with
            | true =>
              cases bS with
              | true =>
                have hLd2 : L = S := by rw [hLd]; rfl
                have htk2 : tk = true := by rw [htk]; rfl
                have HTZ : Hid (txtL (prL vs) (ts.take (i + 1)) = txtL (prL vs) (ts.take i) ++ L ++ txtL (prL vs) ks) := by
                  unfold Hid; rw [HTX.out, HTQ.out, htk2]; rw [if_pos rfl, List.append_assoc]
                clear hbS hb5 hb3 hLd htk htk2 HTQ HTX HTP
                replace hLd2 := hLd2.symm
                subst hLd2
                go_upto_region 12 with fail
                have HLn : Hid ((ol ++ txtL (prL vs) (ts.take (i + 1))).length ≤ ol.length + (txtL (prL vs) ts).length) := by
                  unfold Hid; rw [List.length_append]; have := HLE.out; omega
                have HOZ : Hid (ol ++ txtL (prL vs) (ts.take (i + 1)) = ol1 ++ S ++ txtL (prL vs) ks) := by
                  unfold Hid; rw [HTZ.out, HOL.out]; simp only [List.append_assoc]
                clear HTZ HLE HOL
                obtain ⟨sn, hsn⟩ : ∃ sn, ol1.length + S.length = sn := ⟨_, rfl⟩
                have wl : IntKind.i64.wrap ((ol1.length : Int) + (S.length : Int)) = (sn : Int) := by rw [wrap_small _ (by omega) (by omega)]; omega
                by_cases hgt : 65536 < sn
                · have wg : (65536 : Int) < (sn : Int) := by omega
                  go_wp2
                  go_ret2
                  exact ⟨_, ol1, false, rfl, hop, hbp, hol1, fun h => (by cases h), fun _ => by
                    have h1 := HLn.out
                    rw [HOZ.out] at h1
                    simp only [List.length_append] at h1
                    omega⟩
                · have wg : ¬ (65536 : Int) < (sn : Int) := by omega
                  have hln : (ol1 ++ S).length ≤ 65536 := by rw [List.length_append]; omega
                  go_wp2_with (first
                    | (at_builtin; refine Lib.wpList_append_own_string _ rfl _ _ 63 9 rfl B 5 i0 Tryz.underlying63 Tryz.underlying9 hi hz0 hz1 hz2 (.slice oa ol1.length oc) ol1.length (Lib.byteCells ol1) rfl hop (bs S) rfl (by rw [size_bs]; rw [List.length_append] at hln; unfold maxLen; omega) (by rw [size_bs]; rw [List.length_append] at hln; omega) (Nat.le_trans hB hbp.size) ?_; intro v2 w2 hown2 hgrow2 _; have hb2 : Below B W w2 := hbp.grown hgrow2 (Nat.le_trans hB hbp.size) (fun j hj => (own_ge8 hop j hj)); have hown2' : w2.ownsRow B 5 1 v2 (ol1 ++ S).length (Lib.byteCells (ol1 ++ S)) := own_app8 hown2; have hIH := HIH.out ks us2 (.slice ua ks.length uc) vv v2 (ol1 ++ S) w2 B hks (HK.out.1.keep (fun _ h => h) (fun j hj => hb2.block j (hj.elim id (HK.out.2 j)))) HK.out.2 (HV.out.keep (fun j hj => hb2.block j hj)) (Nat.le_trans hB hb2.size) hown2' hln; have x3b : w2.cell? ⟨wr.heap.size, 3, none⟩ = some (.slice ua ks.length uc) := (grow_cell hgrow2 hop x3 hPB))
                    | (go_at_call 29; refine hIH.mono ?_; rintro x w3 ⟨ov3, ol3, ok3, rfl, hown3, hb3, hl3, hok3, hbad3⟩))
                  have HN : Hid ((ok3 = true → ol3 = ol ++ txtL (prL vs) (ts.take (i + 1))) ∧ (ok3 = false → 65536 < ol.length + (txtL (prL vs) ts).length)) := by
                    refine ⟨fun h => ?_, fun h => ?_⟩
                    · rw [HOZ.out, hok3 h]
                    · have h1 := hbad3 h
                      have h2 := HLn.out
                      rw [HOZ.out, List.length_append] at h2
                      omega
                  go_roundw
                  case rel => exact ⟨i + 1, ol3, ok3, by go_num, rfl, by omega, hown3, hb2.trans hb3, hl3, HN⟩
                  case measure => simp [intOf]; omega
              | false =>
                have hLd2 : L = S := by rw [hLd]; rfl
                have htk2 : tk = false := by rw [htk]; rfl
                have HTZ : Hid (txtL (prL vs) (ts.take (i + 1)) = txtL (prL vs) (ts.take i) ++ L) := by
                  unfold Hid; rw [HTX.out, HTQ.out, htk2]; rw [if_neg (by decide), List.append_nil]
                clear hbS hb5 hb3 hLd htk htk2 HTQ HTX HTP
                replace hLd2 := hLd2.symm
                subst hLd2
                go_upto_region 12 with fail
                have HLn : Hid ((ol ++ txtL (prL vs) (ts.take (i + 1))).length ≤ ol.length + (txtL (prL vs) ts).length) := by
                  unfold Hid; rw [List.length_append]; have := HLE.out; omega
                have HOZ : Hid (ol ++ txtL (prL vs) (ts.take (i + 1)) = ol1 ++ S) := by
                  unfold Hid; rw [HTZ.out, HOL.out]; simp only [List.append_assoc]
                clear HTZ HLE HOL
                obtain ⟨sn, hsn⟩ : ∃ sn, ol1.length + S.length = sn := ⟨_, rfl⟩
                have wl : IntKind.i64.wrap ((ol1.length : Int) + (S.length : Int)) = (sn : Int) := by rw [wrap_small _ (by omega) (by omega)]; omega
                by_cases hgt : 65536 < sn
                · have wg : (65536 : Int) < (sn : Int) := by omega
                  go_wp2
                  go_ret2
                  exact ⟨_, ol1, false, rfl, hop, hbp, hol1, fun h => (by cases h), fun _ => by
                    have h1 := HLn.out
                    rw [HOZ.out] at h1
                    simp only [List.length_append] at h1
                    omega⟩
                · have wg : ¬ (65536 : Int) < (sn : Int) := by omega
                  have hln : (ol1 ++ S).length ≤ 65536 := by rw [List.length_append]; omega
                  go_wp2_with (at_builtin; refine Lib.wpList_append_own_string _ rfl _ _ 63 9 rfl B 5 i0 Tryz.underlying63 Tryz.underlying9 hi hz0 hz1 hz2 (.slice oa ol1.length oc) ol1.length (Lib.byteCells ol1) rfl hop (bs S) rfl (by rw [size_bs]; rw [List.length_append] at hln; unfold maxLen; omega) (by rw [size_bs]; rw [List.length_append] at hln; omega) (Nat.le_trans hB hbp.size) ?_; intro v2 w2 hown2 hgrow2 _; have hb2 : Below B W w2 := hbp.grown hgrow2 (Nat.le_trans hB hbp.size) (fun j hj => (own_ge8 hop j hj)); have hown2' : w2.ownsRow B 5 1 v2 (ol1 ++ S).length (Lib.byteCells (ol1 ++ S)) := own_app8 hown2)
                  have HN : Hid ((true = true → ol1 ++ S = ol ++ txtL (prL vs) (ts.take (i + 1))) ∧ (true = false → 65536 < ol.length + (txtL (prL vs) ts).length)) := ⟨fun _ => HOZ.out.symm, fun h => by cases h⟩
                  go_roundw
                  case rel => exact ⟨i + 1, ol1 ++ S, true, by go_num, rfl, by omega, hown2', hb2, hln, HN⟩
                  case measure => simp [intOf]; omega
            | false =>
              cases bS with
              | true =>
                have hLd2 : L = S := by rw [hLd]; rfl
                have htk2 : tk = false := by rw [htk]; rfl
                have HTZ : Hid (txtL (prL vs) (ts.take (i + 1)) = txtL (prL vs) (ts.take i) ++ L) := by
                  unfold Hid; rw [HTX.out, HTQ.out, htk2]; rw [if_neg (by decide), List.append_nil]
                clear hbS hb5 hb3 hLd htk htk2 HTQ HTX HTP
                replace hLd2 := hLd2.symm
                subst hLd2
                go_upto_region 12 with fail
                have HLn : Hid ((ol ++ txtL (prL vs) (ts.take (i + 1))).length ≤ ol.length + (txtL (prL vs) ts).length) := by
                  unfold Hid; rw [List.length_append]; have := HLE.out; omega
                have HOZ : Hid (ol ++ txtL (prL vs) (ts.take (i + 1)) = ol1 ++ S) := by
                  unfold Hid; rw [HTZ.out, HOL.out]; simp only [List.append_assoc]
                clear HTZ HLE HOL
                obtain ⟨sn, hsn⟩ : ∃ sn, ol1.length + S.length = sn := ⟨_, rfl⟩
                have wl : IntKind.i64.wrap ((ol1.length : Int) + (S.length : Int)) = (sn : Int) := by rw [wrap_small _ (by omega) (by omega)]; omega
                by_cases hgt : 65536 < sn
                · have wg : (65536 : Int) < (sn : Int) := by omega
                  go_wp2
                  go_ret2
                  exact ⟨_, ol1, false, rfl, hop, hbp, hol1, fun h => (by cases h), fun _ => by
                    have h1 := HLn.out
                    rw [HOZ.out] at h1
                    simp only [List.length_append] at h1
                    omega⟩
                · have wg : ¬ (65536 : Int) < (sn : Int) := by omega
                  have hln : (ol1 ++ S).length ≤ 65536 := by rw [List.length_append]; omega
                  go_wp2_with (at_builtin; refine Lib.wpList_append_own_string _ rfl _ _ 63 9 rfl B 5 i0 Tryz.underlying63 Tryz.underlying9 hi hz0 hz1 hz2 (.slice oa ol1.length oc) ol1.length (Lib.byteCells ol1) rfl hop (bs S) rfl (by rw [size_bs]; rw [List.length_append] at hln; unfold maxLen; omega) (by rw [size_bs]; rw [List.length_append] at hln; omega) (Nat.le_trans hB hbp.size) ?_; intro v2 w2 hown2 hgrow2 _; have hb2 : Below B W w2 := hbp.grown hgrow2 (Nat.le_trans hB hbp.size) (fun j hj => (own_ge8 hop j hj)); have hown2' : w2.ownsRow B 5 1 v2 (ol1 ++ S).length (Lib.byteCells (ol1 ++ S)) := own_app8 hown2)
                  have HN : Hid ((true = true → ol1 ++ S = ol ++ txtL (prL vs) (ts.take (i + 1))) ∧ (true = false → 65536 < ol.length + (txtL (prL vs) ts).length)) := ⟨fun _ => HOZ.out.symm, fun h => by cases h⟩
                  go_roundw
                  case rel => exact ⟨i + 1, ol1 ++ S, true, by go_num, rfl, by omega, hown2', hb2, hln, HN⟩
                  case measure => simp [intOf]; omega
              | false =>
                have hLd2 : L = S := by rw [hLd]; rfl
                have htk2 : tk = false := by rw [htk]; rfl
                have HTZ : Hid (txtL (prL vs) (ts.take (i + 1)) = txtL (prL vs) (ts.take i) ++ L) := by
                  unfold Hid; rw [HTX.out, HTQ.out, htk2]; rw [if_neg (by decide), List.append_nil]
                clear hbS hb5 hb3 hLd htk htk2 HTQ HTX HTP
                replace hLd2 := hLd2.symm
                subst hLd2
                go_upto_region 12 with fail
                have HLn : Hid ((ol ++ txtL (prL vs) (ts.take (i + 1))).length ≤ ol.length + (txtL (prL vs) ts).length) := by
                  unfold Hid; rw [List.length_append]; have := HLE.out; omega
                have HOZ : Hid (ol ++ txtL (prL vs) (ts.take (i + 1)) = ol1 ++ S) := by
                  unfold Hid; rw [HTZ.out, HOL.out]; simp only [List.append_assoc]
                clear HTZ HLE HOL
                obtain ⟨sn, hsn⟩ : ∃ sn, ol1.length + S.length = sn := ⟨_, rfl⟩
                have wl : IntKind.i64.wrap ((ol1.length : Int) + (S.length : Int)) = (sn : Int) := by rw [wrap_small _ (by omega) (by omega)]; omega
                by_cases hgt : 65536 < sn
                · have wg : (65536 : Int) < (sn : Int) := by omega
                  go_wp2
                  go_ret2
                  exact ⟨_, ol1, false, rfl, hop, hbp, hol1, fun h => (by cases h), fun _ => by
                    have h1 := HLn.out
                    rw [HOZ.out] at h1
                    simp only [List.length_append] at h1
                    omega⟩
                · have wg : ¬ (65536 : Int) < (sn : Int) := by omega
                  have hln : (ol1 ++ S).length ≤ 65536 := by rw [List.length_append]; omega
                  go_wp2_with (at_builtin; refine Lib.wpList_append_own_string _ rfl _ _ 63 9 rfl B 5 i0 Tryz.underlying63 Tryz.underlying9 hi hz0 hz1 hz2 (.slice oa ol1.length oc) ol1.length (Lib.byteCells ol1) rfl hop (bs S) rfl (by rw [size_bs]; rw [List.length_append] at hln; unfold maxLen; omega) (by rw [size_bs]; rw [List.length_append] at hln; omega) (Nat.le_trans hB hbp.size) ?_; intro v2 w2 hown2 hgrow2 _; have hb2 : Below B W w2 := hbp.grown hgrow2 (Nat.le_trans hB hbp.size) (fun j hj => (own_ge8 hop j hj)); have hown2' : w2.ownsRow B 5 1 v2 (ol1 ++ S).length (Lib.byteCells (ol1 ++ S)) := own_app8 hown2)
                  have HN : Hid ((true = true → ol1 ++ S = ol ++ txtL (prL vs) (ts.take (i + 1))) ∧ (true = false → 65536 < ol.length + (txtL (prL vs) ts).length)) := ⟨fun _ => HOZ.out.symm, fun h => by cases h⟩
                  go_roundw
                  case rel => exact ⟨i + 1, ol1 ++ S, true, by go_num, rfl, by omega, hown2', hb2, hln, HN⟩
                  case measure => simp [intOf]; omega
        · have qn : ((bs n).toList == ([] : List UInt8)) = false := by rw [bs_nil_eq, decide_eq_false hn]
          rw [if_neg hn] at hS
          rw [← hS] at hVal
          clear hn hS hVF htl htl0
          go_upto_region 9 with (go_at_call 42; refine hVal.mono ?_; rintro y wv ⟨rfl, hw⟩; replace hw := hw.symm; subst hw)
          clear hVal
          cases b3 with
          | true =>
            cases b5 with
            | true => exact absurd ((decide_eq_true_eq.mp hb5).symm.trans (decide_eq_true_eq.mp hb3)) (by decide)
            | false =>
              cases bS with
              | true =>
                have hLd2 : L = [] := by rw [hLd]; rfl
                have htk2 : tk = false := by rw [htk]; rfl
                have HTZ : Hid (txtL (prL vs) (ts.take (i + 1)) = txtL (prL vs) (ts.take i) ++ L) := by
                  unfold Hid; rw [HTX.out, HTQ.out, htk2]; rw [if_neg (by decide), List.append_nil]
                clear hbS hb5 hb3 hLd htk htk2 HTQ HTX HTP
                subst hLd2
                go_upto_region 12 with fail
                have HLn : Hid ((ol ++ txtL (prL vs) (ts.take (i + 1))).length ≤ ol.length + (txtL (prL vs) ts).length) := by
                  unfold Hid; rw [List.length_append]; have := HLE.out; omega
                have HOZ : Hid (ol ++ txtL (prL vs) (ts.take (i + 1)) = ol1 ++ ([] : List UInt8)) := by
                  unfold Hid; rw [HTZ.out, HOL.out]; simp only [List.append_assoc]
                clear HTZ HLE HOL
                have wl : IntKind.i64.wrap (ol1.length : Int) = (ol1.length : Int) := by rw [wrap_small _ (by omega) (by omega)]
                have wg : ¬ (65536 : Int) < (ol1.length : Int) := by omega
                have hln : (ol1 ++ ([] : List UInt8)).length ≤ 65536 := by rw [List.append_nil]; exact hol1
                go_wp2_with (at_builtin; refine Lib.wpList_append_own_string _ rfl _ _ 63 9 rfl B 5 i0 Tryz.underlying63 Tryz.underlying9 hi hz0 hz1 hz2 (.slice oa ol1.length oc) ol1.length (Lib.byteCells ol1) rfl hop (bs ([] : List UInt8)) rfl (by rw [size_bs]; rw [List.length_append] at hln; unfold maxLen; omega) (by rw [size_bs]; rw [List.length_append] at hln; omega) (Nat.le_trans hB hbp.size) ?_; intro v2 w2 hown2 hgrow2 _; have hb2 : Below B W w2 := hbp.grown hgrow2 (Nat.le_trans hB hbp.size) (fun j hj => (own_ge8 hop j hj)); have hown2' : w2.ownsRow B 5 1 v2 (ol1 ++ ([] : List UInt8)).length (Lib.byteCells (ol1 ++ ([] : List UInt8))) := own_app8 hown2)
                have HN : Hid ((true = true → ol1 ++ ([] : List UInt8) = ol ++ txtL (prL vs) (ts.take (i + 1))) ∧ (true = false → 65536 < ol.length + (txtL (prL vs) ts).length)) := ⟨fun _ => HOZ.out.symm, fun h => by cases h⟩
                go_roundw
                case rel => exact ⟨i + 1, ol1 ++ ([] : List UInt8), true, by go_num, rfl, by omega, hown2', hb2, hln, HN⟩
                case measure => simp [intOf]; omega
              | false =>
                have hLd2 : L = [] := by rw [hLd]; rfl
                have htk2 : tk = true := by rw [htk]; rfl
                have HTZ : Hid (txtL (prL vs) (ts.take (i + 1)) = txtL (prL vs) (ts.take i) ++ L ++ txtL (prL vs) ks) := by
                  unfold Hid; rw [HTX.out, HTQ.out, htk2]; rw [if_pos rfl, List.append_assoc]
                clear hbS hb5 hb3 hLd htk htk2 HTQ HTX HTP
                subst hLd2
                go_upto_region 12 with fail
                have HLn : Hid ((ol ++ txtL (prL vs) (ts.take (i + 1))).length ≤ ol.length + (txtL (prL vs) ts).length) := by
                  unfold Hid; rw [List.length_append]; have := HLE.out; omega
                have HOZ : Hid (ol ++ txtL (prL vs) (ts.take (i + 1)) = ol1 ++ ([] : List UInt8) ++ txtL (prL vs) ks) := by
                  unfold Hid; rw [HTZ.out, HOL.out]; simp only [List.append_assoc]
                clear HTZ HLE HOL
                have wl : IntKind.i64.wrap (ol1.length : Int) = (ol1.length : Int) := by rw [wrap_small _ (by omega) (by omega)]
                have wg : ¬ (65536 : Int) < (ol1.length : Int) := by omega
                have hln : (ol1 ++ ([] : List UInt8)).length ≤ 65536 := by rw [List.append_nil]; exact hol1
                go_wp2_with (first
                  | (at_builtin; refine Lib.wpList_append_own_string _ rfl _ _ 63 9 rfl B 5 i0 Tryz.underlying63 Tryz.underlying9 hi hz0 hz1 hz2 (.slice oa ol1.length oc) ol1.length (Lib.byteCells ol1) rfl hop (bs ([] : List UInt8)) rfl (by rw [size_bs]; rw [List.length_append] at hln; unfold maxLen; omega) (by rw [size_bs]; rw [List.length_append] at hln; omega) (Nat.le_trans hB hbp.size) ?_; intro v2 w2 hown2 hgrow2 _; have hb2 : Below B W w2 := hbp.grown hgrow2 (Nat.le_trans hB hbp.size) (fun j hj => (own_ge8 hop j hj)); have hown2' : w2.ownsRow B 5 1 v2 (ol1 ++ ([] : List UInt8)).length (Lib.byteCells (ol1 ++ ([] : List UInt8))) := own_app8 hown2; have hIH := HIH.out ks us2 (.slice ua ks.length uc) vv v2 (ol1 ++ ([] : List UInt8)) w2 B hks (HK.out.1.keep (fun _ h => h) (fun j hj => hb2.block j (hj.elim id (HK.out.2 j)))) HK.out.2 (HV.out.keep (fun j hj => hb2.block j hj)) (Nat.le_trans hB hb2.size) hown2' hln; have x3b : w2.cell? ⟨wr.heap.size, 3, none⟩ = some (.slice ua ks.length uc) := (grow_cell hgrow2 hop x3 hPB))
                  | (go_at_call 29; refine hIH.mono ?_; rintro x w3 ⟨ov3, ol3, ok3, rfl, hown3, hb3, hl3, hok3, hbad3⟩))
                have HN : Hid ((ok3 = true → ol3 = ol ++ txtL (prL vs) (ts.take (i + 1))) ∧ (ok3 = false → 65536 < ol.length + (txtL (prL vs) ts).length)) := by
                  refine ⟨fun h => ?_, fun h => ?_⟩
                  · rw [HOZ.out, hok3 h]
                  · have h1 := hbad3 h
                    have h2 := HLn.out
                    rw [HOZ.out, List.length_append] at h2
                    omega
                go_roundw
                case rel => exact ⟨i + 1, ol3, ok3, by go_num, rfl, by omega, hown3, hb2.trans hb3, hl3, HN⟩
                case measure => simp [intOf]; omega
          | false =>
            cases b5 with
            | true =>
              cases bS with
              | true =>
                have hLd2 : L = S := by rw [hLd]; rfl
                have htk2 : tk = true := by rw [htk]; rfl
                have HTZ : Hid (txtL (prL vs) (ts.take (i + 1)) = txtL (prL vs) (ts.take i) ++ L ++ txtL (prL vs) ks) := by
                  unfold Hid; rw [HTX.out, HTQ.out, htk2]; rw [if_pos rfl, List.append_assoc]
                clear hbS hb5 hb3 hLd htk htk2 HTQ HTX HTP
                replace hLd2 := hLd2.symm
                subst hLd2
                go_upto_region 12 with fail
                have HLn : Hid ((ol ++ txtL (prL vs) (ts.take (i + 1))).length ≤ ol.length + (txtL (prL vs) ts).length) := by
                  unfold Hid; rw [List.length_append]; have := HLE.out; omega
                have HOZ : Hid (ol ++ txtL (prL vs) (ts.take (i + 1)) = ol1 ++ S ++ txtL (prL vs) ks) := by
                  unfold Hid; rw [HTZ.out, HOL.out]; simp only [List.append_assoc]
                clear HTZ HLE HOL
                obtain ⟨sn, hsn⟩ : ∃ sn, ol1.length + S.length = sn := ⟨_, rfl⟩
                have wl : IntKind.i64.wrap ((ol1.length : Int) + (S.length : Int)) = (sn : Int) := by rw [wrap_small _ (by omega) (by omega)]; omega
                by_cases hgt : 65536 < sn
                · have wg : (65536 : Int) < (sn : Int) := by omega
                  go_wp2
                  go_ret2
                  exact ⟨_, ol1, false, rfl, hop, hbp, hol1, fun h => (by cases h), fun _ => by
                    have h1 := HLn.out
                    rw [HOZ.out] at h1
                    simp only [List.length_append] at h1
                    omega⟩
                · have wg : ¬ (65536 : Int) < (sn : Int) := by omega
                  have hln : (ol1 ++ S).length ≤ 65536 := by rw [List.length_append]; omega
                  go_wp2_with (first
                    | (at_builtin; refine Lib.wpList_append_own_string _ rfl _ _ 63 9 rfl B 5 i0 Tryz.underlying63 Tryz.underlying9 hi hz0 hz1 hz2 (.slice oa ol1.length oc) ol1.length (Lib.byteCells ol1) rfl hop (bs S) rfl (by rw [size_bs]; rw [List.length_append] at hln; unfold maxLen; omega) (by rw [size_bs]; rw [List.length_append] at hln; omega) (Nat.le_trans hB hbp.size) ?_; intro v2 w2 hown2 hgrow2 _; have hb2 : Below B W w2 := hbp.grown hgrow2 (Nat.le_trans hB hbp.size) (fun j hj => (own_ge8 hop j hj)); have hown2' : w2.ownsRow B 5 1 v2 (ol1 ++ S).length (Lib.byteCells (ol1 ++ S)) := own_app8 hown2; have hIH := HIH.out ks us2 (.slice ua ks.length uc) vv v2 (ol1 ++ S) w2 B hks (HK.out.1.keep (fun _ h => h) (fun j hj => hb2.block j (hj.elim id (HK.out.2 j)))) HK.out.2 (HV.out.keep (fun j hj => hb2.block j hj)) (Nat.le_trans hB hb2.size) hown2' hln; have x3b : w2.cell? ⟨wr.heap.size, 3, none⟩ = some (.slice ua ks.length uc) := (grow_cell hgrow2 hop x3 hPB))
                    | (go_at_call 29; refine hIH.mono ?_; rintro x w3 ⟨ov3, ol3, ok3, rfl, hown3, hb3, hl3, hok3, hbad3⟩))
                  have HN : Hid ((ok3 = true → ol3 = ol ++ txtL (prL vs) (ts.take (i + 1))) ∧ (ok3 = false → 65536 < ol.length + (txtL (prL vs) ts).length)) := by
                    refine ⟨fun h => ?_, fun h => ?_⟩
                    · rw [HOZ.out, hok3 h]
                    · have h1 := hbad3 h
                      have h2 := HLn.out
                      rw [HOZ.out, List.length_append] at h2
                      omega
                  go_roundw
                  case rel => exact ⟨i + 1, ol3, ok3, by go_num, rfl, by omega, hown3, hb2.trans hb3, hl3, HN⟩
                  case measure => simp [intOf]; omega
              | false =>
                have hLd2 : L = S := by rw [hLd]; rfl
                have htk2 : tk = false := by rw [htk]; rfl
                have HTZ : Hid (txtL (prL vs) (ts.take (i + 1)) = txtL (prL vs) (ts.take i) ++ L) := by
                  unfold Hid; rw [HTX.out, HTQ.out, htk2]; rw [if_neg (by decide), List.append_nil]
                clear hbS hb5 hb3 hLd htk htk2 HTQ HTX HTP
                replace hLd2 := hLd2.symm
                subst hLd2
                go_upto_region 12 with fail
                have HLn : Hid ((ol ++ txtL (prL vs) (ts.take (i + 1))).length ≤ ol.length + (txtL (prL vs) ts).length) := by
                  unfold Hid; rw [List.length_append]; have := HLE.out; omega
                have HOZ : Hid (ol ++ txtL (prL vs) (ts.take (i + 1)) = ol1 ++ S) := by
                  unfold Hid; rw [HTZ.out, HOL.out]; simp only [List.append_assoc]
                clear HTZ HLE HOL
                obtain ⟨sn, hsn⟩ : ∃ sn, ol1.length + S.length = sn := ⟨_, rfl⟩
                have wl : IntKind.i64.wrap ((ol1.length : Int) + (S.length : Int)) = (sn : Int) := by rw [wrap_small _ (by omega) (by omega)]; omega
                by_cases hgt : 65536 < sn
                · have wg : (65536 : Int) < (sn : Int) := by omega
                  go_wp2
                  go_ret2
                  exact ⟨_, ol1, false, rfl, hop, hbp, hol1, fun h => (by cases h), fun _ => by
                    have h1 := HLn.out
                    rw [HOZ.out] at h1
                    simp only [List.length_append] at h1
                    omega⟩
                · have wg : ¬ (65536 : Int) < (sn : Int) := by omega
                  have hln : (ol1 ++ S).length ≤ 65536 := by rw [List.length_append]; omega
                  go_wp2_with (at_builtin; refine Lib.wpList_append_own_string _ rfl _ _ 63 9 rfl B 5 i0 Tryz.underlying63 Tryz.underlying9 hi hz0 hz1 hz2 (.slice oa ol1.length oc) ol1.length (Lib.byteCells ol1) rfl hop (bs S) rfl (by rw [size_bs]; rw [List.length_append] at hln; unfold maxLen; omega) (by rw [size_bs]; rw [List.length_append] at hln; omega) (Nat.le_trans hB hbp.size) ?_; intro v2 w2 hown2 hgrow2 _; have hb2 : Below B W w2 := hbp.grown hgrow2 (Nat.le_trans hB hbp.size) (fun j hj => (own_ge8 hop j hj)); have hown2' : w2.ownsRow B 5 1 v2 (ol1 ++ S).length (Lib.byteCells (ol1 ++ S)) := own_app8 hown2)
                  have HN : Hid ((true = true → ol1 ++ S = ol ++ txtL (prL vs) (ts.take (i + 1))) ∧ (true = false → 65536 < ol.length + (txtL (prL vs) ts).length)) := ⟨fun _ => HOZ.out.symm, fun h => by cases h⟩
                  go_roundw
                  case rel => exact ⟨i + 1, ol1 ++ S, true, by go_num, rfl, by omega, hown2', hb2, hln, HN⟩
                  case measure => simp [intOf]; omega
            | false =>
              cases bS with
              | true =>
                have hLd2 : L = S := by rw [hLd]; rfl
                have htk2 : tk = false := by rw [htk]; rfl
                have HTZ : Hid (txtL (prL vs) (ts.take (i + 1)) = txtL (prL vs) (ts.take i) ++ L) := by
                  unfold Hid; rw [HTX.out, HTQ.out, htk2]; rw [if_neg (by decide), List.append_nil]
                clear hbS hb5 hb3 hLd htk htk2 HTQ HTX HTP
                replace hLd2 := hLd2.symm
                subst hLd2
                go_upto_region 12 with fail
                have HLn : Hid ((ol ++ txtL (prL vs) (ts.take (i + 1))).length ≤ ol.length + (txtL (prL vs) ts).length) := by
                  unfold Hid; rw [List.length_append]; have := HLE.out; omega
                have HOZ : Hid (ol ++ txtL (prL vs) (ts.take (i + 1)) = ol1 ++ S) := by
                  unfold Hid; rw [HTZ.out, HOL.out]; simp only [List.append_assoc]
                clear HTZ HLE HOL
                obtain ⟨sn, hsn⟩ : ∃ sn, ol1.length + S.length = sn := ⟨_, rfl⟩
                have wl : IntKind.i64.wrap ((ol1.length : Int) + (S.length : Int)) = (sn : Int) := by rw [wrap_small _ (by omega) (by omega)]; omega
                by_cases hgt : 65536 < sn
                · have wg : (65536 : Int) < (sn : Int) := by omega
                  go_wp2
                  go_ret2
                  exact ⟨_, ol1, false, rfl, hop, hbp, hol1, fun h => (by cases h), fun _ => by
                    have h1 := HLn.out
                    rw [HOZ.out] at h1
                    simp only [List.length_append] at h1
                    omega⟩
                · have wg : ¬ (65536 : Int) < (sn : Int) := by omega
                  have hln : (ol1 ++ S).length ≤ 65536 := by rw [List.length_append]; omega
                  go_wp2_with (at_builtin; refine Lib.wpList_append_own_string _ rfl _ _ 63 9 rfl B 5 i0 Tryz.underlying63 Tryz.underlying9 hi hz0 hz1 hz2 (.slice oa ol1.length oc) ol1.length (Lib.byteCells ol1) rfl hop (bs S) rfl (by rw [size_bs]; rw [List.length_append] at hln; unfold maxLen; omega) (by rw [size_bs]; rw [List.length_append] at hln; omega) (Nat.le_trans hB hbp.size) ?_; intro v2 w2 hown2 hgrow2 _; have hb2 : Below B W w2 := hbp.grown hgrow2 (Nat.le_trans hB hbp.size) (fun j hj => (own_ge8 hop j hj)); have hown2' : w2.ownsRow B 5 1 v2 (ol1 ++ S).length (Lib.byteCells (ol1 ++ S)) := own_app8 hown2)
                  have HN : Hid ((true = true → ol1 ++ S = ol ++ txtL (prL vs) (ts.take (i + 1))) ∧ (true = false → 65536 < ol.length + (txtL (prL vs) ts).length)) := ⟨fun _ => HOZ.out.symm, fun h => by cases h⟩
                  go_roundw
                  case rel => exact ⟨i + 1, ol1 ++ S, true, by go_num, rfl, by omega, hown2', hb2, hln, HN⟩
                  case measure => simp [intOf]; omega
              | false =>
                have hLd2 : L = S := by rw [hLd]; rfl
                have htk2 : tk = false := by rw [htk]; rfl
                have HTZ : Hid (txtL (prL vs) (ts.take (i + 1)) = txtL (prL vs) (ts.take i) ++ L) := by
                  unfold Hid; rw [HTX.out, HTQ.out, htk2]; rw [if_neg (by decide), List.append_nil]
                clear hbS hb5 hb3 hLd htk htk2 HTQ HTX HTP
                replace hLd2 := hLd2.symm
                subst hLd2
                go_upto_region 12 with fail
                have HLn : Hid ((ol ++ txtL (prL vs) (ts.take (i + 1))).length ≤ ol.length + (txtL (prL vs) ts).length) := by
                  unfold Hid; rw [List.length_append]; have := HLE.out; omega
                have HOZ : Hid (ol ++ txtL (prL vs) (ts.take (i + 1)) = ol1 ++ S) := by
                  unfold Hid; rw [HTZ.out, HOL.out]; simp only [List.append_assoc]
                clear HTZ HLE HOL
                obtain ⟨sn, hsn⟩ : ∃ sn, ol1.length + S.length = sn := ⟨_, rfl⟩
                have wl : IntKind.i64.wrap ((ol1.length : Int) + (S.length : Int)) = (sn : Int) := by rw [wrap_small _ (by omega) (by omega)]; omega
                by_cases hgt : 65536 < sn
                · have wg : (65536 : Int) < (sn : Int) := by omega
                  go_wp2
                  go_ret2
                  exact ⟨_, ol1, false, rfl, hop, hbp, hol1, fun h => (by cases h), fun _ => by
                    have h1 := HLn.out
                    rw [HOZ.out] at h1
                    simp only [List.length_append] at h1
                    omega⟩
                · have wg : ¬ (65536 : Int) < (sn : Int) := by omega
                  have hln : (ol1 ++ S).length ≤ 65536 := by rw [List.length_append]; omega
                  go_wp2_with (at_builtin; refine Lib.wpList_append_own_string _ rfl _ _ 63 9 rfl B 5 i0 Tryz.underlying63 Tryz.underlying9 hi hz0 hz1 hz2 (.slice oa ol1.length oc) ol1.length (Lib.byteCells ol1) rfl hop (bs S) rfl (by rw [size_bs]; rw [List.length_append] at hln; unfold maxLen; omega) (by rw [size_bs]; rw [List.length_append] at hln; omega) (Nat.le_trans hB hbp.size) ?_; intro v2 w2 hown2 hgrow2 _; have hb2 : Below B W w2 := hbp.grown hgrow2 (Nat.le_trans hB hbp.size) (fun j hj => (own_ge8 hop j hj)); have hown2' : w2.ownsRow B 5 1 v2 (ol1 ++ S).length (Lib.byteCells (ol1 ++ S)) := own_app8 hown2)
                  have HN : Hid ((true = true → ol1 ++ S = ol ++ txtL (prL vs) (ts.take (i + 1))) ∧ (true = false → 65536 < ol.length + (txtL (prL vs) ts).length)) := ⟨fun _ => HOZ.out.symm, fun h => by cases h⟩
                  go_roundw
                  case rel => exact ⟨i + 1, ol1 ++ S, true, by go_num, rfl, by omega, hown2', hb2, hln, HN⟩
                  case measure => simp [intOf]; omega
      · have d1 : ¬ (i : Int) < (ts.length : Int) := by omega
        have HX : Hid _ := HT.out.1 rfl
        have HO : Hid _ := hown1
        clear HT hown1
        obtain rfl : i = ts.length := by omega
        go_wp2
        go_ret2
        exact ⟨_, ol1, true, rfl, HO.out, hb1, hol1, fun _ => by rw [HX.out, List.take_length], fun h => by cases h⟩
end Go.Proofs.YtjmekcakiacdfaaGreatDoor

namespace Go.Proofs.YtjmekcakiacdfaaGreatDoor
open Go Go.RowKit

set_option maxHeartbeats 8000000 in
set_option maxRecDepth 100000 in
theorem document_r (W : World) (B R : Nat) (s : ByteArray) (e : UInt8) (k : Nat) (v : Value) (ns : List (List UInt8)) (h : DR W B R s e k 0 v ns) (hk : k ≤ s.size) (hB : B ≤ W.heap.size) (hnl : ns.length ≤ k) (hs : s.size ≤ 1099511627776) (hV : VarT [1] B R s e k) : Calls Tryz.prog 23 #[.pointer (some ⟨R, 0, none⟩)] W fun x w' => LPost [1] [1] (fun k2 => k2 = s.size) (s.size + 1) W B R s e k v ns x w' := by
  obtain ⟨i0, hi, hz0, hz1, hz2⟩ := info_parts info_pt
  have hsl := un_length s
  have H0 : Hid (LI [1] W B R s e k v ns W k 0 v ns (.slice none 0 0) [] []) := LI.start [1] h hk
  clear h
  go_enter Tryz.func23, Tryz.ntmps23
  go_wp2
  go_loopw [3] (fun lv wr => ∃ (k2 no2 : Nat) (v2 : Value) (ns2 : List (List UInt8)) (ts : List Pt) (us : List Value), wr.cell? ⟨R, 1, none⟩ = some (.int .i64 k2) ∧ LI [1] W B R s e k v ns wr k2 no2 v2 ns2 lv ts us) (fun _ wr => s.size + 1 - (match wr.cell? ⟨R, 1, none⟩ with | some v => (intOf v).toNat | none => 0))
  case atStart => exact ⟨k, 0, v, ns, [], [], H0.out.dr.lies.cell (i := 1) rfl, H0.out⟩
  case round =>
    obtain ⟨k2, no2, v2, ns2, ts, us, hc1, hl⟩ := hrel
    have f0 := hl.dr.lies.cell (i := 0) rfl
    have hki := hl.hi
    by_cases hlt : k2 < s.size
    · obtain rfl : no2 = 0 := by
        by_cases h0 : no2 = 0
        · exact h0
        · have := (hl.bad h0).1; omega
      have HL0 : Hid (LI [1] W B R s e k v ns wr k2 0 v2 ns2 u3 ts us) := hl
      have d0 : (0 : Int) ≤ (k2 : Int) := by omega
      have d1 : (k2 : Int) < (s.size : Int) := by omega
      have hNx := fun n => next_r (wr.drewN n) B R s e k2 0 v2 ns2 (HL0.out.dr.drew n) (by omega) hs
      have HD : Hid ((un s).drop k2 = s[k2] :: (un s).drop (k2 + 1)) := drop_get hlt
      clear hl
      go_wp2
      go_quiet (fail)
      go_wp2
      go_quiet (fail)
      go_wp2_with fail
      refine (hNx _).mono ?_
      rintro x w1 ⟨rfl, q, hw⟩
      have HL : Hid (LI [1] W B R s e k v ns w1 k2 0 v2 ns2 u3 ts us) := by unfold Hid; rw [hw]; exact (HL0.out.to _).to _
      clear hw hNx f0 HL0
      have g0 := HL.out.dr.lies.cell (i := 0) rfl
      have g1 := HL.out.dr.lies.cell (i := 1) rfl
      have g2 := HL.out.dr.lies.cell (i := 2) rfl
      have gr := HL.out.dr.lies.frozen 1
      generalize s[k2] = c at *
      by_cases hce : c = e
      · have q1 := u8t hce
        cases hT : (un s).drop (k2 + 1) with
        | nil =>
          simp only [nextV]
          have HRun : Hid (Run e [1] ((un s).drop k2) [1] ((un s).drop (k2 + 1)) [.lit [c]]) := by
            unfold Hid; rw [HD.out]; exact (by rw [hce, hT]; exact run_lone (fun d r h => by cases h))
          have hB1 := fun W2 (hdr : DR W2 B R s e k2 0 v2 ns2) => bytes_r 1 W2 B R s e k2 0 v2 ns2 hdr (by omega) hs
          rw [show ((un s).drop k2).take 1 = [c] by rw [HD.out]; rfl] at hB1
          clear HD g0 hce hT
          go_wp2_with (first
            | (go_at_call 25; refine (hB1 _ HL.out.dr).mono ?_; rintro x w2 ⟨rfl, hdr2, r2⟩; unfold pcD; have pi2 := HL.out.bytes hdr2 (by omega) (by omega) r2 HRun.out (by simp); have hln := pi2.len.1)
            | (at_builtin; refine wpList_append_own_at _ rfl _ _ 39 rfl 0 59 i0 (.agg #[.string ⟨#[]⟩, .string ⟨#[]⟩, .int .u8 0, .slice none 0 0]) 4 64 Tryz.underlying39 hi hz0 hz1 hz2 rfl (by decide) u3 ts.length (ptsC ts us) rfl (pi2.pl.pts.own.alloc _) ⟨w2.heap.size, 0, none⟩ 1 1 [.string (bs [c]), .string ⟨#[]⟩, .int .u8 0, .slice none 0 0] rfl rfl (cells_new4 w2 _ _ _ _ _) (by simp [Value.oneCell']) (by unfold maxLen; omega) (by omega) (by simp) ?_; intro lv3 w3 hown3 hgrow3 _ hat3; have li3 := pi2.push hown3 hgrow3 hat3))
          have hc3 := li3.dr.lies.cell (i := 1) rfl
          go_roundw
          case rel => exact ⟨_, _, _, _, _, _, hc3, li3⟩
          case measure => rw [hc3]; simp [intOf, hc1]; omega
        | cons d r =>
          simp only [nextV]
          by_cases hd1 : d = 36
          · have q2 : ((d.toNat : Int) == 36) = true := u8nt (n := 36) (by decide) hd1
            obtain ⟨kb, hkb⟩ : ∃ kb, k2 + 1 = kb := ⟨_, rfl⟩
            have w1' : IntKind.i64.wrap ((k2 : Int) + 1) = (kb : Int) := by rw [wrap_small _ (by omega) (by omega)]; omega
            have hkl : kb < s.size := by have := congrArg List.length hT; rw [List.length_drop, hsl, List.length_cons] at this; omega
            have HRun : Hid (Run e [1] ((un s).drop k2) [1] ((un s).drop (kb + 1)) [.lit [d]]) := by
              unfold Hid; rw [HD.out, hT, hce, show (un s).drop (kb + 1) = r by rw [← hkb, ← List.drop_drop, hT]; rfl]; exact (run_esc (by subst hd1; simp [escs]) r)
            have hB1 := fun W2 (hdr : DR W2 B R s e kb 0 v2 ns2) => bytes_r 1 W2 B R s e kb 0 v2 ns2 hdr (by omega) hs
            rw [show ((un s).drop kb).take 1 = [d] by rw [← hkb, hT]; rfl] at hB1
            have hm := HL.out.dr.move kb
            have rm := (Rnd.refl (rdS R v2) w1).set (b := R) (i := 1) (.inl rfl) (.int .i64 (kb : Int))
            clear HD g0 hce hT hd1
            go_wp2_with (first
              | (go_at_call 25; refine (hB1 _ hm).mono ?_; rintro x w2 ⟨rfl, hdr2, r2⟩; unfold pcD; have pi2 := HL.out.bytes hdr2 (by omega) (by omega) (rm.trans r2) HRun.out (by simp); have hln := pi2.len.1)
              | (at_builtin; refine wpList_append_own_at _ rfl _ _ 39 rfl 0 59 i0 (.agg #[.string ⟨#[]⟩, .string ⟨#[]⟩, .int .u8 0, .slice none 0 0]) 4 64 Tryz.underlying39 hi hz0 hz1 hz2 rfl (by decide) u3 ts.length (ptsC ts us) rfl (pi2.pl.pts.own.alloc _) ⟨w2.heap.size, 0, none⟩ 1 1 [.string (bs [d]), .string ⟨#[]⟩, .int .u8 0, .slice none 0 0] rfl rfl (cells_new4 w2 _ _ _ _ _) (by simp [Value.oneCell']) (by unfold maxLen; omega) (by omega) (by simp) ?_; intro lv3 w3 hown3 hgrow3 _ hat3; have li3 := pi2.push hown3 hgrow3 hat3))
            have hc3 := li3.dr.lies.cell (i := 1) rfl
            go_roundw
            case rel => exact ⟨_, _, _, _, _, _, hc3, li3⟩
            case measure => rw [hc3]; simp [intOf, hc1]; omega
          · have q2 : ((d.toNat : Int) == 36) = false := u8nf (n := 36) (by decide) hd1
            by_cases hd2 : d = e
            · have q3 := u8t hd2
              obtain ⟨kb, hkb⟩ : ∃ kb, k2 + 1 = kb := ⟨_, rfl⟩
              have w1' : IntKind.i64.wrap ((k2 : Int) + 1) = (kb : Int) := by rw [wrap_small _ (by omega) (by omega)]; omega
              have hkl : kb < s.size := by have := congrArg List.length hT; rw [List.length_drop, hsl, List.length_cons] at this; omega
              have HRun : Hid (Run e [1] ((un s).drop k2) [1] ((un s).drop (kb + 1)) [.lit [d]]) := by
                unfold Hid; rw [HD.out, hT, hce, show (un s).drop (kb + 1) = r by rw [← hkb, ← List.drop_drop, hT]; rfl]; exact (run_esc (by subst hd2; simp [escs]) r)
              have hB1 := fun W2 (hdr : DR W2 B R s e kb 0 v2 ns2) => bytes_r 1 W2 B R s e kb 0 v2 ns2 hdr (by omega) hs
              rw [show ((un s).drop kb).take 1 = [d] by rw [← hkb, hT]; rfl] at hB1
              have hm := HL.out.dr.move kb
              have rm := (Rnd.refl (rdS R v2) w1).set (b := R) (i := 1) (.inl rfl) (.int .i64 (kb : Int))
              clear HD g0 hce hT hd1 hd2
              go_wp2_with (first
                | (go_at_call 25; refine (hB1 _ hm).mono ?_; rintro x w2 ⟨rfl, hdr2, r2⟩; unfold pcD; have pi2 := HL.out.bytes hdr2 (by omega) (by omega) (rm.trans r2) HRun.out (by simp); have hln := pi2.len.1)
                | (at_builtin; refine wpList_append_own_at _ rfl _ _ 39 rfl 0 59 i0 (.agg #[.string ⟨#[]⟩, .string ⟨#[]⟩, .int .u8 0, .slice none 0 0]) 4 64 Tryz.underlying39 hi hz0 hz1 hz2 rfl (by decide) u3 ts.length (ptsC ts us) rfl (pi2.pl.pts.own.alloc _) ⟨w2.heap.size, 0, none⟩ 1 1 [.string (bs [d]), .string ⟨#[]⟩, .int .u8 0, .slice none 0 0] rfl rfl (cells_new4 w2 _ _ _ _ _) (by simp [Value.oneCell']) (by unfold maxLen; omega) (by omega) (by simp) ?_; intro lv3 w3 hown3 hgrow3 _ hat3; have li3 := pi2.push hown3 hgrow3 hat3))
              have hc3 := li3.dr.lies.cell (i := 1) rfl
              go_roundw
              case rel => exact ⟨_, _, _, _, _, _, hc3, li3⟩
              case measure => rw [hc3]; simp [intOf, hc1]; omega
            · have q3 := u8f hd2
              have HRun : Hid (Run e [1] ((un s).drop k2) [1] ((un s).drop (k2 + 1)) [.lit [c]]) := by
                unfold Hid; rw [HD.out]; exact (by rw [hce, hT]; exact run_lone (fun d2 r2 h => by cases h; simp [escs, hd1, hd2]))
              have hB1 := fun W2 (hdr : DR W2 B R s e k2 0 v2 ns2) => bytes_r 1 W2 B R s e k2 0 v2 ns2 hdr (by omega) hs
              rw [show ((un s).drop k2).take 1 = [c] by rw [HD.out]; rfl] at hB1
              clear HD g0 hce hT hd1 hd2
              go_wp2_with (first
                | (go_at_call 25; refine (hB1 _ HL.out.dr).mono ?_; rintro x w2 ⟨rfl, hdr2, r2⟩; unfold pcD; have pi2 := HL.out.bytes hdr2 (by omega) (by omega) r2 HRun.out (by simp); have hln := pi2.len.1)
                | (at_builtin; refine wpList_append_own_at _ rfl _ _ 39 rfl 0 59 i0 (.agg #[.string ⟨#[]⟩, .string ⟨#[]⟩, .int .u8 0, .slice none 0 0]) 4 64 Tryz.underlying39 hi hz0 hz1 hz2 rfl (by decide) u3 ts.length (ptsC ts us) rfl (pi2.pl.pts.own.alloc _) ⟨w2.heap.size, 0, none⟩ 1 1 [.string (bs [c]), .string ⟨#[]⟩, .int .u8 0, .slice none 0 0] rfl rfl (cells_new4 w2 _ _ _ _ _) (by simp [Value.oneCell']) (by unfold maxLen; omega) (by omega) (by simp) ?_; intro lv3 w3 hown3 hgrow3 _ hat3; have li3 := pi2.push hown3 hgrow3 hat3))
              have hc3 := li3.dr.lies.cell (i := 1) rfl
              go_roundw
              case rel => exact ⟨_, _, _, _, _, _, hc3, li3⟩
              case measure => rw [hc3]; simp [intOf, hc1]; omega
      · have q1 := u8f hce
        obtain ⟨nb, nd, hnx⟩ : ∃ (nb : Bool) (nd : Int), nextV ((un s).drop (k2 + 1)) = .tuple #[.int .u8 nd, .bool nb] := by
          cases (un s).drop (k2 + 1) with
          | nil => exact ⟨_, _, rfl⟩
          | cons d r => exact ⟨_, _, rfl⟩
        rw [hnx]
        by_cases hc36 : c = 36
        · have q2 : ((c.toNat : Int) == 36) = true := u8nt (n := 36) (by decide) hc36
          have hln1 := HL.out.ok rfl
          have hVt := hV w1 k2 v2 ns2 (by have := HL.out.len.2 rfl; omega) HL.out.dr (by rw [← hc36]; exact hce) ⟨(un s).drop (k2 + 1), by rw [HD.out, hc36]⟩ (by have := HL.out.rnd.size; omega) (by omega)
          clear HD g0 hce hc36 hnx
          clear hln1
          go_wp2_with fail
          refine hVt.mono ?_
          rintro x w2 ⟨p, u, k3, no3, v3, ns3, rfl, hdr2, hk23, hk3, hkid, r2, hok3, hbad3⟩
          have pi2 := HL.out.piece hdr2 hk23 hk3 hkid r2 hok3 hbad3
          have hln := pi2.len.1
          clear hdr2 hkid r2 hok3 hbad3 hVt
          obtain ⟨pt, pn, po, pk⟩ := p
          have hku := pi2.kid
          rw [PatP] at hku
          obtain ⟨_, _, us0, _, hu0, _⟩ := hku
          obtain ⟨ua, uc, ug, rfl, _⟩ := own_form4 hu0
          clear hu0
          simp only [ptC]
          go_wp2_with (at_builtin; refine wpList_append_own_at _ rfl _ _ 39 rfl 0 59 i0 (.agg #[.string ⟨#[]⟩, .string ⟨#[]⟩, .int .u8 0, .slice none 0 0]) 4 64 Tryz.underlying39 hi hz0 hz1 hz2 rfl (by decide) u3 ts.length (ptsC ts us) rfl (pi2.pl.pts.own.alloc _) ⟨w2.heap.size, 0, none⟩ 1 1 [.string (bs pt), .string (bs pn), .int .u8 po.toNat, .slice ua pk.length uc] rfl rfl (cells_new4 w2 _ _ _ _ _) (by simp [Value.oneCell']) (by unfold maxLen; omega) (by omega) (by simp) ?_; intro lv3 w3 hown3 hgrow3 _ hat3; have li3 := pi2.push hown3 hgrow3 hat3)
          have hc3 := li3.dr.lies.cell (i := 1) rfl
          go_roundw
          case rel => exact ⟨_, _, _, _, _, _, hc3, li3⟩
          case measure => rw [hc3]; simp [intOf, hc1]; omega
        · have q2 : ((c.toNat : Int) == 36) = false := u8nf (n := 36) (by decide) hc36
          have HRun : Hid (Run e [1] ((un s).drop k2) [1] ((un s).drop (k2 + 1)) [.lit [c]]) := by
            unfold Hid; rw [HD.out]; exact (run_free (free1 hce hc36) _)
          have hB1 := fun W2 (hdr : DR W2 B R s e k2 0 v2 ns2) => bytes_r 1 W2 B R s e k2 0 v2 ns2 hdr (by omega) hs
          rw [show ((un s).drop k2).take 1 = [c] by rw [HD.out]; rfl] at hB1
          clear HD g0 hce hc36 hnx
          go_wp2_with (first
            | (go_at_call 25; refine (hB1 _ HL.out.dr).mono ?_; rintro x w2 ⟨rfl, hdr2, r2⟩; unfold pcD; have pi2 := HL.out.bytes hdr2 (by omega) (by omega) r2 HRun.out (by simp); have hln := pi2.len.1)
            | (at_builtin; refine wpList_append_own_at _ rfl _ _ 39 rfl 0 59 i0 (.agg #[.string ⟨#[]⟩, .string ⟨#[]⟩, .int .u8 0, .slice none 0 0]) 4 64 Tryz.underlying39 hi hz0 hz1 hz2 rfl (by decide) u3 ts.length (ptsC ts us) rfl (pi2.pl.pts.own.alloc _) ⟨w2.heap.size, 0, none⟩ 1 1 [.string (bs [c]), .string ⟨#[]⟩, .int .u8 0, .slice none 0 0] rfl rfl (cells_new4 w2 _ _ _ _ _) (by simp [Value.oneCell']) (by unfold maxLen; omega) (by omega) (by simp) ?_; intro lv3 w3 hown3 hgrow3 _ hat3; have li3 := pi2.push hown3 hgrow3 hat3))
          have hc3 := li3.dr.lies.cell (i := 1) rfl
          go_roundw
          case rel => exact ⟨_, _, _, _, _, _, hc3, li3⟩
          case measure => rw [hc3]; simp [intOf, hc1]; omega
    · have HL : Hid (LI [1] W B R s e k v ns wr k2 no2 v2 ns2 u3 ts us) := hl
      clear hl
      go_wp2
      go_quiet (fail)
      go_wp2
      go_ret
      have h1 := HL.out.to nq
      exact h1.post h1.hi (fun h0 => by have := (h1.ok h0).1; omega)
theorem doc0_r (W : World) (B R : Nat) (s : ByteArray) (e : UInt8) (v : Value) (h : DR W B R s e 0 0 v []) (hB : B ≤ W.heap.size) (hs : s.size ≤ 1099511627776) : Calls Tryz.prog 23 #[.pointer (some ⟨R, 0, none⟩)] W fun x w' => LPost [1] [1] (fun k => k = s.size) (s.size + 1) W B R s e 0 v [] x w' :=
  document_r W B R s e 0 v [] h (Nat.zero_le _) hB (Nat.le_refl _) hs (varT_of (plainT_all B R s e hs _ _ 0 (Nat.le_refl _)) hs)
end Go.Proofs.YtjmekcakiacdfaaGreatDoor

namespace Go.Proofs.YtjmekcakiacdfaaGreatDoor
open Go Go.RowKit

theorem conv_own (l : List UInt8) (B : Nat) (v : Value) (w : World) (h : w.ownsRow B 5 1 v l.length (Lib.byteCells l)) : (convert 63 9 v).run Tryz.prog w = .ok (.string (bs l)) w := by
  rcases h.2 with ⟨rfl, h0⟩ | ⟨g, cap, cur, rfl, _⟩
  · obtain rfl : l = [] := List.length_eq_zero_iff.1 h0
    rw [run_convert_bytes_string w 63 9 5 none 0 0 Tryz.underlying63 Tryz.underlying5 Tryz.underlying9]
    rfl
  · exact run_convert_bytes_back w 63 9 5 ⟨g, 0, none⟩ cap l Tryz.underlying63 Tryz.underlying5 Tryz.underlying9 (fun j hj => by
      rw [Addr.add_mid, Nat.zero_add, h.cellAt j (by omega)]
      unfold Lib.byteCells
      rw [List.getElem?_map, List.getElem?_eq_getElem hj]; rfl)
set_option maxHeartbeats 4000000 in
set_option maxRecDepth 100000 in
theorem told_bad (W : World) (B R : Nat) (s : ByteArray) (e : UInt8) (k no : Nat) (v : Value) (ns : List (List UInt8)) (h : DR W B R s e k no v ns) (hn : no ≠ 0) (lv vv : Value) : Calls Tryz.prog 15 #[.pointer (some ⟨R, 0, none⟩), lv, vv] W fun x w' => x = .returned (.tuple #[.string ⟨#[]⟩, .int .i64 no]) ∧ Below W.heap.size W w' := by
  have f3 := h.lies.cell (i := 3) rfl
  have q : ((no : Int) != 0) = true := by unfold bne; rw [show ((no : Int) == 0) = false by rw [beq_eq_false_iff_ne]; omega]; rfl
  clear h hn
  go_enter Tryz.func15, Tryz.ntmps15
  go_wp2
  go_quiet (fail)
  go_wp2
  go_ret2
  exact ⟨rfl, ⟨rfl, rfl, rfl, Nat.le_refl _, fun _ _ => rfl⟩⟩
set_option maxHeartbeats 4000000 in
set_option maxRecDepth 100000 in
theorem told_ok (W : World) (B R : Nat) (s : ByteArray) (e : UInt8) (k : Nat) (v : Value) (ns : List (List UInt8)) (h : DR W B R s e k 0 v ns) (lv vv : Value) (vs : List PrZ) (ts : List Pt) (us : List Value) (hf : FewP vs) (hp : PtsAt W (· < W.heap.size) lv ts us) (hl : ∀ j, lv.ownBlock = some j → j < W.heap.size) (hv : PrsAt W vv vs) : Calls Tryz.prog 15 #[.pointer (some ⟨R, 0, none⟩), lv, vv] W fun x w' => x = .returned (.tuple #[.string (bs (if 65536 < (txtL (prL vs) ts).length then ((5 : Nat), []) else (0, txtL (prL vs) ts)).2), .int .i64 ((if 65536 < (txtL (prL vs) ts).length then ((5 : Nat), ([] : List UInt8)) else (0, txtL (prL vs) ts)).1 : Nat)]) ∧ Below W.heap.size W w' := by
  have f3 := h.lies.cell (i := 3) rfl
  have hP := put_n vs hf _ ts us lv vv (.slice none 0 0) [] W W.heap.size (Nat.le_refl _) hp hl hv.in (Nat.le_refl _) (World.ownsRow_nil _ _ _ _) (by simp)
  clear h hp hl hv
  obtain ⟨TX, hTX⟩ : ∃ TX, TX = txtL (prL vs) ts := ⟨_, rfl⟩
  rw [← hTX]
  go_enter Tryz.func15, Tryz.ntmps15
  go_upto_region 4 with (go_at_call 29; refine hP.mono ?_; rintro x w2 ⟨ov, ol2, ok, rfl, hown, hb, hl2, hok, hbad⟩)
  have HB : Hid _ := hb
  clear hP hb f3
  cases ok with
  | true =>
    have hT : ol2 = TX := by rw [hok rfl, hTX, List.nil_append]
    have HI : Hid (¬ 65536 < TX.length) := by unfold Hid; rw [← hT]; omega
    subst hT
    have hconv := conv_own ol2 _ ov w2 hown
    clear hok hbad hown hTX
    go_wp2
    go_ret2
    exact ⟨rfl, HB.out⟩
  | false =>
    have HI : Hid (65536 < TX.length) := by have := hbad rfl; rw [hTX]; simpa [Hid] using this
    clear hok hbad hown hTX
    go_wp2
    go_ret2
    exact ⟨rfl, HB.out⟩
set_option maxHeartbeats 4000000 in
set_option maxRecDepth 100000 in
theorem word_d (s : ByteArray) (e : UInt8) (vv : Value) (vs : List PrZ) (W : World) (hv : PrsAt W vv vs) (hf : FewP vs) (hs : s.size ≤ 1099511627776) : Calls Tryz.prog 6 #[.string s, .int .u8 e.toNat, vv] W fun x w' => x = .returned (.tuple #[.string (bs (wordL e (prL vs) (un s)).2), .int .i64 ((wordL e (prL vs) (un s)).1 : Nat)]) ∧ Below W.heap.size W w' := by
  have hsl := un_length s
  have hd0 : DR (W.alloc (.cells #[.string s, .int .i64 0, .int .u8 e.toNat, .int .i64 0, .slice none 0 0] 38)) W.heap.size W.heap.size s e 0 0 (.slice none 0 0) [] := ⟨Lies.new W _ _, World.ownsRow_nil _ _ _ _⟩
  have hp := plain0_r _ W.heap.size W.heap.size s e (.slice none 0 0) hd0 (by rw [World.size_alloc]; omega) hs
  have b0 : Below W.heap.size W (W.alloc (.cells #[.string s, .int .i64 0, .int .u8 e.toNat, .int .i64 0, .slice none 0 0] 38)) := (Below.refl _ W).alloc (Nat.le_refl _) _
  have HA : Hid (wordL e (prL vs) (un s) = ansL (prL vs) (eachL e [0] (un s))) := rfl
  clear hd0
  generalize wordL e (prL vs) (un s) = AN at *
  go_enter Tryz.func6, Tryz.ntmps6
  go_upto_region 2 with fail
  generalize (W.alloc (.cells #[.string s, .int .i64 0, .int .u8 e.toNat, .int .i64 0, .slice none 0 0] 38)) = W1 at *
  go_upto_region 3 with (go_at_call 14; refine hp.mono ?_; rintro x w2 ⟨lv, ts, us, k2, no2, v2, ns2, rfl, hd, hpl, hr, _, _, hok, hbad⟩)
  have hb : Below W.heap.size W w2 := b0.trans (hr.below b0.size (fun j hj => by
    rcases hj with rfl | hj
    · exact Nat.le_refl _
    · cases hj))
  have hv2 : PrsAt w2 vv vs := hv.below hb
  by_cases h0 : no2 = 0
  · subst h0
    obtain ⟨q1, q2, q3, q4, q5⟩ := hok rfl
    rw [show (un s).drop k2 = [] from List.drop_of_length_le (by rw [hsl]; omega), List.drop_zero] at q2
    have hT := told_ok w2 W.heap.size W.heap.size s e k2 v2 ns2 hd lv vv vs ts us hf (hpl.pts.keep (fun j hj => hj.1.2.1) (fun _ _ => rfl)) (fun j hj => (hpl.blk j hj).2.1) hv2
    rw [← ans_txt (m := 0) (by omega) (prL vs) q2, ← HA.out] at hT
    clear hok hbad q1 q2 q3 q4 q5 hp hd hpl hr hv hv2
    go_wp2_with (go_at_call 15; refine hT.mono ?_; rintro x w3 ⟨rfl, b3⟩)
    go_ret2
    exact ⟨rfl, hb.trans (b3.mono hb.size)⟩
  · have hT := told_bad w2 W.heap.size W.heap.size s e k2 no2 v2 ns2 hd h0 lv vv
    have h1 := (hbad h0).2
    rw [List.drop_zero] at h1
    have HN : Hid (AN = (no2, [])) := by
      unfold Hid
      rw [HA.out]
      unfold ansL
      rw [if_pos (by rw [h1.1]; exact h0), h1.1]
    clear hok hbad hp hd hpl hr hv hv2 h1 h0
    go_wp2_with (go_at_call 15; refine hT.mono ?_; rintro x w3 ⟨rfl, b3⟩)
    go_ret2
    exact ⟨by rw [HN.out]; rfl, hb.trans (b3.mono hb.size)⟩
set_option maxHeartbeats 4000000 in
set_option maxRecDepth 100000 in
theorem doc_d (s : ByteArray) (e : UInt8) (vv : Value) (vs : List PrZ) (W : World) (hv : PrsAt W vv vs) (hf : FewP vs) (hs : s.size ≤ 1099511627776) : Calls Tryz.prog 12 #[.string s, .int .u8 e.toNat, vv] W fun x w' => x = .returned (.tuple #[.string (bs (docL e (prL vs) (un s)).2), .int .i64 ((docL e (prL vs) (un s)).1 : Nat)]) ∧ Below W.heap.size W w' := by
  have hsl := un_length s
  have hd0 : DR (W.alloc (.cells #[.string s, .int .i64 0, .int .u8 e.toNat, .int .i64 0, .slice none 0 0] 38)) W.heap.size W.heap.size s e 0 0 (.slice none 0 0) [] := ⟨Lies.new W _ _, World.ownsRow_nil _ _ _ _⟩
  have hp := doc0_r _ W.heap.size W.heap.size s e (.slice none 0 0) hd0 (by rw [World.size_alloc]; omega) hs
  have b0 : Below W.heap.size W (W.alloc (.cells #[.string s, .int .i64 0, .int .u8 e.toNat, .int .i64 0, .slice none 0 0] 38)) := (Below.refl _ W).alloc (Nat.le_refl _) _
  have HA : Hid (docL e (prL vs) (un s) = ansL (prL vs) (eachL e [1] (un s))) := rfl
  clear hd0
  generalize docL e (prL vs) (un s) = AN at *
  go_enter Tryz.func12, Tryz.ntmps12
  go_upto_region 2 with fail
  generalize (W.alloc (.cells #[.string s, .int .i64 0, .int .u8 e.toNat, .int .i64 0, .slice none 0 0] 38)) = W1 at *
  go_upto_region 3 with (go_at_call 23; refine hp.mono ?_; rintro x w2 ⟨lv, ts, us, k2, no2, v2, ns2, rfl, hd, hpl, hr, _, _, hok, hbad⟩)
  have hb : Below W.heap.size W w2 := b0.trans (hr.below b0.size (fun j hj => by
    rcases hj with rfl | hj
    · exact Nat.le_refl _
    · cases hj))
  have hv2 : PrsAt w2 vv vs := hv.below hb
  by_cases h0 : no2 = 0
  · subst h0
    obtain ⟨q1, q2, q3, q4, q5⟩ := hok rfl
    rw [show (un s).drop k2 = [] from List.drop_of_length_le (by rw [hsl]; omega), List.drop_zero] at q2
    have hT := told_ok w2 W.heap.size W.heap.size s e k2 v2 ns2 hd lv vv vs ts us hf (hpl.pts.keep (fun j hj => hj.1.2.1) (fun _ _ => rfl)) (fun j hj => (hpl.blk j hj).2.1) hv2
    rw [← ans_txt (m := 1) (by omega) (prL vs) q2, ← HA.out] at hT
    clear hok hbad q1 q2 q3 q4 q5 hp hd hpl hr hv hv2
    go_wp2_with (go_at_call 15; refine hT.mono ?_; rintro x w3 ⟨rfl, b3⟩)
    go_ret2
    exact ⟨rfl, hb.trans (b3.mono hb.size)⟩
  · have hT := told_bad w2 W.heap.size W.heap.size s e k2 no2 v2 ns2 hd h0 lv vv
    have h1 := (hbad h0).2
    rw [List.drop_zero] at h1
    have HN : Hid (AN = (no2, [])) := by
      unfold Hid
      rw [HA.out]
      unfold ansL
      rw [if_pos (by rw [h1.1]; exact h0), h1.1]
    clear hok hbad hp hd hpl hr hv hv2 h1 h0
    go_wp2_with (go_at_call 15; refine hT.mono ?_; rintro x w3 ⟨rfl, b3⟩)
    go_ret2
    exact ⟨by rw [HN.out]; rfl, hb.trans (b3.mono hb.size)⟩
end Go.Proofs.YtjmekcakiacdfaaGreatDoor

namespace Go.Proofs.YtjmekcakiacdfaaGreatDoor
open Go Go.RowKit

theorem own_geG {W : World} {base e size k : Nat} {v : Value} {xs : List Value} (h : W.ownsRow base e size v k xs) : ∀ j, some j = v.ownBlock → base ≤ j := by
  intro j hj
  rcases h.2 with ⟨rfl, _⟩ | ⟨g, cap, cur, rfl, hg, hgb, _⟩
  · simp [Value.ownBlock] at hj
  · simp [Value.ownBlock] at hj; subst hj; exact hg
theorem own_upG {A B : World} {base e size n : Nat} {v : Value} {xs : List Value} (h : A.ownsRow base e size v n xs) (hb : Below A.heap.size A B) : B.ownsRow base e size v n xs := by
  refine ⟨h.1, ?_⟩
  rcases h.2 with hn | ⟨g, cap, cur, rfl, hg, hgg, rest⟩
  · exact .inl hn
  · exact .inr ⟨g, cap, cur, rfl, hg, (hb.block g (Array.getElem?_eq_some_iff.1 hgg).1).trans hgg, rest⟩
theorem eqFc {P : Program} {w : World} (d : Nat) (f : Field) (fs : List Field) (xs ys : Array Value) (a b : Value) (r R : Bool) (hn : f.name ≠ "_") (ha : (part f.type xs f.offset).run P w = .ok a w) (hb : (part f.type ys f.offset).run P w = .ok b w)
    (hr : (Op.equalIn d f.type a b).run P w = .ok r w) (hR : (Op.eqFields d xs ys fs).run P w = .ok R w) : (Op.eqFields d xs ys (f :: fs)).run P w = .ok (r && R) w := by
  simp only [Op.eqFields, if_pos hn, Sem.run_bind, ha, hb, hr, Result.andThen_ok]
  cases r with
  | false => simp
  | true => simpa using hR
theorem eqFn {P : Program} {w : World} (d : Nat) (xs ys : Array Value) : (Op.eqFields d xs ys []).run P w = .ok true w := rfl
def mkb8 (x : Int) : UInt8 := UInt8.ofNat (x % 256).toNat
theorem mkb8_int (x : Int) : ((mkb8 x).toNat : Int) = x % 256 := by
  unfold mkb8
  rw [UInt8.toNat_ofNat']; omega
def mkTx (k i : Int) : ByteArray := bs [35, mkb8 k, mkb8 (k / 256), mkb8 i, mkb8 (i / 256)]
set_option maxRecDepth 100000 in
theorem mkTx_conv (k i : Int) (w : World) : (convert 63 9 (.slice (some ⟨w.heap.size, 0, none⟩) 5 5)).run Tryz.prog (w.alloc (.cells #[.int .u8 35, .int .u8 (k % 256), .int .u8 (k / 256 % 256), .int .u8 (i % 256), .int .u8 (i / 256 % 256)] 5)) = .ok (.string (mkTx k i)) (w.alloc (.cells #[.int .u8 35, .int .u8 (k % 256), .int .u8 (k / 256 % 256), .int .u8 (i % 256), .int .u8 (i / 256 % 256)] 5)) := by
  refine run_convert_bytes_back _ 63 9 5 ⟨w.heap.size, 0, none⟩ 5 [35, mkb8 k, mkb8 (k / 256), mkb8 i, mkb8 (i / 256)] Tryz.underlying63 Tryz.underlying5 Tryz.underlying9 ?_
  intro j hj
  simp only [← mkb8_int]
  have hc := fun v (h : (#[.int .u8 35, .int .u8 ((mkb8 k).toNat : Int), .int .u8 ((mkb8 (k / 256)).toNat : Int), .int .u8 ((mkb8 i).toNat : Int), .int .u8 ((mkb8 (i / 256)).toNat : Int)] : Array Value)[j]? = some v) => (Lies.new w 5 #[.int .u8 35, .int .u8 ((mkb8 k).toNat : Int), .int .u8 ((mkb8 (k / 256)).toNat : Int), .int .u8 ((mkb8 i).toNat : Int), .int .u8 ((mkb8 (i / 256)).toNat : Int)]).cell h
  have e : (⟨w.heap.size, 0, none⟩ : Addr).add j = ⟨w.heap.size, j, none⟩ := by rw [Addr.add_mid, Nat.zero_add]
  rw [e]
  refine hc _ ?_
  rcases j with _ | _ | _ | _ | _ | j
  · rfl
  · rfl
  · rfl
  · rfl
  · rfl
  · simp at hj; omega
set_option maxRecDepth 100000 in
set_option maxHeartbeats 2000000 in
theorem mkTx_p (k i : Int) (w : World) : Calls Tryz.prog 43 #[.int .i64 k, .int .i64 i] w fun e w' => e = .returned (.string (mkTx k i)) ∧ Below w.heap.size w w' := by
  have hcv := mkTx_conv k i w
  go_enter Tryz.func43, Tryz.ntmps43
  go_wp2
  go_ret
  exact ⟨rfl, (Below.refl _ w).alloc (Nat.le_refl _) _⟩
end Go.Proofs.YtjmekcakiacdfaaGreatDoor

namespace Go.Proofs.YtjmekcakiacdfaaGreatDoor
open Go Go.RowKit

def csPr (x : PrZ) : List Value := [.string x.key, .string x.val]
def clPr (xs : List PrZ) : List Value := xs.flatMap csPr
theorem clPr_cons (e : PrZ) (es : List PrZ) : clPr (e :: es) = csPr e ++ clPr es := rfl
theorem clPr_length (es : List PrZ) : (clPr es).length = es.length * 2 := by
  induction es with
  | nil => rfl
  | cons e es ih => rw [clPr_cons, List.length_append, ih, List.length_cons, show (csPr e).length = 2 from rfl]; omega
theorem clPr_append (a b : List PrZ) : clPr (a ++ b) = clPr a ++ clPr b := by simp [clPr]
theorem clPr_get : ∀ (es : List PrZ) (k : Nat) (e : PrZ), es[k]? = some e → ∀ j v, (csPr e)[j]? = some v → (clPr es)[k * 2 + j]? = some v
  | [], k, e, h => by simp at h
  | x :: es, 0, e, h => fun j v hj => by
    simp at h; subst h
    have : j < (csPr x).length := (List.getElem?_eq_some_iff.1 hj).1
    rw [clPr_cons, Nat.zero_mul, Nat.zero_add, List.getElem?_append_left this]; exact hj
  | x :: es, k + 1, e, h => fun j v hj => by
    rw [clPr_cons, List.getElem?_append_right (by show 2 ≤ _; omega), show (k + 1) * 2 + j - (csPr x).length = k * 2 + j by show (k + 1) * 2 + j - 2 = _; omega]
    exact clPr_get es k e (by simpa using h) j v hj
theorem infoPr : (Tryz.prog.info? 53).map (fun i => (i.zero, i.size, i.bytes)) = some (some (.agg #[.string ⟨#[]⟩, .string ⟨#[]⟩]), 2, 32) := by kernel_rfl
theorem at_of_ownsPr {W : World} {base : Nat} {v : Value} {es : List PrZ} (h : W.ownsRow base 53 2 v es.length (clPr es)) : PrsAt W v es := by
  rcases h.2 with ⟨rfl, h0⟩ | ⟨g, cap, cur, rfl, hg, hgb, hcap, _⟩
  · have : es = [] := List.eq_nil_of_length_eq_zero h0
    subst this
    exact ⟨none, 0, 0, 0, rfl, fun h => absurd rfl h, Nat.le_refl _, fun i e he => by simp at he⟩
  · refine ⟨some ⟨g, 0, none⟩, cap, g, 0, rfl, fun _ => rfl, hcap, fun i e he => ?_⟩
    have hi := (List.getElem?_eq_some_iff.1 he).1
    have hc : ∀ j v, (csPr e)[j]? = some v → W.cell? ⟨g, 0 + i * 2 + j, none⟩ = some v := fun j v hj => by
      have hj2 : j < 2 := (List.getElem?_eq_some_iff.1 hj).1
      rw [Nat.zero_add, h.cellAt (i * 2 + j) (by omega)]
      exact clPr_get es i e he j v hj
    exact ⟨hc 0 _ rfl, hc 1 _ rfl⟩
theorem newPr (W : World) (t : TypeId) (e : PrZ) : ∀ j u, (csPr e)[j]? = some u → (W.alloc (.cells #[.string e.key, .string e.val] t)).cell? ((⟨W.heap.size, 0, none⟩ : Addr).add j) = some u := by
  intro j u hj
  rw [Addr.add_mid, Nat.zero_add]
  unfold World.cell?
  rw [World.alloc_heap_new]
  simpa [csPr] using hj
theorem onePr (e : PrZ) : ∀ u ∈ csPr e, u.oneCell' = true := by
  intro u hu
  simp [csPr] at hu
  rcases hu with rfl | rfl <;> rfl
def vaPr (e : PrZ) : Array Value := #[.string e.key, .string e.val]
set_option maxRecDepth 100000 in
theorem eqPr (a : PrZ) (w : World) : (Op.equalIn 10000 53 (.agg #[.string a.key, .string a.val]) (.agg #[.string a.key, .string a.val])).run Tryz.prog w = .ok true w := by
  show (Op.equalIn 10000 53 (.agg (vaPr a)) (.agg (vaPr a))).run Tryz.prog w = .ok true w
  rw [run_equalIn_struct w 9999 53 (vaPr a) (vaPr a) (by kernel_rfl) (by kernel_rfl)]
  have hs : ∀ x y : ByteArray, (Op.equalIn 9999 9 (.string x) (.string y)).run Tryz.prog w = .ok (x.toList == y.toList) w := fun x y => run_equalIn_string w 9998 _ x y Tryz.underlying9
  have hi : ∀ x y : Int, (Op.equalIn 9999 3 (.int .i64 x) (.int .i64 y)).run Tryz.prog w = .ok (x == y) w := fun x y => run_equalIn_int w 9998 _ .i64 .i64 _ _ Tryz.underlying3
  have hb : ∀ x y : Bool, (Op.equalIn 9999 4 (.bool x) (.bool y)).run Tryz.prog w = .ok (x == y) w := fun x y => run_equalIn_bool w 9998 _ x y Tryz.underlying4
  have pt : ∀ (k : Nat) (v : Value) (t : TypeId), (isAgg t).run Tryz.prog w = .ok false w → (vaPr a)[k]? = some v → (part t (vaPr a) k).run Tryz.prog w = .ok v w := fun k v t ht hv => by simp [part, ht, hv]
  have aS := Tryz.isAgg9 w
  have aI := Tryz.isAgg3 w
  have aB := Tryz.isAgg4 w
  rw [show (Tryz.prog.fieldsOf 53) = _ from by unfold Program.fieldsOf; rw [Tryz.underlying53]]
  refine (?_ : _ = Result.ok ((a.key.toList == a.key.toList) && ((a.val.toList == a.val.toList) && true)) w).trans (by simp)
  exact eqFc 9999 _ _ _ _ _ _ _ _ (by decide) (pt 0 _ _ aS rfl) (pt 0 _ _ aS rfl) (hs _ _) (eqFc 9999 _ _ _ _ _ _ _ _ (by decide) (pt 1 _ _ aS rfl) (pt 1 _ _ aS rfl) (hs _ _) (eqFn _ _ _))
/-- A mark in a list of pairs. -/
def markPr (k i : Int) : PrZ := ⟨mkTx k i, ⟨#[109, 97, 114, 107]⟩⟩
set_option maxRecDepth 100000 in
set_option maxHeartbeats 2000000 in
theorem markPr_p (k i : Int) (_h0 : 0 ≤ k) (_h1 : k ≤ 1000000) (w : World) : Calls Tryz.prog 30 #[.int .i64 k, .int .i64 i] w fun e w' => e = .returned (.agg #[.string (markPr k i).key, .string (markPr k i).val]) ∧ Below w.heap.size w w' := by
  have b0 : Below w.heap.size w (w.alloc (.cells #[.string ⟨#[]⟩, .string ⟨#[]⟩] 53)) := (Below.refl _ w).alloc (Nat.le_refl _) _
  have L0 := Lies.new w 53 #[.string ⟨#[]⟩, .string ⟨#[]⟩]
  have hinf : (Tryz.prog.info? 53).map (·.size) = some 2 := by kernel_rfl
  have hone : (#[.string (mkTx k i), .string ⟨#[109, 97, 114, 107]⟩] : Array Value).all (·.oneCell') = true := by simp [Value.oneCell']
  go_enter Tryz.func30, Tryz.ntmps30
  go_wp2_with (first
    | (go_at_call 43; refine (mkTx_p k i _).mono ?_; rintro e w1 ⟨rfl, b1⟩; have L1 := L0.below b1)
    | (refine wpList_store_row rfl 53 (.tmp 4) (.tmp 8) rfl w.heap.size #[.string (mkTx k i), .string ⟨#[109, 97, 114, 107]⟩] rfl rfl 53 #[.string ⟨#[]⟩, .string ⟨#[]⟩] L1 hinf rfl hone ?_))
  dsimp only [Act.put]
  refine bodyPost_ret (results_cell_row rfl _ _ w.heap.size 53 #[.string (mkTx k i), .string ⟨#[109, 97, 114, 107]⟩] (0, 0) _ rfl (setRow_heap w1 w.heap.size _ _ _ (0, 0) L1) Tryz.underlying53 rfl hinf) rfl ?_
  exact ⟨rfl, below_setRow (b0.trans (b1.mono b0.size)) (Nat.le_refl _) _⟩
def marksPr (n : Nat) : List PrZ := List.map (fun i : Nat => markPr 90 (i : Int)) (List.range n)
theorem marksPr_succ (n : Nat) : marksPr (n + 1) = marksPr n ++ [markPr 90 n] := by simp [marksPr, List.range_succ]
theorem marksPr_length (n : Nat) : (marksPr n).length = n := by simp [marksPr]
theorem marksPr_get (n i : Nat) (h : i < n) : (marksPr n)[i]? = some (markPr 90 i) := by simp [marksPr, h]
set_option maxHeartbeats 4000000 in
set_option maxRecDepth 100000 in
theorem fullPr_p (es : List PrZ) (v : Value) (w : World) (hv : PrsAt w v es) (hl : es.length ≤ 4398046510976) : Calls Tryz.prog 16 #[v] w fun e w' => ∃ u, e = .returned u ∧ w'.ownsRow w.heap.size 53 2 u (es.length + 16) (clPr (es ++ marksPr 16)) ∧ Below w.heap.size w w' := by
  obtain ⟨i0, hi, hz0, hz1, hz2⟩ := info_parts infoPr
  obtain ⟨a, cap, b, o, rfl, ha, hcap, hc⟩ := hv
  go_enter Tryz.func16, Tryz.ntmps16
  go_wp2
  go_loopw [3, 4] (fun v i wr => ∃ k : Nat, i = .int .i64 k ∧ k ≤ es.length ∧ wr.ownsRow w.heap.size 53 2 v (es.take k).length (clPr (es.take k)) ∧ Below w.heap.size w wr) (fun _ i _ => es.length - (intOf i).toNat)
  case atStart => exact ⟨0, rfl, Nat.zero_le _, World.ownsRow_nil _ _ _ _, Below.refl _ _⟩
  case round =>
    obtain ⟨k, rfl, hk, hown, hB⟩ := hrel
    have hsz := hB.size
    by_cases hlt : k < es.length
    · have hlt' : (k : Int) < (es.length : Int) := by omega
      have hk0 : (0 : Int) ≤ (k : Int) := by omega
      obtain ⟨x, hx⟩ : ∃ x, es[k]? = some x := ⟨_, List.getElem?_eq_getElem hlt⟩
      obtain rfl := ha (fun e => by rw [e] at hlt; simp at hlt)
      obtain ⟨c0, c1⟩ := (hc k x hx).below hB
      have hlk : (es.take k).length + 1 ≤ es.length := by rw [List.length_take]; omega
      have HX : Hid (es.take (k + 1) = es.take k ++ [x]) := by unfold Hid; rw [List.take_add_one, hx]; rfl
      clear hx hc ha
      go_wp2_with (at_builtin; refine wpList_append_own _ rfl _ _ 22 rfl w.heap.size 53 i0 (.agg #[.string ⟨#[]⟩, .string ⟨#[]⟩]) 2 32 Tryz.underlying22 hi hz0 hz1 hz2 rfl (by decide) _ _ _ rfl (hown.alloc _) ⟨wr.heap.size, 0, none⟩ 1 1 (csPr x) rfl rfl (newPr wr _ x) (onePr x) (by unfold maxLen; omega) (by omega) (by simp; omega) ?_; intro v1 w1 hown1 hgrow1 _)
      have hb1 : Below w.heap.size w w1 := (hB.alloc hsz _).grown hgrow1 (by simp; omega) (fun j hj => own_geG hown j hj.symm)
      have hown2 : w1.ownsRow w.heap.size 53 2 v1 (es.take (k + 1)).length (clPr (es.take (k + 1))) := by
        rw [HX.out, clPr_append, List.length_append]; simpa [clPr] using hown1
      clear hown1 hgrow1 hown
      go_roundw
      case rel => exact ⟨k + 1, by go_num, by omega, hown2, hb1⟩
      case measure => simp [intOf]; omega
    · have hge : ¬ (k : Int) < (es.length : Int) := by omega
      have hall : es.take k = es := List.take_of_length_le (by omega)
      rw [hall] at hown
      clear ha hc
      go_wp2_with fail
      go_loopw [3, 5] (fun v i wr => ∃ m : Nat, i = .int .i64 m ∧ m ≤ 16 ∧ wr.ownsRow w.heap.size 53 2 v (es ++ marksPr m).length (clPr (es ++ marksPr m)) ∧ Below w.heap.size w wr) (fun _ i _ => 16 - (intOf i).toNat)
      case atStart => exact ⟨0, rfl, Nat.zero_le _, by rw [show marksPr 0 = [] from rfl, List.append_nil]; exact hown, hB⟩
      case round =>
        clear hown hB hsz
        obtain ⟨m, rfl, hm, hown, hB⟩ := hrel
        by_cases hlt : m < 16
        · have hlt' : (m : Int) < 16 := by omega
          have hM := fun W => markPr_p 90 m (by decide) (by decide) W
          have HX : Hid (es ++ marksPr (m + 1) = (es ++ marksPr m) ++ [markPr 90 m]) := by unfold Hid; rw [marksPr_succ, ← List.append_assoc]
          have hln : (es ++ marksPr m).length + 1 ≤ 4398046510976 + 16 := by rw [List.length_append, marksPr_length]; omega
          generalize markPr 90 (m : Int) = x at *
          go_wp2_with (first
            | (go_at_call 30; refine (hM _).mono ?_; rintro e w1 ⟨rfl, b1⟩; have hown1 := own_upG hown b1; have hB1 := hB.trans (b1.mono hB.size); have hs1 := hB1.size)
            | (at_builtin; refine wpList_append_own _ rfl _ _ 22 rfl w.heap.size 53 i0 (.agg #[.string ⟨#[]⟩, .string ⟨#[]⟩]) 2 32 Tryz.underlying22 hi hz0 hz1 hz2 rfl (by decide) _ _ _ rfl (hown1.alloc _) ⟨w1.heap.size, 0, none⟩ 1 1 (csPr x) rfl rfl (newPr w1 _ x) (onePr x) (by unfold maxLen; omega) (by omega) (by simp; omega) ?_; intro v1 w2 hown2 hgrow2 _))
          have hb2 : Below w.heap.size w w2 := (hB1.alloc hs1 _).grown hgrow2 (by simp; omega) (fun j hj => own_geG hown1 j hj.symm)
          have hown3 : w2.ownsRow w.heap.size 53 2 v1 (es ++ marksPr (m + 1)).length (clPr (es ++ marksPr (m + 1))) := by
            rw [HX.out, clPr_append, List.length_append]; simpa [clPr] using hown2
          clear hown1 hgrow2 hown2 hown
          go_roundw
          case rel => exact ⟨m + 1, by go_num, by omega, hown3, hb2⟩
          case measure => simp [intOf]; omega
        · have hge2 : ¬ (m : Int) < 16 := by omega
          have hm16 : m = 16 := by omega
          rw [hm16, List.length_append, marksPr_length] at hown
          have HW : Hid _ := hown
          clear hown hm16
          go_wp2
          go_ret
          exact ⟨_, rfl, HW.out, hB⟩
/-- A list that was lent: its elements, and sixteen marks behind them. -/
def LentPr (w : World) (v : Value) (es : List PrZ) : Prop :=
  ∃ g cap, v = .slice (some ⟨g, 0, none⟩) es.length cap ∧ es.length + 16 ≤ cap ∧ cap ≤ maxLen ∧ ∀ j x, (es ++ marksPr 16)[j]? = some x → PrC w g (j * 2) x
theorem LentPr.below {w w' : World} {v : Value} {es : List PrZ} (h : LentPr w v es) (hb : Below w.heap.size w w') : LentPr w' v es := by
  obtain ⟨g, cap, rfl, hc, hm, h3⟩ := h
  exact ⟨g, cap, rfl, hc, hm, fun j x hx => (h3 j x hx).below hb⟩
theorem LentPr.keep {w w' : World} {v : Value} {es : List PrZ} (h : LentPr w v es) (hk : ∀ g, v.ownBlock = some g → w'.heap[g]? = w.heap[g]?) : LentPr w' v es := by
  obtain ⟨g, cap, rfl, hc, hm, h3⟩ := h
  have e : ∀ q, w'.cell? ⟨g, q, none⟩ = w.cell? ⟨g, q, none⟩ := fun q => by simp [World.cell?, hk g rfl]
  exact ⟨g, cap, rfl, hc, hm, fun j x hx => ⟨(e _).trans (h3 j x hx).c0, (e _).trans (h3 j x hx).c1⟩⟩
theorem LentPr.sl {w : World} {v : Value} {es : List PrZ} (h : LentPr w v es) : ∃ a l c, v = .slice a l c := by
  obtain ⟨g, cap, rfl, _⟩ := h
  exact ⟨_, _, _, rfl⟩
theorem LentPr.at {w : World} {v : Value} {es : List PrZ} (h : LentPr w v es) : PrsAt w v es := by
  obtain ⟨g, cap, rfl, hc, _, h3⟩ := h
  refine ⟨_, cap, g, 0, rfl, fun _ => rfl, by omega, fun i x hx => ?_⟩
  rw [Nat.zero_add]
  exact h3 i x (by rw [List.getElem?_append_left (List.getElem?_eq_some_iff.1 hx).1]; exact hx)
set_option maxHeartbeats 2000000 in
set_option maxRecDepth 100000 in
theorem lentPr_p (es : List PrZ) (v : Value) (w : World) (hv : PrsAt w v es) (hl : es.length ≤ 4398046510976) : Calls Tryz.prog 7 #[v] w fun e w' => ∃ u, e = .returned u ∧ LentPr w' u es ∧ (∀ j, u.ownBlock = some j → w.heap.size ≤ j) ∧ Below w.heap.size w w' := by
  have hF := fullPr_p es v w hv hl
  obtain ⟨a, cap0, b, o, rfl, ha, _, hc⟩ := hv
  clear hc ha
  go_enter Tryz.func7, Tryz.ntmps7
  go_wp2_with fail
  refine hF.mono ?_
  rintro e w1 ⟨u, rfl, hown, b1⟩
  have hown2 : w1.ownsRow w.heap.size 53 2 u (es ++ marksPr 16).length (clPr (es ++ marksPr 16)) := by rw [List.length_append, marksPr_length]; exact hown
  obtain ⟨a3, cap3, b3, o3, h31, h32, h33, h34⟩ := at_of_ownsPr hown2
  rcases hown.2 with ⟨_, h0⟩ | ⟨g, cap, cur, rfl, hgb, hgg, hcap, hmax, hcs, htk⟩
  · omega
  have hne : es ++ marksPr 16 ≠ [] := fun e => by have := congrArg List.length e; rw [List.length_append, marksPr_length] at this; simp at this
  have e3 := h32 hne
  rw [e3] at h31
  injection h31 with h311 h312 h313
  injection h311 with h311
  injection h311 with h3a h3b
  subst h3a; subst h3b; subst h313
  clear h312
  have HI : Hid (LentPr w1 (.slice (some ⟨g, 0, none⟩) es.length cap) es) := ⟨g, cap, rfl, hcap, hmax, fun j x hx => by have := h34 j x hx; rw [Nat.zero_add] at this; exact this⟩
  clear hown hown2 h34 h32 hgg htk
  unfold maxLen at hmax
  have d1 : (0 : Int) ≤ (es.length : Int) := by omega
  have d2 : (es.length : Int) ≤ (cap : Int) := by omega
  go_wp2
  go_ret
  exact ⟨_, rfl, HI.out, (fun j hj => by simp [Value.ownBlock] at hj; omega), b1⟩
theorem mark_atPr {es : List PrZ} {k : Nat} {x : PrZ} (hx : (es ++ marksPr 16)[k]? = some x) (hk : ¬ k < es.length) (h2 : k < es.length + 16) : x = markPr 90 ((k : Int) - (es.length : Int)) := by
  rw [List.getElem?_append_right (by omega), marksPr_get _ _ (by omega)] at hx
  have e9 : ((k - es.length : Nat) : Int) = (k : Int) - (es.length : Int) := by omega
  rw [← Option.some.inj hx, e9]
set_option maxHeartbeats 2000000 in
set_option maxRecDepth 100000 in
theorem keptfullPr_p (es : List PrZ) (g cap : Nat) (v : Value) (w : World) (hv : PrsAt w v es) (hl : es.length ≤ 4398046510976) (hG : ∀ j x, (es ++ marksPr 16)[j]? = some x → PrC w g (j * 2) x) : Calls Tryz.prog 21 #[.slice (some ⟨g, 0, none⟩) (es.length + 16) cap, v] w fun e w' => e = .returned (.bool true) ∧ Below w.heap.size w w' := by
  obtain ⟨a, cap2, b, o, rfl, ha, hcap, hc⟩ := hv
  have HC : Hid (∀ W i e, es[i]? = some e → Below w.heap.size w W → PrC W b (o + i * 2) e) := fun W i e he bb => (hc i e he).below bb
  have HGC : Hid (∀ W j x, (es ++ marksPr 16)[j]? = some x → Below w.heap.size w W → PrC W g (j * 2) x) := fun W j x hx bb => (hG j x hx).below bb
  have hinf : (Tryz.prog.info? 53).map (·.size) = some 2 := by kernel_rfl
  clear hc hG
  go_enter Tryz.func21, Tryz.ntmps21
  go_wp2_with fail
  go_loopw [5, 6] (fun n _ wr => ∃ k : Nat, k ≤ es.length + 16 ∧ n = .int .i64 k ∧ Below w.heap.size w wr) (fun n _ _ => es.length + 16 - (intOf n).toNat)
  case atStart => exact ⟨0, Nat.zero_le _, rfl, Below.refl _ _⟩
  case round =>
    obtain ⟨k, hk, rfl, hB⟩ := hrel
    by_cases hlt : k < es.length + 16
    · have hlt' : (k : Int) < (es.length : Int) + 16 := by omega
      have hk0 : (0 : Int) ≤ (k : Int) := by omega
      obtain ⟨x, hx⟩ : ∃ x, (es ++ marksPr 16)[k]? = some x := ⟨_, List.getElem?_eq_getElem (by rw [List.length_append, marksPr_length]; exact hlt)⟩
      have HX : Hid _ := hx
      have hM := fun W => markPr_p 90 ((k : Int) - (es.length : Int)) (by decide) (by decide) W
      have HMA : Hid (¬ k < es.length → markPr 90 ((k : Int) - (es.length : Int)) = x) := fun h => (mark_atPr hx h hlt).symm
      have heq := fun W => eqPr x W
      by_cases hin : k < es.length
      · have hin' : (k : Int) < (es.length : Int) := by omega
        have hx2 : es[k]? = some x := by rwa [List.getElem?_append_left hin] at hx
        obtain rfl := ha (fun e => by rw [e] at hin; simp at hin)
        clear HMA hx
        generalize markPr 90 ((k : Int) - (es.length : Int)) = y at *
        go_upto_region 7 with (go_at_call 30; refine (hM _).mono ?_; rintro e w1 ⟨rfl, b1⟩)
        have B1 := hB.trans (b1.mono hB.size)
        have L2 := Lies.new w1 53 #[.string y.key, .string y.val]
        have B2 : Below w.heap.size w (w1.alloc (.cells #[.string y.key, .string y.val] 53)) := B1.alloc B1.size _
        have hge : w.heap.size ≤ w1.heap.size := B1.size
        clear b1 hM B1
        generalize (w1.alloc (.cells #[.string y.key, .string y.val] 53)) = W2 at *
        generalize w1.heap.size = ge at *
        obtain ⟨c0, c1⟩ := HC.out W2 k x hx2 B2
        have hone : (#[.string x.key, .string x.val] : Array Value).all (·.oneCell') = true := by simp [Value.oneCell']
        clear hx2
        go_upto_region 9 with (first | (refine wpList_store_row rfl 53 (.tmp 6) (.tmp 31) rfl ge #[.string x.key, .string x.val] rfl rfl 53 #[.string y.key, .string y.val] L2 hinf rfl hone ?_))
        have L3 : Lies (W2.setRow ge #[.string x.key, .string x.val]) ge 53 #[.string x.key, .string x.val] := setRow_heap W2 ge _ _ _ (0, 0) L2
        have B3 : Below w.heap.size w (W2.setRow ge #[.string x.key, .string x.val]) := below_setRow B2 hge _
        clear c0 c1 L2
        generalize (W2.setRow ge #[.string x.key, .string x.val]) = W3 at *
        obtain ⟨d0, d1⟩ := HGC.out W3 k x HX.out B3
        have f0 := L3.cell (i := 0) rfl
        have f1 := L3.cell (i := 1) rfl
        clear L3
        go_wp2
        try (go_quiet (fail))
        try go_wp2
        go_roundw
        case rel => exact ⟨k + 1, by omega, by go_num, B3.trans ⟨rfl, rfl, rfl, Nat.le_refl _, fun _ _ => rfl⟩⟩
        case measure => simp [intOf]; omega
      · have hin' : ¬ (k : Int) < (es.length : Int) := by omega
        have hy := HMA.out hin
        rw [hy] at hM
        clear HMA hx hy
        go_upto_region 7 with (go_at_call 30; refine (hM _).mono ?_; rintro e w1 ⟨rfl, b1⟩)
        have B1 := hB.trans (b1.mono hB.size)
        have L3 := Lies.new w1 53 #[.string x.key, .string x.val]
        have B3 : Below w.heap.size w (w1.alloc (.cells #[.string x.key, .string x.val] 53)) := B1.alloc B1.size _
        clear b1 hM B1
        generalize (w1.alloc (.cells #[.string x.key, .string x.val] 53)) = W3 at *
        generalize w1.heap.size = ge at *
        obtain ⟨d0, d1⟩ := HGC.out W3 k x HX.out B3
        have f0 := L3.cell (i := 0) rfl
        have f1 := L3.cell (i := 1) rfl
        clear L3
        go_wp2
        try (go_quiet (fail))
        try go_wp2
        go_roundw
        case rel => exact ⟨k + 1, by omega, by go_num, B3.trans ⟨rfl, rfl, rfl, Nat.le_refl _, fun _ _ => rfl⟩⟩
        case measure => simp [intOf]; omega
    · have hge : ¬ (k : Int) < (es.length : Int) + 16 := by omega
      go_wp2
      go_ret
      exact ⟨rfl, hB⟩
set_option maxHeartbeats 2000000 in
set_option maxRecDepth 100000 in
theorem keptPr_p (es : List PrZ) (u v : Value) (w : World) (hu : LentPr w u es) (hv : PrsAt w v es) (hl : es.length ≤ 4398046510976) : Calls Tryz.prog 10 #[u, v] w fun e w' => e = .returned (.bool true) ∧ Below w.heap.size w w' := by
  obtain ⟨g, cap, rfl, hcap, _, hG⟩ := hu
  have hK := keptfullPr_p es g cap v w hv hl hG
  obtain ⟨a, cap2, b, o, rfl, ha, _, hc⟩ := hv
  clear hc hG ha
  have d1 : (0 : Int) ≤ (es.length : Int) + 16 := by omega
  have d2 : (es.length : Int) + 16 ≤ (cap : Int) := by omega
  go_enter Tryz.func10, Tryz.ntmps10
  go_wp2_with fail
  refine hK.mono ?_
  rintro e w1 ⟨rfl, b1⟩
  go_wp2
  go_ret
  exact ⟨rfl, b1⟩
end Go.Proofs.YtjmekcakiacdfaaGreatDoor

namespace Go.Proofs.YtjmekcakiacdfaaGreatDoor
open Go Go.RowKit

theorem below_j {W A C : World} (h : Below W.heap.size W A) (k : Below A.heap.size A C) : Below W.heap.size W C := h.trans (k.mono h.size)
theorem PrsAt.formH {W : World} {v : Value} {vs : List PrZ} (h : PrsAt W v vs) : ∃ a cap, v = .slice a vs.length cap := by
  obtain ⟨a, cap, b, o, h1, _⟩ := h
  exact ⟨a, cap, h1⟩
theorem few_h (s : ByteArray) (a : Option Addr) (n c : Nat) (W : World) : Calls Tryz.prog 5 #[.string s, .slice a n c] W fun x w' => x = .returned (.bool (decide (s.size ≤ 131072) && decide (n ≤ 4096))) ∧ w' = W := by
  by_cases h1 : s.size ≤ 131072
  · have h1' : (s.size : Int) ≤ 131072 := by omega
    by_cases h2 : n ≤ 4096
    · have h2' : (n : Int) ≤ 4096 := by omega
      rw [decide_eq_true h1, decide_eq_true h2]
      go_enter Tryz.func5, Tryz.ntmps5
      go_wp2
      go_ret
      exact ⟨rfl, rfl⟩
    · have h2' : ¬ (n : Int) ≤ 4096 := by omega
      rw [decide_eq_true h1, decide_eq_false h2]
      go_enter Tryz.func5, Tryz.ntmps5
      go_wp2
      go_ret
      exact ⟨rfl, rfl⟩
  · have h1' : ¬ (s.size : Int) ≤ 131072 := by omega
    rw [decide_eq_false h1]
    go_enter Tryz.func5, Tryz.ntmps5
    go_wp2
    go_ret
    exact ⟨rfl, rfl⟩
theorem each_no (e : UInt8) : ∀ (f : Nat) (st : List Nat) (l : List UInt8), (eachF e f st l).2 ≤ 18
  | 0, st, l => by simp only [eachF, endS]; split <;> (try split) <;> omega
  | f + 1, st, [] => by simp only [eachF, endS]; split <;> (try split) <;> omega
  | f + 1, st, b :: t => by
    unfold eachF
    cases hk : takeS e st b t with
    | bad n =>
      simp only
      unfold takeS escS dollarS bracesS singS runS at hk
      repeat' split at hk
      all_goals first
        | (cases hk; omega)
        | cases hk
    | good p k st2 => exact each_no e f st2 _
theorem word_no (e : UInt8) (vs : List (List UInt8 × List UInt8)) (l : List UInt8) : (wordL e vs l).1 ≤ 18 := by
  have h := each_no e l.length [0] l
  unfold wordL ansL
  split
  · exact h
  · split <;> simp
theorem doc_no (e : UInt8) (vs : List (List UInt8 × List UInt8)) (l : List UInt8) : (docL e vs l).1 ≤ 18 := by
  have h := each_no e l.length [1] l
  unfold docL ansL
  split
  · exact h
  · split <;> simp
theorem lent_prs {w : World} {u : Value} {es : List PrZ} (h : LentPr w u es) : PrsAt w u es := by
  obtain ⟨g, cap, rfl, hc, hm, h3⟩ := h
  refine ⟨some ⟨g, 0, none⟩, cap, g, 0, rfl, fun _ => rfl, by omega, fun i e he => ?_⟩
  have hi := (List.getElem?_eq_some_iff.1 he).1
  have := h3 i e (by rw [List.getElem?_append_left hi]; exact he)
  rwa [Nat.zero_add]
set_option maxHeartbeats 8000000 in
set_option maxRecDepth 100000 in
theorem expandwords_law (s : ByteArray) (e : UInt8) (v : Value) (vs : List PrZ) (W : World) (hE : ErrType W) (hv : PrsAt W v vs) (_hl : vs.length ≤ 4398046511104) (hx : ∀ x ∈ vs, x.key.size ≤ 140737488355328 ∧ x.val.size ≤ 140737488355328) (_hs : s.size ≤ 140737488351232) : Calls Tryz.prog 3 #[.string s, .int .u8 e.toNat, v] W fun x w' => x = .returned (.bool true) ∧ Below W.heap.size W w' := by
  obtain ⟨va, cap, rfl⟩ := hv.formH
  have hfa := fun W => few_h s va vs.length cap W
  have hww := works_x
  cases h1 : (decide (s.size ≤ 131072) && decide (vs.length ≤ 4096)) with
  | false =>
    rw [h1] at hfa
    clear hv h1
    go_enter Tryz.func3, Tryz.ntmps3
    go_wp2_with (go_at_call 5; refine (hfa _).mono ?_; rintro x w2 ⟨rfl, hw⟩; replace hw := hw.symm; subst hw)
    go_ret
    exact ⟨rfl, Below.refl _ _⟩
  | true =>
  rw [h1] at hfa
  simp only [Bool.and_eq_true, decide_eq_true_eq] at h1
  have hf : FewQ vs := FewQ.of ⟨by omega, hx⟩
  have hno := word_no e (prL vs) (un s)
  have hD := word_d s e (.slice va vs.length cap) vs W hv hf.1 (by omega)
  have hP := fun (W2 : World) (u : Value) (hu : PrsAt W2 u vs) => word_p s e vs u W2 hu hf (by omega)
  have hL := fun W2 (hb : Below W.heap.size W W2) => lentPr_p vs (.slice va vs.length cap) W2 (hv.below hb) (by omega)
  have hK := fun W2 (u : Value) (hb : Below W.heap.size W W2) (hu : LentPr W2 u vs) => keptPr_p vs u (.slice va vs.length cap) W2 hu (hv.below hb) (by omega)
  have hE2 := fun W2 (hb : Below W.heap.size W W2) => hE.below hb
  generalize wordL e (prL vs) (un s) = AN at *
  obtain ⟨n, T⟩ := AN
  have hno : n ≤ 18 := hno
  have hPl : ∀ W2, Below W.heap.size W W2 → Calls Tryz.prog 9 #[erV n, .int .i64 (n : Int)] W2 fun x w' => x = .returned (.bool true) ∧ Below W2.heap.size W2 w' := fun W2 hb => by
    by_cases h0 : n = 0
    · subst h0; exact plain_nil W2
    · unfold erV
      rw [if_neg h0]
      exact plain_some (n : Int) (by omega) (by omega) W2 (hE2 W2 hb)
  have hq : ((bs T).toList == (bs T).toList) = true := by simp
  have hEV : ∃ ev, ev = erV n := ⟨_, rfl⟩
  clear hE hx hno hf h1
  dsimp only at hD hP
  generalize erV n = ev at *
  go_enter Tryz.func3, Tryz.ntmps3
  go_upto_region 4 with (first
    | (go_at_call 5; refine (hfa _).mono ?_; rintro x w2 ⟨rfl, hw⟩; replace hw := hw.symm; subst hw)
    | (go_at_call 6; refine hD.mono ?_; rintro x w1 ⟨rfl, b1⟩))
  go_upto_region 5 with (go_at_call 7; refine (hL _ b1).mono ?_; rintro x w2 ⟨u, rfl, hu2, _, b2⟩)
  have B2 := below_j b1 b2
  have hu2p := lent_prs hu2
  go_upto_region 6 with (go_at_call 8; refine (hP _ u hu2p).mono ?_; rintro x w3 ⟨rfl, b3⟩)
  have hu3 := hu2.below b3
  have B3 := below_j B2 b3
  have hu3p := lent_prs hu3
  go_upto_region 7 with (go_at_call 8; refine (hP _ u hu3p).mono ?_; rintro x w4 ⟨rfl, b4⟩)
  have hu4 := hu3.below b4
  have B4 := below_j B3 b4
  have p4 := hPl _ B4
  clear hD hP hL hfa hu2 hu3 hu2p hu3p b1 b2 b3 b4 B2 B3
  go_wp2_with (first
    | (go_at_call 9; with_reducible refine p4.mono ?_; rintro x w5 ⟨rfl, b5⟩; have B5 := below_j B4 b5; have p5 := hPl _ B5)
    | (go_at_call 9; with_reducible refine p5.mono ?_; rintro x w6 ⟨rfl, b6⟩; have B6 := below_j B5 b6; have k6 := hK _ u B6 ((hu4.below b5).below b6))
    | (go_at_call 10; refine k6.mono ?_; rintro x w7 ⟨rfl, b7⟩; have B7 := below_j B6 b7)
    | (go_at_call 11; refine (hww _).mono ?_; rintro x w8 ⟨rfl, b8⟩; have B8 := below_j B7 b8))
  go_ret
  exact ⟨rfl, B8⟩
set_option maxHeartbeats 8000000 in
set_option maxRecDepth 100000 in
theorem expanddocs_law (s : ByteArray) (e : UInt8) (v : Value) (vs : List PrZ) (W : World) (hE : ErrType W) (hv : PrsAt W v vs) (_hl : vs.length ≤ 4398046511104) (hx : ∀ x ∈ vs, x.key.size ≤ 140737488355328 ∧ x.val.size ≤ 140737488355328) (_hs : s.size ≤ 140737488351232) : Calls Tryz.prog 4 #[.string s, .int .u8 e.toNat, v] W fun x w' => x = .returned (.bool true) ∧ Below W.heap.size W w' := by
  obtain ⟨va, cap, rfl⟩ := hv.formH
  have hfa := fun W => few_h s va vs.length cap W
  have hww := works_x
  cases h1 : (decide (s.size ≤ 131072) && decide (vs.length ≤ 4096)) with
  | false =>
    rw [h1] at hfa
    clear hv h1
    go_enter Tryz.func4, Tryz.ntmps4
    go_wp2_with (go_at_call 5; refine (hfa _).mono ?_; rintro x w2 ⟨rfl, hw⟩; replace hw := hw.symm; subst hw)
    go_ret
    exact ⟨rfl, Below.refl _ _⟩
  | true =>
  rw [h1] at hfa
  simp only [Bool.and_eq_true, decide_eq_true_eq] at h1
  have hf : FewQ vs := FewQ.of ⟨by omega, hx⟩
  have hno := doc_no e (prL vs) (un s)
  have hD := doc_d s e (.slice va vs.length cap) vs W hv hf.1 (by omega)
  have hP := fun (W2 : World) (u : Value) (hu : PrsAt W2 u vs) => doc_p s e vs u W2 hu hf (by omega)
  have hL := fun W2 (hb : Below W.heap.size W W2) => lentPr_p vs (.slice va vs.length cap) W2 (hv.below hb) (by omega)
  have hK := fun W2 (u : Value) (hb : Below W.heap.size W W2) (hu : LentPr W2 u vs) => keptPr_p vs u (.slice va vs.length cap) W2 hu (hv.below hb) (by omega)
  have hE2 := fun W2 (hb : Below W.heap.size W W2) => hE.below hb
  generalize docL e (prL vs) (un s) = AN at *
  obtain ⟨n, T⟩ := AN
  have hno : n ≤ 18 := hno
  have hPl : ∀ W2, Below W.heap.size W W2 → Calls Tryz.prog 9 #[erV n, .int .i64 (n : Int)] W2 fun x w' => x = .returned (.bool true) ∧ Below W2.heap.size W2 w' := fun W2 hb => by
    by_cases h0 : n = 0
    · subst h0; exact plain_nil W2
    · unfold erV
      rw [if_neg h0]
      exact plain_some (n : Int) (by omega) (by omega) W2 (hE2 W2 hb)
  have hq : ((bs T).toList == (bs T).toList) = true := by simp
  have hEV : ∃ ev, ev = erV n := ⟨_, rfl⟩
  clear hE hx hno hf h1
  dsimp only at hD hP
  generalize erV n = ev at *
  go_enter Tryz.func4, Tryz.ntmps4
  go_upto_region 4 with (first
    | (go_at_call 5; refine (hfa _).mono ?_; rintro x w2 ⟨rfl, hw⟩; replace hw := hw.symm; subst hw)
    | (go_at_call 12; refine hD.mono ?_; rintro x w1 ⟨rfl, b1⟩))
  go_upto_region 5 with (go_at_call 7; refine (hL _ b1).mono ?_; rintro x w2 ⟨u, rfl, hu2, _, b2⟩)
  have B2 := below_j b1 b2
  have hu2p := lent_prs hu2
  go_upto_region 6 with (go_at_call 13; refine (hP _ u hu2p).mono ?_; rintro x w3 ⟨rfl, b3⟩)
  have hu3 := hu2.below b3
  have B3 := below_j B2 b3
  have p3 := hPl _ B3
  clear hD hP hL hfa hu2 hu2p b1 b2 b3 B2
  go_wp2_with (first
    | (go_at_call 9; refine p3.mono ?_; rintro x w6 ⟨rfl, b6⟩; have B6 := below_j B3 b6; have k6 := hK _ u B6 (hu3.below b6))
    | (go_at_call 10; refine k6.mono ?_; rintro x w7 ⟨rfl, b7⟩; have B7 := below_j B6 b7)
    | (go_at_call 11; refine (hww _).mono ?_; rintro x w8 ⟨rfl, b8⟩; have B8 := below_j B7 b8))
  go_ret
  exact ⟨rfl, B8⟩
end Go.Proofs.YtjmekcakiacdfaaGreatDoor

namespace Go.Proofs.YtjmekcakiacdfaaGreatDoor.fnExpandDocs
open Go.ChangeShapes Go.WideShapes Go.ChangeAt Go.RowKit
open Go.WideMaps Go.WideElems
open Go.ChangeMaps (open_string shut_string)

abbrev listed : List (String × DataW Unit) := [("errors.errorType", Rows.laid_errors_errorType)]
set_option maxRecDepth 100000 in
theorem contract (H : Type) (enc : TypeId × Value → H) (W : World) (base : Nat) (args : Array Value) (ds gs : List (DataW H)) (before : List MemPlace)
    (hval : ∀ (j : Nat) t v, Tryz.f4.params[j]? = some t → args[j]? = some v → Value.okWide Tryz.prog W .any base t v)
    (hW : DataW.Whole enc Tryz.prog Tryz.f4.params.toList Rows.expandDocsSpec.vars false W args.toList ds gs before)
    (hz : (DataW.weightsEach Tryz.prog (Tryz.f4.params.toList ++ (OpenSpec.ofChange Rows.expandDocsSpec).bare.plain.varTypes Tryz.prog) (ds ++ gs)).all (· ≤ reachBytes) = true)
    (hL : laidMetH Tryz.prog listed W) :
    Calls Tryz.prog 4 args W fun e W' => ∃ v, e = .returned v ∧ Rows.expandDocsSpec.post enc Tryz.prog Tryz.f4 false true false false W args v W' := by
  have hW' := hW
  obtain ⟨p, q, hA0, hV, rfl, hfz, hnd⟩ := hW
  have hA : DataW.TrodAll enc Tryz.prog W 0 (fun _ => true) true Tryz.f4.params.toList args.toList ds p := hA0
  rw [Tryz.params4] at hA hval
  obtain ⟨v0, vs0, d0, ds0, p0, q0, hargs, rfl, rfl, h0, r0⟩ := trodAll_cons hA
  obtain ⟨v1, vs1, d1, ds1, p1, q1, rfl, rfl, rfl, h1, r1⟩ := trodAll_cons r0
  obtain ⟨v2, vs2, d2, ds2, p2, q2, rfl, rfl, rfl, h2, r2⟩ := trodAll_cons r1
  obtain ⟨rfl, rfl, rfl⟩ := trodAll_nil r2
  obtain rfl : args = #[v0, v1, v2] := by cases args; simp_all
  obtain ⟨rfl, rfl⟩ := trodVars_none hV
  clear hA0
  simp only [List.append_nil] at hW'
  have k0 := fun (W' : World) (hg : Below W.heap.size W W') => Below.trod (by kernel_rfl) (by kernel_rfl) (of_decide_eq_true (by kernel_rfl)) h0 hg (by obtain ⟨fu, hf⟩ := h0; exact DataW.trod_lt _ _ _ _ hf)
  obtain ⟨s0, rfl, rfl, rfl, hs0⟩ := open_string Tryz.underlying9 (hval 0 9 v0 rfl rfl) h0
  have k1 := fun (W' : World) (hg : Below W.heap.size W W') => Below.trod (by kernel_rfl) (by kernel_rfl) (of_decide_eq_true (by kernel_rfl)) h1 hg (by obtain ⟨fu, hf⟩ := h1; exact DataW.trod_lt _ _ _ _ hf)
  obtain ⟨s1, rfl, rfl, rfl, hs1⟩ := open_int Tryz.underlying5 (hval 1 5 v1 rfl rfl) h1
  obtain ⟨c1, rfl⟩ := byte_of s1 hs1
  have k2 := fun (W' : World) (hg : Below W.heap.size W W') => Below.trod (by kernel_rfl) (by kernel_rfl) (of_decide_eq_true (by kernel_rfl)) h2 hg (by obtain ⟨fu, hf⟩ := h2; exact DataW.trod_lt _ _ _ _ hf)
  obtain ⟨l2, t2, y2, x2⟩ := open_prs_sized (j := 2) hz rfl rfl (hval 2 22 v2 rfl rfl) h2
  have z0 : s0.size ≤ 140737488351232 := by have e := Lib.size_eq s0; have h := sized_string (j := 0) (t := 9) (bytes := s0.data.toList) hz rfl rfl; have e2 : reachBytes = 140737488351232 := rfl; omega
  refine (expanddocs_law s0 c1 v2 l2 W (handle_of_laid hL) t2 y2 x2 z0).mono fun e W' ⟨he, hg⟩ => ?_
  subst he
  have e1 : Rows.expandDocsSpec.fn H ([.lit (.string s0.data.toList), .lit (.int .u8 (c1.toNat : Int)), d2] ++ []) = { results := [.lit (.bool true)], args := [.lit (.string s0.data.toList), .lit (.int .u8 (c1.toNat : Int)), d2] } := by simp [Rows.expandDocsSpec]
  refine ⟨_, rfl, _, _, _, [], [] ++ ([] ++ (p2 ++ [])), [], hW', ?_, ?_, ?_, hg.frame _, fun h => by cases h⟩
  · rw [e1]; exact trodAll_mk1 (shut_bool Tryz.underlying4 true)
  · rw [e1]; exact trodAll_cons_mk (k0 W' hg) (trodAll_cons_mk (k1 W' hg) (trodAll_cons_mk (k2 W' hg) trodAll_mk0))
  · rw [e1]; rfl

set_option maxRecDepth 100000 in
theorem met (os : Os) (args : Array Value) : laidMetH Tryz.prog listed ((laidWorld os).forCall (fun _ _ => 0) ⟨#[], args, []⟩).memory :=
  laidMetH_of_parts (laidMet_nil _ _) (by kernel_rfl)
theorem reads (os : Os) {H : Type} (enc : TypeId × Value → H) : ∃ places, DataW.whole enc Tryz.prog ((laidWorld os).forCall (fun _ _ => 0) ⟨#[], #[.string ⟨#[]⟩, .int .u8 0, .slice none 0 0], []⟩).memory Tryz.f4.params.toList Rows.expandDocsSpec.vars false #[Value.string ⟨#[]⟩, Value.int .u8 0, Value.slice none 0 0].toList 8 = some ([.lit (.string []), .lit (.int .u8 0), .nil], [], places) :=
  ⟨[], by kernel_rfl⟩

set_option maxRecDepth 100000 in
theorem lifted (os : Os) (started : os.Started) (H : Type) (enc : TypeId × Value → H) (F : Stop.Interp) :
    ReturnsInHanded {} Tryz.checked os 4 .any ((OpenSpec.ofChange Rows.expandDocsSpec).preRow enc Tryz.prog Tryz.f4 Rows.expandDocsRow.domain false Rows.expandDocsRow.laid) (((OpenSpec.ofChange Rows.expandDocsSpec).at F).post enc Tryz.prog Tryz.f4 false true false false) := by
  obtain ⟨places, hx⟩ := reads os enc
  refine returnsInHanded_of_row (C := Tryz.checked) (s := OpenSpec.ofChange Rows.expandDocsSpec) own started (by kernel_rfl) Tryz.func4
    (witness_row_at (enc := enc) (C := Tryz.checked) false (laidWorld os) #[.string ⟨#[]⟩, .int .u8 0, .slice none 0 0] rfl (by kernel_rfl) (by kernel_rfl) (by kernel_rfl)
      (OpenSpec.preRow_of_cond 8 hx (by kernel_rfl) (fun k hk => by cases hk) (by kernel_rfl) (met os _))) ?_
  intro W base args ds gs before hval hW _ _ hz hL _ _
  exact contract H enc W base args ds gs before hval hW hz hL

theorem said : Rows.ExpandDocsSaid :=
  OpenClaim.holds_of_cond 4 Tryz.f4 rfl rfl rfl rfl rfl rfl rfl ⟨rfl, rfl, rfl, rfl, rfl⟩ rfl rfl rfl rfl rfl (by kernel_rfl) Tryz.func4 (by kernel_rfl)
    (of_decide_eq_true (by kernel_rfl)) (by unfold Func.isWrapper; rw [if_neg (of_decide_eq_false (by kernel_rfl))]; exact ⟨rfl, rfl⟩)
    (fun os started H enc _ F => by rw [OpenClaim.pre_eq_preRow]; exact lifted os started H enc F)

theorem plainly (f : FuncId) (fn : Func) (hf : Tryz.pinned.checked.prog.funcNamed "strata/stratalaw15.ExpandDocs" = some f) (hfn : Tryz.pinned.checked.prog.funcs[f]? = some fn) :
    true = Tryz.pinned.checked.prog.looks [] ∧ ∀ (j : Nat) t, fn.params[j]? = some t → Tryz.pinned.checked.prog.wantsStandIn t = false := by
  obtain rfl : f = 4 := Option.some.inj ((show Tryz.prog.funcNamed "strata/stratalaw15.ExpandDocs" = some 4 by kernel_rfl).symm.trans hf) |>.symm
  obtain rfl : fn = Tryz.f4 := (Option.some.inj (Tryz.func4.symm.trans hfn)).symm
  refine ⟨by kernel_rfl, fun j t ht => ?_⟩
  rw [Tryz.params4] at ht
  have hm : t ∈ [9, 5, 22] := by simpa using Array.mem_of_getElem? ht
  have hall : ([9, 5, 22].all fun u => !Tryz.prog.wantsStandIn u) = true := by kernel_rfl
  exact (show Tryz.prog.wantsStandIn t = false by simpa using List.all_eq_true.1 hall t hm)

theorem card : Rows.ExpandDocsCardSaid :=
  Claim7.holds_tied_plain_at .later [] _ _ _ _ said (fun _ h => by cases h) (by kernel_rfl) (fun _ h => by cases h) expandDocs_row_tie rfl ⟨rfl, rfl⟩ (by kernel_rfl) rfl plainly (by kernel_rfl)
end Go.Proofs.YtjmekcakiacdfaaGreatDoor.fnExpandDocs
namespace Go.Proofs.YtjmekcakiacdfaaGreatDoor
theorem expandDocs_card : Rows.ExpandDocsCardSaid := fnExpandDocs.card
end Go.Proofs.YtjmekcakiacdfaaGreatDoor
