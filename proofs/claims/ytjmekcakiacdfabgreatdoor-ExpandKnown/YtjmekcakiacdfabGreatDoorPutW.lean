/- What the document's pieces come to, in memory: value, put. -/
import Derived.Test.YtjmekcakiacdfabGreatDoorDcR
import Derived.Deep.MidRow
namespace Go.Proofs.YtjmekcakiacdfabGreatDoor
open Go Go.RowKit

theorem val_none' {vs : List PrZ} {n : ByteArray} (h : ∀ (q : Nat) (y : PrZ), 0 ≤ q → vs[q]? = some y → y.key ≠ n) : valL (prL vs) (un n) = [] := val_none (fun i x hx => h i x (Nat.zero_le _) hx)
set_option maxHeartbeats 2000000 in
set_option maxRecDepth 100000 in
theorem value_r (x : ByteArray) (v : Value) (vs : List PrZ) (W : World) (hv : PrsAt W v vs) (hl : vs.length ≤ 1099511627776) : Calls Tryz.prog 73 #[v, .string x] W fun y w' => y = .returned (.string (bs (valL (prL vs) (un x)))) ∧ w' = W := by
  obtain ⟨a, cap, b, o, rfl, ha, hcap, hc⟩ := hv
  have HC : Hid (∀ (i : Nat) (e : PrZ), vs[i]? = some e → PrC W b (o + i * 2) e) := hc
  have HA : Hid (vs ≠ [] → a = some ⟨b, o, none⟩) := ha
  have w0 : IntKind.i64.wrap ((vs.length : Int) - 1) = (vs.length : Int) - 1 := by rw [IntKind.wrap_i64]; omega
  clear hc ha
  go_enter Tryz.func73, Tryz.ntmps73
  go_wp2
  go_loop [5] (fun i => ∃ j : Nat, j ≤ vs.length ∧ i = .int .i64 ((j : Int) - 1) ∧ Hid (∀ (q : Nat) (y : PrZ), j ≤ q → vs[q]? = some y → y.key ≠ x)) (fun i => (intOf i + 1).toNat)
  case atStart => exact ⟨vs.length, Nat.le_refl _, rfl, fun q y h1 h2 => by have := (List.getElem?_eq_some_iff.1 h2).1; omega⟩
  case round =>
    obtain ⟨j, hj, rfl, HN⟩ := hrel
    cases j with
    | zero =>
      have HV : Hid (valL (prL vs) (un x) = []) := val_none' HN.out
      go_wp2
      go_ret
      exact ⟨by rw [HV.out]; rfl, rfl⟩
    | succ j =>
      have hjl : j < vs.length := by omega
      obtain ⟨y, hy⟩ : ∃ y, vs[j]? = some y := ⟨_, List.getElem?_eq_getElem hjl⟩
      obtain rfl := HA.out (fun e => by rw [e] at hjl; simp at hjl)
      obtain ⟨c0, c1⟩ := HC.out j y hy
      have HY : Hid (vs[j]? = some y) := hy
      have e0 : ((j + 1 : Nat) : Int) - 1 = (j : Int) := by omega
      rw [e0]
      have d0 : (0 : Int) ≤ (j : Int) := by omega
      have d1 : (j : Int) < (vs.length : Int) := by omega
      have w1 : IntKind.i64.wrap ((j : Int) - 1) = (j : Int) - 1 := by rw [IntKind.wrap_i64]; omega
      have hq : (y.key.toList == x.toList) = decide (y.key = x) := by
        rw [Bool.eq_iff_iff, beq_iff_eq, decide_eq_true_iff, toList_un, toList_un]
        exact ⟨fun h => un_inj h, fun h => by rw [h]⟩
      clear hy e0
      by_cases hk : y.key = x
      · have HV : Hid (valL (prL vs) (un x) = un y.val) := val_last HY.out hk (fun q z h1 h2 => HN.out q z (by omega) h2)
        rw [decide_eq_true hk] at hq
        clear hk
        go_wp2
        go_ret
        exact ⟨by rw [HV.out, bs_un]; rfl, rfl⟩
      · have HN2 : Hid (∀ (q : Nat) (z : PrZ), j ≤ q → vs[q]? = some z → z.key ≠ x) := fun q z h1 h2 => by
          rcases Nat.lt_or_ge j q with h3 | h3
          · exact HN.out q z h3 h2
          · obtain rfl : q = j := by omega
            obtain rfl := Option.some.inj (HY.out.symm.trans h2)
            exact hk
        rw [decide_eq_false hk] at hq
        clear hk
        go_wp2
        first
          | exact ⟨⟨j, by omega, rfl, HN2⟩, by simp [intOf]⟩
          | (go_round
             case rel => exact ⟨j, by omega, rfl, HN2⟩
             case measure => simp [intOf])
theorem ptsC_at : ∀ (ts : List Pt) (us : List Value) (i : Nat) (p : Pt) (u : Value), us.length = ts.length → ts[i]? = some p → us[i]? = some u → ∀ (c : Nat) (x : Value), (ptC p u)[c]? = some x → (ptsC ts us)[i * 4 + c]? = some x
  | [], us, i, p, u, _, h, _ => by simp at h
  | q :: ts, [], i, p, u, hl, _, _ => by simp at hl
  | q :: ts, y :: us, 0, p, u, _, h, k => by
    simp at h k
    subst h; subst k
    intro c x hx
    have hc := (List.getElem?_eq_some_iff.1 hx).1
    rw [ptsC, Nat.zero_mul, Nat.zero_add, List.getElem?_append_left hc]
    exact hx
  | q :: ts, y :: us, i + 1, p, u, hl, h, k => by
    intro c x hx
    have h2 := ptsC_at ts us i p u (by simpa using hl) (by simpa using h) (by simpa using k) c x hx
    rw [ptsC, List.getElem?_append_right (by rw [ptC_length]; omega), ptC_length, show (i + 1) * 4 + c - 4 = i * 4 + c by omega]
    exact h2
theorem PatL.at {W : World} {T : Nat → Prop} : ∀ {ts : List Pt} {us : List Value}, PatL W T ts us → ∀ (i : Nat) (p : Pt), ts[i]? = some p → ∃ u, us[i]? = some u ∧ PatP W T p u
  | [], us, _, i, p, h => by simp at h
  | q :: ts, us, hp, 0, p, h => by
    rw [PatL] at hp
    obtain ⟨u, us2, rfl, h1, _⟩ := hp
    simp at h; subst h
    exact ⟨u, rfl, h1⟩
  | q :: ts, us, hp, i + 1, p, h => by
    rw [PatL] at hp
    obtain ⟨u, us2, rfl, _, h2⟩ := hp
    obtain ⟨u', h3, h4⟩ := h2.at i p (by simpa using h)
    exact ⟨u', by simpa using h3, h4⟩
end Go.Proofs.YtjmekcakiacdfabGreatDoor
