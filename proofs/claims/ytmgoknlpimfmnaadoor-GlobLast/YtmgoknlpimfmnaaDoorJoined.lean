/- Names put together with slashes between. -/
import Derived.Test.YtmgoknlpimfmnaaDoorRefNames
namespace Go.Proofs.YtmgoknlpimfmnaaDoor
open Go Go.RowKit

theorem joinL_one (x : ByteArray) : joinL [x] = un x := by simp [joinL, Lib.join_one]
theorem joinL_snoc : ∀ (l : List ByteArray) (x : ByteArray), l ≠ [] → joinL (l ++ [x]) = joinL l ++ 47 :: un x
  | [], _, h => (h rfl).elim
  | [y], x, _ => by simp [joinL, Lib.join, List.intercalate]
  | y :: z :: l, x, _ => by
    have ih := joinL_snoc (z :: l) x (by simp)
    have e : ∀ l2, joinL (y :: z :: l2) = un y ++ (47 :: joinL (z :: l2)) := fun l2 => by simp [joinL, Lib.join, List.intercalate]
    rw [List.cons_append, List.cons_append, e, e, ← List.cons_append, ih]; simp
theorem joinL_nil : joinL [] = [] := rfl
theorem wt_take (xs : List ByteArray) (k i : Nat) : wt ((xs.take k).drop i) ≤ wt xs := by
  have h1 : wt (xs.take k) ≤ wt xs := wt_prefix (List.take_prefix k xs)
  have h2 : wt ((xs.take k).take i) + wt ((xs.take k).drop i) = wt (xs.take k) := by rw [← wt_append, List.take_append_drop]
  omega

set_option maxHeartbeats 2000000 in
theorem joined_p (xs : List ByteArray) (b1 : Nat) (v : Value) (i j : Nat) (w : World) (hv : w.ownsRow b1 9 1 v xs.length (strs xs)) (hij : i ≤ j) (hj : j ≤ xs.length) (hz : wt xs ≤ 1099511627776) :
    Calls Tryd.prog 21 #[v, .int .i64 i, .int .i64 j] w fun e w' => e = .returned (.string (bs (joinL ((xs.take j).drop i)))) ∧ w' = w := by
  have hl := length_wt xs
  have hlv : ∃ o c, v = .slice o xs.length c := by
    rcases hv.2 with ⟨rfl, h0⟩ | ⟨g, cap, cur, rfl, _⟩
    · exact ⟨none, 0, by rw [h0]⟩
    · exact ⟨_, _, rfl⟩
  have HC : Hid (∀ (k : Nat) x, xs[k]? = some x → ∃ g c, v = .slice (some ⟨g, 0, none⟩) xs.length c ∧ w.cell? ⟨g, k, none⟩ = some (.string x)) := fun k x hx => by
    have hk : k < xs.length := (List.getElem?_eq_some_iff.1 hx).1
    rcases hv.2 with ⟨rfl, h0⟩ | ⟨g, cap, cur, rfl, _⟩
    · omega
    · exact ⟨g, cap, rfl, row_cell hv k _ (by simp [strs, hx])⟩
  clear hv
  go_enter Tryd.func21, Tryd.ntmps21
  go_wp2
  go_loop [7, 8] (fun a n => ∃ k : Nat, i ≤ k ∧ k ≤ j ∧ n = .int .i64 k ∧ a = .string (bs (joinL ((xs.take k).drop i)))) (fun _ n => j - (intOf n).toNat)
  case atStart => exact ⟨i, Nat.le_refl _, hij, rfl, by rw [List.drop_eq_nil_of_le (by simp; omega), joinL_nil]; rfl⟩
  case round =>
    obtain ⟨k, hik, hkj, rfl, rfl⟩ := hrel
    have hz1 : (bs (joinL ((xs.take k).drop i))).size ≤ 1099511627776 := by
      rw [size_bs]; exact Nat.le_trans (joinL_length _) (Nat.le_trans (wt_take xs k i) hz)
    by_cases hlt : k < j
    · obtain ⟨x, hx⟩ : ∃ x, xs[k]? = some x := ⟨_, List.getElem?_eq_getElem (by omega)⟩
      obtain ⟨g, c, rfl, hc⟩ := HC.out k x hx
      have hxz : x.size ≤ 1099511627776 := by
        obtain ⟨a, b, hab⟩ := List.append_of_mem (List.mem_of_getElem? hx)
        rw [hab, wt_append] at hz; simp [wt] at hz; omega
      have hst : (xs.take (k + 1)).drop i = (xs.take k).drop i ++ [x] := by
        rw [List.take_add_one, hx, List.drop_append_of_le_length (by simp; omega)]; rfl
      have d1 : (0 : Int) ≤ (k : Int) := by omega
      have d2 : (k : Int) < (xs.length : Int) := by omega
      by_cases hki : i < k
      · have hne : (xs.take k).drop i ≠ [] := by
          intro e
          have := congrArg List.length e
          simp at this; omega
        have H3 : Hid (bs (joinL ((xs.take k).drop i)) ++ ⟨#[47]⟩ ++ x = bs (joinL ((xs.take (k + 1)).drop i))) := un_inj (by
          rw [un_append, un_append, un_bs, un_bs, hst, joinL_snoc _ _ hne, List.append_assoc]; rfl)
        obtain ⟨a, ha⟩ : ∃ a, bs (joinL ((xs.take k).drop i)) = a := ⟨_, rfl⟩
        rw [ha] at hz1 H3 ⊢
        have hz3 : (a ++ (⟨#[47]⟩ : ByteArray)).size = a.size + 1 := by rw [ByteArray.size_append]; rfl
        clear ha hst hne hx
        go_wp2
        go_round
        case rel => exact ⟨k + 1, by omega, by omega, by go_num, by rw [← H3.out]⟩
        case measure => simp [intOf]; omega
      · obtain rfl : k = i := by omega
        have he : (xs.take k).drop k = [] := List.drop_eq_nil_of_le (by simp; omega)
        have H3 : Hid (bs (joinL ((xs.take k).drop k)) ++ x = bs (joinL ((xs.take (k + 1)).drop k))) := un_inj (by
          rw [un_append, un_bs, un_bs, hst, he, joinL_nil]; exact (joinL_one x).symm)
        obtain ⟨a, ha⟩ : ∃ a, bs (joinL ((xs.take k).drop k)) = a := ⟨_, rfl⟩
        rw [ha] at hz1 H3 ⊢
        clear ha hst he hx
        go_wp2
        go_round
        case rel => exact ⟨k + 1, by omega, by omega, by go_num, by rw [← H3.out]⟩
        case measure => simp [intOf]; omega
    · obtain rfl : k = j := by omega
      go_wp2
      go_ret
      exact ⟨rfl, rfl⟩
end Go.Proofs.YtmgoknlpimfmnaaDoor
