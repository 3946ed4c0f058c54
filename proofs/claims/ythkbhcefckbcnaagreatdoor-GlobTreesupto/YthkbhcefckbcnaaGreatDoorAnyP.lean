/- Package glob's anyBelow: a search in a row of texts that is sorted; and sort.Strings over a row of one's own. -/
import Derived.Test.YthkbhcefckbcnaaGreatDoorEntW
import Derived.Test.YthkbhcefckbcnaaGreatDoorBelK
import Derived.Test.YthkbhcefckbcnaaGreatDoorTakeN
import Derived.Sort.OwnSorted
namespace Go.Proofs.YthkbhcefckbcnaaGreatDoor
open Go Go.RowKit Go.Sort

theorem strs_enc (l : List (List UInt8)) : strs (l.map bs) = l.map encStr := by unfold strs; rw [List.map_map]; rfl
theorem strs_un (xs : List ByteArray) : strs xs = (xs.map un).map encStr := by
  unfold strs; rw [List.map_map]
  apply List.map_congr_left
  intro x _
  show Value.string x = Value.string (bs (un x))
  rw [bs_un]
def sortT (xs : List ByteArray) : List ByteArray := ((xs.map un).mergeSort fun x y => decide (x ≤ y)).map bs
theorem srtL_sortT (ok : ByteArray → Bool) (es : List Ent) : srtL ok es = sortT (inL ok es) := rfl
theorem sortT_length (xs : List ByteArray) : (sortT xs).length = xs.length := by unfold sortT; simp
theorem sort_own {W : World} {base : Nat} {v : Value} {xs : List ByteArray} (h : W.ownsRow base 9 1 v xs.length (strs xs)) (hl : xs.length ≤ 1099511627776) : Calls Tryz.prog 34 #[v] W fun e w' => e = .returned (.tuple #[]) ∧ w'.ownsRow base 9 1 v xs.length (strs (sortT xs)) ∧ W.grownBy w' v.ownBlock := by
  have h' := h
  rcases h.2 with ⟨rfl, h0⟩ | ⟨g, cap, cur, rfl, hg, hgb, h1, h2, h3, h4⟩
  · have hx : xs = [] := List.eq_nil_of_length_eq_zero h0
    subst hx
    refine (Tryz.sort_Strings_none none 0 W).mono ?_
    rintro e w' ⟨rfl, hw⟩
    have hgr : W.grownBy w' none := by
      first
        | (subst hw; exact World.grownBy_refl _ _)
        | (obtain ⟨n, rfl⟩ := hw; exact ⟨rfl, rfl, rfl, Nat.le_refl _, fun _ _ _ => rfl⟩)
        | exact hw
    refine ⟨rfl, ?_, hgr⟩
    have e0 : sortT [] = [] := by simp [sortT]
    rw [e0]
    exact World.ownsRow_nil _ _ _ _
  · have hH : Holds encStr W g 0 (xs.map un).toArray := holds_of_block hgb (by rw [List.length_map, ← strs_un]; simpa using h4)
    have hb : g < W.heap.size := (Array.getElem?_eq_some_iff.1 hgb).1
    have hc := Tryz.sort_Strings g 0 cap (xs.map un) W hH hb (by rw [List.length_map]; omega)
    rw [List.length_map] at hc
    refine hc.mono ?_
    rintro e w' ⟨rfl, n, os, rfl⟩
    refine ⟨rfl, ?_, ?_⟩
    · have := ownsRow_sorted (w := W) (base := base) (g := g) (cap := cap) (n := n) (e := 9) (os := os) (cur := cur) (ss := xs.map un) (ts := (xs.map un).mergeSort fun x y => decide (x ≤ y)) (by simp) hg hgb (by simpa using h1) h2 h3
      rw [List.length_map] at this
      unfold sortT
      rw [strs_enc]
      exact this
    · exact grownBy_sorted _
theorem row_get {W : World} {base g cap : Nat} {row : List ByteArray} (h : W.ownsRow base 9 1 (.slice (some ⟨g, 0, none⟩) row.length cap) row.length (strs row)) (i : Nat) (y : ByteArray) (hy : row[i]? = some y) : W.cell? ⟨g, i, none⟩ = some (.string y) := row_cell h i _ (by simp [strs, hy])
theorem search_p {W : World} {base : Nat} {v : Value} (row : List ByteArray) (x : ByteArray) (h : W.ownsRow base 9 1 v row.length (strs row)) (hs : (row.map un).Pairwise (fun a b => ¬ b < a)) (hl : row.length ≤ 1099511627776) : Calls Tryz.prog 64 #[v, .string x] W fun e w' => e = .returned (.int .i64 (row.countP (fun y => decide (un y < un x)) : Nat)) ∧ Below W.heap.size W w' := by
  rcases h.2 with ⟨rfl, h0⟩ | ⟨g, cap, cur, rfl, hg, hgb, h1, h2, h3, h4⟩
  · have hx : row = [] := List.eq_nil_of_length_eq_zero h0
    subst hx
    exact Tryz.sort_SearchStrings_none none 0 x W
  · have hc := Tryz.sort_SearchStrings g 0 cap row.toArray x W (fun i hi => by
      have hi2 : i < row.length := by simpa using hi
      rw [Nat.zero_add, getElem!_pos row.toArray i hi]
      exact row_get h i _ (by simp [hi2])) (Array.getElem?_eq_some_iff.1 hgb).1 (by simp; omega) (fun a b hab hb => by
      have hb2 : b < row.length := by simpa using hb
      have ha2 : a < row.toArray.size := by simp; omega
      rw [getElem!_pos row.toArray a ha2, getElem!_pos row.toArray b hb]
      intro hna
      have hna2 : ¬ un row[a] < un x := of_decide_eq_false (by rw [Bool.not_eq_true'] at hna; exact hna)
      have hnb : ¬ un row[b] < un x := fun hlt => by
        by_cases e : a = b
        · subst e; exact hna2 hlt
        · have hp := List.pairwise_iff_getElem.1 hs a b (by simp; omega) (by simp; omega) (by omega)
          simp at hp
          exact hna2 (by
            by_cases h5 : un row[a] < un x
            · exact h5
            · exact absurd (lt_le hlt h5) (by simpa using hp))
      rw [Bool.not_eq_true']; exact decide_eq_false hnb)
    have e : row.toArray.toList.countP (fun y => !!decide (y.data.toList < x.data.toList)) = row.countP (fun y => decide (un y < un x)) := by
      simp only [Bool.not_not]; rfl
    rw [e] at hc
    simpa using hc

set_option maxRecDepth 100000 in
set_option maxHeartbeats 2000000 in
theorem any_p {W : World} {base : Nat} {v : Value} (dir : ByteArray) (row : List ByteArray) (h : W.ownsRow base 9 1 v row.length (strs row)) (hs : (row.map un).Pairwise (fun a b => ¬ b < a)) (hl : row.length ≤ 1099511627776) (hd : dir.size ≤ 1099511627776) : Calls Tryz.prog 35 #[.string dir, v] W fun e w' => e = .returned (.bool (anyS dir row)) ∧ Below W.heap.size W w' := by
  have hS := search_p row (firstB dir) h hs hl
  have hle : row.countP (fun y => decide (un y < un (firstB dir))) ≤ row.length := List.countP_le_length
  have hany : anyS dir row = (row[lessN dir row]?).any fun y => belowB dir y := rfl
  have hln : row.countP (fun y => decide (un y < un (firstB dir))) = lessN dir row := rfl
  rw [hln] at hS hle
  obtain ⟨a, cap, rfl⟩ : ∃ o c, v = .slice o row.length c := by
    rcases h.2 with ⟨h, h0⟩ | ⟨g, cap', cur, h, _⟩
    · exact ⟨none, 0, by rw [h, h0]⟩
    · exact ⟨_, _, h⟩
  have HC : Hid (∀ i y W2, row[i]? = some y → Below W.heap.size W W2 → ∃ g, a = some ⟨g, 0, none⟩ ∧ W2.cell? ⟨g, i, none⟩ = some (.string y)) := fun i y W2 hy b => by
    rcases h.2 with ⟨_, h0⟩ | ⟨g, cap', cur, h5, _⟩
    · have := (List.getElem?_eq_some_iff.1 hy).1; omega
    · injection h5 with h6 h7 h8
      subst h6; subst h8
      exact ⟨g, rfl, row_get (own_below h b) i y hy⟩
  have HF : Hid (firstB dir = if dir.toList.isEmpty then dir else dir ++ ⟨#[47]⟩) := rfl
  generalize lessN dir row = m at *
  have HA : Hid _ := hany
  clear hany hln h hs
  have hm0 : (0 : Int) ≤ (m : Int) := by omega
  cases he : dir.toList.isEmpty with
  | true =>
    have hf : firstB dir = dir := by rw [HF.out, he]; rfl
    rw [hf] at hS
    clear HF hf
    cases hy : row[m]? with
    | none =>
      have hge : ¬ (m : Int) < (row.length : Int) := by have := List.getElem?_eq_none_iff.1 hy; omega
      have HR : Hid (anyS dir row = false) := by unfold Hid; rw [HA.out, hy]; rfl
      clear hy HA HC
      go_enter Tryz.func35, Tryz.ntmps35
      go_wp2_with (go_at_call 64; refine hS.mono ?_; rintro e w1 ⟨rfl, b1⟩)
      go_ret
      exact ⟨by rw [HR.out]; rfl, b1⟩
    | some y =>
      have hlt : (m : Int) < (row.length : Int) := by have := (List.getElem?_eq_some_iff.1 hy).1; omega
      have HR : Hid (anyS dir row = belowB dir y) := by unfold Hid; rw [HA.out, hy]; rfl
      obtain ⟨g, rfl, _⟩ := HC.out m y W hy (Below.refl _ _)
      have HC2 : Hid (∀ W2, Below W.heap.size W W2 → W2.cell? ⟨g, m, none⟩ = some (.string y)) := fun W2 b => by
        obtain ⟨g2, h1, h2⟩ := HC.out m y W2 hy b
        injection h1 with h1; injection h1 with h1; subst h1; exact h2
      clear hy HA HC
      go_enter Tryz.func35, Tryz.ntmps35
      go_wp2_with (first
        | (go_at_call 64; refine hS.mono ?_; rintro e w1 ⟨rfl, b1⟩; have c1 := HC2.out w1 b1)
        | (go_at_call 65; refine (below_p dir y _).mono ?_; rintro e w2 ⟨rfl, hw⟩; subst hw))
      go_ret
      exact ⟨by rw [HR.out]; rfl, b1⟩
  | false =>
    have hf : firstB dir = dir ++ ⟨#[47]⟩ := by rw [HF.out, he]; rfl
    rw [hf] at hS
    clear HF hf
    cases hy : row[m]? with
    | none =>
      have hge : ¬ (m : Int) < (row.length : Int) := by have := List.getElem?_eq_none_iff.1 hy; omega
      have HR : Hid (anyS dir row = false) := by unfold Hid; rw [HA.out, hy]; rfl
      clear hy HA HC
      go_enter Tryz.func35, Tryz.ntmps35
      go_wp2_with (go_at_call 64; refine hS.mono ?_; rintro e w1 ⟨rfl, b1⟩)
      go_ret
      exact ⟨by rw [HR.out]; rfl, b1⟩
    | some y =>
      have hlt : (m : Int) < (row.length : Int) := by have := (List.getElem?_eq_some_iff.1 hy).1; omega
      have HR : Hid (anyS dir row = belowB dir y) := by unfold Hid; rw [HA.out, hy]; rfl
      obtain ⟨g, rfl, _⟩ := HC.out m y W hy (Below.refl _ _)
      have HC2 : Hid (∀ W2, Below W.heap.size W W2 → W2.cell? ⟨g, m, none⟩ = some (.string y)) := fun W2 b => by
        obtain ⟨g2, h1, h2⟩ := HC.out m y W2 hy b
        injection h1 with h1; injection h1 with h1; subst h1; exact h2
      clear hy HA HC
      go_enter Tryz.func35, Tryz.ntmps35
      go_wp2_with (first
        | (go_at_call 64; refine hS.mono ?_; rintro e w1 ⟨rfl, b1⟩; have c1 := HC2.out w1 b1)
        | (go_at_call 65; refine (below_p dir y _).mono ?_; rintro e w2 ⟨rfl, hw⟩; subst hw))
      go_ret
      exact ⟨by rw [HR.out]; rfl, b1⟩
end Go.Proofs.YthkbhcefckbcnaaGreatDoor
