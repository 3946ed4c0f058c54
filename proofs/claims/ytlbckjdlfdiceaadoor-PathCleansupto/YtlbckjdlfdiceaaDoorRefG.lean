/- The document's answer for the pieces of a text in a list, and for a text that is cleaned. -/
import Derived.Test.YtlbckjdlfdiceaaDoorRefA
import Derived.Test.YtlbckjdlfdiceaaDoorRefD
namespace Go.Proofs.YtlbckjdlfdiceaaDoor
open Go Go.RowKit

theorem owns_le {w : World} {b b2 e size n : Nat} {v : Value} {xs : List Value} (h : w.ownsRow b e size v n xs) (hb : b2 ≤ b) : w.ownsRow b2 e size v n xs := by
  refine ⟨h.1, ?_⟩
  rcases h.2 with hn | ⟨g, cap, cur, rfl, hg, rest⟩
  · exact .inl hn
  · exact .inr ⟨g, cap, cur, rfl, by omega, rest⟩
theorem take_succ_filter (xs : List ByteArray) (k : Nat) (x : ByteArray) (h : xs[k]? = some x) : (xs.take (k + 1)).filter full = (xs.take k).filter full ++ (if full x then [x] else []) := by
  rw [List.take_add_one, h, List.filter_append]; simp [List.filter_cons]

set_option maxRecDepth 100000 in
set_option maxHeartbeats 2000000 in
theorem pieces_r (s : ByteArray) (w : World) (hs : s.size ≤ 1099511627776) : Calls Tryd.prog 43 #[.string s] w fun e w' => ∃ v, e = .returned v ∧ w'.ownsRow w.heap.size 9 1 v (namesB s).length (strs (namesB s)) ∧ Below w.heap.size w w' := by
  obtain ⟨i0, hi, hz0, hz1, hz2⟩ := info_parts info_str
  have hpl := piecesB_length s
  go_enter Tryd.func43, Tryd.ntmps43
  go_wp2_with (go_at_call 36; refine (cut_row s _ hs).mono ?_; rintro e w1 ⟨g, cap, rfl, hrow, hgl, _, hb1⟩)
  have HR : Hid _ := hrow
  clear hrow
  go_loopw [3, 5] (fun v i wr => ∃ k : Nat, k ≤ (piecesB s).length ∧ i = .int .i64 k ∧ wr.ownsRow w1.heap.size 9 1 v (((piecesB s).take k).filter full).length (strs (((piecesB s).take k).filter full)) ∧ Below w1.heap.size w1 wr) (fun _ i _ => (piecesB s).length - (intOf i).toNat)
  case atStart => exact ⟨0, Nat.zero_le _, rfl, World.ownsRow_nil _ _ _ _, Below.refl _ _⟩
  case round =>
    obtain ⟨k, hk, rfl, hown, hB⟩ := hrel
    have hsz := hB.size
    by_cases hlt : k < (piecesB s).length
    · obtain ⟨x, hx⟩ : ∃ x, (piecesB s)[k]? = some x := ⟨_, List.getElem?_eq_getElem hlt⟩
      have hcell : wr.cell? ⟨g, k, none⟩ = some (.string x) := (hB.cell (p := ⟨g, k, none⟩) hgl).trans (HR.out k x hx)
      have hfl : (((piecesB s).take k).filter full).length ≤ k := Nat.le_trans (List.length_filter_le _ _) (by simp; omega)
      have ht := take_succ_filter (piecesB s) k x hx
      cases he : x.toList.isEmpty
      · have HT : Hid (((piecesB s).take (k + 1)).filter full = ((piecesB s).take k).filter full ++ [x]) := by unfold Hid; rw [ht]; simp [full, he]
        clear ht hx
        go_wp2_with (at_builtin; refine wpList_append_own _ rfl _ _ 46 rfl w1.heap.size 9 i0 (.string ⟨#[]⟩) 1 16 Tryd.underlying46 hi hz0 hz1 hz2 rfl (by decide) _ _ _ rfl (hown.alloc _) ⟨wr.heap.size, 0, none⟩ 1 1 [.string x] rfl rfl (cell_one_new _ _ _) (by simp [Value.oneCell']) (by unfold maxLen; omega) (by omega) (by simp; omega) ?_; intro v1 w2 hown1 hgrow1 _)
        have hb2 : Below w1.heap.size w1 w2 := (hB.alloc hsz _).grown hgrow1 (by simp; omega) (fun j hj => (own_ge hown j hj.symm).1)
        exact ⟨⟨k + 1, by omega, by go_num, by rw [HT.out]; simpa [strs] using hown1, hb2⟩, by simp [intOf]; omega⟩
      · have HT : Hid (((piecesB s).take (k + 1)).filter full = ((piecesB s).take k).filter full) := by unfold Hid; rw [ht]; simp [full, he]
        clear ht hx
        go_wp2
        first
          | exact ⟨⟨k + 1, by omega, by go_num, by rw [HT.out]; exact hown, hB⟩, by simp [intOf]; omega⟩
          | (go_roundw
             case rel => exact ⟨k + 1, by omega, by go_num, by rw [HT.out]; exact hown, hB⟩
             case measure => simp [intOf]; omega)
    · obtain rfl : k = (piecesB s).length := by omega
      have HT : Hid (((piecesB s).take (piecesB s).length).filter full = namesB s) := by unfold Hid namesB; rw [List.take_length]
      go_wp2
      go_ret
      exact ⟨_, rfl, by rw [← HT.out]; exact owns_le hown hb1.size, hb1.trans (hB.mono hb1.size)⟩

theorem joinL_snoc (xs : List ByteArray) (x : ByteArray) (h : xs ≠ []) : joinL (xs ++ [x]) = joinL xs ++ ([47] ++ un x) := by
  induction xs with
  | nil => exact absurd rfl h
  | cons y ys ih =>
    cases ys with
    | nil => simp [joinL, Lib.join]
    | cons z zs =>
      have e : ∀ (a b : ByteArray) (l : List ByteArray), joinL (a :: b :: l) = un a ++ ([47] ++ joinL (b :: l)) := fun a b l => by simp [joinL, Lib.join]
      rw [List.cons_append, List.cons_append, e, e, ← List.cons_append, ih (by simp)]; simp
theorem joinB_some (a b : ByteArray) (h : a.toList.isEmpty = false) : joinB a b = a ++ ⟨#[47]⟩ ++ b := by unfold joinB; rw [h]; rfl
theorem joinB_none (b : ByteArray) : joinB ⟨#[]⟩ b = b := by unfold joinB; rw [if_pos ((isEmpty_iff _).2 rfl)]
theorem joinB_fold_n : ∀ (n : Nat) (xs : List ByteArray), xs.length = n → (∀ x ∈ xs, full x = true) → xs.foldl joinB ⟨#[]⟩ = bs (joinL xs) ∧ (xs ≠ [] → full (xs.foldl joinB ⟨#[]⟩) = true) := by
  intro n
  induction n with
  | zero =>
    intro xs hn _
    obtain rfl := List.eq_nil_of_length_eq_zero hn
    exact ⟨rfl, fun h => absurd rfl h⟩
  | succ n ihn =>
    intro xs hn hf
    rcases List.eq_nil_or_concat xs with rfl | ⟨l, x, rfl⟩
    · exact ⟨rfl, fun h => absurd rfl h⟩
    · have ih := ihn l (by simpa using hn) (fun y hy => hf y (by simp [hy]))
      have hx : full x = true := hf x (by simp)
      rw [List.concat_eq_append, List.foldl_append]
      simp only [List.foldl_cons, List.foldl_nil]
      by_cases hl : l = []
      · subst hl
        exact ⟨by rw [List.foldl_nil, joinB_none]; exact un_inj (by rw [un_bs]; simp [joinL, Lib.join]), fun _ => by rw [List.foldl_nil, joinB_none]; exact hx⟩
      · have h1 := ih.2 hl
        have h2 : (l.foldl joinB ⟨#[]⟩).toList.isEmpty = false := by simpa [full] using h1
        have e := joinB_some _ x h2
        refine ⟨?_, fun _ => ?_⟩
        · rw [e, ih.1]
          refine un_inj ?_
          rw [un_append, un_append, un_bs, un_bs, joinL_snoc l x hl]; simp; rfl
        · rw [e]
          have h3 := (isEmpty_false _).1 h2
          have h4 : 0 < (l.foldl joinB ⟨#[]⟩ ++ ⟨#[47]⟩ ++ x).size := by rw [ByteArray.size_append, ByteArray.size_append]; omega
          unfold full; rw [(isEmpty_false _).2 h4]; rfl
theorem joinB_fold (xs : List ByteArray) (hf : ∀ x ∈ xs, full x = true) : xs.foldl joinB ⟨#[]⟩ = bs (joinL xs) := (joinB_fold_n _ xs rfl hf).1
theorem cleanStep_sub (k : List ByteArray) (x : ByteArray) : ∀ y ∈ cleanStep k x, y ∈ k ∨ y = x := by
  unfold cleanStep
  intro y hy
  split at hy
  · exact .inl hy
  · split at hy
    · exact .inl (List.dropLast_subset _ hy)
    · simpa using hy
theorem cleanL_full (s : ByteArray) : ∀ x ∈ cleanL (namesB s), full x = true := by
  have h : ∀ (xs k : List ByteArray), (∀ x ∈ xs, full x = true) → (∀ x ∈ k, full x = true) → ∀ x ∈ xs.foldl cleanStep k, full x = true := by
    intro xs
    induction xs with
    | nil => intro k _ hk; simpa using hk
    | cons y ys ih =>
      intro k hxs hk
      exact ih _ (fun x hx => hxs x (by simp [hx])) (fun x hx => by
        rcases cleanStep_sub k y x hx with h1 | h1
        · exact hk x h1
        · rw [h1]; exact hxs y (by simp))
  exact h _ _ (fun x hx => by unfold namesB at hx; exact (List.mem_filter.1 hx).2) (fun x hx => by cases hx)
theorem foldB_size (xs : List ByteArray) : ∀ b : ByteArray, (xs.foldl joinB b).size ≤ b.size + wt xs := by
  induction xs with
  | nil => intro b; simp [wt]
  | cons x xs ih => intro b; have h1 := ih (joinB b x); have h2 := joinB_size b x; simp only [List.foldl_cons, wt]; omega

theorem cleanL_take (xs : List ByteArray) (k : Nat) (x : ByteArray) (h : xs[k]? = some x) : cleanL (xs.take (k + 1)) = cleanStep (cleanL (xs.take k)) x := by
  rw [List.take_add_one, h]; exact cleanL_snoc _ _
theorem fold_take (xs : List ByteArray) (k : Nat) (x : ByteArray) (h : xs[k]? = some x) (b : ByteArray) : (xs.take (k + 1)).foldl joinB b = joinB ((xs.take k).foldl joinB b) x := by
  rw [List.take_add_one, h, List.foldl_append]; rfl
theorem wt_take (xs : List ByteArray) (k : Nat) : wt (xs.take k) ≤ wt xs := wt_prefix (List.take_prefix k xs)
theorem wt_mem {xs : List ByteArray} {x : ByteArray} (h : x ∈ xs) : x.size + 1 ≤ wt xs := by
  obtain ⟨a, b, rfl⟩ := List.append_of_mem h
  rw [wt_append]; simp [wt]; omega

set_option maxRecDepth 100000 in
set_option maxHeartbeats 4000000 in
theorem clean_r (s : ByteArray) (w : World) (hs : s.size ≤ 1099511627776) : Calls Tryd.prog 24 #[.string s] w fun e w' => e = .returned (.string (cleanB s)) ∧ Below w.heap.size w w' := by
  obtain ⟨i0, hi, hz0, hz1, hz2⟩ := info_parts info_str
  have hwn := wt_names s
  have hnl := length_wt (namesB s)
  have HF : Hid _ := joinB_fold (cleanL (namesB s)) (cleanL_full s)
  go_enter Tryd.func24, Tryd.ntmps24
  go_wp2_with (go_at_call 43; refine (pieces_r s _ hs).mono ?_; rintro e w1 ⟨vl, rfl, hrow, hb1⟩)
  obtain ⟨al, cl, hvl, hcells⟩ : ∃ al cl, vl = .slice al (namesB s).length cl ∧ ∀ (j : Nat) x, (namesB s)[j]? = some x → ∃ g, al = some ⟨g, 0, none⟩ ∧ g < w1.heap.size ∧ w1.cell? ⟨g, j, none⟩ = some (.string x) := by
    rcases hrow.2 with ⟨rfl, h0⟩ | ⟨g, cap, cur, rfl, hg, hgb, _⟩
    · exact ⟨none, 0, by rw [h0], fun j x hx => by rw [List.eq_nil_of_length_eq_zero h0] at hx; simp at hx⟩
    · exact ⟨some ⟨g, 0, none⟩, cap, rfl, fun j x hx => ⟨g, rfl, (Array.getElem?_eq_some_iff.1 hgb).1, row_of_owns hrow j x hx⟩⟩
  rw [hvl]
  have HC : Hid _ := hcells
  clear hcells hvl hrow
  go_wp2
  go_loopw [3, 5] (fun v i wr => ∃ k : Nat, k ≤ (namesB s).length ∧ i = .int .i64 k ∧ wr.ownsRow w1.heap.size 9 1 v (cleanL ((namesB s).take k)).length (strs (cleanL ((namesB s).take k))) ∧ Below w1.heap.size w1 wr) (fun _ i _ => (namesB s).length - (intOf i).toNat)
  case atStart => exact ⟨0, Nat.zero_le _, rfl, World.ownsRow_nil _ _ _ _, Below.refl _ _⟩
  case round =>
    obtain ⟨k, hk, rfl, hown, hB⟩ := hrel
    have hsz := hB.size
    by_cases hlt : k < (namesB s).length
    · obtain ⟨x, hx⟩ : ∃ x, (namesB s)[k]? = some x := ⟨_, List.getElem?_eq_getElem hlt⟩
      obtain ⟨g, rfl, hgl, hcw⟩ := HC.out k x hx
      have hcell : wr.cell? ⟨g, k, none⟩ = some (.string x) := (hB.cell (p := ⟨g, k, none⟩) hgl).trans hcw
      have hfl : (cleanL ((namesB s).take k)).length ≤ 1099511627777 := by
        have h1 := length_wt (cleanL ((namesB s).take k))
        have h2 := wt_clean ((namesB s).take k)
        have h3 := wt_take (namesB s) k
        omega
      have ht := cleanL_take (namesB s) k x hx
      clear hcw hx
      cases hd : (x.toList == [46])
      rotate_left
      · have HT : Hid (cleanL ((namesB s).take (k + 1)) = cleanL ((namesB s).take k)) := by unfold Hid; rw [ht]; simp only [cleanStep, hd, if_true]
        clear ht
        go_wp2
        first
          | exact ⟨⟨k + 1, by omega, by go_num, by rw [HT.out]; exact hown, hB⟩, by simp [intOf]; omega⟩
          | (go_roundw
             case rel => exact ⟨k + 1, by omega, by go_num, by rw [HT.out]; exact hown, hB⟩
             case measure => simp [intOf]; omega)
      cases hdd : (x.toList == [46, 46])
      · have HT : Hid (cleanL ((namesB s).take (k + 1)) = cleanL ((namesB s).take k) ++ [x]) := by unfold Hid; rw [ht]; simp only [cleanStep, hd, hdd]; rfl
        clear ht
        go_wp2_with (at_builtin; refine wpList_append_own _ rfl _ _ 46 rfl w1.heap.size 9 i0 (.string ⟨#[]⟩) 1 16 Tryd.underlying46 hi hz0 hz1 hz2 rfl (by decide) _ _ _ rfl (hown.alloc _) ⟨wr.heap.size, 0, none⟩ 1 1 [.string x] rfl rfl (cell_one_new _ _ _) (by simp [Value.oneCell']) (by unfold maxLen; omega) (by omega) (by simp; omega) ?_; intro v1 w2 hown1 hgrow1 _)
        have hb2 : Below w1.heap.size w1 w2 := (hB.alloc hsz _).grown hgrow1 (by simp; omega) (fun j hj => (own_ge hown j hj.symm).1)
        exact ⟨⟨k + 1, by omega, by go_num, by rw [HT.out]; simpa [strs] using hown1, hb2⟩, by simp [intOf]; omega⟩
      · have HT : Hid (cleanL ((namesB s).take (k + 1)) = (cleanL ((namesB s).take k)).dropLast) := by unfold Hid; rw [ht]; simp only [cleanStep, hd, hdd]; rfl
        clear ht
        rcases hown.2 with ⟨rfl, h0⟩ | ⟨g2, cap, cur, rfl, hg, hgb, hncap, hcm, hcs, htk⟩
        · have HN : Hid (cleanL ((namesB s).take (k + 1)) = []) := by unfold Hid; rw [HT.out, List.eq_nil_of_length_eq_zero h0]; rfl
          clear h0
          go_wp2
          first
            | exact ⟨⟨k + 1, by omega, by go_num, by rw [HN.out]; exact World.ownsRow_nil _ _ _ _, hB⟩, by simp [intOf]; omega⟩
            | (go_roundw
               case rel => exact ⟨k + 1, by omega, by go_num, by rw [HN.out]; exact World.ownsRow_nil _ _ _ _, hB⟩
               case measure => simp [intOf]; omega)
        · rcases List.eq_nil_or_concat (cleanL ((namesB s).take k)) with hnil | ⟨kl, y, hcat⟩
          · have hown2 : wr.ownsRow w1.heap.size 9 1 (.slice (some ⟨g2, 0, none⟩) (cleanL ((namesB s).take k)).length cap) (cleanL ((namesB s).take (k + 1))).length (strs (cleanL ((namesB s).take (k + 1)))) := by
              rw [HT.out, hnil]; rw [hnil] at hown; exact hown
            have h0 : ¬ (0 : Int) < ((cleanL ((namesB s).take k)).length : Int) := by rw [hnil]; simp
            clear hnil htk hcs hgb
            go_wp2
            first
              | exact ⟨⟨k + 1, by omega, by go_num, hown2, hB⟩, by simp [intOf]; omega⟩
              | (go_roundw
                 case rel => exact ⟨k + 1, by omega, by go_num, hown2, hB⟩
                 case measure => simp [intOf]; omega)
          · have hl : (cleanL ((namesB s).take k)).length = kl.length + 1 := by rw [hcat]; simp
            have hrow3 : wr.ownsRow w1.heap.size 9 1 (.slice (some ⟨g2, 0, none⟩) (kl.length + 1) cap) (kl.length + 1) (strs kl ++ [.string y]) := by
              rw [hl] at hown; rw [hcat] at hown; simpa [strs] using hown
            have hrow4 := ownsRow_pop (by simp [strs]) hrow3
            have hrow5 : wr.ownsRow w1.heap.size 9 1 (.slice (some ⟨g2, 0, none⟩) ((cleanL ((namesB s).take k)).length - 1) cap) (cleanL ((namesB s).take (k + 1))).length (strs (cleanL ((namesB s).take (k + 1)))) := by
              rw [HT.out, hcat]; simpa using hrow4
            have h0 : (0 : Int) < ((cleanL ((namesB s).take k)).length : Int) := by omega
            have hcap : ((cleanL ((namesB s).take k)).length : Int) ≤ cap := by omega
            have hcm2 : (cap : Int) ≤ 9223372036854775807 := by unfold maxLen at hcm; omega
            clear hcat hcm hcs htk hgb hl hrow3 hrow4
            go_wp2
            first
              | exact ⟨⟨k + 1, by omega, by go_num, hrow5, hB⟩, by simp [intOf]; omega⟩
              | (go_roundw
                 case rel => exact ⟨k + 1, by omega, by go_num, hrow5, hB⟩
                 case measure => simp [intOf]; omega)
    · obtain rfl : k = (namesB s).length := by omega
      rw [List.take_length] at hown
      have hwc := wt_clean (namesB s)
      have hlc := length_wt (cleanL (namesB s))
      obtain ⟨a2, c2, hv2, hcells2⟩ : ∃ a2 c2, u3 = .slice a2 (cleanL (namesB s)).length c2 ∧ ∀ (j : Nat) x, (cleanL (namesB s))[j]? = some x → ∃ g, a2 = some ⟨g, 0, none⟩ ∧ wr.cell? ⟨g, j, none⟩ = some (.string x) := by
        rcases hown.2 with ⟨rfl, h0⟩ | ⟨g, cap, cur, rfl, hg, hgb, _⟩
        · exact ⟨none, 0, by rw [h0], fun j x hx => by rw [List.eq_nil_of_length_eq_zero h0] at hx; simp at hx⟩
        · exact ⟨some ⟨g, 0, none⟩, cap, rfl, fun j x hx => ⟨g, rfl, row_of_owns hown j x hx⟩⟩
      subst hv2
      have HC2 : Hid _ := hcells2
      clear hcells2 hown
      go_wp2
      go_loop [6, 7] (fun o i => ∃ k : Nat, k ≤ (cleanL (namesB s)).length ∧ i = .int .i64 k ∧ o = .string (((cleanL (namesB s)).take k).foldl joinB ⟨#[]⟩)) (fun _ i => (cleanL (namesB s)).length - (intOf i).toNat)
      case atStart => exact ⟨0, Nat.zero_le _, rfl, rfl⟩
      case round =>
        obtain ⟨k, hk, rfl, rfl⟩ := hrel
        by_cases hlt2 : k < (cleanL (namesB s)).length
        · obtain ⟨x, hx⟩ : ∃ x, (cleanL (namesB s))[k]? = some x := ⟨_, List.getElem?_eq_getElem hlt2⟩
          obtain ⟨g, rfl, hcell⟩ := HC2.out k x hx
          have HT : Hid _ := fold_take (cleanL (namesB s)) k x hx ⟨#[]⟩
          have hz1 : (((cleanL (namesB s)).take k).foldl joinB ⟨#[]⟩).size ≤ 1099511627777 := by
            have h1 := foldB_size ((cleanL (namesB s)).take k) ⟨#[]⟩
            have h2 := wt_take (cleanL (namesB s)) k
            have h3 : (ByteArray.mk #[]).size = 0 := rfl
            omega
          have hz2 : x.size ≤ 1099511627777 := by have h1 := wt_mem (List.mem_of_getElem? hx); omega
          clear hx
          go_wp2_with (go_at_call 22; refine (join_r _ _ _ (by omega)).mono ?_; rintro e w2 ⟨rfl, hw⟩; subst hw)
          first
            | exact ⟨⟨k + 1, by omega, by go_num, by rw [HT.out]⟩, by simp [intOf]; omega⟩
            | (go_round
               case rel => exact ⟨k + 1, by omega, by go_num, by rw [HT.out]⟩
               case measure => simp [intOf]; omega)
        · obtain rfl : k = (cleanL (namesB s)).length := by omega
          have HR : Hid ((cleanL (namesB s)).foldl joinB ⟨#[]⟩ = cleanB s) := by unfold Hid; rw [HF.out]; rfl
          go_wp2
          go_ret
          exact ⟨by rw [← HR.out]; rfl, hb1.trans (hB.mono hb1.size)⟩
end Go.Proofs.YtlbckjdlfdiceaaDoor
