/- The document's answer for patterns, how far they come, and whether they match. -/
import Derived.Test.YtopglhoobehgcaaDoorRefTakesB
namespace Go.Proofs.YtopglhoobehgcaaDoor
open Go Go.RowKit

theorem stars_un (x : ByteArray) (h : isStars x = true) : un x = [42, 42] := by unfold isStars at h; rw [toList_un] at h; exact beq_iff_eq.1 h
theorem piece_some (x : ByteArray) : (pieceOf x).isSome = (partsOf (un x)).isSome := by
  unfold pieceOf
  cases h : isStars x
  · cases partsOf (un x) <;> rfl
  · rw [stars_un x h]; rfl
theorem allOf_take (xs : List ByteArray) (k : Nat) (x : ByteArray) (hx : xs[k]? = some x) : (allOf (xs.take (k + 1))).isSome = ((allOf (xs.take k)).isSome && (partsOf (un x)).isSome) := by
  rw [List.take_add_one, hx, ← piece_some, allOf_append]
  simp only [Option.toList, allOf]
  cases allOf (xs.take k) <;> cases pieceOf x <;> rfl
theorem allOf_bad (xs : List ByteArray) (k : Nat) (h : (allOf (xs.take k)).isSome = false) : allOf xs = none := by
  have e : xs = xs.take k ++ xs.drop k := (List.take_append_drop k xs).symm
  rw [e, allOf_append]
  cases h2 : allOf (xs.take k) with
  | none => rfl
  | some y => rw [h2] at h; cases h

set_option maxRecDepth 100000 in
set_option maxHeartbeats 4000000 in
theorem pattern_r (s : ByteArray) (w : World) (hs : s.size ≤ 1099511627775) : Calls Tryd.prog 36 #[.string s] w fun e w' => e = .returned (.bool (patOf s).isSome) ∧ Below w.heap.size w w' := by
  have hnl := Nat.le_trans (length_wt _) (wt_names s)
  obtain ⟨xs, hxs⟩ : ∃ xs, namesB s = xs := ⟨_, rfl⟩
  have hnr := names_r s w (by omega)
  have HX : Hid (∀ x ∈ xs, x.size ≤ s.size) := fun x hx => names_size s x (by rw [hxs]; exact hx)
  have HP : Hid (patOf s = if s.size ≤ 1020 ∧ xs ≠ [] then allOf xs else none) := by unfold Hid patOf; rw [hxs]
  rw [hxs] at hnr hnl
  clear hxs
  go_enter Tryd.func36, Tryd.ntmps36
  go_wp2_with fail
  refine hnr.mono ?_
  rintro e w1 ⟨v, rfl, ho, b1⟩
  obtain ⟨o, c, rfl⟩ : ∃ o c, v = .slice o xs.length c := by
    rcases ho.2 with ⟨rfl, h0⟩ | ⟨g, cap, cur, rfl, _⟩
    · exact ⟨none, 0, by rw [h0]⟩
    · exact ⟨_, _, rfl⟩
  have HO : Hid (w1.ownsRow w.heap.size 9 1 (.slice o xs.length c) xs.length (strs xs)) := ho
  clear ho hnr
  by_cases h1 : s.size ≤ 1020
  · cases hx0 : xs with
    | nil =>
      subst hx0
      have HN : Hid ((patOf s).isSome = false) := by unfold Hid; rw [HP.out, if_neg (fun h => h.2 rfl)]; rfl
      have d1 : ¬ (1020 : Int) < (s.size : Int) := by omega
      go_wp2
      go_ret
      exact ⟨by rw [HN.out]; rfl, b1⟩
    | cons x0 xs0 =>
      have hpos : 0 < xs.length := by rw [hx0]; simp
      have HN : Hid (patOf s = allOf xs) := by unfold Hid; rw [HP.out, if_pos ⟨h1, by rw [hx0]; simp⟩]
      rw [← hx0]
      clear hx0
      have d1 : ¬ (1020 : Int) < (s.size : Int) := by omega
      have d2 : ((xs.length : Int) == 0) = false := beq_false_of_ne (by omega)
      obtain ⟨g, rfl⟩ : ∃ g, o = some ⟨g, 0, none⟩ := by
        rcases HO.out.2 with ⟨_, h0⟩ | ⟨g2, cap2, cur2, h0, _⟩
        · omega
        · exact ⟨g2, (Value.slice.inj h0).1⟩
      go_wp2
      go_loopw [4] (fun i wr => ∃ k : Nat, i = .int .i64 k ∧ k ≤ xs.length ∧ (allOf (xs.take k)).isSome = true ∧ Below w1.heap.size w1 wr) (fun i _ => xs.length - (intOf i).toNat)
      case atStart => exact ⟨0, rfl, Nat.zero_le _, rfl, Below.refl _ _⟩
      case round =>
        obtain ⟨k, rfl, hk, hall, hB⟩ := hrel
        by_cases hlt : k < xs.length
        · obtain ⟨x, hx⟩ : ∃ x, xs[k]? = some x := ⟨_, List.getElem?_eq_getElem hlt⟩
          have hc := row_cell (own_below HO.out hB) k (.string x) (by simp [strs, hx])
          have hcall := parts_r x wr (by have := HX.out x (List.mem_of_getElem? hx); omega)
          unfold RPartsPost at hcall
          have HT : Hid _ := allOf_take xs k x hx
          have Hall : Hid ((allOf (xs.take k)).isSome = true) := hall
          have e1 : (0 : Int) ≤ (k : Int) := by omega
          have e2 : (k : Int) < (xs.length : Int) := by omega
          clear hall hx
          go_wp2_with fail
          refine hcall.mono ?_
          rintro e w2 ⟨⟨ps, v, cs, hps, _, _, rfl⟩ | ⟨hps, rfl⟩, b2⟩
          · have HK : Hid ((allOf (xs.take (k + 1))).isSome = true) := by unfold Hid; rw [HT.out, Hall.out, hps]; rfl
            clear hps hcall
            go_wp2
            go_roundw
            case rel => exact ⟨k + 1, by go_num, by omega, HK.out, hB.trans (b2.mono hB.size)⟩
            case measure => simp [intOf]; omega
          · have HK : Hid ((patOf s).isSome = false) := by
              unfold Hid
              rw [HN.out, allOf_bad xs (k + 1) (by rw [HT.out, hps]; simp)]; rfl
            clear hps hcall
            go_wp2
            go_ret
            exact ⟨by rw [HK.out]; rfl, b1.trans ((hB.trans (b2.mono hB.size)).mono b1.size)⟩
        · have HK : Hid ((patOf s).isSome = true) := by
            unfold Hid
            rw [HN.out]
            rw [List.take_of_length_le (by omega)] at hall
            exact hall
          clear hall
          go_wp2
          go_ret
          exact ⟨by rw [HK.out]; rfl, b1.trans (hB.mono b1.size)⟩
  · have HN : Hid ((patOf s).isSome = false) := by unfold Hid; rw [HP.out, if_neg (fun h => h1 h.1)]; rfl
    have d1 : (1020 : Int) < (s.size : Int) := by omega
    go_wp2
    go_ret
    exact ⟨by rw [HN.out]; rfl, b1⟩
end Go.Proofs.YtopglhoobehgcaaDoor
