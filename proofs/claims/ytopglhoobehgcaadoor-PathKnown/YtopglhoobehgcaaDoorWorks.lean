/- What every statement of layer 1 asks first: nine calls at fixed texts, all of which come out as they should. -/
import Derived.Test.YtopglhoobehgcaaDoorClean
import Derived.Test.YtopglhoobehgcaaDoorCompare
import Derived.Test.YtopglhoobehgcaaDoorPlain
namespace Go.Proofs.YtopglhoobehgcaaDoor
open Go.RowKit

theorem any_ascii (s : ByteArray) (hs : s.size < 4294967281) (ha : ∀ (j : Nat) b, s.data.toList[j]? = some b → b.toNat < 128) : AnyOK s := fun w =>
  Tryd.strings_ContainsAny_laid s ⟨#[0, 47]⟩ w hs (by decide) ha (by
    intro j b h
    rcases j with _ | _ | j
    · simp at h; subst h; decide
    · simp at h; subst h; decide
    · simp at h)
theorem any_all {l : List UInt8} (h : l.all (fun b => decide (b.toNat < 128)) = true) : ∀ (j : Nat) b, l[j]? = some b → b.toNat < 128 := fun _ b hj =>
  of_decide_eq_true (List.all_eq_true.1 h b (List.mem_of_getElem? hj))
theorem ok_a : AnyOK ⟨#[97]⟩ := any_ascii _ (by decide) (any_all (by decide))
theorem ok_b : AnyOK ⟨#[98]⟩ := any_ascii _ (by decide) (any_all (by decide))
theorem ok_ab : AnyOK ⟨#[97, 47, 98]⟩ := any_ascii _ (by decide) (any_all (by decide))

theorem v_name1 : nameN ⟨#[97, 47, 98]⟩ = 8 := by simp only [nameN, toList_un]; decide +kernel
theorem v_name2 : nameN ⟨#[97]⟩ = 0 := by simp only [nameN, toList_un]; decide +kernel
theorem v_name3 : nameN ⟨#[98]⟩ = 0 := by simp only [nameN, toList_un]; decide +kernel
theorem v_pieces : piecesB ⟨#[97, 47, 98]⟩ = [⟨#[97]⟩, ⟨#[98]⟩] := by decide +kernel
theorem v_check1 : checkN ⟨#[97, 47, 98]⟩ = 0 := by
  simp only [checkN, v_pieces, toList_un, splitP, whiteoutB, joinB, nameN]; decide +kernel
theorem v_check2 : checkN ⟨#[]⟩ = 15 := by simp only [checkN, toList_un]; rfl
theorem v_join : joinB ⟨#[97]⟩ ⟨#[98]⟩ = ⟨#[97, 47, 98]⟩ := by simp only [joinB, toList_un]; decide +kernel
theorem v_clean : cleanB ⟨#[47, 97, 47, 46, 46, 47, 98, 47, 46, 47, 99, 47]⟩ = ⟨#[98, 47, 99]⟩ := by
  decide +kernel
theorem v_compare : compareN ⟨#[97]⟩ ⟨#[97, 47, 98]⟩ = -1 := by decide +kernel
theorem v_below : belowB ⟨#[97]⟩ ⟨#[97, 47, 98]⟩ = true := by simp only [belowB, toList_un]; decide +kernel


theorem c_name1 (w : World) : Calls Tryd.prog 7 #[.string ⟨#[97, 47, 98]⟩] w fun e w' => e = .returned (.iface 37 (.int .i64 8)) ∧ Below w.heap.size w w' := by
  have h := name_p ⟨#[97, 47, 98]⟩ w (fun _ => ok_ab); rw [v_name1] at h; exact h
theorem c_name2 (w : World) : Calls Tryd.prog 7 #[.string ⟨#[97]⟩] w fun e w' => e = .returned .nilIface ∧ Below w.heap.size w w' := by
  have h := name_p ⟨#[97]⟩ w (fun _ => ok_a); rw [v_name2] at h; exact h
theorem c_check1 (w : World) : Calls Tryd.prog 9 #[.string ⟨#[97, 47, 98]⟩] w fun e w' => e = .returned .nilIface ∧ Below w.heap.size w w' := by
  have h := check_p ⟨#[97, 47, 98]⟩ w (by decide) (fun x hx _ => by
    rw [v_pieces] at hx; simp at hx
    rcases hx with rfl | rfl
    · exact ok_a
    · exact ok_b)
  rw [v_check1] at h; exact h
theorem c_check2 (w : World) : Calls Tryd.prog 9 #[.string ⟨#[]⟩] w fun e w' => e = .returned (.iface 37 (.int .i64 15)) ∧ Below w.heap.size w w' := by
  have h := check_root ⟨#[]⟩ w (by rw [toList_un]; rfl); exact h
theorem c_join (w : World) : Calls Tryd.prog 32 #[.string ⟨#[97]⟩, .string ⟨#[98]⟩] w fun e w' => e = .returned (.string ⟨#[97, 47, 98]⟩) ∧ w' = w := by
  have h := join_p ⟨#[97]⟩ ⟨#[98]⟩ w (by decide); rw [v_join] at h; exact h
theorem c_clean (w : World) : Calls Tryd.prog 33 #[.string ⟨#[47, 97, 47, 46, 46, 47, 98, 47, 46, 47, 99, 47]⟩] w fun e w' => e = .returned (.string ⟨#[98, 47, 99]⟩) ∧ Below w.heap.size w w' := by
  have h := clean_p ⟨#[47, 97, 47, 46, 46, 47, 98, 47, 46, 47, 99, 47]⟩ w (by decide); rw [v_clean] at h; exact h
theorem c_compare (w : World) : Calls Tryd.prog 34 #[.string ⟨#[97]⟩, .string ⟨#[97, 47, 98]⟩] w fun e w' => e = .returned (.int .i64 (-1)) ∧ Below w.heap.size w w' := by
  have h := compare_p ⟨#[97]⟩ ⟨#[97, 47, 98]⟩ w (by decide) (by decide); rw [v_compare] at h; exact h
theorem c_below (w : World) : Calls Tryd.prog 35 #[.string ⟨#[97]⟩, .string ⟨#[97, 47, 98]⟩] w fun e w' => e = .returned (.bool true) ∧ w' = w := by
  have h := below_p ⟨#[97]⟩ ⟨#[97, 47, 98]⟩ w; rw [v_below] at h; exact h

theorem below_join {w w1 w2 : World} (h : Below w.heap.size w w1) (k : Below w1.heap.size w1 w2) : Below w.heap.size w w2 := h.trans (k.mono h.size)

set_option maxRecDepth 100000 in
set_option maxHeartbeats 1000000 in
theorem works_p (w : World) (hg : ErrType w) : Calls Tryd.prog 13 #[] w fun e w' => e = .returned (.bool true) ∧ Below w.heap.size w w' := by
  go_enter Tryd.func13, Tryd.ntmps13
  go_wp2_with fail
  refine (c_name1 _).mono ?_
  rintro e w1 ⟨rfl, b1⟩
  go_wp2_with fail
  refine (plain_some 8 (by decide) (by decide) _ (hg.below b1)).mono ?_
  rintro e w2 ⟨rfl, b2⟩
  replace b2 := below_join b1 b2
  clear b1
  go_wp2_with fail
  refine (c_name2 _).mono ?_
  rintro e w3 ⟨rfl, b3⟩
  replace b3 := below_join b2 b3
  clear b2
  go_wp2_with fail
  refine (c_check1 _).mono ?_
  rintro e w4 ⟨rfl, b4⟩
  replace b4 := below_join b3 b4
  clear b3
  go_wp2_with fail
  refine (c_check2 _).mono ?_
  rintro e w5 ⟨rfl, b5⟩
  replace b5 := below_join b4 b5
  clear b4
  go_wp2_with fail
  refine (plain_some 15 (by decide) (by decide) _ (hg.below b5)).mono ?_
  rintro e w6 ⟨rfl, b6⟩
  replace b6 := below_join b5 b6
  clear b5
  go_wp2_with fail
  refine (c_join _).mono ?_
  rintro e w7 ⟨rfl, hw7⟩
  subst hw7
  go_wp2_with fail
  refine (c_clean _).mono ?_
  rintro e w8 ⟨rfl, b8⟩
  replace b8 := below_join b6 b8
  clear b6
  go_wp2_with fail
  refine (c_compare _).mono ?_
  rintro e w9 ⟨rfl, b9⟩
  replace b9 := below_join b8 b9
  clear b8
  go_wp2_with fail
  refine (c_below _).mono ?_
  rintro e w10 ⟨rfl, hw10⟩
  subst hw10
  go_wp2_with fail
  go_ret
  exact ⟨rfl, b9⟩
end Go.Proofs.YtopglhoobehgcaaDoor
