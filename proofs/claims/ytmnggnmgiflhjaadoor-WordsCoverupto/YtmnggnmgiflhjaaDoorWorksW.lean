/- What each statement of layer 13 asks besides. -/
import Derived.Test.YtmnggnmgiflhjaaDoorSplW
import Derived.Test.YtmnggnmgiflhjaaDoorQuoW
import Derived.Test.YtmnggnmgiflhjaaDoorNilO
namespace Go.Proofs.YtmnggnmgiflhjaaDoor
open Go Go.RowKit

theorem split_ok (s : ByteArray) (c : UInt8) (xs : List (Nat × Nat)) (h : splitR (escN c) (un s) = .ok xs) (w : World) (hs : s.size ≤ 1099511627776) : Calls Tryd.prog 10 #[.string s, .int .u8 c.toNat] w fun e w' => ∃ v, e = .returned (.tuple #[v, .nilIface]) ∧ w'.ownsRow w.heap.size 41 2 v xs.length (wcells (wdsOf s xs)) ∧ Below w.heap.size w w' := by
  refine (split_p s c w hs).mono ?_
  rintro e w' ⟨v, er, rfl, hp, hb⟩
  unfold SplitPost at hp
  rw [h] at hp
  obtain ⟨rfl, ho⟩ := hp
  exact ⟨v, rfl, ho, hb⟩
theorem split_err (s : ByteArray) (c : UInt8) (q : Nat) (h : splitR (escN c) (un s) = .error q) (w : World) (hs : s.size ≤ 1099511627776) : Calls Tryd.prog 10 #[.string s, .int .u8 c.toNat] w fun e w' => e = .returned (.tuple #[.slice none 0 0, fltV 18 0 q]) ∧ Below w.heap.size w w' := by
  refine (split_p s c w hs).mono ?_
  rintro e w' ⟨v, er, rfl, hp, hb⟩
  unfold SplitPost at hp
  rw [h] at hp
  obtain ⟨rfl, rfl⟩ := hp
  exact ⟨rfl, hb⟩
abbrev kA : ByteArray := ⟨#[97, 32, 39, 98, 32, 99, 39, 92, 32, 100]⟩
theorem known_a : splitR (escN 92) (un kA) = .ok [(0, 1), (2, 10)] := by kernel_rfl
theorem known_b : splitR (escN 92) (un ⟨#[97, 32, 34, 98]⟩) = .error 2 := by kernel_rfl
theorem known_c : bs (quoL (escN 96) (un ⟨#[97, 32, 36]⟩)) = ⟨#[34, 97, 32, 96, 36, 34]⟩ := by decide +kernel
theorem known_d : bs (quoL (escN 92) (un ⟨#[97]⟩)) = ⟨#[97]⟩ := by decide +kernel
theorem known_w : wdsOf kA [(0, 1), (2, 10)] = [⟨0, ⟨#[97]⟩⟩, ⟨2, ⟨#[39, 98, 32, 99, 39, 92, 32, 100]⟩⟩] := by
  show [Wd.mk _ _, Wd.mk _ _] = _
  rw [show kA.extract 0 1 = ⟨#[97]⟩ by decide +kernel, show kA.extract 2 10 = ⟨#[39, 98, 32, 99, 39, 92, 32, 100]⟩ by decide +kernel]
  rfl
theorem two_new (W : World) (a b : Wd) : WdsAt (W.alloc (.cells #[.int .i64 a.p, .string a.r, .int .i64 b.p, .string b.r] 41)) (.slice (some ⟨W.heap.size, 0, none⟩) 2 2) [a, b] := by
  have L := Lies.new W 41 #[.int .i64 a.p, .string a.r, .int .i64 b.p, .string b.r]
  refine ⟨_, 2, W.heap.size, 0, rfl, fun _ => rfl, Nat.le_refl _, fun i e he => ?_⟩
  rcases i with _ | _ | i
  · cases he; exact ⟨L.cell rfl, L.cell rfl⟩
  · cases he; exact ⟨L.cell rfl, L.cell rfl⟩
  · simp at he
set_option maxRecDepth 100000 in
set_option maxHeartbeats 8000000 in
theorem works_w (w : World) (he : ErrType w) : Calls Tryd.prog 14 #[] w fun e w' => e = .returned (.bool true) ∧ Below w.heap.size w w' := by
  have hA := fun W => split_ok kA 92 _ known_a W (by decide)
  have hB := fun W => split_err ⟨#[97, 32, 34, 98]⟩ 92 2 known_b W (by decide)
  have hC : ∀ W, Calls Tryd.prog 15 #[.string ⟨#[97, 32, 36]⟩, .int .u8 96] W fun e w' => e = .returned (.string ⟨#[34, 97, 32, 96, 36, 34]⟩) ∧ Below W.heap.size W w' := fun W => by
    have h := quote_p ⟨#[97, 32, 36]⟩ 96 W (by decide)
    rw [known_c] at h; exact h
  have hD : ∀ W, Calls Tryd.prog 15 #[.string ⟨#[97]⟩, .int .u8 92] W fun e w' => e = .returned (.string ⟨#[97]⟩) ∧ Below W.heap.size W w' := fun W => by
    have h := quote_p ⟨#[97]⟩ 92 W (by decide)
    rw [known_d] at h; exact h
  go_enter Tryd.func14, Tryd.ntmps14
  go_wp2_with fail
  refine (hA _).mono ?_
  rintro e w1 ⟨v1, rfl, ho1, b1⟩
  rw [known_w] at ho1
  have hv1 : WdsAt w1 v1 _ := wds_of_owns ho1
  have he1 := he.below b1
  clear ho1
  go_wp2_with fail
  refine (hB _).mono ?_
  rintro e w2 ⟨rfl, b2⟩
  have hv2 := hv1.below b2
  have he2 := he1.below b2
  have hb2 := below_join b1 b2
  clear hv1 he1 b1 b2
  have hal : Below w2.heap.size w2 (w2.alloc (.cells #[.int .i64 (0 : Int), .string ⟨#[97]⟩, .int .i64 (2 : Int), .string ⟨#[39, 98, 32, 99, 39, 92, 32, 100]⟩] 41)) := (Below.refl _ w2).alloc (Nat.le_refl _) _
  have hn := two_new w2 ⟨0, ⟨#[97]⟩⟩ ⟨2, ⟨#[39, 98, 32, 99, 39, 92, 32, 100]⟩⟩
  have hS := same_p v1 _ _ _ (hv2.below hal) hn (by decide)
  have hbA := below_join hb2 hal
  have heA := he2.below hal
  clear hal hn hv2 he2 hb2
  go_wp2_with fail
  refine hS.mono ?_
  rintro e w3 ⟨rfl, b3⟩
  have hb3 := below_join hbA b3
  have he3 := heA.below b3
  clear b3 hbA heA hS
  go_wp2_with fail
  refine (at_p 18 0 2 (by decide) (by decide) w3 he3).mono ?_
  rintro e w4 ⟨rfl, b4⟩
  have hb4 := below_join hb3 b4
  clear b4 hb3 he3
  go_wp2_with fail
  refine (hC _).mono ?_
  rintro e w5 ⟨rfl, b5⟩
  have hb5 := below_join hb4 b5
  clear b5 hb4
  go_wp2_with fail
  refine (hD _).mono ?_
  rintro e w6 ⟨rfl, b6⟩
  have hb6 := below_join hb5 b6
  clear b6 hb5
  go_wp2
  go_ret
  exact ⟨rfl, hb6⟩
end Go.Proofs.YtmnggnmgiflhjaaDoor
