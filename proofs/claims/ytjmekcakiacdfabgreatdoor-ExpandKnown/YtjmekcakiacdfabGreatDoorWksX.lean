/- What most statements ask besides: three known calls. -/
import Derived.Test.YtjmekcakiacdfabGreatDoorNmuW
import Derived.RegionTactic
namespace Go.Proofs.YtjmekcakiacdfabGreatDoor
open Go Go.RowKit Go.Maps

def w1s : ByteArray := ⟨#[97, 36, 65, 39, 36, 65, 39, 34, 36, 123, 65, 125, 34, 36, 123, 67, 58, 45, 92, 125, 125]⟩
def w2s : ByteArray := ⟨#[39, 36, 65, 92, 36]⟩
def w3s : ByteArray := ⟨#[36, 65, 36, 123, 66, 58, 45, 36, 67, 125]⟩
def oneP : List PrZ := [⟨⟨#[65]⟩, ⟨#[120]⟩⟩]
theorem w1_ans : wordL 92 (prL oneP) (un w1s) = (0, [97, 120, 36, 65, 120, 125]) := by decide +kernel
theorem w2_ans : docL 92 (prL oneP) (un w2s) = (0, [39, 120, 36]) := by decide +kernel
theorem w3_ans : namesL 92 (un w3s) = [[65], [66], [67]] := by decide +kernel
theorem oneP_few : FewQ oneP := FewQ.of ⟨by decide, fun x hx => by
  simp [oneP] at hx; subst hx
  exact ⟨by decide, by decide⟩⟩
set_option maxHeartbeats 4000000 in
set_option maxRecDepth 100000 in
theorem works_x (W : World) : Calls Tryz.prog 15 #[] W fun x w' => x = .returned (.bool true) ∧ Below W.heap.size W w' := by
  have LP : Lies (W.alloc (.cells #[.string ⟨#[65]⟩, .string ⟨#[120]⟩] 40)) W.heap.size 40 #[.string ⟨#[65]⟩, .string ⟨#[120]⟩] := Lies.new W _ _
  have hP : PrsAt (W.alloc (.cells #[.string ⟨#[65]⟩, .string ⟨#[120]⟩] 40)) (.slice (some ⟨W.heap.size, 0, none⟩) 1 1) oneP := by
    refine ⟨some ⟨W.heap.size, 0, none⟩, 1, W.heap.size, 0, rfl, fun _ => rfl, Nat.le_refl _, fun i e he => ?_⟩
    cases i with
    | zero =>
      simp [oneP] at he; subst he
      exact ⟨LP.cell (i := 0) rfl, LP.cell (i := 1) rfl⟩
    | succ i => simp [oneP] at he
  have b0 : Below W.heap.size W (W.alloc (.cells #[.string ⟨#[65]⟩, .string ⟨#[120]⟩] 40)) := (Below.refl _ W).alloc (Nat.le_refl _) _
  generalize hW1 : W.alloc (.cells #[.string ⟨#[65]⟩, .string ⟨#[120]⟩] 40) = W1 at *
  have h1 := word_p w1s 92 oneP (.slice (some ⟨W.heap.size, 0, none⟩) 1 1) W1 hP oneP_few (by decide)
  rw [w1_ans] at h1
  have h2 := fun W2 (hb : Below W1.heap.size W1 W2) => doc_p w2s 92 oneP (.slice (some ⟨W.heap.size, 0, none⟩) 1 1) W2 (hP.below hb) oneP_few (by decide)
  rw [w2_ans] at h2
  have h3 := fun W2 => names_p w3s 92 W2 (by decide)
  rw [w3_ans] at h3
  have h1 : Calls Tryz.prog 9 #[.string ⟨#[97, 36, 65, 39, 36, 65, 39, 34, 36, 123, 65, 125, 34, 36, 123, 67, 58, 45, 92, 125, 125]⟩, .int .u8 92, .slice (some ⟨W.heap.size, 0, none⟩) 1 1] W1 fun x w' => x = .returned (.tuple #[.string ⟨#[97, 120, 36, 65, 120, 125]⟩, .nilIface]) ∧ Below W1.heap.size W1 w' := h1
  have h2 : ∀ W2 (_ : Below W1.heap.size W1 W2), Calls Tryz.prog 24 #[.string ⟨#[39, 36, 65, 92, 36]⟩, .int .u8 92, .slice (some ⟨W.heap.size, 0, none⟩) 1 1] W2 fun x w' => x = .returned (.tuple #[.string ⟨#[39, 120, 36]⟩, .nilIface]) ∧ Below W2.heap.size W2 w' := h2
  have h3 : ∀ W2, Calls Tryz.prog 26 #[.string ⟨#[36, 65, 36, 123, 66, 58, 45, 36, 67, 125]⟩, .int .u8 92] W2 fun x w' => ∃ v, x = .returned v ∧ w'.ownsRow W2.heap.size 9 1 v 3 [.string ⟨#[65]⟩, .string ⟨#[66]⟩, .string ⟨#[67]⟩] ∧ Below W2.heap.size W2 w' := h3
  have hsz : W.heap.size ≤ W1.heap.size := b0.size
  clear hP LP
  go_enter Tryz.func15, Tryz.ntmps15
  go_wp2_with (first
    | (rw [hW1])
    | (go_at_call 9; refine h1.mono ?_; rintro x w2 ⟨rfl, b2⟩)
    | (go_at_call 24; refine (h2 _ b2).mono ?_; rintro x w3 ⟨rfl, b3⟩)
    | (go_at_call 26; refine (h3 _).mono ?_; rintro x w4 ⟨v, rfl, hown, b4⟩; obtain ⟨g, cap, rfl, hgb, hgl⟩ := hown.form (by decide); have hc2 : w4.cell? ⟨g, 2, none⟩ = some (.string ⟨#[67]⟩) := hown.cellAt 2 (by decide)))
  go_ret
  exact ⟨rfl, ((b0.trans (b2.mono hsz)).trans (b3.mono (Nat.le_trans hsz b2.size))).trans (b4.mono (Nat.le_trans hsz (Nat.le_trans b2.size b3.size)))⟩
end Go.Proofs.YtjmekcakiacdfabGreatDoor
