/- A frame's head, and four bytes of a number. -/
import Derived.Test.YtcoinfancoeepabDoorInflK
import Derived.Test.YtcoinfancoeepabDoorCrcU
namespace Go.Proofs.YtcoinfancoeepabDoor
open Go Go.RowKit

def four (n : Nat) : List UInt8 := [UInt8.ofNat n, UInt8.ofNat (n / 256), UInt8.ofNat (n / 65536), UInt8.ofNat (n / 16777216)]
theorem u8w (n : Nat) : IntKind.u8.wrap (n : Int) = ((UInt8.ofNat n).toNat : Int) := by
  rw [IntKind.wrap_u8, UInt8.toNat_ofNat']; omega
set_option maxRecDepth 100000 in
theorem four_p (n : Nat) (hn : n < 4294967296) (w : World) : Calls Tryd.prog 19 #[.int .u32 n] w fun e w' => e = .returned (.string (bs (four n))) ∧ Below w.heap.size w w' := by
  have d1 : (n : Int) / 256 = ((n / 256 : Nat) : Int) := by omega
  have d2 : (n : Int) / 65536 = ((n / 65536 : Nat) : Int) := by omega
  have d3 : (n : Int) / 16777216 = ((n / 16777216 : Nat) : Int) := by omega
  have e0 := u8w n
  have e1 := u8w (n / 256)
  have e2 := u8w (n / 65536)
  have e3 := u8w (n / 16777216)
  have HF : Hid (four n = [UInt8.ofNat n, UInt8.ofNat (n / 256), UInt8.ofNat (n / 65536), UInt8.ofNat (n / 16777216)]) := rfl
  have hb0 : n ≤ 4294967295 := by omega
  generalize UInt8.ofNat n = b0 at *
  generalize UInt8.ofNat (n / 256) = b1 at *
  generalize UInt8.ofNat (n / 65536) = b2 at *
  generalize UInt8.ofNat (n / 16777216) = b3 at *
  generalize n / 256 = q1 at *
  generalize n / 65536 = q2 at *
  generalize n / 16777216 = q3 at *
  have hcv : (convert 34 9 (.slice (some ⟨w.heap.size, 0, none⟩) 4 4)).run Tryd.prog (w.alloc (.cells #[.int .u8 b0.toNat, .int .u8 b1.toNat, .int .u8 b2.toNat, .int .u8 b3.toNat] 5)) = .ok (.string (bs [b0, b1, b2, b3])) (w.alloc (.cells #[.int .u8 b0.toNat, .int .u8 b1.toNat, .int .u8 b2.toNat, .int .u8 b3.toNat] 5)) := by
    have hL := Lies.new w 5 #[.int .u8 b0.toNat, .int .u8 b1.toNat, .int .u8 b2.toNat, .int .u8 b3.toNat]
    refine run_convert_bytes_back _ 34 9 5 ⟨w.heap.size, 0, none⟩ 4 [b0, b1, b2, b3] Tryd.underlying34 Tryd.underlying5 Tryd.underlying9 (fun j hj => ?_)
    have hj4 : j < 4 := hj
    obtain rfl | rfl | rfl | rfl : j = 0 ∨ j = 1 ∨ j = 2 ∨ j = 3 := by omega
    all_goals exact hL.cell rfl
  have HB : Hid (Below w.heap.size w (w.alloc (.cells #[.int .u8 b0.toNat, .int .u8 b1.toNat, .int .u8 b2.toNat, .int .u8 b3.toNat] 5))) := (Below.refl _ w).alloc (Nat.le_refl _) _
  go_enter Tryd.func19, Tryd.ntmps19
  go_wp2
  go_ret
  exact ⟨by rw [HF.out]; rfl, HB.out⟩
def frameC (s : ByteArray) (a : Nat) : Array Value := #[.string s, .int .i64 a]
set_option maxRecDepth 100000 in
set_option maxHeartbeats 1000000 in
theorem take_p (gf : Nat) (s X : ByteArray) (a n : Nat) (hs : s.size ≤ 140737488351232) (hn : a + n ≤ s.size) (hX : s.extract a (a + n) = X) (w : World) (hL : Lies w gf 52 (frameC s a)) :
    Calls Tryd.prog 24 #[.pointer (some ⟨gf, 0, none⟩), .int .i64 n] w fun e w' => e = .returned (.tuple #[.string X, .nilIface]) ∧ Lies w' gf 52 (frameC s (a + n)) ∧ Turned gf w w' := by
  have c0 : w.cell? ⟨gf, 0, none⟩ = some (.string s) := hL.cell rfl
  have c1 : w.cell? ⟨gf, 1, none⟩ = some (.int .i64 a) := hL.cell rfl
  have f1 := hL.frozen 1
  have HS0 : Hid (w.drew.cell? ⟨gf, 0, none⟩ = some (.string s) ∧ w.drew.cell? ⟨gf, 1, none⟩ = some (.int .i64 a)) := ⟨c0, c1⟩
  have HS1 : Hid (w.drew.drew.cell? ⟨gf, 0, none⟩ = some (.string s) ∧ w.drew.drew.cell? ⟨gf, 1, none⟩ = some (.int .i64 a)) := ⟨c0, c1⟩
  have s1 : IntKind.i64.wrap ((s.size : Int) - (a : Int)) = (s.size : Int) - (a : Int) := wrapZ _ (by omega)
  have hgt : ¬ (s.size : Int) - (a : Int) < (n : Int) := by omega
  have s2 : IntKind.i64.wrap ((a : Int) + (n : Int)) = ((a + n : Nat) : Int) := by rw [wrapZ _ (by omega)]; omega
  have HL2 : Hid (∀ k, Lies ((w.setCell ⟨gf, 1, none⟩ (.int .i64 ((a + n : Nat)))).drewN k) gf 52 (frameC s (a + n))) := fun k => (hL.set _).drew k
  have HT2 : Hid (∀ k, Turned gf w ((w.setCell ⟨gf, 1, none⟩ (.int .i64 ((a + n : Nat)))).drewN k)) := fun k => (Turned.set gf _ 1 _).trans (Turned.drew gf _ k)
  have b1 : (0 : Int) ≤ (a : Int) := by omega
  have b2 : (a : Int) ≤ ((a + n : Nat) : Int) := by omega
  have b3 : ((a + n : Nat) : Int) ≤ (s.size : Int) := by omega
  clear hL
  obtain ⟨an, han⟩ : ∃ x, a + n = x := ⟨_, rfl⟩
  rw [han] at s2 HL2 HT2 b2 b3 hX
  have HAN : Hid (a + n = an) := han
  clear han
  go_enter Tryd.func24, Tryd.ntmps24
  go_wp2
  go_region_held3 (fun w' => w'.cell? ⟨gf, 0, none⟩ = some (.string s) ∧ w'.cell? ⟨gf, 1, none⟩ = some (.int .i64 a)) (first | exact HS0.out | assumption) (fail)
  go_wp2
  go_region_held3 (fun w' => w'.cell? ⟨gf, 0, none⟩ = some (.string s) ∧ w'.cell? ⟨gf, 1, none⟩ = some (.int .i64 a)) (first | exact HS1.out | assumption) (fail)
  go_wp2
  go_ret2
  exact ⟨rfl, by rw [HAN.out]; exact HL2.out 2, HT2.out 2⟩
/-- The known text, in a frame. -/
def z0 : ByteArray := ⟨#[31, 139, 8, 0, 0, 0, 0, 0, 0, 255, 75, 4, 0, 67, 190, 183, 232, 1, 0, 0, 0]⟩
theorem z0_size : z0.size = 21 := rfl
set_option maxRecDepth 100000 in
set_option maxHeartbeats 4000000 in
theorem flags_k (gf : Nat) (w : World) (hL : Lies w gf 52 (frameC z0 0)) :
    Calls Tryd.prog 41 #[.pointer (some ⟨gf, 0, none⟩)] w fun e w' => e = .returned (.tuple #[.int .u8 0, .nilIface]) ∧ Lies w' gf 52 (frameC z0 4) ∧ Turned gf w w' := by
  have HTK : Hid (∀ (k : Nat) (X : ByteArray) (W : World), k + 1 ≤ 21 → z0.extract k (k + 1) = X → Lies W gf 52 (frameC z0 k) → Calls Tryd.prog 24 #[.pointer (some ⟨gf, 0, none⟩), .int .i64 1] W fun e w' => e = .returned (.tuple #[.string X, .nilIface]) ∧ Lies w' gf 52 (frameC z0 (k + 1)) ∧ Turned gf W w') := fun k X W hk hX hW => take_p gf z0 X k 1 (by rw [z0_size]; omega) (by rw [z0_size]; omega) hX W hW
  have hT0 : Turned gf w w := Turned.refl gf w
  go_enter Tryd.func41, Tryd.ntmps41
  go_wp2
  go_loopw [9] (fun i wr => ∃ k : Nat, k ≤ 3 ∧ i = .int .i64 k ∧ Lies wr gf 52 (frameC z0 k) ∧ Turned gf w wr) (fun i _ => 3 - (intOf i).toNat)
  case atStart => exact ⟨0, by omega, rfl, hL, hT0⟩
  case round =>
    clear hL hT0
    obtain ⟨k, hk, rfl, hL, hT⟩ := hrel
    obtain rfl | rfl | rfl | rfl : k = 0 ∨ k = 1 ∨ k = 2 ∨ k = 3 := by omega
    · go_wp2_with (go_at_call 24; refine (HTK.out 0 ⟨#[31]⟩ _ (by omega) rfl hL).mono ?_; rintro e w2 ⟨rfl, hL2, hT2⟩)
      go_region
      go_wp2
      exact ⟨⟨1, by omega, by go_num, hL2, (hT.trans hT2).trans (Turned.drew gf _ 1)⟩, by simp [intOf]⟩
    · go_wp2_with (go_at_call 24; refine (HTK.out 1 ⟨#[139]⟩ _ (by omega) rfl hL).mono ?_; rintro e w2 ⟨rfl, hL2, hT2⟩)
      go_region
      go_wp2
      exact ⟨⟨2, by omega, by go_num, hL2, (hT.trans hT2).trans (Turned.drew gf _ 1)⟩, by simp [intOf]⟩
    · go_wp2_with (go_at_call 24; refine (HTK.out 2 ⟨#[8]⟩ _ (by omega) rfl hL).mono ?_; rintro e w2 ⟨rfl, hL2, hT2⟩)
      go_region
      go_wp2
      exact ⟨⟨3, by omega, by go_num, hL2, (hT.trans hT2).trans (Turned.drew gf _ 1)⟩, by simp [intOf]⟩
    · go_wp2_with (go_at_call 24; refine (HTK.out 3 ⟨#[0]⟩ _ (by omega) rfl hL).mono ?_; rintro e w2 ⟨rfl, hL2, hT2⟩)
      go_ret2
      exact ⟨rfl, hL2, hT.trans hT2⟩
set_option maxRecDepth 100000 in
set_option maxHeartbeats 4000000 in
theorem head_k (gf : Nat) (w : World) (hL : Lies w gf 52 (frameC z0 0)) :
    Calls Tryd.prog 23 #[.pointer (some ⟨gf, 0, none⟩)] w fun e w' => e = .returned .nilIface ∧ Lies w' gf 52 (frameC z0 10) ∧ Turned gf w w' := by
  have HFL := flags_k gf w hL
  have HTK : Hid (∀ (W : World), Lies W gf 52 (frameC z0 4) → Calls Tryd.prog 24 #[.pointer (some ⟨gf, 0, none⟩), .int .i64 6] W fun e w' => e = .returned (.tuple #[.string ⟨#[0, 0, 0, 0, 0, 255]⟩, .nilIface]) ∧ Lies w' gf 52 (frameC z0 10) ∧ Turned gf W w') := fun W hW => take_p gf z0 ⟨#[0, 0, 0, 0, 0, 255]⟩ 4 6 (by rw [z0_size]; omega) (by rw [z0_size]; omega) rfl W hW
  clear hL
  go_enter Tryd.func23, Tryd.ntmps23
  go_wp2_with (first
    | (go_at_call 41; refine HFL.mono ?_; rintro e w2 ⟨rfl, hL2, hT2⟩)
    | (go_at_call 24; refine (HTK.out _ hL2).mono ?_; rintro e w3 ⟨rfl, hL3, hT3⟩))
  go_ret
  exact ⟨rfl, hL3, hT2.trans hT3⟩
end Go.Proofs.YtcoinfancoeepabDoor
