/- What the fixed codes are, and the bits of the known text. -/
import Derived.Test.YtcoinfancoeepabDoorNextU
namespace Go.Proofs.YtcoinfancoeepabDoor
open Go Go.RowKit

set_option maxRecDepth 1000000 in
theorem fix1_len : fix1.length = 288 := szRun_length 288
set_option maxRecDepth 1000000 in
theorem fix1_counts : counts fix1 = [0, 0, 0, 0, 0, 0, 0, 24, 152, 112, 0, 0, 0, 0, 0, 0] := by kernel_rfl
set_option maxRecDepth 1000000 in
theorem fix1_lng : lngRun fix1 fix1.length = 9 := by kernel_rfl
set_option maxRecDepth 1000000 in
theorem fix1_many : manyN fix1 = 288 := by
  unfold manyN
  rw [fix1_counts]
  decide
set_option maxRecDepth 1000000 in
theorem fix1_sym97 : (symRun fix1 fix1.length).2.getD 121 0 = 97 := by kernel_rfl
set_option maxRecDepth 1000000 in
theorem fix1_sym256 : (symRun fix1 fix1.length).2.getD 0 0 = 256 := by kernel_rfl
/-- The known text, deflated. -/
def s0 : ByteArray := ⟨#[75, 4, 0]⟩
def cs0 : List Nat := [0, 0, 0, 0, 0, 0, 0, 24, 152, 112, 0, 0, 0, 0, 0, 0]
theorem bit_s0 {s : ByteArray} (h : (un s).take 3 = [75, 4, 0]) (a : Nat) (ha : a < 24) : bitN s a = bitN s0 a := by
  unfold bitN
  have h1 : ∀ k, k < 3 → (un s).getD k 0 = (un s0).getD k 0 := fun k hk => by
    have e1 : (un s).getD k 0 = ((un s).take 3).getD k 0 := by
      rw [List.getD_eq_getElem?_getD, List.getD_eq_getElem?_getD, List.getElem?_take, if_pos hk]
    rw [e1, h]; rfl
  rw [h1 (a / 8) (by omega)]
theorem nx_congr (cs : List Nat) {s t : ByteArray} (a : Nat) : ∀ j, (∀ i, i < j → bitN s (a + i) = bitN t (a + i)) → nx cs s a j = nx cs t a j
  | 0, _ => rfl
  | j + 1, h => by
    rw [nx, nx, nx_congr cs a j (fun i hi => h i (by omega)), h j (by omega)]
theorem nxV_s0 {s : ByteArray} (h : (un s).take 3 = [75, 4, 0]) (a j : Nat) (ha : a + j < 24) : nxV cs0 s a j = nxV cs0 s0 a j ∧ nxF cs0 s a j = nxF cs0 s0 a j ∧ nx cs0 s a j = nx cs0 s0 a j := by
  have e := nx_congr cs0 (s := s) (t := s0) a j (fun i hi => bit_s0 h _ (by omega))
  unfold nxV nxF
  rw [e, bit_s0 h _ ha]
  exact ⟨rfl, rfl, rfl⟩
theorem k1a : ∀ i, i < 7 → nxF cs0 s0 3 i ≤ nxV cs0 s0 3 i := by decide
theorem k1b : nxV cs0 s0 3 7 < nxF cs0 s0 3 7 ∧ (nx cs0 s0 3 7).2.1 ≤ nxV cs0 s0 3 7 ∧ (nx cs0 s0 3 7).2.2 + nxV cs0 s0 3 7 - (nx cs0 s0 3 7).2.1 = 121 := by decide
theorem k2a : ∀ i, i < 6 → nxF cs0 s0 11 i ≤ nxV cs0 s0 11 i := by decide
theorem k2b : nxV cs0 s0 11 6 < nxF cs0 s0 11 6 ∧ (nx cs0 s0 11 6).2.1 ≤ nxV cs0 s0 11 6 ∧ (nx cs0 s0 11 6).2.2 + nxV cs0 s0 11 6 - (nx cs0 s0 11 6).2.1 = 0 := by decide
theorem next_97 (g sy gs gv gi : Nat) {s : ByteArray} (h : (un s).take 3 = [75, 4, 0]) (OUT : Value) (most : Int) (L D : Value) (hs : s.size ≤ 140737488351232) (hs3 : 3 ≤ s.size) (w : World) (hC : CodeAt w g sy fix1) (hI : InfAt w gs gv gi s 3 (bitsF gs gv) OUT most L D) (n1 : g ≠ gi) (n2 : sy ≠ gi) :
    Calls Tryd.prog 66 #[.pointer (some ⟨g, 0, none⟩), bitsF gs gv] w fun e w' => e = .returned (.tuple #[.int .i64 97, .nilIface]) ∧ InfAt w' gs gv gi s 11 (bitsF gs gv) OUT most L D ∧ Turned gi w w' := by
  obtain ⟨a1, a2, a3⟩ := nxV_s0 h 3 7 (by omega)
  have ec : counts fix1 = cs0 := fix1_counts
  refine next_hit g sy gs gv gi fix1 s 3 7 OUT most L D fix1_le (by rw [fix1_len]; omega) hs (by rw [fix1_lng]; omega) ?_ ?_ ?_ ?_ 97 ?_ (by omega) w hC hI n1 n2
  · intro i hi
    obtain ⟨b1, b2, _⟩ := nxV_s0 h 3 i (by omega)
    rw [ec, b1, b2]; exact k1a i hi
  · rw [ec, a1, a2]; exact k1b.1
  · rw [ec, a1, a3]; exact k1b.2.1
  · rw [ec, a1, a3, k1b.2.2, fix1_many]; omega
  · rw [ec, a1, a3, k1b.2.2]; exact fix1_sym97
theorem next_256 (g sy gs gv gi : Nat) {s : ByteArray} (h : (un s).take 3 = [75, 4, 0]) (OUT : Value) (most : Int) (L D : Value) (hs : s.size ≤ 140737488351232) (hs3 : 3 ≤ s.size) (w : World) (hC : CodeAt w g sy fix1) (hI : InfAt w gs gv gi s 11 (bitsF gs gv) OUT most L D) (n1 : g ≠ gi) (n2 : sy ≠ gi) :
    Calls Tryd.prog 66 #[.pointer (some ⟨g, 0, none⟩), bitsF gs gv] w fun e w' => e = .returned (.tuple #[.int .i64 256, .nilIface]) ∧ InfAt w' gs gv gi s 18 (bitsF gs gv) OUT most L D ∧ Turned gi w w' := by
  obtain ⟨a1, a2, a3⟩ := nxV_s0 h 11 6 (by omega)
  have ec : counts fix1 = cs0 := fix1_counts
  refine next_hit g sy gs gv gi fix1 s 11 6 OUT most L D fix1_le (by rw [fix1_len]; omega) hs (by rw [fix1_lng]; omega) ?_ ?_ ?_ ?_ 256 ?_ (by omega) w hC hI n1 n2
  · intro i hi
    obtain ⟨b1, b2, _⟩ := nxV_s0 h 11 i (by omega)
    rw [ec, b1, b2]; exact k2a i hi
  · rw [ec, a1, a2]; exact k2b.1
  · rw [ec, a1, a3]; exact k2b.2.1
  · rw [ec, a1, a3, k2b.2.2, fix1_many]; omega
  · rw [ec, a1, a3, k2b.2.2]; exact fix1_sym256
end Go.Proofs.YtcoinfancoeepabDoor
