/- The closure that hands bits on. -/
import Derived.Test.YtcoinfancoeepabDoorBitM
import Derived.Test.YtcoinfancoeepabDoorBaseU
import Derived.Deep.RegionHeld3
namespace Go.Proofs.YtcoinfancoeepabDoor
open Go Go.RowKit

/-- An inflater's cells. -/
def infC (s : ByteArray) (at' : Nat) (F OUT : Value) (most : Int) (L D : Value) : Array Value := #[.string s, .int .i64 at', F, OUT, .int .i64 most, L, D]
structure InfAt (W : World) (gs gv gi : Nat) (s : ByteArray) (at' : Nat) (F OUT : Value) (most : Int) (L D : Value) : Prop where
  bs' : Lies W gs 9 #[.string s]
  bv : Lies W gv 41 #[.pointer (some ⟨gi, 0, none⟩)]
  li : Lies W gi 48 (infC s at' F OUT most L D)
  n1 : gs ≠ gi
  n2 : gv ≠ gi
theorem InfAt.below {W W2 : World} {gs gv gi : Nat} {s : ByteArray} {a : Nat} {F OUT : Value} {most : Int} {L D : Value} (h : InfAt W gs gv gi s a F OUT most L D) (b : Below W.heap.size W W2) : InfAt W2 gs gv gi s a F OUT most L D :=
  ⟨h.bs'.below b, h.bv.below b, h.li.below b, h.n1, h.n2⟩
theorem InfAt.drew {W : World} {gs gv gi : Nat} {s : ByteArray} {a : Nat} {F OUT : Value} {most : Int} {L D : Value} (h : InfAt W gs gv gi s a F OUT most L D) (n : Nat) : InfAt (W.drewN n) gs gv gi s a F OUT most L D :=
  ⟨h.bs', h.bv, h.li, h.n1, h.n2⟩
theorem InfAt.setAt {W : World} {gs gv gi : Nat} {s : ByteArray} {a : Nat} {F OUT : Value} {most : Int} {L D : Value} (h : InfAt W gs gv gi s a F OUT most L D) (b : Nat) : InfAt (W.setCell ⟨gi, 1, none⟩ (.int .i64 b)) gs gv gi s b F OUT most L D :=
  ⟨h.bs'.other _ (fun e => h.n1 e.symm), h.bv.other _ (fun e => h.n2 e.symm), h.li.set _, h.n1, h.n2⟩
theorem InfAt.cells {W : World} {gs gv gi : Nat} {s : ByteArray} {a : Nat} {F OUT : Value} {most : Int} {L D : Value} (h : InfAt W gs gv gi s a F OUT most L D) :
    W.cell? ⟨gs, 0, none⟩ = some (.string s) ∧ W.cell? ⟨gv, 0, none⟩ = some (.pointer (some ⟨gi, 0, none⟩)) ∧ W.cell? ⟨gi, 1, none⟩ = some (.int .i64 a) ∧ W.frozen? ⟨gi, 1, none⟩ = false :=
  ⟨h.bs'.cell rfl, h.bv.cell rfl, h.li.cell rfl, h.li.frozen 1⟩
set_option maxRecDepth 100000 in
set_option maxHeartbeats 4000000 in
theorem bits_short (n gs gv gi : Nat) (s : ByteArray) (a : Nat) (F OUT : Value) (most : Int) (L D : Value) (hs : s.size ≤ 140737488351232) (ha : a ≤ 8 * s.size) (hn : 8 * s.size < a + n) (hn2 : n ≤ 64) (w : World) (hI : InfAt w gs gv gi s a F OUT most L D) :
    Calls Tryd.prog 36 #[.int .i64 n, .pointer (some ⟨gs, 0, none⟩), .pointer (some ⟨gv, 0, none⟩)] w fun e w' => e = .returned (.tuple #[.int .i64 0, errV 2]) ∧ Below w.heap.size w w' := by
  obtain ⟨c1, c2, c3, _⟩ := hI.cells
  have HS0 : Hid (w.drew.cell? ⟨gs, 0, none⟩ = some (.string s) ∧ w.drew.cell? ⟨gv, 0, none⟩ = some (.pointer (some ⟨gi, 0, none⟩)) ∧ w.drew.cell? ⟨gi, 1, none⟩ = some (.int .i64 a)) := ⟨c1, c2, c3⟩
  have hgt : (8 : Int) * (s.size : Int) - (a : Int) < (n : Int) := by omega
  have m1 : IntKind.i64.wrap (8 * (s.size : Int)) = 8 * (s.size : Int) := wrapZ _ (by omega)
  have m2 : IntKind.i64.wrap (8 * (s.size : Int) - (a : Int)) = 8 * (s.size : Int) - (a : Int) := wrapZ _ (by omega)
  clear c1 c2 c3 hI
  go_enter Tryd.func36, Tryd.ntmps36
  go_wp2
  go_region_held3 (fun w' => w'.cell? ⟨gs, 0, none⟩ = some (.string s) ∧ w'.cell? ⟨gv, 0, none⟩ = some (.pointer (some ⟨gi, 0, none⟩)) ∧ w'.cell? ⟨gi, 1, none⟩ = some (.int .i64 a)) (first | exact HS0.out | assumption) (fail)
  go_wp2
  go_ret2
  exact ⟨rfl, below_drawn (Below.refl _ w) 1⟩
set_option maxRecDepth 100000 in
set_option maxHeartbeats 4000000 in
theorem bits_p (n gs gv gi : Nat) (s : ByteArray) (a : Nat) (F OUT : Value) (most : Int) (L D : Value) (hs : s.size ≤ 140737488351232) (hn : a + n ≤ 8 * s.size) (hn2 : n ≤ 16) (w : World) (hI : InfAt w gs gv gi s a F OUT most L D) :
    Calls Tryd.prog 36 #[.int .i64 n, .pointer (some ⟨gs, 0, none⟩), .pointer (some ⟨gv, 0, none⟩)] w fun e w' => e = .returned (.tuple #[.int .i64 (bitsN s a n : Nat), .nilIface]) ∧ InfAt w' gs gv gi s (a + n) F OUT most L D ∧ Turned gi w w' := by
  obtain ⟨c1, c2, c3, _⟩ := hI.cells
  have HS0 : Hid (w.drew.cell? ⟨gs, 0, none⟩ = some (.string s) ∧ w.drew.cell? ⟨gv, 0, none⟩ = some (.pointer (some ⟨gi, 0, none⟩)) ∧ w.drew.cell? ⟨gi, 1, none⟩ = some (.int .i64 a)) := ⟨c1, c2, c3⟩
  have hgt : ¬ (8 : Int) * (s.size : Int) - (a : Int) < (n : Int) := by omega
  have m1 : IntKind.i64.wrap (8 * (s.size : Int)) = 8 * (s.size : Int) := wrapZ _ (by omega)
  have m2 : IntKind.i64.wrap (8 * (s.size : Int) - (a : Int)) = 8 * (s.size : Int) - (a : Int) := wrapZ _ (by omega)
  have hI0 : InfAt w.drew gs gv gi s a F OUT most L D := hI.drew 1
  have hT0 : Turned gi w w.drew := Turned.drew gi w 1
  clear c1 c2 c3 hI
  go_enter Tryd.func36, Tryd.ntmps36
  go_wp2
  go_region_held3 (fun w' => w'.cell? ⟨gs, 0, none⟩ = some (.string s) ∧ w'.cell? ⟨gv, 0, none⟩ = some (.pointer (some ⟨gi, 0, none⟩)) ∧ w'.cell? ⟨gi, 1, none⟩ = some (.int .i64 a)) (first | exact HS0.out | assumption) (fail)
  go_wp2
  go_loopw [6, 20] (fun v i wr => ∃ k : Nat, k ≤ n ∧ i = .int .i64 k ∧ v = .int .i64 (bitsN s a k : Nat) ∧ InfAt wr gs gv gi s (a + k) F OUT most L D ∧ Turned gi w wr) (fun _ i _ => n - (intOf i).toNat)
  case atStart => exact ⟨0, Nat.zero_le _, rfl, rfl, hI0, hT0⟩
  case round =>
    obtain ⟨k, hk, rfl, rfl, hI, hT⟩ := hrel
    clear hI0 hT0 HS0
    by_cases hlt : k < n
    · have hlt' : (k : Int) < (n : Int) := by omega
      have hk0 : (0 : Int) ≤ (k : Int) := by omega
      have hk64 : (k : Int) ≤ 64 := by omega
      obtain ⟨A, hA⟩ : ∃ A, a + k = A := ⟨_, rfl⟩
      rw [hA] at hI
      obtain ⟨c1, c2, c3, c4⟩ := hI.cells
      have HI2 : Hid (InfAt (wr.drew.setCell ⟨gi, 1, none⟩ (.int .i64 ((A + 1 : Nat)))) gs gv gi s (a + (k + 1)) F OUT most L D) := by
        have := (hI.drew 1).setAt (A + 1)
        rw [← Nat.add_assoc, hA]; exact this
      have HT2 : Hid (Turned gi w (wr.drew.setCell ⟨gi, 1, none⟩ (.int .i64 ((A + 1 : Nat))))) := (hT.trans (Turned.drew gi wr 1)).trans (Turned.set gi _ 1 _)
      have HSr : Hid (wr.drew.cell? ⟨gs, 0, none⟩ = some (.string s) ∧ wr.drew.cell? ⟨gv, 0, none⟩ = some (.pointer (some ⟨gi, 0, none⟩)) ∧ wr.drew.cell? ⟨gi, 1, none⟩ = some (.int .i64 A)) := ⟨c1, c2, c3⟩
      have f1 : wr.drew.cell? ⟨gv, 0, none⟩ = some (.pointer (some ⟨gi, 0, none⟩)) := c2
      have f2 : wr.drew.cell? ⟨gi, 1, none⟩ = some (.int .i64 A) := c3
      have f3 : wr.drew.frozen? ⟨gi, 1, none⟩ = false := c4
      clear c1 c2 c3 c4 hI hT
      have HV : bitsN s a (k + 1) = bitsN s a k + bitN s A * 2 ^ k := by rw [← hA]; rfl
      have hv := bitsN_lt s a k
      have hb2 := bitN_lt s A
      have hAb : A < 8 * s.size := by omega
      obtain ⟨J, hJ⟩ : ∃ J, A / 8 = J := ⟨_, rfl⟩
      obtain ⟨E, hE⟩ : ∃ E, A % 8 = E := ⟨_, rfl⟩
      have hj : J < s.size := by omega
      have hE8 : E < 8 := by omega
      have hget := un_getElem? s _ hj
      have HB : bitN s A = s[J].toNat / 2 ^ E % 2 := by
        unfold bitN; rw [List.getD_eq_getElem?_getD, hJ, hE, hget]; rfl
      have hc := s[J].toNat_lt
      have b37 := ba1_8 (s[J].toNat / 2 ^ E) (Nat.lt_of_le_of_lt (Nat.div_le_self _ _) (by omega))
      rw [← HB] at b37
      have b41 := bor64 (bitsN s a k) (bitN s A) k hv (by omega) hb2
      rw [← HV] at b41
      have hp : 2 ^ k ≤ 2 ^ 16 := Nat.pow_le_pow_right (by decide) (by omega)
      have b40 : IntKind.i64.wrap ((bitN s A : Int) * 2 ^ k) = ((bitN s A * 2 ^ k : Nat) : Int) := by
        have h3 : bitN s A * 2 ^ k ≤ 1 * 2 ^ k := Nat.mul_le_mul_right _ (by omega)
        have := wrap64 (bitN s A * 2 ^ k) (by omega)
        push_cast at this ⊢; exact this
      have b38 : IntKind.i64.wrap (bitN s A : Int) = (bitN s A : Int) := wrap64 _ (by omega)
      have b29 : (A : Int) / 8 = (J : Int) := by omega
      have b35 := ba7 A (by omega)
      rw [hE] at b35
      have b36 : (s[J].toNat : Int) / 2 ^ E = ((s[J].toNat / 2 ^ E : Nat) : Int) := by push_cast; rfl
      have b46 : IntKind.i64.wrap ((A : Int) + 1) = ((A + 1 : Nat) : Int) := by rw [wrapZ _ (by omega)]; omega
      have hj' : (J : Int) < (s.size : Int) := by omega
      have hj0 : (0 : Int) ≤ (J : Int) := by omega
      have e0 : (0 : Int) ≤ (E : Int) := by omega
      have e9 : (E : Int) ≤ 8 := by omega
      have HV2 : Hid (bitsN s a (k + 1) = bitsN s a (k + 1)) := rfl
      clear hv hb2 hc HV HB hget hp hJ hE hA
      generalize s[J].toNat / 2 ^ E = Fv at *
      generalize bitN s A * 2 ^ k = G at *
      generalize bitN s A = B at *
      generalize bitsN s a k = V at *
      obtain ⟨V2, hV2⟩ : ∃ V2, bitsN s a (k + 1) = V2 := ⟨_, rfl⟩
      rw [hV2] at b41
      have HV3 : Hid (bitsN s a (k + 1) = V2) := hV2
      clear hV2 HV2
      obtain ⟨A1, hA1⟩ : ∃ A1, A + 1 = A1 := ⟨_, rfl⟩
      rw [hA1] at b46 HI2 HT2
      clear hA1
      go_wp2
      go_region_held3 (fun w' => w'.cell? ⟨gs, 0, none⟩ = some (.string s) ∧ w'.cell? ⟨gv, 0, none⟩ = some (.pointer (some ⟨gi, 0, none⟩)) ∧ w'.cell? ⟨gi, 1, none⟩ = some (.int .i64 A)) (first | exact HSr.out | assumption) (fail)
      go_wp2
      exact ⟨⟨k + 1, by omega, by go_num, by rw [HV3.out], HI2.out, HT2.out⟩, by simp [intOf]; omega⟩
    · obtain rfl : k = n := by omega
      have hlt' : ¬ (k : Int) < (k : Int) := by omega
      go_wp2
      go_ret2
      exact ⟨rfl, hI, hT⟩
end Go.Proofs.YtcoinfancoeepabDoor
