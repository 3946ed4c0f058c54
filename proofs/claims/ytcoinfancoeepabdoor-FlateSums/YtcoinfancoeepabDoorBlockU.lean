/- The known text, inflated. -/
import Derived.Test.YtcoinfancoeepabDoorCodedU
namespace Go.Proofs.YtcoinfancoeepabDoor
open Go Go.RowKit

theorem InfAt.setL {W : World} {gs gv gi : Nat} {s : ByteArray} {a : Nat} {F OUT : Value} {most : Int} {L D : Value} (h : InfAt W gs gv gi s a F OUT most L D) (v : Value) : InfAt (W.setCell ⟨gi, 5, none⟩ v) gs gv gi s a F OUT most v D :=
  ⟨h.bs'.other _ (fun e => h.n1 e.symm), h.bv.other _ (fun e => h.n2 e.symm), h.li.set _, h.n1, h.n2⟩
theorem InfAt.setD {W : World} {gs gv gi : Nat} {s : ByteArray} {a : Nat} {F OUT : Value} {most : Int} {L D : Value} (h : InfAt W gs gv gi s a F OUT most L D) (v : Value) : InfAt (W.setCell ⟨gi, 6, none⟩ v) gs gv gi s a F OUT most L v :=
  ⟨h.bs'.other _ (fun e => h.n1 e.symm), h.bv.other _ (fun e => h.n2 e.symm), h.li.set _, h.n1, h.n2⟩
theorem head3 {s : ByteArray} (h : (un s).take 3 = [75, 4, 0]) : bitsN s 0 3 = 3 := by
  have e : bitsN s 0 3 = 0 + bitN s (0 + 0) * 2 ^ 0 + bitN s (0 + 1) * 2 ^ 1 + bitN s (0 + 2) * 2 ^ 2 := rfl
  rw [e, bit_s0 h _ (by omega), bit_s0 h _ (by omega), bit_s0 h _ (by omega)]
  decide
set_option maxRecDepth 100000 in
set_option maxHeartbeats 4000000 in
theorem block_k (gs gv gi : Nat) {s : ByteArray} (h : (un s).take 3 = [75, 4, 0]) (hs : s.size ≤ 140737488351232) (hs3 : 3 ≤ s.size) (w : World) (hI : InfAt w gs gv gi s 0 (bitsF gs gv) (.slice none 0 0) 1 (.pointer none) (.pointer none)) :
    Calls Tryd.prog 21 #[.pointer (some ⟨gi, 0, none⟩)] w fun e w' => e = .returned (.tuple #[.bool true, .nilIface]) ∧ (∃ go cap L D, InfAt w' gs gv gi s 18 (bitsF gs gv) (.slice (some ⟨go, 0, none⟩) 1 cap) 1 L D ∧ w'.cell? ⟨go, 0, none⟩ = some (.int .u8 97)) ∧ Turned gi w w' := by
  have hgi := hI.li.lt
  have cF : w.cell? ⟨gi, 2, none⟩ = some (.func (.func 36) #[] #[.pointer (some ⟨gs, 0, none⟩), .pointer (some ⟨gv, 0, none⟩)]) := hI.li.cell rfl
  have HB3 : Hid (Calls Tryd.prog 36 #[.int .i64 3, .pointer (some ⟨gs, 0, none⟩), .pointer (some ⟨gv, 0, none⟩)] w fun e w' => e = .returned (.tuple #[.int .i64 3, .nilIface]) ∧ InfAt w' gs gv gi s 3 (bitsF gs gv) (.slice none 0 0) 1 (.pointer none) (.pointer none) ∧ Turned gi w w') := by
    have := bits_p 3 gs gv gi s 0 (bitsF gs gv) (.slice none 0 0) 1 (.pointer none) (.pointer none) hs (by omega) (by omega) w hI
    rw [head3 h] at this; exact this
  have HCO : Hid (∀ g1 sy g2 W, CodeAt W g1 sy fix1 → InfAt W gs gv gi s 3 (bitsF gs gv) (.slice none 0 0) 1 (.pointer (some ⟨g1, 0, none⟩)) (.pointer (some ⟨g2, 0, none⟩)) → g1 ≠ gi → sy ≠ gi → Calls Tryd.prog 39 #[.pointer (some ⟨gi, 0, none⟩), .pointer (some ⟨g1, 0, none⟩), .pointer (some ⟨g2, 0, none⟩)] W fun e w' => e = .returned .nilIface ∧ (∃ go cap, InfAt w' gs gv gi s 18 (bitsF gs gv) (.slice (some ⟨go, 0, none⟩) 1 cap) 1 (.pointer (some ⟨g1, 0, none⟩)) (.pointer (some ⟨g2, 0, none⟩)) ∧ w'.cell? ⟨go, 0, none⟩ = some (.int .u8 97) ∧ go ≠ gi) ∧ Turned gi W w') := fun g1 sy g2 W hC hW n1 n2 => coded_k g1 sy g2 gs gv gi h _ _ hs hs3 W hC hW n1 n2
  clear hI
  go_enter Tryd.func21, Tryd.ntmps21
  go_wp2_with (first
    | (go_at_call 36; refine HB3.out.mono ?_; rintro e w2 ⟨rfl, hI2, hT2⟩; have c5 : w2.cell? ⟨gi, 5, none⟩ = some (.pointer none) := hI2.li.cell rfl; have HI2 : Hid (InfAt w2 gs gv gi s 3 (bitsF gs gv) (.slice none 0 0) 1 (.pointer none) (.pointer none)) := hI2; clear hI2)
    | (go_at_call 38; refine (fixed_p _).mono ?_; rintro e w3 ⟨g1, s1, g2, s2, rfl, hC1, hC2, p1, p2, p3, p4, b3⟩; have HI3 : Hid (InfAt w3 gs gv gi s 3 (bitsF gs gv) (.slice none 0 0) 1 (.pointer none) (.pointer none)) := HI2.out.below b3; have d5 : w3.cell? ⟨gi, 5, none⟩ = some (.pointer none) := HI3.out.li.cell rfl; have d6 : w3.cell? ⟨gi, 6, none⟩ = some (.pointer none) := HI3.out.li.cell rfl; have e5 := HI3.out.li.frozen 5; have e6 := HI3.out.li.frozen 6))
  have hgi2 := HI2.out.li.lt
  have n1 : g1 ≠ gi := by omega
  have n2 : s1 ≠ gi := by omega
  have HI4 : InfAt ((w3.setCell ⟨gi, 5, none⟩ (.pointer (some ⟨g1, 0, none⟩))).setCell ⟨gi, 6, none⟩ (.pointer (some ⟨g2, 0, none⟩))).drew gs gv gi s 3 (bitsF gs gv) (.slice none 0 0) 1 (.pointer (some ⟨g1, 0, none⟩)) (.pointer (some ⟨g2, 0, none⟩)) := ((HI3.out.setL _).setD _).drew 1
  have HC4 : CodeAt ((w3.setCell ⟨gi, 5, none⟩ (.pointer (some ⟨g1, 0, none⟩))).setCell ⟨gi, 6, none⟩ (.pointer (some ⟨g2, 0, none⟩))).drew g1 s1 fix1 := by
    have := (hC1.other gi 5 (.pointer (some ⟨g1, 0, none⟩)) (fun e => n1 e.symm) (fun e => n2 e.symm)).other gi 6 (.pointer (some ⟨g2, 0, none⟩)) (fun e => n1 e.symm) (fun e => n2 e.symm)
    exact ⟨this.code, this.syms⟩
  have HT4 : Hid (Turned gi w ((w3.setCell ⟨gi, 5, none⟩ (.pointer (some ⟨g1, 0, none⟩))).setCell ⟨gi, 6, none⟩ (.pointer (some ⟨g2, 0, none⟩))).drew) := ((((hT2.trans (Turned.of b3)).trans (Turned.set gi _ 5 _)).trans (Turned.set gi _ 6 _)).trans (Turned.drew gi _ 1))
  clear c5 cF d5 d6 e5 e6 hC1 hC2 hT2 b3 HI3 HI2 HB3
  generalize (w3.setCell ⟨gi, 5, none⟩ (.pointer (some ⟨g1, 0, none⟩))).setCell ⟨gi, 6, none⟩ (.pointer (some ⟨g2, 0, none⟩)) = W4 at *
  have HS0 : Hid (W4.drew.cell? ⟨gi, 5, none⟩ = some (.pointer (some ⟨g1, 0, none⟩)) ∧ W4.drew.cell? ⟨gi, 6, none⟩ = some (.pointer (some ⟨g2, 0, none⟩))) := ⟨HI4.li.cell rfl, HI4.li.cell rfl⟩
  have HI5 : Hid (InfAt W4.drew gs gv gi s 3 (bitsF gs gv) (.slice none 0 0) 1 (.pointer (some ⟨g1, 0, none⟩)) (.pointer (some ⟨g2, 0, none⟩))) := HI4
  clear HI4
  go_region_held3 (fun w' => w'.cell? ⟨gi, 5, none⟩ = some (.pointer (some ⟨g1, 0, none⟩)) ∧ w'.cell? ⟨gi, 6, none⟩ = some (.pointer (some ⟨g2, 0, none⟩)))
    (first | exact HS0.out | exact ⟨hI5.li.cell rfl, hI5.li.cell rfl⟩)
    (first | (go_at_call 39; with_reducible refine (HCO.out g1 s1 g2 _ HC4 HI5.out n1 n2).mono ?_; rintro e w5 ⟨rfl, ⟨go, cap, hI5, hgo, hne⟩, hT5⟩))
  go_wp2
  go_ret2
  exact ⟨rfl, ⟨go, cap, _, _, hI5, hgo⟩, HT4.out.trans hT5⟩
end Go.Proofs.YtcoinfancoeepabDoor
