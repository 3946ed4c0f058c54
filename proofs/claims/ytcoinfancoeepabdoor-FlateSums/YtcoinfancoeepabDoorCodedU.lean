/- The block of the known text: one byte, and the end. -/
import Derived.Test.YtcoinfancoeepabDoorFixK
import Derived.Test.YtcoinfancoeepabDoorRoomU
import Derived.Laws.OwnMore
import Derived.Maps.AppendAt
namespace Go.Proofs.YtcoinfancoeepabDoor
open Go Go.RowKit

theorem InfAt.turned {b : Nat} {W W2 : World} {gs gv gi : Nat} {s : ByteArray} {a : Nat} {F OUT : Value} {most : Int} {L D : Value} (h : InfAt W gs gv gi s a F OUT most L D) (k : Turned b W W2) (h1 : gs ≠ b) (h2 : gv ≠ b) (h3 : gi ≠ b) : InfAt W2 gs gv gi s a F OUT most L D :=
  ⟨h.bs'.turned k h1, h.bv.turned k h2, h.li.turned k h3, h.n1, h.n2⟩
theorem InfAt.setOut {W : World} {gs gv gi : Nat} {s : ByteArray} {a : Nat} {F OUT : Value} {most : Int} {L D : Value} (h : InfAt W gs gv gi s a F OUT most L D) (v : Value) : InfAt (W.setCell ⟨gi, 3, none⟩ v) gs gv gi s a F v most L D :=
  ⟨h.bs'.other _ (fun e => h.n1 e.symm), h.bv.other _ (fun e => h.n2 e.symm), h.li.set _, h.n1, h.n2⟩
theorem byte_info : (Tryd.prog.info? 5).map (fun i => (i.zero, i.size, i.bytes)) = some (some (.int .u8 0), 1, 1) := by kernel_rfl
theorem own_one {w1 : World} {B : Nat} {v x : Value} (h : w1.ownsRow B 5 1 v (0 + 1) ([] ++ [x])) : ∃ go cap, v = .slice (some ⟨go, 0, none⟩) 1 cap ∧ B ≤ go ∧ w1.cell? ⟨go, 0, none⟩ = some x := by
  have h2 := h.2
  rcases h2 with ⟨_, h0⟩ | ⟨g, cap, cur, rfl, hg, hgb, _⟩
  · exact absurd h0 (by decide)
  · exact ⟨g, cap, rfl, hg, by have := h.cells (g := g) rfl 0 x rfl; simpa [Addr.add] using this⟩
set_option maxRecDepth 100000 in
set_option maxHeartbeats 4000000 in
theorem coded_k (g1 sy g2 gs gv gi : Nat) {s : ByteArray} (h : (un s).take 3 = [75, 4, 0]) (L D : Value) (hs : s.size ≤ 140737488351232) (hs3 : 3 ≤ s.size) (w : World) (hC : CodeAt w g1 sy fix1) (hI : InfAt w gs gv gi s 3 (bitsF gs gv) (.slice none 0 0) 1 L D) (n1 : g1 ≠ gi) (n2 : sy ≠ gi) :
    Calls Tryd.prog 39 #[.pointer (some ⟨gi, 0, none⟩), .pointer (some ⟨g1, 0, none⟩), .pointer (some ⟨g2, 0, none⟩)] w fun e w' => e = .returned .nilIface ∧ (∃ go cap, InfAt w' gs gv gi s 18 (bitsF gs gv) (.slice (some ⟨go, 0, none⟩) 1 cap) 1 L D ∧ w'.cell? ⟨go, 0, none⟩ = some (.int .u8 97) ∧ go ≠ gi) ∧ Turned gi w w' := by
  obtain ⟨i0, hi, z0, z1, z2⟩ := info_parts byte_info
  have hgi := hI.li.lt
  have HBF : Hid (bitsF gs gv = .func (.func 36) #[] #[.pointer (some ⟨gs, 0, none⟩), .pointer (some ⟨gv, 0, none⟩)]) := rfl
  have hT0 : Turned gi w w := Turned.refl gi w
  go_enter Tryd.func39, Tryd.ntmps39
  go_wp2
  go_loopw [] (fun wr => CodeAt wr g1 sy fix1 ∧ Turned gi w wr ∧ (InfAt wr gs gv gi s 3 (bitsF gs gv) (.slice none 0 0) 1 L D ∨ ∃ go cap, InfAt wr gs gv gi s 11 (bitsF gs gv) (.slice (some ⟨go, 0, none⟩) 1 cap) 1 L D ∧ wr.cell? ⟨go, 0, none⟩ = some (.int .u8 97) ∧ go ≠ gi)) (fun wr => match wr.cell? ⟨gi, 1, none⟩ with | some (.int _ a) => 24 - a.toNat | _ => 0)
  case atStart => exact ⟨hC, hT0, .inl hI⟩
  case round =>
    clear hC hT0 hI
    obtain ⟨hC, hT, hI | ⟨go, cap, hI, hgo, hne⟩⟩ := hrel
    · have cF : wr.cell? ⟨gi, 2, none⟩ = some (bitsF gs gv) := hI.li.cell rfl
      have HM1 : Hid (wr.cell? ⟨gi, 1, none⟩ = some (.int .i64 3)) := hI.li.cell rfl
      have HN : Hid (Calls Tryd.prog 66 #[.pointer (some ⟨g1, 0, none⟩), bitsF gs gv] wr fun e w' => e = .returned (.tuple #[.int .i64 97, .nilIface]) ∧ InfAt w' gs gv gi s 11 (bitsF gs gv) (.slice none 0 0) 1 L D ∧ Turned gi wr w') := next_97 g1 sy gs gv gi h _ 1 L D hs hs3 wr hC hI n1 n2
      have HRM : Hid (∀ W, InfAt W gs gv gi s 11 (bitsF gs gv) (.slice none 0 0) 1 L D → Calls Tryd.prog 64 #[.pointer (some ⟨gi, 0, none⟩)] W fun e w' => e = .returned (.int .i64 1) ∧ w' = W.drew) := fun W hW => room_p gs gv gi s 11 0 0 none (bitsF gs gv) 1 L D (by omega) (by omega) W hW
      have HC : Hid (CodeAt wr g1 sy fix1) := hC
      have HT : Hid (Turned gi w wr) := hT
      clear hI hC hT
      go_wp2_with (first
        | (go_at_call 66; refine HN.out.mono ?_; rintro e w2 ⟨rfl, hI2, hT2⟩; have c3 : w2.cell? ⟨gi, 3, none⟩ = some (.slice none 0 0) := hI2.li.cell rfl; have HI2 : Hid (InfAt w2 gs gv gi s 11 (bitsF gs gv) (.slice none 0 0) 1 L D) := hI2; clear hI2)
        | (go_at_call 64; refine (HRM.out _ HI2.out).mono ?_; rintro e w3 ⟨rfl, rfl⟩)
        | (at_builtin; refine wpList_append_own _ rfl _ _ 34 rfl w2.heap.size 5 i0 (.int .u8 0) 1 1 Tryd.underlying34 hi z0 z1 z2 rfl (by decide) _ _ _ rfl (World.ownsRow_nil _ _ _ _) ⟨w2.heap.size, 0, none⟩ 1 1 [.int .u8 97] rfl rfl (cell_one_new _ _ _) (by simp [Value.oneCell']) (by unfold maxLen; simp) (by simp) (by simp) ?_; intro v1 w1 hown1 hgrow1 _; obtain ⟨go, cap, rfl, hge, hcell⟩ := own_one hown1; have hb1 : Below w2.heap.size w2 w1 := (((Below.refl _ w2).alloc (Nat.le_refl _) _).drew).grown hgrow1 (by simp) (fun j hj => by cases hj); clear hgrow1 hown1; have HI3 : Hid (InfAt w1 gs gv gi s 11 (bitsF gs gv) (.slice none 0 0) 1 L D) := HI2.out.below hb1; have c3' : w1.cell? ⟨gi, 3, none⟩ = some (.slice none 0 0) := HI3.out.li.cell rfl; have f3' : w1.frozen? ⟨gi, 3, none⟩ = false := HI3.out.li.frozen 3))
      have hgi2 := HI2.out.li.lt
      have hne : go ≠ gi := by omega
      have HI4 := HI3.out.setOut (.slice (some ⟨go, 0, none⟩) 1 cap)
      have m2 : (w1.setCell ⟨gi, 3, none⟩ (.slice (some ⟨go, 0, none⟩) 1 cap)).cell? ⟨gi, 1, none⟩ = some (.int .i64 11) := HI4.li.cell rfl
      have hc2 : (w1.setCell ⟨gi, 3, none⟩ (.slice (some ⟨go, 0, none⟩) 1 cap)).cell? ⟨go, 0, none⟩ = some (.int .u8 97) := by
        rw [World.cell?_setCell_far _ _ _ _ (fun e => hne e.symm)]; exact hcell
      refine ⟨⟨((HC.out.turned hT2 n1 n2).below hb1).other _ _ _ (fun e => n1 e.symm) (fun e => n2 e.symm), ((HT.out.trans hT2).trans (Turned.of hb1)).trans (Turned.set gi _ 3 _), .inr ⟨go, cap, HI4, hc2, hne⟩⟩, ?_⟩
      rw [m2, HM1.out]; decide
    · have cF : wr.cell? ⟨gi, 2, none⟩ = some (bitsF gs gv) := hI.li.cell rfl
      have HN : Hid (Calls Tryd.prog 66 #[.pointer (some ⟨g1, 0, none⟩), bitsF gs gv] wr fun e w' => e = .returned (.tuple #[.int .i64 256, .nilIface]) ∧ InfAt w' gs gv gi s 18 (bitsF gs gv) (.slice (some ⟨go, 0, none⟩) 1 cap) 1 L D ∧ Turned gi wr w') := next_256 g1 sy gs gv gi h _ 1 L D hs hs3 wr hC hI n1 n2
      have HGO : Hid (∀ W, Turned gi wr W → W.cell? ⟨go, 0, none⟩ = some (.int .u8 97)) := fun W k => by
        have hlt := World.block_lt_of_cell? wr _ hgo
        exact (World.cell?_of_block (w := wr) (k.block go hlt (fun e => hne (Option.some.inj e)))).trans hgo
      have HT : Hid (Turned gi w wr) := hT
      clear hI hC hT
      go_wp2_with (go_at_call 66; refine HN.out.mono ?_; rintro e w2 ⟨rfl, hI2, hT2⟩)
      go_ret
      exact ⟨rfl, ⟨go, cap, hI2, HGO.out w2 hT2, hne⟩, HT.out.trans hT2⟩
end Go.Proofs.YtcoinfancoeepabDoor
