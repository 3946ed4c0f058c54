/- The known text, inflated. -/
import Derived.Test.YtcoinfancoeepabDoorBlockU
namespace Go.Proofs.YtcoinfancoeepabDoor
open Go Go.RowKit

set_option maxRecDepth 100000 in
set_option maxHeartbeats 4000000 in
theorem inflate_k {s : ByteArray} (h : (un s).take 3 = [75, 4, 0]) (hs : s.size ≤ 140737488351232) (hs3 : 3 ≤ s.size) (w : World) :
    Calls Tryd.prog 9 #[.string s, .int .i64 1] w fun e w' => e = .returned (.tuple #[.string ⟨#[97]⟩, .int .i64 3, .nilIface]) ∧ Below w.heap.size w w' := by
  have HNI : Hid (Calls Tryd.prog 20 #[.string s, .int .i64 1] w fun e w' => e = .returned (.pointer (some ⟨w.heap.size + 1, 0, none⟩)) ∧ InfAt w' w.heap.size (w.heap.size + 2) (w.heap.size + 1) s 0 (bitsF w.heap.size (w.heap.size + 2)) (.slice none 0 0) 1 (.pointer none) (.pointer none) ∧ Below w.heap.size w w') := newInf_p s 1 w
  obtain ⟨gi, hgi⟩ : ∃ g, w.heap.size + 1 = g := ⟨_, rfl⟩
  obtain ⟨gv, hgv⟩ : ∃ g, w.heap.size + 2 = g := ⟨_, rfl⟩
  obtain ⟨gs, hgs⟩ : ∃ g, w.heap.size = g := ⟨_, rfl⟩
  rw [hgi, hgv] at HNI
  have HNI2 : Hid (Calls Tryd.prog 20 #[.string s, .int .i64 1] w fun e w' => e = .returned (.pointer (some ⟨gi, 0, none⟩)) ∧ InfAt w' gs gv gi s 0 (bitsF gs gv) (.slice none 0 0) 1 (.pointer none) (.pointer none) ∧ Below w.heap.size w w') := by rw [hgs] at HNI ⊢; exact HNI
  clear HNI
  have hge : w.heap.size ≤ gi := by omega
  have HBK : Hid (∀ W, InfAt W gs gv gi s 0 (bitsF gs gv) (.slice none 0 0) 1 (.pointer none) (.pointer none) → Calls Tryd.prog 21 #[.pointer (some ⟨gi, 0, none⟩)] W fun e w' => e = .returned (.tuple #[.bool true, .nilIface]) ∧ (∃ go cap L D, InfAt w' gs gv gi s 18 (bitsF gs gv) (.slice (some ⟨go, 0, none⟩) 1 cap) 1 L D ∧ w'.cell? ⟨go, 0, none⟩ = some (.int .u8 97)) ∧ Turned gi W w') := fun W hW => block_k gs gv gi h hs hs3 W hW
  clear hgi hgv hgs
  go_enter Tryd.func9, Tryd.ntmps9
  go_wp2_with (go_at_call 20; refine HNI2.out.mono ?_; rintro e w1 ⟨rfl, hI1, B1⟩)
  go_loopw [8] (fun l wr => (l = .bool false ∧ InfAt wr gs gv gi s 0 (bitsF gs gv) (.slice none 0 0) 1 (.pointer none) (.pointer none) ∧ Below w.heap.size w wr) ∨ (l = .bool true ∧ (∃ go cap L D, InfAt wr gs gv gi s 18 (bitsF gs gv) (.slice (some ⟨go, 0, none⟩) 1 cap) 1 L D ∧ wr.cell? ⟨go, 0, none⟩ = some (.int .u8 97)) ∧ Below w.heap.size w wr)) (fun l _ => match l with | .bool false => 1 | _ => 0)
  case atStart => exact .inl ⟨rfl, hI1, B1⟩
  case round =>
    clear hI1 B1 HNI2
    obtain ⟨rfl, hI, hB⟩ | ⟨rfl, ⟨go, cap, L, D, hI, hgo⟩, hB⟩ := hrel
    · go_wp2_with (go_at_call 21; refine (HBK.out _ hI).mono ?_; rintro e w2 ⟨rfl, hR2, hT2⟩)
      exact ⟨.inr ⟨rfl, hR2, Turned.below hB hT2 hge⟩, by decide⟩
    · have c3 : wr.cell? ⟨gi, 3, none⟩ = some (.slice (some ⟨go, 0, none⟩) 1 cap) := hI.li.cell rfl
      have HS0 : Hid (wr.drew.cell? ⟨gi, 3, none⟩ = some (.slice (some ⟨go, 0, none⟩) 1 cap) ∧ wr.drew.cell? ⟨go, 0, none⟩ = some (.int .u8 97)) := ⟨c3, hgo⟩
      have HU : Hid (Calls Tryd.prog 22 #[.pointer (some ⟨gi, 0, none⟩)] wr.drew fun e w' => e = .returned (.int .i64 3) ∧ w' = wr.drew) := used_p gs gv gi s 18 (bitsF gs gv) _ 1 L D (by omega) wr.drew (hI.drew 1)
      have hcv : ∀ W : World, W.cell? ⟨go, 0, none⟩ = some (.int .u8 97) → (convert 34 9 (.slice (some ⟨go, 0, none⟩) 1 cap)).run Tryd.prog W = .ok (.string ⟨#[97]⟩) W := fun W hc =>
        run_convert_bytes_back W 34 9 5 ⟨go, 0, none⟩ cap [97] Tryd.underlying34 Tryd.underlying5 Tryd.underlying9 (fun j hj => by
          obtain rfl : j = 0 := by simp at hj; exact hj
          exact hc)
      clear c3 hgo hI HBK
      go_wp2
      go_region_held3 (fun w' => w'.cell? ⟨gi, 3, none⟩ = some (.slice (some ⟨go, 0, none⟩) 1 cap) ∧ w'.cell? ⟨go, 0, none⟩ = some (.int .u8 97))
        (first | exact HS0.out | assumption)
        (first | (go_at_call 22; with_reducible refine HU.out.mono ?_; rintro e w5 ⟨rfl, rfl⟩))
      go_wp2
      go_ret3
      exact ⟨rfl, below_drawn hB 1⟩
end Go.Proofs.YtcoinfancoeepabDoor
