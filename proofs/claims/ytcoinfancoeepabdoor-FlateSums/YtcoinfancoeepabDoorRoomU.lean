/- An inflater's small methods, and how it is made. -/
import Derived.Test.YtcoinfancoeepabDoorNextU
import Derived.Laws.EntriesVeiled
namespace Go.Proofs.YtcoinfancoeepabDoor
open Go Go.RowKit

set_option maxRecDepth 100000 in
theorem used_p (gs gv gi : Nat) (s : ByteArray) (a : Nat) (F OUT : Value) (most : Int) (L D : Value) (ha : a ≤ 1152921504606846976) (w : World) (hI : InfAt w gs gv gi s a F OUT most L D) :
    Calls Tryd.prog 22 #[.pointer (some ⟨gi, 0, none⟩)] w fun e w' => e = .returned (.int .i64 ((a + 7) / 8 : Nat)) ∧ w' = w := by
  have c1 : w.cell? ⟨gi, 1, none⟩ = some (.int .i64 a) := hI.li.cell rfl
  have s1 : IntKind.i64.wrap ((a : Int) + 7) = ((a + 7 : Nat) : Int) := by rw [wrapZ _ (by omega)]; omega
  obtain ⟨A7, h7⟩ : ∃ x, a + 7 = x := ⟨_, rfl⟩
  rw [h7] at s1 ⊢
  have hA7 : A7 ≤ 1152921504606846983 := by omega
  have d1 : (A7 : Int) / 8 = ((A7 / 8 : Nat) : Int) := by omega
  generalize A7 / 8 = R at *
  clear hI h7
  go_enter Tryd.func22, Tryd.ntmps22
  go_wp2
  go_ret
  exact ⟨rfl, rfl⟩
set_option maxRecDepth 100000 in
theorem room_p (gs gv gi : Nat) (s : ByteArray) (a n cap : Nat) (p : Option Addr) (F : Value) (most : Nat) (L D : Value) (hm : most ≤ 1152921504606846976) (hn : n ≤ most) (w : World) (hI : InfAt w gs gv gi s a F (.slice p n cap) most L D) :
    Calls Tryd.prog 64 #[.pointer (some ⟨gi, 0, none⟩)] w fun e w' => e = .returned (.int .i64 (most - n : Nat)) ∧ w' = w.drew := by
  have c1 : w.cell? ⟨gi, 4, none⟩ = some (.int .i64 most) := hI.li.cell rfl
  have c2 : w.cell? ⟨gi, 3, none⟩ = some (.slice p n cap) := hI.li.cell rfl
  have HS0 : Hid (w.drew.cell? ⟨gi, 4, none⟩ = some (.int .i64 most) ∧ w.drew.cell? ⟨gi, 3, none⟩ = some (.slice p n cap)) := ⟨c1, c2⟩
  have s1 : IntKind.i64.wrap ((most : Int) - (n : Int)) = ((most - n : Nat) : Int) := by rw [wrapZ _ (by omega)]; omega
  generalize most - n = R at *
  clear hI c1 c2
  go_enter Tryd.func64, Tryd.ntmps64
  go_wp2
  go_region_held3 (fun w' => w'.cell? ⟨gi, 4, none⟩ = some (.int .i64 most) ∧ w'.cell? ⟨gi, 3, none⟩ = some (.slice p n cap)) (first | exact HS0.out | assumption) (fail)
  go_wp2
  go_ret
  exact ⟨rfl, rfl⟩
set_option maxRecDepth 100000 in
theorem newInf_p (s : ByteArray) (most : Nat) (w : World) :
    Calls Tryd.prog 20 #[.string s, .int .i64 most] w fun e w' => e = .returned (.pointer (some ⟨w.heap.size + 1, 0, none⟩)) ∧ InfAt w' w.heap.size (w.heap.size + 2) (w.heap.size + 1) s 0 (bitsF w.heap.size (w.heap.size + 2)) (.slice none 0 0) most (.pointer none) (.pointer none) ∧ Below w.heap.size w w' := by
  have hm0 : (0 : Int) ≤ (most : Int) := by omega
  have z1 : (w.alloc (.cells #[.string s] 9)).heap.size = w.heap.size + 1 := by simp
  have z2 : ∀ F, ((w.alloc (.cells #[.string s] 9)).alloc (.cells #[.string s, .int .i64 0, F, .slice none 0 0, .int .i64 most, .pointer none, .pointer none] 48)).heap.size = w.heap.size + 2 := fun F => by simp
  have LS : ∀ F, Lies (((w.alloc (.cells #[.string s] 9)).alloc (.cells #[.string s, .int .i64 0, F, .slice none 0 0, .int .i64 most, .pointer none, .pointer none] 48)).alloc (.cells #[.pointer (some ⟨w.heap.size + 1, 0, none⟩)] 41)) w.heap.size 9 #[.string s] := fun F => ((Lies.new w _ _).alloc _).alloc _
  have LI : ∀ F, Lies (((w.alloc (.cells #[.string s] 9)).alloc (.cells #[.string s, .int .i64 0, F, .slice none 0 0, .int .i64 most, .pointer none, .pointer none] 48)).alloc (.cells #[.pointer (some ⟨w.heap.size + 1, 0, none⟩)] 41)) (w.heap.size + 1) 48 #[.string s, .int .i64 0, F, .slice none 0 0, .int .i64 most, .pointer none, .pointer none] := fun F => by
    have := (Lies.new (w.alloc (.cells #[.string s] 9)) 48 #[.string s, .int .i64 0, F, .slice none 0 0, .int .i64 most, .pointer none, .pointer none]).alloc (.cells #[.pointer (some ⟨w.heap.size + 1, 0, none⟩)] 41)
    rw [z1] at this; exact this
  have LV : ∀ F, Lies (((w.alloc (.cells #[.string s] 9)).alloc (.cells #[.string s, .int .i64 0, F, .slice none 0 0, .int .i64 most, .pointer none, .pointer none] 48)).alloc (.cells #[.pointer (some ⟨w.heap.size + 1, 0, none⟩)] 41)) (w.heap.size + 2) 41 #[.pointer (some ⟨w.heap.size + 1, 0, none⟩)] := fun F => by
    have := Lies.new ((w.alloc (.cells #[.string s] 9)).alloc (.cells #[.string s, .int .i64 0, F, .slice none 0 0, .int .i64 most, .pointer none, .pointer none] 48)) 41 #[.pointer (some ⟨w.heap.size + 1, 0, none⟩)]
    rw [z2 F] at this; exact this
  have HFIN : Hid (∀ F, InfAt (((w.alloc (.cells #[.string s] 9)).alloc (.cells #[.string s, .int .i64 0, F, .slice none 0 0, .int .i64 most, .pointer none, .pointer none] 48)).alloc (.cells #[.pointer (some ⟨w.heap.size + 1, 0, none⟩)] 41)) w.heap.size (w.heap.size + 2) (w.heap.size + 1) s 0 F (.slice none 0 0) most (.pointer none) (.pointer none)) := fun F => ⟨LS F, LV F, LI F, by omega, by omega⟩
  have HB : Hid (∀ F, Below w.heap.size w (((w.alloc (.cells #[.string s] 9)).alloc (.cells #[.string s, .int .i64 0, F, .slice none 0 0, .int .i64 most, .pointer none, .pointer none] 48)).alloc (.cells #[.pointer (some ⟨w.heap.size + 1, 0, none⟩)] 41))) := fun F => (((Below.refl _ w).alloc (Nat.le_refl _) _).alloc (by rw [z1]; omega) _).alloc (by rw [z2 F]; omega) _
  have e2 : w.heap.size + 1 + 1 = w.heap.size + 2 := rfl
  have c2 : (((w.alloc (.cells #[.string s] 9)).alloc (.cells #[.string s, .int .i64 0, .nilFunc, .slice none 0 0, .int .i64 most, .pointer none, .pointer none] 48)).alloc (.cells #[.pointer (some ⟨w.heap.size + 1, 0, none⟩)] 41)).cell? ⟨w.heap.size + 1, 2, none⟩ = some .nilFunc := (LI _).cell rfl
  have f2 := (LI .nilFunc).frozen 2
  clear LS LI LV z1 z2
  go_enter Tryd.func20, Tryd.ntmps20
  go_wp2
  go_ret
  exact ⟨rfl, HFIN.out _, HB.out _⟩
end Go.Proofs.YtcoinfancoeepabDoor
