/- slices.Sorted(maps.Keys(..)) of a node's children: its names in their order. -/
import Derived.Test.YtcefgnjgcnboeaaGreatDoorIterS
import Derived.Test.YtcefgnjgcnboeaaGreatDoorRndW
namespace Go.Proofs.YtcefgnjgcnboeaaGreatDoor
open Go Go.RowKit Go.Maps Go.Sort Go.Shelf

theorem sorts_c (m : Nat) : AnyZ.SortsIn Tryz.prog Tryz.sorted65_ren Fence.wide m :=
  ⟨fun blk off cap ss W hH hblk hsz => callsIn_wide.2 (AnyM.slices_Sort_string Tryz.sort93 blk off cap ss W hH hblk hsz),
   fun p cap W => callsIn_wide.2 (AnyM.slices_Sort_string_none Tryz.sort93 p cap W)⟩

theorem maps_keys_c (mb : Option Nat) (W : World) : CallsIn Fence.wide 5 Tryz.prog 66 #[.map mb] W fun e w' => e = .returned (.func (.func 94) #[] #[.pointer (some ⟨W.heap.size, 0, none⟩)]) ∧ w' = W.alloc (.cells #[.map mb] 128) :=
  AnyZ.keys_in Tryz.keys66 Fence.wide 5 trivial rfl mb W

set_option maxHeartbeats 1000000 in
theorem sorted_keys_c {H : Type} (b nn : Nat) (D0 : DataW H) (R : Value → Option (DataW H × List MemPlace)) (w : World) (hown : w.ownsMap Tryz.prog 9 R b nn D0) (hmax : Maps.size D0 ≤ maxLen) (hbytes : Maps.size D0 * 16 ≤ 140737488355328) :
    CallsIn Fence.wide 5 Tryz.prog 65 #[.func (.func 94) #[] #[.pointer (some ⟨w.heap.size, 0, none⟩)]] (w.alloc (.cells #[.map (some b)] 128)) fun e w' => ∃ (v : Value) (ss : List (List UInt8)), e = .returned v ∧ ss.Perm (strKeys D0) ∧
      w'.ownsRow (w.alloc (.cells #[.map (some b)] 128)).heap.size 9 1 v ss.length ((ss.mergeSort (fun x y => decide (x ≤ y))).map encStr) ∧ (v = .slice none 0 0 ↔ ss = []) ∧ Below (w.alloc (.cells #[.map (some b)] 128)).heap.size (w.alloc (.cells #[.map (some b)] 128)) w' := by
  have hbl := hown.lt
  have hseq : SeqGives Fence.wide 2 Tryz.prog 94 #[.pointer (some ⟨w.heap.size, 0, none⟩)] encStr (fun ss => ss.Perm (strKeys D0)) (Maps.size D0) (w.alloc (.cells #[.map (some b)] 128)) :=
    AnyZ.keys_gives (ρ := Tryz.keys66_ren) { Tryz.keys66 with } Fence.wide _ trivial rfl (by omega) w.heap.size b nn D0 _ (by simp) (by simp) (by
      obtain ⟨es, clock, hb, Ft, hs, hD⟩ := hown
      exact ⟨es, clock, (Below.heap_alloc _ _ b hbl).trans hb, Ft, hs, hD⟩)
  exact AnyZ.sorted_in Tryz.sorted65 Fence.wide 5 trivial trivial trivial trivial rfl (by omega) (sorts_c _) (enters_of Tryz.func93 (by kernel_rfl) rfl) 94 #[.pointer (some ⟨w.heap.size, 0, none⟩)] trivial (enters_of Tryz.func94 (by kernel_rfl) rfl) _ _ hmax hbytes _ hseq

set_option maxHeartbeats 1000000 in
theorem sorted_nil_c (w : World) :
    CallsIn Fence.wide 5 Tryz.prog 65 #[.func (.func 94) #[] #[.pointer (some ⟨w.heap.size, 0, none⟩)]] (w.alloc (.cells #[.map none] 128)) fun e w' => ∃ (v : Value) (ss : List (List UInt8)), e = .returned v ∧ ss = [] ∧
      w'.ownsRow (w.alloc (.cells #[.map none] 128)).heap.size 9 1 v ss.length ((ss.mergeSort (fun x y => decide (x ≤ y))).map encStr) ∧ (v = .slice none 0 0 ↔ ss = []) ∧ Below (w.alloc (.cells #[.map none] 128)).heap.size (w.alloc (.cells #[.map none] 128)) w' := by
  have hseq : SeqGives Fence.wide 2 Tryz.prog 94 #[.pointer (some ⟨w.heap.size, 0, none⟩)] encStr (fun ss : List (List UInt8) => ss = []) 0 (w.alloc (.cells #[.map none] 128)) :=
    AnyZ.keys_gives_nil (ρ := Tryz.keys66_ren) { Tryz.keys66 with } Fence.wide _ trivial rfl w.heap.size _ (by simp) (by simp)
  exact AnyZ.sorted_in Tryz.sorted65 Fence.wide 5 trivial trivial trivial trivial rfl (by omega) (sorts_c _) (enters_of Tryz.func93 (by kernel_rfl) rfl) 94 #[.pointer (some ⟨w.heap.size, 0, none⟩)] trivial (enters_of Tryz.func94 (by kernel_rfl) rfl) _ 0 (Nat.zero_le _) (by omega) _ hseq

theorem wide_any {n m : Nat} {P : Program} {f : Nat} {args : Array Value} {w : World} {R : Ending → World → Prop} (h : CallsIn Fence.wide n P f args w R) : CallsIn Fence.wide m P f args w R := callsIn_wide.2 (callsIn_wide.1 h)
theorem keys_c (n : Nat) (o : Option Nat) (W : World) : CallsIn Fence.wide n Tryz.prog 66 #[.map o] W fun e w' => e = .returned (.func (.func 94) #[] #[.pointer (some ⟨W.heap.size, 0, none⟩)]) ∧ w' = W.alloc (.cells #[.map o] 128) :=
  wide_any (maps_keys_c o W)
/-- The names in their order. -/
def Ordered (f : List UInt8 → Option Nat) (ys : List (List UInt8)) : Prop := ys.Pairwise (· < ·) ∧ (∀ y, y ∈ ys ↔ f y ≠ none) ∧ ∀ y ∈ ys, y.length ≤ maxLen
theorem ordered_of {f : List UInt8 → Option Nat} {ss : List (List UInt8)} (h1 : ss.Nodup) (h2 : ∀ s, s ∈ ss ↔ f s ≠ none) (h3 : ∀ s ∈ ss, s.length ≤ maxLen) : Ordered f (ss.mergeSort fun x y => decide (x ≤ y)) := by
  have hp := List.mergeSort_perm ss (fun x y => decide (x ≤ y))
  have hs := List.pairwise_mergeSort (le := fun x y : List UInt8 => decide (x ≤ y)) (fun a b c h1 h2 => decide_eq_true (List.le_trans (of_decide_eq_true h1) (of_decide_eq_true h2))) (fun a b => by
    rcases List.le_total a b with h | h
    · simp [h]
    · simp [h]) ss
  have hn : (ss.mergeSort fun x y => decide (x ≤ y)).Nodup := hp.nodup_iff.2 h1
  refine ⟨?_, fun y => by rw [hp.mem_iff]; exact h2 y, fun y hy => h3 y (hp.mem_iff.1 hy)⟩
  exact (hs.and hn).imp fun {a b} h => by
    have h4 : a ≤ b := of_decide_eq_true h.1
    by_cases h5 : a < b
    · exact h5
    · exact absurd (List.le_antisymm h4 (List.not_lt.1 h5)) h.2
theorem sorted_c (n : Nat) (o : Option Nat) (N : Nat) (f : List UInt8 → Option Nat) (W : World) (hk : ∀ m, o = some m → KidsAt W Tryz.prog 9 m N f) (h0 : o = none → ∀ y, f y = none) (hN : N ≤ 1073741824) :
    CallsIn Fence.wide n Tryz.prog 65 #[.func (.func 94) #[] #[.pointer (some ⟨W.heap.size, 0, none⟩)]] (W.alloc (.cells #[.map o] 128)) fun e w' => ∃ (v : Value) (ys : List (List UInt8)), e = .returned v ∧ Ordered f ys ∧
      w'.ownsRow (W.alloc (.cells #[.map o] 128)).heap.size 9 1 v ys.length (ys.map encStr) ∧ ys.length ≤ 1073741824 ∧ Below (W.alloc (.cells #[.map o] 128)).heap.size (W.alloc (.cells #[.map o] 128)) w' := by
  cases o with
  | none =>
    refine (wide_any (sorted_nil_c W)).mono ?_
    rintro e w' ⟨v, ss, rfl, rfl, h1, _, h2⟩
    exact ⟨v, [], rfl, ⟨List.Pairwise.nil, fun y => by simp [h0 rfl y], by simp⟩, by simpa using h1, by simp, h2⟩
  | some m =>
    have hkm := hk m rfl
    obtain ⟨D, h1, h2, h3⟩ := hkm.keys Tryz.underlying9
    refine (wide_any (sorted_keys_c m N D ptrElem W h1 (by unfold maxLen; omega) (by omega))).mono ?_
    rintro e w' ⟨v, ss, rfl, hp, h4, _, h5⟩
    obtain ⟨h6, h7⟩ := h3 ss hp
    have hl : (ss.mergeSort fun x y => decide (x ≤ y)).length = ss.length := by simp
    have hsl : ss.length ≤ N := by
      have e1 := hp.length_eq
      obtain ⟨es, clock, _, _, _, rfl⟩ := h1
      simp only [strKeys, List.length_map] at e1
      rw [e1]; exact h2
    refine ⟨v, _, rfl, ordered_of h6 h7 (fun s hs => strKeys_le h1 Tryz.underlying9 s (hp.mem_iff.1 hs)), ?_, by omega, h5⟩
    rw [hl]; exact h4
end Go.Proofs.YtcefgnjgcnboeaaGreatDoor
