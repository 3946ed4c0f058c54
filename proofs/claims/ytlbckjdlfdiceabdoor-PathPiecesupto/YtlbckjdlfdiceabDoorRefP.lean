/- The document's answer for the pieces of a text in a list. -/
import Derived.Test.YtlbckjdlfdiceabDoorRefD
namespace Go.Proofs.YtlbckjdlfdiceabDoor
open Go Go.RowKit

theorem owns_le {w : World} {b b2 e size n : Nat} {v : Value} {xs : List Value} (h : w.ownsRow b e size v n xs) (hb : b2 ≤ b) : w.ownsRow b2 e size v n xs := by
  refine ⟨h.1, ?_⟩
  rcases h.2 with hn | ⟨g, cap, cur, rfl, hg, rest⟩
  · exact .inl hn
  · exact .inr ⟨g, cap, cur, rfl, by omega, rest⟩
theorem take_succ_filter (xs : List ByteArray) (k : Nat) (x : ByteArray) (h : xs[k]? = some x) : (xs.take (k + 1)).filter full = (xs.take k).filter full ++ (if full x then [x] else []) := by
  rw [List.take_add_one, h, List.filter_append]; simp [List.filter_cons]

set_option maxRecDepth 100000 in
set_option maxHeartbeats 2000000 in
theorem pieces_r (s : ByteArray) (w : World) (hs : s.size ≤ 1099511627776) : Calls Tryd.prog 9 #[.string s] w fun e w' => ∃ v, e = .returned v ∧ w'.ownsRow w.heap.size 9 1 v (namesB s).length (strs (namesB s)) ∧ Below w.heap.size w w' := by
  obtain ⟨i0, hi, hz0, hz1, hz2⟩ := info_parts info_str
  have hpl := piecesB_length s
  go_enter Tryd.func9, Tryd.ntmps9
  go_wp2_with (go_at_call 26; refine (cut_row s _ hs).mono ?_; rintro e w1 ⟨g, cap, rfl, hrow, hgl, _, hb1⟩)
  have HR : Hid _ := hrow
  clear hrow
  go_loopw [3, 5] (fun v i wr => ∃ k : Nat, k ≤ (piecesB s).length ∧ i = .int .i64 k ∧ wr.ownsRow w1.heap.size 9 1 v (((piecesB s).take k).filter full).length (strs (((piecesB s).take k).filter full)) ∧ Below w1.heap.size w1 wr) (fun _ i _ => (piecesB s).length - (intOf i).toNat)
  case atStart => exact ⟨0, Nat.zero_le _, rfl, World.ownsRow_nil _ _ _ _, Below.refl _ _⟩
  case round =>
    obtain ⟨k, hk, rfl, hown, hB⟩ := hrel
    have hsz := hB.size
    by_cases hlt : k < (piecesB s).length
    · obtain ⟨x, hx⟩ : ∃ x, (piecesB s)[k]? = some x := ⟨_, List.getElem?_eq_getElem hlt⟩
      have hcell : wr.cell? ⟨g, k, none⟩ = some (.string x) := (hB.cell (p := ⟨g, k, none⟩) hgl).trans (HR.out k x hx)
      have hfl : (((piecesB s).take k).filter full).length ≤ k := Nat.le_trans (List.length_filter_le _ _) (by simp; omega)
      have ht := take_succ_filter (piecesB s) k x hx
      cases he : x.toList.isEmpty
      · have HT : Hid (((piecesB s).take (k + 1)).filter full = ((piecesB s).take k).filter full ++ [x]) := by unfold Hid; rw [ht]; simp [full, he]
        clear ht hx
        go_wp2_with (at_builtin; refine wpList_append_own _ rfl _ _ 23 rfl w1.heap.size 9 i0 (.string ⟨#[]⟩) 1 16 Tryd.underlying23 hi hz0 hz1 hz2 rfl (by decide) _ _ _ rfl (hown.alloc _) ⟨wr.heap.size, 0, none⟩ 1 1 [.string x] rfl rfl (cell_one_new _ _ _) (by simp [Value.oneCell']) (by unfold maxLen; omega) (by omega) (by simp; omega) ?_; intro v1 w2 hown1 hgrow1 _)
        have hb2 : Below w1.heap.size w1 w2 := (hB.alloc hsz _).grown hgrow1 (by simp; omega) (fun j hj => (own_ge hown j hj.symm).1)
        exact ⟨⟨k + 1, by omega, by go_num, by rw [HT.out]; simpa [strs] using hown1, hb2⟩, by simp [intOf]; omega⟩
      · have HT : Hid (((piecesB s).take (k + 1)).filter full = ((piecesB s).take k).filter full) := by unfold Hid; rw [ht]; simp [full, he]
        clear ht hx
        go_wp2
        first
          | exact ⟨⟨k + 1, by omega, by go_num, by rw [HT.out]; exact hown, hB⟩, by simp [intOf]; omega⟩
          | (go_roundw
             case rel => exact ⟨k + 1, by omega, by go_num, by rw [HT.out]; exact hown, hB⟩
             case measure => simp [intOf]; omega)
    · obtain rfl : k = (piecesB s).length := by omega
      have HT : Hid (((piecesB s).take (piecesB s).length).filter full = namesB s) := by unfold Hid namesB; rw [List.take_length]
      go_wp2
      go_ret
      exact ⟨_, rfl, by rw [← HT.out]; exact owns_le hown hb1.size, hb1.trans (hB.mono hb1.size)⟩

end Go.Proofs.YtlbckjdlfdiceabDoor
