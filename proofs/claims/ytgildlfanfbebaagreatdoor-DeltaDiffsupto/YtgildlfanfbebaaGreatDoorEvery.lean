/- Package path's everyPiece: it hands on all pieces of a text, the empty ones too. -/
import Derived.Test.YtgildlfanfbebaaGreatDoorCut
import Derived.Test.YtgildlfanfbebaaGreatDoorRange
import Derived.Shelf.Abstract
import Derived.Shelf.RegionOpen
import Derived.OwnWalkIn
import Derived.TacticsInMore
import Derived.LoopNIn
import Derived.LoopIn
namespace Go.Proofs.YtgildlfanfbebaaGreatDoor
open Go Go.RowKit Go.Shelf
attribute [local go_sem] Oper.semAt_some

theorem every_p (s : ByteArray) (w : World) : Calls Tryz.prog 54 #[.string s] w fun e w' => e = .returned (.func (.func 89) #[] #[.pointer (some ⟨w.heap.size, 0, none⟩)]) ∧ w' = w.alloc (.cells #[.string s] 9) := by
  go_enter Tryz.func54, Tryz.ntmps54
  go_wp2
  go_ret
  exact ⟨rfl, rfl⟩

theorem grown_draws (w : World) (k : Nat) : w.grownBy (w.drewN k) none := ⟨rfl, rfl, rfl, Nat.le_refl _, fun _ _ _ => rfl⟩
theorem ix_cases (t : ByteArray) : ix t = -1 ∨ ∃ i : Nat, ix t = i ∧ i < t.size := by
  have h := ix_range t
  by_cases h1 : ix t = -1
  · exact .inl h1
  · exact .inr ⟨(ix t).toNat, by omega, by omega⟩
theorem wd (n : Nat) : Fence.wide.depth.isSome = true → 1 ≤ n := fun h => by simp [Fence.wide] at h
def leftOf : Value → Value → Nat
  | .string r, .bool true => r.size + 1
  | _, _ => 0

set_option maxRecDepth 100000 in
set_option maxHeartbeats 2000000 in
theorem every_gives (s : ByteArray) (B n₀ : Nat) (w : World) (hs : s.size ≤ 9223372036854775807) (hB : w.cell? ⟨B, 0, none⟩ = some (.string s)) :
    Gives Tryz.prog 89 #[.pointer (some ⟨B, 0, none⟩)] (piecesB s) n₀ w := by
  intro n l J Jx W hW hJ hJx hY h0
  have hBlt : B < w.heap.size := by
    rcases Nat.lt_or_ge B w.heap.size with h | h
    · exact h
    · simp [World.cell?, Array.getElem?_eq_none h] at hB
  have hBW : W.cell? ⟨B, 0, none⟩ = some (.string s) := (hW.cell (p := ⟨B, 0, none⟩) hBlt).trans hB
  refine callsIn_of_wp Tryz.func89 rfl trivial ?_ rfl
  simp only [Tryz.ntmps89, List.size_toArray, List.length_cons, List.length_nil, Nat.reduceAdd, Nat.reduceSub, Array.replicate_succ, Array.replicate_zero, List.push_toArray, List.append_toArray, List.nil_append, List.cons_append]
  gi_wp2
  gi_loopw [3, 4, 5] (fun r m _ wr => ∃ pre : List ByteArray, J pre wr ∧ W.heap.size ≤ wr.heap.size ∧ ((∃ t : ByteArray, t.size ≤ s.size ∧ r = .string t ∧ m = .bool true ∧ piecesB s = pre ++ piecesB t) ∨ (m = .bool false ∧ piecesB s = pre))) (fun r m _ _ => leftOf r m)
  case atStart => exact ⟨[], h0, Nat.le_refl _, .inl ⟨s, Nat.le_refl _, rfl, rfl, rfl⟩⟩
  case round =>
    obtain ⟨pre, hj, hws, ⟨t, ht, rfl, rfl, hp⟩ | ⟨rfl, hp⟩⟩ := hrel
    · rcases ix_cases t with hm | ⟨i, hi, hit⟩
      · obtain ⟨fn, tmps, assign, body, hy, hR⟩ := hY (n - 1) pre t wr hj ⟨[], by rw [hp, piecesB_miss t hm]; simp⟩ hws
        have Hp : Hid (piecesB s = pre ++ [t]) := by rw [hp, piecesB_miss t hm]; exact rfl
        have Hm : Hid _ := hm
        clear hp hm
        gi_wp2_with (refine ⟨trivial, wd _, ?_⟩; gi_at_call 55; refine (callsIn_wide.2 (cut_miss _ _ Hm.out)).mono ?_; rintro e w' ⟨rfl, rfl⟩)
        refine ⟨wd _, hR.mono ?_⟩
        rintro e W3 ⟨⟨rfl, hJ3⟩ | ⟨rfl, hJx3⟩, _, hk3, _⟩
        all_goals have hz3 := Nat.le_trans hws hk3.size
        · gi_wp2
          go_roundw
          case rel => exact ⟨pre ++ [t], hJ3, hz3, .inr ⟨rfl, Hp.out⟩⟩
          case measure => simp [leftOf]
        · gi_wp2
          refine bodyPost_ret (results_none rfl _ _ _) rfl ?_
          exact ⟨⟨_, rfl⟩, .inr ⟨pre ++ [t], ⟨[], by rw [Hp.out]; simp⟩, hJx3⟩⟩
      · have Hp : Hid (piecesB s = pre ++ [t.extract 0 i] ++ piecesB (t.extract (i + 1) t.size)) := by unfold Hid; rw [hp, piecesB_hit t i hi]; simp
        have Hi : Hid _ := hi
        clear hp hi
        have hle : (t.extract (i + 1) t.size).size < t.size := by rw [← un_length, un_extract, ← un_length]; simp; rw [un_length]; omega
        gi_wp2_with (refine ⟨trivial, wd _, ?_⟩; gi_at_call 55; refine (callsIn_wide.2 (cut_hit _ i _ Hi.out (by omega))).mono ?_; rintro e w' ⟨rfl, k, rfl⟩; obtain ⟨fn, tmps, assign, body, hy, hR⟩ := hY (n - 1) pre (t.extract 0 i) (wr.drewN k) (hJ pre _ _ none hj (grown_draws _ k) (fun r e => by cases e)) ⟨piecesB (t.extract (i + 1) t.size), Hp.out.symm⟩ hws)
        refine ⟨wd _, hR.mono ?_⟩
        rintro e W3 ⟨⟨rfl, hJ3⟩ | ⟨rfl, hJx3⟩, _, hk3, _⟩
        all_goals have hz3 := Nat.le_trans hws hk3.size
        · gi_wp2
          go_roundw
          case rel => exact ⟨pre ++ [t.extract 0 i], hJ3, hz3, .inl ⟨_, by omega, rfl, rfl, Hp.out⟩⟩
          case measure => simp only [leftOf]; omega
        · gi_wp2
          refine bodyPost_ret (results_none rfl _ _ _) rfl ?_
          exact ⟨⟨_, rfl⟩, .inr ⟨pre ++ [t.extract 0 i], ⟨_, Hp.out.symm⟩, hJx3⟩⟩
    · gi_wp2
      go_end0
      exact ⟨⟨_, rfl⟩, .inl (by rw [hp]; exact hj)⟩
end Go.Proofs.YtgildlfanfbebaaGreatDoor
