/- The document's answer for the names of a text; texts cut short; lists of texts held against each other. -/
import Derived.Test.YthkbhcefckbcnaaGreatDoorCutM
import Derived.Test.YthkbhcefckbcnaaGreatDoorNamesM
import Derived.Test.YthkbhcefckbcnaaGreatDoorTakeN
import Derived.WalkSpells
namespace Go.Proofs.YthkbhcefckbcnaaGreatDoor
open Go Go.RowKit

theorem full_iff (s : ByteArray) : full s = true ↔ 0 < s.size := by
  unfold full; rw [← isEmpty_false]; cases s.toList.isEmpty <;> simp
theorem ext_size (s : ByteArray) (f k : Nat) (hk : k ≤ s.size) : (s.extract f k).size = k - f := size_extract' s f k hk

set_option maxRecDepth 100000 in
set_option maxHeartbeats 4000000 in
theorem names_r (s : ByteArray) (w : World) (hs : s.size ≤ 1099511627776) : Calls Tryz.prog 49 #[.string s] w fun e w' => ∃ v, e = .returned v ∧ w'.ownsRow w.heap.size 9 1 v (namesB s).length (strs (namesB s)) ∧ Below w.heap.size w w' := by
  obtain ⟨i0, hi, hz0, hz1, hz2⟩ := info_parts info_str
  go_enter Tryz.func49, Tryz.ntmps49
  go_wp2
  go_loopw [3, 4, 5] (fun v fr i wr => ∃ (k f : Nat) (ps : List ByteArray), i = .int .i64 k ∧ fr = .int .i64 f ∧ f ≤ k ∧ ps.length ≤ k ∧ wr.ownsRow w.heap.size 9 1 v ps.length (strs ps) ∧ Below w.heap.size w wr ∧
      ((k ≤ s.size ∧ noSl s f k ∧ namesB s = ps ++ (piecesB (s.extract f s.size)).filter full) ∨ (k = s.size + 1 ∧ namesB s = ps))) (fun _ _ i _ => s.size + 1 - (intOf i).toNat)
  case atStart => exact ⟨0, 0, [], rfl, rfl, Nat.le_refl _, Nat.le_refl _, World.ownsRow_nil _ _ _ _, Below.refl _ _, .inl ⟨Nat.zero_le _, noSl_nil _ _, by rw [extract_all]; rfl⟩⟩
  case round =>
    obtain ⟨k, f, ps, rfl, rfl, hfk, hpl, hown, hB, ⟨hk, hn, hp⟩ | ⟨rfl, hp⟩⟩ := hrel
    · have hsz := hB.size
      by_cases hlt : k < s.size
      · have hget := un_getElem? s k hlt
        have hne : ((k : Int) == (s.size : Int)) = false := by simp; omega
        by_cases hc : s[k].toNat = 47
        · have hc2 : (un s)[k]? = some 47 := by rw [hget]; congr 1; exact UInt8.toNat_inj.1 hc
          by_cases hff : f < k
          · have hfu : full (s.extract f k) = true := by rw [full_iff, ext_size _ _ _ (by omega)]; omega
            have Hp : Hid (namesB s = ps ++ [s.extract f k] ++ (piecesB (s.extract (k + 1) s.size)).filter full) := by unfold Hid; rw [hp, pieces_at s f k hfk hlt hc2 hn, List.filter_cons, if_pos hfu]; simp
            clear hget hc2 hn hp hfu
            go_wp2_with (at_builtin; refine wpList_append_own _ rfl _ _ 46 rfl w.heap.size 9 i0 (.string ⟨#[]⟩) 1 16 Tryz.underlying46 hi hz0 hz1 hz2 rfl (by decide) _ _ _ rfl (hown.alloc _) ⟨wr.heap.size, 0, none⟩ 1 1 [.string (s.extract f k)] rfl rfl (cell_one_new _ _ _) (by simp [Value.oneCell']) (by unfold maxLen; omega) (by omega) (by simp; omega) ?_; intro v1 w1 hown1 hgrow1 _)
            have hb1 : Below w.heap.size w w1 := (hB.alloc hsz _).grown hgrow1 (by simp; omega) (fun j hj => (own_ge hown j hj.symm).1)
            exact ⟨⟨k + 1, k + 1, ps ++ [s.extract f k], by go_num, by go_num, Nat.le_refl _, by simp; omega, by simpa [strs] using hown1, hb1, .inl ⟨by omega, noSl_nil _ _, Hp.out⟩⟩, by simp [intOf]; omega⟩
          · have hfu : full (s.extract f k) = false := by
              cases hq : full (s.extract f k)
              · rfl
              · rw [full_iff, ext_size _ _ _ (by omega)] at hq; omega
            have Hp : Hid (namesB s = ps ++ (piecesB (s.extract (k + 1) s.size)).filter full) := by unfold Hid; rw [hp, pieces_at s f k hfk hlt hc2 hn, List.filter_cons, hfu]; rfl
            clear hget hc2 hn hp hfu
            go_wp2
            first
              | exact ⟨⟨k + 1, k + 1, ps, by go_num, by go_num, Nat.le_refl _, by omega, hown, hB, .inl ⟨by omega, noSl_nil _ _, Hp.out⟩⟩, by simp [intOf]; omega⟩
              | (go_roundw
                 case rel => exact ⟨k + 1, k + 1, ps, by go_num, by go_num, Nat.le_refl _, by omega, hown, hB, .inl ⟨by omega, noSl_nil _ _, Hp.out⟩⟩
                 case measure => simp [intOf]; omega)
        · have hc2 : (un s)[k]? ≠ some 47 := by rw [hget]; intro e; exact hc (by rw [Option.some.inj e]; rfl)
          have Hn : Hid _ := noSl_succ hn hc2
          have Hp : Hid _ := hp
          clear hget hc2 hn hp
          go_wp2
          first
            | exact ⟨⟨k + 1, f, ps, by go_num, rfl, by omega, by omega, hown, hB, .inl ⟨by omega, Hn.out, Hp.out⟩⟩, by simp [intOf]; omega⟩
            | (go_roundw
               case rel => exact ⟨k + 1, f, ps, by go_num, rfl, by omega, by omega, hown, hB, .inl ⟨by omega, Hn.out, Hp.out⟩⟩
               case measure => simp [intOf]; omega)
      · obtain rfl : k = s.size := by omega
        have hee : ((s.size : Int) == (s.size : Int)) = true := by simp
        by_cases hff : f < s.size
        · have hfu : full (s.extract f s.size) = true := by rw [full_iff, ext_size _ _ _ (by omega)]; omega
          have Hp : Hid (namesB s = ps ++ [s.extract f s.size]) := by unfold Hid; rw [hp, pieces_end s f hn, List.filter_cons, if_pos hfu]; rfl
          clear hn hp hfu
          go_wp2_with (at_builtin; refine wpList_append_own _ rfl _ _ 46 rfl w.heap.size 9 i0 (.string ⟨#[]⟩) 1 16 Tryz.underlying46 hi hz0 hz1 hz2 rfl (by decide) _ _ _ rfl (hown.alloc _) ⟨wr.heap.size, 0, none⟩ 1 1 [.string (s.extract f s.size)] rfl rfl (cell_one_new _ _ _) (by simp [Value.oneCell']) (by unfold maxLen; omega) (by omega) (by simp; omega) ?_; intro v1 w1 hown1 hgrow1 _)
          have hb1 : Below w.heap.size w w1 := (hB.alloc hsz _).grown hgrow1 (by simp; omega) (fun j hj => (own_ge hown j hj.symm).1)
          exact ⟨⟨s.size + 1, s.size + 1, ps ++ [s.extract f s.size], by go_num, by go_num, Nat.le_refl _, by simp; omega, by simpa [strs] using hown1, hb1, .inr ⟨rfl, Hp.out⟩⟩, by simp [intOf]⟩
        · have hfu : full (s.extract f s.size) = false := by
            cases hq : full (s.extract f s.size)
            · rfl
            · rw [full_iff, ext_size _ _ _ (by omega)] at hq; omega
          have Hp : Hid (namesB s = ps) := by unfold Hid; rw [hp, pieces_end s f hn, List.filter_cons, hfu]; simp
          clear hn hp hfu
          go_wp2
          first
            | exact ⟨⟨s.size + 1, s.size + 1, ps, by go_num, by go_num, Nat.le_refl _, by omega, hown, hB, .inr ⟨rfl, Hp.out⟩⟩, by simp [intOf]⟩
            | (go_roundw
               case rel => exact ⟨s.size + 1, s.size + 1, ps, by go_num, by go_num, Nat.le_refl _, by omega, hown, hB, .inr ⟨rfl, Hp.out⟩⟩
               case measure => simp [intOf])
    · have Hp : Hid _ := hp
      clear hp
      go_wp2
      go_ret
      exact ⟨_, rfl, by rw [Hp.out]; exact hown, hB⟩
end Go.Proofs.YthkbhcefckbcnaaGreatDoor
