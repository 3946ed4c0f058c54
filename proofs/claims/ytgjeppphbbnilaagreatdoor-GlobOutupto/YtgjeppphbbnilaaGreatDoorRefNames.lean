/- The document's answer for the names of a text; texts cut short; lists of texts held against each other. -/
import Derived.Test.YtgjeppphbbnilaaGreatDoorOwnM
import Derived.Test.YtgjeppphbbnilaaGreatDoorSplitM
import Derived.OwnWalk
import Derived.Test.YtgjeppphbbnilaaGreatDoorNamesM
import Derived.Test.YtgjeppphbbnilaaGreatDoorTakeN
import Derived.WalkSpells

namespace Go.Proofs.YtgjeppphbbnilaaGreatDoor
open Go Go.RowKit

/-- No slash from f on ahead of k. -/
def noSl (s : ByteArray) (f k : Nat) : Prop := ∀ j : Nat, f ≤ j → j < k → (un s)[j]? ≠ some 47
theorem indexByte_eq (c : UInt8) : ∀ (l : List UInt8) (i : Nat), l[i]? = some c → (∀ j : Nat, j < i → l[j]? ≠ some c) → Lib.indexByte l c = i
  | [], i, h, _ => by simp at h
  | b :: l, 0, h, _ => by
    have e : b = c := by simpa using h
    unfold Lib.indexByte; simp [e]
  | b :: l, i + 1, h, hn => by
    have h0 : b ≠ c := fun e => hn 0 (by omega) (by simp [e])
    have ih := indexByte_eq c l i (by simpa using h) (fun j hj => by simpa using hn (j + 1) (by omega))
    unfold Lib.indexByte
    rw [if_neg (by simpa using h0), ih, if_neg (by simp)]; omega
theorem indexByte_none (c : UInt8) : ∀ l : List UInt8, (∀ j : Nat, l[j]? ≠ some c) → Lib.indexByte l c = -1
  | [], _ => rfl
  | b :: l, hn => by
    have h0 : b ≠ c := fun e => hn 0 (by simp [e])
    have ih := indexByte_none c l (fun j => by simpa using hn (j + 1))
    unfold Lib.indexByte
    rw [if_neg (by simpa using h0), ih]; rfl
theorem pieces_at (s : ByteArray) (f k : Nat) (hf : f ≤ k) (hk : k < s.size) (hc : (un s)[k]? = some 47) (hn : noSl s f k) :
    piecesB (s.extract f s.size) = s.extract f k :: piecesB (s.extract (k + 1) s.size) := by
  have hi : ix (s.extract f s.size) = ((k - f : Nat) : Int) := indexByte_eq 47 _ _ (by rw [un_extract_get, show f + (k - f) = k by omega]; exact hc) (fun j hj => by rw [un_extract_get]; exact hn _ (by omega) (by omega))
  rw [piecesB_hit _ _ hi, size_extract' _ _ _ (Nat.le_refl _)]
  congr 1
  · refine un_inj ?_
    rw [un_extract, un_extract, un_extract]
    simp only [List.drop_zero, List.take_drop]
    rw [show f + (k - f) = k by omega, List.take_take, Nat.min_eq_left (by omega)]
  · congr 1
    refine un_inj ?_
    rw [un_extract, un_extract, un_extract]
    rw [List.take_of_length_le (l := un s) (by rw [un_length]; omega), List.take_of_length_le (by simp [un_length]), List.drop_drop]
    congr 1; omega
theorem pieces_end (s : ByteArray) (f : Nat) (hn : noSl s f s.size) : piecesB (s.extract f s.size) = [s.extract f s.size] := by
  refine piecesB_miss _ (indexByte_none 47 _ (fun j => ?_))
  rw [un_extract_get]
  by_cases h : f + j < s.size
  · exact hn _ (by omega) h
  · rw [un_none _ _ (by omega)]; simp
theorem noSl_nil (s : ByteArray) (k : Nat) : noSl s k k := fun j h1 h2 => by omega
theorem noSl_succ {s : ByteArray} {f k : Nat} (h : noSl s f k) (hc : (un s)[k]? ≠ some 47) : noSl s f (k + 1) := fun j h1 h2 => by
  rcases Nat.lt_succ_iff_lt_or_eq.1 h2 with h3 | h3
  · exact h j h1 h3
  · rw [h3]; exact hc
theorem extract_all (s : ByteArray) : s.extract 0 s.size = s := un_inj (by rw [un_extract, List.take_of_length_le (by rw [un_length]; omega)]; rfl)

end Go.Proofs.YtgjeppphbbnilaaGreatDoor

namespace Go.Proofs.YtgjeppphbbnilaaGreatDoor
open Go Go.RowKit

theorem full_iff (s : ByteArray) : full s = true ↔ 0 < s.size := by
  unfold full; rw [← isEmpty_false]; cases s.toList.isEmpty <;> simp
theorem ext_size (s : ByteArray) (f k : Nat) (hk : k ≤ s.size) : (s.extract f k).size = k - f := size_extract' s f k hk

set_option maxRecDepth 100000 in
set_option maxHeartbeats 4000000 in
theorem names_r (s : ByteArray) (w : World) (hs : s.size ≤ 1099511627776) : Calls Tryz.prog 26 #[.string s] w fun e w' => ∃ v, e = .returned v ∧ w'.ownsRow w.heap.size 9 1 v (namesB s).length (strs (namesB s)) ∧ Below w.heap.size w w' := by
  obtain ⟨i0, hi, hz0, hz1, hz2⟩ := info_parts info_str
  go_enter Tryz.func26, Tryz.ntmps26
  go_wp2
  go_loopw [3, 4, 5] (fun v fr i wr => ∃ (k f : Nat) (ps : List ByteArray), i = .int .i64 k ∧ fr = .int .i64 f ∧ f ≤ k ∧ ps.length ≤ k ∧ wr.ownsRow w.heap.size 9 1 v ps.length (strs ps) ∧ Below w.heap.size w wr ∧
      ((k ≤ s.size ∧ noSl s f k ∧ namesB s = ps ++ (piecesB (s.extract f s.size)).filter full) ∨ (k = s.size + 1 ∧ namesB s = ps))) (fun _ _ i _ => s.size + 1 - (intOf i).toNat)
  case atStart => exact ⟨0, 0, [], rfl, rfl, Nat.le_refl _, Nat.le_refl _, World.ownsRow_nil _ _ _ _, Below.refl _ _, .inl ⟨Nat.zero_le _, noSl_nil _ _, by rw [extract_all]; rfl⟩⟩
  case round =>
    obtain ⟨k, f, ps, rfl, rfl, hfk, hpl, hown, hB, ⟨hk, hn, hp⟩ | ⟨rfl, hp⟩⟩ := hrel
    · have hsz := hB.size
      by_cases hlt : k < s.size
      · have hget := un_getElem? s k hlt
        have hne : ((k : Int) == (s.size : Int)) = false := by simp; omega
        by_cases hc : s[k].toNat = 47
        · have hc2 : (un s)[k]? = some 47 := by rw [hget]; congr 1; exact UInt8.toNat_inj.1 hc
          by_cases hff : f < k
          · have hfu : full (s.extract f k) = true := by rw [full_iff, ext_size _ _ _ (by omega)]; omega
            have Hp : Hid (namesB s = ps ++ [s.extract f k] ++ (piecesB (s.extract (k + 1) s.size)).filter full) := by unfold Hid; rw [hp, pieces_at s f k hfk hlt hc2 hn, List.filter_cons, if_pos hfu]; simp
            clear hget hc2 hn hp hfu
            go_wp2_with (at_builtin; refine wpList_append_own _ rfl _ _ 22 rfl w.heap.size 9 i0 (.string ⟨#[]⟩) 1 16 Tryz.underlying22 hi hz0 hz1 hz2 rfl (by decide) _ _ _ rfl (hown.alloc _) ⟨wr.heap.size, 0, none⟩ 1 1 [.string (s.extract f k)] rfl rfl (cell_one_new _ _ _) (by simp [Value.oneCell']) (by unfold maxLen; omega) (by omega) (by simp; omega) ?_; intro v1 w1 hown1 hgrow1 _)
            have hb1 : Below w.heap.size w w1 := (hB.alloc hsz _).grown hgrow1 (by simp; omega) (fun j hj => (own_ge hown j hj.symm).1)
            exact ⟨⟨k + 1, k + 1, ps ++ [s.extract f k], by go_num, by go_num, Nat.le_refl _, by simp; omega, by simpa [strs] using hown1, hb1, .inl ⟨by omega, noSl_nil _ _, Hp.out⟩⟩, by simp [intOf]; omega⟩
          · have hfu : full (s.extract f k) = false := by
              cases hq : full (s.extract f k)
              · rfl
              · rw [full_iff, ext_size _ _ _ (by omega)] at hq; omega
            have Hp : Hid (namesB s = ps ++ (piecesB (s.extract (k + 1) s.size)).filter full) := by unfold Hid; rw [hp, pieces_at s f k hfk hlt hc2 hn, List.filter_cons, hfu]; rfl
            clear hget hc2 hn hp hfu
            go_wp2
            first
              | exact ⟨⟨k + 1, k + 1, ps, by go_num, by go_num, Nat.le_refl _, by omega, hown, hB, .inl ⟨by omega, noSl_nil _ _, Hp.out⟩⟩, by simp [intOf]; omega⟩
              | (go_roundw
                 case rel => exact ⟨k + 1, k + 1, ps, by go_num, by go_num, Nat.le_refl _, by omega, hown, hB, .inl ⟨by omega, noSl_nil _ _, Hp.out⟩⟩
                 case measure => simp [intOf]; omega)
        · have hc2 : (un s)[k]? ≠ some 47 := by rw [hget]; intro e; exact hc (by rw [Option.some.inj e]; rfl)
          have Hn : Hid _ := noSl_succ hn hc2
          have Hp : Hid _ := hp
          clear hget hc2 hn hp
          go_wp2
          first
            | exact ⟨⟨k + 1, f, ps, by go_num, rfl, by omega, by omega, hown, hB, .inl ⟨by omega, Hn.out, Hp.out⟩⟩, by simp [intOf]; omega⟩
            | (go_roundw
               case rel => exact ⟨k + 1, f, ps, by go_num, rfl, by omega, by omega, hown, hB, .inl ⟨by omega, Hn.out, Hp.out⟩⟩
               case measure => simp [intOf]; omega)
      · obtain rfl : k = s.size := by omega
        have hee : ((s.size : Int) == (s.size : Int)) = true := by simp
        by_cases hff : f < s.size
        · have hfu : full (s.extract f s.size) = true := by rw [full_iff, ext_size _ _ _ (by omega)]; omega
          have Hp : Hid (namesB s = ps ++ [s.extract f s.size]) := by unfold Hid; rw [hp, pieces_end s f hn, List.filter_cons, if_pos hfu]; rfl
          clear hn hp hfu
          go_wp2_with (at_builtin; refine wpList_append_own _ rfl _ _ 22 rfl w.heap.size 9 i0 (.string ⟨#[]⟩) 1 16 Tryz.underlying22 hi hz0 hz1 hz2 rfl (by decide) _ _ _ rfl (hown.alloc _) ⟨wr.heap.size, 0, none⟩ 1 1 [.string (s.extract f s.size)] rfl rfl (cell_one_new _ _ _) (by simp [Value.oneCell']) (by unfold maxLen; omega) (by omega) (by simp; omega) ?_; intro v1 w1 hown1 hgrow1 _)
          have hb1 : Below w.heap.size w w1 := (hB.alloc hsz _).grown hgrow1 (by simp; omega) (fun j hj => (own_ge hown j hj.symm).1)
          exact ⟨⟨s.size + 1, s.size + 1, ps ++ [s.extract f s.size], by go_num, by go_num, Nat.le_refl _, by simp; omega, by simpa [strs] using hown1, hb1, .inr ⟨rfl, Hp.out⟩⟩, by simp [intOf]⟩
        · have hfu : full (s.extract f s.size) = false := by
            cases hq : full (s.extract f s.size)
            · rfl
            · rw [full_iff, ext_size _ _ _ (by omega)] at hq; omega
          have Hp : Hid (namesB s = ps) := by unfold Hid; rw [hp, pieces_end s f hn, List.filter_cons, hfu]; simp
          clear hn hp hfu
          go_wp2
          first
            | exact ⟨⟨s.size + 1, s.size + 1, ps, by go_num, by go_num, Nat.le_refl _, by omega, hown, hB, .inr ⟨rfl, Hp.out⟩⟩, by simp [intOf]⟩
            | (go_roundw
               case rel => exact ⟨s.size + 1, s.size + 1, ps, by go_num, by go_num, Nat.le_refl _, by omega, hown, hB, .inr ⟨rfl, Hp.out⟩⟩
               case measure => simp [intOf])
    · have Hp : Hid _ := hp
      clear hp
      go_wp2
      go_ret
      exact ⟨_, rfl, by rw [Hp.out]; exact hown, hB⟩
end Go.Proofs.YtgjeppphbbnilaaGreatDoor
