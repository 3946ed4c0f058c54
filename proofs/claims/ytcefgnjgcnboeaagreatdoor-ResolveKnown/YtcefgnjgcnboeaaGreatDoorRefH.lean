/- The document's walk: followed. -/
import Derived.Test.YtcefgnjgcnboeaaGreatDoorSpec
import Derived.Test.YtcefgnjgcnboeaaGreatDoorProg
import Derived.WalkKit
import Derived.WalkSpells
import Derived.Test.YtcefgnjgcnboeaaGreatDoorOwnM
import Derived.Test.YtcefgnjgcnboeaaGreatDoorCheck
import Derived.Test.YtcefgnjgcnboeaaGreatDoorSplitM
import Derived.OwnWalk
import Derived.Test.YtcefgnjgcnboeaaGreatDoorPieces
import Derived.Test.YtcefgnjgcnboeaaGreatDoorLeadW
import Derived.Test.YtcefgnjgcnboeaaGreatDoorWalkW

namespace Go.Proofs.YtcefgnjgcnboeaaGreatDoor
open Go.RowKit

theorem lastIdx_succ (s : ByteArray) (k : Nat) (h : k < s.size) : Lib.lastIdx s 47 (k + 1) = if s[k].toNat = 47 then (k : Int) else Lib.lastIdx s 47 k := by
  have e : s.data[k]! = s[k] := by
    have h2 : k < s.data.size := h
    exact getElem!_pos s.data k h2
  simp only [Lib.lastIdx, e]
  by_cases hc : s[k].toNat = 47
  · rw [if_pos (by omega), if_pos hc]
  · rw [if_neg (by omega), if_neg hc]

set_option maxHeartbeats 400000 in
theorem slash_r (s : ByteArray) (w : World) (hs : s.size ≤ 9223372036854775806) : Calls Tryz.prog 99 #[.string s] w fun e w' => e = .returned (.int .i64 (Lib.lastIndexByte s 47)) ∧ w' = w := by
  go_enter Tryz.func99, Tryz.ntmps99
  go_wp2
  go_loop [3, 4] (fun a i => ∃ k : Nat, k ≤ s.size ∧ i = .int .i64 k ∧ a = .int .i64 (Lib.lastIdx s 47 k)) (fun _ i => s.size - (intOf i).toNat)
  case atStart => exact ⟨0, Nat.zero_le _, rfl, rfl⟩
  case round =>
    obtain ⟨k, hk, rfl, rfl⟩ := hrel
    by_cases hlt : k < s.size
    · have hsn : Hid _ := lastIdx_succ s k hlt
      by_cases hc : s[k].toNat = 47
      · go_wp2
        all_goals
          go_round
          case rel => exact ⟨k + 1, by omega, by go_num, by rw [hsn.out, if_pos hc]⟩
          case measure => simp [intOf]; omega
      · go_wp2
        all_goals
          go_round
          case rel => exact ⟨k + 1, by omega, by go_num, by rw [hsn.out, if_neg hc]⟩
          case measure => simp [intOf]; omega
    · go_wp2
      go_ret
      obtain rfl : k = s.size := by omega
      exact ⟨rfl, rfl⟩

theorem join_r (a b : ByteArray) (w : World) (hs : a.size + 1 + b.size ≤ 9223372036854775807) : Calls Tryz.prog 78 #[.string a, .string b] w fun e w' => e = .returned (.string (joinB a b)) ∧ w' = w := by
  cases h : a.toList.isEmpty
  · go_enter Tryz.func78, Tryz.ntmps78
    go_wp2
    go_ret
    exact ⟨by simp [joinB, h], rfl⟩
  · go_enter Tryz.func78, Tryz.ntmps78
    go_wp2
    go_ret
    exact ⟨by simp [joinB, h], rfl⟩
theorem parent_r (a : ByteArray) (w : World) (hs : a.size < 4611686018427387904) : Calls Tryz.prog 77 #[.string a] w fun e w' => e = .returned (.string (parentB a)) ∧ w' = w := by
  have hr := lastIndexByte_range a 47
  by_cases h : Lib.lastIndexByte a 47 < 0
  · go_enter Tryz.func77, Tryz.ntmps77
    go_wp2_with (go_at_call 99; refine (slash_r _ _ (by omega)).mono ?_; rintro e w' ⟨rfl, rfl⟩)
    go_ret
    exact ⟨by simp [parentB, h], rfl⟩
  · go_enter Tryz.func77, Tryz.ntmps77
    go_wp2_with (go_at_call 99; refine (slash_r _ _ (by omega)).mono ?_; rintro e w' ⟨rfl, rfl⟩)
    go_ret
    exact ⟨by unfold parentB; rw [if_neg (by omega)]; rfl, rfl⟩
theorem last_r (a : ByteArray) (w : World) (hs : a.size < 4611686018427387904) : Calls Tryz.prog 145 #[.string a] w fun e w' => e = .returned (.string (lastB a)) ∧ w' = w := by
  have hr := lastIndexByte_range a 47
  go_enter Tryz.func145, Tryz.ntmps145
  go_wp2_with (go_at_call 99; refine (slash_r _ _ (by omega)).mono ?_; rintro e w' ⟨rfl, rfl⟩)
  go_ret
  exact ⟨by simp [lastB], rfl⟩
end Go.Proofs.YtcefgnjgcnboeaaGreatDoor

namespace Go.Proofs.YtcefgnjgcnboeaaGreatDoor
open Go Go.RowKit

/-- No slash from f on ahead of k. -/
def noSl (s : ByteArray) (f k : Nat) : Prop := ∀ j : Nat, f ≤ j → j < k → (un s)[j]? ≠ some 47
theorem indexByte_eq (c : UInt8) : ∀ (l : List UInt8) (i : Nat), l[i]? = some c → (∀ j : Nat, j < i → l[j]? ≠ some c) → Lib.indexByte l c = i
  | [], i, h, _ => by simp at h
  | b :: l, 0, h, _ => by
    have e : b = c := by simpa using h
    unfold Lib.indexByte; simp [e]
  | b :: l, i + 1, h, hn => by
    have h0 : b ≠ c := fun e => hn 0 (by omega) (by simp [e])
    have ih := indexByte_eq c l i (by simpa using h) (fun j hj => by simpa using hn (j + 1) (by omega))
    unfold Lib.indexByte
    rw [if_neg (by simpa using h0), ih, if_neg (by simp)]; omega
theorem indexByte_none (c : UInt8) : ∀ l : List UInt8, (∀ j : Nat, l[j]? ≠ some c) → Lib.indexByte l c = -1
  | [], _ => rfl
  | b :: l, hn => by
    have h0 : b ≠ c := fun e => hn 0 (by simp [e])
    have ih := indexByte_none c l (fun j => by simpa using hn (j + 1))
    unfold Lib.indexByte
    rw [if_neg (by simpa using h0), ih]; rfl
theorem pieces_at (s : ByteArray) (f k : Nat) (hf : f ≤ k) (hk : k < s.size) (hc : (un s)[k]? = some 47) (hn : noSl s f k) :
    piecesB (s.extract f s.size) = s.extract f k :: piecesB (s.extract (k + 1) s.size) := by
  have hi : ix (s.extract f s.size) = ((k - f : Nat) : Int) := indexByte_eq 47 _ _ (by rw [un_extract_get, show f + (k - f) = k by omega]; exact hc) (fun j hj => by rw [un_extract_get]; exact hn _ (by omega) (by omega))
  rw [piecesB_hit _ _ hi, size_extract' _ _ _ (Nat.le_refl _)]
  congr 1
  · refine un_inj ?_
    rw [un_extract, un_extract, un_extract]
    simp only [List.drop_zero, List.take_drop]
    rw [show f + (k - f) = k by omega, List.take_take, Nat.min_eq_left (by omega)]
  · congr 1
    refine un_inj ?_
    rw [un_extract, un_extract, un_extract]
    rw [List.take_of_length_le (l := un s) (by rw [un_length]; omega), List.take_of_length_le (by simp [un_length]), List.drop_drop]
    congr 1; omega
theorem pieces_end (s : ByteArray) (f : Nat) (hn : noSl s f s.size) : piecesB (s.extract f s.size) = [s.extract f s.size] := by
  refine piecesB_miss _ (indexByte_none 47 _ (fun j => ?_))
  rw [un_extract_get]
  by_cases h : f + j < s.size
  · exact hn _ (by omega) h
  · rw [un_none _ _ (by omega)]; simp
theorem noSl_nil (s : ByteArray) (k : Nat) : noSl s k k := fun j h1 h2 => by omega
theorem noSl_succ {s : ByteArray} {f k : Nat} (h : noSl s f k) (hc : (un s)[k]? ≠ some 47) : noSl s f (k + 1) := fun j h1 h2 => by
  rcases Nat.lt_succ_iff_lt_or_eq.1 h2 with h3 | h3
  · exact h j h1 h3
  · rw [h3]; exact hc
theorem extract_all (s : ByteArray) : s.extract 0 s.size = s := un_inj (by rw [un_extract, List.take_of_length_le (by rw [un_length]; omega)]; rfl)

set_option maxRecDepth 100000 in
set_option maxHeartbeats 2000000 in
theorem cut_r (s : ByteArray) (w : World) (hs : s.size ≤ 1099511627776) : Calls Tryz.prog 76 #[.string s] w fun e w' => ∃ v, e = .returned v ∧ w'.ownsRow w.heap.size 9 1 v (piecesB s).length (strs (piecesB s)) ∧ Below w.heap.size w w' := by
  obtain ⟨i0, hi, hz0, hz1, hz2⟩ := info_parts info_str
  have hpl := piecesB_length s
  go_enter Tryz.func76, Tryz.ntmps76
  go_wp2
  go_loopw [3, 4, 5] (fun v fr i wr => ∃ (k f : Nat) (ps : List ByteArray), i = .int .i64 k ∧ fr = .int .i64 f ∧ f ≤ k ∧ wr.ownsRow w.heap.size 9 1 v ps.length (strs ps) ∧ Below w.heap.size w wr ∧
      ((k ≤ s.size ∧ noSl s f k ∧ piecesB s = ps ++ piecesB (s.extract f s.size)) ∨ (k = s.size + 1 ∧ piecesB s = ps))) (fun _ _ i _ => s.size + 1 - (intOf i).toNat)
  case atStart => exact ⟨0, 0, [], rfl, rfl, Nat.le_refl _, World.ownsRow_nil _ _ _ _, Below.refl _ _, .inl ⟨Nat.zero_le _, noSl_nil _ _, by rw [extract_all]; rfl⟩⟩
  case round =>
    obtain ⟨k, f, ps, rfl, rfl, hfk, hown, hB, ⟨hk, hn, hp⟩ | ⟨rfl, hp⟩⟩ := hrel
    · have hsz := hB.size
      have hpsl : ps.length < (piecesB s).length := by
        rw [hp, List.length_append]; have := List.length_pos_iff.2 (piecesB_ne (s.extract f s.size)); omega
      by_cases hlt : k < s.size
      · have hget := un_getElem? s k hlt
        have hne : ((k : Int) == (s.size : Int)) = false := by simp; omega
        by_cases hc : s[k].toNat = 47
        · have hc2 : (un s)[k]? = some 47 := by rw [hget]; congr 1; exact UInt8.toNat_inj.1 hc
          have Hp : Hid (piecesB s = ps ++ [s.extract f k] ++ piecesB (s.extract (k + 1) s.size)) := by unfold Hid; rw [hp, pieces_at s f k hfk hlt hc2 hn]; simp
          clear hget hc2 hn hp
          go_wp2_with (at_builtin; refine wpList_append_own _ rfl _ _ 38 rfl w.heap.size 9 i0 (.string ⟨#[]⟩) 1 16 Tryz.underlying38 hi hz0 hz1 hz2 rfl (by decide) _ _ _ rfl (hown.alloc _) ⟨wr.heap.size, 0, none⟩ 1 1 [.string (s.extract f k)] rfl rfl (cell_one_new _ _ _) (by simp [Value.oneCell']) (by unfold maxLen; omega) (by omega) (by simp; omega) ?_; intro v1 w1 hown1 hgrow1 _)
          have hb1 : Below w.heap.size w w1 := (hB.alloc hsz _).grown hgrow1 (by simp; omega) (fun j hj => (own_ge hown j hj.symm).1)
          exact ⟨⟨k + 1, k + 1, ps ++ [s.extract f k], by go_num, by go_num, Nat.le_refl _, by simpa [strs] using hown1, hb1, .inl ⟨by omega, noSl_nil _ _, Hp.out⟩⟩, by simp [intOf]; omega⟩
        · have hc2 : (un s)[k]? ≠ some 47 := by rw [hget]; intro e; exact hc (by rw [Option.some.inj e]; rfl)
          have Hn : Hid _ := noSl_succ hn hc2
          have Hp : Hid _ := hp
          clear hget hc2 hn hp
          go_wp2
          first
            | exact ⟨⟨k + 1, f, ps, by go_num, rfl, by omega, hown, hB, .inl ⟨by omega, Hn.out, Hp.out⟩⟩, by simp [intOf]; omega⟩
            | (go_roundw
               case rel => exact ⟨k + 1, f, ps, by go_num, rfl, by omega, hown, hB, .inl ⟨by omega, Hn.out, Hp.out⟩⟩
               case measure => simp [intOf]; omega)
      · obtain rfl : k = s.size := by omega
        have Hp : Hid (piecesB s = ps ++ [s.extract f s.size]) := by unfold Hid; rw [hp, pieces_end s f hn]
        have hee : ((s.size : Int) == (s.size : Int)) = true := by simp
        clear hn hp
        go_wp2_with (at_builtin; refine wpList_append_own _ rfl _ _ 38 rfl w.heap.size 9 i0 (.string ⟨#[]⟩) 1 16 Tryz.underlying38 hi hz0 hz1 hz2 rfl (by decide) _ _ _ rfl (hown.alloc _) ⟨wr.heap.size, 0, none⟩ 1 1 [.string (s.extract f s.size)] rfl rfl (cell_one_new _ _ _) (by simp [Value.oneCell']) (by unfold maxLen; omega) (by omega) (by simp; omega) ?_; intro v1 w1 hown1 hgrow1 _)
        have hb1 : Below w.heap.size w w1 := (hB.alloc hsz _).grown hgrow1 (by simp; omega) (fun j hj => (own_ge hown j hj.symm).1)
        exact ⟨⟨s.size + 1, s.size + 1, ps ++ [s.extract f s.size], by go_num, by go_num, Nat.le_refl _, by simpa [strs] using hown1, hb1, .inr ⟨rfl, Hp.out⟩⟩, by simp [intOf]⟩
    · have Hp : Hid _ := hp
      clear hp
      go_wp2
      go_ret
      exact ⟨_, rfl, by rw [Hp.out]; exact hown, hB⟩

/-- Block g holds the texts xs, from its beginning on. -/
def Row (w : World) (g : Nat) (xs : List ByteArray) : Prop := ∀ (j : Nat) z, xs[j]? = some z → w.cell? ⟨g, j, none⟩ = some (.string z)
theorem Row.below {w w2 : World} {g : Nat} {xs : List ByteArray} (h : Row w g xs) (hg : g < w.heap.size) (hb : Below w.heap.size w w2) : Row w2 g xs := fun j z hz => (hb.cell (p := ⟨g, j, none⟩) hg).trans (h j z hz)
theorem row_of_owns {w : World} {base g cap n : Nat} {xs : List ByteArray} (h : w.ownsRow base 9 1 (.slice (some ⟨g, 0, none⟩) n cap) xs.length (strs xs)) : Row w g xs := fun j z hz => by
  have h := h.cells (g := g) rfl j (.string z) (by simp [strs, hz])
  rcases j with _ | j <;> simpa [Addr.add] using h
theorem cut_row (s : ByteArray) (w : World) (hs : s.size ≤ 1099511627776) : Calls Tryz.prog 76 #[.string s] w fun e w' => ∃ g cap, e = .returned (.slice (some ⟨g, 0, none⟩) (piecesB s).length cap) ∧ Row w' g (piecesB s) ∧ g < w'.heap.size ∧ w.heap.size ≤ g ∧ Below w.heap.size w w' := by
  refine (cut_r s w hs).mono ?_
  rintro e w2 ⟨v, rfl, hown, hb⟩
  rcases hown.2 with ⟨_, h0⟩ | ⟨g, cap, cur, rfl, hg, hgb, _⟩
  · exact absurd (List.eq_nil_of_length_eq_zero h0) (piecesB_ne s)
  · exact ⟨g, cap, rfl, row_of_owns hown, (Array.getElem?_eq_some_iff.1 hgb).1, hg, hb⟩
end Go.Proofs.YtcefgnjgcnboeaaGreatDoor

namespace Go.Proofs.YtcefgnjgcnboeaaGreatDoor
open Go Go.RowKit

theorem owns_le {w : World} {b b2 e size n : Nat} {v : Value} {xs : List Value} (h : w.ownsRow b e size v n xs) (hb : b2 ≤ b) : w.ownsRow b2 e size v n xs := by
  refine ⟨h.1, ?_⟩
  rcases h.2 with hn | ⟨g, cap, cur, rfl, hg, rest⟩
  · exact .inl hn
  · exact .inr ⟨g, cap, cur, rfl, by omega, rest⟩
theorem take_succ_filter (xs : List ByteArray) (k : Nat) (x : ByteArray) (h : xs[k]? = some x) : (xs.take (k + 1)).filter full = (xs.take k).filter full ++ (if full x then [x] else []) := by
  rw [List.take_add_one, h, List.filter_append]; simp [List.filter_cons]

set_option maxRecDepth 100000 in
set_option maxHeartbeats 2000000 in
theorem pieces_r (s : ByteArray) (w : World) (hs : s.size ≤ 1099511627776) : Calls Tryz.prog 51 #[.string s] w fun e w' => ∃ v, e = .returned v ∧ w'.ownsRow w.heap.size 9 1 v (namesB s).length (strs (namesB s)) ∧ Below w.heap.size w w' := by
  obtain ⟨i0, hi, hz0, hz1, hz2⟩ := info_parts info_str
  have hpl := piecesB_length s
  go_enter Tryz.func51, Tryz.ntmps51
  go_wp2_with (go_at_call 76; refine (cut_row s _ hs).mono ?_; rintro e w1 ⟨g, cap, rfl, hrow, hgl, _, hb1⟩)
  have HR : Hid _ := hrow
  clear hrow
  go_loopw [3, 5] (fun v i wr => ∃ k : Nat, k ≤ (piecesB s).length ∧ i = .int .i64 k ∧ wr.ownsRow w1.heap.size 9 1 v (((piecesB s).take k).filter full).length (strs (((piecesB s).take k).filter full)) ∧ Below w1.heap.size w1 wr) (fun _ i _ => (piecesB s).length - (intOf i).toNat)
  case atStart => exact ⟨0, Nat.zero_le _, rfl, World.ownsRow_nil _ _ _ _, Below.refl _ _⟩
  case round =>
    obtain ⟨k, hk, rfl, hown, hB⟩ := hrel
    have hsz := hB.size
    by_cases hlt : k < (piecesB s).length
    · obtain ⟨x, hx⟩ : ∃ x, (piecesB s)[k]? = some x := ⟨_, List.getElem?_eq_getElem hlt⟩
      have hcell : wr.cell? ⟨g, k, none⟩ = some (.string x) := (hB.cell (p := ⟨g, k, none⟩) hgl).trans (HR.out k x hx)
      have hfl : (((piecesB s).take k).filter full).length ≤ k := Nat.le_trans (List.length_filter_le _ _) (by simp; omega)
      have ht := take_succ_filter (piecesB s) k x hx
      cases he : x.toList.isEmpty
      · have HT : Hid (((piecesB s).take (k + 1)).filter full = ((piecesB s).take k).filter full ++ [x]) := by unfold Hid; rw [ht]; simp [full, he]
        clear ht hx
        go_wp2_with (at_builtin; refine wpList_append_own _ rfl _ _ 38 rfl w1.heap.size 9 i0 (.string ⟨#[]⟩) 1 16 Tryz.underlying38 hi hz0 hz1 hz2 rfl (by decide) _ _ _ rfl (hown.alloc _) ⟨wr.heap.size, 0, none⟩ 1 1 [.string x] rfl rfl (cell_one_new _ _ _) (by simp [Value.oneCell']) (by unfold maxLen; omega) (by omega) (by simp; omega) ?_; intro v1 w2 hown1 hgrow1 _)
        have hb2 : Below w1.heap.size w1 w2 := (hB.alloc hsz _).grown hgrow1 (by simp; omega) (fun j hj => (own_ge hown j hj.symm).1)
        exact ⟨⟨k + 1, by omega, by go_num, by rw [HT.out]; simpa [strs] using hown1, hb2⟩, by simp [intOf]; omega⟩
      · have HT : Hid (((piecesB s).take (k + 1)).filter full = ((piecesB s).take k).filter full) := by unfold Hid; rw [ht]; simp [full, he]
        clear ht hx
        go_wp2
        first
          | exact ⟨⟨k + 1, by omega, by go_num, by rw [HT.out]; exact hown, hB⟩, by simp [intOf]; omega⟩
          | (go_roundw
             case rel => exact ⟨k + 1, by omega, by go_num, by rw [HT.out]; exact hown, hB⟩
             case measure => simp [intOf]; omega)
    · obtain rfl : k = (piecesB s).length := by omega
      have HT : Hid (((piecesB s).take (piecesB s).length).filter full = namesB s) := by unfold Hid namesB; rw [List.take_length]
      go_wp2
      go_ret
      exact ⟨_, rfl, by rw [← HT.out]; exact owns_le hown hb1.size, hb1.trans (hB.mono hb1.size)⟩

end Go.Proofs.YtcefgnjgcnboeaaGreatDoor

namespace Go.Proofs.YtcefgnjgcnboeaaGreatDoor
open Go Go.RowKit

/-- A walk of the document's, as it is handed about. -/
abbrev wk8 (tv : Value) (here : ByteArray) (lv : Value) (hops : Nat) (trv : Value) (dn : Bool) (ans : ByteArray) (no : Int) : Array Value := #[tv, .string here, lv, .int .i64 hops, trv, .bool dn, .string ans, .int .i64 no]
abbrev zw8 : Array Value := #[.slice none 0 0, .string ⟨#[]⟩, .slice none 0 0, .int .i64 0, .slice none 0 0, .bool false, .string ⟨#[]⟩, .int .i64 0]
theorem info_w8 (cs : Array Value) (h : cs.size = 8) : (Tryz.prog.info? 81).map (·.size) = some cs.size := by
  rw [h]; kernel_rfl
theorem one_w8 (a1 a2 a3 : Option Addr) (n1 n2 n3 c1 c2 c3 : Nat) (here ans : ByteArray) (hops : Nat) (dn : Bool) (no : Int) : (wk8 (.slice a1 n1 c1) here (.slice a2 n2 c2) hops (.slice a3 n3 c3) dn ans no).all (·.oneCell') = true := by
  simp [wk8, Value.oneCell']
theorem new_two (w : World) (o : Obj) (cs : Array Value) (t : TypeId) : ((w.alloc o).alloc (.cells cs t)).heap[w.heap.size + 1]? = some (.cells cs t (0, 0)) := by
  have h := World.alloc_heap_new (w.alloc o) (.cells cs t)
  rw [World.size_alloc] at h
  exact h
theorem two_below (w : World) (o1 o2 : Obj) : Below w.heap.size w ((w.alloc o1).alloc o2) := ((Below.refl _ _).alloc (Nat.le_refl _) _).alloc (by simp) _
variable {a1 a2 a3 : Option Addr} {n1 n2 n3 c1 c2 c3 : Nat} {here ans : ByteArray} {hops : Nat} {dn : Bool} {no : Int}
set_option maxRecDepth 100000 in
set_option maxHeartbeats 2000000 in
theorem refused_r (n : Int) (w : World) : Calls Tryz.prog 81 #[.agg (wk8 (.slice a1 n1 c1) here (.slice a2 n2 c2) hops (.slice a3 n3 c3) dn ans no), .int .i64 n] w fun e w' => e = .returned (.agg (wk8 (.slice a1 n1 c1) here (.slice a2 n2 c2) hops (.slice a3 n3 c3) dn ans n)) ∧ Below w.heap.size w w' := by
  go_enter Tryz.func81, Tryz.ntmps81
  go_wp2
  refine bodyPost_ret (results_cell_row rfl _ _ (w.heap.size + 1) 81 _ (0, 0) _ rfl (new_two w _ _ _) Tryz.underlying81 rfl (info_w8 _ rfl)) rfl ?_
  exact ⟨rfl, two_below _ _ _⟩
set_option maxRecDepth 100000 in
set_option maxHeartbeats 2000000 in
theorem ended_r (q : ByteArray) (w : World) : Calls Tryz.prog 53 #[.agg (wk8 (.slice a1 n1 c1) here (.slice a2 n2 c2) hops (.slice a3 n3 c3) dn ans no), .string q] w fun e w' => e = .returned (.agg (wk8 (.slice a1 n1 c1) here (.slice a2 n2 c2) hops (.slice a3 n3 c3) true q no)) ∧ Below w.heap.size w w' := by
  go_enter Tryz.func53, Tryz.ntmps53
  go_wp2
  refine bodyPost_ret (results_cell_row rfl _ _ (w.heap.size + 1) 81 _ (0, 0) _ rfl (new_two w _ _ _) Tryz.underlying81 rfl (info_w8 _ rfl)) rfl ?_
  exact ⟨rfl, two_below _ _ _⟩
/-- Where an entry of a path is. -/
def atN (L : List Ent) (p : ByteArray) : Int := match L.findIdx? (pathIs p) with | none => -1 | some i => i
set_option maxRecDepth 100000 in
set_option maxHeartbeats 2000000 in
theorem at_r (v : Value) (L : List Ent) (p : ByteArray) (w : World) (hv : EntsAt w v L) (hl : L.length ≤ 1073741824) : Calls Tryz.prog 79 #[v, .string p] w fun e w' => e = .returned (.int .i64 (atN L p)) ∧ w' = w := by
  obtain ⟨a, cap, b, o, rfl, ha, hcap, hc⟩ := hv
  go_enter Tryz.func79, Tryz.ntmps79
  go_wp2
  go_loop [5] (fun i => ∃ k : Nat, i = .int .i64 k ∧ k ≤ L.length ∧ ∀ j x, j < k → L[j]? = some x → pathIs p x = false) (fun i => L.length - (intOf i).toNat)
  case atStart => exact ⟨0, rfl, Nat.zero_le _, fun j x hj => by omega⟩
  case round =>
    obtain ⟨k, rfl, hk, hno⟩ := hrel
    by_cases hlt : k < L.length
    · have hlt' : (k : Int) < (L.length : Int) := by omega
      have hk0 : (0 : Int) ≤ (k : Int) := by omega
      obtain ⟨x, hx⟩ : ∃ x, L[k]? = some x := ⟨_, List.getElem?_eq_getElem hlt⟩
      obtain rfl := ha (fun e => by rw [e] at hlt; simp at hlt)
      have c0 := (hc k x hx).c0
      have hpi : pathIs p x = (x.path.toList == p.toList) := by unfold pathIs; rw [toList_un, toList_un]
      cases hq : pathIs p x with
      | true =>
        rw [hq] at hpi
        have hpb : (x.path.toList == p.toList) = true := hpi.symm
        have HA : Hid (atN L p = k) := by
          unfold Hid atN
          have : L.findIdx? (pathIs p) = some k := by
            rw [List.findIdx?_eq_some_iff_getElem]
            refine ⟨hlt, ?_, fun j hj => ?_⟩
            · rw [List.getElem?_eq_getElem hlt] at hx
              rw [Option.some.inj hx]; exact hq
            · have := hno j _ hj (List.getElem?_eq_getElem (by omega))
              simp [this]
          rw [this]
        clear hx hc ha hpi hq hno
        go_wp2
        go_ret
        exact ⟨by rw [HA.out]; rfl, rfl⟩
      | false =>
        rw [hq] at hpi
        have hpb : (x.path.toList == p.toList) = false := hpi.symm
        have HN : Hid (∀ j x, j < k + 1 → L[j]? = some x → pathIs p x = false) := fun j y hj hy => by
          rcases Nat.lt_succ_iff_lt_or_eq.1 hj with h | h
          · exact hno j y h hy
          · subst h
            rw [hx] at hy
            rw [← Option.some.inj hy]; exact hq
        clear hx hc ha hpi hq hno
        go_wp2
        go_round
        case rel => exact ⟨k + 1, by go_num, by omega, HN.out⟩
        case measure => simp [intOf]; omega
    · have hge : ¬ (k : Int) < (L.length : Int) := by omega
      have HA : Hid (atN L p = -1) := by
        unfold Hid atN
        have : L.findIdx? (pathIs p) = none := by
          rw [List.findIdx?_eq_none_iff]
          intro x hx
          obtain ⟨j, hj, rfl⟩ := List.getElem_of_mem hx
          exact hno j _ (by omega) (List.getElem?_eq_getElem hj)
        rw [this]
      clear hno hc
      go_wp2
      go_ret
      exact ⟨by rw [HA.out]; rfl, rfl⟩
theorem at_none {L : List Ent} {p : ByteArray} (h : L.find? (pathIs p) = none) : atN L p = -1 := by
  unfold atN
  have : L.findIdx? (pathIs p) = none := by
    rw [List.findIdx?_eq_none_iff]
    intro x hx
    simpa using List.find?_eq_none.1 h x hx
  rw [this]
theorem at_some {L : List Ent} {p : ByteArray} {e : Ent} (h : L.find? (pathIs p) = some e) : ∃ i : Nat, atN L p = i ∧ L[i]? = some e := by
  unfold atN
  cases hf : L.findIdx? (pathIs p) with
  | none =>
    rw [List.findIdx?_eq_none_iff] at hf
    have := hf e (List.mem_of_find?_eq_some h)
    rw [List.find?_some h] at this; cases this
  | some i =>
    refine ⟨i, rfl, ?_⟩
    rw [List.findIdx?_eq_some_iff_getElem] at hf
    obtain ⟨hi, h1, h2⟩ := hf
    rw [List.getElem?_eq_getElem hi]
    rw [List.find?_eq_some_iff_getElem] at h
    obtain ⟨h3, j, hj, h4, h5⟩ := h
    have hij : i = j := by
      rcases Nat.lt_trichotomy i j with h6 | h6 | h6
      · have := h5 i h6; rw [h1] at this; simp at this
      · exact h6
      · have := h2 j h6; rw [h4, h3] at this; simp at this
    subst hij
    rw [h4]
set_option maxRecDepth 100000 in
set_option maxHeartbeats 2000000 in
theorem missing_0 (c q : ByteArray) (w : World) : Calls Tryz.prog 80 #[.agg (wk8 (.slice a1 n1 c1) here (.slice a2 n2 c2) hops (.slice a3 n3 c3) dn ans no), .string c, .string q, .int .i64 0] w fun e w' => e = .returned (.agg (wk8 (.slice a1 n1 c1) here (.slice a2 n2 c2) hops (.slice a3 n3 c3) dn ans 10)) ∧ Below w.heap.size w w' := by
  have hb0 : Below w.heap.size w ((w.alloc (.cells (wk8 (.slice a1 n1 c1) here (.slice a2 n2 c2) hops (.slice a3 n3 c3) dn ans no) 81)).alloc (.cells zw8 81)) := two_below _ _ _
  have hL : ∀ w3, Below ((w.alloc (.cells (wk8 (.slice a1 n1 c1) here (.slice a2 n2 c2) hops (.slice a3 n3 c3) dn ans no) 81)).alloc (.cells zw8 81)).heap.size ((w.alloc (.cells (wk8 (.slice a1 n1 c1) here (.slice a2 n2 c2) hops (.slice a3 n3 c3) dn ans no) 81)).alloc (.cells zw8 81)) w3 → w3.heap[w.heap.size + 1]? = some (.cells zw8 81 (0, 0)) := fun w3 hb => (hb.block _ (by simp)).trans (new_two w _ _ _)
  go_enter Tryz.func80, Tryz.ntmps80
  go_wp2_with (first | (go_at_call 81; refine (refused_r _ _).mono ?_; rintro e w3 ⟨rfl, hb3⟩; have hL3 := hL _ hb3) | (refine wpList_store_row rfl 81 (.tmp 8) (.tmp 17) rfl (w.heap.size + 1) (wk8 (.slice a1 n1 c1) here (.slice a2 n2 c2) hops (.slice a3 n3 c3) dn ans 10) rfl rfl 81 zw8 hL3 (info_w8 _ rfl) rfl (one_w8 _ _ _ _ _ _ _ _ _ _ _ _ _ _) ?_))
  refine bodyPost_ret (results_cell_row rfl _ _ (w.heap.size + 1) 81 _ (0, 0) _ rfl (setRow_heap _ (w.heap.size + 1) _ _ _ (0, 0) hL3) Tryz.underlying81 rfl (info_w8 _ rfl)) rfl ?_
  exact ⟨rfl, below_setRow' (below_join hb0 hb3) (by omega) _⟩
set_option maxRecDepth 100000 in
set_option maxHeartbeats 2000000 in
theorem missing_1 (c q : ByteArray) (w : World) : Calls Tryz.prog 80 #[.agg (wk8 (.slice a1 n1 c1) here (.slice a2 n2 c2) hops (.slice a3 n3 c3) dn ans no), .string c, .string q, .int .i64 1] w fun e w' => e = .returned (.agg (wk8 (.slice a1 n1 c1) here (.slice a2 n2 c2) hops (.slice a3 n3 c3) dn ans 10)) ∧ Below w.heap.size w w' := by
  have hb0 : Below w.heap.size w ((w.alloc (.cells (wk8 (.slice a1 n1 c1) here (.slice a2 n2 c2) hops (.slice a3 n3 c3) dn ans no) 81)).alloc (.cells zw8 81)) := two_below _ _ _
  have hL : ∀ w3, Below ((w.alloc (.cells (wk8 (.slice a1 n1 c1) here (.slice a2 n2 c2) hops (.slice a3 n3 c3) dn ans no) 81)).alloc (.cells zw8 81)).heap.size ((w.alloc (.cells (wk8 (.slice a1 n1 c1) here (.slice a2 n2 c2) hops (.slice a3 n3 c3) dn ans no) 81)).alloc (.cells zw8 81)) w3 → w3.heap[w.heap.size + 1]? = some (.cells zw8 81 (0, 0)) := fun w3 hb => (hb.block _ (by simp)).trans (new_two w _ _ _)
  go_enter Tryz.func80, Tryz.ntmps80
  go_wp2_with (first | (go_at_call 81; refine (refused_r _ _).mono ?_; rintro e w3 ⟨rfl, hb3⟩; have hL3 := hL _ hb3) | (refine wpList_store_row rfl 81 (.tmp 8) (.tmp 17) rfl (w.heap.size + 1) (wk8 (.slice a1 n1 c1) here (.slice a2 n2 c2) hops (.slice a3 n3 c3) dn ans 10) rfl rfl 81 zw8 hL3 (info_w8 _ rfl) rfl (one_w8 _ _ _ _ _ _ _ _ _ _ _ _ _ _) ?_))
  refine bodyPost_ret (results_cell_row rfl _ _ (w.heap.size + 1) 81 _ (0, 0) _ rfl (setRow_heap _ (w.heap.size + 1) _ _ _ (0, 0) hL3) Tryz.underlying81 rfl (info_w8 _ rfl)) rfl ?_
  exact ⟨rfl, below_setRow' (below_join hb0 hb3) (by omega) _⟩
end Go.Proofs.YtcefgnjgcnboeaaGreatDoor

namespace Go.Proofs.YtcefgnjgcnboeaaGreatDoor
open Go Go.RowKit

/-- Pieces that lie in a row, from a place on. -/
def LeftAt (W : World) (v : Value) (l : List ByteArray) : Prop :=
  ∃ (a : Option Addr) (c g o : Nat), v = .slice a l.length c ∧ (l ≠ [] → a = some ⟨g, o, none⟩) ∧ l.length ≤ c ∧ c ≤ 9223372036854775807 ∧ ∀ i x, l[i]? = some x → W.cell? ⟨g, o + i, none⟩ = some (.string x)
theorem LeftAt.below {W W' : World} {v : Value} {l : List ByteArray} (h : LeftAt W v l) (hb : Below W.heap.size W W') : LeftAt W' v l := by
  obtain ⟨a, c, g, o, h1, h2, h3, h4, h5⟩ := h
  refine ⟨a, c, g, o, h1, h2, h3, h4, fun i x hx => ?_⟩
  have h6 := h5 i x hx
  exact (hb.cell (p := ⟨g, o + i, none⟩) (World.block_lt_of_cell? W _ h6)).trans h6
/-- The same, and in which block. -/
def LeftB (N : Nat → Prop) (W : World) (v : Value) (l : List ByteArray) : Prop :=
  ∃ (a : Option Addr) (c g o : Nat), v = .slice a l.length c ∧ (l ≠ [] → a = some ⟨g, o, none⟩ ∧ N g) ∧ l.length ≤ c ∧ c ≤ 9223372036854775807 ∧ ∀ i x, l[i]? = some x → W.cell? ⟨g, o + i, none⟩ = some (.string x)
theorem LeftB.toAt {N : Nat → Prop} {W : World} {v : Value} {l : List ByteArray} (h : LeftB N W v l) : LeftAt W v l := by
  obtain ⟨a, c, g, o, h1, h2, h3⟩ := h
  exact ⟨a, c, g, o, h1, fun h => (h2 h).1, h3⟩
theorem left_ne {l : List ByteArray} {i : Nat} {x : ByteArray} (h : l[i]? = some x) : l ≠ [] := fun e => by rw [e] at h; simp at h
theorem LeftB.keep {N N2 : Nat → Prop} {W W' : World} {v : Value} {l : List ByteArray} (h : LeftB N W v l) (hk : ∀ k, N k → k < W.heap.size → N2 k ∧ W'.heap[k]? = W.heap[k]?) : LeftB N2 W' v l := by
  obtain ⟨a, c, g, o, h1, h2, h3, h4, h5⟩ := h
  have hg : ∀ i x, l[i]? = some x → N2 g ∧ W'.heap[g]? = W.heap[g]? := fun i x hx => hk g (h2 (left_ne hx)).2 (World.block_lt_of_cell? W _ (h5 i x hx))
  refine ⟨a, c, g, o, h1, fun hl => ⟨(h2 hl).1, ?_⟩, h3, h4, fun i x hx => ?_⟩
  · cases l with
    | nil => exact absurd rfl hl
    | cons y ys => exact (hg 0 y rfl).1
  · have h6 := h5 i x hx
    unfold World.cell? at h6 ⊢
    rw [show W'.heap[(⟨g, o + i, none⟩ : Addr).block]? = W.heap[(⟨g, o + i, none⟩ : Addr).block]? from (hg i x hx).2]
    exact h6
theorem LeftB.below {N : Nat → Prop} {W W' : World} {v : Value} {l : List ByteArray} (h : LeftB N W v l) (hb : Below W.heap.size W W') : LeftB N W' v l := h.keep (fun k hk hl => ⟨hk, hb.block k hl⟩)
theorem leftB_of_owns {W : World} {base : Nat} {N : Nat → Prop} {v : Value} {l : List ByteArray} (h : W.ownsRow base 9 1 v l.length (tvs l)) (hN : ∀ k, base ≤ k → N k) : LeftB N W v l := by
  rcases h.2 with ⟨rfl, h0⟩ | ⟨g, cap, cur, rfl, hg, hgb, hcap, hm, _⟩
  · have : l = [] := List.eq_nil_of_length_eq_zero h0
    subst this
    exact ⟨none, 0, 0, 0, rfl, fun h => absurd rfl h, Nat.le_refl _, by omega, fun i x hx => by simp at hx⟩
  · refine ⟨some ⟨g, 0, none⟩, cap, g, 0, rfl, fun _ => ⟨rfl, hN g hg⟩, hcap, by unfold maxLen at hm; omega, fun i x hx => ?_⟩
    have hi := (List.getElem?_eq_some_iff.1 hx).1
    rw [Nat.zero_add, h.cellAt i (by omega)]
    simp [tvs, hx]
theorem left_of_owns {W : World} {base : Nat} {v : Value} {l : List ByteArray} (h : W.ownsRow base 9 1 v l.length (tvs l)) : LeftAt W v l := by
  rcases h.2 with ⟨rfl, h0⟩ | ⟨g, cap, cur, rfl, hg, hgb, hcap, hm, _⟩
  · have : l = [] := List.eq_nil_of_length_eq_zero h0
    subst this
    exact ⟨none, 0, 0, 0, rfl, fun h => absurd rfl h, Nat.le_refl _, by omega, fun i x hx => by simp at hx⟩
  · refine ⟨some ⟨g, 0, none⟩, cap, g, 0, rfl, fun _ => rfl, hcap, by unfold maxLen at hm; omega, fun i x hx => ?_⟩
    have hi := (List.getElem?_eq_some_iff.1 hx).1
    rw [Nat.zero_add, h.cellAt i (by omega)]
    simp [tvs, hx]
variable {a1 a3 : Option Addr} {n1 n3 c1 c3 : Nat} {here ans : ByteArray} {hops : Nat} {dn : Bool} {no : Int} {lv : Value}
set_option maxRecDepth 100000 in
set_option maxHeartbeats 2000000 in
theorem followed_12 {a2 : Option Addr} {n2 c2 : Nat} (s : ByteArray) (w : World) (h40 : hops = 40) : Calls Tryz.prog 82 #[.agg (wk8 (.slice a1 n1 c1) here (.slice a2 n2 c2) hops (.slice a3 n3 c3) dn ans no), .string s] w fun e w' => e = .returned (.agg (wk8 (.slice a1 n1 c1) here (.slice a2 n2 c2) hops (.slice a3 n3 c3) dn ans 12)) ∧ Below w.heap.size w w' := by
  subst h40
  have hb0 : Below w.heap.size w ((w.alloc (.cells (wk8 (.slice a1 n1 c1) here (.slice a2 n2 c2) 40 (.slice a3 n3 c3) dn ans no) 81)).alloc (.cells zw8 81)) := two_below _ _ _
  have hL : ∀ w3, Below ((w.alloc (.cells (wk8 (.slice a1 n1 c1) here (.slice a2 n2 c2) 40 (.slice a3 n3 c3) dn ans no) 81)).alloc (.cells zw8 81)).heap.size ((w.alloc (.cells (wk8 (.slice a1 n1 c1) here (.slice a2 n2 c2) 40 (.slice a3 n3 c3) dn ans no) 81)).alloc (.cells zw8 81)) w3 → w3.heap[w.heap.size + 1]? = some (.cells zw8 81 (0, 0)) := fun w3 hb => (hb.block _ (by simp)).trans (new_two w _ _ _)
  go_enter Tryz.func82, Tryz.ntmps82
  go_wp2_with (first | (go_at_call 81; refine (refused_r _ _).mono ?_; rintro e w3 ⟨rfl, hb3⟩; have hL3 := hL _ hb3) | (refine wpList_store_row rfl 81 (.tmp 4) (.tmp 11) rfl (w.heap.size + 1) (wk8 (.slice a1 n1 c1) here (.slice a2 n2 c2) 40 (.slice a3 n3 c3) dn ans 12) rfl rfl 81 zw8 hL3 (info_w8 _ rfl) rfl (one_w8 _ _ _ _ _ _ _ _ _ _ _ _ _ _) ?_))
  refine bodyPost_ret (results_cell_row rfl _ _ (w.heap.size + 1) 81 _ (0, 0) _ rfl (setRow_heap _ (w.heap.size + 1) _ _ _ (0, 0) hL3) Tryz.underlying81 rfl (info_w8 _ rfl)) rfl ?_
  exact ⟨rfl, below_setRow' (below_join hb0 hb3) (by omega) _⟩
def hereS (here s : ByteArray) : ByteArray := if slashed s then ⟨#[]⟩ else here
theorem w8_cells {W : World} {b : Nat} {cs : Array Value} {t : TypeId} (h : W.heap[b]? = some (.cells cs t)) {j : Nat} {v : Value} (hj : cs[j]? = some v) : W.cell? ⟨b, j, none⟩ = some v := by
  unfold World.cell?
  simp only [h]
  simpa using hj
theorem slash_head (s : ByteArray) (h0 : s.size ≠ 0) : ((s.extract 0 1).toList == [47]) = Lib.hasPrefix (un s) [47] := by
  rw [toList_un, un_extract]
  cases hs : un s with
  | nil => exact absurd (by rw [← un_length, hs]; rfl) h0
  | cons c l =>
    show ([c] == [47]) = ((47 == c) && [].isPrefixOf l)
    by_cases hc : c = 47
    · subst hc; rfl
    · have e1 : ([c] == [47]) = false := by simpa using hc
      have e2 : ((47 : UInt8) == c) = false := by simpa using fun h => hc h.symm
      rw [e1, e2]; rfl
set_option maxRecDepth 100000 in
set_option maxHeartbeats 4000000 in
theorem followed_0 (s : ByteArray) (left : List ByteArray) (w : World) (hv : LeftAt w lv left) (h40 : hops ≠ 40) (hh : hops ≤ 40) (hs : s.size ≤ 100) (hs0 : s.size ≠ 0) (hl : left.length ≤ 2199023255552) : Calls Tryz.prog 82 #[.agg (wk8 (.slice a1 n1 c1) here lv hops (.slice a3 n3 c3) dn ans no), .string s] w fun e w' => ∃ lv', e = .returned (.agg (wk8 (.slice a1 n1 c1) (hereS here s) lv' (hops + 1) (.slice a3 n3 c3) dn ans no)) ∧ w'.ownsRow w.heap.size 9 1 lv' (namesB s ++ left).length (tvs (namesB s ++ left)) ∧ Below w.heap.size w w' := by
  obtain ⟨i0, hi, hz0, hz1, hz2⟩ := info_parts info_str'
  obtain ⟨a2, c2, g, o, rfl, ha, hcap, hcm, hc⟩ := hv
  have hne : ¬ (hops : Int) = 40 := by omega
  have hP := fun W => pieces_r s W (by omega)
  have hnl := names_len s
  have hsl := slash_head s hs0
  have i1 : (1 : Int) ≤ (s.size : Int) := by omega
  have hcast : ((hops + 1 : Nat) : Int) = (hops : Int) + 1 := by omega
  cases hb : Lib.hasPrefix (un s) [47] with
  | true =>
    rw [hb] at hsl
    have HHS : Hid (hereS here s = ⟨#[]⟩) := if_pos hb
    have hb0 : Below w.heap.size w ((w.alloc (.cells (wk8 (.slice a1 n1 c1) ⟨#[]⟩ (.slice a2 left.length c2) (hops + 1) (.slice a3 n3 c3) dn ans no) 81)).alloc (.cells zw8 81)) := two_below _ _ _
    have hs0' : ((w.alloc (.cells (wk8 (.slice a1 n1 c1) ⟨#[]⟩ (.slice a2 left.length c2) (hops + 1) (.slice a3 n3 c3) dn ans no) 81)).alloc (.cells zw8 81)).heap.size = w.heap.size + 2 := by simp
    have hk0 : ((w.alloc (.cells (wk8 (.slice a1 n1 c1) ⟨#[]⟩ (.slice a2 left.length c2) (hops + 1) (.slice a3 n3 c3) dn ans no) 81)).alloc (.cells zw8 81)).heap[w.heap.size]? = some (.cells (wk8 (.slice a1 n1 c1) ⟨#[]⟩ (.slice a2 left.length c2) (hops + 1) (.slice a3 n3 c3) dn ans no) 81) := (Below.heap_alloc _ _ _ (by simp)).trans (World.alloc_heap_new w _)
    have hk1 : ((w.alloc (.cells (wk8 (.slice a1 n1 c1) ⟨#[]⟩ (.slice a2 left.length c2) (hops + 1) (.slice a3 n3 c3) dn ans no) 81)).alloc (.cells zw8 81)).heap[w.heap.size + 1]? = some (.cells zw8 81 (0, 0)) := new_two w _ _ _
    have hP0 := hP ((w.alloc (.cells (wk8 (.slice a1 n1 c1) ⟨#[]⟩ (.slice a2 left.length c2) (hops + 1) (.slice a3 n3 c3) dn ans no) 81)).alloc (.cells zw8 81))
    unfold wk8 at hP0
    rw [hcast] at hP0
    go_enter Tryz.func82, Tryz.ntmps82
    go_wp2_with fail
    refine hP0.mono ?_
    rintro e w2 ⟨u2, rfl, hu2, hb2⟩
    clear hP0
    rw [← hcast] at hu2 hb2 ⊢
    have HB2 : Hid (Below w.heap.size w w2) := below_join hb0 hb2
    have hsz2 := hb2.size
    rw [hs0'] at hsz2
    have HK0 : Hid (w2.heap[w.heap.size]? = some (.cells (wk8 (.slice a1 n1 c1) ⟨#[]⟩ (.slice a2 left.length c2) (hops + 1) (.slice a3 n3 c3) dn ans no) 81)) := (hb2.block _ (by simp; omega)).trans hk0
    have HK1 : Hid (w2.heap[w.heap.size + 1]? = some (.cells zw8 81 (0, 0))) := (hb2.block _ (by simp)).trans hk1
    have HU2 : Hid (w2.ownsRow (w.heap.size + 2) 9 1 u2 (namesB s).length (tvs (namesB s))) := by
      have := hu2
      rw [show (((w.alloc (.cells #[.slice a1 n1 c1, .string ⟨#[]⟩, .slice a2 left.length c2, .int .i64 ((hops + 1 : Nat) : Int), .slice a3 n3 c3, .bool dn, .string ans, .int .i64 no] 81)).alloc (.cells zw8 81)).heap.size) = w.heap.size + 2 from hs0'] at this
      exact this
    clear hb2 hu2 hk0 hk1 hb0 hsl hP
    go_wp2
    go_loopw [5, 6] (fun v i wr => ∃ k : Nat, i = .int .i64 k ∧ k ≤ left.length ∧ wr.ownsRow (w.heap.size + 2) 9 1 v ((namesB s).length + k) (tvs (namesB s ++ left.take k)) ∧ Below (w.heap.size + 2) w2 wr) (fun _ i _ => left.length - (intOf i).toNat)
    case atStart => exact ⟨0, rfl, Nat.zero_le _, by simpa using HU2.out, Below.refl _ _⟩
    case round =>
      obtain ⟨k, rfl, hk, hown, hB⟩ := hrel
      have hszr := hB.size
      have hK0r : wr.heap[w.heap.size]? = some (.cells (wk8 (.slice a1 n1 c1) ⟨#[]⟩ (.slice a2 left.length c2) (hops + 1) (.slice a3 n3 c3) dn ans no) 81) := (hB.block _ (by omega)).trans HK0.out
      have d2 : wr.cell? ⟨w.heap.size, 2, none⟩ = some (.slice a2 left.length c2) := w8_cells hK0r rfl
      by_cases hlt : k < left.length
      · have hlt' : (k : Int) < (left.length : Int) := by omega
        have hkk : (0 : Int) ≤ (k : Int) := by omega
        obtain ⟨x, hx⟩ : ∃ x, left[k]? = some x := ⟨_, List.getElem?_eq_getElem hlt⟩
        obtain rfl := ha (fun e => by rw [e] at hlt; simp at hlt)
        have cx := hc k x hx
        have hgl : g < w.heap.size := World.block_lt_of_cell? w _ cx
        have cx2 : wr.cell? ⟨g, o + k, none⟩ = some (.string x) := (hB.cell (p := ⟨g, o + k, none⟩) (show g < w.heap.size + 2 by omega)).trans ((HB2.out.cell (p := ⟨g, o + k, none⟩) hgl).trans cx)
        have HX : Hid (tvs (namesB s ++ left.take (k + 1)) = tvs (namesB s ++ left.take k) ++ [.string x]) := by unfold Hid; rw [List.take_add_one, hx]; simp [tvs]
        clear hx hc ha hK0r cx
        go_wp2_with (at_builtin; refine wpList_append_own _ rfl _ _ 38 rfl (w.heap.size + 2) 9 i0 (.string ⟨#[]⟩) 1 16 Tryz.underlying38 hi hz0 hz1 hz2 rfl (by decide) _ _ _ rfl (hown.alloc _) ⟨wr.heap.size, 0, none⟩ 1 1 [.string x] rfl rfl (cell_one_new _ _ _) (by simp [Value.oneCell']) (by unfold maxLen; omega) (by omega) (by simp; omega) ?_; intro v1 w3 hown1 hgrow1 _)
        have hb3 : Below (w.heap.size + 2) w2 w3 := (hB.alloc (by omega) _).grown hgrow1 (by simp; omega) (fun j hj => (own_ge hown j hj.symm).1)
        go_roundw
        case rel => exact ⟨k + 1, by go_num, by omega, by rw [HX.out]; exact hown1, hb3⟩
        case measure => simp [intOf]; omega
      · have hge : ¬ (k : Int) < (left.length : Int) := by omega
        have hkl : k = left.length := by omega
        rw [hkl, List.take_length] at hown
        have hK1r : wr.heap[w.heap.size + 1]? = some (.cells zw8 81 (0, 0)) := (hB.block _ (by omega)).trans HK1.out
        obtain ⟨av, cv, rfl⟩ := row_form hown
        have f2 : wr.frozen? ⟨w.heap.size, 2, none⟩ = false := by simp [World.frozen?, hK0r]
        have hS0 : (wr.setCell ⟨w.heap.size, 2, none⟩ (.slice av ((namesB s).length + left.length) cv)).heap[w.heap.size]? = some (.cells (wk8 (.slice a1 n1 c1) ⟨#[]⟩ (.slice av ((namesB s).length + left.length) cv) (hops + 1) (.slice a3 n3 c3) dn ans no) 81) := set_block hK0r _
        have hS1 : (wr.setCell ⟨w.heap.size, 2, none⟩ (.slice av ((namesB s).length + left.length) cv)).heap[w.heap.size + 1]? = some (.cells zw8 81 (0, 0)) := (Below.heap_setCell _ _ _ _ (by simp)).trans hK1r
        have HO : Hid (((wr.setCell ⟨w.heap.size, 2, none⟩ (.slice av ((namesB s).length + left.length) cv)).setRow (w.heap.size + 1) (wk8 (.slice a1 n1 c1) ⟨#[]⟩ (.slice av ((namesB s).length + left.length) cv) (hops + 1) (.slice a3 n3 c3) dn ans no)).ownsRow w.heap.size 9 1 (.slice av ((namesB s).length + left.length) cv) (namesB s ++ left).length (tvs (namesB s ++ left))) := by
          refine owns_le (b := w.heap.size + 2) (row_loc (A := wr) (by rw [List.length_append]; exact hown) (fun j hj => ?_)) (by omega)
          have := (hown.lt j hj).1
          exact (setRow_other _ _ _ _ (by omega)).trans (Below.heap_setCell _ _ _ _ (by show j ≠ w.heap.size; omega))
        have HBF : Hid (Below w.heap.size w ((wr.setCell ⟨w.heap.size, 2, none⟩ (.slice av ((namesB s).length + left.length) cv)).setRow (w.heap.size + 1) (wk8 (.slice a1 n1 c1) ⟨#[]⟩ (.slice av ((namesB s).length + left.length) cv) (hops + 1) (.slice a3 n3 c3) dn ans no))) :=
          below_setRow' ((HB2.out.trans (hB.mono (by omega))).setCell (p := ⟨w.heap.size, 2, none⟩) (Nat.le_refl _) _) (by omega) _
        clear hown hc ha hK0r hK1r hkl
        go_wp2_with (first | (refine wpList_load_row rfl 81 (.tmp 2) rfl w.heap.size rfl 81 _ (0, 0) _ hS0 Tryz.underlying81 rfl (info_w8 _ rfl) ?_) | (refine wpList_store_row rfl 81 (.tmp 4) (.tmp 39) rfl (w.heap.size + 1) (wk8 (.slice a1 n1 c1) ⟨#[]⟩ (.slice av ((namesB s).length + left.length) cv) (hops + 1) (.slice a3 n3 c3) dn ans no) rfl rfl 81 zw8 hS1 (info_w8 _ rfl) rfl (one_w8 _ _ _ _ _ _ _ _ _ _ _ _ _ _) ?_))
        refine bodyPost_ret (results_cell_row rfl _ _ (w.heap.size + 1) 81 _ (0, 0) _ rfl (setRow_heap _ (w.heap.size + 1) _ _ _ (0, 0) hS1) Tryz.underlying81 rfl (info_w8 _ rfl)) rfl ?_
        exact ⟨_, by rw [HHS.out], (by have h5 := HO.out; rw [List.length_append] at h5; first | exact h5 | exact HO.out), HBF.out⟩
  | false =>
    rw [hb] at hsl
    have HHS : Hid (hereS here s = here) := if_neg (by unfold slashed; rw [hb]; simp)
    have hb0 : Below w.heap.size w ((w.alloc (.cells (wk8 (.slice a1 n1 c1) here (.slice a2 left.length c2) (hops + 1) (.slice a3 n3 c3) dn ans no) 81)).alloc (.cells zw8 81)) := two_below _ _ _
    have hs0' : ((w.alloc (.cells (wk8 (.slice a1 n1 c1) here (.slice a2 left.length c2) (hops + 1) (.slice a3 n3 c3) dn ans no) 81)).alloc (.cells zw8 81)).heap.size = w.heap.size + 2 := by simp
    have hk0 : ((w.alloc (.cells (wk8 (.slice a1 n1 c1) here (.slice a2 left.length c2) (hops + 1) (.slice a3 n3 c3) dn ans no) 81)).alloc (.cells zw8 81)).heap[w.heap.size]? = some (.cells (wk8 (.slice a1 n1 c1) here (.slice a2 left.length c2) (hops + 1) (.slice a3 n3 c3) dn ans no) 81) := (Below.heap_alloc _ _ _ (by simp)).trans (World.alloc_heap_new w _)
    have hk1 : ((w.alloc (.cells (wk8 (.slice a1 n1 c1) here (.slice a2 left.length c2) (hops + 1) (.slice a3 n3 c3) dn ans no) 81)).alloc (.cells zw8 81)).heap[w.heap.size + 1]? = some (.cells zw8 81 (0, 0)) := new_two w _ _ _
    have hP0 := hP ((w.alloc (.cells (wk8 (.slice a1 n1 c1) here (.slice a2 left.length c2) (hops + 1) (.slice a3 n3 c3) dn ans no) 81)).alloc (.cells zw8 81))
    unfold wk8 at hP0
    rw [hcast] at hP0
    go_enter Tryz.func82, Tryz.ntmps82
    go_wp2_with fail
    refine hP0.mono ?_
    rintro e w2 ⟨u2, rfl, hu2, hb2⟩
    clear hP0
    rw [← hcast] at hu2 hb2 ⊢
    have HB2 : Hid (Below w.heap.size w w2) := below_join hb0 hb2
    have hsz2 := hb2.size
    rw [hs0'] at hsz2
    have HK0 : Hid (w2.heap[w.heap.size]? = some (.cells (wk8 (.slice a1 n1 c1) here (.slice a2 left.length c2) (hops + 1) (.slice a3 n3 c3) dn ans no) 81)) := (hb2.block _ (by simp; omega)).trans hk0
    have HK1 : Hid (w2.heap[w.heap.size + 1]? = some (.cells zw8 81 (0, 0))) := (hb2.block _ (by simp)).trans hk1
    have HU2 : Hid (w2.ownsRow (w.heap.size + 2) 9 1 u2 (namesB s).length (tvs (namesB s))) := by
      have := hu2
      rw [show (((w.alloc (.cells #[.slice a1 n1 c1, .string here, .slice a2 left.length c2, .int .i64 ((hops + 1 : Nat) : Int), .slice a3 n3 c3, .bool dn, .string ans, .int .i64 no] 81)).alloc (.cells zw8 81)).heap.size) = w.heap.size + 2 from hs0'] at this
      exact this
    clear hb2 hu2 hk0 hk1 hb0 hsl hP
    go_wp2
    go_loopw [5, 6] (fun v i wr => ∃ k : Nat, i = .int .i64 k ∧ k ≤ left.length ∧ wr.ownsRow (w.heap.size + 2) 9 1 v ((namesB s).length + k) (tvs (namesB s ++ left.take k)) ∧ Below (w.heap.size + 2) w2 wr) (fun _ i _ => left.length - (intOf i).toNat)
    case atStart => exact ⟨0, rfl, Nat.zero_le _, by simpa using HU2.out, Below.refl _ _⟩
    case round =>
      obtain ⟨k, rfl, hk, hown, hB⟩ := hrel
      have hszr := hB.size
      have hK0r : wr.heap[w.heap.size]? = some (.cells (wk8 (.slice a1 n1 c1) here (.slice a2 left.length c2) (hops + 1) (.slice a3 n3 c3) dn ans no) 81) := (hB.block _ (by omega)).trans HK0.out
      have d2 : wr.cell? ⟨w.heap.size, 2, none⟩ = some (.slice a2 left.length c2) := w8_cells hK0r rfl
      by_cases hlt : k < left.length
      · have hlt' : (k : Int) < (left.length : Int) := by omega
        have hkk : (0 : Int) ≤ (k : Int) := by omega
        obtain ⟨x, hx⟩ : ∃ x, left[k]? = some x := ⟨_, List.getElem?_eq_getElem hlt⟩
        obtain rfl := ha (fun e => by rw [e] at hlt; simp at hlt)
        have cx := hc k x hx
        have hgl : g < w.heap.size := World.block_lt_of_cell? w _ cx
        have cx2 : wr.cell? ⟨g, o + k, none⟩ = some (.string x) := (hB.cell (p := ⟨g, o + k, none⟩) (show g < w.heap.size + 2 by omega)).trans ((HB2.out.cell (p := ⟨g, o + k, none⟩) hgl).trans cx)
        have HX : Hid (tvs (namesB s ++ left.take (k + 1)) = tvs (namesB s ++ left.take k) ++ [.string x]) := by unfold Hid; rw [List.take_add_one, hx]; simp [tvs]
        clear hx hc ha hK0r cx
        go_wp2_with (at_builtin; refine wpList_append_own _ rfl _ _ 38 rfl (w.heap.size + 2) 9 i0 (.string ⟨#[]⟩) 1 16 Tryz.underlying38 hi hz0 hz1 hz2 rfl (by decide) _ _ _ rfl (hown.alloc _) ⟨wr.heap.size, 0, none⟩ 1 1 [.string x] rfl rfl (cell_one_new _ _ _) (by simp [Value.oneCell']) (by unfold maxLen; omega) (by omega) (by simp; omega) ?_; intro v1 w3 hown1 hgrow1 _)
        have hb3 : Below (w.heap.size + 2) w2 w3 := (hB.alloc (by omega) _).grown hgrow1 (by simp; omega) (fun j hj => (own_ge hown j hj.symm).1)
        go_roundw
        case rel => exact ⟨k + 1, by go_num, by omega, by rw [HX.out]; exact hown1, hb3⟩
        case measure => simp [intOf]; omega
      · have hge : ¬ (k : Int) < (left.length : Int) := by omega
        have hkl : k = left.length := by omega
        rw [hkl, List.take_length] at hown
        have hK1r : wr.heap[w.heap.size + 1]? = some (.cells zw8 81 (0, 0)) := (hB.block _ (by omega)).trans HK1.out
        obtain ⟨av, cv, rfl⟩ := row_form hown
        have f2 : wr.frozen? ⟨w.heap.size, 2, none⟩ = false := by simp [World.frozen?, hK0r]
        have hS0 : (wr.setCell ⟨w.heap.size, 2, none⟩ (.slice av ((namesB s).length + left.length) cv)).heap[w.heap.size]? = some (.cells (wk8 (.slice a1 n1 c1) here (.slice av ((namesB s).length + left.length) cv) (hops + 1) (.slice a3 n3 c3) dn ans no) 81) := set_block hK0r _
        have hS1 : (wr.setCell ⟨w.heap.size, 2, none⟩ (.slice av ((namesB s).length + left.length) cv)).heap[w.heap.size + 1]? = some (.cells zw8 81 (0, 0)) := (Below.heap_setCell _ _ _ _ (by simp)).trans hK1r
        have HO : Hid (((wr.setCell ⟨w.heap.size, 2, none⟩ (.slice av ((namesB s).length + left.length) cv)).setRow (w.heap.size + 1) (wk8 (.slice a1 n1 c1) here (.slice av ((namesB s).length + left.length) cv) (hops + 1) (.slice a3 n3 c3) dn ans no)).ownsRow w.heap.size 9 1 (.slice av ((namesB s).length + left.length) cv) (namesB s ++ left).length (tvs (namesB s ++ left))) := by
          refine owns_le (b := w.heap.size + 2) (row_loc (A := wr) (by rw [List.length_append]; exact hown) (fun j hj => ?_)) (by omega)
          have := (hown.lt j hj).1
          exact (setRow_other _ _ _ _ (by omega)).trans (Below.heap_setCell _ _ _ _ (by show j ≠ w.heap.size; omega))
        have HBF : Hid (Below w.heap.size w ((wr.setCell ⟨w.heap.size, 2, none⟩ (.slice av ((namesB s).length + left.length) cv)).setRow (w.heap.size + 1) (wk8 (.slice a1 n1 c1) here (.slice av ((namesB s).length + left.length) cv) (hops + 1) (.slice a3 n3 c3) dn ans no))) :=
          below_setRow' ((HB2.out.trans (hB.mono (by omega))).setCell (p := ⟨w.heap.size, 2, none⟩) (Nat.le_refl _) _) (by omega) _
        clear hown hc ha hK0r hK1r hkl
        go_wp2_with (first | (refine wpList_load_row rfl 81 (.tmp 2) rfl w.heap.size rfl 81 _ (0, 0) _ hS0 Tryz.underlying81 rfl (info_w8 _ rfl) ?_) | (refine wpList_store_row rfl 81 (.tmp 4) (.tmp 39) rfl (w.heap.size + 1) (wk8 (.slice a1 n1 c1) here (.slice av ((namesB s).length + left.length) cv) (hops + 1) (.slice a3 n3 c3) dn ans no) rfl rfl 81 zw8 hS1 (info_w8 _ rfl) rfl (one_w8 _ _ _ _ _ _ _ _ _ _ _ _ _ _) ?_))
        refine bodyPost_ret (results_cell_row rfl _ _ (w.heap.size + 1) 81 _ (0, 0) _ rfl (setRow_heap _ (w.heap.size + 1) _ _ _ (0, 0) hS1) Tryz.underlying81 rfl (info_w8 _ rfl)) rfl ?_
        exact ⟨_, by rw [HHS.out], (by have h5 := HO.out; rw [List.length_append] at h5; first | exact h5 | exact HO.out), HBF.out⟩
end Go.Proofs.YtcefgnjgcnboeaaGreatDoor
