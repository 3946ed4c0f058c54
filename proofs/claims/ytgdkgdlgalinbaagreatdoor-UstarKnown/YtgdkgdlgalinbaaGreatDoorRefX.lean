/- The document's small functions of layer 5: nought, in, Octal, Filled, Sum. -/
import Derived.Test.YtgdkgdlgalinbaaGreatDoorFitU
import Derived.Test.YtgdkgdlgalinbaaGreatDoorSumU
import Derived.Deep.AppendLies
import Derived.Laws.OwnMore
namespace Go.Proofs.YtgdkgdlgalinbaaGreatDoor
open Go Go.RowKit

theorem noZ_iff (s : ByteArray) : noZ s = true ↔ ∀ j : Nat, (un s)[j]? ≠ some 0 := by
  unfold noZ
  rw [decide_eq_true_iff]
  have hr := indexByte_range 0 (un s)
  constructor
  · intro h
    exact indexByte_miss 0 (un s) (by omega)
  · intro h
    rcases Int.lt_or_le (Lib.indexByte (un s) 0) 0 with h1 | h1
    · exact h1
    · exfalso
      obtain ⟨i, hi⟩ : ∃ i : Nat, Lib.indexByte (un s) 0 = i := ⟨_, (Int.toNat_of_nonneg h1).symm⟩
      exact h i (indexByte_hit 0 (un s) i hi).1
set_option maxHeartbeats 400000 in
theorem nought_r (s : ByteArray) (w : World) (hs : s.size ≤ 9223372036854775806) : Calls Tryz.prog 27 #[.string s] w fun e w' => e = .returned (.bool (!noZ s)) ∧ w' = w := by
  go_enter Tryz.func27, Tryz.ntmps27
  go_wp2
  go_loop [3] (fun i => ∃ k : Nat, k ≤ s.size ∧ i = .int .i64 k ∧ Hid (∀ j, j < k → (un s)[j]? ≠ some 0)) (fun i => s.size - (intOf i).toNat)
  case atStart => exact ⟨0, Nat.zero_le _, rfl, fun j hj => absurd hj (by omega)⟩
  case round =>
    obtain ⟨k, hk, rfl, HA⟩ := hrel
    by_cases hlt : k < s.size
    · have hget : Hid ((un s)[k]? = some s[k]) := un_getElem? s k hlt
      by_cases hc : s[k].toNat = 0
      · have HN : Hid (noZ s = false) := by
          unfold Hid
          cases h : noZ s with
          | false => rfl
          | true => exact absurd (by rw [hget.out]; congr 1; exact UInt8.toNat_inj.1 hc) ((noZ_iff s).1 h k)
        go_wp2
        go_ret
        exact ⟨by rw [HN.out]; rfl, rfl⟩
      · go_wp2
        all_goals
          go_round
          case rel =>
            refine ⟨k + 1, by omega, by go_num, fun j hj => ?_⟩
            rcases Nat.lt_or_ge j k with h1 | h1
            · exact HA.out j h1
            · obtain rfl : j = k := by omega
              rw [hget.out]; intro e; exact hc (by rw [Option.some.inj e]; rfl)
          case measure => simp [intOf]; omega
    · obtain rfl : k = s.size := by omega
      have HN : Hid (noZ s = true) := (noZ_iff s).2 (fun j => by
        rcases Nat.lt_or_ge j s.size with h1 | h1
        · exact HA.out j h1
        · rw [un_none s j h1]; exact fun e => nomatch e)
      go_wp2
      go_ret
      exact ⟨by rw [HN.out]; rfl, rfl⟩
theorem in_r (x m : Int) (w : World) : Calls Tryz.prog 29 #[.int .i64 x, .int .i64 m] w fun e w' => e = .returned (.bool (decide (0 ≤ x) && decide (x ≤ m))) ∧ w' = w := by
  by_cases h0 : 0 ≤ x
  · go_enter Tryz.func29, Tryz.ntmps29
    go_wp2
    go_ret
    exact ⟨by rw [decide_eq_true h0]; rfl, rfl⟩
  · have h0' : decide (0 ≤ x) = false := decide_eq_false h0
    go_enter Tryz.func29, Tryz.ntmps29
    go_wp2
    go_ret
    exact ⟨rfl, rfl⟩
/-- The document's sum of the first k bytes. -/
def sumS (l : List UInt8) (k : Nat) : Nat := sumTo l k + 32 * (min k 156 - min k 148)
set_option maxRecDepth 100000 in
set_option maxHeartbeats 1000000 in
theorem sum_r (s : ByteArray) (hs : s.size = 512) (w : World) : Calls Tryz.prog 32 #[.string s] w fun e w' => e = .returned (.int .i64 (sumB (un s))) ∧ w' = w := by
  go_enter Tryz.func32, Tryz.ntmps32
  go_wp2
  go_loop [3, 4] (fun a i => ∃ k : Nat, k ≤ 512 ∧ i = .int .i64 k ∧ a = .int .i64 (sumS (un s) k)) (fun _ i => 512 - (intOf i).toNat)
  case atStart => exact ⟨0, by omega, rfl, rfl⟩
  case round =>
    obtain ⟨k, hk, rfl, rfl⟩ := hrel
    by_cases hlt : k < 512
    · have hlt' : k < s.size := by omega
      have hg : (un s).getD k 0 = s[k] := by rw [List.getD_eq_getElem?_getD, un_getElem? s k hlt']; rfl
      have hle := sumTo_le (un s) k
      have hb8 := s[k].toNat_lt
      have HS : Hid (sumTo (un s) (k + 1) = sumTo (un s) k + if k < 148 ∨ 156 ≤ k then s[k].toNat else 0) := by unfold Hid; rw [sumTo, hg]
      have hS0 : sumS (un s) k = sumTo (un s) k + 32 * (min k 156 - min k 148) := rfl
      have HS1 : Hid (sumS (un s) (k + 1) = sumTo (un s) (k + 1) + 32 * (min (k + 1) 156 - min (k + 1) 148)) := rfl
      clear hg
      obtain ⟨U, hU⟩ : ∃ U, sumS (un s) k = U := ⟨_, rfl⟩
      rw [hU] at hS0 ⊢
      have hUle : U ≤ 150000 := by omega
      have HU : Hid (U = sumTo (un s) k + 32 * (min k 156 - min k 148)) := hS0
      clear hS0 hU hle
      by_cases hin : 148 ≤ k ∧ k < 156
      · have i1 : (148 : Int) ≤ (k : Int) := by omega
        have i2 : (k : Int) < 156 := by omega
        go_wp2
        all_goals
          go_round
          case rel => exact ⟨k + 1, by omega, by go_num, by rw [HS1.out, HS.out, if_neg (by omega)]; have := HU.out; congr 1; omega⟩
          case measure => simp [intOf]; omega
      · by_cases hlo : 148 ≤ k
        · have i1 : (148 : Int) ≤ (k : Int) := by omega
          have i2 : ¬ (k : Int) < 156 := by omega
          go_wp2
          all_goals
            go_round
            case rel => exact ⟨k + 1, by omega, by go_num, by rw [HS1.out, HS.out, if_pos (by omega)]; have := HU.out; congr 1; omega⟩
            case measure => simp [intOf]; omega
        · have i1 : ¬ (148 : Int) ≤ (k : Int) := by omega
          go_wp2
          all_goals
            go_round
            case rel => exact ⟨k + 1, by omega, by go_num, by rw [HS1.out, HS.out, if_pos (by omega)]; have := HU.out; congr 1; omega⟩
            case measure => simp [intOf]; omega
    · obtain rfl : k = 512 := by omega
      have HE : Hid (sumS (un s) 512 = sumB (un s)) := by unfold Hid sumS sumB; omega
      rw [HE.out]
      go_wp2
      go_ret
      exact ⟨rfl, rfl⟩

theorem own_ge {W : World} {base e size k : Nat} {v : Value} {xs : List Value} (h : W.ownsRow base e size v k xs) : ∀ j, some j = v.ownBlock → base ≤ j ∧ ∃ cur, W.heap[j]? = some (.cells cur e (0, 0)) := by
  intro j hj
  rcases h.2 with ⟨rfl, _⟩ | ⟨g, cap, cur, rfl, hg, hgb, _⟩
  · simp [Value.ownBlock] at hj
  · simp [Value.ownBlock] at hj; subst hj; exact ⟨hg, cur, hgb⟩
theorem byte_info : (Tryz.prog.info? 5).map (fun i => (i.zero, i.size, i.bytes)) = some (some (.int .u8 0), 1, 1) := by kernel_rfl
theorem cell_one_new' (w : World) (x : Value) (t : TypeId) : ∀ (j : Nat) u, [x][j]? = some u → (w.alloc (.cells #[x] t)).cell? ((⟨w.heap.size, 0, none⟩ : Addr).add j) = some u := by
  intro j u hj
  rcases j with _ | j
  · simp at hj; subst hj; simp [Addr.add]
  · simp at hj
/-- string(b) of a list of bytes of one's own. -/
theorem conv_own (l : List UInt8) (B : Nat) (v : Value) (w : World) (h : w.ownsRow B 5 1 v l.length (Lib.byteCells l)) : (convert 44 9 v).run Tryz.prog w = .ok (.string (bs l)) w := by
  rcases h.2 with ⟨rfl, h0⟩ | ⟨g, cap, cur, rfl, _⟩
  · obtain rfl : l = [] := List.length_eq_zero_iff.1 h0
    rw [run_convert_bytes_string w 44 9 5 none 0 0 Tryz.underlying44 Tryz.underlying5 Tryz.underlying9]
    rfl
  · exact run_convert_bytes_back w 44 9 5 ⟨g, 0, none⟩ cap l Tryz.underlying44 Tryz.underlying5 Tryz.underlying9 (fun j hj => by
      rw [Addr.add_mid, Nat.zero_add, h.cellAt j (by omega)]
      unfold Lib.byteCells
      rw [List.getElem?_map, List.getElem?_eq_getElem hj]; rfl)
/-- The first k bytes of a text with bytes 0 behind it. -/
def fillK (l : List UInt8) (k : Nat) : List UInt8 := l.take k ++ List.replicate (k - l.length) 0
theorem fillK_length (l : List UInt8) (k : Nat) : (fillK l k).length = k := by unfold fillK; simp; omega
theorem fillK_in (l : List UInt8) (k : Nat) (h : k < l.length) : fillK l (k + 1) = fillK l k ++ [l[k]] := by
  unfold fillK
  rw [List.take_add_one, List.getElem?_eq_getElem h, show k + 1 - l.length = 0 by omega, show k - l.length = 0 by omega]
  simp
theorem fillK_out (l : List UInt8) (k : Nat) (h : l.length ≤ k) : fillK l (k + 1) = fillK l k ++ [0] := by
  unfold fillK
  rw [List.take_of_length_le (by omega), List.take_of_length_le h, show k + 1 - l.length = (k - l.length) + 1 by omega, List.replicate_succ', List.append_assoc]
set_option maxRecDepth 100000 in
set_option maxHeartbeats 2000000 in
theorem filled_r (s : ByteArray) (n : Nat) (hn : n ≤ 1000) (w : World) : Calls Tryz.prog 30 #[.string s, .int .i64 n] w fun e w' => e = .returned (.string (bs (fillK (un s) n))) ∧ Below w.heap.size w w' := by
  obtain ⟨i0, hi, z0, z1, z2⟩ := info_parts byte_info
  go_enter Tryz.func30, Tryz.ntmps30
  go_wp2
  go_loopw [5, 6] (fun v i wr => ∃ k : Nat, k ≤ n ∧ i = .int .i64 k ∧ wr.ownsRow w.heap.size 5 1 v k (Lib.byteCells (fillK (un s) k)) ∧ Below w.heap.size w wr) (fun _ i _ => n - (intOf i).toNat)
  case atStart => exact ⟨0, by omega, rfl, by rw [show fillK (un s) 0 = [] by simp [fillK]]; exact World.ownsRow_nil _ _ _ _, Below.refl _ _⟩
  case round =>
    obtain ⟨k, hk, rfl, hown, hB⟩ := hrel
    have hsz := hB.size
    by_cases hlt : k < n
    · by_cases hin : k < s.size
      · have hin' : (k : Int) < (s.size : Int) := by omega
        have hkl : k < (un s).length := by rw [un_length]; exact hin
        have hgk : (un s)[k] = s[k] := by
          have := un_getElem? s k hin
          rw [List.getElem?_eq_getElem hkl] at this
          exact Option.some.inj this
        have HF : Hid (fillK (un s) (k + 1) = fillK (un s) k ++ [s[k]]) := by unfold Hid; rw [fillK_in _ _ hkl, hgk]
        clear hgk
        have hcl : (Lib.byteCells (fillK (un s) k)).length = k := by rw [Lib.byteCells_length, fillK_length]
        go_wp2_with (at_builtin; refine wpList_append_own _ rfl _ _ 44 rfl w.heap.size 5 i0 (.int .u8 0) 1 1 Tryz.underlying44 hi z0 z1 z2 rfl (by decide) _ _ _ rfl (hown.alloc _) ⟨wr.heap.size, 0, none⟩ 1 1 [.int .u8 s[k].toNat] rfl rfl (cell_one_new' _ _ _) (by simp [Value.oneCell']) (by unfold maxLen; omega) (by omega) (by simp; omega) ?_; intro v1 w1 hown1 hgrow1 _)
        have hb1 : Below w.heap.size w w1 := (hB.alloc hsz _).grown hgrow1 (by simp; omega) (fun j hj => (own_ge hown j hj.symm).1)
        exact ⟨⟨k + 1, by omega, by go_num, by rw [HF.out, Lib.byteCells_append]; exact hown1, hb1⟩, by simp [intOf]; omega⟩
      · have hin' : ¬ (k : Int) < (s.size : Int) := by omega
        have HF : Hid (fillK (un s) (k + 1) = fillK (un s) k ++ [0]) := fillK_out _ _ (by rw [un_length]; omega)
        have hcl : (Lib.byteCells (fillK (un s) k)).length = k := by rw [Lib.byteCells_length, fillK_length]
        go_wp2_with (at_builtin; refine wpList_append_own _ rfl _ _ 44 rfl w.heap.size 5 i0 (.int .u8 0) 1 1 Tryz.underlying44 hi z0 z1 z2 rfl (by decide) _ _ _ rfl (hown.alloc _) ⟨wr.heap.size, 0, none⟩ 1 1 [.int .u8 0] rfl rfl (cell_one_new' _ _ _) (by simp [Value.oneCell']) (by unfold maxLen; omega) (by omega) (by simp; omega) ?_; intro v1 w1 hown1 hgrow1 _)
        have hb1 : Below w.heap.size w w1 := (hB.alloc hsz _).grown hgrow1 (by simp; omega) (fun j hj => (own_ge hown j hj.symm).1)
        exact ⟨⟨k + 1, by omega, by go_num, by rw [HF.out, Lib.byteCells_append]; exact hown1, hb1⟩, by simp [intOf]; omega⟩
    · obtain rfl : k = n := by omega
      have hcv := conv_own (fillK (un s) k) w.heap.size _ wr (by rw [fillK_length]; exact hown)
      clear hown
      go_wp2
      go_ret
      exact ⟨rfl, hB⟩
set_option maxRecDepth 100000 in
set_option maxHeartbeats 2000000 in
theorem octal_r (u n : Nat) (hu : u < 1099511627776) (hn : n ≤ 100) (w : World) : Calls Tryz.prog 31 #[.int .i64 u, .int .i64 n] w fun e w' => e = .returned (.string (bs (octD u n))) ∧ Below w.heap.size w w' := by
  go_enter Tryz.func31, Tryz.ntmps31
  go_wp2
  go_loopw [0, 5, 6] (fun x s i wr => ∃ (k y : Nat) (T : List UInt8), k ≤ n ∧ i = .int .i64 k ∧ x = .int .i64 y ∧ s = .string (bs T) ∧ y ≤ u ∧ T.length = k ∧ octD y (n - k) ++ T = octD u n ∧ Below w.heap.size w wr) (fun _ _ i _ => n - (intOf i).toNat)
  case atStart => exact ⟨0, u, [], by omega, rfl, rfl, rfl, Nat.le_refl _, rfl, by simp, Below.refl _ _⟩
  case round =>
    obtain ⟨k, y, T, hk, rfl, rfl, rfl, hy, hT, hoct, hB⟩ := hrel
    have hsz := hB.size
    have HO : Hid (octD y (n - k) ++ T = octD u n) := hoct
    clear hoct
    have hbz : (bs T).size = k := by rw [size_bs, hT]
    by_cases hlt : k < n
    · have hm8 : y % 8 < 8 := Nat.mod_lt _ (by decide)
      have HOS : Hid (octD (y / 8) (n - (k + 1)) ++ (dg (y % 8) :: T) = octD u n) := by
        unfold Hid
        rw [← HO.out, show n - k = (n - (k + 1)) + 1 by omega, octD, List.append_assoc]; rfl
      have HAP : Hid (bs [dg (y % 8)] ++ bs T = bs (dg (y % 8) :: T)) := by
        unfold Hid; apply un_inj; rw [un_append, un_bs, un_bs, un_bs]; rfl
      have HDG : Hid ((dg (y % 8)).toNat = 48 + y % 8) := dg_toNat _ hm8
      have hbc : bcs [dg (y % 8)] = #[.int .u8 (48 + (y : Int) % 8)] := by
        have : ((dg (y % 8)).toNat : Int) = 48 + (y : Int) % 8 := by rw [HDG.out]; omega
        simp only [bcs, Lib.byteCells, List.map_cons, List.map_nil, this]
      have hcv := conv_lies [dg (y % 8)] wr.heap.size 0 1 1 (wr.alloc (.cells (bcs [dg (y % 8)]) 5)) 5 (Lies.new wr _ _) (Nat.le_refl _)
      rw [hbc, show ([dg (y % 8)].drop 0).take 1 = [dg (y % 8)] from rfl] at hcv
      have h1s : (bs [dg (y % 8)]).size = 1 := rfl
      have hB1 := hB.alloc hsz (.cells #[.int .u8 (48 + (y : Int) % 8)] 5)
      have HB1 : Hid (Below w.heap.size w (wr.alloc (.cells #[.int .u8 (48 + (y : Int) % 8)] 5))) := hB1
      clear hbc hB1
      obtain ⟨D, hD⟩ : ∃ D, bs [dg (y % 8)] = D := ⟨_, rfl⟩
      have HD : Hid (bs [dg (y % 8)] = D) := hD
      rw [hD] at hcv h1s
      clear hD
      go_wp2
      exact ⟨⟨k + 1, y / 8, dg (y % 8) :: T, by omega, by go_num, by go_num, by rw [← HAP.out, HD.out], by omega, by simp [hT], HOS.out, HB1.out⟩, by simp [intOf]; omega⟩
    · obtain rfl : k = n := by omega
      have HE : Hid (T = octD u k) := by
        unfold Hid; rw [← HO.out, Nat.sub_self]; rfl
      go_wp2
      go_ret
      exact ⟨by rw [← HE.out]; rfl, hB⟩
end Go.Proofs.YtgdkgdlgalinbaaGreatDoor
