/- Marks behind a list of texts; lists that are lent. -/
import Derived.Test.YtodgcmhkojkpcaaGreatDoorLists
import Derived.Test.YtodgcmhkojkpcaaGreatDoorBld
import Derived.Laws.IdiomStrings
namespace Go.Proofs.YtodgcmhkojkpcaaGreatDoor
open Go Go.RowKit

def b8 (x : Int) : UInt8 := UInt8.ofNat (x % 256).toNat
theorem b8_int (x : Int) : ((b8 x).toNat : Int) = x % 256 := by
  unfold b8
  rw [UInt8.toNat_ofNat']; omega
def markB (k i : Int) : ByteArray := bs [35, b8 k, b8 (k / 256), b8 i, b8 (i / 256)]
set_option maxRecDepth 100000 in
theorem mark_conv (k i : Int) (w : World) : (convert 30 9 (.slice (some ⟨w.heap.size, 0, none⟩) 5 5)).run Tryz.prog (w.alloc (.cells #[.int .u8 35, .int .u8 (k % 256), .int .u8 (k / 256 % 256), .int .u8 (i % 256), .int .u8 (i / 256 % 256)] 5)) = .ok (.string (markB k i)) (w.alloc (.cells #[.int .u8 35, .int .u8 (k % 256), .int .u8 (k / 256 % 256), .int .u8 (i % 256), .int .u8 (i / 256 % 256)] 5)) := by
  refine run_convert_bytes_back _ 30 9 5 ⟨w.heap.size, 0, none⟩ 5 [35, b8 k, b8 (k / 256), b8 i, b8 (i / 256)] Tryz.underlying30 Tryz.underlying5 Tryz.underlying9 ?_
  intro j hj
  simp only [← b8_int]
  have hc := fun v (h : (#[.int .u8 35, .int .u8 ((b8 k).toNat : Int), .int .u8 ((b8 (k / 256)).toNat : Int), .int .u8 ((b8 i).toNat : Int), .int .u8 ((b8 (i / 256)).toNat : Int)] : Array Value)[j]? = some v) => (Lies.new w 5 #[.int .u8 35, .int .u8 ((b8 k).toNat : Int), .int .u8 ((b8 (k / 256)).toNat : Int), .int .u8 ((b8 i).toNat : Int), .int .u8 ((b8 (i / 256)).toNat : Int)]).cell h
  have e : (⟨w.heap.size, 0, none⟩ : Addr).add j = ⟨w.heap.size, j, none⟩ := by rw [Addr.add_mid, Nat.zero_add]
  rw [e]
  refine hc _ ?_
  rcases j with _ | _ | _ | _ | _ | j
  · rfl
  · rfl
  · rfl
  · rfl
  · rfl
  · simp at hj; omega
set_option maxRecDepth 100000 in
set_option maxHeartbeats 2000000 in
theorem mark_p (k i : Int) (w : World) : Calls Tryz.prog 80 #[.int .i64 k, .int .i64 i] w fun e w' => e = .returned (.string (markB k i)) ∧ Below w.heap.size w w' := by
  have hcv := mark_conv k i w
  go_enter Tryz.func80, Tryz.ntmps80
  go_wp2
  go_ret
  exact ⟨rfl, (Below.refl _ w).alloc (Nat.le_refl _) _⟩
theorem marks_p (k i : Int) (w : World) : Calls Tryz.prog 62 #[.int .i64 k, .int .i64 i] w fun e w' => e = .returned (.string (markB k i)) ∧ Below w.heap.size w w' := by
  go_enter Tryz.func62, Tryz.ntmps62
  go_wp2_with fail
  refine (mark_p k i w).mono ?_
  rintro e w1 ⟨rfl, b1⟩
  go_wp2
  go_ret
  exact ⟨rfl, b1⟩
def marksN (n : Nat) : List ByteArray := List.map (fun i : Nat => markB 90 (i : Int)) (List.range n)
theorem marksN_succ (n : Nat) : marksN (n + 1) = marksN n ++ [markB 90 n] := by simp [marksN, List.range_succ]
theorem marksN_length (n : Nat) : (marksN n).length = n := by simp [marksN]

set_option maxHeartbeats 4000000 in
set_option maxRecDepth 100000 in
theorem full_p (l : List ByteArray) (v : Value) (w : World) (h : TextsAt w v l) (hz : l.length ≤ 8796093021952) : Calls Tryz.prog 63 #[v] w fun e w' => ∃ u, e = .returned u ∧ w'.ownsRow w.heap.size 9 1 u (l.length + 16) (strs (l ++ marksN 16)) ∧ Below w.heap.size w w' := by
  obtain ⟨i0, hi, z0, z1, z2⟩ := info_parts str_info
  obtain ⟨a, c, rfl, _, hc⟩ := h
  have HC : Hid _ := hc
  clear hc
  go_enter Tryz.func63, Tryz.ntmps63
  go_wp2
  go_loopw [3, 4] (fun u n wr => ∃ k : Nat, k ≤ l.length ∧ n = .int .i64 k ∧ wr.ownsRow w.heap.size 9 1 u k (strs (l.take k)) ∧ Below w.heap.size w wr) (fun _ n _ => l.length - (intOf n).toNat)
  case atStart => exact ⟨0, Nat.zero_le _, rfl, World.ownsRow_nil _ _ _ _, Below.refl _ _⟩
  case round =>
    obtain ⟨k, hk, rfl, hown, hB⟩ := hrel
    by_cases hlt : k < l.length
    · obtain ⟨x, hx⟩ : ∃ x, l[k]? = some x := ⟨_, List.getElem?_eq_getElem hlt⟩
      obtain ⟨b, o, rfl, hcell0⟩ := HC.out k x hx
      have hcell := (hB.cell (p := ⟨b, o + k, none⟩) (World.block_lt_of_cell? w _ hcell0)).trans hcell0
      have H3 : Hid (strs (l.take (k + 1)) = strs (l.take k) ++ [.string x]) := by unfold Hid; rw [List.take_add_one, hx, strs_append]; rfl
      have d1 : (0 : Int) ≤ (k : Int) := by omega
      have d2 : (k : Int) < (l.length : Int) := by omega
      clear hcell0 hx
      go_wp2_with (at_builtin; refine wpList_append_own _ rfl _ _ 29 rfl w.heap.size 9 i0 (.string ⟨#[]⟩) 1 16 Tryz.underlying29 hi z0 z1 z2 rfl (by decide) _ _ _ rfl (hown.alloc _) ⟨wr.heap.size, 0, none⟩ 1 1 [.string x] rfl rfl ?c1 ?c2 ?c3 ?c4 ?c5 ?_)
      case c1 =>
        intro j u hj
        rcases j with _ | j
        · simp at hj; subst hj; simp [Addr.add]
        · simp at hj
      case c2 => intro u hu; simp at hu; subst hu; rfl
      case c3 => unfold maxLen; omega
      case c4 => omega
      case c5 => have := hB.size; simp; omega
      intro v' w2 hown' hg _
      go_wp2
      go_roundw
      case rel => exact ⟨k + 1, by omega, by go_num, by rw [H3.out]; exact hown', (hB.alloc hB.size _).grown hg (by have := hB.size; simp; omega) (fun r hr => (hown.lt r hr).1)⟩
      case measure => simp [intOf]; omega
    · obtain rfl : k = l.length := by omega
      rw [List.take_length] at hown
      go_wp2_with fail
      go_loopw [3, 5] (fun u n wr => ∃ k : Nat, k ≤ 16 ∧ n = .int .i64 k ∧ wr.ownsRow w.heap.size 9 1 u (l.length + k) (strs (l ++ marksN k)) ∧ Below w.heap.size w wr) (fun _ n _ => 16 - (intOf n).toNat)
      case atStart => exact ⟨0, Nat.zero_le _, rfl, by rw [show marksN 0 = [] from rfl, List.append_nil]; exact hown, hB⟩
      case round =>
        clear hown hB
        obtain ⟨k, hk, rfl, hown, hB⟩ := hrel
        by_cases hlt : k < 16
        · have H3 : Hid (strs (l ++ marksN (k + 1)) = strs (l ++ marksN k) ++ [.string (markB 90 k)]) := by unfold Hid; rw [marksN_succ, ← List.append_assoc, strs_append (l ++ marksN k)]; rfl
          have d1 : (0 : Int) ≤ (k : Int) := by omega
          have d2 : (k : Int) < 16 := by omega
          go_wp2_with fail
          refine (marks_p 90 k _).mono ?_
          rintro e w1 ⟨rfl, b1⟩
          have hown1 := own_below hown b1
          have hB1 := below_join hB b1
          generalize markB 90 (k : Int) = x at *
          go_wp2_with (at_builtin; refine wpList_append_own _ rfl _ _ 29 rfl w.heap.size 9 i0 (.string ⟨#[]⟩) 1 16 Tryz.underlying29 hi z0 z1 z2 rfl (by decide) _ _ _ rfl (hown1.alloc _) ⟨w1.heap.size, 0, none⟩ 1 1 [.string x] rfl rfl ?c1 ?c2 ?c3 ?c4 ?c5 ?_)
          case c1 =>
            intro j u hj
            rcases j with _ | j
            · simp at hj; subst hj; simp [Addr.add]
            · simp at hj
          case c2 => intro u hu; simp at hu; subst hu; rfl
          case c3 => unfold maxLen; omega
          case c4 => omega
          case c5 => have := hB1.size; simp; omega
          intro v' w2 hown' hg _
          go_wp2
          go_roundw
          case rel => exact ⟨k + 1, by omega, by go_num, by rw [H3.out]; exact hown', (hB1.alloc hB1.size _).grown hg (by have := hB1.size; simp; omega) (fun r hr => (hown1.lt r hr).1)⟩
          case measure => simp [intOf]; omega
        · obtain rfl : k = 16 := by omega
          go_wp2
          go_ret
          exact ⟨_, rfl, hown, hB⟩
end Go.Proofs.YtodgcmhkojkpcaaGreatDoor
