/- Package digest's hashes: New, Write, Sum. -/
import Derived.Test.YtodgcmhkojkpcaaGreatDoorTake3
import Derived.Lib.SliceRun
import Derived.Lib.AppendStr
import Derived.Deep.RegionLaw
import Derived.WalkSmall
namespace Go.Proofs.YtodgcmhkojkpcaaGreatDoor
open Go Go.RowKit

def init8 : List Int := [1779033703, 3144134277, 1013904242, 2773480762, 1359893119, 2600822924, 528734635, 1541459225]
def zero64b : List UInt8 := List.replicate 64 0
theorem info_hash : (Tryz.prog.info? 84).map (fun i => (i.zero, i.size)) = some (some (.agg (hcells 0 0 [0, 0, 0, 0, 0, 0, 0, 0] zero64b)), 74) := by kernel_rfl
theorem new_cells (wd : Int) : (((((((((Tryz.zeroCells84.setIfInBounds 0 (Value.int IntKind.i64 wd)).setIfInBounds 2 (Value.int IntKind.u32 1779033703)).setIfInBounds 3 (Value.int IntKind.u32 3144134277)).setIfInBounds 4 (Value.int IntKind.u32 1013904242)).setIfInBounds 5 (Value.int IntKind.u32 2773480762)).setIfInBounds 6 (Value.int IntKind.u32 1359893119)).setIfInBounds 7 (Value.int IntKind.u32 2600822924)).setIfInBounds 8 (Value.int IntKind.u32 528734635)).setIfInBounds 9 (Value.int IntKind.u32 1541459225)) = hcells wd 0 init8 zero64b := by kernel_rfl
/-- The width that counts. -/
def widthOf (n : Int) : Int := max 1 (min n 32)
set_option maxRecDepth 100000 in
set_option maxHeartbeats 1000000 in
theorem new_p (n : Int) (w : World) : Calls Tryz.prog 26 #[.int .i64 n] w fun e w' => e = .returned (.pointer (some ⟨w.heap.size, 0, none⟩)) ∧ w' = w.alloc (.cells (hcells (widthOf n) 0 init8 zero64b) 84) := by
  by_cases h32 : 32 < n
  · have e : Hid (widthOf n = 32) := by unfold Hid widthOf; omega
    go_enter Tryz.func26, Tryz.ntmps26
    go_wp2
    rw [new_cells, ← e.out]
    go_ret
    exact ⟨rfl, rfl⟩
  · by_cases h1 : n ≤ 1
    · have e : Hid (widthOf n = 1) := by unfold Hid widthOf; omega
      go_enter Tryz.func26, Tryz.ntmps26
      go_wp2
      rw [new_cells, ← e.out]
      go_ret
      exact ⟨rfl, rfl⟩
    · have e : Hid (widthOf n = n) := by unfold Hid widthOf; omega
      go_enter Tryz.func26, Tryz.ntmps26
      go_wp2
      rw [new_cells]
      go_ret
      exact ⟨rfl, by rw [e.out]⟩
theorem filled_p (wd : Int) (len : Nat) (xs : List Int) (bl : List UInt8) (b : Nat) (w : World) (hlen : len < 18446744073709551616) (hL : Lies w b 84 (hcells wd len xs bl)) : Calls Tryz.prog 49 #[.pointer (some ⟨b, 0, none⟩)] w fun e w' => e = .returned (.int .i64 (len % 64 : Nat)) ∧ w' = w := by
  have c : w.cell? ⟨b, 1, none⟩ = some (.int .u64 len) := hL.cell rfl
  go_enter Tryz.func49, Tryz.ntmps49
  go_wp2
  go_ret
  exact ⟨rfl, rfl⟩

/-- copy out of a text into cells that may be written. -/
theorem run_copy_str {P : Program} (w : World) (dT sT ty elem : TypeId) (b o dLen dCap n : Nat) (s : ByteArray) (hu : P.underlying dT = some (.slice elem)) (hs : (P.info? elem).map (·.size) = some 1) (hn : Nat.min s.size dLen = n)
    (hc : ∀ j, j < n → (w.cell? ⟨b, o + j, none⟩).isSome = true) (hf : ∀ j, j < n → w.frozen? ⟨b, o + j, none⟩ = false) :
    (Builtin.copy_ #[dT, sT] ty #[.slice (some ⟨b, o, none⟩) dLen dCap, .string s]).run P w = .ok (.int .i64 n) (w.setCells b o (Lib.byteCells ((un s).take n))) := by
  have hle : n ≤ s.size := by rw [← hn]; exact Nat.min_le_left _ _
  have hlen : (Lib.byteCells ((un s).take n)).length = n := by rw [Lib.byteCells_length, List.length_take, un_length]; omega
  have hst := run_storeCells_cells (P := P) b o (Lib.byteCells ((un s).take n)) 0 w (by rw [hlen]; simpa using hc) (by rw [hlen]; simpa using hf) (fun v hv => by
    unfold Lib.byteCells at hv; obtain ⟨x, _, rfl⟩ := List.mem_map.1 hv; rfl)
  have e : List.take n (List.map (fun b => Value.int IntKind.u8 (b.toNat : Int)) s.data.toList) = Lib.byteCells ((un s).take n) := by unfold Lib.byteCells un; rw [List.map_take]
  cases hq : P.info? elem with
  | none => simp [hq] at hs
  | some i =>
    simp [Builtin.copy_, run_underlying hu, Builtin.lenOf, Builtin.firstCells, sizeOf, typeInfo, hq, hn, e, hst, goInt]

/-- The sums behind the first n blocks of a text. -/
def sumsOf (t : List UInt8) : Nat → List Int
  | 0 => init8
  | n + 1 => compress (sumsOf t n) ((t.drop (64 * n)).take 64)
theorem sumsOf_length (t : List UInt8) : ∀ n, (sumsOf t n).length = 8
  | 0 => rfl
  | n + 1 => compress_length _ _ (sumsOf_length t n)
theorem sumsOf_append (t u : List UInt8) : ∀ n, 64 * n ≤ t.length → sumsOf (t ++ u) n = sumsOf t n
  | 0, _ => rfl
  | n + 1, h => by
    rw [sumsOf, sumsOf, sumsOf_append t u n (by omega), List.drop_append_of_le_length (by omega), List.take_append_of_le_length (by simp; omega)]
/-- What a hash is behind a text, but for what its block has at its end. -/
def HashIs (w : World) (b : Nat) (wd : Int) (t : List UInt8) : Prop :=
  ∃ bl : List UInt8, bl.length = 64 ∧ bl.take (t.length % 64) = t.drop (64 * (t.length / 64)) ∧ Lies w b 84 (hcells wd t.length (sumsOf t (t.length / 64)) bl)
/-- Bytes put into a block from f on. -/
def putB (bl : List UInt8) (f : Nat) (xs : List UInt8) : List UInt8 := bl.take f ++ xs ++ bl.drop (f + xs.length)
theorem putB_length (bl : List UInt8) (f : Nat) (xs : List UInt8) (h : f + xs.length ≤ bl.length) : (putB bl f xs).length = bl.length := by simp [putB]; omega
theorem Lies.cells {B : Nat} {t : TypeId} : ∀ (vs : List Value) (o : Nat) {W : World} {cur : Array Value}, Lies W B t cur → o + vs.length ≤ cur.size → Lies (W.setCells B o vs) B t (cur.toList.take o ++ vs ++ cur.toList.drop (o + vs.length)).toArray
  | [], o, W, cur, h, _ => by
    have e : (cur.toList.take o ++ [] ++ cur.toList.drop (o + ([] : List Value).length)).toArray = cur := by simp
    rw [e]; exact h
  | v :: vs, o, W, cur, h, hl => by
    rw [World.setCells]
    have h1 := h.set (i := o) v
    have h2 := Lies.cells vs (o + 1) h1 (by simp at hl ⊢; omega)
    have e : ((cur.setIfInBounds o v).toList.take (o + 1) ++ vs ++ (cur.setIfInBounds o v).toList.drop (o + 1 + vs.length)).toArray = (cur.toList.take o ++ v :: vs ++ cur.toList.drop (o + (v :: vs).length)).toArray := by
      congr 1
      have ho : o < cur.toList.length := by simp at hl ⊢; omega
      rw [Array.toList_setIfInBounds, List.drop_set_of_lt (by omega), List.take_add_one, List.take_set_of_le (Nat.le_refl _), List.getElem?_set_self ho, List.length_cons, show o + (vs.length + 1) = o + 1 + vs.length by omega]
      simp
    rw [e] at h2; exact h2
theorem Turned.cells (b : Nat) : ∀ (vs : List Value) (o : Nat) (w : World), Turned b w (w.setCells b o vs)
  | [], _, w => Turned.refl b w
  | v :: vs, o, w => (Turned.set b w o v).trans (Turned.cells b vs (o + 1) _)
theorem hcells_put (wd len : Int) (xs : List Int) (bl : List UInt8) (h8 : xs.length = 8) (f : Nat) (ys : List UInt8) :
    ((hcells wd len xs bl).toList.take (10 + f) ++ Lib.byteCells ys ++ (hcells wd len xs bl).toList.drop (10 + f + (Lib.byteCells ys).length)).toArray = hcells wd len xs (putB bl f ys) := by
  unfold hcells putB
  congr 1
  rw [Lib.byteCells_length]
  have e1 : 10 + f = (8 + f) + 1 + 1 := by omega
  have e2 : 10 + f + ys.length = (8 + f + ys.length) + 1 + 1 := by omega
  rw [e2, e1]
  simp only [List.take_succ_cons, List.drop_succ_cons]
  have e3 : (List.map (Value.int IntKind.u32) xs).length = 8 := by simp [h8]
  rw [List.take_append, List.drop_append, e3, List.take_of_length_le (by omega), List.drop_of_length_le (by omega), show 8 + f - 8 = f by omega, show 8 + f + ys.length - 8 = f + ys.length by omega]
  simp [Lib.byteCells, List.map_take, List.map_drop]
end Go.Proofs.YtodgcmhkojkpcaaGreatDoor
