/- FlateSums: three texts of one length laid one over another have the sums laid one over another. -/
import Derived.Test.YtcoinfancoeepabDoorSumsM
import Derived.Test.YtcoinfancoeepabDoorMk32
import Derived.Test.YtcoinfancoeepabDoorWorksF
namespace Go.Proofs.YtcoinfancoeepabDoor
open Go Go.RowKit

theorem info_u8m : (Tryd.prog.info? 5).map (fun i => (i.zero, i.size, i.bytes)) = some (some (.int .u8 0), 1, 1) := by kernel_rfl
theorem make_u8 (n : Nat) (hn : n ≤ 1048576) (w : World) : (Instr.makeSlice 34 (.int .i64 n) (.int .i64 n)).run Tryd.prog w = .ok (.slice (some ⟨w.heap.size, 0, none⟩) n n) (w.alloc (.cells (bcs (List.replicate n 0)) 5)) := by
  obtain ⟨i0, hi, hz0, hz1, hz2⟩ := info_parts info_u8m
  have h := run_make w (P := Tryd.prog) 34 5 i0 (.int .u8 0) Tryd.underlying34 hi hz0 .i64 .i64 n n (by omega) (by omega) (by rw [hz2]; omega) (by omega)
  have e : madeCells (Value.int .u8 0).cells ((n : Int).toNat * i0.size) = bcs (List.replicate n 0) := by
    rw [hz1, Int.toNat_natCast, Nat.mul_one]
    unfold madeCells
    apply Array.toList_inj.1
    simp [Value.cells, Nat.mod_one, bcs, Lib.byteCells]
    exact List.eq_replicate_iff.2 ⟨by simp, fun b hb => by simp at hb; exact hb.2.symm⟩
  rw [e] at h
  exact h
theorem getD_byte (s : ByteArray) (k : Nat) (h : k < s.size) : (un s).getD k 0 = s[k] := by
  rw [List.getD_eq_getElem?_getD, un_getElem? s k h]; rfl
set_option maxRecDepth 100000 in
set_option maxHeartbeats 2000000 in
theorem sums_law (a b c : ByteArray) (ha : a.size ≤ 9223372036854775806) (hb : b.size ≤ 9223372036854775806) (hc : c.size ≤ 9223372036854775806) (w : World) (hT : CrcAt w) :
    Calls Tryd.prog 5 #[.string a, .string b, .string c] w fun e w' => e = .returned (.bool true) ∧ Below w.heap.size w w' := by
  obtain ⟨n, hn⟩ : ∃ n, Nat.min (Nat.min (Nat.min a.size b.size) c.size) 1048576 = n := ⟨_, rfl⟩
  have hm : ∀ (W : World) ts t, (Builtin.min_ ts t #[.int .i64 a.size, .int .i64 b.size, .int .i64 c.size, .int .i64 1048576]).run Tryd.prog W = .ok (.int .i64 n) W := fun W ts t => by rw [run_min4, hn]
  have na : n ≤ a.size := by have : Nat.min (Nat.min (Nat.min a.size b.size) c.size) 1048576 = min (min (min a.size b.size) c.size) 1048576 := rfl; omega
  have nb : n ≤ b.size := by have : Nat.min (Nat.min (Nat.min a.size b.size) c.size) 1048576 = min (min (min a.size b.size) c.size) 1048576 := rfl; omega
  have nc : n ≤ c.size := by have : Nat.min (Nat.min (Nat.min a.size b.size) c.size) 1048576 = min (min (min a.size b.size) c.size) 1048576 := rfl; omega
  have nm : n ≤ 1048576 := by have : Nat.min (Nat.min (Nat.min a.size b.size) c.size) 1048576 = min (min (min a.size b.size) c.size) 1048576 := rfl; omega
  clear hn
  have hmk := make_u8 n nm w
  have HX : Hid (crcN (over (un a) (un b) (un c) n) = crcN (un (a.extract 0 n)) ^^^ crcN (un (b.extract 0 n)) ^^^ crcN (un (c.extract 0 n))) := by
    unfold Hid
    rw [over_crc _ _ _ n (by rw [un_length]; exact na) (by rw [un_length]; exact nb) (by rw [un_length]; exact nc), un_extract, un_extract, un_extract]
    simp only [List.drop_zero]
  have hn0 : (0 : Int) ≤ (n : Int) := by omega
  have ma : (n : Int) ≤ (a.size : Int) := by omega
  have mb : (n : Int) ≤ (b.size : Int) := by omega
  have mc : (n : Int) ≤ (c.size : Int) := by omega
  go_enter Tryd.func5, Tryd.ntmps5
  go_wp2
  go_loopw [9] (fun i wr => ∃ k : Nat, k ≤ n ∧ i = .int .i64 k ∧ Lies wr w.heap.size 5 (bcs (over (un a) (un b) (un c) k ++ List.replicate (n - k) 0)) ∧ Below w.heap.size w wr) (fun i _ => n - (intOf i).toNat)
  case atStart => exact ⟨0, Nat.zero_le _, rfl, Lies.new w _ _, (Below.refl _ w).alloc (Nat.le_refl _) _⟩
  case round =>
    obtain ⟨k, hk, rfl, hL, hB⟩ := hrel
    by_cases hlt : k < n
    · have hlt' : (k : Int) < (n : Int) := by omega
      have hk0 : (0 : Int) ≤ (k : Int) := by omega
      have ka : k < a.size := by omega
      have kb : k < b.size := by omega
      have kc : k < c.size := by omega
      have ka' : (k : Int) < (a.size : Int) := by omega
      have kb' : (k : Int) < (b.size : Int) := by omega
      have kc' : (k : Int) < (c.size : Int) := by omega
      have hlen : (over (un a) (un b) (un c) k ++ List.replicate (n - k) (0 : UInt8)).length = n := by rw [List.length_append, over_length, List.length_replicate]; omega
      have c0 := hL.cell (bcs_get _ k (by rw [hlen]; exact hlt))
      have f0 := hL.frozen k
      have x1 := bx8 a[k] b[k]
      have x2 := bx8 (a[k] ^^^ b[k]) c[k]
      have HL2 : Hid (Lies (wr.setCell ⟨w.heap.size, k, none⟩ (.int .u8 (a[k] ^^^ b[k] ^^^ c[k]).toNat)) w.heap.size 5 (bcs (over (un a) (un b) (un c) (k + 1) ++ List.replicate (n - (k + 1)) 0))) := by
        have h := hL.set (i := k) (.int .u8 (a[k] ^^^ b[k] ^^^ c[k]).toNat)
        rw [bcs_set, ← getD_byte a k ka, ← getD_byte b k kb, ← getD_byte c k kc, over_set _ _ _ n k hlt] at h
        rw [← getD_byte a k ka, ← getD_byte b k kb, ← getD_byte c k kc]
        exact h
      have HB2 : Hid (Below w.heap.size w (wr.setCell ⟨w.heap.size, k, none⟩ (.int .u8 (a[k] ^^^ b[k] ^^^ c[k]).toNat))) := hB.setCell (p := ⟨w.heap.size, k, none⟩) (Nat.le_refl _) _
      clear hL hB
      generalize a[k] ^^^ b[k] = AB at x1 x2 HL2 HB2
      generalize AB ^^^ c[k] = V at x2 HL2 HB2
      go_wp2
      go_region
      go_wp2
      exact ⟨⟨k + 1, by omega, by go_num, HL2.out, below_drawn HB2.out 1⟩, by simp [intOf]; omega⟩
    · obtain rfl : k = n := by omega
      have hlt' : ¬ (k : Int) < (k : Int) := by omega
      have B2 : Below w.heap.size w wr.drew := below_drawn hB 1
      have T2 : CrcAt wr.drew := hT.below B2
      have L2 : Lies wr.drew w.heap.size 5 (bcs (over (un a) (un b) (un c) k ++ List.replicate (k - k) 0)) := hL
      have hcv : (convert 34 9 (.slice (some ⟨w.heap.size, 0, none⟩) k k)).run Tryd.prog wr.drew = .ok (.string (bs (over (un a) (un b) (un c) k))) wr.drew := by
        have h := conv_lies _ w.heap.size 0 k k wr.drew _ L2 (by rw [List.length_append, over_length, List.length_replicate]; omega)
        rw [Nat.sub_self, List.replicate_zero, List.append_nil, List.drop_zero, List.take_of_length_le (by rw [over_length]; exact Nat.le_refl _)] at h
        exact h
      have HCX : Hid (Calls Tryd.prog 15 #[.string (bs (over (un a) (un b) (un c) k))] wr.drew fun e w' => e = .returned (.int .u32 (crcN (over (un a) (un b) (un c) k) : Nat)) ∧ w' = wr.drew) := by
        have h := crc_p (bs (over (un a) (un b) (un c) k)) (by rw [← un_length, un_bs, over_length]; omega) wr.drew T2
        rw [un_bs] at h
        exact h
      have HCA : Hid (Calls Tryd.prog 15 #[.string (a.extract 0 k)] wr.drew fun e w' => e = .returned (.int .u32 (crcN (un (a.extract 0 k)) : Nat)) ∧ w' = wr.drew) := crc_p _ (by rw [size_extract' _ _ _ na]; omega) wr.drew T2
      have HCB : Hid (Calls Tryd.prog 15 #[.string (b.extract 0 k)] wr.drew fun e w' => e = .returned (.int .u32 (crcN (un (b.extract 0 k)) : Nat)) ∧ w' = wr.drew) := crc_p _ (by rw [size_extract' _ _ _ nb]; omega) wr.drew T2
      have HCC : Hid (Calls Tryd.prog 15 #[.string (c.extract 0 k)] wr.drew fun e w' => e = .returned (.int .u32 (crcN (un (c.extract 0 k)) : Nat)) ∧ w' = wr.drew) := crc_p _ (by rw [size_extract' _ _ _ nc]; omega) wr.drew T2
      have y1 := bx32 _ _ (crcN_lt (un (a.extract 0 k))) (crcN_lt (un (b.extract 0 k)))
      have y2 := bx32 _ _ (xor_lt32 (crcN_lt (un (a.extract 0 k))) (crcN_lt (un (b.extract 0 k)))) (crcN_lt (un (c.extract 0 k)))
      have HX' := HX.out
      rw [← HX'] at y2
      clear HX HX' hL L2 hB
      generalize crcN (over (un a) (un b) (un c) k) = X at *
      generalize crcN (un (a.extract 0 k)) ^^^ crcN (un (b.extract 0 k)) = AB at *
      generalize crcN (un (a.extract 0 k)) = A at *
      generalize crcN (un (b.extract 0 k)) = B at *
      generalize crcN (un (c.extract 0 k)) = C at *
      generalize bs (over (un a) (un b) (un c) k) = S at *
      go_wp2
      go_region_with (first
        | (go_at_call 15; with_reducible refine HCX.out.mono ?_; rintro e w2 ⟨rfl, hw⟩; have hw' := hw.symm; clear hw; subst hw')
        | (go_at_call 15; with_reducible refine HCA.out.mono ?_; rintro e w2 ⟨rfl, hw⟩; have hw' := hw.symm; clear hw; subst hw')
        | (go_at_call 15; with_reducible refine HCB.out.mono ?_; rintro e w2 ⟨rfl, hw⟩; have hw' := hw.symm; clear hw; subst hw')
        | (go_at_call 15; with_reducible refine HCC.out.mono ?_; rintro e w2 ⟨rfl, hw⟩; have hw' := hw.symm; clear hw; subst hw')
        | (go_at_call 14; refine (works_f _ T2).mono ?_; rintro e w4 ⟨rfl, b4⟩))
      all_goals go_wp2
      go_ret
      first
        | exact ⟨rfl, below_join B2 b4⟩
        | exact ⟨by simp, below_join B2 b4⟩
end Go.Proofs.YtcoinfancoeepabDoor
