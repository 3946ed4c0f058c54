/- Package digest's Parse. -/
import Derived.Test.YtodgcmhkojkpcaaGreatDoorHexM
import Derived.Test.YtodgcmhkojkpcaaGreatDoorShelf
namespace Go.Proofs.YtodgcmhkojkpcaaGreatDoor
open Go Go.RowKit

theorem results_c2 {P : Program} {fn : Func} {p u : Tmp} {ty : TypeId} (h : fn.results = #[.cell p ty, .tmp u]) (tmps : Array Value) (w : World) (g : Nat) (t : TypeId) (cs : Array Value) (d : TypeDesc)
    (hp : tmps.getD p undef = .pointer (some ⟨g, 0, none⟩)) (hg : Lies w g t cs)
    (hu : P.underlying ty = some d) (hd : (match d with | .struct _ | .array _ _ => true | _ => false) = true) (hi : (P.info? ty).map (·.size) = some cs.size) :
    (results fn tmps).run P w = .ok (.tuple #[.agg cs, tmps.getD u undef]) w := by
  have hp' : tmps[p]?.getD undef = .pointer (some ⟨g, 0, none⟩) := by simpa using hp
  simp [results, h, hp', asAddr, run_loadVar_row w g t ty cs (0, 0) d hg hu hd hi]
def errForm : Value := .iface 88 (.int .i64 4)
/-- What Parse owes. -/
def ParsePost (s : ByteArray) (w : World) (e : Ending) (w' : World) : Prop :=
  (match parseL (un s) with
  | some d => e = .returned (.tuple #[.agg (dig32 d), .nilIface])
  | none => e = .returned (.tuple #[.agg (dig32 zeros), errForm])) ∧ Below w.heap.size w w'

theorem zeros_size : (dig32 zeros).size = 32 := by rw [dig32_size]; rfl
set_option maxRecDepth 100000 in
set_option maxHeartbeats 4000000 in
theorem parse_head (s : ByteArray) (w : World) (h : Lib.hasPrefix (un s) kindL = false) : Calls Tryz.prog 34 #[.string s] w (ParsePost s w) := by
  have hz := (zero_of_info (P := Tryz.prog) info_digest).1
  have hi : (Tryz.prog.info? 25).map (·.size) = some (dig32 zeros).size := by rw [zeros_size]; kernel_rfl
  have hcut := fun W => Tryz.strings_CutPrefix s ⟨#[115, 104, 97, 50, 53, 54, 58]⟩ W
  have HP : Hid (parseL (un s) = none) := by unfold Hid parseL; rw [h]; rfl
  have hh : Lib.hasPrefix s.data.toList [115, 104, 97, 50, 53, 54, 58] = false := h
  simp only [hh] at hcut
  clear h hh
  have hL : Lies ((w.alloc (.cells (dig32 zeros) 25)).alloc (.cells (dig32 zeros) 25)) w.heap.size 25 (dig32 zeros) := (Lies.new w _ _).alloc _
  have hB : Below w.heap.size w ((w.alloc (.cells (dig32 zeros) 25)).alloc (.cells (dig32 zeros) 25)) := ((Below.refl _ w).alloc (Nat.le_refl _) _).alloc (by simp) _
  go_enter Tryz.func34, Tryz.ntmps34
  go_wp2_with (first
    | (go_at_call 57; refine (hcut _).mono ?_; rintro e w1 ⟨rfl, rfl⟩)
    | (refine wpList_store_row rfl 25 (.tmp 2) (.tmp 22) rfl w.heap.size (dig32 zeros) rfl rfl 25 (dig32 zeros) hL hi rfl (dig32_one _) ?_))
  refine bodyPost_ret (results_c2 rfl _ _ w.heap.size 25 (dig32 zeros) _ rfl (hL.row _) Tryz.underlying25 rfl hi) rfl ?_
  unfold ParsePost
  rw [HP.out]
  exact ⟨rfl, below_setRow hB (Nat.le_refl _) _⟩
theorem trim_bs (s : ByteArray) (h : Lib.hasPrefix (un s) kindL = true) : (⟨(Lib.trimPrefix s.data.toList [115, 104, 97, 50, 53, 54, 58]).toArray⟩ : ByteArray) = bs ((un s).drop 7) := by
  have h2 : Lib.hasPrefix s.data.toList [115, 104, 97, 50, 53, 54, 58] = true := h
  unfold Lib.trimPrefix; rw [if_pos h2]; rfl
set_option maxRecDepth 100000 in
set_option maxHeartbeats 4000000 in
theorem parse_short (s : ByteArray) (w : World) (h : Lib.hasPrefix (un s) kindL = true) (hn : ((un s).drop 7).length ≠ 64) : Calls Tryz.prog 34 #[.string s] w (ParsePost s w) := by
  have hz := (zero_of_info (P := Tryz.prog) info_digest).1
  have hi : (Tryz.prog.info? 25).map (·.size) = some (dig32 zeros).size := by rw [zeros_size]; kernel_rfl
  have hcut := fun W => Tryz.strings_CutPrefix s ⟨#[115, 104, 97, 50, 53, 54, 58]⟩ W
  have HP : Hid (parseL (un s) = none) := by unfold Hid parseL; rw [if_neg (fun e => hn e.2)]
  have hh : Lib.hasPrefix s.data.toList [115, 104, 97, 50, 53, 54, 58] = true := h
  simp only [hh, trim_bs s h] at hcut
  clear h hh
  rw [← size_bs] at hn
  generalize bs ((un s).drop 7) = r at *
  have hne : ¬ (r.size : Int) = 64 := by omega
  have hL : Lies ((w.alloc (.cells (dig32 zeros) 25)).alloc (.cells (dig32 zeros) 25)) w.heap.size 25 (dig32 zeros) := (Lies.new w _ _).alloc _
  have hB : Below w.heap.size w ((w.alloc (.cells (dig32 zeros) 25)).alloc (.cells (dig32 zeros) 25)) := ((Below.refl _ w).alloc (Nat.le_refl _) _).alloc (by simp) _
  go_enter Tryz.func34, Tryz.ntmps34
  go_wp2_with (first
    | (go_at_call 57; refine (hcut _).mono ?_; rintro e w1 ⟨rfl, rfl⟩)
    | (refine wpList_store_row rfl 25 (.tmp 2) (.tmp 22) rfl w.heap.size (dig32 zeros) rfl rfl 25 (dig32 zeros) hL hi rfl (dig32_one _) ?_))
  refine bodyPost_ret (results_c2 rfl _ _ w.heap.size 25 (dig32 zeros) _ rfl (hL.row _) Tryz.underlying25 rfl hi) rfl ?_
  unfold ParsePost
  rw [HP.out]
  exact ⟨rfl, below_setRow hB (Nat.le_refl _) _⟩

theorem val_p (c : UInt8) (w : World) : Calls Tryz.prog 58 #[.string ⟨#[48, 49, 50, 51, 52, 53, 54, 55, 56, 57, 97, 98, 99, 100, 101, 102]⟩, .int .u8 c.toNat] w fun e w' => e = .returned (.int .i64 (val c)) ∧ w' = w := by
  have h := Tryz.strings_IndexByte ⟨#[48, 49, 50, 51, 52, 53, 54, 55, 56, 57, 97, 98, 99, 100, 101, 102]⟩ (c.toNat : Int) w
  rw [Int.toNat_natCast, show c.toNat.toUInt8 = c by simp] at h
  exact h
theorem or_byte (p q : Nat) (hp : p < 16) (hq : q < 16) : bits BinOp.or IntKind.i64 ((p : Int) * 16) (q : Int) % 256 = ((UInt8.ofNat (p * 16 + q)).toNat : Int) := by
  have : ∀ p q : Fin 16, bits BinOp.or IntKind.i64 ((p.val : Int) * 16) (q.val : Int) % 256 = ((UInt8.ofNat (p.val * 16 + q.val)).toNat : Int) := by decide +kernel
  exact this ⟨p, hp⟩ ⟨q, hq⟩
/-- The first bytes, and noughts behind. -/
def filled (d : List UInt8) (k : Nat) : List UInt8 := d ++ List.replicate (32 - k) 0
theorem filled_set (d : List UInt8) (b : UInt8) (k : Nat) (h : d.length = k) (hk : k < 32) : (filled d k).set k b = filled (d ++ [b]) (k + 1) := by
  unfold filled
  rw [List.set_append_right _ _ (by omega), h, Nat.sub_self, show 32 - k = (32 - (k + 1)) + 1 by omega, List.replicate_succ, List.set_cons_zero]; simp
theorem filled_length (d : List UInt8) (k : Nat) (h : d.length = k) (hk : k ≤ 32) : (filled d k).length = 32 := by simp [filled, h]; omega

set_option maxRecDepth 100000 in
set_option maxHeartbeats 8000000 in
theorem parse_full (s : ByteArray) (w : World) (h : Lib.hasPrefix (un s) kindL = true) (hn : ((un s).drop 7).length = 64) : Calls Tryz.prog 34 #[.string s] w (ParsePost s w) := by
  have hz := (zero_of_info (P := Tryz.prog) info_digest).1
  have hi : (Tryz.prog.info? 25).map (·.size) = some (dig32 zeros).size := by rw [zeros_size]; kernel_rfl
  have hcut := fun W => Tryz.strings_CutPrefix s ⟨#[115, 104, 97, 50, 53, 54, 58]⟩ W
  have HP : Hid (parseL (un s) = upTo (un (bs ((un s).drop 7))) 32) := by unfold Hid parseL; rw [if_pos ⟨h, hn⟩, un_bs]
  have hh : Lib.hasPrefix s.data.toList [115, 104, 97, 50, 53, 54, 58] = true := h
  simp only [hh, trim_bs s h] at hcut
  clear h hh
  rw [← size_bs] at hn
  generalize bs ((un s).drop 7) = r at *
  have hne : (r.size : Int) = 64 := by omega
  go_enter Tryz.func34, Tryz.ntmps34
  go_wp2_with (go_at_call 57; refine (hcut _).mono ?_; rintro e w1 ⟨rfl, rfl⟩)
  go_loopw [24] (fun n wr => ∃ (k : Nat) (d : List UInt8), k ≤ 32 ∧ n = .int .i64 k ∧ upTo (un r) k = some d ∧ Lies wr w.heap.size 25 (dig32 zeros) ∧ Lies wr (w.heap.size + 1) 25 (dig32 (filled d k)) ∧ Below w.heap.size w wr) (fun n _ => 32 - (intOf n).toNat)
  case atStart =>
    refine ⟨0, [], by omega, rfl, rfl, (Lies.new w _ _).alloc _, ?_, ((Below.refl _ w).alloc (Nat.le_refl _) _).alloc (by simp) _⟩
    have h := Lies.new (w.alloc (.cells (dig32 zeros) 25)) 25 (dig32 zeros); rw [World.size_alloc] at h; exact h
  case round =>
    obtain ⟨k, d, hk, rfl, hu, hL0, hL1, hB⟩ := hrel
    have hdl := upTo_length hu
    by_cases hlt : k < 32
    · have e0 : (un r).getD (2 * k) 0 = r[2 * k] := by rw [List.getD_eq_getElem?_getD, un_getElem? r (2 * k) (by omega)]; rfl
      have e1 : (un r).getD (2 * k + 1) 0 = r[2 * k + 1] := by rw [List.getD_eq_getElem?_getD, un_getElem? r (2 * k + 1) (by omega)]; rfl
      have hx0 := val_range r[2 * k]
      have hx1 := val_range r[2 * k + 1]
      have i0 := fun W => val_p r[2 * k] W
      have i1 := fun W => val_p r[2 * k + 1] W
      have HU : Hid (upTo (un r) (k + 1) = if val r[2 * k] < 0 ∨ val r[2 * k + 1] < 0 then none else some (d ++ [UInt8.ofNat ((val r[2 * k]).toNat * 16 + (val r[2 * k + 1]).toNat)])) := by
        unfold Hid; rw [← e0, ← e1]; show (match upTo (un r) k with | none => _ | some d => _) = _; rw [hu]
      clear e0 e1
      generalize val r[2 * k] = x at *
      generalize val r[2 * k + 1] = y at *
      have d1 : (0 : Int) ≤ 2 * (k : Int) := by omega
      have d2 : 2 * (k : Int) < 64 := by omega
      have d3 : (0 : Int) ≤ 2 * (k : Int) + 1 := by omega
      have d4 : 2 * (k : Int) + 1 < 64 := by omega
      by_cases hbad : x < 0 ∨ y < 0
      · have HN : Hid (parseL (un s) = none) := by unfold Hid; rw [HP.out]; exact upTo_none (by rw [HU.out, if_pos hbad]) 32 (by omega)
        clear HU
        rcases hbad with hb | hb
        · go_wp2_with (first
            | (go_at_call 58; refine (i0 _).mono ?_; rintro e w2 ⟨rfl, rfl⟩)
            | (go_at_call 58; refine (i1 _).mono ?_; rintro e w2 ⟨rfl, rfl⟩)
            | (refine wpList_store_row rfl 25 (.tmp 2) (.tmp 44) rfl w.heap.size (dig32 zeros) rfl rfl 25 (dig32 zeros) hL0 hi rfl (dig32_one _) ?_))
          refine bodyPost_ret (results_c2 rfl _ _ w.heap.size 25 (dig32 zeros) _ rfl (hL0.row _) Tryz.underlying25 rfl hi) rfl ?_
          unfold ParsePost
          rw [HN.out]
          exact ⟨rfl, below_setRow hB (Nat.le_refl _) _⟩
        · by_cases hx : x < 0
          · go_wp2_with (first
              | (go_at_call 58; refine (i0 _).mono ?_; rintro e w2 ⟨rfl, rfl⟩)
              | (go_at_call 58; refine (i1 _).mono ?_; rintro e w2 ⟨rfl, rfl⟩)
              | (refine wpList_store_row rfl 25 (.tmp 2) (.tmp 44) rfl w.heap.size (dig32 zeros) rfl rfl 25 (dig32 zeros) hL0 hi rfl (dig32_one _) ?_))
            refine bodyPost_ret (results_c2 rfl _ _ w.heap.size 25 (dig32 zeros) _ rfl (hL0.row _) Tryz.underlying25 rfl hi) rfl ?_
            unfold ParsePost
            rw [HN.out]
            exact ⟨rfl, below_setRow hB (Nat.le_refl _) _⟩
          · go_wp2_with (first
              | (go_at_call 58; refine (i0 _).mono ?_; rintro e w2 ⟨rfl, rfl⟩)
              | (go_at_call 58; refine (i1 _).mono ?_; rintro e w2 ⟨rfl, rfl⟩)
              | (refine wpList_store_row rfl 25 (.tmp 2) (.tmp 44) rfl w.heap.size (dig32 zeros) rfl rfl 25 (dig32 zeros) hL0 hi rfl (dig32_one _) ?_))
            refine bodyPost_ret (results_c2 rfl _ _ w.heap.size 25 (dig32 zeros) _ rfl (hL0.row _) Tryz.underlying25 rfl hi) rfl ?_
            unfold ParsePost
            rw [HN.out]
            exact ⟨rfl, below_setRow hB (Nat.le_refl _) _⟩
      · obtain ⟨p, rfl⟩ : ∃ p : Nat, x = p := ⟨x.toNat, by omega⟩
        obtain ⟨q, rfl⟩ : ∃ q : Nat, y = q := ⟨y.toNat, by omega⟩
        have HS : Hid (upTo (un r) (k + 1) = some (d ++ [UInt8.ofNat (p * 16 + q)])) := by unfold Hid; rw [HU.out, if_neg hbad]; rfl
        have hp : p < 16 := by omega
        have hq : q < 16 := by omega
        clear HU hbad
        have hc1 : wr.cell? ⟨w.heap.size + 1, k, none⟩ = some (.int .u8 ((filled d k)[k]'(by rw [filled_length d k hdl hk]; exact hlt)).toNat) := hL1.cell (dig32_get _ _ _)
        have hf1 := hL1.frozen k
        go_wp2_with (first
            | (go_at_call 58; refine (i0 _).mono ?_; rintro e w2 ⟨rfl, rfl⟩)
            | (go_at_call 58; refine (i1 _).mono ?_; rintro e w2 ⟨rfl, rfl⟩))
        rw [or_byte p q hp hq]
        refine ⟨⟨k + 1, _, by omega, by go_num, HS.out, hL0.other _ (by omega), ?_, hB.setCell (p := ⟨w.heap.size + 1, k, none⟩) (by simp) _⟩, by simp [intOf]; omega⟩
        have h := hL1.set (i := k) (.int .u8 (UInt8.ofNat (p * 16 + q)).toNat)
        rw [dig32_set, filled_set d _ k hdl hlt] at h
        exact h
    · obtain rfl : k = 32 := by omega
      have hfd : filled d 32 = d := by simp [filled]
      rw [hfd] at hL1
      have hi2 : (Tryz.prog.info? 25).map (·.size) = some (dig32 d).size := by rw [dig32_size, hdl]; kernel_rfl
      have HN : Hid (parseL (un s) = some d) := by unfold Hid; rw [HP.out, hu]
      go_wp2_with (first
        | (refine wpList_load_row rfl 25 (.tmp 4) rfl (w.heap.size + 1) rfl 25 (dig32 d) (0, 0) _ hL1 Tryz.underlying25 rfl hi2 ?_)
        | (refine wpList_store_row rfl 25 (.tmp 2) (.tmp 54) rfl w.heap.size (dig32 d) rfl rfl 25 (dig32 zeros) hL0 hi2 (by rw [zeros_size, dig32_size, hdl]) (dig32_one _) ?_))
      refine bodyPost_ret (results_c2 rfl _ _ w.heap.size 25 (dig32 d) _ rfl (hL0.row _) Tryz.underlying25 rfl hi2) rfl ?_
      unfold ParsePost
      rw [HN.out]
      exact ⟨rfl, below_setRow hB (Nat.le_refl _) _⟩

theorem parse_p (s : ByteArray) (w : World) : Calls Tryz.prog 34 #[.string s] w (ParsePost s w) := by
  cases h : Lib.hasPrefix (un s) kindL with
  | false => exact parse_head s w h
  | true =>
    by_cases hn : ((un s).drop 7).length = 64
    · exact parse_full s w h hn
    · exact parse_short s w h hn
end Go.Proofs.YtodgcmhkojkpcaaGreatDoor
