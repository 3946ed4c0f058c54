/- The document's block: the eight numbers behind 64 bytes. -/
import Derived.Test.YtodgcmhkojkpcaaGreatDoorRefSum1
import Derived.Test.YtodgcmhkojkpcaaGreatDoorLists
import Derived.Deep.RegionLaw
import Derived.Deep.AppendLies
import Derived.Deep.RegionHeld3
import Derived.Deep.DeepAppendRoom
namespace Go.Proofs.YtodgcmhkojkpcaaGreatDoor
open Go Go.RowKit

theorem bor_comm (a b : Int) : bits .or .u32 a b = bits .or .u32 b a := by
  unfold bits
  simp only []
  rw [BitVec.or_comm]
theorem rturn_2 (x : Int) (w : World) : Calls Tryz.prog 72 #[.int .u32 x, .int .i64 2] w fun e w' => e = .returned (.int .u32 (rotI x 2)) ∧ ∃ d, w' = w.drewN d := by
  go_enter Tryz.func72, Tryz.ntmps72
  go_wp2
  go_region
  go_wp2
  go_ret
  refine ⟨?_, 1, rfl⟩
  unfold rotI
  rw [bor_comm]
  rfl
theorem rturn_6 (x : Int) (w : World) : Calls Tryz.prog 72 #[.int .u32 x, .int .i64 6] w fun e w' => e = .returned (.int .u32 (rotI x 6)) ∧ ∃ d, w' = w.drewN d := by
  go_enter Tryz.func72, Tryz.ntmps72
  go_wp2
  go_region
  go_wp2
  go_ret
  refine ⟨?_, 1, rfl⟩
  unfold rotI
  rw [bor_comm]
  rfl
theorem rturn_7 (x : Int) (w : World) : Calls Tryz.prog 72 #[.int .u32 x, .int .i64 7] w fun e w' => e = .returned (.int .u32 (rotI x 7)) ∧ ∃ d, w' = w.drewN d := by
  go_enter Tryz.func72, Tryz.ntmps72
  go_wp2
  go_region
  go_wp2
  go_ret
  refine ⟨?_, 1, rfl⟩
  unfold rotI
  rw [bor_comm]
  rfl
theorem rturn_11 (x : Int) (w : World) : Calls Tryz.prog 72 #[.int .u32 x, .int .i64 11] w fun e w' => e = .returned (.int .u32 (rotI x 11)) ∧ ∃ d, w' = w.drewN d := by
  go_enter Tryz.func72, Tryz.ntmps72
  go_wp2
  go_region
  go_wp2
  go_ret
  refine ⟨?_, 1, rfl⟩
  unfold rotI
  rw [bor_comm]
  rfl
theorem rturn_13 (x : Int) (w : World) : Calls Tryz.prog 72 #[.int .u32 x, .int .i64 13] w fun e w' => e = .returned (.int .u32 (rotI x 13)) ∧ ∃ d, w' = w.drewN d := by
  go_enter Tryz.func72, Tryz.ntmps72
  go_wp2
  go_region
  go_wp2
  go_ret
  refine ⟨?_, 1, rfl⟩
  unfold rotI
  rw [bor_comm]
  rfl
theorem rturn_17 (x : Int) (w : World) : Calls Tryz.prog 72 #[.int .u32 x, .int .i64 17] w fun e w' => e = .returned (.int .u32 (rotI x 17)) ∧ ∃ d, w' = w.drewN d := by
  go_enter Tryz.func72, Tryz.ntmps72
  go_wp2
  go_region
  go_wp2
  go_ret
  refine ⟨?_, 1, rfl⟩
  unfold rotI
  rw [bor_comm]
  rfl
theorem rturn_18 (x : Int) (w : World) : Calls Tryz.prog 72 #[.int .u32 x, .int .i64 18] w fun e w' => e = .returned (.int .u32 (rotI x 18)) ∧ ∃ d, w' = w.drewN d := by
  go_enter Tryz.func72, Tryz.ntmps72
  go_wp2
  go_region
  go_wp2
  go_ret
  refine ⟨?_, 1, rfl⟩
  unfold rotI
  rw [bor_comm]
  rfl
theorem rturn_19 (x : Int) (w : World) : Calls Tryz.prog 72 #[.int .u32 x, .int .i64 19] w fun e w' => e = .returned (.int .u32 (rotI x 19)) ∧ ∃ d, w' = w.drewN d := by
  go_enter Tryz.func72, Tryz.ntmps72
  go_wp2
  go_region
  go_wp2
  go_ret
  refine ⟨?_, 1, rfl⟩
  unfold rotI
  rw [bor_comm]
  rfl
theorem rturn_22 (x : Int) (w : World) : Calls Tryz.prog 72 #[.int .u32 x, .int .i64 22] w fun e w' => e = .returned (.int .u32 (rotI x 22)) ∧ ∃ d, w' = w.drewN d := by
  go_enter Tryz.func72, Tryz.ntmps72
  go_wp2
  go_region
  go_wp2
  go_ret
  refine ⟨?_, 1, rfl⟩
  unfold rotI
  rw [bor_comm]
  rfl
theorem rturn_25 (x : Int) (w : World) : Calls Tryz.prog 72 #[.int .u32 x, .int .i64 25] w fun e w' => e = .returned (.int .u32 (rotI x 25)) ∧ ∃ d, w' = w.drewN d := by
  go_enter Tryz.func72, Tryz.ntmps72
  go_wp2
  go_region
  go_wp2
  go_ret
  refine ⟨?_, 1, rfl⟩
  unfold rotI
  rw [bor_comm]
  rfl

theorem u32_info : (Tryz.prog.info? 79).map (fun i => (i.zero, i.size, i.bytes)) = some (some (.int .u32 0), 1, 4) := by kernel_rfl
def i32s (l : List Int) : List Value := l.map (Value.int .u32)
theorem i32s_append (a b : List Int) : i32s (a ++ b) = i32s a ++ i32s b := by simp [i32s]
theorem i32s_get (l : List Int) (k : Nat) (h : k < l.length) : (i32s l)[k]? = some (.int .u32 (l.getD k 0)) := by
  simp [i32s, h]
theorem rturn_c (x n : Int) (h : n = 2 ∨ n = 6 ∨ n = 11 ∨ n = 13 ∨ n = 22 ∨ n = 25) (w : World) : Calls Tryz.prog 72 #[.int .u32 x, .int .i64 n] w fun e w' => e = .returned (.int .u32 (rotI x n.toNat)) ∧ ∃ d, w' = w.drewN d := by
  rcases h with rfl | rfl | rfl | rfl | rfl | rfl
  · exact rturn_2 x w
  · exact rturn_6 x w
  · exact rturn_11 x w
  · exact rturn_13 x w
  · exact rturn_22 x w
  · exact rturn_25 x w
def zero8 : List Int := [0, 0, 0, 0, 0, 0, 0, 0]
theorem info_8 : (Tryz.prog.info? 80).map (fun i => (i.zero, i.size)) = some (some (.agg (u32s zero8)), 8) := by kernel_rfl
theorem len_8 : Tryz.prog.arrayLen 80 = 8 := by kernel_rfl
theorem elem_8 : Tryz.prog.elem 80 = 79 := by kernel_rfl
theorem under_8 : Tryz.prog.underlying 80 = some (.array (Tryz.prog.arrayLen 80) (Tryz.prog.elem 80)) := by rw [len_8, elem_8]; exact Tryz.underlying80
theorem slice8_all (b : Nat) (w : World) :
    (Instr.sliceAt 80 (.pointer (some ⟨b, 0, none⟩)) none none none).run Tryz.prog w = .ok (.slice (some ⟨b, 0, none⟩) 8 8) w := by
  rw [run_sliceAt_array_all w 80 ⟨b, 0, none⟩ under_8, elem_8, Tryz.sizeOf79]
  simp only [Result.andThen_ok, slicedAt, len_8, Nat.zero_mul, Addr.add_mid]
  rfl
theorem own_base3 {w : World} {B B' e n : Nat} {u : Value} {xs : List Value} (h : w.ownsRow B' e 1 u n xs) (hb : B ≤ B') : w.ownsRow B e 1 u n xs := by
  refine ⟨h.1, ?_⟩
  rcases h.2 with h1 | ⟨g, cap, cur, h1, h2, h3⟩
  · exact .inl h1
  · exact .inr ⟨g, cap, cur, h1, Nat.le_trans hb h2, h3⟩
theorem own_same3 {W W2 : World} {base e size n : Nat} {v : Value} {xs : List Value} (h : W.ownsRow base e size v n xs) (hb : ∀ b, v.ownBlock = some b → W2.heap[b]? = W.heap[b]?) : W2.ownsRow base e size v n xs := by
  refine ⟨h.1, ?_⟩
  rcases h.2 with hn | ⟨g, cap, cur, rfl, hg, hgg, rest⟩
  · exact .inl hn
  · exact .inr ⟨g, cap, cur, rfl, hg, (hb g rfl).trans hgg, rest⟩
/-- append at a step of a region that draws its order: the old row's cells stay. -/
theorem step_append_g {P : Program} (w : World) {ops : Array Oper} {o : Oper} {a : Act} {K : Act → World → Prop} {Q : Exit → Act → World → Prop} {E : Prop} (hgd : o.guard = none) (s x : Operand) (t : TypeId)
    (ho : o.op = .call { callee := .builtin .append, args := #[s, x], argTypes := #[t, t] })
    (base : Nat) (e : TypeId) (i : TypeInfo) (z : Value) (bytes : Nat) (ht : P.underlying t = some (.slice e)) (hi : P.info? e = some i) (hz : i.zero = some z)
    (hsize : i.size = 1) (hby : i.bytes = bytes) (hzs : z.cells.size = 1)
    (g n cap : Nat) (xs : List Value) (hs : a.eval s = .slice (some ⟨g, 0, none⟩) n cap) (hown : w.ownsRow base e 1 (.slice (some ⟨g, 0, none⟩) n cap) n xs)
    (ad : Addr) (c : Nat) (y : Value) (hx : a.eval x = .slice (some ad) 1 c) (hnews : ∀ j u, [y][j]? = some u → w.cell? (ad.add j) = some u) (h1 : y.oneCell' = true)
    (h63 : n + 1 ≤ maxLen) (hbytes : (n + 1) * bytes ≤ 140737488355328) (hbase : base ≤ w.heap.size)
    (h : ∀ g' cap' w', w'.ownsRow base e 1 (.slice (some ⟨g', 0, none⟩) (n + 1) cap') (n + 1) (xs ++ [y]) → (∀ j u, xs[j]? = some u → w'.cell? ⟨g, j, none⟩ = some u) → w.grownBy w' (some g) → K (a.put o.dst (.slice (some ⟨g', 0, none⟩) (n + 1) cap')) w') :
    if Region.wanted o (yielded ops a.tmps) = true then Oper.wp P o a w K Q else E := by
  have hw : Region.wanted o (yielded ops a.tmps) = true := by simp [Region.wanted, hgd]
  rw [if_pos hw]
  have h1' : ∀ u ∈ [y], u.oneCell' = true := fun u hu => by simp at hu; rw [hu]; exact h1
  have hr : ∃ g' cap' w', (Builtin.append_ #[t, t] o.type #[.slice (some ⟨g, 0, none⟩) n cap, .slice (some ad) 1 c]).run P w = .ok (.slice (some ⟨g', 0, none⟩) (n + 1) cap') w' ∧ w'.ownsRow base e 1 (.slice (some ⟨g', 0, none⟩) (n + 1) cap') (n + 1) (xs ++ [y]) ∧ (∀ j u, xs[j]? = some u → w'.cell? ⟨g, j, none⟩ = some u) ∧ w.grownBy w' (some g) := by
    by_cases hroom : n + 1 ≤ cap
    · obtain ⟨w', hrun, r1, r2⟩ := run_append_own_spare (P := P) w base t o.type e i 1 ht hi hsize g n cap xs hown ad 1 c [y] rfl hnews h1' hroom
      refine ⟨g, cap, w', hrun, r1, fun j u hu => row_cell r1 j u ?_, r2⟩
      rw [List.getElem?_append_left (List.getElem?_eq_some_iff.1 hu).1]; exact hu
    · obtain ⟨v', w', hrun, r1, r2⟩ := run_append_arg_grows (P := P) w t o.type e i z 1 bytes ht hi hz hsize hby hzs (by decide) ⟨g, 0, none⟩ n cap xs hown.1 (hown.cells rfl) ad 1 c [y] rfl hnews (by omega) h63 hbytes
      rcases r1.2 with ⟨_, h0⟩ | ⟨g', cap', cur, rfl, hb, rest⟩
      · omega
      · refine ⟨g', cap', w', hrun, ⟨r1.1, .inr ⟨g', cap', cur, rfl, Nat.le_trans hbase hb, rest⟩⟩, fun j u hu => ?_, ⟨r2.os, r2.tape, r2.output, r2.size, fun k hk _ => r2.block k hk (fun e => nomatch e)⟩⟩
        have hc := row_cell hown j u hu
        exact (World.cell?_of_block (a := ⟨g, j, none⟩) (r2.block g (World.block_lt_of_cell? w _ hc) (fun e => nomatch e))).trans hc
  obtain ⟨g', cap', w', hrun, r1, r2, r3⟩ := hr
  unfold Oper.wp execOp
  simp only [ho, resolve, invoke, builtin, Sem.run_bind, Sem.run_pure, Result.andThen_ok, List.map_toArray, List.map_cons, List.map_nil, hs, hx, hrun]
  exact h g' cap' w' r1 r2 r3
/-- The document's round numbers stand as they are laid. -/
abbrev RTab (w : World) : Prop := Lib.TabIs Tryz.prog w "strata/strataref03.rounds" .u32 kTab
theorem l_r : Tryz.prog.globalNamed "strata/strataref03.rounds" = some 2 := by kernel_rfl

set_option maxRecDepth 100000 in
set_option maxHeartbeats 4000000 in
theorem block_r (xs : List Int) (h8 : xs.length = 8) (bl : List UInt8) (hbl : bl.length = 64) (hb ho hc bb bo bc : Nat) (w : World)
    (hxs : ∀ i, i < 8 → w.cell? ⟨hb, ho + i, none⟩ = some (.int .u32 (xs.getD i 0)))
    (hbs : ∀ (i : Nat) (h : i < bl.length), w.cell? ⟨bb, bo + i, none⟩ = some (.int .u8 bl[i].toNat)) (hk : RTab w) :
    Calls Tryz.prog 55 #[.slice (some ⟨hb, ho, none⟩) 8 hc, .slice (some ⟨bb, bo, none⟩) 64 bc] w fun e w' => ∃ v, e = .returned v ∧ w'.ownsRow w.heap.size 79 1 v 8 (i32s (compress xs bl)) ∧ Below w.heap.size w w' := by
  obtain ⟨i0, hi, z0, z1, z2⟩ := info_parts u32_info
  have HXS : Hid _ := hxs
  have HBS : Hid _ := hbs
  clear hxs hbs
  go_enter Tryz.func55, Tryz.ntmps55
  go_wp2
  go_loopw [5, 6] (fun v n wr => ∃ k : Nat, k ≤ 16 ∧ n = .int .i64 k ∧ wr.ownsRow w.heap.size 79 1 v k (i32s (sched bl k)) ∧ Below w.heap.size w wr) (fun _ n _ => 16 - (intOf n).toNat)
  case atStart => exact ⟨0, by omega, rfl, World.ownsRow_nil _ _ _ _, Below.refl _ _⟩
  case round =>
    obtain ⟨k, hk16, rfl, hown, hB⟩ := hrel
    by_cases hlt : k < 16
    · have c0 := (hB.cell (p := ⟨bb, bo + 4 * k, none⟩) (World.block_lt_of_cell? w _ (HBS.out (4 * k) (by omega)))).trans (HBS.out (4 * k) (by omega))
      have c1 := (hB.cell (p := ⟨bb, bo + (4 * k + 1), none⟩) (World.block_lt_of_cell? w _ (HBS.out (4 * k + 1) (by omega)))).trans (HBS.out (4 * k + 1) (by omega))
      have c2 := (hB.cell (p := ⟨bb, bo + (4 * k + 2), none⟩) (World.block_lt_of_cell? w _ (HBS.out (4 * k + 2) (by omega)))).trans (HBS.out (4 * k + 2) (by omega))
      have c3 := (hB.cell (p := ⟨bb, bo + (4 * k + 3), none⟩) (World.block_lt_of_cell? w _ (HBS.out (4 * k + 3) (by omega)))).trans (HBS.out (4 * k + 3) (by omega))
      have HN : Hid (nextW bl (sched bl k) k = word4 bl[4 * k] bl[4 * k + 1] bl[4 * k + 2] bl[4 * k + 3]) := by
        unfold Hid nextW; rw [if_pos hlt, getD_byte _ _ (by omega), getD_byte _ _ (by omega), getD_byte _ _ (by omega), getD_byte _ _ (by omega)]
      generalize bl[4 * k] = b0 at *
      generalize bl[4 * k + 1] = b1 at *
      generalize bl[4 * k + 2] = b2 at *
      generalize bl[4 * k + 3] = b3 at *
      have e0 := b0.toNat_lt
      have e1 := b1.toNat_lt
      have e2 := b2.toNat_lt
      have e3 := b3.toNat_lt
      have d1 : (0 : Int) ≤ (k : Int) := by omega
      have d2 : (k : Int) < 16 := by omega
      have p0 : IntKind.i64.wrap (4 * (k : Int)) = 4 * (k : Int) := wrap64_of (by omega) (by omega)
      have p1 : IntKind.i64.wrap (4 * (k : Int) + 1) = 4 * (k : Int) + 1 := wrap64_of (by omega) (by omega)
      have n1 : (4 * (k : Int) + 1).toNat = 4 * k + 1 := by omega
      have r1 : (0 : Int) ≤ 4 * (k : Int) + 1 := by omega
      have r1b : 4 * (k : Int) + 1 < 64 := by omega
      have r1c : 4 * (k : Int) < 63 := by omega
      have p2 : IntKind.i64.wrap (4 * (k : Int) + 2) = 4 * (k : Int) + 2 := wrap64_of (by omega) (by omega)
      have n2 : (4 * (k : Int) + 2).toNat = 4 * k + 2 := by omega
      have r2 : (0 : Int) ≤ 4 * (k : Int) + 2 := by omega
      have r2b : 4 * (k : Int) + 2 < 64 := by omega
      have r2c : 4 * (k : Int) < 62 := by omega
      have p3 : IntKind.i64.wrap (4 * (k : Int) + 3) = 4 * (k : Int) + 3 := wrap64_of (by omega) (by omega)
      have n3 : (4 * (k : Int) + 3).toNat = 4 * k + 3 := by omega
      have r3 : (0 : Int) ≤ 4 * (k : Int) + 3 := by omega
      have r3b : 4 * (k : Int) + 3 < 64 := by omega
      have r3c : 4 * (k : Int) < 61 := by omega
      have n0 : (4 * (k : Int)).toNat = 4 * k := by omega
      have r0 : (0 : Int) ≤ 4 * (k : Int) := by omega
      have r0b : 4 * (k : Int) < 64 := by omega
      have q0 : IntKind.u32.wrap ((b0.toNat : Int) * 16777216) = (b0.toNat : Int) * 16777216 := by rw [IntKind.wrap_u32]; omega
      have q1 : IntKind.u32.wrap ((b1.toNat : Int) * 65536) = (b1.toNat : Int) * 65536 := by rw [IntKind.wrap_u32]; omega
      have q2 : IntKind.u32.wrap ((b2.toNat : Int) * 256) = (b2.toNat : Int) * 256 := by rw [IntKind.wrap_u32]; omega
      have q0' : IntKind.u32.wrap (b0.toNat : Int) = (b0.toNat : Int) := by rw [IntKind.wrap_u32]; omega
      have q1' : IntKind.u32.wrap (b1.toNat : Int) = (b1.toNat : Int) := by rw [IntKind.wrap_u32]; omega
      have q2' : IntKind.u32.wrap (b2.toNat : Int) = (b2.toNat : Int) := by rw [IntKind.wrap_u32]; omega
      have q3' : IntKind.u32.wrap (b3.toNat : Int) = (b3.toNat : Int) := by rw [IntKind.wrap_u32]; omega
      have lb := World.block_lt_of_cell? w _ (HBS.out (4 * k) (by omega))
      have av : u5.ownBlock ≠ some bb := fun e => by have h1 := (hown.lt bb e).1; have h2 : bb < w.heap.size := lb; omega
      have hs1 := hB.size
      have HW : Hid (i32s (sched bl (k + 1)) = i32s (sched bl k) ++ [.int .u32 (word4 b0 b1 b2 b3)]) := by unfold Hid; rw [← HN.out, sched, i32s_append]; rfl
      clear HN
      go_wp2_with fail
      go_region_held3 (fun w' => w'.cell? ⟨bb, bo + 4 * k, none⟩ = some (.int .u8 (b0.toNat : Int)) ∧ w'.cell? ⟨bb, bo + (4 * k + 1), none⟩ = some (.int .u8 (b1.toNat : Int)) ∧ w'.cell? ⟨bb, bo + (4 * k + 2), none⟩ = some (.int .u8 (b2.toNat : Int)) ∧ w'.cell? ⟨bb, bo + (4 * k + 3), none⟩ = some (.int .u8 (b3.toNat : Int)))
        (first
          | go_keep
          | (go_split_ands
             refine ⟨?_, ?_, ?_, ?_⟩
             · (rw [hgrow.cell_far _ (by simp; omega) (Ne.symm av)]; assumption)
             · (rw [hgrow.cell_far _ (by simp; omega) (Ne.symm av)]; assumption)
             · (rw [hgrow.cell_far _ (by simp; omega) (Ne.symm av)]; assumption)
             · (rw [hgrow.cell_far _ (by simp; omega) (Ne.symm av)]; assumption)))
        ((refine step_append_lies _ (by rfl) _ _ _ (by rfl) w.heap.size 79 i0 _ 1 4 Tryz.underlying92 hi z0 z1 z2 rfl (by omega) u5 k (i32s (sched bl k)) (by rfl) ((hown.alloc _).drew) ⟨wr.heap.size, 0, none⟩ 1 1 [.int .u32 (word4 b0 b1 b2 b3)] (by rfl) (by rfl) (World.news_of_block (cs := #[.int .u32 (word4 b0 b1 b2 b3)]) (t := 79) (fr := (0, 0)) (heap_alloc_new wr _)) (by simp [Value.oneCell']) (by omega) (by unfold maxLen; omega) (by omega) (by simp; omega) (wr.heap.size + 1) (by simp) ?_; intro gg cap w1 hown1 hgrow hat hlt))
      rw [← HW.out] at hown1
      have HO : Hid (w1.ownsRow w.heap.size 79 1 (.slice (some ⟨gg, 0, none⟩) (k + 1) cap) (k + 1) (i32s (sched bl (k + 1)))) := hown1
      have B1 : Below w.heap.size w (wr.alloc (.cells #[.int .u32 (word4 b0 b1 b2 b3)] 79)).drew := below_drawn (hB.alloc hs1 _) 1
      have B2 : Below w.heap.size w w1 := B1.grown hgrow (by simp; omega) (fun r hr => (hown.lt r hr).1)
      clear hown1 hgrow hat HW q0 q1 q2 q0' q1' q2' q3'
      go_wp2
      exact ⟨⟨k + 1, by omega, by go_num, HO.out, B2⟩, by simp [intOf]; omega⟩
    · obtain rfl : k = 16 := by omega
      go_wp2
      rw [show ((16 : Nat) : Int) = 16 from rfl]
      go_loopw [5, 7] (fun v n wr => ∃ k : Nat, 16 ≤ k ∧ k ≤ 64 ∧ n = .int .i64 k ∧ wr.ownsRow w.heap.size 79 1 v k (i32s (sched bl k)) ∧ Below w.heap.size w wr) (fun _ n _ => 64 - (intOf n).toNat)
      case atStart => exact ⟨16, by omega, by omega, rfl, hown, hB⟩
      case round =>
        clear hown hB
        obtain ⟨k, hk16, hk64, rfl, hown, hB⟩ := hrel
        have hs1 := hB.size
        rcases hown.2 with ⟨_, h0⟩ | ⟨g, cap, cur, rfl, hbg, -⟩
        · omega
        have hl := sched_length bl k
        by_cases hlt : k < 64
        · have g2 := row_cell hown (k - 2) _ (i32s_get (sched bl k) (k - 2) (by omega))
          have g15 := row_cell hown (k - 15) _ (i32s_get (sched bl k) (k - 15) (by omega))
          have y7 := i32s_get (sched bl k) (k - 7) (by omega)
          have y16 := i32s_get (sched bl k) (k - 16) (by omega)
          have HN : Hid (i32s (sched bl (k + 1)) = i32s (sched bl k) ++ [.int .u32 (IntKind.u32.wrap (IntKind.u32.wrap (IntKind.u32.wrap (s1 ((sched bl k).getD (k - 2) 0) + (sched bl k).getD (k - 7) 0) + s0 ((sched bl k).getD (k - 15) 0)) + (sched bl k).getD (k - 16) 0))]) := by
            unfold Hid; rw [sched, i32s_append]; unfold nextW; rw [if_neg (by omega)]; rfl
          generalize (sched bl k).getD (k - 2) 0 = x2 at *
          generalize (sched bl k).getD (k - 7) 0 = x7 at *
          generalize (sched bl k).getD (k - 15) 0 = x15 at *
          generalize (sched bl k).getD (k - 16) 0 = x16 at *
          generalize i32s (sched bl k) = L at *
          have g7 := row_cell hown (k - 7) _ y7
          have g16 := row_cell hown (k - 16) _ y16
          have d1 : (0 : Int) ≤ (k : Int) := by omega
          have d2 : (k : Int) < 64 := by omega
          have r2 : (2 : Int) ≤ (k : Int) := by omega
          have r2b : (k : Int) - 2 < (k : Int) := by omega
          have n2 : ((k : Int) - 2).toNat = k - 2 := by omega
          have r15 : (15 : Int) ≤ (k : Int) := by omega
          have r15b : (k : Int) - 15 < (k : Int) := by omega
          have n15 : ((k : Int) - 15).toNat = k - 15 := by omega
          go_wp2_with fail
          refine (rturn_7 x15 _).mono ?_
          rintro e w7 ⟨rfl, d7, rfl⟩
          go_wp2_with fail
          refine (rturn_18 x15 _).mono ?_
          rintro e w18 ⟨rfl, d18, rfl⟩
          go_wp2_with fail
          refine (rturn_17 x2 _).mono ?_
          rintro e w17 ⟨rfl, d17, rfl⟩
          go_wp2_with fail
          refine (rturn_19 x2 _).mono ?_
          rintro e w19 ⟨rfl, d19, rfl⟩
          go_wp2_with fail
          have e0 : xor3 (rotI x15 7) (rotI x15 18) (x15 / 8) = s0 x15 := rfl
          have e1 : xor3 (rotI x2 17) (rotI x2 19) (x2 / 1024) = s1 x2 := rfl
          unfold xor3 at e0 e1
          rw [e0, e1]
          clear e0 e1
          generalize s0 x15 = S15 at *
          generalize s1 x2 = S2 at *
          have hOD : (wr.drewN (d7 + d18 + d17 + d19)).ownsRow w.heap.size 79 1 (.slice (some ⟨g, 0, none⟩) k cap) k L := hown
          have BD := below_drawn hB (d7 + d18 + d17 + d19)
          have hs2 := BD.size
          generalize wr.drewN (d7 + d18 + d17 + d19) = wd at *
          clear hown hB g2 g15 g7 g16 hs1
          have g7 := row_cell hOD (k - 7) _ y7
          have g16 := row_cell hOD (k - 16) _ y16
          have p7 : IntKind.i64.wrap ((k : Int) - 7) = (k : Int) - 7 := wrap64_of (by omega) (by omega)
          have n7 : ((k : Int) - 7).toNat = k - 7 := by omega
          have r7 : (7 : Int) ≤ (k : Int) := by omega
          have r7b : (k : Int) - 7 < (k : Int) := by omega
          have r7c : (0 : Int) ≤ (k : Int) - 7 := by omega
          have p16 : IntKind.i64.wrap ((k : Int) - 16) = (k : Int) - 16 := wrap64_of (by omega) (by omega)
          have n16 : ((k : Int) - 16).toNat = k - 16 := by omega
          have r16 : (16 : Int) ≤ (k : Int) := by omega
          have r16b : (k : Int) - 16 < (k : Int) := by omega
          have r16c : (0 : Int) ≤ (k : Int) - 16 := by omega
          go_region_held3 (fun w' => w'.cell? ⟨g, k - 7, none⟩ = some (.int .u32 x7) ∧ w'.cell? ⟨g, k - 16, none⟩ = some (.int .u32 x16))
            (first
              | go_keep
              | (exact ⟨hkept _ _ y7, hkept _ _ y16⟩))
            ((refine step_append_g _ (by rfl) _ _ _ (by rfl) w.heap.size 79 i0 _ 4 Tryz.underlying92 hi z0 z1 z2 rfl g k cap L (by rfl) ((hOD.alloc _).drew) ⟨wd.heap.size, 0, none⟩ 1 (.int .u32 (IntKind.u32.wrap (IntKind.u32.wrap (IntKind.u32.wrap (S2 + x7) + S15) + x16))) (by rfl) (World.news_of_block (cs := #[.int .u32 (IntKind.u32.wrap (IntKind.u32.wrap (IntKind.u32.wrap (S2 + x7) + S15) + x16))]) (t := 79) (fr := (0, 0)) (heap_alloc_new wd _)) rfl (by unfold maxLen; omega) (by omega) (by simp; omega) ?_; intro gg cap' w1 hown1 hkept hgrow))
          rw [← HN.out] at hown1
          have HO : Hid (w1.ownsRow w.heap.size 79 1 (.slice (some ⟨gg, 0, none⟩) (k + 1) cap') (k + 1) (i32s (sched bl (k + 1)))) := hown1
          have B1 : Below w.heap.size w (wd.alloc (.cells #[.int .u32 (IntKind.u32.wrap (IntKind.u32.wrap (IntKind.u32.wrap (S2 + x7) + S15) + x16))] 79)).drew := below_drawn (BD.alloc hs2 _) 1
          have B2 : Below w.heap.size w w1 := B1.grown hgrow (by simp; omega) (fun r hr => by cases hr; exact hbg)
          clear hown1 hgrow hkept HN y7 y16 g7 g16 p7 p16 n7 n16 r7b r7c r16b r16c hOD
          go_wp2
          exact ⟨⟨k + 1, by omega, by omega, by go_num, HO.out, B2⟩, by simp [intOf]; omega⟩
        · obtain rfl : k = 64 := by omega
          have hz8 := (zero_of_info (P := Tryz.prog) info_8).1
          have hxl : (i32s xs).length = 8 := by simp [i32s, h8]
          have hcs : ∀ W : World, Below w.heap.size w W → ∀ j v, (i32s xs)[j]? = some v → W.cell? ((⟨hb, ho, none⟩ : Addr).add j) = some v := fun W hB j v hj => by
            have hj8 : j < 8 := by have := (List.getElem?_eq_some_iff.1 hj).1; omega
            rw [i32s_get xs j (by omega)] at hj
            rw [Addr.add_mid, ← Option.some.inj hj]
            exact (hB.cell (p := ⟨hb, ho + j, none⟩) (World.block_lt_of_cell? w _ (HXS.out j hj8))).trans (HXS.out j hj8)
          have hL0 : Lies (wr.alloc (.cells (u32s zero8) 80)) wr.heap.size 80 (u32s zero8) := Lies.new _ _ _
          have hB0 : Below w.heap.size w (wr.alloc (.cells (u32s zero8) 80)) := hB.alloc hs1 _
          have hcp := fun ty => run_copy_row (P := Tryz.prog) (wr.alloc (.cells (u32s zero8) 80)) 92 92 ty 79 wr.heap.size 0 8 8 ⟨hb, ho, none⟩ 8 hc (u32s zero8) 80 (i32s xs) Tryz.underlying92 (by kernel_rfl) hL0 (by rw [hxl]; rfl) (hcs _ hB0) (by rw [hxl]; decide) (fun v hv => by unfold i32s at hv; obtain ⟨_, _, rfl⟩ := List.mem_map.1 hv; rfl)
          have hcu : ((u32s zero8).toList.take 0 ++ i32s xs ++ (u32s zero8).toList.drop (0 + (i32s xs).length)).toArray = u32s xs := by rw [hxl]; simp [u32s, i32s, zero8]
          rw [hcu, hxl] at hcp
          have hsl := slice8_all wr.heap.size (wr.alloc (.cells (u32s zero8) 80))
          have hL1 := hL0.row (u32s xs)
          have hO1 : ((wr.alloc (.cells (u32s zero8) 80)).setRow wr.heap.size (u32s xs)).ownsRow w.heap.size 79 1 (.slice (some ⟨g, 0, none⟩) 64 cap) 64 (i32s (sched bl 64)) := own_same3 (hown.alloc _) (fun b hb => setRow_other _ _ _ _ (fun e => by have := (hown.lt b hb).2; omega))
          have hB2 := below_setRow hB0 hs1 (u32s xs)
          clear hcu hxl hL0 hB0 hcs
          go_wp2_with fail
          have hgl := (hown.lt g rfl).2
          have hgW : wr.heap.size < ((wr.alloc (.cells (u32s zero8) 80)).setRow wr.heap.size (u32s xs)).heap.size := hL1.lt
          generalize (wr.alloc (.cells (u32s zero8) 80)).setRow wr.heap.size (u32s xs) = W at *
          obtain ⟨gv, hgv⟩ : ∃ gv, gv = wr.heap.size := ⟨_, rfl⟩
          rw [← hgv] at hL1 hgl hgW hs1 ⊢
          clear hsl hcp hown hB hgv
          obtain ⟨x0, x1, x2, x3, x4, x5, x6, x7, rfl⟩ : ∃ x0 x1 x2 x3 x4 x5 x6 x7, xs = [x0, x1, x2, x3, x4, x5, x6, x7] := ⟨_, _, _, _, _, _, _, _, list8 h8⟩
          have hkB := var_lt l_r hk
          have HKW : Hid (∀ W : World, Below w.heap.size w W → ∀ i, i < 64 → W.cell? ⟨2, i, none⟩ = some (.int .u32 (kTab.getD i 0))) := fun W hB i h => by
            rw [hB.cell (p := ⟨2, i, none⟩) hkB]
            exact Lib.TabIs.cell hk l_r i h
          have hi8 : ∀ l : List Int, l.length = 8 → (Tryz.prog.info? 80).map (·.size) = some (u32s l).size := fun l h => by rw [u32s_size, h]; kernel_rfl
          have HI8 : Hid _ := hi8
          clear hi8
          try rw [show ((16 : Nat) : Int) = 16 from rfl]
          rw [show ((64 : Nat) : Int) = 64 from rfl]
          go_loopw [13] (fun n wr => ∃ (k : Nat) (a b' c d e f g' h : Int), k ≤ 64 ∧ n = .int .i64 k ∧ Hid (rnds (sched bl 64) ⟨x0, x1, x2, x3, x4, x5, x6, x7⟩ k = ⟨a, b', c, d, e, f, g', h⟩) ∧ Hid (Lies wr gv 80 (u32s [a, b', c, d, e, f, g', h])) ∧ Hid (wr.ownsRow w.heap.size 79 1 (.slice (some ⟨g, 0, none⟩) 64 cap) 64 (i32s (sched bl 64))) ∧ Below w.heap.size w wr) (fun n _ => 64 - (intOf n).toNat)
          case atStart => exact ⟨0, x0, x1, x2, x3, x4, x5, x6, x7, by omega, rfl, rfl, hL1, hO1, hB2⟩
          case round =>
            clear hL1 hO1 hB2
            obtain ⟨k, a, b', c, d, e, f, g', h, hk64, rfl, HST, HL, HO, hB⟩ := hrel
            by_cases hlt : k < 64
            · have ck := HKW.out wr hB k hlt
              have cw := row_cell HO.out k _ (i32s_get (sched bl 64) k (by rw [sched_length]; exact hlt))
              have HN : Hid (rnds (sched bl 64) ⟨x0, x1, x2, x3, x4, x5, x6, x7⟩ (k + 1) = rnd (kTab.getD k 0) ((sched bl 64).getD k 0) ⟨a, b', c, d, e, f, g', h⟩) := by unfold Hid; rw [rnds, HST.out]
              have c0 : wr.cell? ⟨gv, 0, none⟩ = some (.int .u32 a) := HL.out.cell rfl
              have c1 : wr.cell? ⟨gv, 1, none⟩ = some (.int .u32 b') := HL.out.cell rfl
              have c2 : wr.cell? ⟨gv, 2, none⟩ = some (.int .u32 c) := HL.out.cell rfl
              have c3 : wr.cell? ⟨gv, 3, none⟩ = some (.int .u32 d) := HL.out.cell rfl
              have c4 : wr.cell? ⟨gv, 4, none⟩ = some (.int .u32 e) := HL.out.cell rfl
              have c5 : wr.cell? ⟨gv, 5, none⟩ = some (.int .u32 f) := HL.out.cell rfl
              have c6 : wr.cell? ⟨gv, 6, none⟩ = some (.int .u32 g') := HL.out.cell rfl
              have c7 : wr.cell? ⟨gv, 7, none⟩ = some (.int .u32 h) := HL.out.cell rfl
              generalize kTab.getD k 0 = kk at *
              generalize (sched bl 64).getD k 0 = ww at *
              have d1 : (0 : Int) ≤ (k : Int) := by omega
              have d2 : (k : Int) < 64 := by omega
              clear HST
              go_wp2_with fail
              go_quiet (fail)
              have HL2 : Hid (Lies (wr.drewN nq) gv 80 (u32s [a, b', c, d, e, f, g', h])) := HL
              have HO2 : Hid ((wr.drewN nq).ownsRow w.heap.size 79 1 (.slice (some ⟨g, 0, none⟩) 64 cap) 64 (i32s (sched bl 64))) := HO
              have hB3 := below_drawn hB nq
              have k3 : (wr.drewN nq).cell? ⟨gv, 3, none⟩ = some (.int .u32 d) := c3
              have k7 : (wr.drewN nq).cell? ⟨gv, 7, none⟩ = some (.int .u32 h) := c7
              have kk2 : (wr.drewN nq).cell? ⟨2, k, none⟩ = some (.int .u32 kk) := ck
              have kw2 : (wr.drewN nq).cell? ⟨g, k, none⟩ = some (.int .u32 ww) := cw
              clear c0 c1 c2 c3 c4 c5 c6 c7 ck cw HL HO hB
              generalize wr.drewN nq = wd at *
              go_wp2_with fail
              go_quiet (first | (go_at_call 72; with_reducible exact Calls.quiet_of (rturn_6 e _)) | (go_at_call 72; with_reducible exact Calls.quiet_of (rturn_11 e _)) | (go_at_call 72; with_reducible exact Calls.quiet_of (rturn_25 e _)))
              have eT : ((h + bits .xor .u32 (bits .xor .u32 (rotI e 6) (rotI e 11)) (rotI e 25) + bits .xor .u32 (bits .and .u32 e f) (bits .and .u32 (bits .xor .u32 (if IntKind.u32.signed = true then -1 else IntKind.u32.max) e) g') + kk) % 4294967296 + ww) % 4294967296 = T1 h e f g' kk ww := by
                unfold T1 S1 xor3 notI; rw [Int.emod_add_emod]
              rw [eT]
              clear eT
              obtain ⟨t1, ht1⟩ : ∃ t1, t1 = T1 h e f g' kk ww := ⟨_, rfl⟩
              rw [← ht1]
              have HN2 : Hid (rnd kk ww ⟨a, b', c, d, e, f, g', h⟩ = ⟨(t1 + T2 a b' c) % 4294967296, a, b', c, (d + t1) % 4294967296, e, f, g'⟩) := by unfold Hid rnd; rw [ht1]
              clear ht1
              have HL3 : Hid (Lies (wd.drewN nq) gv 80 (u32s [a, b', c, d, e, f, g', h])) := HL2
              have HO3 : Hid ((wd.drewN nq).ownsRow w.heap.size 79 1 (.slice (some ⟨g, 0, none⟩) 64 cap) 64 (i32s (sched bl 64))) := HO2
              have hB4 := below_drawn hB3 nq
              clear HL2 HO2 hB3 k3 k7 kk2 kw2
              generalize wd.drewN nq = we at *
              have HB4 : Hid (Below w.heap.size w we) := hB4
              clear hB4 h8 hz8 hl
              generalize bits .xor .u32 (bits .xor .u32 (rotI e 6) (rotI e 11)) (rotI e 25) = q1
              generalize bits .xor .u32 (rotI e 6) (rotI e 11) = q2
              generalize bits .xor .u32 (bits .and .u32 e f) (bits .and .u32 (bits .xor .u32 (if IntKind.u32.signed = true then -1 else IntKind.u32.max) e) g') = q3
              generalize bits .and .u32 (bits .xor .u32 (if IntKind.u32.signed = true then -1 else IntKind.u32.max) e) g' = q4
              generalize bits .xor .u32 (if IntKind.u32.signed = true then -1 else IntKind.u32.max) e = q5
              generalize bits .and .u32 e f = q6
              generalize (h + q1 + q3 + kk) % 4294967296 = q7
              generalize (h + q1 + q3) % 4294967296 = q8
              generalize (h + q1) % 4294967296 = q9
              generalize rotI e 6 = q10
              generalize rotI e 11 = q11
              generalize rotI e 25 = q12
              generalize (q9 + q3) % 4294967296 = q13
              generalize (q8 + kk) % 4294967296 = q14
              have ht2 := fun W => rturn_2 a W
              have ht13 := fun W => rturn_13 a W
              have ht22 := fun W => rturn_22 a W
              have HT : Hid (T2 a b' c = (bits .xor .u32 (bits .xor .u32 (rotI a 2) (rotI a 13)) (rotI a 22) + bits .xor .u32 (bits .xor .u32 (bits .and .u32 a b') (bits .and .u32 a c)) (bits .and .u32 b' c)) % 4294967296) := rfl
              generalize rotI a 2 = r2 at *
              generalize rotI a 13 = r13 at *
              generalize rotI a 22 = r22 at *
              go_wp2_with fail
              refine (ht2 we).mono ?_
              rintro e2 w2 ⟨rfl, d2', rfl⟩
              go_wp2_with fail
              refine (ht13 _).mono ?_
              rintro e3 w13 ⟨rfl, d13, rfl⟩
              go_wp2_with fail
              refine (ht22 _).mono ?_
              rintro e4 w22 ⟨rfl, d22, rfl⟩
              have HL4 : Hid (Lies (we.drewN (d2' + d13 + d22)) gv 80 (u32s [a, b', c, d, e, f, g', h])) := HL3
              have HO4 : Hid ((we.drewN (d2' + d13 + d22)).ownsRow w.heap.size 79 1 (.slice (some ⟨g, 0, none⟩) 64 cap) 64 (i32s (sched bl 64))) := HO3
              have HB5 : Hid (Below w.heap.size w (we.drewN (d2' + d13 + d22))) := below_drawn HB4.out _
              have k3 : (we.drewN (d2' + d13 + d22)).cell? ⟨gv, 3, none⟩ = some (.int .u32 d) := HL3.out.cell rfl
              clear HL3 HO3 HB4 ht2 ht13 ht22
              rw [World.drewN_drewN]
              generalize we.drewN (d2' + d13 + d22) = wf at *
              have HN3 : Hid (rnds (sched bl 64) ⟨x0, x1, x2, x3, x4, x5, x6, x7⟩ (k + 1) = ⟨(t1 + (bits .xor .u32 (bits .xor .u32 r2 r13) r22 + bits .xor .u32 (bits .xor .u32 (bits .and .u32 a b') (bits .and .u32 a c)) (bits .and .u32 b' c))) % 4294967296, a, b', c, (d + t1) % 4294967296, e, f, g'⟩) := by
                unfold Hid; rw [HN.out, HN2.out, HT.out, Int.add_emod_emod]
              clear HN HN2 HT
              have HLX := HL4.out.row (u32s [(t1 + (bits .xor .u32 (bits .xor .u32 r2 r13) r22 + bits .xor .u32 (bits .xor .u32 (bits .and .u32 a b') (bits .and .u32 a c)) (bits .and .u32 b' c))) % 4294967296, a, b', c, (d + t1) % 4294967296, e, f, g'])
              have HO5 : Hid ((wf.setRow gv (u32s [(t1 + (bits .xor .u32 (bits .xor .u32 r2 r13) r22 + bits .xor .u32 (bits .xor .u32 (bits .and .u32 a b') (bits .and .u32 a c)) (bits .and .u32 b' c))) % 4294967296, a, b', c, (d + t1) % 4294967296, e, f, g'])).ownsRow w.heap.size 79 1 (.slice (some ⟨g, 0, none⟩) 64 cap) 64 (i32s (sched bl 64))) := own_same3 HO4.out (fun b hb => setRow_other wf gv b _ (fun e => by have hb2 : g = b := Option.some.inj hb; omega))
              have HB6 : Hid (Below w.heap.size w (wf.setRow gv (u32s [(t1 + (bits .xor .u32 (bits .xor .u32 r2 r13) r22 + bits .xor .u32 (bits .xor .u32 (bits .and .u32 a b') (bits .and .u32 a c)) (bits .and .u32 b' c))) % 4294967296, a, b', c, (d + t1) % 4294967296, e, f, g']))) := below_setRow HB5.out hs1 _
              go_wp2_with (refine wpList_store_row rfl 80 (.tmp 12) (.tmp 193) rfl gv (u32s [(t1 + (bits .xor .u32 (bits .xor .u32 r2 r13) r22 + bits .xor .u32 (bits .xor .u32 (bits .and .u32 a b') (bits .and .u32 a c)) (bits .and .u32 b' c))) % 4294967296, a, b', c, (d + t1) % 4294967296, e, f, g']) rfl rfl 80 (u32s [a, b', c, d, e, f, g', h]) HL4.out (HI8.out _ rfl) (by rw [u32s_size, u32s_size]; rfl) (u32s_one _) ?_)
              go_roundw
              case rel => exact ⟨k + 1, _, a, b', c, _, e, f, g', by omega, by go_num, HN3, HLX, HO5, HB6.out⟩
              case measure => simp [intOf]; omega
            · obtain rfl : k = 64 := by omega
              have HC : Hid (compress [x0, x1, x2, x3, x4, x5, x6, x7] bl = List.zipWith addI [x0, x1, x2, x3, x4, x5, x6, x7] [a, b', c, d, e, f, g', h]) := by
                unfold Hid compress
                show List.zipWith addI _ (stL (rnds (sched bl 64) ⟨x0, x1, x2, x3, x4, x5, x6, x7⟩ 64)) = _
                rw [HST.out]; rfl
              have hgl2 := HL.out.lt
              clear HST HO
              go_wp2
              rw [show ((64 : Nat) : Int) = 64 from rfl]
              obtain ⟨XS, hXS⟩ : ∃ XS, XS = [x0, x1, x2, x3, x4, x5, x6, x7] := ⟨_, rfl⟩
              obtain ⟨YS, hYS⟩ : ∃ YS, YS = [a, b', c, d, e, f, g', h] := ⟨_, rfl⟩
              have hX8 : XS.length = 8 := by rw [hXS]; rfl
              have hY8 : YS.length = 8 := by rw [hYS]; rfl
              rw [← hXS, ← hYS] at HC
              rw [← hXS] at HXS
              rw [← hYS] at HL
              have HC2 : Hid (compress [x0, x1, x2, x3, x4, x5, x6, x7] bl = List.zipWith addI XS YS) := by unfold Hid; rw [← hXS]; exact HC.out
              clear hXS hYS HC
              go_loopw [22, 23] (fun v n wr => ∃ k : Nat, k ≤ 8 ∧ n = .int .i64 k ∧ Hid (wr.ownsRow (gv + 1) 79 1 v k (i32s ((List.zipWith addI XS YS).take k))) ∧ Hid (Lies wr gv 80 (u32s YS)) ∧ Below w.heap.size w wr) (fun _ n _ => 8 - (intOf n).toNat)
              case atStart => exact ⟨0, by omega, rfl, World.ownsRow_nil _ _ _ _, HL, hB⟩
              case round =>
                clear HL hB hgl2
                obtain ⟨k, hk8, rfl, HO, HL, hB⟩ := hrel
                have hgl2 := HL.out.lt
                by_cases hlt : k < 8
                · have lb := World.block_lt_of_cell? w _ (HXS.out k hlt)
                  have ch : wr.cell? ⟨hb, ho + k, none⟩ = some (.int .u32 (XS.getD k 0)) := (hB.cell (p := ⟨hb, ho + k, none⟩) lb).trans (HXS.out k hlt)
                  have cv := HL.out.cell (u32s_get YS k (by omega))
                  have HN : Hid (i32s ((List.zipWith addI XS YS).take (k + 1)) = i32s ((List.zipWith addI XS YS).take k) ++ [.int .u32 (IntKind.u32.wrap (XS.getD k 0 + YS.getD k 0))]) := by
                    unfold Hid
                    rw [List.take_add_one, i32s_append, List.getElem?_zipWith, List.getElem?_eq_getElem (show k < XS.length by omega), List.getElem?_eq_getElem (show k < YS.length by omega), IntKind.wrap_u32]
                    simp [i32s, addI, List.getD_eq_getElem?_getD, hX8, hY8, hlt]
                  generalize XS.getD k 0 = xk at *
                  generalize YS.getD k 0 = yk at *
                  have hown := HO.out
                  generalize i32s ((List.zipWith addI XS YS).take k) = L at *
                  have ah : u22.ownBlock ≠ some hb := fun e => by have h1 := (hown.lt hb e).1; have h2 : hb < w.heap.size := lb; omega
                  have agv : u22.ownBlock ≠ some gv := fun e => by have h1 := (hown.lt gv e).1; omega
                  have lb2 : hb < wr.heap.size := by have h2 : hb < w.heap.size := lb; have := hB.size; omega
                  have d1 : (0 : Int) ≤ (k : Int) := by omega
                  have d2 : (k : Int) < 8 := by omega
                  go_wp2_with fail
                  go_region_held3 (fun w' => w'.cell? ⟨hb, ho + k, none⟩ = some (.int .u32 xk) ∧ w'.cell? ⟨gv, k, none⟩ = some (.int .u32 yk))
                    (first
                      | go_keep
                      | (go_split_ands
                         refine ⟨?_, ?_⟩
                         · (rw [hgrow.cell_far _ (by simp; omega) (Ne.symm ah)]; assumption)
                         · (rw [hgrow.cell_far _ (by simp; omega) (Ne.symm agv)]; assumption)))
                    ((refine step_append_lies _ (by rfl) _ _ _ (by rfl) (gv + 1) 79 i0 _ 1 4 Tryz.underlying92 hi z0 z1 z2 rfl (by omega) u22 k L (by rfl) ((hown.alloc _).drew) ⟨wr.heap.size, 0, none⟩ 1 1 [.int .u32 (IntKind.u32.wrap (xk + yk))] (by rfl) (by rfl) (World.news_of_block (cs := #[.int .u32 (IntKind.u32.wrap (xk + yk))]) (t := 79) (fr := (0, 0)) (heap_alloc_new wr _)) (by simp [Value.oneCell']) (by omega) (by unfold maxLen; omega) (by omega) (by simp; omega) (wr.heap.size + 1) (by simp) ?_; intro gg cap' w1 hown1 hgrow hat hlt2))
                  rw [← HN.out] at hown1
                  have HO2 : Hid (w1.ownsRow (gv + 1) 79 1 (.slice (some ⟨gg, 0, none⟩) (k + 1) cap') (k + 1) (i32s ((List.zipWith addI XS YS).take (k + 1)))) := hown1
                  have B1 : Below w.heap.size w (wr.alloc (.cells #[.int .u32 (IntKind.u32.wrap (xk + yk))] 79)).drew := below_drawn (hB.alloc hB.size _) 1
                  have B2 : Below w.heap.size w w1 := B1.grown hgrow (by have := hB.size; simp; omega) (fun r hr => by have := (hown.lt r hr).1; omega)
                  have HL2 : Hid (Lies w1 gv 80 (u32s YS)) := (hgrow.block gv (by simp; omega) (Ne.symm agv)).trans (HL.out.alloc _)
                  clear hown1 hgrow hat HN ch cv
                  go_wp2
                  exact ⟨⟨k + 1, by omega, by go_num, HO2, HL2, B2⟩, by simp [intOf]; omega⟩
                · obtain rfl : k = 8 := by omega
                  have HO2 : Hid (wr.ownsRow w.heap.size 79 1 u22 8 (i32s (compress [x0, x1, x2, x3, x4, x5, x6, x7] bl))) := by
                    have h := HO.out
                    rw [List.take_of_length_le (by simp [hX8, hY8]), ← HC2.out] at h
                    exact own_base3 h (by omega)
                  clear HO HC2
                  go_wp2
                  go_ret
                  exact ⟨_, rfl, HO2.out, hB⟩
end Go.Proofs.YtodgcmhkojkpcaaGreatDoor
