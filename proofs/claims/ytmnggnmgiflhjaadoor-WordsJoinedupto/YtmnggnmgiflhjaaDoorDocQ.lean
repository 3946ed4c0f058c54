/- The document's Quote. -/
import Derived.Test.YtmnggnmgiflhjaaDoorDocB
namespace Go.Proofs.YtmnggnmgiflhjaaDoor
open Go Go.RowKit

theorem cell_one_new' (w : World) (x : Value) (t : TypeId) : ∀ (j : Nat) u, [x][j]? = some u → (w.alloc (.cells #[x] t)).cell? ((⟨w.heap.size, 0, none⟩ : Addr).add j) = some u := by
  intro j u hj
  rcases j with _ | j
  · simp at hj; subst hj; simp [Addr.add]
  · simp at hj
theorem conv_own (l : List UInt8) (B : Nat) (v : Value) (w : World) (h : w.ownsRow B 5 1 v l.length (Lib.byteCells l)) : (convert 45 9 v).run Tryd.prog w = .ok (.string (bs l)) w := by
  rcases h.2 with ⟨rfl, h0⟩ | ⟨g, cap, cur, rfl, _⟩
  · obtain rfl : l = [] := List.length_eq_zero_iff.1 h0
    rw [run_convert_bytes_string w 45 9 5 none 0 0 Tryd.underlying45 Tryd.underlying5 Tryd.underlying9]
    rfl
  · exact run_convert_bytes_back w 45 9 5 ⟨g, 0, none⟩ cap l Tryd.underlying45 Tryd.underlying5 Tryd.underlying9 (fun j hj => by
      rw [Addr.add_mid, Nat.zero_add, h.cellAt j (by omega)]
      unfold Lib.byteCells
      rw [List.getElem?_map, List.getElem?_eq_getElem hj]; rfl)
theorem own_one (w : World) (x : UInt8) : (w.alloc (.cells #[.int .u8 x.toNat] 5)).ownsRow w.heap.size 5 1 (.slice (some ⟨w.heap.size, 0, none⟩) 1 1) 1 (Lib.byteCells [x]) :=
  ⟨rfl, .inr ⟨w.heap.size, 1, #[.int .u8 x.toNat], rfl, Nat.le_refl _, World.alloc_heap_new w _, Nat.le_refl _, by unfold maxLen; omega, rfl, rfl⟩⟩
set_option maxRecDepth 100000 in
set_option maxHeartbeats 4000000 in
theorem quote_r (s : ByteArray) (c : UInt8) (w : World) (hs : s.size ≤ 1099511627776) : Calls Tryd.prog 16 #[.string s, .int .u8 c.toNat] w fun e w' => e = .returned (.string (bs (quoL (escN c) (un s)))) ∧ Below w.heap.size w w' := by
  obtain ⟨i0, hi, z0, z1, z2⟩ := info_parts byte_info
  have hsl := un_length s
  have hep := fun W => esc_r c W
  have hp := fun W => bare_r s W hs
  cases hpl : plL (un s)
  rotate_left
  · rw [hpl] at hp
    have HQ : Hid (bs (quoL (escN c) (un s)) = s) := by unfold Hid quoL; rw [if_pos hpl, bs_un]
    rw [HQ.out]
    clear hpl
    go_enter Tryd.func16, Tryd.ntmps16
    go_wp2_with (first | (go_at_call 33; refine (hp _).mono ?_; rintro e w1 ⟨rfl, hw⟩; replace hw := hw.symm; subst hw) | (go_at_call 22; refine (hep _).mono ?_; rintro e w1 ⟨rfl, hw⟩; replace hw := hw.symm; subst hw))
    go_ret
    exact ⟨rfl, Below.refl _ _⟩
  rw [hpl] at hp
  have HQ : Hid (quoL (escN c) (un s) = 34 :: (bodyL (escN c) (un s) ++ [34])) := by unfold Hid quoL; rw [if_neg (by rw [hpl]; decide)]
  rw [HQ.out]
  generalize escN c = x at *
  clear hpl HQ
  have h1 := own_one w 34
  have b2 : Below w.heap.size w (w.alloc (.cells #[.int .u8 (34 : UInt8).toNat] 5)) := (Below.refl _ w).alloc (Nat.le_refl _) _
  go_enter Tryd.func16, Tryd.ntmps16
  go_wp2_with (first | (go_at_call 33; refine (hp _).mono ?_; rintro e w1 ⟨rfl, hw⟩; replace hw := hw.symm; subst hw) | (go_at_call 22; refine (hep _).mono ?_; rintro e w1 ⟨rfl, hw⟩; replace hw := hw.symm; subst hw))
  go_loopw [6, 7] (fun v i wr => ∃ k : Nat, k ≤ s.size ∧ i = .int .i64 k ∧ wr.ownsRow w.heap.size 5 1 v (34 :: bodyL x ((un s).take k)).length (Lib.byteCells (34 :: bodyL x ((un s).take k))) ∧ Below w.heap.size w wr) (fun _ i _ => s.size - (intOf i).toNat)
  case atStart => exact ⟨0, Nat.zero_le _, rfl, h1, b2⟩
  case round =>
    clear h1 b2
    obtain ⟨k, hk, rfl, hown, hB⟩ := hrel
    have hsz := hB.size
    have hbl := bodyL_length x ((un s).take k)
    rw [List.length_take] at hbl
    by_cases hlt : k < s.size
    · have hget := un_getElem? s k hlt
      have HS : Hid (bodyL x ((un s).take (k + 1)) = bodyL x ((un s).take k) ++ (if mrk x s[k] = true then [x, s[k]] else [s[k]])) := by
        unfold Hid; rw [List.take_add_one, hget]; exact bodyL_snoc _ _ _
      have k0 : (0 : Int) ≤ (k : Int) := by omega
      have k1 : (k : Int) < (s.size : Int) := by omega
      have q1 : ((s[k].toNat : Int) == 34) = decide (s[k] = 34) := beq_u8 s[k] 34 (by decide)
      have q2 : ((s[k].toNat : Int) == 36) = decide (s[k] = 36) := beq_u8 s[k] 36 (by decide)
      have q3 := beq_u88 s[k] x
      have HM : Hid (mrk x s[k] = (decide (s[k] = 34) || decide (s[k] = 36) || decide (s[k] = x))) := by unfold Hid mrk; rfl
      clear hget
      generalize hbb : bodyL x ((un s).take k) = bd at *
      generalize decide (s[k] = 34) = m1 at *
      generalize decide (s[k] = 36) = m2 at *
      generalize decide (s[k] = x) = m3 at *
      have hbl2 : (34 :: bd).length ≤ 2 * k + 1 := by simp; omega
      generalize hcc : 34 :: bd = cd at *
      cases hm : (m1 || m2 || m3)
      · have HS2 : Hid (34 :: bodyL x ((un s).take (k + 1)) = cd ++ [s[k]]) := by unfold Hid; rw [HS.out, HM.out, hm, ← hcc]; rfl
        obtain ⟨⟨rfl, rfl⟩, rfl⟩ : (m1 = false ∧ m2 = false) ∧ m3 = false := by revert hm; cases m1 <;> cases m2 <;> cases m3 <;> simp
        clear HS HM hm
        go_wp2_with (at_builtin; refine wpList_append_own _ rfl _ _ 45 rfl w.heap.size 5 i0 (.int .u8 0) 1 1 Tryd.underlying45 hi z0 z1 z2 rfl (by decide) _ _ _ rfl (hown.alloc _) ⟨wr.heap.size, 0, none⟩ 1 1 [.int .u8 s[k].toNat] rfl rfl (cell_one_new' _ _ _) (by simp [Value.oneCell']) (by unfold maxLen; omega) (by omega) (by simp; omega) ?_; intro v1 w1 hown1 hgrow1 _)
        have hb1 : Below w.heap.size w w1 := (hB.alloc hsz _).grown hgrow1 (by simp; omega) (fun j hj => (own_ge hown j hj.symm).1)
        first
          | exact ⟨⟨k + 1, by omega, by go_num, by rw [HS2.out, Lib.byteCells_append, List.length_append]; exact hown1, hb1⟩, by simp [intOf]; omega⟩
          | (go_roundw
             case rel => exact ⟨k + 1, by omega, by go_num, by rw [HS2.out, Lib.byteCells_append, List.length_append]; exact hown1, hb1⟩
             case measure => simp [intOf]; omega)
      · have HS2 : Hid (34 :: bodyL x ((un s).take (k + 1)) = cd ++ [x] ++ [s[k]]) := by unfold Hid; rw [HS.out, HM.out, hm, ← hcc]; simp
        clear HS HM
        cases m1 <;> cases m2 <;> cases m3
        all_goals first | (exfalso; revert hm; decide) | skip
        all_goals
          clear hm
          go_wp2_with (first | (at_builtin; refine wpList_append_own _ rfl _ _ 45 rfl w.heap.size 5 i0 (.int .u8 0) 1 1 Tryd.underlying45 hi z0 z1 z2 rfl (by decide) _ _ _ rfl (hown.alloc _) ⟨wr.heap.size, 0, none⟩ 1 1 [.int .u8 x.toNat] rfl rfl (cell_one_new' _ _ _) (by simp [Value.oneCell']) (by unfold maxLen; omega) (by omega) (by simp; omega) ?_; intro v1 w1 hown1 hgrow1 _; have hb1 : Below w.heap.size w w1 := (hB.alloc hsz _).grown hgrow1 (by simp; omega) (fun j hj => (own_ge hown j hj.symm).1)) | (at_builtin; refine wpList_append_own _ rfl _ _ 45 rfl w.heap.size 5 i0 (.int .u8 0) 1 1 Tryd.underlying45 hi z0 z1 z2 rfl (by decide) _ _ _ rfl (hown1.alloc _) ⟨w1.heap.size, 0, none⟩ 1 1 [.int .u8 s[k].toNat] rfl rfl (cell_one_new' _ _ _) (by simp [Value.oneCell']) (by unfold maxLen; omega) (by omega) (by have := hb1.size; simp; omega) ?_; intro v2 w2 hown2 hgrow2 _; have hb2 : Below w.heap.size w w2 := (hb1.alloc hb1.size _).grown hgrow2 (by have := hb1.size; simp; omega) (fun j hj => (own_ge hown1 j hj.symm).1)))
          have E2 : (cd ++ [x] ++ [s[k]]).length = cd.length + 1 + 1 := by simp
          first
            | exact ⟨⟨k + 1, by omega, by go_num, by rw [HS2.out, E2, Lib.byteCells_append, Lib.byteCells_append]; exact hown2, hb2⟩, by simp [intOf]; omega⟩
            | (go_roundw
               case rel => exact ⟨k + 1, by omega, by go_num, by rw [HS2.out, E2, Lib.byteCells_append, Lib.byteCells_append]; exact hown2, hb2⟩
               case measure => simp [intOf]; omega)
    · obtain rfl : k = s.size := by omega
      rw [show (un s).take s.size = un s by rw [← hsl, List.take_length]] at hown hbl
      have hbl2 : (34 :: bodyL x (un s)).length ≤ 2 * s.size + 1 := by simp; omega
      have HE : Hid (34 :: (bodyL x (un s) ++ [34]) = (34 :: bodyL x (un s)) ++ [34]) := rfl
      generalize 34 :: bodyL x (un s) = cd at *
      go_wp2_with (first | (at_builtin; refine wpList_append_own _ rfl _ _ 45 rfl w.heap.size 5 i0 (.int .u8 0) 1 1 Tryd.underlying45 hi z0 z1 z2 rfl (by decide) _ _ _ rfl (hown.alloc _) ⟨wr.heap.size, 0, none⟩ 1 1 [.int .u8 34] rfl rfl (cell_one_new' _ _ _) (by simp [Value.oneCell']) (by unfold maxLen; omega) (by omega) (by simp; omega) ?_; intro v1 w1 hown1 hgrow1 _; have hb1 : Below w.heap.size w w1 := (hB.alloc hsz _).grown hgrow1 (by simp; omega) (fun j hj => (own_ge hown j hj.symm).1); have hcv := conv_own (cd ++ [34]) w.heap.size _ _ (by rw [Lib.byteCells_append, List.length_append]; exact hown1)))
      go_ret
      exact ⟨by rw [HE.out]; rfl, hb1⟩
end Go.Proofs.YtmnggnmgiflhjaaDoor
