/- UstarPosix, walked: what is written is a header as the standard has it. -/
import Derived.Test.YtolaekngmoacaabGreatDoorWorksU
import Derived.Test.YtolaekngmoacaabGreatDoorPosU
namespace Go.Proofs.YtolaekngmoacaabGreatDoor
open Go Go.RowKit

theorem ext_field (l : List UInt8) (f : Nat) : un ((bs l).extract (bg f) (bg (f + 1))) = fieldL l f := by
  rw [un_extract, un_bs, List.drop_take]; rfl
theorem ext_size (l : List UInt8) (hl : l.length = 512) (f : Nat) (hf : f < 16) : ((bs l).extract (bg f) (bg (f + 1))).size = rm f := by
  rw [← un_length, ext_field, fieldL_length l hl f hf]
theorem getD_bs (l : List UInt8) (k : Nat) (h : k < (bs l).size) : (bs l)[k] = l.getD k 0 := by
  have := un_getElem? (bs l) k h
  rw [un_bs] at this
  rw [List.getD_eq_getElem?_getD, this]; rfl
set_option maxRecDepth 100000 in
set_option maxHeartbeats 4000000 in
theorem posix_law (h : Hd) (hs : h.path.size < 4611686018427387904) (w : World) (hE : Env w) (hg : ErrType w) : Calls Tryz.prog 4 #[.agg (hcs h)] w fun e w' => e = .returned (.bool true) ∧ Below w.heap.size w w' := by
  have L0 := Lies.new w 23 (hcs h)
  have B0 := (Below.refl _ w).alloc (Nat.le_refl _) (.cells (hcs h) 23)
  have E0 := hE.below B0
  have G0 := hg.below B0
  have HEN : Hid (∀ W, Env W → Calls Tryz.prog 6 #[.agg (hcs h)] W fun e w' => e = .returned (.tuple #[.string (encP h).1, errV (encP h).2]) ∧ Below W.heap.size W w') := fun W hW => encode_p shelf5 h W hs hW
  have hi : (Tryz.prog.info? 23).map (·.size) = some (hcs h).size := info_hd
  by_cases he : (encP h).2 = 0
  rotate_left
  · rw [errV_some _ he] at HEN
    generalize (encP h).2 = n at *
    generalize (encP h).1 = X at *
    generalize hcs h = CA at *
    go_enter Tryz.func4, Tryz.ntmps4
    go_wp2_with (first | (refine wpList_load_row rfl 23 (.tmp 1) rfl w.heap.size rfl 23 CA (0, 0) _ L0 Tryz.underlying23 rfl hi ?_))
    refine (HEN.out _ E0).mono ?_
    rintro e w1 ⟨rfl, b1⟩
    have B1 := below_join B0 b1
    have E1 := E0.below b1
    have G1 := G0.below b1
    go_wp2_with (go_at_call 7; refine (works_p w1 E1 G1).mono ?_; rintro e w2 ⟨rfl, b2⟩)
    go_ret
    exact ⟨rfl, below_join B1 b2⟩
  obtain ⟨good, hLL⟩ := good_of h he
  rw [hLL, he, errV_zero] at HEN
  have hlen := enc_length good
  have hsz : (bs (encL h)).size = 512 := by rw [size_bs, hlen]
  have hF := fun f hf => (ext_field (encL h) f).trans (enc_field good f hf)
  have hS := fun f hf => ext_size (encL h) hlen f hf
  have ft := fitted_of good.fit
  have hsum := enc_sum h
  have hok := num_ok h good.nm
  have hnn : ∀ k, k < 7 → (((num h k).toNat : Nat) : Int) = num h k ∧ (num h k).toNat < 8 ^ (rm (fld k) - 1) ∧ rm (fld k) - 1 ≤ 12 := fun k hk => by
    obtain ⟨x, m, hx, hm, hm10, hx8⟩ := hok k hk
    rw [hx, Int.toNat_natCast, hm]
    exact ⟨rfl, by rw [show m + 2 - 1 = m + 1 by omega]; exact hx8, by omega⟩
  have oct : ∀ (k a b : Nat) (x : Int), k < 7 → a = bg (fld k) → b = bg (fld k + 1) → x = num h k → encF h (octD (sumB (numB h 7)) 6 ++ [0, 32]) (fld k) = octD (num h k).toNat (rm (fld k) - 1) ++ [0] → ∀ W, Calls Tryz.prog 12 #[.string ((bs (encL h)).extract a b), .int .i64 x] W fun e w' => e = .returned (.bool true) ∧ w' = W := by
    rintro k a b x hk rfl rfl rfl hen W
    obtain ⟨n1, n2, n3⟩ := hnn k hk
    have := octal_t ((bs (encL h)).extract (bg (fld k)) (bg (fld k + 1))) (num h k).toNat (rm (fld k) - 1) (by rw [hF (fld k) (rm_fld k hk).1]; exact hen) n2 n3 W
    rw [n1] at this
    exact this
  have o0 := oct 0 100 108 h.mode (by omega) rfl rfl rfl rfl
  have o1 := oct 1 108 116 h.uid (by omega) rfl rfl rfl rfl
  have o2 := oct 2 116 124 h.gid (by omega) rfl rfl rfl rfl
  have o3 := oct 3 124 136 h.size (by omega) rfl rfl rfl rfl
  have o4 := oct 4 136 148 h.time (by omega) rfl rfl rfl rfl
  have o5 := oct 5 329 337 h.major (by omega) rfl rfl rfl rfl
  have o6 := oct 6 337 345 h.minor (by omega) rfl rfl rfl rfl
  have txt : ∀ (f a b n : Nat) (x : ByteArray), f < 16 → a = bg f → b = bg (f + 1) → n = rm f → encF h (octD (sumB (numB h 7)) 6 ++ [0, 32]) f = fill n (un x) → x.size ≤ n → ∀ W, Calls Tryz.prog 13 #[.string ((bs (encL h)).extract a b), .string x] W fun e w' => e = .returned (.bool true) ∧ w' = W := by
    rintro f a b n x hf rfl rfl rfl hen hx W
    have hsz2 := hS f hf
    have hle : rm f ≤ 512 := by have := bg_le (f + 1) (by omega); unfold rm; omega
    exact texted_t _ x (by rw [hF f hf, hsz2]; exact hen) (by omega) (by omega) W
  have x8 := txt 8 157 257 100 h.link (by omega) rfl rfl rfl rfl good.lk
  have x10 := txt 10 265 297 32 h.user (by omega) rfl rfl rfl rfl (by have := ft.u1; omega)
  have x11 := txt 11 297 329 32 h.group (by omega) rfl rfl rfl rfl (by have := ft.u2; omega)
  have x15 := txt 15 500 512 12 ⟨#[]⟩ (by omega) rfl rfl rfl rfl (by decide)
  have hpt := pathed_t ((bs (encL h)).extract 0 100) ((bs (encL h)).extract 345 500) h.path good.sp ft.z1 (hF 0 (by omega)) (hF 14 (by omega))
  have hmg : (((bs (encL h)).extract 257 265).toList == [117, 115, 116, 97, 114, 0, 48, 48]) = true := by
    rw [toList_un]; exact beq_iff_eq.2 (hF 9 (by omega))
  have h156 : ∀ hb : 156 < (bs (encL h)).size, (bs (encL h))[156] = h.typ := fun hb => by
    have e7 : un ((bs (encL h)).extract 156 157) = [h.typ] := hF 7 (by omega)
    have : (encL h)[156]? = some h.typ := by
      have := congrArg (fun l => l[0]?) e7
      rw [un_extract, un_bs] at this
      simpa [List.getElem?_drop] using this
    rw [getD_bs _ _ hb, List.getD_eq_getElem?_getD, this]; rfl
  have h155 : ∀ hb : 155 < (bs (encL h)).size, (bs (encL h))[155].toNat = 32 := fun hb => by
    have e6 : un ((bs (encL h)).extract 148 156) = octD (sumB (numB h 7)) 6 ++ [0, 32] := hF 6 (by omega)
    have hol := octD_length 6 (sumB (numB h 7))
    have : (encL h)[155]? = some 32 := by
      have := congrArg (fun l => l[7]?) e6
      rw [un_extract, un_bs] at this
      simp only [List.getElem?_drop] at this
      rw [List.getElem?_append_right (by omega), hol] at this
      rw [List.getElem?_take_of_lt (by omega)] at this
      exact this
    rw [getD_bs _ _ hb, List.getD_eq_getElem?_getD, this]; rfl
  have h148 : ∀ W, Calls Tryz.prog 12 #[.string ((bs (encL h)).extract 148 155), .int .i64 (sumB (encL h))] W fun e w' => e = .returned (.bool true) ∧ w' = W := fun W => by
    have e6 : un ((bs (encL h)).extract 148 156) = octD (sumB (numB h 7)) 6 ++ [0, 32] := hF 6 (by omega)
    have hol := octD_length 6 (sumB (numB h 7))
    rw [hsum]
    refine octal_t _ (sumB (numB h 7)) 6 ?_ (sum_small _) (by decide) W
    rw [un_extract] at e6 ⊢
    have : ((un (bs (encL h))).take 155).drop 148 = (((un (bs (encL h))).take 156).drop 148).take 7 := by
      rw [List.drop_take, List.drop_take, List.take_take]; rfl
    rw [this, e6, List.take_append, List.take_of_length_le (by omega), hol]; rfl
  have hbyte : Hid (∀ k (hb : k < (bs (encL h)).size), (bs (encL h))[k] = (encL h).getD k 0) := fun k hb => getD_bs _ _ hb
  clear oct txt hF hS hok hnn hsum hLL he ft
  have HF : Hid (∀ W, Lies W w.heap.size 23 (hcs h) → W.cell? ⟨w.heap.size, 0, none⟩ = some (.string h.path) ∧ W.cell? ⟨w.heap.size, 1, none⟩ = some (.int .i64 h.mode) ∧ W.cell? ⟨w.heap.size, 2, none⟩ = some (.int .i64 h.uid) ∧ W.cell? ⟨w.heap.size, 3, none⟩ = some (.int .i64 h.gid) ∧ W.cell? ⟨w.heap.size, 4, none⟩ = some (.int .i64 h.size) ∧ W.cell? ⟨w.heap.size, 5, none⟩ = some (.int .i64 h.time) ∧ W.cell? ⟨w.heap.size, 6, none⟩ = some (.int .u8 h.typ.toNat) ∧ W.cell? ⟨w.heap.size, 7, none⟩ = some (.string h.link) ∧ W.cell? ⟨w.heap.size, 8, none⟩ = some (.string h.user) ∧ W.cell? ⟨w.heap.size, 9, none⟩ = some (.string h.group) ∧ W.cell? ⟨w.heap.size, 10, none⟩ = some (.int .i64 h.major) ∧ W.cell? ⟨w.heap.size, 11, none⟩ = some (.int .i64 h.minor)) := fun W hW => ⟨hW.cell rfl, hW.cell rfl, hW.cell rfl, hW.cell rfl, hW.cell rfl, hW.cell rfl, hW.cell rfl, hW.cell rfl, hW.cell rfl, hW.cell rfl, hW.cell rfl, hW.cell rfl⟩
  clear hlen good
  generalize encL h = cs at *
  generalize bs cs = R at *
  generalize hcs h = CA at *
  go_enter Tryz.func4, Tryz.ntmps4
  go_wp2_with (first | (refine wpList_load_row rfl 23 (.tmp 1) rfl w.heap.size rfl 23 CA (0, 0) _ L0 Tryz.underlying23 rfl hi ?_))
  refine (HEN.out _ E0).mono ?_
  rintro e w1 ⟨rfl, b1⟩
  have L1 := L0.below b1
  have B1 := below_join B0 b1
  have E1 := E0.below b1
  have G1 := G0.below b1
  clear L0 B0 E0 G0 b1 HEN
  obtain ⟨c0, c1, c2, c3, c4, c5, c6, c7, c8, c9, c10, c11⟩ := HF.out w1 L1
  go_wp2
  go_quiet ((go_at_call 11; exact Calls.quiet_of_same (hpt _)))
  generalize hW2 : w1.drewN nq = W2 at *
  have B2 : Below w.heap.size w W2 := by rw [← hW2]; exact below_drawn B1 nq
  have E2 : Env W2 := by rw [← hW2]; exact E1.drew nq
  have G2 : ErrType W2 := by rw [← hW2]; exact G1
  have L2 : Lies W2 w.heap.size 23 CA := by rw [← hW2]; exact L1
  clear hW2 B1 E1 G1 L1 c0 c1 c2 c3 c4 c5 c6 c7 c8 c9 c10 c11
  obtain ⟨c0, c1, c2, c3, c4, c5, c6, c7, c8, c9, c10, c11⟩ := HF.out W2 L2
  go_wp2
  go_quiet (first | (go_at_call 12; with_reducible exact Calls.quiet_of_same (o0 _)) | (go_at_call 12; with_reducible exact Calls.quiet_of_same (o1 _)) | (go_at_call 12; with_reducible exact Calls.quiet_of_same (o2 _)) | (go_at_call 12; with_reducible exact Calls.quiet_of_same (o3 _)) | (go_at_call 12; with_reducible exact Calls.quiet_of_same (o4 _)))
  generalize hW3 : W2.drewN nq = W3 at *
  have B3 : Below w.heap.size w W3 := by rw [← hW3]; exact below_drawn B2 nq
  have E3 : Env W3 := by rw [← hW3]; exact E2.drew nq
  have G3 : ErrType W3 := by rw [← hW3]; exact G2
  have L3 : Lies W3 w.heap.size 23 CA := by rw [← hW3]; exact L2
  clear hW3 B2 E2 G2 L2 c0 c1 c2 c3 c4 c5 c6 c7 c8 c9 c10 c11
  obtain ⟨c0, c1, c2, c3, c4, c5, c6, c7, c8, c9, c10, c11⟩ := HF.out W3 L3
  have hb156 := h156 (by omega)
  go_wp2
  go_quiet (first | (go_at_call 12; with_reducible exact Calls.quiet_of_same (o5 _)) | (go_at_call 12; with_reducible exact Calls.quiet_of_same (o6 _)) | (go_at_call 13; with_reducible exact Calls.quiet_of_same (x8 _)))
  generalize hW4 : W3.drewN nq = W4 at *
  have B4 : Below w.heap.size w W4 := by rw [← hW4]; exact below_drawn B3 nq
  have E4 : Env W4 := by rw [← hW4]; exact E3.drew nq
  have G4 : ErrType W4 := by rw [← hW4]; exact G3
  have L4 : Lies W4 w.heap.size 23 CA := by rw [← hW4]; exact L3
  clear hW4 B3 E3 G3 L3 c0 c1 c2 c3 c4 c5 c6 c7 c8 c9 c10 c11
  obtain ⟨c0, c1, c2, c3, c4, c5, c6, c7, c8, c9, c10, c11⟩ := HF.out W4 L4
  go_wp2
  go_quiet (first | (go_at_call 13; with_reducible exact Calls.quiet_of_same (x10 _)) | (go_at_call 13; with_reducible exact Calls.quiet_of_same (x11 _)) | (go_at_call 13; with_reducible exact Calls.quiet_of_same (x15 _)))
  generalize hW5 : W4.drewN nq = W5 at *
  have B5 : Below w.heap.size w W5 := by rw [← hW5]; exact below_drawn B4 nq
  have E5 : Env W5 := by rw [← hW5]; exact E4.drew nq
  have G5 : ErrType W5 := by rw [← hW5]; exact G4
  have L5 : Lies W5 w.heap.size 23 CA := by rw [← hW5]; exact L4
  clear hW5 B4 E4 G4 L4 c0 c1 c2 c3 c4 c5 c6 c7 c8 c9 c10 c11
  obtain ⟨c0, c1, c2, c3, c4, c5, c6, c7, c8, c9, c10, c11⟩ := HF.out W5 L5
  clear c0 c1 c2 c3 c4 c5 c6 c7 c8 c9 c10 c11 HF L5 o0 o1 o2 o3 o4 o5 o6 x8 x10 x11 x15 hpt hmg h156 hb156
  go_wp2
  go_loopw [5, 6] (fun a i wr => ∃ k : Nat, k ≤ 512 ∧ i = .int .i64 k ∧ a = .int .i64 ((256 + sumTo cs k : Nat) : Int) ∧ wr = W5) (fun _ i _ => 512 - (intOf i).toNat)
  case atStart => exact ⟨0, by omega, rfl, rfl, rfl⟩
  case round =>
    obtain ⟨k, hk, rfl, rfl, rfl⟩ := hrel
    by_cases hlt : k < 512
    · have hlt' : k < R.size := by omega
      have hg2 := hbyte.out k hlt'
      have hle := sumTo_le cs k
      have hb8 := R[k].toNat_lt
      have HS : Hid (sumTo cs (k + 1) = sumTo cs k + if k < 148 ∨ 156 ≤ k then R[k].toNat else 0) := by unfold Hid; rw [sumTo, hg2]
      clear hg2
      generalize sumTo cs k = U at *
      have d1 : (0 : Int) ≤ (k : Int) := by omega
      have d2 : (k : Int) < (R.size : Int) := by omega
      have d3 : (k : Int) < 512 := by omega
      by_cases ha : k < 148
      · have ha' : (k : Int) < 148 := by omega
        go_wp2
        refine ⟨⟨k + 1, by omega, by go_num, ?_, trivial⟩, by simp [intOf]; omega⟩
        rw [HS.out, if_pos (Or.inl ha)]
        go_num
      · have ha' : ¬ (k : Int) < 148 := by omega
        by_cases hz : 156 ≤ k
        · have hz' : (156 : Int) ≤ (k : Int) := by omega
          go_wp2
          refine ⟨⟨k + 1, by omega, by go_num, ?_, trivial⟩, by simp [intOf]; omega⟩
          rw [HS.out, if_pos (Or.inr hz)]
          go_num
        · have hz' : ¬ (156 : Int) ≤ (k : Int) := by omega
          go_wp2
          refine ⟨⟨k + 1, by omega, by go_num, ?_, trivial⟩, by simp [intOf]; omega⟩
          rw [HS.out, if_neg (by omega)]
          go_num
    · obtain rfl : k = 512 := by omega
      have HSU : Hid (256 + sumTo cs 512 = sumB cs) := rfl
      rw [HSU.out]
      have hb155 := h155 (by omega)
      generalize sumB cs = U at *
      go_wp2_with (first
        | (go_at_call 12; with_reducible refine (h148 _).mono ?_; rintro e w6 ⟨rfl, rfl⟩)
        | (go_at_call 7; refine (works_p _ E5 G5).mono ?_; rintro e w7 ⟨rfl, b7⟩))
      go_ret
      exact ⟨rfl, below_join B5 b7⟩
end Go.Proofs.YtolaekngmoacaabGreatDoor
