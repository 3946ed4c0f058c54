/- The program's all. -/
import Derived.Test.YtjgijbeedgggdaaGreatDoorAllM
namespace Go.Proofs.YtjgijbeedgggdaaGreatDoor
open Go Go.RowKit

/-- What all answers. -/
def AllP (r : Except Flt (List LL)) (B : Nat) (w : World) (e : Ending) (w' : World) : Prop := Oth B w w' ∧ (match r with
  | .error (no, l, a) => e = .returned (.tuple #[nilS, fltV no l a])
  | .ok ls => ∃ v us, e = .returned (.tuple #[v, .nilIface]) ∧ LnsAt w' w.heap.size v us ls)
theorem LnsAt.keep2 {W0 W W' : World} {base : Nat} {v : Value} {us : List (Value × Value)} {ls : List LL} (h0 : LnsAt W0 base v us ls) (h : LnsAt W base v us ls) (hk : ∀ (g : Nat), g < W0.heap.size → W'.heap[g]? = W.heap[g]?) : LnsAt W' base v us ls := by
  refine ⟨h.len, own_keep h.own (fun g _ _ _ ho => ?_), fun i x p h1 h2 => own_keep (h.marks i x p h1 h2) (fun g _ _ _ ho => ?_), fun i x p h1 h2 => own_keep (h.docs i x p h1 h2) (fun g _ _ _ ho => ?_)⟩
  · obtain ⟨cur, hc⟩ := own_tag h0.own g ho
    exact hk g (Array.getElem?_eq_some_iff.1 hc).1
  · obtain ⟨cur, hc⟩ := own_tag (h0.marks i x p h1 h2) g ho
    exact hk g (Array.getElem?_eq_some_iff.1 hc).1
  · obtain ⟨cur, hc⟩ := own_tag (h0.docs i x p h1 h2) g ho
    exact hk g (Array.getElem?_eq_some_iff.1 hc).1
theorem join_bnd (e : UInt8) : ∀ (l : List Ln) (i fr n : Nat) (sk : Bool) (M : Nat), (∀ y ∈ l, y.length ≤ M) → ∀ m ∈ (joinG e l i fr n sk).1, m.pos ≤ n + l.flatten.length ∧ m.col ≤ M
  | [], i, fr, n, sk, M, h, m, hm => by simp [joinG] at hm
  | x :: r, i, fr, n, sk, M, h, m, hm => by
    have hsg : (segN e fr x).length ≤ x.length := by rw [segN_len]; have := edN_le e fr x; omega
    have hx := h x List.mem_cons_self
    have hr : ∀ y ∈ r, y.length ≤ M := fun y hy => h y (List.mem_cons_of_mem _ hy)
    have hmk : ∀ q ∈ mksN e fr n i x, q.pos ≤ n ∧ q.col ≤ M := by
      intro q hq
      unfold mksN at hq
      split at hq
      · rename_i h1
        rw [List.mem_singleton] at hq
        subst hq
        have := edN_le e fr x
        exact ⟨Nat.le_refl _, by show fr + 1 ≤ M; omega⟩
      · cases hq
    rw [joinG] at hm
    rw [List.flatten_cons, List.length_append]
    split at hm
    · have := join_bnd e r (i + 1) fr n sk M hr m hm
      omega
    · split at hm
      · simp only [List.mem_append] at hm
        rcases hm with hm | hm
        · have := hmk m hm; omega
        · have := join_bnd e r (i + 1) 0 (n + (segN e fr x).length) true M hr m hm
          omega
      · have := hmk m hm; omega
theorem join_small (ec : UInt8) (s : Ln) (i : Nat) (x : Ln) (hs : s.length ≤ 1099511627776) (hx : (cutL s)[i]? = some x) (J : List Mk × Ln × Nat) (hJ : joinG ec ((cutL s).drop i) i (hd x) 0 false = J) :
    J.2.1.length ≤ s.length ∧ J.1.length ≤ (cutL s).length ∧ i < J.2.2 ∧ J.2.2 ≤ (cutL s).length ∧ ∀ m ∈ J.1, m.pos ≤ 1099511627776 ∧ m.col ≤ 1099511627776 := by
  have h1 := join_len ec ((cutL s).drop i) i (hd x) 0 false
  have h2 := drop_flat (cutL s) i
  have h3 := cut_sum s
  have hi := (List.getElem?_eq_some_iff.1 hx).1
  obtain ⟨m1, m2, m3, m4⟩ := join_marks ec ((cutL s).drop i) i (hd x) 0 false
  have hmore := join_more ec x ((cutL s).drop (i + 1)) i (hd x) 0
  have hb := join_bnd ec ((cutL s).drop i) i (hd x) 0 false s.length (fun y hy => cut_len s y (List.mem_of_mem_drop hy))
  rw [← drop_consT hx] at hmore
  rw [List.length_drop] at h1 m4
  rw [hJ] at h1 m3 m4 hmore hb
  exact ⟨by omega, by omega, hmore, by omega, fun m hm => by have := hb m hm; omega⟩
set_option maxRecDepth 100000 in
set_option maxHeartbeats 2000000 in
theorem all_p (hE : EqF) (B : Nat) (s : ByteArray) (p c : Nat) (ec : UInt8) (w : World) (hTb : ∀ W, Oth B w W → Tabs W) (hEb : ∀ W, Oth B w W → ErrType W) (h : Rd w B s p c) (hA : Stands (un s) p c) (hec : escN ec = ec) (hs : s.size ≤ 1099511627776) (hcl : (cutL (un s)).length ≤ 1048576) (hc : c ≤ (cutL (un s)).length)
    (r : Except Flt (List LL)) (hr : linesG ec (cutL (un s)) ((cutL (un s)).length + 1) c = r) :
    Calls Tryz.prog 41 #[ptr B, .int .u8 ec.toNat] w (AllP r B w) := by
  have hBw : B < w.heap.size := h.lt
  have hW0 : AW w B s p c nilS [] [] w := ⟨Oth.refl _ _, h, ⟨rfl, ⟨rfl, .inl ⟨rfl, rfl⟩⟩, fun i x p h1 h2 => by simp at h1, fun i x p h1 h2 => by simp at h1⟩⟩
  have HR : Hid (linesG ec (cutL (un s)) ((cutL (un s)).length + 1) c = r) := hr
  clear hr
  go_enter Tryz.func41, Tryz.ntmps41
  go_wp2
  go_loopw [6] (fun v6 wr => ∃ (us : List (Value × Value)) (ls : List LL) (j q fu : Nat), Stands (un s) q j ∧ j ≤ (cutL (un s)).length ∧ ls.length ≤ j ∧ (cutL (un s)).length + 1 ≤ fu + j ∧ AW w B s q j v6 us ls wr ∧ r = addX ls (linesG ec (cutL (un s)) fu j)) (fun _ wr => (cutL (un s)).length + 1 - (intOf ((wr.cell? ⟨B, 2, none⟩).getD undef)).toNat)
  case atStart => exact ⟨[], [], c, p, (cutL (un s)).length + 1, hA, hc, Nat.zero_le _, by omega, hW0, by rw [HR.out, addX_nil]⟩
  case round =>
    obtain ⟨us, ls, j, q, fu, hA1, hj, hlj, hfu, hW1, hI⟩ := hrel
    have hI : Hid _ := hI
    have hSay := saying_p B s q j wr hW1.rd hA1 hs (by omega) hj
    go_wp2_with fail
    refine hSay.mono ?_
    rintro e w2 ⟨q2, d, rd2, hA2, oth2, hd1, hd2, hway⟩
    have hW2 := hW1.reader hBw oth2 rd2
    have L3 := Lies.new w2 155 #[.int .i64 0, .string ⟨#[]⟩]
    rcases hway with ⟨hn1, hn2, rfl⟩ | ⟨i, x, hn1, hx, hnx, rfl, rfl⟩
    · have hr2 : Hid (r = .ok ls) := by unfold Hid; rw [hI.out, lines_skip ec _ _ fu j hn1 (by omega)]; simp [addX]
      have hW3 := hW2.below (below_setRow' ((Below.refl _ w2).alloc (Nat.le_refl _) (.cells #[.int .i64 0, .string ⟨#[]⟩] 155)) (Nat.le_refl _) (flC 0 ⟨#[]⟩))
      go_wp2_with (refine wpList_store_row rfl 155 (.tmp 7) (.tmp 15) rfl w2.heap.size (flC 0 ⟨#[]⟩) rfl rfl 155 _ L3 fl_info rfl (fl_one _ _) ?_)
      go_ret2
      rw [hr2.out]
      exact ⟨hW3.oth, _, _, rfl, hW3.lns⟩
    · obtain ⟨fu2, hfu2, hlt⟩ := lines_to ec (cutL (un s)) _ fu j i hn1 hfu
      rw [lines_step ec _ fu2 i x hx, if_neg (by rw [hnx]; decide)] at hlt
      have hji := nextS_some hn1
      obtain ⟨J, hJ⟩ : ∃ J, joinG ec ((cutL (un s)).drop i) i (hd x) 0 false = J := ⟨_, rfl⟩
      rw [hJ] at hlt
      obtain ⟨s1, s2, s3, s4, s5⟩ := join_small ec (un s) i x (by rw [un_length]; exact hs) hx J hJ
      rw [un_length] at s1
      have hlt : Hid _ := hlt
      have L4 := lies_setRow L3 (flC (i + 1) (bs x))
      have hW3 := hW2.below (below_setRow' ((Below.refl _ w2).alloc (Nat.le_refl _) (.cells #[.int .i64 0, .string ⟨#[]⟩] 155)) (Nat.le_refl _) (flC (i + 1) (bs x)))
      generalize hw3 : (w2.alloc (.cells #[.int .i64 0, .string ⟨#[]⟩] 155)).setRow w2.heap.size (flC (i + 1) (bs x)) = w3 at *
      have hJn := join_p B i s q2 x ec w3 hW3.rd hA2 hx hnx hs (by omega) J hJ
      go_wp2_with (first
        | (refine wpList_store_row rfl 155 (.tmp 7) (.tmp 15) rfl w2.heap.size (flC (i + 1) (bs x)) rfl rfl 155 _ L3 fl_info rfl (fl_one _ _) ?_; rw [hw3])
        | (refine wpList_load_row rfl 155 (.tmp 7) rfl w2.heap.size rfl 155 (flC (i + 1) (bs x)) (0, 0) _ L4 Tryz.underlying155 rfl fl_info ?_))
      refine hJn.mono ?_
      rintro e w4 ⟨u, q4, rfl, hown4, rd4, hA4, oth4⟩
      have hW4 := hW3.reader hBw oth4 rd4
      clear hJn hSay hJ
      unfold lnV
      have L5 := Lies.new w4 64 #[.int .i64 0, .string ⟨#[]⟩, nilS, nilS]
      have L6 := lies_setRow L5 (lnC (i + 1) (bs J.2.1) u nilS)
      have b6 : Below w4.heap.size w4 ((w4.alloc (.cells #[.int .i64 0, .string ⟨#[]⟩, nilS, nilS] 64)).setRow w4.heap.size (lnC (i + 1) (bs J.2.1) u nilS)) := below_setRow' ((Below.refl _ w4).alloc (Nat.le_refl _) _) (Nat.le_refl _) _
      have hW6 := hW4.below b6
      have hown6 := own_below hown4 b6
      generalize hw6 : (w4.alloc (.cells #[.int .i64 0, .string ⟨#[]⟩, nilS, nilS] 64)).setRow w4.heap.size (lnC (i + 1) (bs J.2.1) u nilS) = w6 at *
      have k1 : w6.cell? ⟨w4.heap.size, 1, none⟩ = some (.string (bs J.2.1)) := L6.cell (i := 1) rfl
      have hTr := trim_p (bs J.2.1) w6 (by rw [size_bs]; omega)
      rw [un_bs] at hTr
      have hus := own_sl hown4
      have hst := ln_one (i + 1) (bs J.2.1) u hus
      by_cases hbl : hd J.2.1 = J.2.1.length
      · rw [(trimL_nil J.2.1).2 hbl] at hTr
        have hTr : Calls Tryz.prog 93 #[.string (bs J.2.1), .string bl3S] w6 fun e w' => e = .returned (.string ⟨#[]⟩) ∧ Below w6.heap.size w6 w' := hTr
        have hI2 : Hid (r = addX ls (linesG ec (cutL (un s)) fu2 J.2.2)) := by unfold Hid; rw [hI.out, hlt.out, if_pos hbl]
        clear hI hlt hbl
        go_wp2_with (first
          | (refine wpList_store_row rfl 64 (.tmp 9) (.tmp 23) rfl w4.heap.size (lnC (i + 1) (bs J.2.1) u nilS) rfl rfl 64 _ L5 ln_info rfl hst ?_; rw [hw6])
          | (go_at_call 93; refine hTr.mono ?_; rintro e w7 ⟨rfl, b7⟩))
        have hW7 := hW6.below b7
        go_roundw
        case rel => exact ⟨us, ls, J.2.2, q4, fu2, hA4, s4, by omega, by omega, hW7, hI2.out⟩
        case measure =>
          have e1 := Lies.cell hW7.rd (i := 2) rfl
          have e2 := Lies.cell hW1.rd (i := 2) rfl
          rw [e1, e2]; simp [intOf]; omega
      · have hne : ¬ trimL J.2.1 = [] := fun e => hbl ((trimL_nil J.2.1).1 e)
        generalize hE9 : bs (trimL J.2.1) = E9 at *
        have n1 : E9.toList.isEmpty = false := (isEmpty_false E9).2 (by rw [← hE9, size_bs]; cases hq : trimL J.2.1 with
          | nil => exact absurd hq hne
          | cons _ _ => simp)
        have n2 : (E9.toList == []) = false := by cases hq : E9.toList with
          | nil => rw [hq] at n1; cases n1
          | cons _ _ => rfl
        have hI2 : Hid (r = addX ls (match docsL ec (cutL (un s)) (i + 1) J.2.1 J.1 J.2.2 with
          | .error x => .error x
          | .ok (ds, j) => match linesG ec (cutL (un s)) fu2 j with
            | .error x => .error x
            | .ok ls => .ok (⟨i + 1, J.2.1, J.1, ds⟩ :: ls))) := by unfold Hid; rw [hI.out, hlt.out, if_neg hbl]; rfl
        clear hI hlt hbl hne
        go_wp2_with (first
          | (refine wpList_store_row rfl 64 (.tmp 9) (.tmp 23) rfl w4.heap.size (lnC (i + 1) (bs J.2.1) u nilS) rfl rfl 64 _ L5 ln_info rfl hst ?_; rw [hw6])
          | (go_at_call 93; refine hTr.mono ?_; rintro e w7 ⟨rfl, b7⟩; have L7 := L6.below b7)
          | (refine wpList_load_row rfl 64 (.tmp 9) rfl w4.heap.size rfl 64 (lnC (i + 1) (bs J.2.1) u nilS) (0, 0) _ L7 Tryz.underlying64 rfl ln_info ?_))
        have hW7 := hW6.below b7
        have hown7 := own_below hown6 b7
        obtain ⟨rd, hrd⟩ : ∃ rd, docsL ec (cutL (un s)) (i + 1) J.2.1 J.1 J.2.2 = rd := ⟨_, rfl⟩
        have hDc := documents_p hE B s q4 J.2.2 (i + 1) (bs J.2.1) u J.1 ec w3.heap.size w7 (fun W hW => hTb W (hW7.oth.trans hW)) (fun W hW => hEb W (hW7.oth.trans hW)) hW7.rd hA4 hown7 (by have := hW3.oth.size; omega) hec hs (by omega) s4 (by rw [size_bs]; omega) (by omega) s5 rd (by rw [un_bs]; exact hrd)
        refine hDc.mono ?_
        rintro e w8 ⟨oth8, hway⟩
        clear hDc hTr
        have hI3 := hI2.out
        rw [hrd] at hI3
        cases rd with
        | error fl =>
          obtain ⟨no, l, a⟩ := fl
          simp only at hway hI3
          subst hway
          have hr2 : Hid (r = .error (no, l, a)) := hI3
          clear hI3 hI2 hrd
          have O8 := hW7.oth.trans oth8
          go_wp2
          go_ret2
          rw [hr2.out]
          exact ⟨O8, rfl⟩
        | ok pr =>
          obtain ⟨ds, j2⟩ := pr
          simp only at hway hI3
          obtain ⟨dv, rfl, hown8, q8, rd8, hA8, hj8⟩ := hway
          have hW8 := hW7.reader hBw oth8 rd8
          have hB4 : B < w4.heap.size := by have := hW4.oth.size; omega
          have L8 := oth8.lies L7 (by omega)
          have hB3 : B < w3.heap.size := by have := hW3.oth.size; omega
          have hown8m := own_keep (B := w8) hown7 (fun g cur hg hgg _ => oth8.block g (Array.getElem?_eq_some_iff.1 hgg).1 (by omega))
          have hlt7 : w4.heap.size < w7.heap.size := L7.lt
          obtain ⟨a8, k8, p8, rfl⟩ := own_sl hown8
          obtain ⟨ua, uk, uc, rfl⟩ := hus
          have L9 : Lies (w8.setCell ⟨w4.heap.size, 3, none⟩ (.slice a8 k8 p8)) w4.heap.size 64 #[.int .i64 ((i : Int) + 1), .string (bs J.2.1), .slice ua uk uc, .slice a8 k8 p8] := Lies.set (i := 3) L8 (.slice a8 k8 p8)
          have hW9 : AW w B s q8 j2 u6 us ls (w8.setCell ⟨w4.heap.size, 3, none⟩ (.slice a8 k8 p8)) := ⟨⟨hW8.oth.os, hW8.oth.tape, hW8.oth.output, by simpa using hW8.oth.size, fun k h1 h2 => (Below.heap_setCell w8 ⟨w4.heap.size, 3, none⟩ _ k (by have := hW4.oth.size; simp; omega)).trans (hW8.oth.block k h1 h2)⟩, lies_set' rd8 (by omega) _, hW4.lns.keep2 hW8.lns (fun g hg => Below.heap_setCell w8 ⟨w4.heap.size, 3, none⟩ _ g (by simp; omega))⟩
          have hown9m := own_keep hown8m (B := w8.setCell ⟨w4.heap.size, 3, none⟩ (.slice a8 k8 p8)) (fun g cur hg hgg ho => Below.heap_setCell w8 ⟨w4.heap.size, 3, none⟩ _ g (by obtain ⟨c4, h4⟩ := own_tag hown4 g ho; have := (Array.getElem?_eq_some_iff.1 h4).1; simp; omega))
          have hown9d := own_keep hown8 (B := w8.setCell ⟨w4.heap.size, 3, none⟩ (.slice a8 k8 p8)) (fun g cur hg hgg _ => Below.heap_setCell w8 ⟨w4.heap.size, 3, none⟩ _ g (by simp; omega))
          have l8 := L8.cell (i := 3) rfl
          have f8 := L8.frozen 3
          have hI4 : Hid (r = addX (ls ++ [⟨i + 1, J.2.1, J.1, ds⟩]) (linesG ec (cutL (un s)) fu2 j2)) := by
            unfold Hid
            rw [hI3, ← addX_add]
            cases linesG ec (cutL (un s)) fu2 j2 with
            | error e => rfl
            | ok pr => rfl
          have hj2 : J.2.2 ≤ j2 := docsL_le ec (cutL (un s)) (i + 1) J.2.1 J.1 J.2.2 ds j2 hrd
          clear hI3 hI2 hrd
          obtain ⟨i0, hi, z0, z1, z2⟩ := info_parts ln_info3
          generalize hw9 : w8.setCell ⟨w4.heap.size, 3, none⟩ (.slice a8 k8 p8) = w9 at *
          have B10 : Below w9.heap.size w9 (w9.alloc (.cells #[.int .i64 ((i : Int) + 1), .string (bs J.2.1), .slice ua uk uc, .slice a8 k8 p8] 64)) := (Below.refl _ w9).alloc (Nat.le_refl _) _
          have hW10 := hW9.below B10
          have hm10 := row_lower2 (own_below hown9m B10) hW3.oth.size
          have hd10 := row_lower2 (own_below hown9d B10) hW7.oth.size
          go_wp2_with (first
            | (refine wpList_load_row rfl 64 (.tmp 9) rfl w4.heap.size rfl 64 #[.int .i64 ((i : Int) + 1), .string (bs J.2.1), .slice ua uk uc, .slice a8 k8 p8] (0, 0) _ L9 Tryz.underlying64 rfl ln_info ?_)
            | (at_builtin; refine wpList_append_own _ rfl _ _ 22 rfl w.heap.size 64 i0 (.agg #[.int .i64 0, .string ⟨#[]⟩, nilS, nilS]) 4 72 Tryz.underlying22 hi z0 z1 z2 rfl (by decide) _ _ _ rfl hW10.lns.own ⟨w9.heap.size, 0, none⟩ 1 1 (lcell ⟨i + 1, J.2.1, J.1, ds⟩ (.slice ua uk uc, .slice a8 k8 p8)) rfl rfl (cells_new w9 64 (lcell ⟨i + 1, J.2.1, J.1, ds⟩ (.slice ua uk uc, .slice a8 k8 p8))) (by intro a ha; simp [lcell] at ha; rcases ha with rfl | rfl | rfl | rfl <;> rfl) (by unfold maxLen; omega) (by omega) hW10.oth.size ?_; intro v11 w11 hown11 hgr11 _; have hW11 := hW10.more ⟨i + 1, J.2.1, J.1, ds⟩ (.slice ua uk uc, .slice a8 k8 p8) hgr11 hown11 hm10 hd10))
          go_roundw
          case rel =>
            first
              | exact ⟨_, _, j2, q8, fu2, hA8, hj8, by rw [List.length_append, List.length_singleton]; omega, by omega, hW11, hI4.out⟩
              | ((repeat apply Exists.intro); refine ⟨?_, rfl⟩; exact ⟨_, _, j2, q8, fu2, hA8, hj8, by rw [List.length_append, List.length_singleton]; omega, by omega, hW11, hI4.out⟩)
          case measure =>
            have e1 := Lies.cell hW11.rd (i := 2) rfl
            have e2 := Lies.cell hW1.rd (i := 2) rfl
            rw [e1, e2]; simp [intOf]; omega
end Go.Proofs.YtjgijbeedgggdaaGreatDoor
