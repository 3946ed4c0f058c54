/- The program's documents. -/
import Derived.Test.YtjgijbeedgggdaaGreatDoorDcsM
import Derived.Deep.DeepCutAuto
namespace Go.Proofs.YtjgijbeedgggdaaGreatDoor
open Go Go.RowKit

theorem split_okL (s : ByteArray) (c : UInt8) (xs : List (Nat × Nat)) (h : splitR (escN c) (un s) = .ok xs) (w : World) (hs : s.size ≤ 1099511627776) : Calls Tryz.prog 153 #[.string s, .int .u8 c.toNat] w fun e w' => ∃ v, e = .returned (.tuple #[v, .nilIface]) ∧ w'.ownsRow w.heap.size 144 2 v xs.length (wcells (wdsOf s xs)) ∧ Below w.heap.size w w' := by
  refine (split_p s c w hs).mono ?_
  rintro e w' ⟨v, er, rfl, hp, hb⟩
  unfold SplitPost at hp
  rw [h] at hp
  obtain ⟨rfl, h2⟩ := hp
  exact ⟨v, rfl, h2, hb⟩
theorem split_errL (s : ByteArray) (c : UInt8) (q : Nat) (h : splitR (escN c) (un s) = .error q) (w : World) (hs : s.size ≤ 1099511627776) : Calls Tryz.prog 153 #[.string s, .int .u8 c.toNat] w fun e w' => e = .returned (.tuple #[.slice none 0 0, fltV 18 0 q]) ∧ Below w.heap.size w w' := by
  refine (split_p s c w hs).mono ?_
  rintro e w' ⟨v, er, rfl, hp, hb⟩
  unfold SplitPost at hp
  rw [h] at hp
  obtain ⟨rfl, rfl⟩ := hp
  exact ⟨rfl, hb⟩
theorem split_lenL (e : UInt8) (l : List UInt8) (xs : List (Nat × Nat)) (h : splitR e l = .ok xs) : xs.length ≤ l.length + 1 := by
  have ho := stA_out e l l.length (Nat.le_refl _)
  unfold splitR at h
  split at h
  · cases h
  · cases h
    split
    · rw [List.length_append]; simp; omega
    · omega
theorem docsG_cons (f : List Ln) (line : Nat) (text : Ln) (marks : List Mk) (x : Nat × Nat) (r : List (Nat × Nat)) (i : Nat) : docsG f line text marks (x :: r) i =
    (if ((text.take x.2).drop x.1).take 2 = [60, 60] then
      (if nameL (openL ((text.take x.2).drop x.1)).1 = true then
        (match bodyG (openL ((text.take x.2).drop x.1)).1 (openL ((text.take x.2).drop x.1)).2.2 (f.drop i) i with
        | none => .error (26, placeL line text marks x.1)
        | some (t, j) => match docsG f line text marks r j with
          | .error e => .error e
          | .ok (ds, k) => .ok (⟨(openL ((text.take x.2).drop x.1)).1, (openL ((text.take x.2).drop x.1)).2.1, i + 1, t⟩ :: ds, k))
      else .error (26, placeL line text marks x.1))
    else docsG f line text marks r i) := rfl
theorem pre_two (x : Ln) : Lib.hasPrefix x [60, 60] = decide (x.take 2 = [60, 60]) := by
  unfold Lib.hasPrefix
  by_cases h : x.take 2 = [60, 60]
  · rw [decide_eq_true h, List.isPrefixOf_iff_prefix]
    exact ⟨x.drop 2, by rw [← h, List.take_append_drop]⟩
  · rw [decide_eq_false h]
    cases hq : [60, 60].isPrefixOf x with
    | false => rfl
    | true =>
      obtain ⟨r, hr⟩ := List.isPrefixOf_iff_prefix.1 hq
      exact absurd (by rw [← hr]; rfl) h
theorem row_lower2 {W : World} {base b2 e size n : Nat} {v : Value} {xs : List Value} (h : W.ownsRow base e size v n xs) (hb : b2 ≤ base) : W.ownsRow b2 e size v n xs := by
  refine ⟨h.1, ?_⟩
  rcases h.2 with hn | ⟨g, cap, cur, e1, e2, rest⟩
  · exact .inl hn
  · exact .inr ⟨g, cap, cur, e1, by omega, rest⟩
/-- What documents answers. -/
def DocsP (r : Except Flt (List Dc × Nat)) (s : ByteArray) (B : Nat) (w : World) (e : Ending) (w' : World) : Prop := Oth B w w' ∧ (match r with
  | .error (no, l, a) => e = .returned (.tuple #[nilS, fltV no l a])
  | .ok (ds, j) => ∃ v, e = .returned (.tuple #[v, .nilIface]) ∧ w'.ownsRow w.heap.size 133 4 v ds.length (dcells ds) ∧ ∃ q, Rd w' B s q j ∧ Stands (un s) q j ∧ j ≤ (cutL (un s)).length)
set_option maxRecDepth 100000 in
set_option maxHeartbeats 2000000 in
theorem documents_p (hE : EqF) (B : Nat) (s : ByteArray) (p c n : Nat) (t : ByteArray) (u : Value) (ms : List Mk) (ec : UInt8) (base : Nat) (w : World) (hTb : ∀ W, Oth B w W → Tabs W) (hEb : ∀ W, Oth B w W → ErrType W)
    (h : Rd w B s p c) (hA : Stands (un s) p c) (hu : w.ownsRow base 73 3 u ms.length (mcells ms)) (hub : B < base) (hec : escN ec = ec) (hs : s.size ≤ 1099511627776) (hcl : (cutL (un s)).length ≤ 1099511627776) (hc : c ≤ (cutL (un s)).length)
    (ht : t.size ≤ 1099511627776) (hml : ms.length ≤ 1099511627776) (hm : ∀ m ∈ ms, m.pos ≤ 1099511627776 ∧ m.col ≤ 1099511627776) (r : Except Flt (List Dc × Nat)) (hr : docsL ec (cutL (un s)) n (un t) ms c = r) :
    Calls Tryz.prog 94 #[ptr B, .agg (lnC n t u nilS), .int .u8 ec.toNat] w (DocsP r s B w) := by
  have hBw : B < w.heap.size := h.lt
  have L0 := Lies.new w 64 (lnC n t u nilS)
  have B0 : Below w.heap.size w (w.alloc (.cells (lnC n t u nilS) 64)) := (Below.refl _ w).alloc (Nat.le_refl _) _
  have hCp := fun W (hW : Below w.heap.size w W) => isCopying_p hE t W (hTb W (Oth.of hW)) (fun W2 h2 => hTb W2 ((Oth.of hW).on h2)) ht
  have HMk : Hid (∀ W, Oth B w W → MksAt W u (ms.map Mk.z)) := fun W hW => mks_of_owns (own_keep hu (fun g cur hg hgg _ => hW.block g (Array.getElem?_eq_some_iff.1 hgg).1 (by omega)))
  have HR : Hid (docsL ec (cutL (un s)) n (un t) ms c = r) := hr
  clear hr hu
  unfold lnC at *
  cases hcp : copiesL (un t) with
  | false =>
    rw [hcp] at hCp
    have hr : r = .ok ([], c) := by rw [← HR.out]; unfold docsL; rw [hcp]; rfl
    have l1 := L0.cell (i := 1) rfl
    go_enter Tryz.func94, Tryz.ntmps94
    go_wp2_with (go_at_call 152; refine (hCp _ B0).mono ?_; rintro e w1 ⟨rfl, b1⟩)
    go_ret2
    subst hr
    have B1 := below_join B0 b1
    exact ⟨Oth.of B1, nilS, rfl, ⟨rfl, .inl ⟨rfl, rfl⟩⟩, p, Rd.below h B1, hA, hc⟩
  | true =>
    rw [hcp] at hCp
    cases hsp : splitR ec (un t) with
    | error k =>
      have hS := fun W => split_errL t ec k (by rw [hec]; exact hsp) W ht
      have hr : r = .error (18, placeL n (un t) ms k) := by rw [← HR.out]; unfold docsL; rw [hcp, hsp]; rfl
      have hQ := fun W (hW : Oth B w W) => quoteFault_p n t u nilS ms k W (hEb W hW) (HMk.out W hW) ht hml hm
      have l1 := L0.cell (i := 1) rfl
      go_enter Tryz.func94, Tryz.ntmps94
      go_wp2_with (first
        | (go_at_call 152; refine (hCp _ B0).mono ?_; rintro e w1 ⟨rfl, b1⟩; have l2 := (L0.below b1).cell (i := 1) rfl)
        | (go_at_call 153; refine (hS _).mono ?_; rintro e w2 ⟨rfl, b2⟩; have L2 := (L0.below b1).below b2; have O2 : Oth B w w2 := Oth.of (below_join (below_join B0 b1) b2))
        | (refine wpList_load_row rfl 64 (.tmp 4) rfl w.heap.size rfl 64 #[.int .i64 n, .string t, u, nilS] (0, 0) _ L2 Tryz.underlying64 rfl ln_info ?_)
        | (go_at_call 154; refine (hQ _ O2).mono ?_; rintro e w3 ⟨rfl, b3⟩))
      go_ret2
      subst hr
      exact ⟨O2.on b3, rfl⟩
    | ok xs =>
      have hne := split_some hsp hcp
      have hS := fun W => split_okL t ec xs (by rw [hec]; exact hsp) W ht
      have hr : Hid (r = docsG (cutL (un s)) n (un t) ms (xs.drop 1) c) := by unfold Hid; rw [← HR.out]; unfold docsL; rw [hcp, hsp]; rfl
      have l1 := L0.cell (i := 1) rfl
      go_enter Tryz.func94, Tryz.ntmps94
      go_wp2_with (first
        | (go_at_call 152; refine (hCp _ B0).mono ?_; rintro e w1 ⟨rfl, b1⟩; have l2 := (L0.below b1).cell (i := 1) rfl)
        | fail)
      refine (hS _).mono ?_
      rintro e w2 ⟨lv, rfl, hw2, b2⟩
      rcases hw2.2 with ⟨rfl, h0⟩ | ⟨g, cap, cur, rfl, hg, hgg, hcap, hrest⟩
      · exact absurd (List.eq_nil_of_length_eq_zero h0) hne
      have hxl : 1 ≤ xs.length := by cases xs with
        | nil => exact absurd rfl hne
        | cons _ _ => simp
      have hxm : xs.length ≤ 1099511627777 := by
        have h9 := split_lenL _ _ _ hsp
        rw [un_length] at h9; omega
      have B2 := below_join (below_join B0 b1) b2
      have hW0 : EW w B s p c #[.int .i64 n, .string t, u, nilS] t xs (.slice (some ⟨g, 0, none⟩) xs.length cap) nilS [] w2 := ⟨Oth.of B2, Rd.below h B2, (L0.below b1).below b2, row_lower2 hw2 (below_join B0 b1).size, ⟨rfl, .inl ⟨rfl, rfl⟩⟩⟩
      clear hw2 b1 b2 hCp hS L0 B0 B2 l1 l2 hgg hrest hg
      have d1 : (1 : Int) ≤ (xs.length : Int) := by omega
      have d2 : (xs.length : Int) ≤ (cap : Int) := by omega
      have d3 : (1 : Int) ≤ (cap : Int) := by omega
      by_cases hc1 : cap = 1
      · subst hc1
        go_wp2
        have hI0 : docsG (cutL (un s)) n (un t) ms (xs.drop 1) c = addD [] (docsG (cutL (un s)) n (un t) ms ((xs.drop 1).drop 0) c) := by rw [addD_nil]; rfl
        go_loopw [10, 34] (fun v10 v34 wr => ∃ (k : Nat) (ds : List Dc) (j q : Nat), v34 = .int .i64 k ∧ k ≤ xs.length - 1 ∧ ds.length ≤ k ∧ Stands (un s) q j ∧ j ≤ (cutL (un s)).length ∧ EW w B s q j #[.int .i64 n, .string t, u, nilS] t xs (.slice (some ⟨g, 0, none⟩) xs.length 1) v10 ds wr ∧ docsG (cutL (un s)) n (un t) ms (xs.drop 1) c = addD ds (docsG (cutL (un s)) n (un t) ms ((xs.drop 1).drop k) j)) (fun _ v34 _ => xs.length - (intOf v34).toNat)
        case atStart => exact ⟨0, [], c, p, rfl, Nat.zero_le _, Nat.le_refl _, hA, hc, hW0, hI0⟩
        case round =>
          obtain ⟨k, ds, j, q, rfl, hk, hdk, hA1, hj, hW1, hI⟩ := hrel
          rcases Nat.lt_or_ge k (xs.length - 1) with hlt | hge
          · omega
          · have hk2 : k = xs.length - 1 := by omega
            have d4 : ¬ (k : Int) < ((xs.length - 1 : Nat) : Int) := by omega
            have hr2 : r = .ok (ds, j) := by rw [hr.out, hI, List.drop_drop, List.drop_of_length_le (by omega)]; simp [docsG, addD]
            go_wp2
            go_ret2
            try rw [hr2]
            exact ⟨hW1.oth, _, rfl, hW1.docs, q, hW1.rd, hA1, hj⟩
      · have hc2 : ¬ (cap : Int) = 1 := by omega
        go_wp2
        have hI0 : docsG (cutL (un s)) n (un t) ms (xs.drop 1) c = addD [] (docsG (cutL (un s)) n (un t) ms ((xs.drop 1).drop 0) c) := by rw [addD_nil]; rfl
        go_loopw [10, 34] (fun v10 v34 wr => ∃ (k : Nat) (ds : List Dc) (j q : Nat), v34 = .int .i64 k ∧ k ≤ xs.length - 1 ∧ ds.length ≤ k ∧ Stands (un s) q j ∧ j ≤ (cutL (un s)).length ∧ EW w B s q j #[.int .i64 n, .string t, u, nilS] t xs (.slice (some ⟨g, 0, none⟩) xs.length cap) v10 ds wr ∧ docsG (cutL (un s)) n (un t) ms (xs.drop 1) c = addD ds (docsG (cutL (un s)) n (un t) ms ((xs.drop 1).drop k) j)) (fun _ v34 _ => xs.length - (intOf v34).toNat)
        case atStart => exact ⟨0, [], c, p, rfl, Nat.zero_le _, Nat.le_refl _, hA, hc, hW0, hI0⟩
        case round =>
          obtain ⟨k, ds, j, q, rfl, hk, hdk, hA1, hj, hW1, hI⟩ := hrel
          rcases Nat.lt_or_ge k (xs.length - 1) with hlt | hge
          · obtain ⟨x, hx⟩ : ∃ x, xs[k + 1]? = some x := ⟨_, List.getElem?_eq_getElem (by omega)⟩
            have hdr : (xs.drop 1).drop k = x :: (xs.drop 1).drop (k + 1) := by rw [List.drop_drop, List.drop_drop, show 1 + k = k + 1 by omega, drop_consT hx, show 1 + (k + 1) = k + 1 + 1 by omega]
            have hwd : WdC wr g (2 + k * 2) (wdOf t x) := by
              obtain ⟨a', cap', b, ofs, e1, e2, e3, e4⟩ := wds_of_owns (es := wdsOf t xs) (by rw [wdsOf_length]; exact hW1.wds)
              have e5 := e2 (fun e => by have h9 := wdsOf_length t xs; rw [e, List.length_nil] at h9; omega)
              rw [e5] at e1
              injection e1 with e6 _ _
              injection e6 with e7
              injection e7 with e8 e9 _
              subst e8 e9
              have hwd := e4 (k + 1) (wdOf t x) (by unfold wdsOf; rw [List.getElem?_map, hx]; rfl)
              rw [show 0 + (k + 1) * 2 = 2 + k * 2 by omega] at hwd
              exact hwd
            obtain ⟨y0, y1⟩ := hwd
            have c0 : wr.cell? ⟨g, 2 + k * 2, none⟩ = some (.int .i64 (x.1 : Int)) := y0
            have c1 : wr.cell? ⟨g, 2 + k * 2 + 1, none⟩ = some (.string (t.extract x.1 x.2)) := y1
            clear y0 y1
            have hraw : t.extract x.1 x.2 = bs (((un t).take x.2).drop x.1) := ext_bs t x.1 x.2
            rw [hraw] at c1
            have hrl : (((un t).take x.2).drop x.1).length ≤ 1099511627776 := by rw [List.length_drop, List.length_take, un_length]; omega
            have HG := docsG_cons (cutL (un s)) n (un t) ms x ((xs.drop 1).drop (k + 1)) j
            generalize hRw : ((un t).take x.2).drop x.1 = Rw at *
            have HG : Hid _ := HG
            have hPre := fun W => Tryz.strings_HasPrefix (bs Rw) ⟨#[60, 60]⟩ W
            rw [show (bs Rw).data.toList = Rw from un_bs Rw, show (⟨#[60, 60]⟩ : ByteArray).data.toList = [60, 60] from rfl, pre_two] at hPre
            have d4 : (0 : Int) ≤ (k : Int) := by omega
            have d5 : (k : Int) < ((xs.length - 1 : Nat) : Int) := by omega
            have LW := Lies.new wr 144 #[.int .i64 (x.1 : Int), .string (bs Rw)]
            have hW2 := hW1.below ((Below.refl _ wr).alloc (Nat.le_refl _) (.cells #[.int .i64 (x.1 : Int), .string (bs Rw)] 144))
            generalize hw3 : wr.alloc (.cells #[.int .i64 (x.1 : Int), .string (bs Rw)] 144) = w3 at *
            have m0 : w3.cell? ⟨wr.heap.size, 0, none⟩ = some (.int .i64 (x.1 : Int)) := LW.cell (i := 0) rfl
            have m1 : w3.cell? ⟨wr.heap.size, 1, none⟩ = some (.string (bs Rw)) := LW.cell (i := 1) rfl
            by_cases hp2 : Rw.take 2 = [60, 60]
            · rw [decide_eq_true hp2] at hPre
              have hDc := document_p Rw hp2 hrl B s q j w3 hW2.rd hA1 hs hcl hj
              go_wp2_with (first
                | (go_at_call 139; refine (hPre _).mono ?_; rintro e w4 ⟨rfl, rfl⟩)
                | fail)
              refine hDc.mono ?_
              rintro e w5 ⟨o5, hway⟩
              cases hnm : nameL (openL Rw).1 with
              | false =>
                rw [hnm, if_neg (by decide)] at hway
                subst hway
                have hr2 : r = .error (26, placeL n (un t) ms x.1) := by rw [hr.out, hI, hdr, HG.out, if_pos hp2, hnm, if_neg (by decide)]; rfl
                have W5 : Oth B w w5 := hW2.oth.trans o5
                have Ln5 := o5.lies hW2.ln (by omega)
                have mm := o5.lies LW (by have := hW1.oth.size; omega)
                have LD := Lies.new w5 133 #[.string ⟨#[]⟩, .bool false, .int .i64 0, .string ⟨#[]⟩]
                have BD : Below w5.heap.size w5 ((w5.alloc (.cells #[.string ⟨#[]⟩, .bool false, .int .i64 0, .string ⟨#[]⟩] 133)).setRow w5.heap.size (dcC ⟨#[]⟩ false 0 ⟨#[]⟩)) := below_setRow' ((Below.refl _ _).alloc (Nat.le_refl _) _) (Nat.le_refl _) _
                have Ln6 := Ln5.below BD
                have mm6 := mm.below BD
                have W6 := W5.on BD
                generalize hw6 : (w5.alloc (.cells #[.string ⟨#[]⟩, .bool false, .int .i64 0, .string ⟨#[]⟩] 133)).setRow w5.heap.size (dcC ⟨#[]⟩ false 0 ⟨#[]⟩) = w6 at *
                have m6 : w6.cell? ⟨wr.heap.size, 0, none⟩ = some (.int .i64 (x.1 : Int)) := mm6.cell (i := 0) rfl
                have hFa := faultAt_p 26 n t u nilS ms x.1 w6 (HMk.out w6 W6) ht hml hm
                go_wp2_with (first
                  | (refine wpList_store_row rfl 133 (.tmp 13) (.tmp 47) rfl w5.heap.size (dcC ⟨#[]⟩ false 0 ⟨#[]⟩) rfl rfl 133 _ LD dc_info rfl (dc_one _ _ _ _) ?_; rw [hw6])
                  | (refine wpList_load_row rfl 64 (.tmp 4) rfl w.heap.size rfl 64 #[.int .i64 n, .string t, u, nilS] (0, 0) _ Ln6 Tryz.underlying64 rfl ln_info ?_)
                  | (go_at_call 156; refine hFa.mono ?_; rintro e w7 ⟨rfl, b7⟩))
                go_ret2
                try rw [hr2]
                exact ⟨W6.on b7, rfl⟩
              | true =>
                rw [hnm, if_pos rfl] at hway
                cases hbg : bodyG (openL Rw).1 (openL Rw).2.2 ((cutL (un s)).drop j) j with
                | none =>
                  rw [hbg] at hway
                  simp only at hway
                  subst hway
                  have hr2 : r = .error (26, placeL n (un t) ms x.1) := by rw [hr.out, hI, hdr, HG.out, if_pos hp2, hnm, if_pos rfl, hbg]; rfl
                  have W5 : Oth B w w5 := hW2.oth.trans o5
                  have Ln5 := o5.lies hW2.ln (by omega)
                  have mm := o5.lies LW (by have := hW1.oth.size; omega)
                  have LD := Lies.new w5 133 #[.string ⟨#[]⟩, .bool false, .int .i64 0, .string ⟨#[]⟩]
                  have BD : Below w5.heap.size w5 ((w5.alloc (.cells #[.string ⟨#[]⟩, .bool false, .int .i64 0, .string ⟨#[]⟩] 133)).setRow w5.heap.size (dcC ⟨#[]⟩ false 0 ⟨#[]⟩)) := below_setRow' ((Below.refl _ _).alloc (Nat.le_refl _) _) (Nat.le_refl _) _
                  have Ln6 := Ln5.below BD
                  have mm6 := mm.below BD
                  have W6 := W5.on BD
                  generalize hw6 : (w5.alloc (.cells #[.string ⟨#[]⟩, .bool false, .int .i64 0, .string ⟨#[]⟩] 133)).setRow w5.heap.size (dcC ⟨#[]⟩ false 0 ⟨#[]⟩) = w6 at *
                  have m6 : w6.cell? ⟨wr.heap.size, 0, none⟩ = some (.int .i64 (x.1 : Int)) := mm6.cell (i := 0) rfl
                  have hFa := faultAt_p 26 n t u nilS ms x.1 w6 (HMk.out w6 W6) ht hml hm
                  go_wp2_with (first
                    | (refine wpList_store_row rfl 133 (.tmp 13) (.tmp 47) rfl w5.heap.size (dcC ⟨#[]⟩ false 0 ⟨#[]⟩) rfl rfl 133 _ LD dc_info rfl (dc_one _ _ _ _) ?_; rw [hw6])
                    | (refine wpList_load_row rfl 64 (.tmp 4) rfl w.heap.size rfl 64 #[.int .i64 n, .string t, u, nilS] (0, 0) _ Ln6 Tryz.underlying64 rfl ln_info ?_)
                    | (go_at_call 156; refine hFa.mono ?_; rintro e w7 ⟨rfl, b7⟩))
                  go_ret2
                  try rw [hr2]
                  exact ⟨W6.on b7, rfl⟩
                | some pr =>
                  obtain ⟨tx, j2⟩ := pr
                  rw [hbg] at hway
                  obtain ⟨rfl, q5, rd5, hA5, hj5⟩ := hway
                  have hW5 := hW2.reader hBw o5 rd5
                  have hI2 : Hid (docsG (cutL (un s)) n (un t) ms (xs.drop 1) c = addD (ds ++ [⟨(openL Rw).1, (openL Rw).2.1, j + 1, tx⟩]) (docsG (cutL (un s)) n (un t) ms ((xs.drop 1).drop (k + 1)) j2)) := by
                    unfold Hid
                    rw [hI, hdr, HG.out, if_pos hp2, hnm, if_pos rfl, hbg, ← addD_add]
                    simp only
                    cases docsG (cutL (un s)) n (un t) ms ((xs.drop 1).drop (k + 1)) j2 with
                    | error e => rfl
                    | ok pr => obtain ⟨x1, x2⟩ := pr; rfl
                  clear hnm hbg HG hDc hPre m0 m1 c0 c1
                  generalize (openL Rw).1 = N1 at *
                  generalize (openL Rw).2.1 = R1 at *
                  have LD := Lies.new w5 133 #[.string ⟨#[]⟩, .bool false, .int .i64 0, .string ⟨#[]⟩]
                  have LD6 := lies_setRow LD #[.string (bs N1), .bool R1, .int .i64 ((j : Int) + 1), .string (bs tx)]
                  have hW6 := hW5.below (below_setRow' ((Below.refl _ w5).alloc (Nat.le_refl _) (.cells #[.string ⟨#[]⟩, .bool false, .int .i64 0, .string ⟨#[]⟩] 133)) (Nat.le_refl _) #[.string (bs N1), .bool R1, .int .i64 ((j : Int) + 1), .string (bs tx)])
                  generalize hw6 : (w5.alloc (.cells #[.string ⟨#[]⟩, .bool false, .int .i64 0, .string ⟨#[]⟩] 133)).setRow w5.heap.size #[.string (bs N1), .bool R1, .int .i64 ((j : Int) + 1), .string (bs tx)] = w6 at *
                  obtain ⟨i0, hi, z0, z1, z2⟩ := info_parts dc_info3
                  have hW7 := hW6.below ((Below.refl _ w6).alloc (Nat.le_refl _) (.cells #[.string (bs N1), .bool R1, .int .i64 ((j : Int) + 1), .string (bs tx)] 133))
                  go_wp2_with (first
                    | (refine wpList_store_row rfl 133 (.tmp 13) (.tmp 47) rfl w5.heap.size #[.string (bs N1), .bool R1, .int .i64 ((j : Int) + 1), .string (bs tx)] rfl rfl 133 _ LD dc_info rfl (dc_one _ _ (j + 1) _) ?_; rw [hw6])
                    | (refine wpList_load_row rfl 133 (.tmp 13) rfl w5.heap.size rfl 133 #[.string (bs N1), .bool R1, .int .i64 ((j : Int) + 1), .string (bs tx)] (0, 0) _ LD6 Tryz.underlying133 rfl dc_info ?_)
                    | (at_builtin; refine wpList_append_own _ rfl _ _ 62 rfl w.heap.size 133 i0 (.agg #[.string ⟨#[]⟩, .bool false, .int .i64 0, .string ⟨#[]⟩]) 4 48 Tryz.underlying62 hi z0 z1 z2 rfl (by decide) _ _ _ rfl hW7.docs ⟨w6.heap.size, 0, none⟩ 1 1 (dcs ⟨N1, R1, j + 1, tx⟩) rfl rfl (cells_new w6 133 (dcs ⟨N1, R1, j + 1, tx⟩)) (by intro a ha; simp [dcs] at ha; rcases ha with rfl | rfl | rfl | rfl <;> rfl) (by unfold maxLen; omega) (by omega) hW7.oth.size ?_; intro v8 w8 hown8 hgr8 _; have hW8 := hW7.more ⟨N1, R1, j + 1, tx⟩ hgr8 hown8))
                  go_roundw
                  case rel =>
                    first
                      | exact ⟨k + 1, _, j2, q5, by go_num, by omega, by rw [List.length_append, List.length_singleton]; omega, hA5, hj5, hW8, hI2.out⟩
                      | ((repeat apply Exists.intro); refine ⟨?_, rfl⟩; exact ⟨k + 1, _, j2, q5, by go_num, by omega, by rw [List.length_append, List.length_singleton]; omega, hA5, hj5, hW8, hI2.out⟩)
                  case measure => simp [intOf]; omega
            · rw [decide_eq_false hp2] at hPre
              go_wp2_with (first
                | (go_at_call 139; refine (hPre _).mono ?_; rintro e w4 ⟨rfl, rfl⟩))
              go_roundw
              case rel =>
                first
                  | exact ⟨k + 1, ds, j, q, by go_num, by omega, by omega, hA1, hj, hW2, by rw [hI, hdr, HG.out, if_neg hp2]⟩
                  | ((repeat apply Exists.intro); refine ⟨?_, rfl⟩; exact ⟨k + 1, ds, j, q, by go_num, by omega, by omega, hA1, hj, hW2, by rw [hI, hdr, HG.out, if_neg hp2]⟩)
              case measure => simp [intOf]; omega
          · have hk2 : k = xs.length - 1 := by omega
            have d4 : ¬ (k : Int) < ((xs.length - 1 : Nat) : Int) := by omega
            have hr2 : r = .ok (ds, j) := by rw [hr.out, hI, List.drop_drop, List.drop_of_length_le (by omega)]; simp [docsG, addD]
            go_wp2
            go_ret2
            try rw [hr2]
            exact ⟨hW1.oth, _, rfl, hW1.docs, q, hW1.rd, hA1, hj⟩
end Go.Proofs.YtjgijbeedgggdaaGreatDoor
