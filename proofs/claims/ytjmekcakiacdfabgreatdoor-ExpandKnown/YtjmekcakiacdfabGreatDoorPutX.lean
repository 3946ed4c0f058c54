/- The document's put: what pieces come to, behind some bytes. -/
import Derived.Test.YtjmekcakiacdfabGreatDoorPutW
import Derived.Deep.Cut
import Derived.Lib.AppendStr
namespace Go.Proofs.YtjmekcakiacdfabGreatDoor
open Go Go.RowKit

theorem info_u8 : (Tryz.prog.info? 5).map (fun i => (i.zero, i.size, i.bytes)) = some (some (.int .u8 0), 1, 1) := by kernel_rfl
/-- What put answers. -/
def PutPost (B : Nat) (vs : List PrZ) (ol : List UInt8) (ts : List Pt) (W : World) (x : Ending) (w' : World) : Prop :=
  ∃ ov ol2 ok, x = .returned (.tuple #[ov, .bool ok]) ∧ w'.ownsRow B 5 1 ov ol2.length (Lib.byteCells ol2) ∧ Below B W w' ∧ ol2.length ≤ 65536 ∧ (ok = true → ol2 = ol ++ txtL (prL vs) ts) ∧ (ok = false → 65536 < ol.length + (txtL (prL vs) ts).length)
/-- What a piece lays itself. -/
def ownT (vs : List (List UInt8 × List UInt8)) (t n : List UInt8) (o : UInt8) : List UInt8 := if o = 43 then [] else (if n = [] then t else valL vs n)
theorem PrsIn.at {B : Nat} {W : World} {v : Value} {es : List PrZ} (h : PrsIn B W v es) : PrsAt W v es := by
  obtain ⟨a, cap, b, o, h1, h2, h3, h4⟩ := h
  exact ⟨a, cap, b, o, h1, h2, h3, fun i e he => (h4 i e he).2⟩
def takenT (vs : List (List UInt8 × List UInt8)) (t n : List UInt8) (o : UInt8) : Bool := decide ((o = 45 ∧ (if n = [] then t else valL vs n) = []) ∨ (o = 43 ∧ (if n = [] then t else valL vs n) ≠ []))
theorem txtP_eq (vs : List (List UInt8 × List UInt8)) (t n : List UInt8) (o : UInt8) (ks : List Pt) : txtP vs (.mk t n o ks) = ownT vs t n o ++ (if takenT vs t n o = true then txtL vs ks else []) := by
  rw [txtP]
  unfold ownT takenT
  congr 1
  simp only [decide_eq_true_eq]
theorem txtL_take (vs : List (List UInt8 × List UInt8)) (ts : List Pt) (i : Nat) (p : Pt) (h : ts[i]? = some p) : txtL vs (ts.take (i + 1)) = txtL vs (ts.take i) ++ txtP vs p := by
  rw [List.take_add_one, h, txtL_append]
  show _ ++ txtL vs [p] = _
  rw [txtL_one]
theorem txtL_len (vs : List (List UInt8 × List UInt8)) (ts : List Pt) (i : Nat) : (txtL vs (ts.take i)).length ≤ (txtL vs ts).length := by
  have h := txtL_append vs (ts.take i) (ts.drop i)
  rw [List.take_append_drop] at h
  rw [h, List.length_append]; omega
theorem own_up8 {w w' : World} {B : Nat} {v : Value} {n : Nat} {xs : List Value} {e z : Nat} (h : w.ownsRow B e z v n xs) (hk : ∀ j, v.ownBlock = some j → w'.heap[j]? = w.heap[j]?) : w'.ownsRow B e z v n xs := own_keepN h hk
theorem own_ge8 {w : World} {B e z n : Nat} {v : Value} {xs : List Value} (h : w.ownsRow B e z v n xs) (j : Nat) (hj : v.ownBlock = some j) : B ≤ j := by
  rcases h.2 with ⟨rfl, _⟩ | ⟨g, cap, cur, rfl, hb, _⟩
  · cases hj
  · simp [Value.ownBlock] at hj; omega
theorem own_lt8 {w : World} {B e z n : Nat} {v : Value} {xs : List Value} (h : w.ownsRow B e z v n xs) (j : Nat) (hj : v.ownBlock = some j) : j < w.heap.size := by
  rcases h.2 with ⟨rfl, _⟩ | ⟨g, cap, cur, rfl, _, hg, _⟩
  · cases hj
  · simp [Value.ownBlock] at hj
    have := (Array.getElem?_eq_some_iff.1 hg).1
    omega
theorem own_app8 {w : World} {B : Nat} {v : Value} {l k : List UInt8} (h : w.ownsRow B 5 1 v (l.length + (bs k).size) (Lib.byteCells l ++ Lib.strCells (bs k))) : w.ownsRow B 5 1 v (l ++ k).length (Lib.byteCells (l ++ k)) := by
  rw [List.length_append, Lib.byteCells_append]
  rw [size_bs] at h
  exact h
theorem grow_cell {w w2 : World} {B e z n : Nat} {v : Value} {xs : List Value} (hg : w.grownBy w2 v.ownBlock) (_ho : w.ownsRow B e z v n xs) {b i : Nat} {x : Value} (hc : w.cell? ⟨b, i, none⟩ = some x) (hn : v.ownBlock ≠ some b) : w2.cell? ⟨b, i, none⟩ = some x := by
  have h1 := hg.block b (World.block_lt_of_cell? w _ hc) (fun e => hn e.symm)
  have : w2.cell? ⟨b, i, none⟩ = w.cell? ⟨b, i, none⟩ := by simp [World.cell?, h1]
  rw [this]; exact hc
theorem bs_nil_eq (l : List UInt8) : ((bs l).toList == ([] : List UInt8)) = decide (l = []) := by
  rw [Bool.eq_iff_iff, beq_iff_eq, decide_eq_true_iff, toList_un, un_bs]
theorem valL_few {vs : List PrZ} (hf : FewP vs) (n : List UInt8) : (valL (prL vs) n).length ≤ 140737488355328 := by
  have h := hf.2
  clear hf
  induction vs with
  | nil => simp [prL, valL]
  | cons x vs ih =>
    have h1 := ih (fun y hy => h y (List.mem_cons_of_mem _ hy))
    have h2 := (h x (List.mem_cons_self ..)).2
    show (if (prL vs).any (fun z => z.1 == n) = true then valL (prL vs) n else if un x.key = n then un x.val else []).length ≤ _
    split
    · exact h1
    · split
      · rw [un_length]; exact h2
      · simp
set_option maxHeartbeats 16000000 in
set_option maxRecDepth 100000 in
theorem put_n (vs : List PrZ) (hf : FewP vs) (m : Nat) : ∀ (ts : List Pt) (us : List Value) (lv vv ov : Value) (ol : List UInt8) (W : World) (B : Nat), SizeOf.sizeOf ts ≤ m → PtsAt W (· < B) lv ts us → (∀ j, lv.ownBlock = some j → j < B) → PrsIn B W vv vs → B ≤ W.heap.size → W.ownsRow B 5 1 ov ol.length (Lib.byteCells ol) → ol.length ≤ 65536 → Calls Tryz.prog 55 #[ov, lv, vv] W fun x w' => PutPost B vs ol ts W x w' := by
  induction m with
  | zero =>
    intro ts us lv vv ov ol W B hm
    cases ts <;> simp at hm
  | succ m ih =>
  intro ts us lv vv ov ol W B hm hp hlb hv hB hown hol
  obtain ⟨i0, hi, hz0, hz1, hz2⟩ := info_parts info_u8
  have hkl := hp.kids.len
  have hnl : ts.length ≤ maxLen := by
    rcases hp.own.2 with ⟨_, h0⟩ | ⟨g, cap, cur, _, _, _, h1, h2, _⟩
    · omega
    · omega
  obtain ⟨va, vc, g, rfl, hva⟩ := own_form4 hp.own
  have HP : Hid (PtsAt W (· < B) (.slice va ts.length vc) ts us) := hp
  have HV : Hid (PrsIn B W vv vs) := hv
  have HVA : Hid (ts.length ≠ 0 → va = some ⟨g, 0, none⟩) := hva
  have HLB : Hid (∀ j, (Value.slice va ts.length vc).ownBlock = some j → j < B) := hlb
  have HIH : Hid _ := ih
  have hML : maxLen = 9223372036854775807 := rfl
  clear hp hv hva hlb ih
  go_enter Tryz.func55, Tryz.ntmps55
  go_wp2
  go_loopw [0, 8, 9] (fun ov1 okv iv wr => ∃ (i : Nat) (ol1 : List UInt8) (okb : Bool), iv = .int .i64 i ∧ okv = .bool okb ∧ i ≤ ts.length ∧ wr.ownsRow B 5 1 ov1 ol1.length (Lib.byteCells ol1) ∧ Below B W wr ∧ ol1.length ≤ 65536 ∧ Hid ((okb = true → ol1 = ol ++ txtL (prL vs) (ts.take i)) ∧ (okb = false → 65536 < ol.length + (txtL (prL vs) ts).length))) (fun _ _ iv _ => ts.length - (intOf iv).toNat)
  case atStart => exact ⟨0, ol, true, rfl, rfl, Nat.zero_le _, hown, Below.refl _ _, hol, fun _ => by rw [List.take_zero, txtL, List.append_nil], fun h => by cases h⟩
  case round =>
    obtain ⟨i, ol1, okb, rfl, rfl, hil, hown1, hb1, hol1, HT⟩ := hrel
    cases okb with
    | false =>
      have HX : Hid _ := HT.out.2 rfl
      have HO : Hid _ := hown1
      clear HT hown1
      by_cases hlt : i < ts.length
      · have d1 : (i : Int) < (ts.length : Int) := by omega
        go_wp2
        go_ret2
        exact ⟨_, ol1, false, rfl, HO.out, hb1, hol1, fun h => (by cases h), fun _ => HX.out⟩
      · have d1 : ¬ (i : Int) < (ts.length : Int) := by omega
        go_wp2
        go_ret2
        exact ⟨_, ol1, false, rfl, HO.out, hb1, hol1, fun h => (by cases h), fun _ => HX.out⟩
    | true =>
      by_cases hlt : i < ts.length
      · obtain ⟨p, hpi⟩ : ∃ p, ts[i]? = some p := ⟨_, List.getElem?_eq_getElem hlt⟩
        obtain ⟨u, hui, hpu⟩ := HP.out.kids.at i p hpi
        obtain ⟨t, n, o, ks⟩ := p
        have hks : SizeOf.sizeOf ks ≤ m := by
          have h1 := List.sizeOf_lt_of_mem (List.mem_of_getElem? hpi)
          simp at h1
          omega
        rw [PatP] at hpu
        obtain ⟨htl0, hub, us2, hul, huo, huk⟩ := hpu
        obtain ⟨ua, uc, ug, rfl, _⟩ := own_form4 huo
        have hva := HVA.out (by omega)
        subst hva
        have hgB : g < B := HLB.out g rfl
        have hcells := fun c x hx => HP.out.cells rfl _ _ (ptsC_at ts us i _ _ hkl hpi hui c x hx)
        have hrange : wr.rangeAt g (i * 4) [.string (bs t), .string (bs n), .int .u8 o.toNat, .slice ua ks.length uc] := by
          intro c x hx
          have h1 := hcells c x hx
          rw [Addr.add_mid, Nat.zero_add] at h1
          exact (hb1.cell (p := ⟨g, i * 4 + c, none⟩) hgB).trans h1
        have HTX : Hid (txtL (prL vs) (ts.take (i + 1)) = txtL (prL vs) (ts.take i) ++ txtP (prL vs) (.mk t n o ks)) := txtL_take _ _ _ _ hpi
        have HLE : Hid ((txtL (prL vs) (ts.take (i + 1))).length ≤ (txtL (prL vs) ts).length) := txtL_len _ _ _
        have HOL : Hid (ol1 = ol ++ txtL (prL vs) (ts.take i)) := HT.out.1 rfl
        have HK : Hid (PtsAt W (· < B) (.slice ua ks.length uc) ks us2 ∧ ∀ j, (Value.slice ua ks.length uc).ownBlock = some j → j < B) := ⟨⟨huo, huk⟩, hub⟩
        have d0 : (0 : Int) ≤ (i : Int) := by omega
        have d1 : (i : Int) < (ts.length : Int) := by omega
        have hsz := hb1.size
        clear hpi hui hub huo huk hcells HT
        go_upto_region 6 with (refine wpList_load_mid rfl 108 (.tmp 24) rfl g (i * 4) rfl _ _ hrange Tryz.underlying108 rfl (by kernel_rfl) ?_)
        have hL := Lies.new wr 108 #[.string (bs t), .string (bs n), .int .u8 o.toNat, .slice ua ks.length uc]
        have hbp := hb1.alloc (Nat.le_trans hB hsz) (.cells #[.string (bs t), .string (bs n), .int .u8 o.toNat, .slice ua ks.length uc] 108)
        have hoB : ∀ j, u0.ownBlock = some j → j < wr.heap.size := fun j hj => own_lt8 hown1 j hj
        have hop := hown1.alloc (.cells #[.string (bs t), .string (bs n), .int .u8 o.toNat, .slice ua ks.length uc] 108)
        generalize (wr.alloc (.cells #[.string (bs t), .string (bs n), .int .u8 o.toNat, .slice ua ks.length uc] 108)) = wp at *
        have x0 := hL.cell (i := 0) rfl
        have x1 := hL.cell (i := 1) rfl
        have x2 := hL.cell (i := 2) rfl
        have x3 := hL.cell (i := 3) rfl
        have hvp : PrsAt wp vv vs := (HV.out.keep (fun j hj => hbp.block j hj)).at
        have hVal := value_r (bs n) vv vs wp hvp (by have := hf.1; omega)
        rw [un_bs] at hVal
        have hVF := valL_few hf n
        have htl : t.length ≤ 140737488355328 := by omega
        clear hrange hL hown1 hvp
        obtain ⟨S, hS⟩ : ∃ S, S = (if n = [] then t else valL (prL vs) n) := ⟨_, rfl⟩
        have HTP : Hid (txtP (prL vs) (.mk t n o ks) = (if o = 43 then [] else S) ++ (if (o = 45 ∧ S = []) ∨ (o = 43 ∧ S ≠ []) then txtL (prL vs) ks else [])) := by
          unfold Hid; rw [txtP, ← hS]
        have hSl : S.length ≤ 140737488355328 := by rw [hS]; split <;> assumption
        have qs : ((bs S).toList == ([] : List UInt8)) = decide (S = []) := bs_nil_eq S
        have q45 : ((o.toNat : Int) == 45) = decide (o = 45) := beq_u8n o 45 (by decide)
        have q43 : ((o.toNat : Int) == 43) = decide (o = 43) := beq_u8n o 43 (by decide)
        have hss : (bs S).size = S.length := size_bs S
        obtain ⟨bS, hbS⟩ : ∃ b, decide (S = []) = b := ⟨_, rfl⟩
        obtain ⟨b5, hb5⟩ : ∃ b, decide (o = 45) = b := ⟨_, rfl⟩
        obtain ⟨b3, hb3⟩ : ∃ b, decide (o = 43) = b := ⟨_, rfl⟩
        obtain ⟨L, hLd⟩ : ∃ L : List UInt8, L = if b3 = true then [] else S := ⟨_, rfl⟩
        obtain ⟨tk, htk⟩ : ∃ tk : Bool, tk = ((b5 && bS) || (b3 && !bS)) := ⟨_, rfl⟩
        have HTQ : Hid (txtP (prL vs) (.mk t n o ks) = L ++ if tk = true then txtL (prL vs) ks else []) := by
          unfold Hid
          rw [HTP.out, hLd, htk]
          congr 1
          · by_cases h : o = 43 <;> simp [← hb3, h]
          · by_cases h : o = 43 <;> by_cases h2 : o = 45 <;> by_cases h3 : S = [] <;> simp [← hb3, ← hb5, ← hbS, h, h2, h3]
        rw [hbS] at qs
        rw [hb5] at q45
        rw [hb3] at q43
        obtain ⟨oa, oc, og, rfl, _⟩ := own_form4 hop
        have hPB : (Value.slice oa ol1.length oc).ownBlock ≠ some wr.heap.size := fun e => Nat.lt_irrefl _ (hoB _ e)
        by_cases hn : n = []
        · have qn : ((bs n).toList == ([] : List UInt8)) = true := by rw [bs_nil_eq, decide_eq_true hn]
          rw [if_pos hn] at hS
          clear hn hVal hVF
          subst hS
          go_upto_region 9 with fail
          cases b3 with
          | true =>
            cases b5 with
            | true => exact absurd ((decide_eq_true_eq.mp hb5).symm.trans (decide_eq_true_eq.mp hb3)) (by decide)
            | false =>
              cases bS with
              | true =>
                have hLd2 : L = [] := by rw [hLd]; rfl
                have htk2 : tk = false := by rw [htk]; rfl
                have HTZ : Hid (txtL (prL vs) (ts.take (i + 1)) = txtL (prL vs) (ts.take i) ++ L) := by
                  unfold Hid; rw [HTX.out, HTQ.out, htk2]; rw [if_neg (by decide), List.append_nil]
                clear hbS hb5 hb3 hLd htk htk2 HTQ HTX HTP
                subst hLd2
                go_upto_region 12 with fail
                have HLn : Hid ((ol ++ txtL (prL vs) (ts.take (i + 1))).length ≤ ol.length + (txtL (prL vs) ts).length) := by
                  unfold Hid; rw [List.length_append]; have := HLE.out; omega
                have HOZ : Hid (ol ++ txtL (prL vs) (ts.take (i + 1)) = ol1 ++ ([] : List UInt8)) := by
                  unfold Hid; rw [HTZ.out, HOL.out]; simp only [List.append_assoc]
                clear HTZ HLE HOL
                have wl : IntKind.i64.wrap (ol1.length : Int) = (ol1.length : Int) := by rw [wrap_small _ (by omega) (by omega)]
                have wg : ¬ (65536 : Int) < (ol1.length : Int) := by omega
                have hln : (ol1 ++ ([] : List UInt8)).length ≤ 65536 := by rw [List.append_nil]; exact hol1
                go_wp2_with (at_builtin; refine Lib.wpList_append_own_string _ rfl _ _ 37 9 rfl B 5 i0 Tryz.underlying37 Tryz.underlying9 hi hz0 hz1 hz2 (.slice oa ol1.length oc) ol1.length (Lib.byteCells ol1) rfl hop (bs ([] : List UInt8)) rfl (by rw [size_bs]; rw [List.length_append] at hln; unfold maxLen; omega) (by rw [size_bs]; rw [List.length_append] at hln; omega) (Nat.le_trans hB hbp.size) ?_; intro v2 w2 hown2 hgrow2 _; have hb2 : Below B W w2 := hbp.grown hgrow2 (Nat.le_trans hB hbp.size) (fun j hj => (own_ge8 hop j hj)); have hown2' : w2.ownsRow B 5 1 v2 (ol1 ++ ([] : List UInt8)).length (Lib.byteCells (ol1 ++ ([] : List UInt8))) := own_app8 hown2)
                have HN : Hid ((true = true → ol1 ++ ([] : List UInt8) = ol ++ txtL (prL vs) (ts.take (i + 1))) ∧ (true = false → 65536 < ol.length + (txtL (prL vs) ts).length)) := ⟨fun _ => HOZ.out.symm, fun h => by cases h⟩
                go_roundw
                case rel => exact ⟨i + 1, ol1 ++ ([] : List UInt8), true, by go_num, rfl, by omega, hown2', hb2, hln, HN⟩
                case measure => simp [intOf]; omega
              | false =>
                have hLd2 : L = [] := by rw [hLd]; rfl
                have htk2 : tk = true := by rw [htk]; rfl
                have HTZ : Hid (txtL (prL vs) (ts.take (i + 1)) = txtL (prL vs) (ts.take i) ++ L ++ txtL (prL vs) ks) := by
                  unfold Hid; rw [HTX.out, HTQ.out, htk2]; rw [if_pos rfl, List.append_assoc]
                clear hbS hb5 hb3 hLd htk htk2 HTQ HTX HTP
                subst hLd2
                go_upto_region 12 with fail
                have HLn : Hid ((ol ++ txtL (prL vs) (ts.take (i + 1))).length ≤ ol.length + (txtL (prL vs) ts).length) := by
                  unfold Hid; rw [List.length_append]; have := HLE.out; omega
                have HOZ : Hid (ol ++ txtL (prL vs) (ts.take (i + 1)) = ol1 ++ ([] : List UInt8) ++ txtL (prL vs) ks) := by
                  unfold Hid; rw [HTZ.out, HOL.out]; simp only [List.append_assoc]
                clear HTZ HLE HOL
                have wl : IntKind.i64.wrap (ol1.length : Int) = (ol1.length : Int) := by rw [wrap_small _ (by omega) (by omega)]
                have wg : ¬ (65536 : Int) < (ol1.length : Int) := by omega
                have hln : (ol1 ++ ([] : List UInt8)).length ≤ 65536 := by rw [List.append_nil]; exact hol1
                go_wp2_with (first
                  | (at_builtin; refine Lib.wpList_append_own_string _ rfl _ _ 37 9 rfl B 5 i0 Tryz.underlying37 Tryz.underlying9 hi hz0 hz1 hz2 (.slice oa ol1.length oc) ol1.length (Lib.byteCells ol1) rfl hop (bs ([] : List UInt8)) rfl (by rw [size_bs]; rw [List.length_append] at hln; unfold maxLen; omega) (by rw [size_bs]; rw [List.length_append] at hln; omega) (Nat.le_trans hB hbp.size) ?_; intro v2 w2 hown2 hgrow2 _; have hb2 : Below B W w2 := hbp.grown hgrow2 (Nat.le_trans hB hbp.size) (fun j hj => (own_ge8 hop j hj)); have hown2' : w2.ownsRow B 5 1 v2 (ol1 ++ ([] : List UInt8)).length (Lib.byteCells (ol1 ++ ([] : List UInt8))) := own_app8 hown2; have hIH := HIH.out ks us2 (.slice ua ks.length uc) vv v2 (ol1 ++ ([] : List UInt8)) w2 B hks (HK.out.1.keep (fun _ h => h) (fun j hj => hb2.block j (hj.elim id (HK.out.2 j)))) HK.out.2 (HV.out.keep (fun j hj => hb2.block j hj)) (Nat.le_trans hB hb2.size) hown2' hln; have x3b : w2.cell? ⟨wr.heap.size, 3, none⟩ = some (.slice ua ks.length uc) := (grow_cell hgrow2 hop x3 hPB))
                  | (go_at_call 55; refine hIH.mono ?_; rintro x w3 ⟨ov3, ol3, ok3, rfl, hown3, hb3, hl3, hok3, hbad3⟩))
                have HN : Hid ((ok3 = true → ol3 = ol ++ txtL (prL vs) (ts.take (i + 1))) ∧ (ok3 = false → 65536 < ol.length + (txtL (prL vs) ts).length)) := by
                  refine ⟨fun h => ?_, fun h => ?_⟩
                  · rw [HOZ.out, hok3 h]
                  · have h1 := hbad3 h
                    have h2 := HLn.out
                    rw [HOZ.out, List.length_append] at h2
                    omega
                go_roundw
                case rel => exact ⟨i + 1, ol3, ok3, by go_num, rfl, by omega, hown3, hb2.trans hb3, hl3, HN⟩
                case measure => simp [intOf]; omega
          | false =>
            cases b5 with
            | true =>
              cases bS with
              | true =>
                have hLd2 : L = S := by rw [hLd]; rfl
                have htk2 : tk = true := by rw [htk]; rfl
                have HTZ : Hid (txtL (prL vs) (ts.take (i + 1)) = txtL (prL vs) (ts.take i) ++ L ++ txtL (prL vs) ks) := by
                  unfold Hid; rw [HTX.out, HTQ.out, htk2]; rw [if_pos rfl, List.append_assoc]
                clear hbS hb5 hb3 hLd htk htk2 HTQ HTX HTP
                replace hLd2 := hLd2.symm
                subst hLd2
                go_upto_region 12 with fail
                have HLn : Hid ((ol ++ txtL (prL vs) (ts.take (i + 1))).length ≤ ol.length + (txtL (prL vs) ts).length) := by
                  unfold Hid; rw [List.length_append]; have := HLE.out; omega
                have HOZ : Hid (ol ++ txtL (prL vs) (ts.take (i + 1)) = ol1 ++ S ++ txtL (prL vs) ks) := by
                  unfold Hid; rw [HTZ.out, HOL.out]; simp only [List.append_assoc]
                clear HTZ HLE HOL
                obtain ⟨sn, hsn⟩ : ∃ sn, ol1.length + S.length = sn := ⟨_, rfl⟩
                have wl : IntKind.i64.wrap ((ol1.length : Int) + (S.length : Int)) = (sn : Int) := by rw [wrap_small _ (by omega) (by omega)]; omega
                by_cases hgt : 65536 < sn
                · have wg : (65536 : Int) < (sn : Int) := by omega
                  go_wp2
                  go_ret2
                  exact ⟨_, ol1, false, rfl, hop, hbp, hol1, fun h => (by cases h), fun _ => by
                    have h1 := HLn.out
                    rw [HOZ.out] at h1
                    simp only [List.length_append] at h1
                    omega⟩
                · have wg : ¬ (65536 : Int) < (sn : Int) := by omega
                  have hln : (ol1 ++ S).length ≤ 65536 := by rw [List.length_append]; omega
                  go_wp2_with (first
                    | (at_builtin; refine Lib.wpList_append_own_string _ rfl _ _ 37 9 rfl B 5 i0 Tryz.underlying37 Tryz.underlying9 hi hz0 hz1 hz2 (.slice oa ol1.length oc) ol1.length (Lib.byteCells ol1) rfl hop (bs S) rfl (by rw [size_bs]; rw [List.length_append] at hln; unfold maxLen; omega) (by rw [size_bs]; rw [List.length_append] at hln; omega) (Nat.le_trans hB hbp.size) ?_; intro v2 w2 hown2 hgrow2 _; have hb2 : Below B W w2 := hbp.grown hgrow2 (Nat.le_trans hB hbp.size) (fun j hj => (own_ge8 hop j hj)); have hown2' : w2.ownsRow B 5 1 v2 (ol1 ++ S).length (Lib.byteCells (ol1 ++ S)) := own_app8 hown2; have hIH := HIH.out ks us2 (.slice ua ks.length uc) vv v2 (ol1 ++ S) w2 B hks (HK.out.1.keep (fun _ h => h) (fun j hj => hb2.block j (hj.elim id (HK.out.2 j)))) HK.out.2 (HV.out.keep (fun j hj => hb2.block j hj)) (Nat.le_trans hB hb2.size) hown2' hln; have x3b : w2.cell? ⟨wr.heap.size, 3, none⟩ = some (.slice ua ks.length uc) := (grow_cell hgrow2 hop x3 hPB))
                    | (go_at_call 55; refine hIH.mono ?_; rintro x w3 ⟨ov3, ol3, ok3, rfl, hown3, hb3, hl3, hok3, hbad3⟩))
                  have HN : Hid ((ok3 = true → ol3 = ol ++ txtL (prL vs) (ts.take (i + 1))) ∧ (ok3 = false → 65536 < ol.length + (txtL (prL vs) ts).length)) := by
                    refine ⟨fun h => ?_, fun h => ?_⟩
                    · rw [HOZ.out, hok3 h]
                    · have h1 := hbad3 h
                      have h2 := HLn.out
                      rw [HOZ.out, List.length_append] at h2
                      omega
                  go_roundw
                  case rel => exact ⟨i + 1, ol3, ok3, by go_num, rfl, by omega, hown3, hb2.trans hb3, hl3, HN⟩
                  case measure => simp [intOf]; omega
              | false =>
                have hLd2 : L = S := by rw [hLd]; rfl
                have htk2 : tk = false := by rw [htk]; rfl
                have HTZ : Hid (txtL (prL vs) (ts.take (i + 1)) = txtL (prL vs) (ts.take i) ++ L) := by
                  unfold Hid; rw [HTX.out, HTQ.out, htk2]; rw [if_neg (by decide), List.append_nil]
                clear hbS hb5 hb3 hLd htk htk2 HTQ HTX HTP
                replace hLd2 := hLd2.symm
                subst hLd2
                go_upto_region 12 with fail
                have HLn : Hid ((ol ++ txtL (prL vs) (ts.take (i + 1))).length ≤ ol.length + (txtL (prL vs) ts).length) := by
                  unfold Hid; rw [List.length_append]; have := HLE.out; omega
                have HOZ : Hid (ol ++ txtL (prL vs) (ts.take (i + 1)) = ol1 ++ S) := by
                  unfold Hid; rw [HTZ.out, HOL.out]; simp only [List.append_assoc]
                clear HTZ HLE HOL
                obtain ⟨sn, hsn⟩ : ∃ sn, ol1.length + S.length = sn := ⟨_, rfl⟩
                have wl : IntKind.i64.wrap ((ol1.length : Int) + (S.length : Int)) = (sn : Int) := by rw [wrap_small _ (by omega) (by omega)]; omega
                by_cases hgt : 65536 < sn
                · have wg : (65536 : Int) < (sn : Int) := by omega
                  go_wp2
                  go_ret2
                  exact ⟨_, ol1, false, rfl, hop, hbp, hol1, fun h => (by cases h), fun _ => by
                    have h1 := HLn.out
                    rw [HOZ.out] at h1
                    simp only [List.length_append] at h1
                    omega⟩
                · have wg : ¬ (65536 : Int) < (sn : Int) := by omega
                  have hln : (ol1 ++ S).length ≤ 65536 := by rw [List.length_append]; omega
                  go_wp2_with (at_builtin; refine Lib.wpList_append_own_string _ rfl _ _ 37 9 rfl B 5 i0 Tryz.underlying37 Tryz.underlying9 hi hz0 hz1 hz2 (.slice oa ol1.length oc) ol1.length (Lib.byteCells ol1) rfl hop (bs S) rfl (by rw [size_bs]; rw [List.length_append] at hln; unfold maxLen; omega) (by rw [size_bs]; rw [List.length_append] at hln; omega) (Nat.le_trans hB hbp.size) ?_; intro v2 w2 hown2 hgrow2 _; have hb2 : Below B W w2 := hbp.grown hgrow2 (Nat.le_trans hB hbp.size) (fun j hj => (own_ge8 hop j hj)); have hown2' : w2.ownsRow B 5 1 v2 (ol1 ++ S).length (Lib.byteCells (ol1 ++ S)) := own_app8 hown2)
                  have HN : Hid ((true = true → ol1 ++ S = ol ++ txtL (prL vs) (ts.take (i + 1))) ∧ (true = false → 65536 < ol.length + (txtL (prL vs) ts).length)) := ⟨fun _ => HOZ.out.symm, fun h => by cases h⟩
                  go_roundw
                  case rel => exact ⟨i + 1, ol1 ++ S, true, by go_num, rfl, by omega, hown2', hb2, hln, HN⟩
                  case measure => simp [intOf]; omega
            | false =>
              cases bS with
              | true =>
                have hLd2 : L = S := by rw [hLd]; rfl
                have htk2 : tk = false := by rw [htk]; rfl
                have HTZ : Hid (txtL (prL vs) (ts.take (i + 1)) = txtL (prL vs) (ts.take i) ++ L) := by
                  unfold Hid; rw [HTX.out, HTQ.out, htk2]; rw [if_neg (by decide), List.append_nil]
                clear hbS hb5 hb3 hLd htk htk2 HTQ HTX HTP
                replace hLd2 := hLd2.symm
                subst hLd2
                go_upto_region 12 with fail
                have HLn : Hid ((ol ++ txtL (prL vs) (ts.take (i + 1))).length ≤ ol.length + (txtL (prL vs) ts).length) := by
                  unfold Hid; rw [List.length_append]; have := HLE.out; omega
                have HOZ : Hid (ol ++ txtL (prL vs) (ts.take (i + 1)) = ol1 ++ S) := by
                  unfold Hid; rw [HTZ.out, HOL.out]; simp only [List.append_assoc]
                clear HTZ HLE HOL
                obtain ⟨sn, hsn⟩ : ∃ sn, ol1.length + S.length = sn := ⟨_, rfl⟩
                have wl : IntKind.i64.wrap ((ol1.length : Int) + (S.length : Int)) = (sn : Int) := by rw [wrap_small _ (by omega) (by omega)]; omega
                by_cases hgt : 65536 < sn
                · have wg : (65536 : Int) < (sn : Int) := by omega
                  go_wp2
                  go_ret2
                  exact ⟨_, ol1, false, rfl, hop, hbp, hol1, fun h => (by cases h), fun _ => by
                    have h1 := HLn.out
                    rw [HOZ.out] at h1
                    simp only [List.length_append] at h1
                    omega⟩
                · have wg : ¬ (65536 : Int) < (sn : Int) := by omega
                  have hln : (ol1 ++ S).length ≤ 65536 := by rw [List.length_append]; omega
                  go_wp2_with (at_builtin; refine Lib.wpList_append_own_string _ rfl _ _ 37 9 rfl B 5 i0 Tryz.underlying37 Tryz.underlying9 hi hz0 hz1 hz2 (.slice oa ol1.length oc) ol1.length (Lib.byteCells ol1) rfl hop (bs S) rfl (by rw [size_bs]; rw [List.length_append] at hln; unfold maxLen; omega) (by rw [size_bs]; rw [List.length_append] at hln; omega) (Nat.le_trans hB hbp.size) ?_; intro v2 w2 hown2 hgrow2 _; have hb2 : Below B W w2 := hbp.grown hgrow2 (Nat.le_trans hB hbp.size) (fun j hj => (own_ge8 hop j hj)); have hown2' : w2.ownsRow B 5 1 v2 (ol1 ++ S).length (Lib.byteCells (ol1 ++ S)) := own_app8 hown2)
                  have HN : Hid ((true = true → ol1 ++ S = ol ++ txtL (prL vs) (ts.take (i + 1))) ∧ (true = false → 65536 < ol.length + (txtL (prL vs) ts).length)) := ⟨fun _ => HOZ.out.symm, fun h => by cases h⟩
                  go_roundw
                  case rel => exact ⟨i + 1, ol1 ++ S, true, by go_num, rfl, by omega, hown2', hb2, hln, HN⟩
                  case measure => simp [intOf]; omega
              | false =>
                have hLd2 : L = S := by rw [hLd]; rfl
                have htk2 : tk = false := by rw [htk]; rfl
                have HTZ : Hid (txtL (prL vs) (ts.take (i + 1)) = txtL (prL vs) (ts.take i) ++ L) := by
                  unfold Hid; rw [HTX.out, HTQ.out, htk2]; rw [if_neg (by decide), List.append_nil]
                clear hbS hb5 hb3 hLd htk htk2 HTQ HTX HTP
                replace hLd2 := hLd2.symm
                subst hLd2
                go_upto_region 12 with fail
                have HLn : Hid ((ol ++ txtL (prL vs) (ts.take (i + 1))).length ≤ ol.length + (txtL (prL vs) ts).length) := by
                  unfold Hid; rw [List.length_append]; have := HLE.out; omega
                have HOZ : Hid (ol ++ txtL (prL vs) (ts.take (i + 1)) = ol1 ++ S) := by
                  unfold Hid; rw [HTZ.out, HOL.out]; simp only [List.append_assoc]
                clear HTZ HLE HOL
                obtain ⟨sn, hsn⟩ : ∃ sn, ol1.length + S.length = sn := ⟨_, rfl⟩
                have wl : IntKind.i64.wrap ((ol1.length : Int) + (S.length : Int)) = (sn : Int) := by rw [wrap_small _ (by omega) (by omega)]; omega
                by_cases hgt : 65536 < sn
                · have wg : (65536 : Int) < (sn : Int) := by omega
                  go_wp2
                  go_ret2
                  exact ⟨_, ol1, false, rfl, hop, hbp, hol1, fun h => (by cases h), fun _ => by
                    have h1 := HLn.out
                    rw [HOZ.out] at h1
                    simp only [List.length_append] at h1
                    omega⟩
                · have wg : ¬ (65536 : Int) < (sn : Int) := by omega
                  have hln : (ol1 ++ S).length ≤ 65536 := by rw [List.length_append]; omega
                  go_wp2_with (at_builtin; refine Lib.wpList_append_own_string _ rfl _ _ 37 9 rfl B 5 i0 Tryz.underlying37 Tryz.underlying9 hi hz0 hz1 hz2 (.slice oa ol1.length oc) ol1.length (Lib.byteCells ol1) rfl hop (bs S) rfl (by rw [size_bs]; rw [List.length_append] at hln; unfold maxLen; omega) (by rw [size_bs]; rw [List.length_append] at hln; omega) (Nat.le_trans hB hbp.size) ?_; intro v2 w2 hown2 hgrow2 _; have hb2 : Below B W w2 := hbp.grown hgrow2 (Nat.le_trans hB hbp.size) (fun j hj => (own_ge8 hop j hj)); have hown2' : w2.ownsRow B 5 1 v2 (ol1 ++ S).length (Lib.byteCells (ol1 ++ S)) := own_app8 hown2)
                  have HN : Hid ((true = true → ol1 ++ S = ol ++ txtL (prL vs) (ts.take (i + 1))) ∧ (true = false → 65536 < ol.length + (txtL (prL vs) ts).length)) := ⟨fun _ => HOZ.out.symm, fun h => by cases h⟩
                  go_roundw
                  case rel => exact ⟨i + 1, ol1 ++ S, true, by go_num, rfl, by omega, hown2', hb2, hln, HN⟩
                  case measure => simp [intOf]; omega
        · have qn : ((bs n).toList == ([] : List UInt8)) = false := by rw [bs_nil_eq, decide_eq_false hn]
          rw [if_neg hn] at hS
          rw [← hS] at hVal
          clear hn hS hVF htl htl0
          go_upto_region 9 with (go_at_call 73; refine hVal.mono ?_; rintro y wv ⟨rfl, hw⟩; replace hw := hw.symm; subst hw)
          clear hVal
          cases b3 with
          | true =>
            cases b5 with
            | true => exact absurd ((decide_eq_true_eq.mp hb5).symm.trans (decide_eq_true_eq.mp hb3)) (by decide)
            | false =>
              cases bS with
              | true =>
                have hLd2 : L = [] := by rw [hLd]; rfl
                have htk2 : tk = false := by rw [htk]; rfl
                have HTZ : Hid (txtL (prL vs) (ts.take (i + 1)) = txtL (prL vs) (ts.take i) ++ L) := by
                  unfold Hid; rw [HTX.out, HTQ.out, htk2]; rw [if_neg (by decide), List.append_nil]
                clear hbS hb5 hb3 hLd htk htk2 HTQ HTX HTP
                subst hLd2
                go_upto_region 12 with fail
                have HLn : Hid ((ol ++ txtL (prL vs) (ts.take (i + 1))).length ≤ ol.length + (txtL (prL vs) ts).length) := by
                  unfold Hid; rw [List.length_append]; have := HLE.out; omega
                have HOZ : Hid (ol ++ txtL (prL vs) (ts.take (i + 1)) = ol1 ++ ([] : List UInt8)) := by
                  unfold Hid; rw [HTZ.out, HOL.out]; simp only [List.append_assoc]
                clear HTZ HLE HOL
                have wl : IntKind.i64.wrap (ol1.length : Int) = (ol1.length : Int) := by rw [wrap_small _ (by omega) (by omega)]
                have wg : ¬ (65536 : Int) < (ol1.length : Int) := by omega
                have hln : (ol1 ++ ([] : List UInt8)).length ≤ 65536 := by rw [List.append_nil]; exact hol1
                go_wp2_with (at_builtin; refine Lib.wpList_append_own_string _ rfl _ _ 37 9 rfl B 5 i0 Tryz.underlying37 Tryz.underlying9 hi hz0 hz1 hz2 (.slice oa ol1.length oc) ol1.length (Lib.byteCells ol1) rfl hop (bs ([] : List UInt8)) rfl (by rw [size_bs]; rw [List.length_append] at hln; unfold maxLen; omega) (by rw [size_bs]; rw [List.length_append] at hln; omega) (Nat.le_trans hB hbp.size) ?_; intro v2 w2 hown2 hgrow2 _; have hb2 : Below B W w2 := hbp.grown hgrow2 (Nat.le_trans hB hbp.size) (fun j hj => (own_ge8 hop j hj)); have hown2' : w2.ownsRow B 5 1 v2 (ol1 ++ ([] : List UInt8)).length (Lib.byteCells (ol1 ++ ([] : List UInt8))) := own_app8 hown2)
                have HN : Hid ((true = true → ol1 ++ ([] : List UInt8) = ol ++ txtL (prL vs) (ts.take (i + 1))) ∧ (true = false → 65536 < ol.length + (txtL (prL vs) ts).length)) := ⟨fun _ => HOZ.out.symm, fun h => by cases h⟩
                go_roundw
                case rel => exact ⟨i + 1, ol1 ++ ([] : List UInt8), true, by go_num, rfl, by omega, hown2', hb2, hln, HN⟩
                case measure => simp [intOf]; omega
              | false =>
                have hLd2 : L = [] := by rw [hLd]; rfl
                have htk2 : tk = true := by rw [htk]; rfl
                have HTZ : Hid (txtL (prL vs) (ts.take (i + 1)) = txtL (prL vs) (ts.take i) ++ L ++ txtL (prL vs) ks) := by
                  unfold Hid; rw [HTX.out, HTQ.out, htk2]; rw [if_pos rfl, List.append_assoc]
                clear hbS hb5 hb3 hLd htk htk2 HTQ HTX HTP
                subst hLd2
                go_upto_region 12 with fail
                have HLn : Hid ((ol ++ txtL (prL vs) (ts.take (i + 1))).length ≤ ol.length + (txtL (prL vs) ts).length) := by
                  unfold Hid; rw [List.length_append]; have := HLE.out; omega
                have HOZ : Hid (ol ++ txtL (prL vs) (ts.take (i + 1)) = ol1 ++ ([] : List UInt8) ++ txtL (prL vs) ks) := by
                  unfold Hid; rw [HTZ.out, HOL.out]; simp only [List.append_assoc]
                clear HTZ HLE HOL
                have wl : IntKind.i64.wrap (ol1.length : Int) = (ol1.length : Int) := by rw [wrap_small _ (by omega) (by omega)]
                have wg : ¬ (65536 : Int) < (ol1.length : Int) := by omega
                have hln : (ol1 ++ ([] : List UInt8)).length ≤ 65536 := by rw [List.append_nil]; exact hol1
                go_wp2_with (first
                  | (at_builtin; refine Lib.wpList_append_own_string _ rfl _ _ 37 9 rfl B 5 i0 Tryz.underlying37 Tryz.underlying9 hi hz0 hz1 hz2 (.slice oa ol1.length oc) ol1.length (Lib.byteCells ol1) rfl hop (bs ([] : List UInt8)) rfl (by rw [size_bs]; rw [List.length_append] at hln; unfold maxLen; omega) (by rw [size_bs]; rw [List.length_append] at hln; omega) (Nat.le_trans hB hbp.size) ?_; intro v2 w2 hown2 hgrow2 _; have hb2 : Below B W w2 := hbp.grown hgrow2 (Nat.le_trans hB hbp.size) (fun j hj => (own_ge8 hop j hj)); have hown2' : w2.ownsRow B 5 1 v2 (ol1 ++ ([] : List UInt8)).length (Lib.byteCells (ol1 ++ ([] : List UInt8))) := own_app8 hown2; have hIH := HIH.out ks us2 (.slice ua ks.length uc) vv v2 (ol1 ++ ([] : List UInt8)) w2 B hks (HK.out.1.keep (fun _ h => h) (fun j hj => hb2.block j (hj.elim id (HK.out.2 j)))) HK.out.2 (HV.out.keep (fun j hj => hb2.block j hj)) (Nat.le_trans hB hb2.size) hown2' hln; have x3b : w2.cell? ⟨wr.heap.size, 3, none⟩ = some (.slice ua ks.length uc) := (grow_cell hgrow2 hop x3 hPB))
                  | (go_at_call 55; refine hIH.mono ?_; rintro x w3 ⟨ov3, ol3, ok3, rfl, hown3, hb3, hl3, hok3, hbad3⟩))
                have HN : Hid ((ok3 = true → ol3 = ol ++ txtL (prL vs) (ts.take (i + 1))) ∧ (ok3 = false → 65536 < ol.length + (txtL (prL vs) ts).length)) := by
                  refine ⟨fun h => ?_, fun h => ?_⟩
                  · rw [HOZ.out, hok3 h]
                  · have h1 := hbad3 h
                    have h2 := HLn.out
                    rw [HOZ.out, List.length_append] at h2
                    omega
                go_roundw
                case rel => exact ⟨i + 1, ol3, ok3, by go_num, rfl, by omega, hown3, hb2.trans hb3, hl3, HN⟩
                case measure => simp [intOf]; omega
          | false =>
            cases b5 with
            | true =>
              cases bS with
              | true =>
                have hLd2 : L = S := by rw [hLd]; rfl
                have htk2 : tk = true := by rw [htk]; rfl
                have HTZ : Hid (txtL (prL vs) (ts.take (i + 1)) = txtL (prL vs) (ts.take i) ++ L ++ txtL (prL vs) ks) := by
                  unfold Hid; rw [HTX.out, HTQ.out, htk2]; rw [if_pos rfl, List.append_assoc]
                clear hbS hb5 hb3 hLd htk htk2 HTQ HTX HTP
                replace hLd2 := hLd2.symm
                subst hLd2
                go_upto_region 12 with fail
                have HLn : Hid ((ol ++ txtL (prL vs) (ts.take (i + 1))).length ≤ ol.length + (txtL (prL vs) ts).length) := by
                  unfold Hid; rw [List.length_append]; have := HLE.out; omega
                have HOZ : Hid (ol ++ txtL (prL vs) (ts.take (i + 1)) = ol1 ++ S ++ txtL (prL vs) ks) := by
                  unfold Hid; rw [HTZ.out, HOL.out]; simp only [List.append_assoc]
                clear HTZ HLE HOL
                obtain ⟨sn, hsn⟩ : ∃ sn, ol1.length + S.length = sn := ⟨_, rfl⟩
                have wl : IntKind.i64.wrap ((ol1.length : Int) + (S.length : Int)) = (sn : Int) := by rw [wrap_small _ (by omega) (by omega)]; omega
                by_cases hgt : 65536 < sn
                · have wg : (65536 : Int) < (sn : Int) := by omega
                  go_wp2
                  go_ret2
                  exact ⟨_, ol1, false, rfl, hop, hbp, hol1, fun h => (by cases h), fun _ => by
                    have h1 := HLn.out
                    rw [HOZ.out] at h1
                    simp only [List.length_append] at h1
                    omega⟩
                · have wg : ¬ (65536 : Int) < (sn : Int) := by omega
                  have hln : (ol1 ++ S).length ≤ 65536 := by rw [List.length_append]; omega
                  go_wp2_with (first
                    | (at_builtin; refine Lib.wpList_append_own_string _ rfl _ _ 37 9 rfl B 5 i0 Tryz.underlying37 Tryz.underlying9 hi hz0 hz1 hz2 (.slice oa ol1.length oc) ol1.length (Lib.byteCells ol1) rfl hop (bs S) rfl (by rw [size_bs]; rw [List.length_append] at hln; unfold maxLen; omega) (by rw [size_bs]; rw [List.length_append] at hln; omega) (Nat.le_trans hB hbp.size) ?_; intro v2 w2 hown2 hgrow2 _; have hb2 : Below B W w2 := hbp.grown hgrow2 (Nat.le_trans hB hbp.size) (fun j hj => (own_ge8 hop j hj)); have hown2' : w2.ownsRow B 5 1 v2 (ol1 ++ S).length (Lib.byteCells (ol1 ++ S)) := own_app8 hown2; have hIH := HIH.out ks us2 (.slice ua ks.length uc) vv v2 (ol1 ++ S) w2 B hks (HK.out.1.keep (fun _ h => h) (fun j hj => hb2.block j (hj.elim id (HK.out.2 j)))) HK.out.2 (HV.out.keep (fun j hj => hb2.block j hj)) (Nat.le_trans hB hb2.size) hown2' hln; have x3b : w2.cell? ⟨wr.heap.size, 3, none⟩ = some (.slice ua ks.length uc) := (grow_cell hgrow2 hop x3 hPB))
                    | (go_at_call 55; refine hIH.mono ?_; rintro x w3 ⟨ov3, ol3, ok3, rfl, hown3, hb3, hl3, hok3, hbad3⟩))
                  have HN : Hid ((ok3 = true → ol3 = ol ++ txtL (prL vs) (ts.take (i + 1))) ∧ (ok3 = false → 65536 < ol.length + (txtL (prL vs) ts).length)) := by
                    refine ⟨fun h => ?_, fun h => ?_⟩
                    · rw [HOZ.out, hok3 h]
                    · have h1 := hbad3 h
                      have h2 := HLn.out
                      rw [HOZ.out, List.length_append] at h2
                      omega
                  go_roundw
                  case rel => exact ⟨i + 1, ol3, ok3, by go_num, rfl, by omega, hown3, hb2.trans hb3, hl3, HN⟩
                  case measure => simp [intOf]; omega
              | false =>
                have hLd2 : L = S := by rw [hLd]; rfl
                have htk2 : tk = false := by rw [htk]; rfl
                have HTZ : Hid (txtL (prL vs) (ts.take (i + 1)) = txtL (prL vs) (ts.take i) ++ L) := by
                  unfold Hid; rw [HTX.out, HTQ.out, htk2]; rw [if_neg (by decide), List.append_nil]
                clear hbS hb5 hb3 hLd htk htk2 HTQ HTX HTP
                replace hLd2 := hLd2.symm
                subst hLd2
                go_upto_region 12 with fail
                have HLn : Hid ((ol ++ txtL (prL vs) (ts.take (i + 1))).length ≤ ol.length + (txtL (prL vs) ts).length) := by
                  unfold Hid; rw [List.length_append]; have := HLE.out; omega
                have HOZ : Hid (ol ++ txtL (prL vs) (ts.take (i + 1)) = ol1 ++ S) := by
                  unfold Hid; rw [HTZ.out, HOL.out]; simp only [List.append_assoc]
                clear HTZ HLE HOL
                obtain ⟨sn, hsn⟩ : ∃ sn, ol1.length + S.length = sn := ⟨_, rfl⟩
                have wl : IntKind.i64.wrap ((ol1.length : Int) + (S.length : Int)) = (sn : Int) := by rw [wrap_small _ (by omega) (by omega)]; omega
                by_cases hgt : 65536 < sn
                · have wg : (65536 : Int) < (sn : Int) := by omega
                  go_wp2
                  go_ret2
                  exact ⟨_, ol1, false, rfl, hop, hbp, hol1, fun h => (by cases h), fun _ => by
                    have h1 := HLn.out
                    rw [HOZ.out] at h1
                    simp only [List.length_append] at h1
                    omega⟩
                · have wg : ¬ (65536 : Int) < (sn : Int) := by omega
                  have hln : (ol1 ++ S).length ≤ 65536 := by rw [List.length_append]; omega
                  go_wp2_with (at_builtin; refine Lib.wpList_append_own_string _ rfl _ _ 37 9 rfl B 5 i0 Tryz.underlying37 Tryz.underlying9 hi hz0 hz1 hz2 (.slice oa ol1.length oc) ol1.length (Lib.byteCells ol1) rfl hop (bs S) rfl (by rw [size_bs]; rw [List.length_append] at hln; unfold maxLen; omega) (by rw [size_bs]; rw [List.length_append] at hln; omega) (Nat.le_trans hB hbp.size) ?_; intro v2 w2 hown2 hgrow2 _; have hb2 : Below B W w2 := hbp.grown hgrow2 (Nat.le_trans hB hbp.size) (fun j hj => (own_ge8 hop j hj)); have hown2' : w2.ownsRow B 5 1 v2 (ol1 ++ S).length (Lib.byteCells (ol1 ++ S)) := own_app8 hown2)
                  have HN : Hid ((true = true → ol1 ++ S = ol ++ txtL (prL vs) (ts.take (i + 1))) ∧ (true = false → 65536 < ol.length + (txtL (prL vs) ts).length)) := ⟨fun _ => HOZ.out.symm, fun h => by cases h⟩
                  go_roundw
                  case rel => exact ⟨i + 1, ol1 ++ S, true, by go_num, rfl, by omega, hown2', hb2, hln, HN⟩
                  case measure => simp [intOf]; omega
            | false =>
              cases bS with
              | true =>
                have hLd2 : L = S := by rw [hLd]; rfl
                have htk2 : tk = false := by rw [htk]; rfl
                have HTZ : Hid (txtL (prL vs) (ts.take (i + 1)) = txtL (prL vs) (ts.take i) ++ L) := by
                  unfold Hid; rw [HTX.out, HTQ.out, htk2]; rw [if_neg (by decide), List.append_nil]
                clear hbS hb5 hb3 hLd htk htk2 HTQ HTX HTP
                replace hLd2 := hLd2.symm
                subst hLd2
                go_upto_region 12 with fail
                have HLn : Hid ((ol ++ txtL (prL vs) (ts.take (i + 1))).length ≤ ol.length + (txtL (prL vs) ts).length) := by
                  unfold Hid; rw [List.length_append]; have := HLE.out; omega
                have HOZ : Hid (ol ++ txtL (prL vs) (ts.take (i + 1)) = ol1 ++ S) := by
                  unfold Hid; rw [HTZ.out, HOL.out]; simp only [List.append_assoc]
                clear HTZ HLE HOL
                obtain ⟨sn, hsn⟩ : ∃ sn, ol1.length + S.length = sn := ⟨_, rfl⟩
                have wl : IntKind.i64.wrap ((ol1.length : Int) + (S.length : Int)) = (sn : Int) := by rw [wrap_small _ (by omega) (by omega)]; omega
                by_cases hgt : 65536 < sn
                · have wg : (65536 : Int) < (sn : Int) := by omega
                  go_wp2
                  go_ret2
                  exact ⟨_, ol1, false, rfl, hop, hbp, hol1, fun h => (by cases h), fun _ => by
                    have h1 := HLn.out
                    rw [HOZ.out] at h1
                    simp only [List.length_append] at h1
                    omega⟩
                · have wg : ¬ (65536 : Int) < (sn : Int) := by omega
                  have hln : (ol1 ++ S).length ≤ 65536 := by rw [List.length_append]; omega
                  go_wp2_with (at_builtin; refine Lib.wpList_append_own_string _ rfl _ _ 37 9 rfl B 5 i0 Tryz.underlying37 Tryz.underlying9 hi hz0 hz1 hz2 (.slice oa ol1.length oc) ol1.length (Lib.byteCells ol1) rfl hop (bs S) rfl (by rw [size_bs]; rw [List.length_append] at hln; unfold maxLen; omega) (by rw [size_bs]; rw [List.length_append] at hln; omega) (Nat.le_trans hB hbp.size) ?_; intro v2 w2 hown2 hgrow2 _; have hb2 : Below B W w2 := hbp.grown hgrow2 (Nat.le_trans hB hbp.size) (fun j hj => (own_ge8 hop j hj)); have hown2' : w2.ownsRow B 5 1 v2 (ol1 ++ S).length (Lib.byteCells (ol1 ++ S)) := own_app8 hown2)
                  have HN : Hid ((true = true → ol1 ++ S = ol ++ txtL (prL vs) (ts.take (i + 1))) ∧ (true = false → 65536 < ol.length + (txtL (prL vs) ts).length)) := ⟨fun _ => HOZ.out.symm, fun h => by cases h⟩
                  go_roundw
                  case rel => exact ⟨i + 1, ol1 ++ S, true, by go_num, rfl, by omega, hown2', hb2, hln, HN⟩
                  case measure => simp [intOf]; omega
              | false =>
                have hLd2 : L = S := by rw [hLd]; rfl
                have htk2 : tk = false := by rw [htk]; rfl
                have HTZ : Hid (txtL (prL vs) (ts.take (i + 1)) = txtL (prL vs) (ts.take i) ++ L) := by
                  unfold Hid; rw [HTX.out, HTQ.out, htk2]; rw [if_neg (by decide), List.append_nil]
                clear hbS hb5 hb3 hLd htk htk2 HTQ HTX HTP
                replace hLd2 := hLd2.symm
                subst hLd2
                go_upto_region 12 with fail
                have HLn : Hid ((ol ++ txtL (prL vs) (ts.take (i + 1))).length ≤ ol.length + (txtL (prL vs) ts).length) := by
                  unfold Hid; rw [List.length_append]; have := HLE.out; omega
                have HOZ : Hid (ol ++ txtL (prL vs) (ts.take (i + 1)) = ol1 ++ S) := by
                  unfold Hid; rw [HTZ.out, HOL.out]; simp only [List.append_assoc]
                clear HTZ HLE HOL
                obtain ⟨sn, hsn⟩ : ∃ sn, ol1.length + S.length = sn := ⟨_, rfl⟩
                have wl : IntKind.i64.wrap ((ol1.length : Int) + (S.length : Int)) = (sn : Int) := by rw [wrap_small _ (by omega) (by omega)]; omega
                by_cases hgt : 65536 < sn
                · have wg : (65536 : Int) < (sn : Int) := by omega
                  go_wp2
                  go_ret2
                  exact ⟨_, ol1, false, rfl, hop, hbp, hol1, fun h => (by cases h), fun _ => by
                    have h1 := HLn.out
                    rw [HOZ.out] at h1
                    simp only [List.length_append] at h1
                    omega⟩
                · have wg : ¬ (65536 : Int) < (sn : Int) := by omega
                  have hln : (ol1 ++ S).length ≤ 65536 := by rw [List.length_append]; omega
                  go_wp2_with (at_builtin; refine Lib.wpList_append_own_string _ rfl _ _ 37 9 rfl B 5 i0 Tryz.underlying37 Tryz.underlying9 hi hz0 hz1 hz2 (.slice oa ol1.length oc) ol1.length (Lib.byteCells ol1) rfl hop (bs S) rfl (by rw [size_bs]; rw [List.length_append] at hln; unfold maxLen; omega) (by rw [size_bs]; rw [List.length_append] at hln; omega) (Nat.le_trans hB hbp.size) ?_; intro v2 w2 hown2 hgrow2 _; have hb2 : Below B W w2 := hbp.grown hgrow2 (Nat.le_trans hB hbp.size) (fun j hj => (own_ge8 hop j hj)); have hown2' : w2.ownsRow B 5 1 v2 (ol1 ++ S).length (Lib.byteCells (ol1 ++ S)) := own_app8 hown2)
                  have HN : Hid ((true = true → ol1 ++ S = ol ++ txtL (prL vs) (ts.take (i + 1))) ∧ (true = false → 65536 < ol.length + (txtL (prL vs) ts).length)) := ⟨fun _ => HOZ.out.symm, fun h => by cases h⟩
                  go_roundw
                  case rel => exact ⟨i + 1, ol1 ++ S, true, by go_num, rfl, by omega, hown2', hb2, hln, HN⟩
                  case measure => simp [intOf]; omega
      · have d1 : ¬ (i : Int) < (ts.length : Int) := by omega
        have HX : Hid _ := HT.out.1 rfl
        have HO : Hid _ := hown1
        clear HT hown1
        obtain rfl : i = ts.length := by omega
        go_wp2
        go_ret2
        exact ⟨_, ol1, true, rfl, HO.out, hb1, hol1, fun _ => by rw [HX.out, List.take_length], fun h => by cases h⟩
end Go.Proofs.YtjmekcakiacdfabGreatDoor
