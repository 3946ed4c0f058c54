/- Package glob's Out: the last rule that meets a path says whether it is left out. -/
import Derived.Test.YthkbhcefckbcnaaGreatDoorBackw
import Derived.Test.YthkbhcefckbcnaaGreatDoorParseL
import Derived.Stop.RegionWithIn
namespace Go.Proofs.YthkbhcefckbcnaaGreatDoor
open Go Go.RowKit Go.Shelf
attribute [local go_sem] Oper.semAt_some

/-- What the last rule that takes the names says. -/
def outB (rs : List Rule) (xs : List ByteArray) : Bool := match rs.reverse.find? fun r => takeP r.2 xs with | none => false | some r => !r.1
/-- Rules as a list of this package has them. -/
def Fine (rs : List Rule) : Prop := rs.length ≤ 256 ∧ ∀ r ∈ rs, Short r.2 ∧ r.2.length ≤ 1099511627776

theorem out_none {rs : List Rule} {xs : List ByteArray} (h : ∀ i ∈ (List.range rs.length).reverse, ∀ r, rs[i]? = some r → takeP r.2 xs = false) : outB rs xs = false := by
  unfold outB
  rw [List.find?_eq_none.2 ?_]
  intro r hr
  obtain ⟨i, hi⟩ := List.getElem?_of_mem (List.mem_reverse.1 hr)
  have := h i (by simp; exact (List.getElem?_eq_some_iff.1 hi).1) r hi
  simp [this]
theorem out_at {rs : List Rule} {xs : List ByteArray} {j : Nat} {r : Rule} (hj : rs[j]? = some r) (ht : takeP r.2 xs = true) (h : ∀ i ∈ backs rs.length (j + 1), ∀ r, rs[i]? = some r → takeP r.2 xs = false) : outB rs xs = !r.1 := by
  unfold outB
  have hlt := (List.getElem?_eq_some_iff.1 hj).1
  have e : rs.reverse = (rs.drop (j + 1)).reverse ++ (r :: (rs.take j).reverse) := by
    have e1 : rs = rs.take j ++ (r :: rs.drop (j + 1)) := by
      rw [show r = rs[j] from ((List.getElem?_eq_some_iff.1 hj).2).symm, ← List.drop_eq_getElem_cons hlt, List.take_append_drop]
    conv => lhs; rw [e1]
    simp
  rw [e, List.find?_append, List.find?_eq_none.2 ?_, Option.none_or, List.find?_cons, ht]
  intro q hq
  obtain ⟨i, hi⟩ := List.getElem?_of_mem (List.mem_reverse.1 hq)
  rw [List.getElem?_drop] at hi
  have hl := (List.getElem?_eq_some_iff.1 hi).1
  have := h (j + 1 + i) (by
    unfold backs
    rw [List.mem_reverse]
    refine List.mem_of_getElem? (i := i) ?_
    rw [List.getElem?_drop]
    exact List.getElem?_range hl) q hi
  simp [this]

theorem results_cell1 {P : Program} {fn : Func} {p : Tmp} (h : fn.results = #[.cell p 4]) (tmps : Array Value) (w : World) (g : Nat) (b : Bool)
    (hp : tmps.getD p undef = .pointer (some ⟨g, 0, none⟩)) (hg : w.cell? ⟨g, 0, none⟩ = some (.bool b)) (hu : P = Tryz.prog) :
    (results fn tmps).run P w = .ok (.bool b) w := by
  subst hu
  have hp' : tmps[p]?.getD undef = .pointer (some ⟨g, 0, none⟩) := by simpa using hp
  simp [results, h, hp', asAddr]
  go_simp

theorem prefix_backs {k x : Nat} {pre : List Nat} (h : pre ++ [x] <+: (List.range k).reverse) : x < k ∧ pre = backs k (x + 1) := by
  obtain ⟨t, ht⟩ := h
  have e : List.range k = t.reverse ++ (x :: pre.reverse) := by rw [← List.reverse_reverse (List.range k), ← ht]; simp
  have hk : t.length < k := by have := congrArg List.length e; simp at this; omega
  have hx : (List.range k)[t.length]? = some x := by rw [e]; simp
  rw [List.getElem?_range hk] at hx
  have hx2 : t.length = x := Option.some.inj hx
  refine ⟨by omega, ?_⟩
  unfold backs
  rw [e, ← hx2, List.drop_append, List.drop_eq_nil_of_le (by simp)]
  simp

theorem fold2 (T : Array Value) (p q : Nat) (a b : Value) : Array.foldl (fun (tmps : Array Value) (x : Nat × Value) => tmps.setIfInBounds x.1 x.2) T (#[p, q].zip #[a, b]) = (T.setIfInBounds p a).setIfInBounds q b := by simp

theorem row_slice {W : World} {base : Nat} {u : Value} {n : Nat} {xs : List Value} {e sz : Nat} (h : W.ownsRow base e sz u n xs) : ∃ o c, u = .slice o n c := by
  rcases h.2 with ⟨rfl, h0⟩ | ⟨g, cap, cur, rfl, _⟩
  · exact ⟨_, _, by rw [h0]⟩
  · exact ⟨_, _, rfl⟩

/-- Where a list's rules lie, one by one. -/
theorem rules_at {W : World} {l : Nat} {rs : List Rule} (h : ListIn W l rs) : ∃ (o : Option Addr) (cap g : Nat) (ro : Nat → Option Addr) (rl rc : Nat → Nat), W.cell? ⟨l, 0, none⟩ = some (.slice o rs.length cap) ∧ l < W.heap.size ∧
    ∀ i r, rs[i]? = some r → o = some ⟨g, 0, none⟩ ∧ g < W.heap.size ∧ W.cell? ⟨g, i * 2, none⟩ = some (.bool r.1) ∧ W.cell? ⟨g, i * 2 + 1, none⟩ = some (.slice (ro i) (rl i) (rc i)) ∧ PcsIn W 0 (.slice (ro i) (rl i) (rc i)) r.2 := by
  obtain ⟨v, cs, h1, h2, h3⟩ := h
  have hsl : ∀ (u : Value) (ps : List Pc), PcsIn W 0 u ps → ∃ o n c, u = .slice o n c := fun u ps hu => by
    obtain ⟨cs2, _, ho⟩ := hu
    rcases ho.2 with ⟨rfl, h0⟩ | ⟨g, cap, cur, rfl, _⟩
    · exact ⟨_, _, _, rfl⟩
    · exact ⟨_, _, _, rfl⟩
  have hex : ∀ i, ∃ x : Option Addr × Nat × Nat, ∀ r, rs[i]? = some r → cs[2 * i]? = some (.bool r.1) ∧ cs[2 * i + 1]? = some (.slice x.1 x.2.1 x.2.2) ∧ PcsIn W 0 (.slice x.1 x.2.1 x.2.2) r.2 := fun i => by
    cases hr : rs[i]? with
    | none => exact ⟨(none, 0, 0), fun r e => by cases e⟩
    | some r =>
      obtain ⟨u, hu, c1, c2⟩ := h2.at hr
      obtain ⟨o, n, c, rfl⟩ := hsl u _ hu
      exact ⟨(o, n, c), fun r2 e => by cases e; exact ⟨c1, c2, hu⟩⟩
  have hch := fun i => (Classical.choose_spec (hex i))
  generalize (fun i => Classical.choose (hex i)) = X at hch
  rcases h3.2 with ⟨rfl, h0⟩ | ⟨g, cap, cur, rfl, hg, hgb, rest⟩
  · refine ⟨none, 0, 0, fun _ => none, fun _ => 0, fun _ => 0, by rw [h0]; exact h1.cell, h1.lt, fun i r hr => ?_⟩
    have := (List.getElem?_eq_some_iff.1 hr).1
    omega
  · refine ⟨some ⟨g, 0, none⟩, cap, g, fun i => (Classical.choose (hex i)).1, fun i => (Classical.choose (hex i)).2.1, fun i => (Classical.choose (hex i)).2.2, h1.cell, h1.lt, fun i r hr => ?_⟩
    obtain ⟨c1, c2, c3⟩ := Classical.choose_spec (hex i) r hr
    refine ⟨rfl, (Array.getElem?_eq_some_iff.1 hgb).1, row_cell h3 _ _ (by rw [Nat.mul_comm]; exact c1), row_cell h3 _ _ (by rw [Nat.mul_comm]; exact c2), c3⟩

set_option maxRecDepth 100000 in
set_option maxHeartbeats 8000000 in
theorem out_p (l : Nat) (rs : List Rule) (p : ByteArray) (w : World) (hl : ListIn w l rs) (hf : Fine rs) (hp : p.size ≤ 1099511627775) :
    Calls Tryz.prog 18 #[.pointer (some ⟨l, 0, none⟩), .string p] w fun e w' => e = .returned (.bool (outB rs (namesB p))) ∧ Below w.heap.size w w' := by
  obtain ⟨n, hn⟩ : ∃ n : Nat, n = 3 := ⟨3, rfl⟩
  clear hn
  refine (callsIn_wide (n := n)).1 ?_
  refine callsIn_of_wp_marks Tryz.func18 rfl trivial ?_ rfl
  simp only [Tryz.ntmps18, List.size_toArray, List.length_cons, List.length_nil, Nat.reduceAdd, Nat.reduceSub, Array.replicate_succ, Array.replicate_zero, List.push_toArray, List.append_toArray, List.nil_append, List.cons_append]
  obtain ⟨o, cap, g, ro, rl, rc, hcl, hll, hat⟩ := rules_at hl
  have hb0 : Below w.heap.size w (w.alloc (.cells #[.bool false] 4)) := (Below.refl _ w).alloc (Nat.le_refl _) _
  gi_wp2_with (refine ⟨trivial, wd _, ?_⟩; gi_at_call 40; refine (callsIn_wide.2 (namesOf_p p _ (by omega))).mono ?_; rintro e w1 ⟨u, rfl, ho, hb⟩; obtain ⟨ou, cu, rfl⟩ := row_slice ho; have hb1 := hb0.trans (hb.mono hb0.size); have hc1 : w1.cell? ⟨l, 0, none⟩ = some (.slice o rs.length cap) := (hb1.cell (p := ⟨l, 0, none⟩) hll).trans hcl; have hl1 : l < w1.heap.size := Nat.lt_of_lt_of_le hll hb1.size)
  have hbw : Below w.heap.size w (w1.alloc (.cells #[.slice ou (namesB p).length cu] 46)) := hb1.alloc hb1.size _
  refine ⟨trivial, wd _, (callsIn_wide.2 (backward_p o rs.length cap _)).mono ?_⟩
  rintro e w2 ⟨rfl, rfl⟩
  have sz1 := hb.size
  rw [World.size_alloc] at sz1
  obtain ⟨Wb, hWb⟩ : ∃ Wb, ((w1.alloc (.cells #[.slice ou (namesB p).length cu] 46)).alloc (.cells #[.slice o rs.length cap] 51)) = Wb := ⟨_, rfl⟩
  have szb : Wb.heap.size = w1.heap.size + 2 := by rw [← hWb]; simp
  have bwb : Below w.heap.size w Wb := by rw [← hWb]; exact hbw.alloc hbw.size _
  have b1b : Below w1.heap.size w1 Wb := by rw [← hWb]; exact ((Below.refl _ w1).alloc (Nat.le_refl _) _).alloc (by simp) _
  have BR : Boxed Wb w.heap.size 4 (.bool false) := boxed_below (boxed_below (Boxed.new w _ _) hb) b1b
  have BN : Boxed Wb w1.heap.size 46 (.slice ou (namesB p).length cu) := by rw [← hWb]; exact (Boxed.new w1 _ _).alloc _
  have BS : Boxed Wb (w1.heap.size + 1) 51 (.slice o rs.length cap) := by
    have h := Boxed.new (w1.alloc (.cells #[.slice ou (namesB p).length cu] 46)) 51 (.slice o rs.length cap); rw [World.size_alloc] at h; rw [← hWb]; exact h
  have HN : Hid (Wb.ownsRow w.heap.size 9 1 (.slice ou (namesB p).length cu) (namesB p).length (strs (namesB p))) := owns_le2 (own_below ho b1b) (by simp)
  have HA : Hid (∀ i r, rs[i]? = some r → o = some ⟨g, 0, none⟩ ∧ g < Wb.heap.size ∧ Wb.cell? ⟨g, i * 2, none⟩ = some (.bool r.1) ∧ Wb.cell? ⟨g, i * 2 + 1, none⟩ = some (.slice (ro i) (rl i) (rc i)) ∧ PcsIn Wb 0 (.slice (ro i) (rl i) (rc i)) r.2) := fun i r hr => by
    obtain ⟨h1, h2, h3, h4, h5⟩ := hat i r hr
    exact ⟨h1, Nat.lt_of_lt_of_le h2 bwb.size, (bwb.cell (p := ⟨g, i * 2, none⟩) h2).trans h3, (bwb.cell (p := ⟨g, i * 2 + 1, none⟩) h2).trans h4, h5.turn bwb⟩
  rw [World.size_alloc]
  simp only [hWb]
  clear hWb hat hb0 hb1 hc1 hcl hbw ho hb b1b hl
  gi_wp2
  refine range_lawP (α := Nat) (xs := (List.range rs.length).reverse) (n₀ := Wb.heap.size) (va := fun i => #[.int .i64 (i : Nat), ruleV (((rs[i]?).map (·.1)).getD false, .slice (ro i) (rl i) (rc i))]) rfl (enters_of Tryz.func71 (by kernel_rfl) rfl)
    (fun _ => rfl)
    (back_gives g cap rs.length (w1.heap.size + 1) Wb.heap.size o (fun i => (((rs[i]?).map (·.1)).getD false, .slice (ro i) (rl i) (rc i))) Wb BS.cell (by omega) hf.1 (fun i hi => by
      obtain ⟨r, hr⟩ : ∃ r, rs[i]? = some r := ⟨_, List.getElem?_eq_getElem hi⟩
      obtain ⟨h1, h2, h3, h4, _⟩ := HA.out i r hr
      exact ⟨h1, h2, by rw [h3, hr]; rfl, h4⟩) (Nat.le_refl _)) (Nat.le_refl _) (Below.refl _ _)
    (fun pre W => Below Wb.heap.size Wb W ∧ ∀ i ∈ pre, ∀ r, rs[i]? = some r → takeP r.2 (namesB p) = false)
    (fun c _ W => c = .ret ∧ Boxed W w.heap.size 4 (.bool (outB rs (namesB p))) ∧ Below w.heap.size w W)
    (fun s A B row hs hg hr => ⟨blw hs.1 hg hr (Nat.le_refl _) (Nat.le_refl _), hs.2⟩)
    (fun c s A B row hs hg hr => ⟨hs.1, bx hs.2.1 hg hr, blw hs.2.2 hg hr (Nat.le_refl _) bwb.size⟩)
    ⟨Below.refl _ _, fun i hi => by cases hi⟩
    (fun i => .cells #[.bool (((rs[i]?).map (·.1)).getD false), .slice (ro i) (rl i) (rc i)] 78)
    (fun i k => { tmps := #[.pointer (some ⟨l, 0, none⟩), .string p, undef, undef, .pointer (some ⟨w.heap.size, 0, none⟩), .pointer (some ⟨w1.heap.size, 0, none⟩), undef, .pointer (some ⟨k, 0, none⟩), .string p, .slice ou (namesB p).length cu, .pointer (some ⟨l, 0, none⟩), .pointer (some ⟨l, 0, none⟩), .pointer (some ⟨l, 0, none⟩), .slice o rs.length cap, .func (.func 71) #[] #[.pointer (some ⟨w1.heap.size + 1, 0, none⟩)], .int .i64 (i : Nat), ruleV (((rs[i]?).map (·.1)).getD false, .slice (ro i) (rl i) (rc i)), undef, undef, undef, undef, undef, undef, undef], defers := [] }) ?assign ?body ?done ?stop
  case assign =>
    intro m lx x W K hK
    simp only [ruleV] at hK ⊢
    rw [fold2]
    gi_wp2
    exact hK
  case body =>
    rintro m l2 pre i k W ⟨hBW, hpre⟩ hx hk hob
    obtain ⟨hi, rfl⟩ := prefix_backs hx
    obtain ⟨r, hr⟩ : ∃ r, rs[i]? = some r := ⟨_, List.getElem?_eq_getElem hi⟩
    obtain ⟨h1, h2, h3, h4, h5⟩ := HA.out i r hr
    have h6 := h5.turn hBW
    have hno := own_below HN.out hBW
    have cN := (boxed_below BN hBW).cell
    have ck0 : W.cell? ⟨k, 0, none⟩ = some (.bool r.1) := by simp [World.cell?, hob, hr]
    have ck1 : W.cell? ⟨k, 1, none⟩ = some (.slice (ro i) (rl i) (rc i)) := by simp [World.cell?, hob]
    have hkW : k < W.heap.size := (Array.getElem?_eq_some_iff.1 hob).1
    have hr0 : rs[i]? = some r := hr
    have HP : Hid _ := hpre
    have HR : Hid _ := hr
    have hfr := hf.2 r (List.mem_of_getElem? hr)
    have BRW := boxed_below BR hBW
    have hcall := takeNames_p r.2 0 w.heap.size _ _ (namesB p) W h6 hfr.1 hno hfr.2 (by have h7 := wt_names p; have h8 := length_wt (namesB p); omega) (fun x hx => by have := names_size p x hx; omega)
    have hnz : Wb.heap.size ≤ W.heap.size := hBW.size
    clear h2 h3 h4 h5 h6 hno hx hpre hr hfr hob
    cases ht : takeP r.2 (namesB p)
    · rw [ht] at hcall
      have HT : Hid _ := ht
      clear ht
      gi_wp2
      refine ⟨trivial, wd _, (callsIn_wide.2 hcall).mono ?_⟩
      rintro e w3 ⟨rfl, hb3⟩
      gi_wp2
      refine ⟨⟨hBW.trans (hb3.mono hnz), fun j hj r2 hr2 => ?_⟩, hb3.mono hnz, keeps_of_below hb3⟩
      rcases List.mem_append.1 hj with hj | hj
      · exact HP.out j hj r2 hr2
      · obtain rfl : j = i := by simpa using hj
        have e2 : r = r2 := Option.some.inj (HR.out.symm.trans hr2)
        subst e2
        exact HT.out
    · rw [ht] at hcall
      have HO : Hid (outB rs (namesB p) = !r.1) := out_at hr0 ht HP.out
      clear ht
      gi_wp2
      refine ⟨trivial, wd _, (callsIn_wide.2 hcall).mono ?_⟩
      rintro e w3 ⟨rfl, hb3⟩
      have BR3 := boxed_below BRW hb3
      have f3 := BR3.frozen
      have c3 := BR3.cell
      have ck3 : w3.cell? ⟨k, 0, none⟩ = some (.bool r.1) := (hb3.cell (p := ⟨k, 0, none⟩) hkW).trans ck0
      gi_wp2
      refine ⟨⟨rfl, by rw [HO.out]; exact BR3.set _, ?_⟩, (keeps_of_below hb3).trans (keeps_set _ _ _)⟩
      exact (bwb.trans ((hBW.trans (hb3.mono hnz)).mono bwb.size)).setCell (p := ⟨w.heap.size, 0, none⟩) (Nat.le_refl _) _
  case done =>
    rintro D W hD ⟨hBW, hpre⟩ hK
    have HO : Hid (outB rs (namesB p) = false) := out_none hpre
    have BRW := boxed_below BR hBW
    have c3 := BRW.cell
    have f3 := BRW.frozen
    clear hpre
    gi_wp2
    have hK2 : (W.setCell ⟨w.heap.size, 0, none⟩ (.bool false)).heap[D]? = some (.deferred (some [])) := (keeps_set (B := 0) W _ _).same D _ (Nat.zero_le _) hK rfl
    refine ⟨by simp, .inl ⟨_, _, rfl, run_takeDeferred hK2, ?_⟩⟩
    have hbW : Below w.heap.size w W := bwb.trans (hBW.mono bwb.size)
    refine ⟨_, results_cell1 rfl _ _ w.heap.size false rfl (boxed_put _ (BRW.set (.bool false)) hK2 rfl).cell rfl, by rw [HO.out], ?_⟩
    exact (Below.setCell (p := ⟨w.heap.size, 0, none⟩) hbW (Nat.le_refl _) _).trans (putLoop_below _ hK2 (by omega))
  case stop =>
    rintro D c pre W hD hpre ⟨rfl, hbx, hBW⟩ hK
    gi_wp2
    refine ⟨by simp, .inl ⟨_, _, rfl, run_takeDeferred hK, ?_⟩⟩
    exact ⟨_, results_cell1 rfl _ _ w.heap.size _ rfl (boxed_put _ hbx hK rfl).cell rfl, rfl, hBW.trans (putLoop_below _ hK (by omega))⟩
end Go.Proofs.YthkbhcefckbcnaaGreatDoor
