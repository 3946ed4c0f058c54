/- Package glob's readPattern. -/
import Derived.Test.YthkbhcefckbcnaaGreatDoorPiece
import Derived.Test.YthkbhcefckbcnaaGreatDoorOwnM
import Derived.Test.YthkbhcefckbcnaaGreatDoorNamesM
namespace Go.Proofs.YthkbhcefckbcnaaGreatDoor
open Go Go.RowKit Go.Shelf
attribute [local go_sem] Oper.semAt_some

/-- No row of parts lies there. -/
def NoParts (A : World) (row : Option Nat) : Prop := ∀ k, row = some k → ∀ cur fr, A.heap[k]? ≠ some (.cells cur 174 fr)
theorem NoParts.none (A : World) : NoParts A none := fun _ e => by cases e
theorem PartsIn.turn {A B : World} {row : Option Nat} {v : Value} {ps : List (Taker UInt8)} (h : PartsIn A v ps) (hg : A.grownBy B row) (hn : NoParts A row) : PartsIn B v ps := by
  obtain ⟨cs, hr, ho⟩ := h
  refine ⟨cs, hr, ho.kept hg ?_⟩
  rcases ho.2 with ⟨rfl, _⟩ | ⟨g, cap, cur, rfl, _, hgb, _⟩
  · exact .inl rfl
  · exact .inr fun e => hn g (by rw [← e]; rfl) cur (0, 0) hgb
theorem PcIn.turn {A B : World} {row : Option Nat} {v : Value} {pc : Pc} (h : PcIn A v pc) (hg : A.grownBy B row) (hn : NoParts A row) : PcIn B v pc := by
  cases pc with
  | none => exact h
  | some ps => exact PartsIn.turn h hg hn
/-- How a row of cells tells pieces. -/
def PcsRep (W : World) : List Pc → List Value → Prop
  | [], cs => cs = []
  | p :: ps, cs => ∃ v rest, PcIn W v p ∧ v.oneCell' = true ∧ cs = .bool p.isNone :: v :: rest ∧ PcsRep W ps rest
theorem PcsRep.turn {A B : World} {row : Option Nat} (hg : A.grownBy B row) (hn : NoParts A row) : ∀ {ps : List Pc} {cs : List Value}, PcsRep A ps cs → PcsRep B ps cs
  | [], _, h => h
  | _ :: _, _, ⟨v, rest, hv, h1, e, hr⟩ => ⟨v, rest, hv.turn hg hn, h1, e, hr.turn hg hn⟩
theorem PcsRep.snoc {W : World} : ∀ {ps : List Pc} {cs : List Value} {p : Pc} {v : Value}, PcsRep W ps cs → PcIn W v p → v.oneCell' = true → PcsRep W (ps ++ [p]) (cs ++ [.bool p.isNone, v])
  | [], cs, p, v, h, hp, h1 => by
    have e : cs = [] := h
    subst e
    exact ⟨v, [], hp, h1, rfl, rfl⟩
  | q :: ps, cs, p, v, ⟨u, rest, hu, hu1, e, hr⟩, hp, h1 => ⟨u, rest ++ [.bool p.isNone, v], hu, hu1, by rw [e]; simp, hr.snoc hp h1⟩
theorem PcsRep.length {W : World} : ∀ {ps : List Pc} {cs : List Value}, PcsRep W ps cs → cs.length = ps.length * 2
  | [], cs, h => by have e : cs = [] := h; subst e; rfl
  | q :: ps, cs, ⟨u, rest, hu, hu1, e, hr⟩ => by have := hr.length; rw [e]; simp; omega
theorem PcsRep.at {W : World} : ∀ {ps : List Pc} {cs : List Value} {i : Nat} {p : Pc}, PcsRep W ps cs → ps[i]? = some p → ∃ v, PcIn W v p ∧ cs[2 * i]? = some (.bool p.isNone) ∧ cs[2 * i + 1]? = some v
  | [], _, _, _, _, h => by simp at h
  | q :: ps, cs, 0, p, ⟨u, rest, hu, _, e, hr⟩, h => by
    simp at h; subst h; subst e
    exact ⟨u, hu, rfl, rfl⟩
  | q :: ps, cs, i + 1, p, ⟨u, rest, hu, _, e, hr⟩, h => by
    obtain ⟨v, hv, h1, h2⟩ := hr.at (i := i) (by simpa using h)
    subst e
    exact ⟨v, hv, by rw [show 2 * (i + 1) = 2 * i + 1 + 1 by omega]; simpa using h1, by rw [show 2 * (i + 1) + 1 = 2 * i + 1 + 1 + 1 by omega]; simpa using h2⟩
/-- The slice v holds these pieces; what it stands in has come behind base. -/
def PcsIn (W : World) (base : Nat) (v : Value) (ps : List Pc) : Prop := ∃ cs, PcsRep W ps cs ∧ W.ownsRow base 110 2 v ps.length cs

theorem grown_of_below {W W2 : World} (hb : Below W.heap.size W W2) : W.grownBy W2 none := ⟨hb.os, hb.tape, hb.output, hb.size, fun k hk _ => hb.block k hk⟩
/-- What an append of one's own to a row of pieces turns, and what it leaves. -/
theorem app_size {W w1 : World} {tmp : Obj} {v v2 : Value} {N base e t k m sz : Nat} {xs ys : List Value} (hv : Boxed W N t v) (hrow : W.ownsRow base e sz v k xs) (hN : N < base) (hbW : base ≤ W.heap.size) (hown2 : w1.ownsRow base e sz v2 m ys) (hg : (W.alloc tmp).grownBy w1 v.ownBlock) :
    Boxed w1 N t v ∧ Boxed (w1.setCell ⟨N, 0, none⟩ v2) N t v2 ∧ (w1.setCell ⟨N, 0, none⟩ v2).ownsRow base e sz v2 m ys ∧ Below N W (w1.setCell ⟨N, 0, none⟩ v2) ∧ (∀ B, KeepsFrom B W (w1.setCell ⟨N, 0, none⟩ v2)) ∧ (∀ j, j < base → j ≠ N → (w1.setCell ⟨N, 0, none⟩ v2).heap[j]? = W.heap[j]?) := by
  have ho := own_ge hrow
  have hlt := hv.lt
  have hv1 : Boxed w1 N t v := (hg.block N (by simp; omega) (fun e => by have := (ho _ e).1; omega)).trans ((Below.heap_alloc W tmp N hlt).trans hv)
  refine ⟨hv1, Boxed.set _ hv1, own_set _ hown2 hN, ?_, fun B => ⟨?_, fun j o _ hj hc => ?_⟩, fun j hj hne => app_other _ hg (by omega) (fun e => by have := (ho _ e).1; omega) hne⟩
  · exact (((Below.refl N W).alloc (by omega) tmp).grown hg (by simp; omega) (fun j e => by have := (ho j e.symm).1; omega)).setCell (p := ⟨N, 0, none⟩) (Nat.le_refl _) _
  · have h1 := hg.size
    have h2 := (KeepsOthers.setCell w1 ⟨N, 0, none⟩ v2).size
    simp at h1; omega
  · have hjl := (Array.getElem?_eq_some_iff.1 hj).1
    refine (app_other _ hg hjl (fun e => ?_) (fun e => ?_)).trans hj
    · obtain ⟨_, cur, hcur⟩ := ho _ e
      rw [hj] at hcur; cases hcur; cases hc
    · subst e
      rw [show W.heap[j]? = _ from hv] at hj; cases hj; cases hc

theorem owns_le2 {w : World} {b b2 e size n : Nat} {v : Value} {xs : List Value} (h : w.ownsRow b e size v n xs) (hb : b2 ≤ b) : w.ownsRow b2 e size v n xs := by
  refine ⟨h.1, ?_⟩
  rcases h.2 with hn | ⟨g, cap, cur, rfl, hg, rest⟩
  · exact .inl hn
  · exact .inr ⟨g, cap, cur, rfl, by omega, rest⟩
def ReadPost (s : ByteArray) (w : World) (e : Ending) (w' : World) : Prop :=
  ((∃ (ps : List Pc) (v : Value), patOf s = some ps ∧ PcsIn w' w.heap.size v ps ∧ e = .returned (.tuple #[v, .nilIface])) ∨
   (patOf s = none ∧ e = .returned (.tuple #[.slice none 0 0, errP]))) ∧ Below w.heap.size w w'
theorem info_pieceAll : (Tryz.prog.info? 110).map (fun i => (i.zero, i.size, i.bytes)) = some (some (.agg #[.bool false, .slice none 0 0]), 2, 32) := by kernel_rfl

set_option maxRecDepth 100000 in
set_option maxHeartbeats 4000000 in
theorem readPattern_long (s : ByteArray) (w : World) (hs : 1020 < s.size) (hz : s.size ≤ 1099511627776) : Calls Tryz.prog 58 #[.string s] w (ReadPost s w) := by
  have HS : Hid (patOf s = none) := by unfold Hid patOf; rw [if_neg (by omega)]
  have h1 : (1020 : Int) < (s.size : Int) := by omega
  go_enter Tryz.func58, Tryz.ntmps58
  go_wp2
  refine bodyPost_ret (v := .tuple #[.slice none 0 0, errP]) ?_ rfl ⟨.inr ⟨HS.out, rfl⟩, ((Below.refl _ w).alloc (Nat.le_refl _) _).alloc (by simp) _⟩
  simp [results, Tryz.f58, go_sem, errP]

set_option maxRecDepth 100000 in
set_option maxHeartbeats 8000000 in
theorem readPattern_short (s : ByteArray) (w : World) (hs : s.size ≤ 1020) : Calls Tryz.prog 58 #[.string s] w (ReadPost s w) := by
  have h1 : ¬ (1020 : Int) < (s.size : Int) := by omega
  obtain ⟨i0, hi, hz0, hz1, hz2⟩ := info_parts info_pieceAll
  obtain ⟨n, hn⟩ : ∃ n : Nat, n = 3 := ⟨3, rfl⟩
  clear hn
  refine (callsIn_wide (n := n)).1 ?_
  refine callsIn_of_wp_marks Tryz.func58 rfl trivial ?_ rfl
  simp only [Tryz.ntmps58, List.size_toArray, List.length_cons, List.length_nil, Nat.reduceAdd, Nat.reduceSub, Array.replicate_succ, Array.replicate_zero, List.push_toArray, List.append_toArray, List.nil_append, List.cons_append]
  gi_wp2_with (refine ⟨trivial, wd _, ?_⟩; gi_at_call 70; refine (callsIn_wide.2 (pieces_p _ _)).mono ?_; rintro e w' ⟨rfl, rfl⟩)
  obtain ⟨W0, hW0⟩ : ∃ W0, ((((w.alloc (.cells #[.slice none 0 0] 76)).alloc (.cells #[.nilIface] 28)).alloc (.cells #[.slice none 0 0] 76)).alloc (.cells #[.string s] 9)) = W0 := ⟨_, rfl⟩
  have hsz : W0.heap.size = w.heap.size + 4 := by rw [← hW0]; simp
  have hB0 : Below w.heap.size w W0 := by rw [← hW0]; exact ((((Below.refl _ w).alloc (Nat.le_refl _) _).alloc (by simp) _).alloc (by simp; omega) _).alloc (by simp; omega) _
  have c0 : Boxed W0 w.heap.size 76 (.slice none 0 0) := by rw [← hW0]; exact (((Boxed.new w _ _).alloc _).alloc _).alloc _
  have c1 : Boxed W0 (w.heap.size + 1) 28 .nilIface := by
    have h := Boxed.new (w.alloc (.cells #[.slice none 0 0] 76)) 28 .nilIface; rw [World.size_alloc] at h; rw [← hW0]; exact (h.alloc _).alloc _
  have c2 : Boxed W0 (w.heap.size + 1 + 1) 76 (.slice none 0 0) := by
    have h := Boxed.new ((w.alloc (.cells #[.slice none 0 0] 76)).alloc (.cells #[.nilIface] 28)) 76 (.slice none 0 0); rw [World.size_alloc, World.size_alloc] at h; rw [← hW0]; exact h.alloc _
  have c3 : Boxed W0 (w.heap.size + 1 + 1 + 1) 9 (.string s) := by
    have h := Boxed.new (((w.alloc (.cells #[.slice none 0 0] 76)).alloc (.cells #[.nilIface] 28)).alloc (.cells #[.slice none 0 0] 76)) 9 (.string s); rw [World.size_alloc, World.size_alloc, World.size_alloc] at h; rw [← hW0]; exact h
  rw [hW0]
  clear hW0
  have hwn := wt_names s
  refine range_lawD (xs := namesB s) (n₀ := w.heap.size) (d := 1) rfl (enters_of Tryz.func105 (by kernel_rfl) rfl)
    (pieces_gives s (w.heap.size + 1 + 1 + 1) w.heap.size _ (by omega) c3.cell (by omega)) (by omega) (Below.refl _ _)
    (fun pre W => ∃ (v : Value) (pcs : List Pc) (cs : List Value), allOf pre = some pcs ∧ Boxed W w.heap.size 76 (.slice none 0 0) ∧ Boxed W (w.heap.size + 1) 28 .nilIface ∧ Boxed W (w.heap.size + 1 + 1) 76 v ∧ W.ownsRow (w.heap.size + 7) 110 2 v pcs.length cs ∧ PcsRep W pcs cs ∧ Below w.heap.size w W)
    (fun c pre W => c = .ret ∧ allOf pre = none ∧ Boxed W w.heap.size 76 (.slice none 0 0) ∧ Boxed W (w.heap.size + 1) 28 errP ∧ Below w.heap.size w W)
    ?own1
    (fun c s A B row hs hg hr => ⟨hs.1, hs.2.1, bx hs.2.2.1 hg hr, bx hs.2.2.2.1 hg hr, blw hs.2.2.2.2 hg hr (Nat.le_refl _) (by omega)⟩)
    ⟨_, [], [], rfl, c0, c1, c2, World.ownsRow_nil _ _ _ _, rfl, hB0⟩
    (fun x => { tmps := #[.string s, undef, .pointer (some ⟨w.heap.size, 0, none⟩), .pointer (some ⟨w.heap.size + 1, 0, none⟩), .pointer (some ⟨w.heap.size + 1 + 1, 0, none⟩), .string x, undef, undef, .string s, .int .i64 s.size, .bool false, undef, .string s, .func (.func 105) #[] #[.pointer (some ⟨w.heap.size + 1 + 1 + 1, 0, none⟩)], .string x, undef, undef, undef, undef, undef, undef, undef, undef, undef, undef, undef, undef, undef, undef, undef, undef, undef], defers := [] }) ?assign ?body ?done ?stop
  case own1 =>
    rintro pre A B row ⟨v, pcs, cs, ha, h0, h1, h2, ho, hp, hB⟩ hg hr
    refine ⟨v, pcs, cs, ha, bx h0 hg hr, bx h1 hg hr, bx h2 hg hr, ho.kept hg ?_, hp.turn hg ?_, blw hB hg hr (Nat.le_refl _) (by omega)⟩
    · rcases ho.2 with ⟨rfl, _⟩ | ⟨g, cap, cur, rfl, _, hgb, _⟩
      · exact .inl rfl
      · refine .inr fun e => ?_
        obtain ⟨_, o, ho2, hc⟩ := hr g e.symm
        rw [hgb] at ho2; cases ho2; cases hc
    · intro k e cur fr hk
      obtain ⟨_, o, ho2, hc⟩ := hr k e
      rw [hk] at ho2; cases ho2; cases hc
  case assign =>
    intro m l x W K hK
    gi_wp2
    exact hK
  case body =>
    rintro m l pre x W ⟨v, pcs, cs, ha, h0, h1, h2, ho, hp, hB⟩ hx hsz2
    have hxw : x.size ≤ 1021 := by have h3 := wt_prefix hx; rw [wt_append] at h3; simp [wt] at h3; omega
    have hpl : pcs.length ≤ 1021 := by have h3 := allOf_length ha; have h4 := length_wt pre; have h5 := wt_prefix hx; rw [wt_append] at h5; omega
    have hcall := readPiece_p x W (by omega)
    have Ha : Hid (allOf pre = some pcs) := ha
    have Hp : Hid (PcsRep W pcs cs) := hp
    clear c0 c1 c2 c3 hB0 ha hp
    unfold PiecePost errP at hcall
    gi_wp2_with fail
    refine ⟨trivial, wd _, ?_⟩
    refine (CallsIn.inRound l (callsIn_wide.2 hcall)).mono ?_
    rintro e W2 ⟨⟨pc, o, n5, c5, hpc, hin, rfl⟩ | ⟨hpc, rfl⟩, hb⟩
    · have Hpc : Hid (allOf (pre ++ [x]) = some (pcs ++ [pc])) := by unfold Hid; rw [allOf_append, Ha.out]; simp only [allOf, hpc]; rfl
      have k0 := boxed_below h0 hb
      have k1 := boxed_below h1 hb
      have k2 := boxed_below h2 hb
      have ho2 := own_below ho hb
      have hp2 : PcsRep W2 (pcs ++ [pc]) (cs ++ [.bool pc.isNone, .slice o n5 c5]) := (Hp.out.turn (grown_of_below hb) (NoParts.none _)).snoc hin rfl
      have Hp2 : Hid _ := hp2
      have hB2 : Below w.heap.size w W2 := hB.trans (hb.mono hB.size)
      have hlw := hb.size
      have HN5 : Hid (∀ (j : Nat) u, ([.bool pc.isNone, .slice o n5 c5] : List Value)[j]? = some u → ((W2.alloc (.cells #[.bool pc.isNone, .slice o n5 c5] 110)).alloc (.cells #[.bool pc.isNone, .slice o n5 c5] 110)).cell? ((⟨W2.heap.size + 1, 0, none⟩ : Addr).add j) = some u) := by
        have h := cells_new (W2.alloc (.cells #[.bool pc.isNone, .slice o n5 c5] 110)) #[.bool pc.isNone, .slice o n5 c5] 110
        rw [World.size_alloc] at h; exact h
      have g2 := (k2.alloc (.cells #[.bool pc.isNone, .slice o n5 c5] 110))
      have d2 := k2.cell
      have e2 := k2.frozen
      have hlt2 := k2.lt
      clear hpc hin hp2 ho h0 h1 h2 hB
      gi_wp2_with (gi_at_builtin; refine wpListIn_append_own _ rfl _ _ 76 rfl (w.heap.size + 7) 110 i0 (.agg #[.bool false, .slice none 0 0]) 2 32 Tryz.underlying76 hi hz0 hz1 hz2 rfl (by decide) _ _ _ rfl ((ho2.alloc _).alloc _) ⟨W2.heap.size + 1, 0, none⟩ 1 1 [.bool pc.isNone, .slice o n5 c5] rfl rfl HN5.out (by simp [Value.oneCell']) (by unfold maxLen; omega) (by omega) (by simp; omega) ?_; intro v' w1 hown' hgrow _; obtain ⟨g', cap', rfl⟩ := ownsRow_succ hown'; obtain ⟨a1, a2, a3, a4, a5, a6⟩ := app_size g2 (ho2.alloc _) (by omega) (by simp; omega) hown' hgrow; have hc1 := a1.cell; have hf1 := a1.frozen)
      have hnp : NoParts ((W2.alloc (.cells #[.bool pc.isNone, .slice o n5 c5] 110)).alloc (.cells #[.bool pc.isNone, .slice o n5 c5] 110)) v.ownBlock := by
        intro k e cur fr hk
        obtain ⟨_, cur2, hc2⟩ := own_ge ((ho2.alloc (.cells #[.bool pc.isNone, .slice o n5 c5] 110)).alloc (.cells #[.bool pc.isNone, .slice o n5 c5] 110)) k e.symm
        rw [hk] at hc2; simp at hc2
      have hnp2 : NoParts w1 (some (w.heap.size + 1 + 1)) := by
        intro k e cur fr hk
        cases e
        rw [show w1.heap[w.heap.size + 1 + 1]? = _ from a1] at hk; simp at hk
      have hpf := (((Hp2.out.turn (World.grownBy_alloc W2 _ none) (NoParts.none _)).turn (World.grownBy_alloc _ _ none) (NoParts.none _)).turn hgrow hnp).turn (grownBy_setCell' w1 (w.heap.size + 1 + 1) (.slice (some ⟨g', 0, none⟩) (pcs.length + 1) cap')) hnp2
      have hBa : Below w.heap.size w (w1.setCell ⟨w.heap.size + 1 + 1, 0, none⟩ (.slice (some ⟨g', 0, none⟩) (pcs.length + 1) cap')) := (hB2.alloc hB2.size _).trans (a4.mono (by omega))
      refine ⟨⟨_, pcs ++ [pc], _, Hpc.out, (a6 w.heap.size (by omega) (by omega)).trans (k0.alloc _), (a6 (w.heap.size + 1) (by omega) (by omega)).trans (k1.alloc _), a2, by rw [List.length_append]; exact a3, hpf, hBa⟩, ?_, ?_, ?_⟩
      · exact ((hb.mono (by have := hBa.size; omega)).alloc (by omega) _).trans (a4.mono (by omega))
      · exact ((keeps_of_below hb).trans (keeps_of_below ((Below.refl _ W2).alloc (Nat.le_refl _) _))).trans (a5 _)
      · intro j h3 h4
        exact (a6 j (by omega) (by omega)).trans ((Below.heap_alloc W2 _ j (by omega)).trans (hb.block j (by omega)))
    · have Hpc : Hid (allOf (pre ++ [x]) = none) := by unfold Hid; rw [allOf_append, Ha.out]; simp only [allOf, hpc]
      have k0 := boxed_below h0 hb
      have k1 := boxed_below h1 hb
      have hB2 : Below w.heap.size w W2 := hB.trans (hb.mono hB.size)
      have d0 := k0.cell
      have e0 := k0.frozen
      have d1 := k1.cell
      have e1 := k1.frozen
      have l0 := k0.lt
      have l1 := k1.lt
      have hlw := hb.size
      clear hpc ho h0 h1 h2 hB
      gi_wp2
      have m0 : Boxed ((W2.setCell ⟨w.heap.size, 0, none⟩ (.slice none 0 0)).setCell ⟨w.heap.size + 1, 0, none⟩ (.iface 56 (.int .i64 24))) w.heap.size 76 (.slice none 0 0) := Boxed.other (Boxed.set _ k0) (by omega) _
      have m1 : Boxed ((W2.setCell ⟨w.heap.size, 0, none⟩ (.slice none 0 0)).setCell ⟨w.heap.size + 1, 0, none⟩ (.iface 56 (.int .i64 24))) (w.heap.size + 1) 28 errP := Boxed.set _ (Boxed.other k1 (by omega) _)
      have hset : ∀ {n₀ : Nat} {X : World}, n₀ ≤ w.heap.size → Below n₀ X W2 → Below n₀ X (((W2.setCell ⟨w.heap.size, 0, none⟩ (.slice none 0 0)).setCell ⟨w.heap.size + 1, 0, none⟩ (.iface 56 (.int .i64 24))).alloc (.cells #[.bool false, .slice none 0 0] 110)) := fun {n₀ X} hn h => by
        have h2 := (h.setCell (p := ⟨w.heap.size, 0, none⟩) hn (.slice none 0 0)).setCell (p := ⟨w.heap.size + 1, 0, none⟩) (by simp; omega) (.iface 56 (.int .i64 24))
        refine h2.alloc ?_ _
        simp [World.setCell]; omega
      refine ⟨⟨rfl, Hpc.out, m0.alloc _, m1.alloc _, hset (Nat.le_refl _) hB2⟩, hset (Nat.le_refl _) (hb.mono (by omega)), ?_, ?_⟩
      · exact ((keeps_of_below hb).trans ((keeps_set _ _ _).trans (keeps_set _ _ _))).trans (keeps_of_below ((Below.refl _ _).alloc (Nat.le_refl _) _))
      · intro j h3 h4
        refine (Below.heap_alloc _ _ j (by simp [World.setCell]; omega)).trans ?_
        exact ((Below.heap_setCell _ ⟨w.heap.size + 1, 0, none⟩ _ j (by simp; omega)).trans (Below.heap_setCell _ ⟨w.heap.size, 0, none⟩ _ j (by simp; omega))).trans (hb.block j (by omega))
  case done =>
    rintro D W hD ⟨v, pcs, cs, ha, h0, h1, h2, ho, hp, hB⟩ hK
    have hl := allOf_length ha
    have d0 := h0.cell
    have e0 := h0.frozen
    have d1 := h1.cell
    have e1 := h1.frozen
    have d2 := h2.cell
    have hDw : w.heap.size ≤ D := by omega
    have fin : ∀ (a b : Value), ∃ W2, W2 = (((W.setCell ⟨w.heap.size, 0, none⟩ a).setCell ⟨w.heap.size + 1, 0, none⟩ b)).putObj D (.deferred none) ∧
        ((W.setCell ⟨w.heap.size, 0, none⟩ a).setCell ⟨w.heap.size + 1, 0, none⟩ b).heap[D]? = some (.deferred (some [])) ∧ W2.cell? ⟨w.heap.size, 0, none⟩ = some a ∧ W2.cell? ⟨w.heap.size + 1, 0, none⟩ = some b ∧ Below w.heap.size w W2 ∧ W2.ownsRow (w.heap.size + 7) 110 2 v pcs.length cs ∧ PcsRep W2 pcs cs := fun a b => by
      refine ⟨_, rfl, ?_⟩
      have hK1 := (keeps_set (B := 0) W ⟨w.heap.size, 0, none⟩ a).same D _ (Nat.zero_le _) hK rfl
      have hK2 := (keeps_set (B := 0) _ ⟨w.heap.size + 1, 0, none⟩ b).same D _ (Nat.zero_le _) hK1 rfl
      have m0 : Boxed ((W.setCell ⟨w.heap.size, 0, none⟩ a).setCell ⟨w.heap.size + 1, 0, none⟩ b) w.heap.size 76 a := Boxed.other (Boxed.set _ h0) (by omega) _
      have m1 : Boxed ((W.setCell ⟨w.heap.size, 0, none⟩ a).setCell ⟨w.heap.size + 1, 0, none⟩ b) (w.heap.size + 1) 28 b := Boxed.set _ (Boxed.other h1 (by omega) _)
      have o1 : ((W.setCell ⟨w.heap.size, 0, none⟩ a).setCell ⟨w.heap.size + 1, 0, none⟩ b).ownsRow (w.heap.size + 7) 110 2 v pcs.length cs := own_set _ (own_set _ ho (by omega)) (by omega)
      have np0 : NoParts W (some w.heap.size) := fun k e cur fr hk => by cases e; rw [show W.heap[w.heap.size]? = _ from h0] at hk; simp at hk
      have np1 : NoParts (W.setCell ⟨w.heap.size, 0, none⟩ a) (some (w.heap.size + 1)) := fun k e cur fr hk => by
        cases e
        rw [show (W.setCell ⟨w.heap.size, 0, none⟩ a).heap[w.heap.size + 1]? = _ from Boxed.other h1 (by omega) a] at hk; simp at hk
      have p1 := (hp.turn (grownBy_setCell' W w.heap.size a) np0).turn (grownBy_setCell' _ (w.heap.size + 1) b) np1
      refine ⟨hK2, (boxed_put (.deferred none) m0 hK2 rfl).cell, (boxed_put (.deferred none) m1 hK2 rfl).cell, ?_, ?_, ?_⟩
      · exact ((hB.setCell (p := ⟨w.heap.size, 0, none⟩) (Nat.le_refl _) _).setCell (p := ⟨w.heap.size + 1, 0, none⟩) (by simp) _).trans (putLoop_below _ hK2 hDw)
      · refine o1.kept (grownBy_putObj' _ D _) ?_
        rcases o1.2 with ⟨rfl, _⟩ | ⟨g, cap, cur, rfl, _, hgb, _⟩
        · exact .inl rfl
        · exact .inr fun e => by cases e; rw [hgb] at hK2; cases hK2
      · exact p1.turn (grownBy_putObj' _ D _) (fun k e cur fr hk => by cases e; rw [hK2] at hk; cases hk)
    cases pcs with
    | nil =>
      have HN : Hid (patOf s = none) := by unfold Hid patOf; rw [if_neg (fun h => h.2 (List.eq_nil_of_length_eq_zero hl.symm))]
      obtain ⟨W2, e2, hK2, hc5, hc6, hB5, _⟩ := fin (.slice none 0 0) (.iface 56 (.int .i64 24))
      subst e2
      rcases ho.2 with ⟨rfl, _⟩ | ⟨g, cap, cur, rfl, _⟩
      all_goals clear ho hp ha fin h0 h1 h2 hB c0 c1 c2 c3 hl
      all_goals gi_wp2
      all_goals refine ⟨by simp, .inl ⟨_, _, rfl, run_takeDeferred hK2, ?_⟩⟩
      all_goals refine ⟨.tuple #[.slice none 0 0, errP], ?_, ⟨.inr ⟨HN.out, rfl⟩, hB5⟩⟩
      all_goals simp [results, Tryz.f58, go_sem, hc5, hc6, errP]
    | cons pc pcs =>
      have HN : Hid (patOf s = some (pc :: pcs)) := by unfold Hid patOf; rw [if_pos ⟨hs, fun e => by rw [e] at hl; simp at hl⟩]; exact ha
      rcases ho.2 with ⟨rfl, h00⟩ | ⟨g, cap, cur, rfl, _⟩
      · simp at h00
      · obtain ⟨W2, e2, hK2, hc5, hc6, hB5, ho5, hp5⟩ := fin (.slice (some ⟨g, 0, none⟩) (pc :: pcs).length cap) .nilIface
        subst e2
        have HI : Hid (PcsIn ((((W.setCell ⟨w.heap.size, 0, none⟩ (.slice (some ⟨g, 0, none⟩) (pc :: pcs).length cap)).setCell ⟨w.heap.size + 1, 0, none⟩ .nilIface)).putObj D (.deferred none)) w.heap.size (.slice (some ⟨g, 0, none⟩) (pc :: pcs).length cap) (pc :: pcs)) := ⟨cs, hp5, owns_le2 ho5 (by omega)⟩
        have hne : ((((pc :: pcs).length : Nat) : Int) == 0) = false := by simp; omega
        clear ho hp ha fin h0 h1 h2 hB c0 c1 c2 c3 ho5 hp5 hl
        gi_wp2
        refine ⟨by simp, .inl ⟨_, _, rfl, run_takeDeferred hK2, ?_⟩⟩
        refine ⟨.tuple #[.slice (some ⟨g, 0, none⟩) (pc :: pcs).length cap, .nilIface], ?_, ⟨.inl ⟨_, _, HN.out, HI.out, rfl⟩, hB5⟩⟩
        simp only [List.length_cons] at hc5 hc6
        simp [results, Tryz.f58, go_sem, hc5, hc6]
  case stop =>
    rintro D c pre W hD hpre ⟨rfl, hn, hb0, hb1, hB⟩ hK
    gi_wp2
    refine ⟨by simp, .inl ⟨_, _, rfl, run_takeDeferred hK, ?_⟩⟩
    have hc5 := (boxed_put (.deferred none) hb0 hK rfl).cell
    have hc6 := (boxed_put (.deferred none) hb1 hK rfl).cell
    refine ⟨.tuple #[.slice none 0 0, errP], ?_, ⟨.inr ⟨?_, rfl⟩, hB.trans (putLoop_below _ hK (by omega))⟩⟩
    · simp [results, Tryz.f58, go_sem, hc5, hc6]
    · unfold patOf
      split
      · obtain ⟨t, ht⟩ := hpre
        rw [← ht, allOf_append, hn]
      · rfl
theorem readPattern_p (s : ByteArray) (w : World) (hz : s.size ≤ 1099511627776) : Calls Tryz.prog 58 #[.string s] w (ReadPost s w) := by
  by_cases h : s.size ≤ 1020
  · exact readPattern_short s w h
  · exact readPattern_long s w (by omega) hz
end Go.Proofs.YthkbhcefckbcnaaGreatDoor
