/- DigestHashes: the statement walked. -/
import Derived.Test.YtodgcmhkojkpcaaGreatDoorLawSums
namespace Go.Proofs.YtodgcmhkojkpcaaGreatDoor
open Go Go.RowKit

/-- A step on a hash: a text, whether to ask, whether it is the second one's. -/
abbrev ActV := ByteArray × Bool × Bool
/-- The list at v holds these steps. -/
def ActsAt (w : World) (v : Value) (l : List ActV) : Prop :=
  ∃ a c, v = .slice a l.length c ∧ (a = none → c = 0) ∧ ∀ (i : Nat) (x : ActV), l[i]? = some x → ∃ b o, a = some ⟨b, o, none⟩ ∧ w.cell? ⟨b, o + i * 3, none⟩ = some (.string x.1) ∧ w.cell? ⟨b, o + i * 3 + 1, none⟩ = some (.bool x.2.1) ∧ w.cell? ⟨b, o + i * 3 + 2, none⟩ = some (.bool x.2.2)

/-- Two hashes behind two texts, their widths, and where all that lies. -/
structure St2 (B : Nat) (w wr : World) (g0 g1 gP gT : Nat) (n m : Int) (u0 u1 t0 t1 : ByteArray) : Prop where
  wid : Lies wr B 59 #[.int .i64 n, .int .i64 m]
  h0 : HashIs wr g0 (widthN n) (un u0)
  h1 : HashIs wr g1 (widthN m) (un u1)
  ptr : Lies wr gP 60 #[.pointer (some ⟨g0, 0, none⟩), .pointer (some ⟨g1, 0, none⟩)]
  txt : Lies wr gT 61 #[.string t0, .string t1]
  bel : Below B w wr
theorem St2.below {B g0 g1 gP gT : Nat} {w wr w' : World} {n m : Int} {u0 u1 t0 t1 : ByteArray} (h : St2 B w wr g0 g1 gP gT n m u0 u1 t0 t1) (hB : B ≤ wr.heap.size) (hb : Below wr.heap.size wr w') : St2 B w w' g0 g1 gP gT n m u0 u1 t0 t1 :=
  ⟨h.wid.below hb, h.h0.below hb, h.h1.below hb, h.ptr.below hb, h.txt.below hb, h.bel.trans (hb.mono hB)⟩
theorem St2.drew {B g0 g1 gP gT : Nat} {w wr : World} {n m : Int} {u0 u1 t0 t1 : ByteArray} (h : St2 B w wr g0 g1 gP gT n m u0 u1 t0 t1) (k : Nat) : St2 B w (wr.drewN k) g0 g1 gP gT n m u0 u1 t0 t1 :=
  ⟨h.wid, h.h0, h.h1, h.ptr, h.txt, below_drawn h.bel k⟩
theorem St2.write0 {B g0 g1 gP gT : Nat} {w wr w' : World} {n m : Int} {u0 u1 t0 t1 s : ByteArray} (h : St2 B w wr g0 g1 gP gT n m u0 u1 t0 t1) (hB : B < g0) (h1 : g0 < g1) (hP : g1 < gP) (hT : gP < gT) (hw : B ≤ wr.heap.size) (hH : HashIs w' g0 (widthN n) (un u0 ++ un s)) (hk : Turned g0 wr w') : St2 B w w' g0 g1 gP gT n m (u0 ++ s) u1 t0 t1 :=
  ⟨h.wid.turned hk (by omega), by rw [un_append]; exact hH, h.h1.turned hk (by omega), h.ptr.turned hk (by omega), h.txt.turned hk (by omega), h.bel.grown hk hw (fun k hk => by have := Option.some.inj hk; omega)⟩
theorem St2.write1 {B g0 g1 gP gT : Nat} {w wr w' : World} {n m : Int} {u0 u1 t0 t1 s : ByteArray} (h : St2 B w wr g0 g1 gP gT n m u0 u1 t0 t1) (hB : B < g0) (h1 : g0 < g1) (hP : g1 < gP) (hT : gP < gT) (hw : B ≤ wr.heap.size) (hH : HashIs w' g1 (widthN m) (un u1 ++ un s)) (hk : Turned g1 wr w') : St2 B w w' g0 g1 gP gT n m u0 (u1 ++ s) t0 t1 :=
  ⟨h.wid.turned hk (by omega), h.h0.turned hk (by omega), by rw [un_append]; exact hH, h.ptr.turned hk (by omega), h.txt.turned hk (by omega), h.bel.grown hk hw (fun k hk => by have := Option.some.inj hk; omega)⟩
theorem St2.text {B g0 g1 gP gT i : Nat} {w wr : World} {n m : Int} {u0 u1 t0 t1 t0' t1' s : ByteArray} (h : St2 B w wr g0 g1 gP gT n m u0 u1 t0 t1) (hB : B < g0) (h1 : g0 < g1) (hP : g1 < gP) (hT : gP < gT) (hs : (#[.string t0, .string t1] : Array Value).setIfInBounds i (.string s) = #[.string t0', .string t1']) : St2 B w (wr.setCell ⟨gT, i, none⟩ (.string s)) g0 g1 gP gT n m u0 u1 t0' t1' :=
  ⟨h.wid.other _ (by omega), h.h0.turned (Turned.set gT wr i _) (by omega), h.h1.turned (Turned.set gT wr i _) (by omega), h.ptr.other _ (by omega), by rw [← hs]; exact h.txt.set _, h.bel.setCell (p := ⟨gT, i, none⟩) (by show B ≤ gT; omega) _⟩
theorem keep_cell {we W w2 : World} {p : Addr} {v : Value} (hlt : p.block < we.heap.size) (hBW : Below we.heap.size we W) (b : Below W.heap.size W w2) (h : W.cell? p = some v) : w2.cell? p = some v := (b.cell (Nat.lt_of_lt_of_le hlt hBW.size)).trans h
theorem HashIs.alloc {w : World} {b : Nat} {wd : Int} {t : List UInt8} (h : HashIs w b wd t) (o : Obj) : HashIs (w.alloc o) b wd t := h.below ((Below.refl _ w).alloc (Nat.le_refl _) _)
theorem st2_start (n m : Int) (w : World) : St2 w.heap.size w (((((w.alloc (.cells #[.int .i64 n, .int .i64 m] 59)).alloc (.cells (hcells (widthOf n) 0 init8 zero64b) 84)).alloc (.cells (hcells (widthOf m) 0 init8 zero64b) 84)).alloc (.cells #[.pointer (some ⟨w.heap.size + 1, 0, none⟩), .pointer (some ⟨w.heap.size + 1 + 1, 0, none⟩)] 60)).alloc (.cells #[.string ⟨#[]⟩, .string ⟨#[]⟩] 61)) (w.heap.size + 1) (w.heap.size + 1 + 1) (w.heap.size + 1 + 1 + 1) (w.heap.size + 1 + 1 + 1 + 1) n m ⟨#[]⟩ ⟨#[]⟩ ⟨#[]⟩ ⟨#[]⟩ := by
  have a0 := Lies.new w 59 #[.int .i64 n, .int .i64 m]
  have a1 := hash_new n (w.alloc (.cells #[.int .i64 n, .int .i64 m] 59))
  rw [World.size_alloc] at a1
  have a2 := hash_new m ((w.alloc (.cells #[.int .i64 n, .int .i64 m] 59)).alloc (.cells (hcells (widthOf n) 0 init8 zero64b) 84))
  rw [World.size_alloc, World.size_alloc] at a2
  have a3 := Lies.new (((w.alloc (.cells #[.int .i64 n, .int .i64 m] 59)).alloc (.cells (hcells (widthOf n) 0 init8 zero64b) 84)).alloc (.cells (hcells (widthOf m) 0 init8 zero64b) 84)) 60 #[.pointer (some ⟨w.heap.size + 1, 0, none⟩), .pointer (some ⟨w.heap.size + 1 + 1, 0, none⟩)]
  rw [World.size_alloc, World.size_alloc, World.size_alloc] at a3
  have a4 := Lies.new ((((w.alloc (.cells #[.int .i64 n, .int .i64 m] 59)).alloc (.cells (hcells (widthOf n) 0 init8 zero64b) 84)).alloc (.cells (hcells (widthOf m) 0 init8 zero64b) 84)).alloc (.cells #[.pointer (some ⟨w.heap.size + 1, 0, none⟩), .pointer (some ⟨w.heap.size + 1 + 1, 0, none⟩)] 60)) 61 #[.string ⟨#[]⟩, .string ⟨#[]⟩]
  rw [World.size_alloc, World.size_alloc, World.size_alloc, World.size_alloc] at a4
  exact ⟨((((a0.alloc _).alloc _).alloc _).alloc _), ((a1.alloc _).alloc _).alloc _, (a2.alloc _).alloc _, a3.alloc _, a4, (((((Below.refl _ w).alloc (Nat.le_refl _) _).alloc (by simp) _).alloc (by simp; omega) _).alloc (by simp; omega) _).alloc (by simp; omega) _⟩
set_option maxRecDepth 100000 in
set_option maxHeartbeats 8000000 in
theorem hashes_law (n m : Int) (l : List ActV) (v : Value) (w : World) (hk : KTab w) (hr : RTab w) (hbt : BTab w) (hp : Pow10 w) (h : ActsAt w v l) (hll : l.length ≤ 8796093021952) (hxs : ∀ x ∈ l, x.1.size ≤ 140737488351232) : Calls Tryz.prog 15 #[.int .i64 n, .int .i64 m, v] w fun e w' => e = .returned (.bool true) ∧ Below w.heap.size w w' := by
  have hg := var_lt l_k hk
  have hgr := var_lt l_r hr
  have hgb := var_lt l_b hbt
  obtain ⟨a, c, rfl, hac, hc⟩ := h
  have HC : Hid _ := hc
  clear hc
  go_enter Tryz.func15, Tryz.ntmps15
  go_wp2_with fail
  refine (new_p n _).mono ?_
  rintro e w1 ⟨rfl, rfl⟩
  go_wp2_with fail
  refine (new_p m _).mono ?_
  rintro e w2 ⟨rfl, rfl⟩
  go_wp2_with fail
  have hZ : St2 w.heap.size w (((((w.alloc (.cells #[.int .i64 n, .int .i64 m] 59)).alloc (.cells (hcells (widthOf n) 0 init8 zero64b) 84)).alloc (.cells (hcells (widthOf m) 0 init8 zero64b) 84)).alloc (.cells #[.pointer (some ⟨w.heap.size + 1, 0, none⟩), .pointer (some ⟨w.heap.size + 1 + 1, 0, none⟩)] 60)).alloc (.cells #[.string ⟨#[]⟩, .string ⟨#[]⟩] 61)) (w.heap.size + 1) (w.heap.size + 1 + 1) (w.heap.size + 1 + 1 + 1) (w.heap.size + 1 + 1 + 1 + 1) n m ⟨#[]⟩ ⟨#[]⟩ ⟨#[]⟩ ⟨#[]⟩ := st2_start n m w
  generalize (((((w.alloc (.cells #[.int .i64 n, .int .i64 m] 59)).alloc (.cells (hcells (widthOf n) 0 init8 zero64b) 84)).alloc (.cells (hcells (widthOf m) 0 init8 zero64b) 84)).alloc (.cells #[.pointer (some ⟨w.heap.size + 1, 0, none⟩), .pointer (some ⟨w.heap.size + 1 + 1, 0, none⟩)] 60)).alloc (.cells #[.string ⟨#[]⟩, .string ⟨#[]⟩] 61)) = W at *
  obtain ⟨gT, hgT⟩ : ∃ gT, gT = w.heap.size + 1 + 1 + 1 + 1 := ⟨_, rfl⟩
  rw [← hgT] at hZ ⊢
  obtain ⟨gP, hgP⟩ : ∃ gP, gP = w.heap.size + 1 + 1 + 1 := ⟨_, rfl⟩
  rw [← hgP] at hZ ⊢
  obtain ⟨g1, hg1⟩ : ∃ g1, g1 = w.heap.size + 1 + 1 := ⟨_, rfl⟩
  rw [← hg1] at hZ ⊢
  obtain ⟨g0, hg0⟩ : ∃ g0, g0 = w.heap.size + 1 := ⟨_, rfl⟩
  rw [← hg0] at hZ ⊢
  have HZ : Hid _ := hZ
  have HXS : Hid _ := hxs
  have hoB : w.heap.size < g0 := by omega
  have ho1 : g0 < g1 := by omega
  have hoP : g1 < gP := by omega
  have hoT : gP < gT := by omega
  clear hZ hxs hgT hgP hg1 hg0
  go_loopw [10] (fun i wr => ∃ (q : Nat) (t0 t1 : ByteArray), q ≤ l.length ∧ i = .int .i64 q ∧ t0.size + t1.size ≤ 1048576 ∧ Hid (St2 w.heap.size w wr g0 g1 gP gT n m t0 t1 t0 t1)) (fun i _ => l.length - (intOf i).toNat)
  case atStart => exact ⟨0, ⟨#[]⟩, ⟨#[]⟩, Nat.zero_le _, rfl, by decide, HZ⟩
  case round =>
    clear HZ
    obtain ⟨q, t0, t1, hq, rfl, hsz, HS⟩ := hrel
    by_cases hlt : q < l.length
    · obtain ⟨x, hx⟩ : ∃ x, l[q]? = some x := ⟨_, List.getElem?_eq_getElem hlt⟩
      have hxz := HXS.out x (List.mem_of_getElem? hx)
      obtain ⟨b, o, rfl, c0, c1, c2⟩ := HC.out q x hx
      obtain ⟨xs, ask, oth⟩ := x
      have lb : b < w.heap.size := World.block_lt_of_cell? w _ c0
      have e0 := (HS.out.bel.cell (p := ⟨b, o + q * 3, none⟩) lb).trans c0
      have e1 := (HS.out.bel.cell (p := ⟨b, o + q * 3 + 1, none⟩) lb).trans c1
      have e2 := (HS.out.bel.cell (p := ⟨b, o + q * 3 + 2, none⟩) lb).trans c2
      have f0 : wr.cell? ⟨gT, 0, none⟩ = some (.string t0) := HS.out.txt.cell rfl
      have f1 : wr.cell? ⟨gT, 1, none⟩ = some (.string t1) := HS.out.txt.cell rfl
      have lb2 : b < wr.heap.size := Nat.lt_of_lt_of_le lb HS.out.bel.size
      simp only at hxz e0 e1 e2
      clear c0 c1 c2 hx
      have d1 : (0 : Int) ≤ (q : Int) := by omega
      have d2 : (q : Int) < (l.length : Int) := by omega
      by_cases hbig : 1048576 < t0.size + t1.size + xs.size
      · have d3 : (1048576 : Int) < (t0.size : Int) + (t1.size : Int) + (xs.size : Int) := by omega
        cases oth
        all_goals
          go_wp2
          go_quiet (fail)
          go_wp2
          go_ret
          exact ⟨rfl, below_drawn HS.out.bel _⟩
      · have d3 : ¬ (1048576 : Int) < (t0.size : Int) + (t1.size : Int) + (xs.size : Int) := by omega
        cases oth
        · go_wp2
          go_quiet (fail)
          have HS2 : Hid (St2 w.heap.size w (wr.drewN nq) g0 g1 gP gT n m t0 t1 t0 t1) := HS.out.drew nq
          have e0' : (wr.drewN nq).cell? ⟨b, o + q * 3, none⟩ = some (.string xs) := e0
          have e1' : (wr.drewN nq).cell? ⟨b, o + q * 3 + 1, none⟩ = some (.bool ask) := e1
          have lb1 : b < (wr.drewN nq).heap.size := lb2
          clear HS e0 e1 e2 f0 f1
          generalize wr.drewN nq = wd at *
          have hb0 := HS2.out.bel.size
          have hKd : KTab wd.drew := var?_below (HS2.out.drew 1).bel l_k hg hk
          have hHd : HashIs wd.drew g0 (widthN n) (un t0) := (HS2.out.drew 1).h0
          have p0 : wd.drew.cell? ⟨gP, 0, none⟩ = some (.pointer (some ⟨g0, 0, none⟩)) := (HS2.out.drew 1).ptr.cell rfl
          have p1 : wd.drew.cell? ⟨b, o + q * 3, none⟩ = some (.string xs) := e0'
          have lP := HS2.out.ptr.lt
          go_wp2_with fail
          go_region_held3 (fun w' => w'.cell? ⟨gP, 0, none⟩ = some (.pointer (some ⟨g0, 0, none⟩)) ∧ w'.cell? ⟨b, o + q * 3, none⟩ = some (.string xs))
            (first
              | exact ⟨p0, p1⟩
              | exact ⟨(World.grownBy.cell_far hT' ⟨gP, 0, none⟩ lP (fun e => by have h9 : gP = g0 := Option.some.inj e; omega)).trans p0, (World.grownBy.cell_far hT' ⟨b, o + q * 3, none⟩ lb1 (fun e => by have h9 : b = g0 := Option.some.inj e; omega)).trans p1⟩)
            (first
              | (go_at_call 27; refine (write_p xs (widthN n) (un t0) g0 _ hHd hKd (by omega) (by rw [un_length]; omega)).mono ?_; rintro e w' ⟨rfl, hH', hT'⟩))
          have HS3 : Hid (St2 w.heap.size w w' g0 g1 gP gT n m (t0 ++ xs) t1 t0 t1) := (HS2.out.drew 1).write0 hoB ho1 hoP hoT hb0 hH' hT'
          have e0'' : w'.cell? ⟨b, o + q * 3, none⟩ = some (.string xs) := (World.grownBy.cell_far hT' ⟨b, o + q * 3, none⟩ lb1 (fun e => by have h9 : b = g0 := Option.some.inj e; omega)).trans e0'
          have e1'' : w'.cell? ⟨b, o + q * 3 + 1, none⟩ = some (.bool ask) := (World.grownBy.cell_far hT' ⟨b, o + q * 3 + 1, none⟩ lb1 (fun e => by have h9 : b = g0 := Option.some.inj e; omega)).trans e1'
          have f0 : w'.cell? ⟨gT, 0, none⟩ = some (.string t0) := HS3.out.txt.cell rfl
          have fz := HS3.out.txt.frozen 0
          have lb3 : b < w'.heap.size := Nat.lt_of_lt_of_le lb1 hT'.size
          clear hH' hT' HS2 hKd hHd p0 p1 e0' e1' lP lb1
          go_wp2_with fail
          go_region
          have HS4 : Hid (St2 w.heap.size w (w'.setCell ⟨gT, 0, none⟩ (.string (t0 ++ xs))).drew g0 g1 gP gT n m (t0 ++ xs) t1 (t0 ++ xs) t1) := (HS3.out.text (i := 0) (s := t0 ++ xs) hoB ho1 hoP hoT rfl).drew 1
          have e1d : (w'.setCell ⟨gT, 0, none⟩ (.string (t0 ++ xs))).drew.cell? ⟨b, o + q * 3 + 1, none⟩ = some (.bool ask) := (World.grownBy.cell_far (Turned.set gT w' 0 (.string (t0 ++ xs))) ⟨b, o + q * 3 + 1, none⟩ lb3 (fun e => by have h9 : b = gT := Option.some.inj e; omega)).trans e1''
          have lb4 : b < (w'.setCell ⟨gT, 0, none⟩ (.string (t0 ++ xs))).drew.heap.size := Nat.lt_of_lt_of_le lb HS4.out.bel.size
          clear HS3 e0'' e1'' f0 fz lb3
          generalize (w'.setCell ⟨gT, 0, none⟩ (.string (t0 ++ xs))).drew = we at *
          have hsz2 : (t0 ++ xs).size + t1.size ≤ 1048576 := by rw [ByteArray.size_append]; omega
          generalize t0 ++ xs = ux at *
          cases ask
          · go_wp2_with fail
            go_quiet (fail)
            have HS5 : Hid (St2 w.heap.size w (we.drewN nq) g0 g1 gP gT n m ux t1 ux t1) := HS4.out.drew nq
            clear HS4 e1d
            generalize we.drewN nq = wf at *
            go_wp2
            exact ⟨⟨q + 1, ux, t1, by omega, by go_num, by omega, HS5⟩, by simp [intOf]; omega⟩
          · have heq := fun W => eq_same (sumB (widthN n) (un ux)) (sumB_length _ _ (widthN_le n)) W
            have p0 : we.drew.cell? ⟨gP, 0, none⟩ = some (.pointer (some ⟨g0, 0, none⟩)) := HS4.out.ptr.cell rfl
            have p1 : we.drew.cell? ⟨w.heap.size, 0, none⟩ = some (.int .i64 n) := HS4.out.wid.cell rfl
            have p2 : we.drew.cell? ⟨gT, 0, none⟩ = some (.string ux) := HS4.out.txt.cell rfl
            have p3 : we.drew.cell? ⟨b, o + q * 3 + 1, none⟩ = some (.bool true) := e1d
            have p4 : Below we.drew.heap.size we.drew we.drew := Below.refl _ _
            have HH : Hid (∀ W, Below we.drew.heap.size we.drew W → HashIs W g0 (widthN n) (un ux) ∧ KTab W ∧ RTab W ∧ BTab W) := fun W hW => ⟨(HS4.out.drew 1).h0.below hW, var?_below ((HS4.out.drew 1).bel.trans (hW.mono (HS4.out.drew 1).bel.size)) l_k hg hk, var?_below ((HS4.out.drew 1).bel.trans (hW.mono (HS4.out.drew 1).bel.size)) l_r hgr hr, var?_below ((HS4.out.drew 1).bel.trans (hW.mono (HS4.out.drew 1).bel.size)) l_b hgb hbt⟩
            have lP : gP < we.drew.heap.size := HS4.out.ptr.lt
            have lT : gT < we.drew.heap.size := HS4.out.txt.lt
            have lW : w.heap.size < we.drew.heap.size := HS4.out.wid.lt
            have lb5 : b < we.drew.heap.size := lb4
            clear e1d
            go_wp2_with fail
            go_region_held3 (fun w' => w'.cell? ⟨gP, 0, none⟩ = some (.pointer (some ⟨g0, 0, none⟩)) ∧ w'.cell? ⟨w.heap.size, 0, none⟩ = some (.int .i64 n) ∧ w'.cell? ⟨gT, 0, none⟩ = some (.string ux) ∧ w'.cell? ⟨b, o + q * 3 + 1, none⟩ = some (.bool true) ∧ Below we.drew.heap.size we.drew w')
              (first
                | exact ⟨p0, p1, p2, p3, p4⟩
                | (go_split_ands; exact ⟨keep_cell lP (by assumption) b' (by assumption), keep_cell lW (by assumption) b' (by assumption), keep_cell lT (by assumption) b' (by assumption), keep_cell lb5 (by assumption) b' (by assumption), below_join (by assumption) b'⟩))
              (first
                | (go_at_call 28; go_split_ands; refine (hsum_p (widthN n) (widthN_le n) (un ux) (by rw [un_length]; omega) g0 _ (HH.out _ (by assumption)).1 (HH.out _ (by assumption)).2.1).mono ?_; rintro e w'' ⟨rfl, b'⟩)
                | (go_at_call 31; go_split_ands; refine (sum_r n ux _ (HH.out _ (by assumption)).2.2.1 (HH.out _ (by assumption)).2.2.2 (by omega)).mono ?_; rintro e w'' ⟨rfl, b'⟩))
            have hW : Below we.drew.heap.size we.drew w'' := by first | assumption | (go_split_ands; assumption)
            have HS6 : Hid (St2 w.heap.size w w'' g0 g1 gP gT n m ux t1 ux t1) := (HS4.out.drew 1).below (HS4.out.drew 1).bel.size hW
            clear HS4 p0 p1 p2 p3 p4 HH heq hW
            go_wp2
            exact ⟨⟨q + 1, ux, t1, by omega, by go_num, by omega, HS6⟩, by simp [intOf]; omega⟩
        · go_wp2
          go_quiet (fail)
          have HS2 : Hid (St2 w.heap.size w (wr.drewN nq) g0 g1 gP gT n m t0 t1 t0 t1) := HS.out.drew nq
          have e0' : (wr.drewN nq).cell? ⟨b, o + q * 3, none⟩ = some (.string xs) := e0
          have e1' : (wr.drewN nq).cell? ⟨b, o + q * 3 + 1, none⟩ = some (.bool ask) := e1
          have lb1 : b < (wr.drewN nq).heap.size := lb2
          clear HS e0 e1 e2 f0 f1
          generalize wr.drewN nq = wd at *
          have hb0 := HS2.out.bel.size
          have hKd : KTab wd.drew := var?_below (HS2.out.drew 1).bel l_k hg hk
          have hHd : HashIs wd.drew g1 (widthN m) (un t1) := (HS2.out.drew 1).h1
          have p0 : wd.drew.cell? ⟨gP, 1, none⟩ = some (.pointer (some ⟨g1, 0, none⟩)) := (HS2.out.drew 1).ptr.cell rfl
          have p1 : wd.drew.cell? ⟨b, o + q * 3, none⟩ = some (.string xs) := e0'
          have lP := HS2.out.ptr.lt
          go_wp2_with fail
          go_region_held3 (fun w' => w'.cell? ⟨gP, 1, none⟩ = some (.pointer (some ⟨g1, 0, none⟩)) ∧ w'.cell? ⟨b, o + q * 3, none⟩ = some (.string xs))
            (first
              | exact ⟨p0, p1⟩
              | exact ⟨(World.grownBy.cell_far hT' ⟨gP, 1, none⟩ lP (fun e => by have h9 : gP = g1 := Option.some.inj e; omega)).trans p0, (World.grownBy.cell_far hT' ⟨b, o + q * 3, none⟩ lb1 (fun e => by have h9 : b = g1 := Option.some.inj e; omega)).trans p1⟩)
            (first
              | (go_at_call 27; refine (write_p xs (widthN m) (un t1) g1 _ hHd hKd (by omega) (by rw [un_length]; omega)).mono ?_; rintro e w' ⟨rfl, hH', hT'⟩))
          have HS3 : Hid (St2 w.heap.size w w' g0 g1 gP gT n m t0 (t1 ++ xs) t0 t1) := (HS2.out.drew 1).write1 hoB ho1 hoP hoT hb0 hH' hT'
          have e0'' : w'.cell? ⟨b, o + q * 3, none⟩ = some (.string xs) := (World.grownBy.cell_far hT' ⟨b, o + q * 3, none⟩ lb1 (fun e => by have h9 : b = g1 := Option.some.inj e; omega)).trans e0'
          have e1'' : w'.cell? ⟨b, o + q * 3 + 1, none⟩ = some (.bool ask) := (World.grownBy.cell_far hT' ⟨b, o + q * 3 + 1, none⟩ lb1 (fun e => by have h9 : b = g1 := Option.some.inj e; omega)).trans e1'
          have f0 : w'.cell? ⟨gT, 1, none⟩ = some (.string t1) := HS3.out.txt.cell rfl
          have fz := HS3.out.txt.frozen 1
          have lb3 : b < w'.heap.size := Nat.lt_of_lt_of_le lb1 hT'.size
          clear hH' hT' HS2 hKd hHd p0 p1 e0' e1' lP lb1
          go_wp2_with fail
          go_region
          have HS4 : Hid (St2 w.heap.size w (w'.setCell ⟨gT, 1, none⟩ (.string (t1 ++ xs))).drew g0 g1 gP gT n m t0 (t1 ++ xs) t0 (t1 ++ xs)) := (HS3.out.text (i := 1) (s := t1 ++ xs) hoB ho1 hoP hoT rfl).drew 1
          have e1d : (w'.setCell ⟨gT, 1, none⟩ (.string (t1 ++ xs))).drew.cell? ⟨b, o + q * 3 + 1, none⟩ = some (.bool ask) := (World.grownBy.cell_far (Turned.set gT w' 1 (.string (t1 ++ xs))) ⟨b, o + q * 3 + 1, none⟩ lb3 (fun e => by have h9 : b = gT := Option.some.inj e; omega)).trans e1''
          have lb4 : b < (w'.setCell ⟨gT, 1, none⟩ (.string (t1 ++ xs))).drew.heap.size := Nat.lt_of_lt_of_le lb HS4.out.bel.size
          clear HS3 e0'' e1'' f0 fz lb3
          generalize (w'.setCell ⟨gT, 1, none⟩ (.string (t1 ++ xs))).drew = we at *
          have hsz2 : (t1 ++ xs).size + t0.size ≤ 1048576 := by rw [ByteArray.size_append]; omega
          generalize t1 ++ xs = ux at *
          cases ask
          · go_wp2_with fail
            go_quiet (fail)
            have HS5 : Hid (St2 w.heap.size w (we.drewN nq) g0 g1 gP gT n m t0 ux t0 ux) := HS4.out.drew nq
            clear HS4 e1d
            generalize we.drewN nq = wf at *
            go_wp2
            exact ⟨⟨q + 1, t0, ux, by omega, by go_num, by omega, HS5⟩, by simp [intOf]; omega⟩
          · have heq := fun W => eq_same (sumB (widthN m) (un ux)) (sumB_length _ _ (widthN_le m)) W
            have p0 : we.drew.cell? ⟨gP, 1, none⟩ = some (.pointer (some ⟨g1, 0, none⟩)) := HS4.out.ptr.cell rfl
            have p1 : we.drew.cell? ⟨w.heap.size, 1, none⟩ = some (.int .i64 m) := HS4.out.wid.cell rfl
            have p2 : we.drew.cell? ⟨gT, 1, none⟩ = some (.string ux) := HS4.out.txt.cell rfl
            have p3 : we.drew.cell? ⟨b, o + q * 3 + 1, none⟩ = some (.bool true) := e1d
            have p4 : Below we.drew.heap.size we.drew we.drew := Below.refl _ _
            have HH : Hid (∀ W, Below we.drew.heap.size we.drew W → HashIs W g1 (widthN m) (un ux) ∧ KTab W ∧ RTab W ∧ BTab W) := fun W hW => ⟨(HS4.out.drew 1).h1.below hW, var?_below ((HS4.out.drew 1).bel.trans (hW.mono (HS4.out.drew 1).bel.size)) l_k hg hk, var?_below ((HS4.out.drew 1).bel.trans (hW.mono (HS4.out.drew 1).bel.size)) l_r hgr hr, var?_below ((HS4.out.drew 1).bel.trans (hW.mono (HS4.out.drew 1).bel.size)) l_b hgb hbt⟩
            have lP : gP < we.drew.heap.size := HS4.out.ptr.lt
            have lT : gT < we.drew.heap.size := HS4.out.txt.lt
            have lW : w.heap.size < we.drew.heap.size := HS4.out.wid.lt
            have lb5 : b < we.drew.heap.size := lb4
            clear e1d
            go_wp2_with fail
            go_region_held3 (fun w' => w'.cell? ⟨gP, 1, none⟩ = some (.pointer (some ⟨g1, 0, none⟩)) ∧ w'.cell? ⟨w.heap.size, 1, none⟩ = some (.int .i64 m) ∧ w'.cell? ⟨gT, 1, none⟩ = some (.string ux) ∧ w'.cell? ⟨b, o + q * 3 + 1, none⟩ = some (.bool true) ∧ Below we.drew.heap.size we.drew w')
              (first
                | exact ⟨p0, p1, p2, p3, p4⟩
                | (go_split_ands; exact ⟨keep_cell lP (by assumption) b' (by assumption), keep_cell lW (by assumption) b' (by assumption), keep_cell lT (by assumption) b' (by assumption), keep_cell lb5 (by assumption) b' (by assumption), below_join (by assumption) b'⟩))
              (first
                | (go_at_call 28; go_split_ands; refine (hsum_p (widthN m) (widthN_le m) (un ux) (by rw [un_length]; omega) g1 _ (HH.out _ (by assumption)).1 (HH.out _ (by assumption)).2.1).mono ?_; rintro e w'' ⟨rfl, b'⟩)
                | (go_at_call 31; go_split_ands; refine (sum_r m ux _ (HH.out _ (by assumption)).2.2.1 (HH.out _ (by assumption)).2.2.2 (by omega)).mono ?_; rintro e w'' ⟨rfl, b'⟩))
            have hW : Below we.drew.heap.size we.drew w'' := by first | assumption | (go_split_ands; assumption)
            have HS6 : Hid (St2 w.heap.size w w'' g0 g1 gP gT n m t0 ux t0 ux) := (HS4.out.drew 1).below (HS4.out.drew 1).bel.size hW
            clear HS4 p0 p1 p2 p3 p4 HH heq hW
            go_wp2
            exact ⟨⟨q + 1, t0, ux, by omega, by go_num, by omega, HS6⟩, by simp [intOf]; omega⟩
    · obtain rfl : q = l.length := by omega
      clear HC HXS hac
      have hz := (zero_of_info (P := Tryz.prog) info_digest).1
      go_wp2
      go_loopw [12] (fun i wr => ∃ k : Nat, k ≤ 2 ∧ i = .int .i64 k ∧ Hid (St2 w.heap.size w wr g0 g1 gP gT n m t0 t1 t0 t1)) (fun i _ => 2 - (intOf i).toNat)
      case atStart => exact ⟨0, by omega, rfl, HS⟩
      case round =>
        clear HS
        obtain ⟨k, hk2, rfl, HS⟩ := hrel
        have hk3 : k = 0 ∨ k = 1 ∨ k = 2 := by omega
        rcases hk3 with rfl | rfl | rfl
        · have hDl := sumB_length (widthN n) (un t0) (widthN_le n)
          have hSR := fun W (h1 : RTab W) (h2 : BTab W) => sum_r n t0 W h1 h2 (by omega)
          have hSH := fun W (h1 : HashIs W g0 (widthN n) (un t0)) (h2 : KTab W) => hsum_p (widthN n) (widthN_le n) (un t0) (by rw [un_length]; omega) g0 W h1 h2
          have heq : ∀ W, (Op.equalIn 10000 25 (.agg (dig32 (sumB (widthN n) (un t0)))) (.agg (Lib.byteCells (sumB (widthN n) (un t0))).toArray)).run Tryz.prog W = .ok true W := fun W => eq_same _ hDl W
          generalize hDD : sumB (widthN n) (un t0) = D at *
          have hi : (Tryz.prog.info? 25).map (·.size) = some (dig32 D).size := by rw [dig32_size, hDl]; kernel_rfl
          have hzd : (dig32 zeros).size = (dig32 D).size := by rw [dig32_size, dig32_size, hDl]; rfl
          have ho := dig32_one D
          have hu := Tryz.underlying25
          have hcl : (Lib.byteCells D).length = 32 := by rw [Lib.byteCells_length, hDl]
          have hi2 : (Tryz.prog.info? 25).map (·.size) = some (Lib.byteCells D).length := by rw [hcl]; kernel_rfl
          have p1 : wr.drew.cell? ⟨w.heap.size, 0, none⟩ = some (.int .i64 n) := HS.out.wid.cell rfl
          have p2 : wr.drew.cell? ⟨gT, 0, none⟩ = some (.string t0) := HS.out.txt.cell rfl
          have lW : w.heap.size < wr.drew.heap.size := HS.out.wid.lt
          have lT : gT < wr.drew.heap.size := HS.out.txt.lt
          have lP : gP < wr.drew.heap.size := HS.out.ptr.lt
          have HSd : Hid (St2 w.heap.size w wr.drew g0 g1 gP gT n m t0 t1 t0 t1) := HS.out.drew 1
          have hsw : w.heap.size ≤ wr.drew.heap.size := HSd.out.bel.size
          have HKS : Hid (∀ W, Below wr.drew.heap.size wr.drew W → W.cell? ⟨w.heap.size, 0, none⟩ = some (.int .i64 n) ∧ W.cell? ⟨gT, 0, none⟩ = some (.string t0) ∧ Below wr.drew.heap.size wr.drew W) := fun W hW => ⟨(hW.cell (p := ⟨w.heap.size, 0, none⟩) lW).trans p1, (hW.cell (p := ⟨gT, 0, none⟩) lT).trans p2, hW⟩
          have HTB : Hid (∀ W, Below wr.drew.heap.size wr.drew W → KTab W ∧ RTab W ∧ BTab W) := fun W hW => ⟨var?_below (HSd.out.bel.trans (hW.mono hsw)) l_k hg hk, var?_below (HSd.out.bel.trans (hW.mono hsw)) l_r hgr hr, var?_below (HSd.out.bel.trans (hW.mono hsw)) l_b hgb hbt⟩
          clear HS
          go_wp2_with fail
          refine wp_region_noPanic ?_
          refine wp_region_held_drew (S := fun w' => w'.cell? ⟨w.heap.size, 0, none⟩ = some (.int .i64 n) ∧ w'.cell? ⟨gT, 0, none⟩ = some (.string t0) ∧ Below wr.drew.heap.size wr.drew w') (by kernel_rfl) (HKS.out _ (Below.refl _ _)) (fun h0 => ?_)
          generalize wr.drew = wd at *
          refine wpAnyH_take (i := 0) (v := .int .i64 0) rfl (by kernel_rfl) (by kernel_rfl) (by kernel_rfl) (fun _ _ _ h => h) (Or.inl ⟨by rfl, fun w hSw => by obtain ⟨hs1, hs2, hs3⟩ := hSw; go_simp⟩) h0 ?_
          simp only [Act.put, List.setIfInBounds_toArray]
          refine wpAnyH_take (i := 1) (v := .pointer (some ⟨w.heap.size, 0, none⟩)) rfl (by kernel_rfl) (by kernel_rfl) (by kernel_rfl) (fun _ _ _ h => h) (Or.inl ⟨by rfl, fun w hSw => by obtain ⟨hs1, hs2, hs3⟩ := hSw; go_simp⟩) h0 ?_
          simp only [Act.put]
          refine wpAnyH_take (i := 2) (v := .int .i64 n) rfl (by kernel_rfl) (by kernel_rfl) (by kernel_rfl) (fun _ _ _ h => h) (Or.inl ⟨by rfl, fun w hSw => by obtain ⟨hs1, hs2, hs3⟩ := hSw; go_simp⟩) h0 ?_
          simp only [Act.put]
          refine wpAnyH_take (i := 3) (v := .int .i64 0) rfl (by kernel_rfl) (by kernel_rfl) (by kernel_rfl) (fun _ _ _ h => h) (Or.inl ⟨by rfl, fun w hSw => by obtain ⟨hs1, hs2, hs3⟩ := hSw; go_simp⟩) h0 ?_
          simp only [Act.put]
          refine wpAnyH_take (i := 4) (v := .pointer (some ⟨gT, 0, none⟩)) rfl (by kernel_rfl) (by kernel_rfl) (by kernel_rfl) (fun _ _ _ h => h) (Or.inl ⟨by rfl, fun w hSw => by obtain ⟨hs1, hs2, hs3⟩ := hSw; go_simp⟩) h0 ?_
          simp only [Act.put]
          refine wpAnyH_take (i := 5) (v := .string t0) rfl (by kernel_rfl) (by kernel_rfl) (by kernel_rfl) (fun _ _ _ h => h) (Or.inl ⟨by rfl, fun w hSw => by obtain ⟨hs1, hs2, hs3⟩ := hSw; go_simp⟩) h0 ?_
          simp only [Act.put]
          refine wpAnyH_ready (rs := [6, 7]) (by kernel_rfl) (by simp) ?_
          refine AllReadyH.cons rfl (fun K hK => ?_) (AllReadyH.cons rfl (fun K hK => ?_) AllReadyH.nil)
          · go_simp
            refine (hSR _ (HTB.out _ h0.2.2).2.1 (HTB.out _ h0.2.2).2.2).mono ?_
            rintro e wA ⟨rfl, bA⟩
            have BA := below_join h0.2.2 bA
            go_wp2_with fail
            refine hK.out _ _ (HKS.out _ BA) (fun hA => ?_)
            clear hK K
            try simp only [Act.put, List.setIfInBounds_toArray, List.set_cons_zero, List.set_cons_succ]
            refine wpAnyH_ready (rs := [7]) (by kernel_rfl) (by simp) ?_
            refine AllReadyH.cons rfl (fun K hK => ?_) AllReadyH.nil
            go_simp
            have BB := BA.alloc BA.size (.cells (dig32 zeros) 25)
            refine hK.out _ _ (HKS.out _ BB) (fun hB9 => ?_)
            clear hK K
            try simp only [Act.put, List.setIfInBounds_toArray, List.set_cons_zero, List.set_cons_succ]
            refine wpAnyH_ready (rs := [8]) (by kernel_rfl) (by simp) ?_
            refine AllReadyH.cons rfl (fun K hK => ?_) AllReadyH.nil
            rw [if_pos (by rfl)]
            refine wp_store_row 25 (.tmp 13) (.tmp 105) rfl wA.heap.size (dig32 D) rfl rfl 25 (dig32 zeros) (Lies.new wA _ _) hi hzd ho ?_
            have BC := below_setRow BB BA.size (dig32 D)
            refine hK.out _ _ (HKS.out _ BC) (fun hC => ?_)
            clear hK K
            try simp only [Act.put, List.setIfInBounds_toArray]
            have LX : Lies ((wA.alloc (.cells (dig32 zeros) 25)).setRow wA.heap.size (dig32 D)) wA.heap.size 25 (dig32 D) := (Lies.new wA _ _).row _
            clear hA hB9 hC BA BB bA h0
            generalize (wA.alloc (.cells (dig32 zeros) 25)).setRow wA.heap.size (dig32 D) = wE at *
            generalize wA.heap.size = gN at *
            refine wpAnyH_done (by kernel_rfl) ?_ _
            refine NoPanic.normal ?_
            have hgl := LX.lt
            have HE : Hid (St2 w.heap.size w wE g0 g1 gP gT n m t0 t1 t0 t1) := HSd.out.below hsw BC
            clear BC HKS HTB HSd
            have hrd : wE.drew.rangeAt gN 0 (Lib.byteCells D) := fun j v hv => by
              rw [Nat.zero_add]
              exact LX.cell (by unfold dig32; simpa using hv)
            have HEd : Hid (St2 w.heap.size w wE.drew g0 g1 gP gT n m t0 t1 t0 t1) := HE.out.drew 1
            have q1 : wE.drew.cell? ⟨gP, 0, none⟩ = some (.pointer (some ⟨g0, 0, none⟩)) := HE.out.ptr.cell rfl
            have lN : gN < wE.drew.heap.size := hgl
            have lPE : gP < wE.drew.heap.size := HE.out.ptr.lt
            have hswE : w.heap.size ≤ wE.drew.heap.size := HEd.out.bel.size
            clear LX HE hgl
            go_wp2_with fail
            refine wp_region_noPanic ?_
            have HK2 : Hid (∀ W, Below wE.drew.heap.size wE.drew W → (W.rangeAt gN 0 (Lib.byteCells D) ∧ W.cell? ⟨gP, 0, none⟩ = some (.pointer (some ⟨g0, 0, none⟩)) ∧ Below wE.drew.heap.size wE.drew W) ∧ HashIs W g0 (widthN n) (un t0) ∧ KTab W) := fun W hW => ⟨⟨rng_below hrd hW lN, (hW.cell (p := ⟨gP, 0, none⟩) lPE).trans q1, hW⟩, HEd.out.h0.below hW, var?_below (HEd.out.bel.trans (hW.mono hswE)) l_k hg hk⟩
            refine wp_region_held_drew (S := fun w' => w'.rangeAt gN 0 (Lib.byteCells D) ∧ w'.cell? ⟨gP, 0, none⟩ = some (.pointer (some ⟨g0, 0, none⟩)) ∧ Below wE.drew.heap.size wE.drew w') (by kernel_rfl) (HK2.out _ (Below.refl _ _)).1 (fun h0 => ?_)
            clear hrd q1
            generalize wE.drew = wG at *
            refine wpAnyH_take (i := 0) (v := .int .i64 0) rfl (by kernel_rfl) (by kernel_rfl) (by kernel_rfl) (fun _ _ _ h => h) (Or.inl ⟨by rfl, fun w hSw => by obtain ⟨hs1, hs2, hs3⟩ := hSw; go_simp⟩) h0 ?_
            simp only [Act.put, List.setIfInBounds_toArray]
            refine wpAnyH_take (i := 1) (v := .pointer (some ⟨gP, 0, none⟩)) rfl (by kernel_rfl) (by kernel_rfl) (by kernel_rfl) (fun _ _ _ h => h) (Or.inl ⟨by rfl, fun w hSw => by obtain ⟨hs1, hs2, hs3⟩ := hSw; go_simp⟩) h0 ?_
            simp only [Act.put]
            refine wpAnyH_take (i := 2) (v := .pointer (some ⟨g0, 0, none⟩)) rfl (by kernel_rfl) (by kernel_rfl) (by kernel_rfl) (fun _ _ _ h => h) (Or.inl ⟨by rfl, fun w hSw => by obtain ⟨hs1, hs2, hs3⟩ := hSw; go_simp⟩) h0 ?_
            simp only [Act.put]
            refine wpAnyH_take (i := 4) (v := _) rfl (by kernel_rfl) (by kernel_rfl) (by kernel_rfl) (fun _ _ _ h => h) (yieldsIf_load_mid (by rfl) _ _ rfl _ _ rfl (Lib.byteCells D) _ (fun w h => h.1) hu rfl hi2) h0 ?_
            simp only [Act.put]
            refine wpAnyH_ready (rs := [3]) (by kernel_rfl) (by simp) ?_
            refine AllReadyH.cons rfl (fun K hK => ?_) AllReadyH.nil
            go_simp
            refine (hSH _ (HK2.out _ h0.2.2).2.1 (HK2.out _ h0.2.2).2.2).mono ?_
            rintro e wA3 ⟨rfl, bA3⟩
            go_wp2_with fail
            refine hK.out _ _ (HK2.out _ (below_join h0.2.2 bA3)).1 (fun h3 => ?_)
            clear hK K
            try simp only [Act.put, List.setIfInBounds_toArray, List.set_cons_zero, List.set_cons_succ]
            refine wpAnyH_take (i := 5) (v := .bool false) rfl (by kernel_rfl) (by kernel_rfl) (by kernel_rfl) (fun _ _ _ h => h) (Or.inl ⟨by rfl, fun w hSw => by obtain ⟨hs1, hs2, hs3⟩ := hSw; go_simp⟩) h3 ?_
            simp only [Act.put, List.setIfInBounds_toArray]
            refine wpAnyH_take (i := 6) (v := .bool false) rfl (by kernel_rfl) (by kernel_rfl) (by kernel_rfl) (fun _ _ _ h => h) (Or.inl ⟨by rfl, fun w hSw => by obtain ⟨hs1, hs2, hs3⟩ := hSw; go_simp⟩) h3 ?_
            simp only [Act.put]
            refine wpAnyH_take (i := 7) (v := .int .i64 0) rfl (by kernel_rfl) (by kernel_rfl) (by kernel_rfl) (fun _ _ _ h => h) (Or.inl ⟨by rfl, fun w hSw => by obtain ⟨hs1, hs2, hs3⟩ := hSw; go_simp⟩) h3 ?_
            simp only [Act.put]
            refine wpAnyH_take (i := 8) (v := .pointer (some ⟨gP, 0, none⟩)) rfl (by kernel_rfl) (by kernel_rfl) (by kernel_rfl) (fun _ _ _ h => h) (Or.inl ⟨by rfl, fun w hSw => by obtain ⟨hs1, hs2, hs3⟩ := hSw; go_simp⟩) h3 ?_
            simp only [Act.put]
            refine wpAnyH_take (i := 9) (v := .pointer (some ⟨g0, 0, none⟩)) rfl (by kernel_rfl) (by kernel_rfl) (by kernel_rfl) (fun _ _ _ h => h) (Or.inl ⟨by rfl, fun w hSw => by obtain ⟨hs1, hs2, hs3⟩ := hSw; go_simp⟩) h3 ?_
            simp only [Act.put]
            refine wpAnyH_take (i := 11) (v := _) rfl (by kernel_rfl) (by kernel_rfl) (by kernel_rfl) (fun _ _ _ h => h) (yieldsIf_load_mid (by rfl) _ _ rfl _ _ rfl (Lib.byteCells D) _ (fun w h => h.1) hu rfl hi2) h3 ?_
            simp only [Act.put]
            refine wpAnyH_ready (rs := [10]) (by kernel_rfl) (by simp) ?_
            refine AllReadyH.cons rfl (fun K hK => ?_) AllReadyH.nil
            go_simp
            refine (hSH _ (HK2.out _ h3.2.2).2.1 (HK2.out _ h3.2.2).2.2).mono ?_
            rintro e wA10 ⟨rfl, bA10⟩
            go_wp2_with fail
            refine hK.out _ _ (HK2.out _ (below_join h3.2.2 bA10)).1 (fun h10 => ?_)
            clear hK K
            try simp only [Act.put, List.setIfInBounds_toArray, List.set_cons_zero, List.set_cons_succ]
            refine wpAnyH_take (i := 12) (v := .bool false) rfl (by kernel_rfl) (by kernel_rfl) (by kernel_rfl) (fun _ _ _ h => h) (Or.inl ⟨by rfl, fun w hSw => by obtain ⟨hs1, hs2, hs3⟩ := hSw; go_simp⟩) h10 ?_
            simp only [Act.put, List.setIfInBounds_toArray]
            refine wpAnyH_take (i := 13) (v := .bool false) rfl (by kernel_rfl) (by kernel_rfl) (by kernel_rfl) (fun _ _ _ h => h) (Or.inl ⟨by rfl, fun w hSw => by obtain ⟨hs1, hs2, hs3⟩ := hSw; go_simp⟩) h10 ?_
            simp only [Act.put]
            refine wpAnyH_done (by kernel_rfl) ?_ _
            refine NoPanic.normal ?_
            have HF : Hid (St2 w.heap.size w wA10 g0 g1 gP gT n m t0 t1 t0 t1) := HEd.out.below hswE h10.2.2
            clear h10 h3 h0 HK2 bA3 bA10 HEd
            go_wp2
            exact ⟨⟨0 + 1, by omega, rfl, HF⟩, by simp [intOf]⟩
          · go_simp
            have B1 := (Below.refl _ wd).alloc (Nat.le_refl _) (.cells (dig32 zeros) 25)
            refine hK.out _ _ (HKS.out _ B1) (fun hA => ?_)
            clear hK K
            try simp only [Act.put, List.setIfInBounds_toArray, List.set_cons_zero, List.set_cons_succ]
            refine wpAnyH_ready (rs := [6]) (by kernel_rfl) (by simp) ?_
            refine AllReadyH.cons rfl (fun K hK => ?_) AllReadyH.nil
            go_simp
            refine (hSR _ (HTB.out _ B1).2.1 (HTB.out _ B1).2.2).mono ?_
            rintro e wA ⟨rfl, bA⟩
            have BA := below_join B1 bA
            go_wp2_with fail
            refine hK.out _ _ (HKS.out _ BA) (fun hB9 => ?_)
            clear hK K
            try simp only [Act.put, List.setIfInBounds_toArray, List.set_cons_zero, List.set_cons_succ]
            refine wpAnyH_ready (rs := [8]) (by kernel_rfl) (by simp) ?_
            refine AllReadyH.cons rfl (fun K hK => ?_) AllReadyH.nil
            have LA := (Lies.new wd 25 (dig32 zeros)).below bA
            rw [if_pos (by rfl)]
            refine wp_store_row 25 (.tmp 13) (.tmp 105) rfl wd.heap.size (dig32 D) rfl rfl 25 (dig32 zeros) LA hi hzd ho ?_
            have BC := below_setRow BA (Nat.le_refl _) (dig32 D)
            refine hK.out _ _ (HKS.out _ BC) (fun hC => ?_)
            clear hK K
            try simp only [Act.put, List.setIfInBounds_toArray]
            have LX : Lies (wA.setRow wd.heap.size (dig32 D)) wd.heap.size 25 (dig32 D) := LA.row _
            clear hA hB9 hC BA B1 bA h0 LA
            generalize wA.setRow wd.heap.size (dig32 D) = wE at *
            obtain ⟨gN, hgN⟩ : ∃ gN, gN = wd.heap.size := ⟨_, rfl⟩
            rw [← hgN] at LX ⊢
            clear hgN
            refine wpAnyH_done (by kernel_rfl) ?_ _
            refine NoPanic.normal ?_
            have hgl := LX.lt
            have HE : Hid (St2 w.heap.size w wE g0 g1 gP gT n m t0 t1 t0 t1) := HSd.out.below hsw BC
            clear BC HKS HTB HSd
            have hrd : wE.drew.rangeAt gN 0 (Lib.byteCells D) := fun j v hv => by
              rw [Nat.zero_add]
              exact LX.cell (by unfold dig32; simpa using hv)
            have HEd : Hid (St2 w.heap.size w wE.drew g0 g1 gP gT n m t0 t1 t0 t1) := HE.out.drew 1
            have q1 : wE.drew.cell? ⟨gP, 0, none⟩ = some (.pointer (some ⟨g0, 0, none⟩)) := HE.out.ptr.cell rfl
            have lN : gN < wE.drew.heap.size := hgl
            have lPE : gP < wE.drew.heap.size := HE.out.ptr.lt
            have hswE : w.heap.size ≤ wE.drew.heap.size := HEd.out.bel.size
            clear LX HE hgl
            go_wp2_with fail
            refine wp_region_noPanic ?_
            have HK2 : Hid (∀ W, Below wE.drew.heap.size wE.drew W → (W.rangeAt gN 0 (Lib.byteCells D) ∧ W.cell? ⟨gP, 0, none⟩ = some (.pointer (some ⟨g0, 0, none⟩)) ∧ Below wE.drew.heap.size wE.drew W) ∧ HashIs W g0 (widthN n) (un t0) ∧ KTab W) := fun W hW => ⟨⟨rng_below hrd hW lN, (hW.cell (p := ⟨gP, 0, none⟩) lPE).trans q1, hW⟩, HEd.out.h0.below hW, var?_below (HEd.out.bel.trans (hW.mono hswE)) l_k hg hk⟩
            refine wp_region_held_drew (S := fun w' => w'.rangeAt gN 0 (Lib.byteCells D) ∧ w'.cell? ⟨gP, 0, none⟩ = some (.pointer (some ⟨g0, 0, none⟩)) ∧ Below wE.drew.heap.size wE.drew w') (by kernel_rfl) (HK2.out _ (Below.refl _ _)).1 (fun h0 => ?_)
            clear hrd q1
            generalize wE.drew = wG at *
            refine wpAnyH_take (i := 0) (v := .int .i64 0) rfl (by kernel_rfl) (by kernel_rfl) (by kernel_rfl) (fun _ _ _ h => h) (Or.inl ⟨by rfl, fun w hSw => by obtain ⟨hs1, hs2, hs3⟩ := hSw; go_simp⟩) h0 ?_
            simp only [Act.put, List.setIfInBounds_toArray]
            refine wpAnyH_take (i := 1) (v := .pointer (some ⟨gP, 0, none⟩)) rfl (by kernel_rfl) (by kernel_rfl) (by kernel_rfl) (fun _ _ _ h => h) (Or.inl ⟨by rfl, fun w hSw => by obtain ⟨hs1, hs2, hs3⟩ := hSw; go_simp⟩) h0 ?_
            simp only [Act.put]
            refine wpAnyH_take (i := 2) (v := .pointer (some ⟨g0, 0, none⟩)) rfl (by kernel_rfl) (by kernel_rfl) (by kernel_rfl) (fun _ _ _ h => h) (Or.inl ⟨by rfl, fun w hSw => by obtain ⟨hs1, hs2, hs3⟩ := hSw; go_simp⟩) h0 ?_
            simp only [Act.put]
            refine wpAnyH_take (i := 4) (v := _) rfl (by kernel_rfl) (by kernel_rfl) (by kernel_rfl) (fun _ _ _ h => h) (yieldsIf_load_mid (by rfl) _ _ rfl _ _ rfl (Lib.byteCells D) _ (fun w h => h.1) hu rfl hi2) h0 ?_
            simp only [Act.put]
            refine wpAnyH_ready (rs := [3]) (by kernel_rfl) (by simp) ?_
            refine AllReadyH.cons rfl (fun K hK => ?_) AllReadyH.nil
            go_simp
            refine (hSH _ (HK2.out _ h0.2.2).2.1 (HK2.out _ h0.2.2).2.2).mono ?_
            rintro e wA3 ⟨rfl, bA3⟩
            go_wp2_with fail
            refine hK.out _ _ (HK2.out _ (below_join h0.2.2 bA3)).1 (fun h3 => ?_)
            clear hK K
            try simp only [Act.put, List.setIfInBounds_toArray, List.set_cons_zero, List.set_cons_succ]
            refine wpAnyH_take (i := 5) (v := .bool false) rfl (by kernel_rfl) (by kernel_rfl) (by kernel_rfl) (fun _ _ _ h => h) (Or.inl ⟨by rfl, fun w hSw => by obtain ⟨hs1, hs2, hs3⟩ := hSw; go_simp⟩) h3 ?_
            simp only [Act.put, List.setIfInBounds_toArray]
            refine wpAnyH_take (i := 6) (v := .bool false) rfl (by kernel_rfl) (by kernel_rfl) (by kernel_rfl) (fun _ _ _ h => h) (Or.inl ⟨by rfl, fun w hSw => by obtain ⟨hs1, hs2, hs3⟩ := hSw; go_simp⟩) h3 ?_
            simp only [Act.put]
            refine wpAnyH_take (i := 7) (v := .int .i64 0) rfl (by kernel_rfl) (by kernel_rfl) (by kernel_rfl) (fun _ _ _ h => h) (Or.inl ⟨by rfl, fun w hSw => by obtain ⟨hs1, hs2, hs3⟩ := hSw; go_simp⟩) h3 ?_
            simp only [Act.put]
            refine wpAnyH_take (i := 8) (v := .pointer (some ⟨gP, 0, none⟩)) rfl (by kernel_rfl) (by kernel_rfl) (by kernel_rfl) (fun _ _ _ h => h) (Or.inl ⟨by rfl, fun w hSw => by obtain ⟨hs1, hs2, hs3⟩ := hSw; go_simp⟩) h3 ?_
            simp only [Act.put]
            refine wpAnyH_take (i := 9) (v := .pointer (some ⟨g0, 0, none⟩)) rfl (by kernel_rfl) (by kernel_rfl) (by kernel_rfl) (fun _ _ _ h => h) (Or.inl ⟨by rfl, fun w hSw => by obtain ⟨hs1, hs2, hs3⟩ := hSw; go_simp⟩) h3 ?_
            simp only [Act.put]
            refine wpAnyH_take (i := 11) (v := _) rfl (by kernel_rfl) (by kernel_rfl) (by kernel_rfl) (fun _ _ _ h => h) (yieldsIf_load_mid (by rfl) _ _ rfl _ _ rfl (Lib.byteCells D) _ (fun w h => h.1) hu rfl hi2) h3 ?_
            simp only [Act.put]
            refine wpAnyH_ready (rs := [10]) (by kernel_rfl) (by simp) ?_
            refine AllReadyH.cons rfl (fun K hK => ?_) AllReadyH.nil
            go_simp
            refine (hSH _ (HK2.out _ h3.2.2).2.1 (HK2.out _ h3.2.2).2.2).mono ?_
            rintro e wA10 ⟨rfl, bA10⟩
            go_wp2_with fail
            refine hK.out _ _ (HK2.out _ (below_join h3.2.2 bA10)).1 (fun h10 => ?_)
            clear hK K
            try simp only [Act.put, List.setIfInBounds_toArray, List.set_cons_zero, List.set_cons_succ]
            refine wpAnyH_take (i := 12) (v := .bool false) rfl (by kernel_rfl) (by kernel_rfl) (by kernel_rfl) (fun _ _ _ h => h) (Or.inl ⟨by rfl, fun w hSw => by obtain ⟨hs1, hs2, hs3⟩ := hSw; go_simp⟩) h10 ?_
            simp only [Act.put, List.setIfInBounds_toArray]
            refine wpAnyH_take (i := 13) (v := .bool false) rfl (by kernel_rfl) (by kernel_rfl) (by kernel_rfl) (fun _ _ _ h => h) (Or.inl ⟨by rfl, fun w hSw => by obtain ⟨hs1, hs2, hs3⟩ := hSw; go_simp⟩) h10 ?_
            simp only [Act.put]
            refine wpAnyH_done (by kernel_rfl) ?_ _
            refine NoPanic.normal ?_
            have HF : Hid (St2 w.heap.size w wA10 g0 g1 gP gT n m t0 t1 t0 t1) := HEd.out.below hswE h10.2.2
            clear h10 h3 h0 HK2 bA3 bA10 HEd
            go_wp2
            exact ⟨⟨0 + 1, by omega, rfl, HF⟩, by simp [intOf]⟩
        · have hDl := sumB_length (widthN m) (un t1) (widthN_le m)
          have hSR := fun W (h1 : RTab W) (h2 : BTab W) => sum_r m t1 W h1 h2 (by omega)
          have hSH := fun W (h1 : HashIs W g1 (widthN m) (un t1)) (h2 : KTab W) => hsum_p (widthN m) (widthN_le m) (un t1) (by rw [un_length]; omega) g1 W h1 h2
          have heq : ∀ W, (Op.equalIn 10000 25 (.agg (dig32 (sumB (widthN m) (un t1)))) (.agg (Lib.byteCells (sumB (widthN m) (un t1))).toArray)).run Tryz.prog W = .ok true W := fun W => eq_same _ hDl W
          generalize hDD : sumB (widthN m) (un t1) = D at *
          have hi : (Tryz.prog.info? 25).map (·.size) = some (dig32 D).size := by rw [dig32_size, hDl]; kernel_rfl
          have hzd : (dig32 zeros).size = (dig32 D).size := by rw [dig32_size, dig32_size, hDl]; rfl
          have ho := dig32_one D
          have hu := Tryz.underlying25
          have hcl : (Lib.byteCells D).length = 32 := by rw [Lib.byteCells_length, hDl]
          have hi2 : (Tryz.prog.info? 25).map (·.size) = some (Lib.byteCells D).length := by rw [hcl]; kernel_rfl
          have p1 : wr.drew.cell? ⟨w.heap.size, 1, none⟩ = some (.int .i64 m) := HS.out.wid.cell rfl
          have p2 : wr.drew.cell? ⟨gT, 1, none⟩ = some (.string t1) := HS.out.txt.cell rfl
          have lW : w.heap.size < wr.drew.heap.size := HS.out.wid.lt
          have lT : gT < wr.drew.heap.size := HS.out.txt.lt
          have lP : gP < wr.drew.heap.size := HS.out.ptr.lt
          have HSd : Hid (St2 w.heap.size w wr.drew g0 g1 gP gT n m t0 t1 t0 t1) := HS.out.drew 1
          have hsw : w.heap.size ≤ wr.drew.heap.size := HSd.out.bel.size
          have HKS : Hid (∀ W, Below wr.drew.heap.size wr.drew W → W.cell? ⟨w.heap.size, 1, none⟩ = some (.int .i64 m) ∧ W.cell? ⟨gT, 1, none⟩ = some (.string t1) ∧ Below wr.drew.heap.size wr.drew W) := fun W hW => ⟨(hW.cell (p := ⟨w.heap.size, 1, none⟩) lW).trans p1, (hW.cell (p := ⟨gT, 1, none⟩) lT).trans p2, hW⟩
          have HTB : Hid (∀ W, Below wr.drew.heap.size wr.drew W → KTab W ∧ RTab W ∧ BTab W) := fun W hW => ⟨var?_below (HSd.out.bel.trans (hW.mono hsw)) l_k hg hk, var?_below (HSd.out.bel.trans (hW.mono hsw)) l_r hgr hr, var?_below (HSd.out.bel.trans (hW.mono hsw)) l_b hgb hbt⟩
          clear HS
          go_wp2_with fail
          refine wp_region_noPanic ?_
          refine wp_region_held_drew (S := fun w' => w'.cell? ⟨w.heap.size, 1, none⟩ = some (.int .i64 m) ∧ w'.cell? ⟨gT, 1, none⟩ = some (.string t1) ∧ Below wr.drew.heap.size wr.drew w') (by kernel_rfl) (HKS.out _ (Below.refl _ _)) (fun h0 => ?_)
          generalize wr.drew = wd at *
          refine wpAnyH_take (i := 0) (v := .int .i64 1) rfl (by kernel_rfl) (by kernel_rfl) (by kernel_rfl) (fun _ _ _ h => h) (Or.inl ⟨by rfl, fun w hSw => by obtain ⟨hs1, hs2, hs3⟩ := hSw; go_simp⟩) h0 ?_
          simp only [Act.put, List.setIfInBounds_toArray]
          refine wpAnyH_take (i := 1) (v := .pointer (some ⟨w.heap.size, 1, none⟩)) rfl (by kernel_rfl) (by kernel_rfl) (by kernel_rfl) (fun _ _ _ h => h) (Or.inl ⟨by rfl, fun w hSw => by obtain ⟨hs1, hs2, hs3⟩ := hSw; go_simp⟩) h0 ?_
          simp only [Act.put]
          refine wpAnyH_take (i := 2) (v := .int .i64 m) rfl (by kernel_rfl) (by kernel_rfl) (by kernel_rfl) (fun _ _ _ h => h) (Or.inl ⟨by rfl, fun w hSw => by obtain ⟨hs1, hs2, hs3⟩ := hSw; go_simp⟩) h0 ?_
          simp only [Act.put]
          refine wpAnyH_take (i := 3) (v := .int .i64 1) rfl (by kernel_rfl) (by kernel_rfl) (by kernel_rfl) (fun _ _ _ h => h) (Or.inl ⟨by rfl, fun w hSw => by obtain ⟨hs1, hs2, hs3⟩ := hSw; go_simp⟩) h0 ?_
          simp only [Act.put]
          refine wpAnyH_take (i := 4) (v := .pointer (some ⟨gT, 1, none⟩)) rfl (by kernel_rfl) (by kernel_rfl) (by kernel_rfl) (fun _ _ _ h => h) (Or.inl ⟨by rfl, fun w hSw => by obtain ⟨hs1, hs2, hs3⟩ := hSw; go_simp⟩) h0 ?_
          simp only [Act.put]
          refine wpAnyH_take (i := 5) (v := .string t1) rfl (by kernel_rfl) (by kernel_rfl) (by kernel_rfl) (fun _ _ _ h => h) (Or.inl ⟨by rfl, fun w hSw => by obtain ⟨hs1, hs2, hs3⟩ := hSw; go_simp⟩) h0 ?_
          simp only [Act.put]
          refine wpAnyH_ready (rs := [6, 7]) (by kernel_rfl) (by simp) ?_
          refine AllReadyH.cons rfl (fun K hK => ?_) (AllReadyH.cons rfl (fun K hK => ?_) AllReadyH.nil)
          · go_simp
            refine (hSR _ (HTB.out _ h0.2.2).2.1 (HTB.out _ h0.2.2).2.2).mono ?_
            rintro e wA ⟨rfl, bA⟩
            have BA := below_join h0.2.2 bA
            go_wp2_with fail
            refine hK.out _ _ (HKS.out _ BA) (fun hA => ?_)
            clear hK K
            try simp only [Act.put, List.setIfInBounds_toArray, List.set_cons_zero, List.set_cons_succ]
            refine wpAnyH_ready (rs := [7]) (by kernel_rfl) (by simp) ?_
            refine AllReadyH.cons rfl (fun K hK => ?_) AllReadyH.nil
            go_simp
            have BB := BA.alloc BA.size (.cells (dig32 zeros) 25)
            refine hK.out _ _ (HKS.out _ BB) (fun hB9 => ?_)
            clear hK K
            try simp only [Act.put, List.setIfInBounds_toArray, List.set_cons_zero, List.set_cons_succ]
            refine wpAnyH_ready (rs := [8]) (by kernel_rfl) (by simp) ?_
            refine AllReadyH.cons rfl (fun K hK => ?_) AllReadyH.nil
            rw [if_pos (by rfl)]
            refine wp_store_row 25 (.tmp 13) (.tmp 105) rfl wA.heap.size (dig32 D) rfl rfl 25 (dig32 zeros) (Lies.new wA _ _) hi hzd ho ?_
            have BC := below_setRow BB BA.size (dig32 D)
            refine hK.out _ _ (HKS.out _ BC) (fun hC => ?_)
            clear hK K
            try simp only [Act.put, List.setIfInBounds_toArray]
            have LX : Lies ((wA.alloc (.cells (dig32 zeros) 25)).setRow wA.heap.size (dig32 D)) wA.heap.size 25 (dig32 D) := (Lies.new wA _ _).row _
            clear hA hB9 hC BA BB bA h0
            generalize (wA.alloc (.cells (dig32 zeros) 25)).setRow wA.heap.size (dig32 D) = wE at *
            generalize wA.heap.size = gN at *
            refine wpAnyH_done (by kernel_rfl) ?_ _
            refine NoPanic.normal ?_
            have hgl := LX.lt
            have HE : Hid (St2 w.heap.size w wE g0 g1 gP gT n m t0 t1 t0 t1) := HSd.out.below hsw BC
            clear BC HKS HTB HSd
            have hrd : wE.drew.rangeAt gN 0 (Lib.byteCells D) := fun j v hv => by
              rw [Nat.zero_add]
              exact LX.cell (by unfold dig32; simpa using hv)
            have HEd : Hid (St2 w.heap.size w wE.drew g0 g1 gP gT n m t0 t1 t0 t1) := HE.out.drew 1
            have q1 : wE.drew.cell? ⟨gP, 1, none⟩ = some (.pointer (some ⟨g1, 0, none⟩)) := HE.out.ptr.cell rfl
            have lN : gN < wE.drew.heap.size := hgl
            have lPE : gP < wE.drew.heap.size := HE.out.ptr.lt
            have hswE : w.heap.size ≤ wE.drew.heap.size := HEd.out.bel.size
            clear LX HE hgl
            go_wp2_with fail
            refine wp_region_noPanic ?_
            have HK2 : Hid (∀ W, Below wE.drew.heap.size wE.drew W → (W.rangeAt gN 0 (Lib.byteCells D) ∧ W.cell? ⟨gP, 1, none⟩ = some (.pointer (some ⟨g1, 0, none⟩)) ∧ Below wE.drew.heap.size wE.drew W) ∧ HashIs W g1 (widthN m) (un t1) ∧ KTab W) := fun W hW => ⟨⟨rng_below hrd hW lN, (hW.cell (p := ⟨gP, 1, none⟩) lPE).trans q1, hW⟩, HEd.out.h1.below hW, var?_below (HEd.out.bel.trans (hW.mono hswE)) l_k hg hk⟩
            refine wp_region_held_drew (S := fun w' => w'.rangeAt gN 0 (Lib.byteCells D) ∧ w'.cell? ⟨gP, 1, none⟩ = some (.pointer (some ⟨g1, 0, none⟩)) ∧ Below wE.drew.heap.size wE.drew w') (by kernel_rfl) (HK2.out _ (Below.refl _ _)).1 (fun h0 => ?_)
            clear hrd q1
            generalize wE.drew = wG at *
            refine wpAnyH_take (i := 0) (v := .int .i64 1) rfl (by kernel_rfl) (by kernel_rfl) (by kernel_rfl) (fun _ _ _ h => h) (Or.inl ⟨by rfl, fun w hSw => by obtain ⟨hs1, hs2, hs3⟩ := hSw; go_simp⟩) h0 ?_
            simp only [Act.put, List.setIfInBounds_toArray]
            refine wpAnyH_take (i := 1) (v := .pointer (some ⟨gP, 1, none⟩)) rfl (by kernel_rfl) (by kernel_rfl) (by kernel_rfl) (fun _ _ _ h => h) (Or.inl ⟨by rfl, fun w hSw => by obtain ⟨hs1, hs2, hs3⟩ := hSw; go_simp⟩) h0 ?_
            simp only [Act.put]
            refine wpAnyH_take (i := 2) (v := .pointer (some ⟨g1, 0, none⟩)) rfl (by kernel_rfl) (by kernel_rfl) (by kernel_rfl) (fun _ _ _ h => h) (Or.inl ⟨by rfl, fun w hSw => by obtain ⟨hs1, hs2, hs3⟩ := hSw; go_simp⟩) h0 ?_
            simp only [Act.put]
            refine wpAnyH_take (i := 4) (v := _) rfl (by kernel_rfl) (by kernel_rfl) (by kernel_rfl) (fun _ _ _ h => h) (yieldsIf_load_mid (by rfl) _ _ rfl _ _ rfl (Lib.byteCells D) _ (fun w h => h.1) hu rfl hi2) h0 ?_
            simp only [Act.put]
            refine wpAnyH_ready (rs := [3]) (by kernel_rfl) (by simp) ?_
            refine AllReadyH.cons rfl (fun K hK => ?_) AllReadyH.nil
            go_simp
            refine (hSH _ (HK2.out _ h0.2.2).2.1 (HK2.out _ h0.2.2).2.2).mono ?_
            rintro e wA3 ⟨rfl, bA3⟩
            go_wp2_with fail
            refine hK.out _ _ (HK2.out _ (below_join h0.2.2 bA3)).1 (fun h3 => ?_)
            clear hK K
            try simp only [Act.put, List.setIfInBounds_toArray, List.set_cons_zero, List.set_cons_succ]
            refine wpAnyH_take (i := 5) (v := .bool false) rfl (by kernel_rfl) (by kernel_rfl) (by kernel_rfl) (fun _ _ _ h => h) (Or.inl ⟨by rfl, fun w hSw => by obtain ⟨hs1, hs2, hs3⟩ := hSw; go_simp⟩) h3 ?_
            simp only [Act.put, List.setIfInBounds_toArray]
            refine wpAnyH_take (i := 6) (v := .bool false) rfl (by kernel_rfl) (by kernel_rfl) (by kernel_rfl) (fun _ _ _ h => h) (Or.inl ⟨by rfl, fun w hSw => by obtain ⟨hs1, hs2, hs3⟩ := hSw; go_simp⟩) h3 ?_
            simp only [Act.put]
            refine wpAnyH_take (i := 7) (v := .int .i64 1) rfl (by kernel_rfl) (by kernel_rfl) (by kernel_rfl) (fun _ _ _ h => h) (Or.inl ⟨by rfl, fun w hSw => by obtain ⟨hs1, hs2, hs3⟩ := hSw; go_simp⟩) h3 ?_
            simp only [Act.put]
            refine wpAnyH_take (i := 8) (v := .pointer (some ⟨gP, 1, none⟩)) rfl (by kernel_rfl) (by kernel_rfl) (by kernel_rfl) (fun _ _ _ h => h) (Or.inl ⟨by rfl, fun w hSw => by obtain ⟨hs1, hs2, hs3⟩ := hSw; go_simp⟩) h3 ?_
            simp only [Act.put]
            refine wpAnyH_take (i := 9) (v := .pointer (some ⟨g1, 0, none⟩)) rfl (by kernel_rfl) (by kernel_rfl) (by kernel_rfl) (fun _ _ _ h => h) (Or.inl ⟨by rfl, fun w hSw => by obtain ⟨hs1, hs2, hs3⟩ := hSw; go_simp⟩) h3 ?_
            simp only [Act.put]
            refine wpAnyH_take (i := 11) (v := _) rfl (by kernel_rfl) (by kernel_rfl) (by kernel_rfl) (fun _ _ _ h => h) (yieldsIf_load_mid (by rfl) _ _ rfl _ _ rfl (Lib.byteCells D) _ (fun w h => h.1) hu rfl hi2) h3 ?_
            simp only [Act.put]
            refine wpAnyH_ready (rs := [10]) (by kernel_rfl) (by simp) ?_
            refine AllReadyH.cons rfl (fun K hK => ?_) AllReadyH.nil
            go_simp
            refine (hSH _ (HK2.out _ h3.2.2).2.1 (HK2.out _ h3.2.2).2.2).mono ?_
            rintro e wA10 ⟨rfl, bA10⟩
            go_wp2_with fail
            refine hK.out _ _ (HK2.out _ (below_join h3.2.2 bA10)).1 (fun h10 => ?_)
            clear hK K
            try simp only [Act.put, List.setIfInBounds_toArray, List.set_cons_zero, List.set_cons_succ]
            refine wpAnyH_take (i := 12) (v := .bool false) rfl (by kernel_rfl) (by kernel_rfl) (by kernel_rfl) (fun _ _ _ h => h) (Or.inl ⟨by rfl, fun w hSw => by obtain ⟨hs1, hs2, hs3⟩ := hSw; go_simp⟩) h10 ?_
            simp only [Act.put, List.setIfInBounds_toArray]
            refine wpAnyH_take (i := 13) (v := .bool false) rfl (by kernel_rfl) (by kernel_rfl) (by kernel_rfl) (fun _ _ _ h => h) (Or.inl ⟨by rfl, fun w hSw => by obtain ⟨hs1, hs2, hs3⟩ := hSw; go_simp⟩) h10 ?_
            simp only [Act.put]
            refine wpAnyH_done (by kernel_rfl) ?_ _
            refine NoPanic.normal ?_
            have HF : Hid (St2 w.heap.size w wA10 g0 g1 gP gT n m t0 t1 t0 t1) := HEd.out.below hswE h10.2.2
            clear h10 h3 h0 HK2 bA3 bA10 HEd
            go_wp2
            exact ⟨⟨1 + 1, by omega, rfl, HF⟩, by simp [intOf]⟩
          · go_simp
            have B1 := (Below.refl _ wd).alloc (Nat.le_refl _) (.cells (dig32 zeros) 25)
            refine hK.out _ _ (HKS.out _ B1) (fun hA => ?_)
            clear hK K
            try simp only [Act.put, List.setIfInBounds_toArray, List.set_cons_zero, List.set_cons_succ]
            refine wpAnyH_ready (rs := [6]) (by kernel_rfl) (by simp) ?_
            refine AllReadyH.cons rfl (fun K hK => ?_) AllReadyH.nil
            go_simp
            refine (hSR _ (HTB.out _ B1).2.1 (HTB.out _ B1).2.2).mono ?_
            rintro e wA ⟨rfl, bA⟩
            have BA := below_join B1 bA
            go_wp2_with fail
            refine hK.out _ _ (HKS.out _ BA) (fun hB9 => ?_)
            clear hK K
            try simp only [Act.put, List.setIfInBounds_toArray, List.set_cons_zero, List.set_cons_succ]
            refine wpAnyH_ready (rs := [8]) (by kernel_rfl) (by simp) ?_
            refine AllReadyH.cons rfl (fun K hK => ?_) AllReadyH.nil
            have LA := (Lies.new wd 25 (dig32 zeros)).below bA
            rw [if_pos (by rfl)]
            refine wp_store_row 25 (.tmp 13) (.tmp 105) rfl wd.heap.size (dig32 D) rfl rfl 25 (dig32 zeros) LA hi hzd ho ?_
            have BC := below_setRow BA (Nat.le_refl _) (dig32 D)
            refine hK.out _ _ (HKS.out _ BC) (fun hC => ?_)
            clear hK K
            try simp only [Act.put, List.setIfInBounds_toArray]
            have LX : Lies (wA.setRow wd.heap.size (dig32 D)) wd.heap.size 25 (dig32 D) := LA.row _
            clear hA hB9 hC BA B1 bA h0 LA
            generalize wA.setRow wd.heap.size (dig32 D) = wE at *
            obtain ⟨gN, hgN⟩ : ∃ gN, gN = wd.heap.size := ⟨_, rfl⟩
            rw [← hgN] at LX ⊢
            clear hgN
            refine wpAnyH_done (by kernel_rfl) ?_ _
            refine NoPanic.normal ?_
            have hgl := LX.lt
            have HE : Hid (St2 w.heap.size w wE g0 g1 gP gT n m t0 t1 t0 t1) := HSd.out.below hsw BC
            clear BC HKS HTB HSd
            have hrd : wE.drew.rangeAt gN 0 (Lib.byteCells D) := fun j v hv => by
              rw [Nat.zero_add]
              exact LX.cell (by unfold dig32; simpa using hv)
            have HEd : Hid (St2 w.heap.size w wE.drew g0 g1 gP gT n m t0 t1 t0 t1) := HE.out.drew 1
            have q1 : wE.drew.cell? ⟨gP, 1, none⟩ = some (.pointer (some ⟨g1, 0, none⟩)) := HE.out.ptr.cell rfl
            have lN : gN < wE.drew.heap.size := hgl
            have lPE : gP < wE.drew.heap.size := HE.out.ptr.lt
            have hswE : w.heap.size ≤ wE.drew.heap.size := HEd.out.bel.size
            clear LX HE hgl
            go_wp2_with fail
            refine wp_region_noPanic ?_
            have HK2 : Hid (∀ W, Below wE.drew.heap.size wE.drew W → (W.rangeAt gN 0 (Lib.byteCells D) ∧ W.cell? ⟨gP, 1, none⟩ = some (.pointer (some ⟨g1, 0, none⟩)) ∧ Below wE.drew.heap.size wE.drew W) ∧ HashIs W g1 (widthN m) (un t1) ∧ KTab W) := fun W hW => ⟨⟨rng_below hrd hW lN, (hW.cell (p := ⟨gP, 1, none⟩) lPE).trans q1, hW⟩, HEd.out.h1.below hW, var?_below (HEd.out.bel.trans (hW.mono hswE)) l_k hg hk⟩
            refine wp_region_held_drew (S := fun w' => w'.rangeAt gN 0 (Lib.byteCells D) ∧ w'.cell? ⟨gP, 1, none⟩ = some (.pointer (some ⟨g1, 0, none⟩)) ∧ Below wE.drew.heap.size wE.drew w') (by kernel_rfl) (HK2.out _ (Below.refl _ _)).1 (fun h0 => ?_)
            clear hrd q1
            generalize wE.drew = wG at *
            refine wpAnyH_take (i := 0) (v := .int .i64 1) rfl (by kernel_rfl) (by kernel_rfl) (by kernel_rfl) (fun _ _ _ h => h) (Or.inl ⟨by rfl, fun w hSw => by obtain ⟨hs1, hs2, hs3⟩ := hSw; go_simp⟩) h0 ?_
            simp only [Act.put, List.setIfInBounds_toArray]
            refine wpAnyH_take (i := 1) (v := .pointer (some ⟨gP, 1, none⟩)) rfl (by kernel_rfl) (by kernel_rfl) (by kernel_rfl) (fun _ _ _ h => h) (Or.inl ⟨by rfl, fun w hSw => by obtain ⟨hs1, hs2, hs3⟩ := hSw; go_simp⟩) h0 ?_
            simp only [Act.put]
            refine wpAnyH_take (i := 2) (v := .pointer (some ⟨g1, 0, none⟩)) rfl (by kernel_rfl) (by kernel_rfl) (by kernel_rfl) (fun _ _ _ h => h) (Or.inl ⟨by rfl, fun w hSw => by obtain ⟨hs1, hs2, hs3⟩ := hSw; go_simp⟩) h0 ?_
            simp only [Act.put]
            refine wpAnyH_take (i := 4) (v := _) rfl (by kernel_rfl) (by kernel_rfl) (by kernel_rfl) (fun _ _ _ h => h) (yieldsIf_load_mid (by rfl) _ _ rfl _ _ rfl (Lib.byteCells D) _ (fun w h => h.1) hu rfl hi2) h0 ?_
            simp only [Act.put]
            refine wpAnyH_ready (rs := [3]) (by kernel_rfl) (by simp) ?_
            refine AllReadyH.cons rfl (fun K hK => ?_) AllReadyH.nil
            go_simp
            refine (hSH _ (HK2.out _ h0.2.2).2.1 (HK2.out _ h0.2.2).2.2).mono ?_
            rintro e wA3 ⟨rfl, bA3⟩
            go_wp2_with fail
            refine hK.out _ _ (HK2.out _ (below_join h0.2.2 bA3)).1 (fun h3 => ?_)
            clear hK K
            try simp only [Act.put, List.setIfInBounds_toArray, List.set_cons_zero, List.set_cons_succ]
            refine wpAnyH_take (i := 5) (v := .bool false) rfl (by kernel_rfl) (by kernel_rfl) (by kernel_rfl) (fun _ _ _ h => h) (Or.inl ⟨by rfl, fun w hSw => by obtain ⟨hs1, hs2, hs3⟩ := hSw; go_simp⟩) h3 ?_
            simp only [Act.put, List.setIfInBounds_toArray]
            refine wpAnyH_take (i := 6) (v := .bool false) rfl (by kernel_rfl) (by kernel_rfl) (by kernel_rfl) (fun _ _ _ h => h) (Or.inl ⟨by rfl, fun w hSw => by obtain ⟨hs1, hs2, hs3⟩ := hSw; go_simp⟩) h3 ?_
            simp only [Act.put]
            refine wpAnyH_take (i := 7) (v := .int .i64 1) rfl (by kernel_rfl) (by kernel_rfl) (by kernel_rfl) (fun _ _ _ h => h) (Or.inl ⟨by rfl, fun w hSw => by obtain ⟨hs1, hs2, hs3⟩ := hSw; go_simp⟩) h3 ?_
            simp only [Act.put]
            refine wpAnyH_take (i := 8) (v := .pointer (some ⟨gP, 1, none⟩)) rfl (by kernel_rfl) (by kernel_rfl) (by kernel_rfl) (fun _ _ _ h => h) (Or.inl ⟨by rfl, fun w hSw => by obtain ⟨hs1, hs2, hs3⟩ := hSw; go_simp⟩) h3 ?_
            simp only [Act.put]
            refine wpAnyH_take (i := 9) (v := .pointer (some ⟨g1, 0, none⟩)) rfl (by kernel_rfl) (by kernel_rfl) (by kernel_rfl) (fun _ _ _ h => h) (Or.inl ⟨by rfl, fun w hSw => by obtain ⟨hs1, hs2, hs3⟩ := hSw; go_simp⟩) h3 ?_
            simp only [Act.put]
            refine wpAnyH_take (i := 11) (v := _) rfl (by kernel_rfl) (by kernel_rfl) (by kernel_rfl) (fun _ _ _ h => h) (yieldsIf_load_mid (by rfl) _ _ rfl _ _ rfl (Lib.byteCells D) _ (fun w h => h.1) hu rfl hi2) h3 ?_
            simp only [Act.put]
            refine wpAnyH_ready (rs := [10]) (by kernel_rfl) (by simp) ?_
            refine AllReadyH.cons rfl (fun K hK => ?_) AllReadyH.nil
            go_simp
            refine (hSH _ (HK2.out _ h3.2.2).2.1 (HK2.out _ h3.2.2).2.2).mono ?_
            rintro e wA10 ⟨rfl, bA10⟩
            go_wp2_with fail
            refine hK.out _ _ (HK2.out _ (below_join h3.2.2 bA10)).1 (fun h10 => ?_)
            clear hK K
            try simp only [Act.put, List.setIfInBounds_toArray, List.set_cons_zero, List.set_cons_succ]
            refine wpAnyH_take (i := 12) (v := .bool false) rfl (by kernel_rfl) (by kernel_rfl) (by kernel_rfl) (fun _ _ _ h => h) (Or.inl ⟨by rfl, fun w hSw => by obtain ⟨hs1, hs2, hs3⟩ := hSw; go_simp⟩) h10 ?_
            simp only [Act.put, List.setIfInBounds_toArray]
            refine wpAnyH_take (i := 13) (v := .bool false) rfl (by kernel_rfl) (by kernel_rfl) (by kernel_rfl) (fun _ _ _ h => h) (Or.inl ⟨by rfl, fun w hSw => by obtain ⟨hs1, hs2, hs3⟩ := hSw; go_simp⟩) h10 ?_
            simp only [Act.put]
            refine wpAnyH_done (by kernel_rfl) ?_ _
            refine NoPanic.normal ?_
            have HF : Hid (St2 w.heap.size w wA10 g0 g1 gP gT n m t0 t1 t0 t1) := HEd.out.below hswE h10.2.2
            clear h10 h3 h0 HK2 bA3 bA10 HEd
            go_wp2
            exact ⟨⟨1 + 1, by omega, rfl, HF⟩, by simp [intOf]⟩
        · go_wp2_with fail
          have B9 := HS.out.bel
          refine (works_p wr (var?_below B9 l_k hg hk) (hp.below B9)).mono ?_
          rintro e w9 ⟨rfl, b9⟩
          have B10 := below_join B9 b9
          go_wp2
          go_ret
          exact ⟨rfl, B10⟩
end Go.Proofs.YtodgcmhkojkpcaaGreatDoor
