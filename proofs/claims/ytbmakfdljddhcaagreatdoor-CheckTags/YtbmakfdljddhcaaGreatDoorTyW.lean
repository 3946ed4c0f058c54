/- What the pieces come to, in memory: writing into the text; its value; its depth. -/
import Derived.Test.YtbmakfdljddhcaaGreatDoorTxW
namespace Go.Proofs.YtbmakfdljddhcaaGreatDoor
open Go Go.RowKit Go.Maps

/-- Where the bytes lie behind an append of a text. -/
theorem str_at (w : World) (base : Nat) (t u ty e : TypeId) (i : TypeInfo) (ht : Tryz.prog.underlying t = some (.slice e)) (hu : Tryz.prog.underlying u = some .string) (hi : Tryz.prog.info? e = some i) (hz : i.zero = some (.int .u8 0))
    (hsize : i.size = 1) (hby : i.bytes = 1) (v : Value) (n : Nat) (xs : List Value) (hown : w.ownsRow base e 1 v n xs) (s : ByteArray)
    (h63 : n + s.size ≤ maxLen) (hbytes : n + s.size ≤ 140737488355328) (hbase : base ≤ w.heap.size) :
    ∃ v' w', (Builtin.append_ #[t, u] ty #[v, .string s]).run Tryz.prog w = .ok v' w' ∧ w'.ownsRow base e 1 v' (n + s.size) (xs ++ Lib.strCells s) ∧ w.grownBy w' v.ownBlock ∧ (v'.ownBlock = v.ownBlock ∨ v'.ownBlock = some w.heap.size) := by
  obtain ⟨v', w', hr, h2, h3, h4⟩ := Lib.run_append_own_string (P := Tryz.prog) w base t u ty e i ht hu hi hz hsize hby v n xs hown s h63 hbytes hbase
  refine ⟨v', w', hr, h2, h3, ?_⟩
  have hsmall : n + s.size ≤ 9223372036854775807 := by simp only [maxLen] at h63; omega
  have hxl : xs.length = n := by simpa using hown.1
  rcases hown.2 with ⟨rfl, rfl⟩ | ⟨g, cap, cur, rfl, hbg, hg, hnc, hcm, hcs, htake⟩
  · by_cases hm : s.size = 0
    · left; rw [h4.2 ⟨rfl, hm⟩]
    · have hr2 := run_append_nil_string (P := Tryz.prog) w t u ty e i (.int .u8 0) ht hu hi hz s (by omega) (by omega) (by rw [hby]; omega)
      rw [hr2] at hr
      injection hr with hr _
      right; rw [← hr]; rfl
  · by_cases hroom : n + s.size ≤ cap
    · have hr2 := Lib.run_append_room_string (P := Tryz.prog) w t u ty e i ht hu hi hsize g n cap cur hg s hroom (by omega)
      rw [hr2] at hr
      injection hr with hr _
      left; rw [← hr]; rfl
    · have holds : ∀ j u, xs[j]? = some u → w.cell? ((⟨g, 0, none⟩ : Addr).add j) = some u := hown.cells (g := g) rfl
      have hr2 := Lib.run_append_grow_string (P := Tryz.prog) w t u ty e i (.int .u8 0) ht hu hi hz ⟨g, 0, none⟩ n cap xs (by rw [hsize]; simpa using hxl) holds s (by omega) (by omega) (by rw [hby]; exact growslice_fits (by omega) (by omega))
      rw [hr2] at hr
      injection hr with hr _
      right; rw [← hr]; rfl
theorem wpList_str_at {ops : Array Oper} {rest : List Oper} {o : Oper} {a : Act} {Q : Exit → Act → World → Prop} (w : World) (hgd : o.guard = none) (sl x : Operand) (t u : TypeId)
    (ho : o.op = .call { callee := .builtin .append, args := #[sl, x], argTypes := #[t, u] })
    (base : Nat) (e : TypeId) (i : TypeInfo) (ht : Tryz.prog.underlying t = some (.slice e)) (hu : Tryz.prog.underlying u = some .string) (hi : Tryz.prog.info? e = some i) (hz : i.zero = some (.int .u8 0))
    (hsize : i.size = 1) (hby : i.bytes = 1)
    (v : Value) (n : Nat) (xs : List Value) (hs : a.eval sl = v) (hown : w.ownsRow base e 1 v n xs) (s : ByteArray) (hx : a.eval x = .string s)
    (h63 : n + s.size ≤ maxLen) (hbytes : n + s.size ≤ 140737488355328) (hbase : base ≤ w.heap.size)
    (h : ∀ v' w', w'.ownsRow base e 1 v' (n + s.size) (xs ++ Lib.strCells s) → w.grownBy w' v.ownBlock → (v'.ownBlock = v.ownBlock ∨ v'.ownBlock = some w.heap.size) → wpList Tryz.prog ops Q rest (a.put o.dst v') w') : wpList Tryz.prog ops Q (o :: rest) a w := by
  refine wpList_plain hgd fun K hK => ?_
  obtain ⟨v', w', hr, h2, h3, h4⟩ := str_at w base t u o.type e i ht hu hi hz hsize hby v n xs hown s h63 hbytes hbase
  unfold Oper.wp execOp
  simp only [ho, resolve, invoke, builtin, Sem.run_bind, Sem.run_pure, Result.andThen_ok, List.map_toArray, List.map_cons, List.map_nil, hs, hx, hr]
  exact hK _ _ (h v' w' h2 h3 h4)

set_option maxHeartbeats 2000000 in
set_option maxRecDepth 100000 in
theorem wstr_b (s : ByteArray) (W : World) (B T : Nat) (vs : List PrZ) (t : TS) (vv mp ad bv : Value) (h : Tz W B T vs t vv mp ad bv) (hl : t.o.length + s.size ≤ 140737488355328) (hB : B ≤ W.heap.size) : Calls Tryz.prog 160 #[.pointer (some ⟨T, 2, none⟩), .string s] W fun x w' => x = .returned (.tuple #[.int .i64 s.size, .nilIface]) ∧ ∃ ad2 bv2, Tz w' B T vs { t with o := t.o ++ un s } vv mp ad2 bv2 ∧ Rnd (txS T mp bv) (txS T mp bv2) W w' := by
  obtain ⟨i0, hi, z0, z1, z2⟩ := info_parts u8_info
  have hlc := Lib.byteCells_length t.o
  go_enter Tryz.func160, Tryz.ntmps160
  go_wp2_with (go_at_call 161; refine (check_b W B T vs t vv mp ad bv h).mono ?_)
  rintro e w1 ⟨rfl, h1, r1⟩
  obtain ⟨oa, oc, hbv⟩ := own_sliceN h1.own
  subst hbv
  have c3 := h1.lies.cell (i := 3) rfl
  have hown := h1.own
  have H1 : Hid (Tz w1 B T vs t vv mp (.pointer (some ⟨T, 2, none⟩)) (.slice oa t.o.length oc)) := h1
  have hb1 : B ≤ w1.heap.size := Nat.le_trans hB r1.size
  clear h h1
  go_wp2_with (at_builtin; refine wpList_str_at _ rfl _ _ 148 9 rfl B 5 i0 Tryz.underlying148 Tryz.underlying9 hi z0 z1 z2 (.slice oa t.o.length oc) _ _ rfl hown s rfl (by unfold maxLen; omega) hl hb1 ?_; intro v1 w2 hown2 hg2 hat; obtain ⟨ov, cv, rfl⟩ := own_sliceN hown2; have hL2 : Lies w2 T 152 #[vv, mp, .pointer (some ⟨T, 2, none⟩), .slice oa t.o.length oc, .bool t.long, .int .i64 t.d.depth, .int .i64 t.d.hid] := (hg2.block T H1.out.lies.lt (fun e => H1.out.bne e.symm)).trans H1.out.lies; have k3 := hL2.cell (i := 3) rfl; have kf := hL2.frozen 3)
  have h1 := H1.out
  go_ret2
  have hTlt := hL2.lt
  have rg0 : Rnd (txS T mp (.slice oa t.o.length oc)) (txS T mp (.slice oa t.o.length oc)) w1 (w2.setCell ⟨T, 3, none⟩ (.slice ov (t.o.length + s.size) cv)) := ((Rnd.refl _ w1).grown hg2 (fun j hj => .inr (.inr hj))).set (.inl rfl) _
  have hsz : (w2.setCell ⟨T, 3, none⟩ (.slice ov (t.o.length + s.size) cv)).heap.size = w2.heap.size := by simp [World.setCell]
  have rg2 : Rnd (txS T mp (.slice oa t.o.length oc)) (txS T mp (.slice ov (t.o.length + s.size) cv)) w1 (w2.setCell ⟨T, 3, none⟩ (.slice ov (t.o.length + s.size) cv)) := rg0.to (fun j hj => by
    rcases hj with hj | hj | hj
    · exact .inl (.inl hj)
    · exact .inl (.inr (.inl hj))
    · rcases hat with h9 | h9
      · exact .inl (.inr (.inr (by rw [← h9]; exact hj)))
      · right
        have hjw : j = w1.heap.size := by rw [hj] at h9; exact Option.some.inj h9
        have hjl : j < w2.heap.size := by
          rcases hown2.2 with ⟨h8, _⟩ | ⟨g, cap, cur, h8, _, hg8, _⟩
          · rw [h8] at hj; cases hj
          · rw [h8] at hj
            have hj : g = j := by simpa [Value.ownBlock] using hj
            rw [← hj]; exact (Array.getElem?_eq_some_iff.1 hg8).1
        exact ⟨by omega, by rw [hsz]; exact hjl⟩)
  have hne2 : ∀ g cap cur, Value.slice ov (t.o.length + s.size) cv = .slice (some ⟨g, 0, none⟩) (t.o.length + s.size) cap → w2.heap[g]? = some (.cells cur 5 (0, 0)) → g ≠ T := fun g cap cur _ hg e => by
    subst e
    have := hL2
    unfold Lies at this
    rw [hg] at this
    simp at this
  have ek : ∀ j, j < B ∨ mp = .map (some j) → (w2.setCell ⟨T, 3, none⟩ (.slice ov (t.o.length + s.size) cv)).heap[j]? = w1.heap[j]? := fun j hj => by
    have hjT : j ≠ T := by
      rcases hj with hj | hj
      · have := h1.low; omega
      · exact fun e => h1.mne (by rw [hj, e])
    have hjl : j < w1.heap.size := by
      rcases hj with hj | hj
      · omega
      · exact h1.there j (.inr (.inl hj))
    refine (Below.heap_setCell _ _ _ _ (fun e => hjT e)).trans (hg2.block j hjl (fun e => ?_))
    obtain ⟨hb, cur, hc⟩ := h1.bvS j e.symm
    rcases hj with hj | hj
    · omega
    · rcases h1.map with h9 | ⟨g, m, D, h9, _, ⟨es, clock, h8, _⟩, _⟩
      · rw [h9] at hj; cases hj
      · rw [h9] at hj; injection hj with hj; injection hj with hj; subst hj
        rw [hc] at h8; simp at h8
  refine ⟨rfl, .pointer (some ⟨T, 2, none⟩), .slice ov (t.o.length + s.size) cv, ⟨hL2.set (i := 3) _, h1.prs.keep (fun j hj => ek j (.inl hj)), .inr rfl, ?_, ?_, h1.low⟩, r1.trans rg2⟩
  · have e1 : (t.o ++ un s).length = t.o.length + s.size := by rw [List.length_append, un_length]
    show World.ownsRow _ B _ 1 _ (t.o ++ un s).length (Lib.byteCells (t.o ++ un s))
    rw [e1, Lib.byteCells_append]
    have hown3 : w2.ownsRow B 5 1 (.slice ov (t.o.length + s.size) cv) (t.o.length + s.size) (Lib.byteCells t.o ++ Lib.byteCells (un s)) := hown2
    refine ⟨hown3.1, ?_⟩
    rcases hown3.2 with h9 | ⟨g, cap, cur, h9, hb, hg, h8⟩
    · exact .inl h9
    · exact .inr ⟨g, cap, cur, h9, hb, (Below.heap_setCell _ _ _ _ (fun e => hne2 g cap cur h9 hg e)).trans hg, h8⟩
  · rcases h1.map with h9 | ⟨g, m, D, h9, hb, h8, h7⟩
    · exact .inl h9
    · exact .inr ⟨g, m, D, h9, hb, own_mapK h8 (ek g (.inr h9)), h7⟩

set_option maxHeartbeats 4000000 in
set_option maxRecDepth 100000 in
theorem str_b (W : World) (B T : Nat) (vs : List PrZ) (t : TS) (vv mp ad bv : Value) (h : Tz W B T vs t vv mp ad bv) (hB : B ≤ W.heap.size) : Calls Tryz.prog 103 #[.pointer (some ⟨T, 2, none⟩)] W fun x w' => x = .returned (.string (bs t.o)) ∧ Below B W w' := by
  have f3 := h.lies.cell (i := 3) rfl
  have hTlt := h.lies.lt
  have hown := h.own
  have HL : Hid (Lies W T 152 #[vv, mp, ad, bv, .bool t.long, .int .i64 t.d.depth, .int .i64 t.d.hid]) := h.lies
  have hUS : ∀ (W : World) (q : Option Addr), (Builtin.unsafeString_ #[173, 3] 9 #[.pointer q, .int .i64 0]).run Tryz.prog W = .ok (.string .empty) W := fun W q => Lib.run_unsafeString_none W _ _ _ q
  clear h
  rcases hown.2 with ⟨rfl, h0⟩ | ⟨g, cap, cur, rfl, hbg, hg, hnc, hcm, hcs, htake⟩
  · have ho : t.o = [] := List.eq_nil_of_length_eq_zero h0
    have c1 : W.drew.cell? ⟨T, 3, none⟩ = some (.slice none 0 0) := f3
    have hSD : (Builtin.unsafeSliceData_ #[148] 173 #[.slice none 0 0]).run Tryz.prog W.drew = .ok (.pointer none) W.drew := rfl
    rw [ho]
    clear hown ho h0
    go_enter Tryz.func103, Tryz.ntmps103
    go_wp2
    go_region
    all_goals (go_wp2; go_ret; exact ⟨rfl, Below.drew (Below.refl B W)⟩)
  · by_cases ho : t.o = []
    · have hl0 : t.o.length = 0 := by rw [ho]; rfl
      rw [hl0] at f3
      rw [ho]
      by_cases hc0 : cap = 0
      · subst hc0
        have c1 : W.drew.cell? ⟨T, 3, none⟩ = some (.slice (some ⟨g, 0, none⟩) 0 0) := f3
        have hSD : (Builtin.unsafeSliceData_ #[148] 173 #[.slice (some ⟨g, 0, none⟩) 0 0]).run Tryz.prog W.drew = .ok (.pointer (some ⟨W.drew.heap.size, 0, none⟩)) (W.drew.alloc (.view ⟨g, 0, none⟩ 5)) :=
          Lib.run_unsafeSliceData_zero W.drew _ _ 5 Tryz.underlying173 ⟨g, 0, none⟩ 0 (5, cur.size) (by have hg' : W.drew.heap[g]? = some (.cells cur 5 (0, 0)) := hg; simp [World.shape?, hg'])
        have hL2 : Lies (W.drew.alloc (.view ⟨g, 0, none⟩ 5)) T 152 _ := (HL.out.drew 1).alloc _
        have hL3 : Lies ((W.alloc (.view ⟨g, 0, none⟩ 5)).drew) T 152 _ := (HL.out.alloc _).drew 1
        rw [hl0] at hL2 hL3
        have c2 := hL2.cell (i := 3) rfl
        have c3 := hL3.cell (i := 3) rfl
        clear hL2 hL3 hown hl0 ho hcs htake hg
        go_enter Tryz.func103, Tryz.ntmps103
        go_wp2
        go_region
        all_goals (go_wp2; go_ret; exact ⟨rfl, (Below.drew (Below.refl B W)).alloc hB _⟩)
      · have c1 : W.drew.cell? ⟨T, 3, none⟩ = some (.slice (some ⟨g, 0, none⟩) 0 cap) := f3
        have hSD : (Builtin.unsafeSliceData_ #[148] 173 #[.slice (some ⟨g, 0, none⟩) 0 cap]).run Tryz.prog W.drew = .ok (.pointer (some ⟨g, 0, none⟩)) W.drew :=
          Lib.run_unsafeSliceData_row _ _ _ _ _ _ hc0
        clear hc0 hown hl0 ho hcs htake hg
        go_enter Tryz.func103, Tryz.ntmps103
        go_wp2
        go_region
        all_goals (go_wp2; go_ret; exact ⟨rfl, Below.drew (Below.refl B W)⟩)
    · have hl0 : t.o.length ≠ 0 := fun e => ho (List.eq_nil_of_length_eq_zero e)
      have c1 : W.drew.cell? ⟨T, 3, none⟩ = some (.slice (some ⟨g, 0, none⟩) t.o.length cap) := f3
      have hSD : (Builtin.unsafeSliceData_ #[148] 173 #[.slice (some ⟨g, 0, none⟩) t.o.length cap]).run Tryz.prog W.drew = .ok (.pointer (some ⟨g, 0, none⟩)) W.drew :=
        Lib.run_unsafeSliceData_row _ _ _ _ _ _ (by omega)
      have hUS2 : (Builtin.unsafeString_ #[173, 3] 9 #[.pointer (some ⟨g, 0, none⟩), .int .i64 t.o.length]).run Tryz.prog W.drew = .ok (.string (bs t.o)) (W.drew.freeze ⟨g, 0, none⟩ t.o.length) := by
        refine Lib.run_unsafeString_row W.drew 173 3 9 5 Tryz.underlying173 (by kernel_rfl) g cur.size (by have hg' : W.drew.heap[g]? = some (.cells cur 5 (0, 0)) := hg; simp [World.shape?, hg']) t.o ho (by omega) (by unfold maxLen at hcm; omega) ?_
        intro j x hx
        exact hown.cells (g := g) rfl j (.int .u8 x.toNat) (by simp [Lib.byteCells, hx])
      clear hown ho hcs htake hg hl0
      generalize bs t.o = SO at *
      generalize t.o.length = n at *
      go_enter Tryz.func103, Tryz.ntmps103
      go_wp2
      go_region
      all_goals (go_wp2; go_ret; exact ⟨rfl, Lib.below_freeze (Below.drew (Below.refl B W)) (p := ⟨g, 0, none⟩) hbg _⟩)
end Go.Proofs.YtbmakfdljddhcaaGreatDoor
