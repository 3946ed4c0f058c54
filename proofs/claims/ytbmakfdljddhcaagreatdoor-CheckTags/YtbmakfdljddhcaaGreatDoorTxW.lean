/- What the pieces come to, in memory: the text that is built, its builder within it. -/
import Derived.Test.YtbmakfdljddhcaaGreatDoorPrX
import Derived.Lib.Builder
import Derived.Lib.AppendStr
import Derived.Lib.UnsafeStr
import Derived.Lib.Walk
import Derived.Lib.Slices
import Derived.Laws.Externs
namespace Go.Proofs.YtbmakfdljddhcaaGreatDoor
open Go Go.RowKit Go.Maps

structure TS where
  o : List UInt8
  long : Bool
  d : Dp
def layT (l : List UInt8) (t : TS) : TS := if 0 < t.d.hid then t else if 65536 < t.o.length + l.length then { t with long := true } else { t with o := t.o ++ l }
def putT (vs : List (List UInt8 × List UInt8)) (p : Pc) (t : TS) : TS := match p with
  | .lit l => layT l t
  | .var n => layT (valL vs n) t
  | .ifE n => { layT (valL vs n) t with d := begD (valL vs n).isEmpty t.d }
  | .ifF n => { t with d := begD (!(valL vs n).isEmpty) t.d }
  | .fin => { t with d := endD t.d }
theorem layT_d (l : List UInt8) (t : TS) : (layT l t).d = t.d := by
  unfold layT
  split
  · rfl
  · split <;> rfl
theorem layT_len (l : List UInt8) (t : TS) (h : t.o.length ≤ 65536) : (layT l t).o.length ≤ 65536 := by
  unfold layT; repeat' split
  all_goals first | exact h | (simp; omega)
/-- The text as the pieces so far tell it. -/
def TOk (vs : List (List UInt8 × List UInt8)) (pre : List Pc) (t : TS) : Prop :=
  t.d = depL vs pre d0 ∧ t.o.length ≤ 65536 ∧ ((t.long = false ∧ t.o = den vs pre d0) ∨ (t.long = true ∧ 65536 < (den vs pre d0).length))
theorem TOk.lay {vs : List (List UInt8 × List UInt8)} {pre : List Pc} {t : TS} (h : TOk vs pre t) (l : List UInt8) (x : List UInt8) (hx : x = if 0 < t.d.hid then [] else l) : (layT l t).o.length ≤ 65536 ∧ (((layT l t).long = false ∧ (layT l t).o = den vs pre d0 ++ x) ∨ ((layT l t).long = true ∧ 65536 < (den vs pre d0 ++ x).length)) := by
  obtain ⟨_, h2, h3⟩ := h
  refine ⟨layT_len _ _ h2, ?_⟩
  subst hx
  unfold layT
  by_cases hh : 0 < t.d.hid
  · rw [if_pos hh, if_pos hh, List.append_nil]; exact h3
  · rw [if_neg hh, if_neg hh]
    by_cases hl : 65536 < t.o.length + l.length
    · rw [if_pos hl]
      refine .inr ⟨rfl, ?_⟩
      rw [List.length_append]
      rcases h3 with ⟨_, h4⟩ | ⟨_, h4⟩
      · rw [← h4]; exact hl
      · omega
    · rw [if_neg hl]
      rcases h3 with ⟨h5, h4⟩ | ⟨h5, h4⟩
      · exact .inl ⟨h5, by show t.o ++ l = _; rw [h4]⟩
      · exact .inr ⟨h5, by rw [List.length_append]; omega⟩
theorem TOk.put {vs : List (List UInt8 × List UInt8)} {pre : List Pc} {t : TS} (h : TOk vs pre t) (p : Pc) : TOk vs (pre ++ [p]) (putT vs p t) := by
  have e1 : depL vs (pre ++ [p]) d0 = stepD vs p t.d := by rw [depL_append, ← h.1]; rfl
  have e2 : den vs (pre ++ [p]) d0 = den vs pre d0 ++ layP vs p t.d := by rw [den_append, ← h.1]; simp [den]
  unfold TOk
  rw [e1, e2]
  cases p with
  | lit l => exact ⟨layT_d _ _, h.lay l _ rfl⟩
  | var n => exact ⟨layT_d _ _, h.lay _ _ rfl⟩
  | ifE n => exact ⟨rfl, h.lay _ _ rfl⟩
  | ifF n =>
    have : layP vs (.ifF n) t.d = [] := by unfold layP; split <;> rfl
    rw [this, List.append_nil]
    exact ⟨rfl, h.2⟩
  | fin =>
    have : layP vs .fin t.d = [] := by unfold layP; split <;> rfl
    rw [this, List.append_nil]
    exact ⟨rfl, h.2⟩

theorem u8_info : (Tryz.prog.info? 5).map (fun i => (i.zero, i.size, i.bytes)) = some (some (.int .u8 0), 1, 1) := by kernel_rfl
theorem bld_size : (Tryz.prog.info? 150).map (·.size) = some 2 := by kernel_rfl
theorem bld_liesT : liesAt Tryz.prog Tryz.prog.depth 152 (7 / Tryz.prog.cellsOf 152) 2 150 1 = true := by kernel_rfl
/-- Block T, from B on, is a text. -/
structure Tz (W : World) (B T : Nat) (vs : List PrZ) (t : TS) (vv mp ad bv : Value) : Prop where
  lies : Lies W T 152 #[vv, mp, ad, bv, .bool t.long, .int .i64 t.d.depth, .int .i64 t.d.hid]
  prs : PrsIn B W vv vs
  adr : (ad = .pointer none ∧ bv = .slice none 0 0) ∨ ad = .pointer (some ⟨T, 2, none⟩)
  own : W.ownsRow B 5 1 bv t.o.length (Lib.byteCells t.o)
  map : mp = .map none ∨ ∃ g m D, mp = .map (some g) ∧ B ≤ g ∧ W.ownsMap Tryz.prog 9 (plainElem Tryz.prog 3) g m D ∧ LastOK vs vs.length D
  low : B ≤ T
/-- What a text's methods write: itself, the map, its bytes. -/
def txS (T : Nat) (mp bv : Value) : Nat → Prop := fun j => j = T ∨ mp = .map (some j) ∨ bv.ownBlock = some j
theorem Tz.there {W : World} {B T : Nat} {vs : List PrZ} {t : TS} {vv mp ad bv : Value} (h : Tz W B T vs t vv mp ad bv) : ∀ j, txS T mp bv j → j < W.heap.size := by
  rintro j (rfl | hj | hj)
  · exact h.lies.lt
  · rcases h.map with h1 | ⟨g, m, D, h1, _, h2, _⟩
    · rw [h1] at hj; cases hj
    · rw [h1] at hj; injection hj with hj; injection hj with hj; subst hj
      exact h2.lt
  · rcases h.own.2 with ⟨h1, _⟩ | ⟨g, cap, cur, h1, _, hg, _⟩
    · rw [h1] at hj; cases hj
    · rw [h1] at hj
      simp [Value.ownBlock] at hj; subst hj
      exact (Array.getElem?_eq_some_iff.1 hg).1
theorem Tz.bvS {W : World} {B T : Nat} {vs : List PrZ} {t : TS} {vv mp ad bv : Value} (h : Tz W B T vs t vv mp ad bv) : ∀ j, bv.ownBlock = some j → B ≤ j ∧ ∃ cur, W.heap[j]? = some (.cells cur 5 (0, 0)) := by
  intro j hj
  rcases h.own.2 with ⟨h1, _⟩ | ⟨g, cap, cur, h1, hb, hg, _⟩
  · rw [h1] at hj; cases hj
  · rw [h1] at hj
    simp [Value.ownBlock] at hj; subst hj
    exact ⟨hb, cur, hg⟩
theorem Tz.bne {W : World} {B T : Nat} {vs : List PrZ} {t : TS} {vv mp ad bv : Value} (h : Tz W B T vs t vv mp ad bv) : bv.ownBlock ≠ some T := by
  intro hj
  obtain ⟨_, cur, hc⟩ := h.bvS _ hj
  have := h.lies
  unfold Lies at this
  rw [hc] at this
  simp at this
theorem Tz.mne {W : World} {B T : Nat} {vs : List PrZ} {t : TS} {vv mp ad bv : Value} (h : Tz W B T vs t vv mp ad bv) : mp ≠ .map (some T) := by
  intro hj
  rcases h.map with h1 | ⟨g, m, D, h1, _, h2, _⟩
  · rw [h1] at hj; cases hj
  · rw [h1] at hj; injection hj with hj; injection hj with hj; subst hj
    obtain ⟨es, clock, h3, _⟩ := h2
    have := h.lies
    unfold Lies at this
    rw [h3] at this
    simp at this
theorem Tz.keep {W W2 : World} {B T : Nat} {vs : List PrZ} {t : TS} {vv mp ad bv : Value} (h : Tz W B T vs t vv mp ad bv) (hk : ∀ j, j < B ∨ txS T mp bv j → W2.heap[j]? = W.heap[j]?) : Tz W2 B T vs t vv mp ad bv := by
  refine ⟨(hk T (.inr (.inl rfl))).trans h.lies, h.prs.keep (fun j hj => hk j (.inl hj)), h.adr, ⟨h.own.1, ?_⟩, ?_, h.low⟩
  · rcases h.own.2 with h1 | ⟨g, cap, cur, h1, hb, hg, h2⟩
    · exact .inl h1
    · exact .inr ⟨g, cap, cur, h1, hb, (hk g (.inr (.inr (.inr (by rw [h1]; rfl))))).trans hg, h2⟩
  · rcases h.map with h1 | ⟨g, m, D, h1, hb, h2, h3⟩
    · exact .inl h1
    · exact .inr ⟨g, m, D, h1, hb, own_mapK h2 (hk g (.inr (.inr (.inl h1)))), h3⟩
theorem Tz.drew {W : World} {B T : Nat} {vs : List PrZ} {t : TS} {vv mp ad bv : Value} (h : Tz W B T vs t vv mp ad bv) (n : Nat) : Tz (W.drewN n) B T vs t vv mp ad bv := h.keep (fun _ _ => rfl)
/-- A cell of the text's own block turns. -/
theorem Tz.set {W : World} {B T : Nat} {vs : List PrZ} {t t2 : TS} {vv mp ad bv ad2 : Value} (h : Tz W B T vs t vv mp ad bv) (i : Nat) (v : Value) (hc : (#[vv, mp, ad, bv, .bool t.long, .int .i64 t.d.depth, .int .i64 t.d.hid] : Array Value).setIfInBounds i v = #[vv, mp, ad2, bv, .bool t2.long, .int .i64 t2.d.depth, .int .i64 t2.d.hid]) (ho : t2.o = t.o) (ha : ad2 = ad ∨ ad2 = .pointer (some ⟨T, 2, none⟩)) : Tz (W.setCell ⟨T, i, none⟩ v) B T vs t2 vv mp ad2 bv ∧ Rnd (txS T mp bv) (txS T mp bv) W (W.setCell ⟨T, i, none⟩ v) := by
  have hlow := h.low
  have ek : ∀ j, j ≠ T → (W.setCell ⟨T, i, none⟩ v).heap[j]? = W.heap[j]? := fun j hj => Below.heap_setCell _ _ _ _ (fun e => hj e)
  refine ⟨⟨?_, h.prs.keep (fun j hj => ek j (by omega)), ?_, ⟨by rw [ho]; exact h.own.1, ?_⟩, ?_, h.low⟩, ?_⟩
  · have := h.lies.set (i := i) v
    rw [hc] at this; exact this
  · rcases h.adr with h1 | h1
    · rcases ha with rfl | rfl
      · exact .inl h1
      · exact .inr rfl
    · rcases ha with rfl | rfl
      · exact .inr h1
      · exact .inr rfl
  · rw [ho]
    rcases h.own.2 with h1 | ⟨g, cap, cur, h1, hb, hg, h2⟩
    · exact .inl h1
    · exact .inr ⟨g, cap, cur, h1, hb, (ek g (fun e => h.bne (by rw [h1]; simp [Value.ownBlock, e]))).trans hg, h2⟩
  · rcases h.map with h1 | ⟨g, m, D, h1, hb, h2, h3⟩
    · exact .inl h1
    · exact .inr ⟨g, m, D, h1, hb, own_mapK h2 (ek g (fun e => h.mne (by rw [h1, e]))), h3⟩
  · exact (Rnd.refl (txS T mp bv) W).set (b := T) (i := i) (.inl rfl) v

set_option maxHeartbeats 1000000 in
set_option maxRecDepth 100000 in
theorem len_b (W : World) (B T : Nat) (vs : List PrZ) (t : TS) (vv mp ad bv : Value) (h : Tz W B T vs t vv mp ad bv) : Calls Tryz.prog 159 #[.pointer (some ⟨T, 2, none⟩)] W fun x w' => x = .returned (.int .i64 (t.o.length : Int)) ∧ w' = W := by
  obtain ⟨oa, oc, rfl⟩ := own_sliceN h.own
  have f3 := h.lies.cell (i := 3) rfl
  clear h
  go_enter Tryz.func159, Tryz.ntmps159
  go_wp2
  go_ret
  exact ⟨rfl, rfl⟩
set_option maxHeartbeats 1000000 in
set_option maxRecDepth 100000 in
theorem check_b (W : World) (B T : Nat) (vs : List PrZ) (t : TS) (vv mp ad bv : Value) (h : Tz W B T vs t vv mp ad bv) : Calls Tryz.prog 161 #[.pointer (some ⟨T, 2, none⟩)] W fun x w' => x = .returned (.tuple #[]) ∧ Tz w' B T vs t vv mp (.pointer (some ⟨T, 2, none⟩)) bv ∧ Rnd (txS T mp bv) (txS T mp bv) W w' := by
  have f2 := h.lies.cell (i := 2) rfl
  have fr := h.lies.frozen 2
  obtain ⟨i, hi, his⟩ := Option.map_eq_some_iff.1 bld_size
  rcases h.adr with ⟨rfl, _⟩ | rfl
  · have hsh : W.shape? T = some (152, 7) := by
      have := h.lies
      unfold Lies at this
      simp [World.shape?, this]
    have hs := h.set (t2 := t) (ad2 := .pointer (some ⟨T, 2, none⟩)) 2 (.pointer (some ⟨T, 2, none⟩)) rfl rfl (.inr rfl)
    have hn := @run_callFunc_extern Tryz.prog 162 _ Extern.AbiNoEscape.same Tryz.func162 (by kernel_rfl) (by kernel_rfl) (by kernel_rfl) (by kernel_rfl)
    have k3 := Lib.run_noEscape (P := Tryz.prog) W (.pointer (some ⟨T, 2, none⟩))
    have k1 := Lib.run_to_unsafe W ⟨T, 2, none⟩ Tryz.underlying147 Tryz.underlying56 hi (by rw [his]; decide) hsh (by show 2 < 7; omega)
    have k2 := Lib.run_from_unsafe W ⟨T, 2, none⟩ Tryz.underlying56 Tryz.underlying147 hi hsh bld_liesT
    go_enter Tryz.func161, Tryz.ntmps161
    go_wp2
    go_end0
    exact ⟨rfl, hs⟩
  · have HT : Hid (Tz W B T vs t vv mp (.pointer (some ⟨T, 2, none⟩)) bv) := h
    clear h
    go_enter Tryz.func161, Tryz.ntmps161
    go_wp2
    rw [Lib.run_neq_ptr_same W _ Tryz.underlying147 hi]
    go_wp2
    go_end0
    exact ⟨rfl, HT.out, Rnd.refl _ W⟩
end Go.Proofs.YtbmakfdljddhcaaGreatDoor
