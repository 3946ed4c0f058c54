/- What each piece does to the text, called through its interface. -/
import Derived.Test.YtbmakfdljddhcaaGreatDoorTpW
namespace Go.Proofs.YtbmakfdljddhcaaGreatDoor
open Go Go.RowKit Go.Maps

/-- What a piece's put leaves. -/
def PutP (p : Pc) (W : World) (B T : Nat) (vs : List PrZ) (t : TS) (vv mp bv : Value) (x : Ending) (w' : World) : Prop := x = .returned (.tuple #[]) ∧ ∃ mp2 ad2 bv2, Tz w' B T vs (putT (prL vs) p t) vv mp2 ad2 bv2 ∧ Rnd (txS T mp bv) (txS T mp2 bv2) W w'
/-- What a call asks for. -/
structure PutA (p : Pc) (W : World) (B : Nat) (vs : List PrZ) (t : TS) : Prop where
  few : FewP vs
  len : t.o.length ≤ 65536
  lit : ∀ l, p = .lit l → l.length ≤ 1099511627776
  nam : (askP p).length ≤ 1099511627776
  d1 : -1099511627776 ≤ t.d.depth
  d2 : t.d.depth ≤ 1099511627776
  low : B ≤ W.heap.size
theorem valL_len {vs : List PrZ} (_hf : FewP vs) (h2 : ∀ x ∈ vs, x.val.size ≤ 1152921504606846976) (n : List UInt8) : (valL (prL vs) n).length ≤ 1152921504606846976 := by
  have : ∀ (L : List (List UInt8 × List UInt8)), (∀ x ∈ L, x.2.length ≤ 1152921504606846976) → (valL L n).length ≤ 1152921504606846976 := by
    intro L
    induction L with
    | nil => intro _; simp [valL]
    | cons a L ih =>
      intro h
      have h3 := ih (fun x hx => h x (List.mem_cons_of_mem _ hx))
      obtain ⟨k, v⟩ := a
      show (if L.any (fun x => x.1 == n) = true then valL L n else if k = n then v else []).length ≤ _
      split
      · exact h3
      · split
        · exact h (k, v) (List.mem_cons_self ..)
        · simp
  refine this _ (fun x hx => ?_)
  obtain ⟨y, hy, rfl⟩ := List.mem_map.1 hx
  show (un y.val).length ≤ _
  rw [un_length]; exact h2 y hy

set_option maxHeartbeats 1000000 in
set_option maxRecDepth 100000 in
theorem litPut_p (l : List UInt8) (W : World) (B T : Nat) (vs : List PrZ) (t : TS) (vv mp ad bv : Value) (h : Tz W B T vs t vv mp ad bv) (ha : PutA (.lit l) W B vs t) : Calls Tryz.prog 157 #[.string (bs l), .pointer (some ⟨T, 0, none⟩)] W fun x w' => PutP (.lit l) W B T vs t vv mp bv x w' := by
  have hl := lay_p l W B T vs t vv mp ad bv h ha.len (by have := ha.lit l rfl; omega) ha.low
  clear h ha
  go_enter Tryz.func157, Tryz.ntmps157
  go_wp2_with (go_at_call 158; refine hl.mono ?_; rintro x w2 ⟨rfl, ad2, bv2, hz, hr⟩)
  go_end0
  exact ⟨rfl, mp, ad2, bv2, hz, hr⟩
set_option maxHeartbeats 1000000 in
set_option maxRecDepth 100000 in
theorem varPut_p (n : List UInt8) (W : World) (B T : Nat) (vs : List PrZ) (t : TS) (vv mp ad bv : Value) (h : Tz W B T vs t vv mp ad bv) (ha : PutA (.var n) W B vs t) (hv : ∀ x ∈ vs, x.val.size ≤ 1152921504606846976) : Calls Tryz.prog 166 #[.string (bs n), .pointer (some ⟨T, 0, none⟩)] W fun x w' => PutP (.var n) W B T vs t vv mp bv x w' := by
  have hval := value_p (bs n) W B T vs t vv mp ad bv h ha.few (by rw [size_bs]; exact ha.nam) ha.low
  rw [un_bs] at hval
  have hvl := valL_len ha.few hv n
  have hlay := fun W2 mp2 (h2 : Tz W2 B T vs t vv mp2 ad bv) (hb : B ≤ W2.heap.size) => lay_p (valL (prL vs) n) W2 B T vs t vv mp2 ad bv h2 ha.len hvl hb
  have hlow := ha.low
  clear h ha
  go_enter Tryz.func166, Tryz.ntmps166
  go_wp2_with (first
    | (go_at_call 167; refine hval.mono ?_; rintro x w2 ⟨rfl, mp2, hz, hr⟩)
    | (go_at_call 158; refine (hlay _ _ hz (Nat.le_trans hlow hr.size)).mono ?_; rintro x w3 ⟨rfl, ad2, bv2, hz2, hr2⟩))
  go_end0
  exact ⟨rfl, mp2, ad2, bv2, hz2, hr.trans hr2⟩
set_option maxHeartbeats 1000000 in
set_option maxRecDepth 100000 in
theorem ifEPut_p (n : List UInt8) (W : World) (B T : Nat) (vs : List PrZ) (t : TS) (vv mp ad bv : Value) (h : Tz W B T vs t vv mp ad bv) (ha : PutA (.ifE n) W B vs t) (hv : ∀ x ∈ vs, x.val.size ≤ 1152921504606846976) : Calls Tryz.prog 170 #[.string (bs n), .pointer (some ⟨T, 0, none⟩)] W fun x w' => PutP (.ifE n) W B T vs t vv mp bv x w' := by
  have hval := value_p (bs n) W B T vs t vv mp ad bv h ha.few (by rw [size_bs]; exact ha.nam) ha.low
  rw [un_bs] at hval
  have hvl := valL_len ha.few hv n
  have hlay := fun W2 mp2 (h2 : Tz W2 B T vs t vv mp2 ad bv) (hb : B ≤ W2.heap.size) => lay_p (valL (prL vs) n) W2 B T vs t vv mp2 ad bv h2 ha.len hvl hb
  have hlow := ha.low
  have hbg := fun W2 mp2 ad2 bv2 (h2 : Tz W2 B T vs (layT (valL (prL vs) n) t) vv mp2 ad2 bv2) => begin_p (valL (prL vs) n).isEmpty W2 B T vs _ vv mp2 ad2 bv2 h2 (by rw [layT_d]; exact ha.d1) (by rw [layT_d]; exact ha.d2)
  have hem : (bs (valL (prL vs) n)).toList.isEmpty = (valL (prL vs) n).isEmpty := by rw [toList_un, un_bs]
  have HP : Hid (putT (prL vs) (.ifE n) t = { layT (valL (prL vs) n) t with d := begD (valL (prL vs) n).isEmpty (layT (valL (prL vs) n) t).d }) := by unfold Hid; rw [layT_d]; rfl
  clear h ha hvl
  generalize hT2 : layT (valL (prL vs) n) t = t2 at *
  generalize bs (valL (prL vs) n) = V at *
  generalize (valL (prL vs) n).isEmpty = E at *
  clear hT2
  cases E with
  | true =>
    go_enter Tryz.func170, Tryz.ntmps170
    go_wp2_with (first
      | (go_at_call 167; refine hval.mono ?_; rintro x w2 ⟨rfl, mp2, hz, hr⟩)
      | (go_at_call 158; refine (hlay _ _ hz (Nat.le_trans hlow hr.size)).mono ?_; rintro x w3 ⟨rfl, ad2, bv2, hz2, hr2⟩)
      | (go_at_call 171; refine (hbg _ _ _ _ hz2).mono ?_; rintro x w4 ⟨rfl, hz3, hr3⟩))
    go_end0
    exact ⟨rfl, mp2, ad2, bv2, by rw [HP.out]; exact hz3, (hr.trans hr2).trans hr3⟩
  | false =>
    go_enter Tryz.func170, Tryz.ntmps170
    go_wp2_with (first
      | (go_at_call 167; refine hval.mono ?_; rintro x w2 ⟨rfl, mp2, hz, hr⟩)
      | (go_at_call 158; refine (hlay _ _ hz (Nat.le_trans hlow hr.size)).mono ?_; rintro x w3 ⟨rfl, ad2, bv2, hz2, hr2⟩)
      | (go_at_call 171; refine (hbg _ _ _ _ hz2).mono ?_; rintro x w4 ⟨rfl, hz3, hr3⟩))
    go_end0
    exact ⟨rfl, mp2, ad2, bv2, by rw [HP.out]; exact hz3, (hr.trans hr2).trans hr3⟩
set_option maxHeartbeats 1000000 in
set_option maxRecDepth 100000 in
theorem ifFPut_p (n : List UInt8) (W : World) (B T : Nat) (vs : List PrZ) (t : TS) (vv mp ad bv : Value) (h : Tz W B T vs t vv mp ad bv) (ha : PutA (.ifF n) W B vs t) : Calls Tryz.prog 173 #[.string (bs n), .pointer (some ⟨T, 0, none⟩)] W fun x w' => PutP (.ifF n) W B T vs t vv mp bv x w' := by
  have hval := value_p (bs n) W B T vs t vv mp ad bv h ha.few (by rw [size_bs]; exact ha.nam) ha.low
  rw [un_bs] at hval
  have hbg := fun W2 mp2 (h2 : Tz W2 B T vs t vv mp2 ad bv) => begin_p (!(valL (prL vs) n).isEmpty) W2 B T vs _ vv mp2 ad bv h2 ha.d1 ha.d2
  have hem : (bs (valL (prL vs) n)).toList.isEmpty = (valL (prL vs) n).isEmpty := by rw [toList_un, un_bs]
  have HP : Hid (putT (prL vs) (.ifF n) t = { t with d := begD (!(valL (prL vs) n).isEmpty) t.d }) := rfl
  clear h ha
  generalize bs (valL (prL vs) n) = V at *
  generalize (valL (prL vs) n).isEmpty = E at *
  cases E with
  | true =>
    go_enter Tryz.func173, Tryz.ntmps173
    go_wp2_with (first
      | (go_at_call 167; refine hval.mono ?_; rintro x w2 ⟨rfl, mp2, hz, hr⟩)
      | (go_at_call 171; refine (hbg _ _ hz).mono ?_; rintro x w4 ⟨rfl, hz3, hr3⟩))
    go_end0
    exact ⟨rfl, mp2, ad, bv, by rw [HP.out]; exact hz3, hr.trans hr3⟩
  | false =>
    go_enter Tryz.func173, Tryz.ntmps173
    go_wp2_with (first
      | (go_at_call 167; refine hval.mono ?_; rintro x w2 ⟨rfl, mp2, hz, hr⟩)
      | (go_at_call 171; refine (hbg _ _ hz).mono ?_; rintro x w4 ⟨rfl, hz3, hr3⟩))
    go_end0
    exact ⟨rfl, mp2, ad, bv, by rw [HP.out]; exact hz3, hr.trans hr3⟩
set_option maxHeartbeats 1000000 in
set_option maxRecDepth 100000 in
theorem endPut_p (W : World) (B T : Nat) (vs : List PrZ) (t : TS) (vv mp ad bv : Value) (h : Tz W B T vs t vv mp ad bv) (ha : PutA .fin W B vs t) : Calls Tryz.prog 164 #[.agg #[], .pointer (some ⟨T, 0, none⟩)] W fun x w' => PutP .fin W B T vs t vv mp bv x w' := by
  have hlow := ha.low
  have hth := h.there
  have hk : ∀ o, Tz (W.alloc o) B T vs t vv mp ad bv := fun o => h.keep (fun j hj => Below.heap_alloc _ _ _ (by
    rcases hj with hj | hj
    · omega
    · exact hth j hj))
  have hr0 : ∀ o, Rnd (txS T mp bv) (txS T mp bv) W (W.alloc o) := fun o => (Rnd.refl (txS T mp bv) W).alloc o
  have he := fun o => end_p (W.alloc o) B T vs t vv mp ad bv (hk o) ha.d1 ha.d2
  clear h ha hk hth
  go_enter Tryz.func164, Tryz.ntmps164
  go_wp2_with (go_at_call 154; refine (he _).mono ?_; rintro x w2 ⟨rfl, hz, hr⟩)
  go_end0
  exact ⟨rfl, mp, ad, bv, hz, (hr0 _).trans hr⟩

theorem m_lit (v : Value) (w : World) : (Go.method 315 168 v "strata/expand.put").run Tryz.prog w = .ok (157, v) w := by kernel_rfl
theorem m_var (v : Value) (w : World) : (Go.method 315 178 v "strata/expand.put").run Tryz.prog w = .ok (166, v) w := by kernel_rfl
theorem m_ifE (v : Value) (w : World) : (Go.method 315 179 v "strata/expand.put").run Tryz.prog w = .ok (170, v) w := by kernel_rfl
theorem m_ifF (v : Value) (w : World) : (Go.method 315 180 v "strata/expand.put").run Tryz.prog w = .ok (173, v) w := by kernel_rfl
theorem m_fin (v : Value) (w : World) : (Go.method 315 171 v "strata/expand.put").run Tryz.prog w = .ok (164, v) w := by kernel_rfl
set_option maxHeartbeats 1000000 in
set_option maxRecDepth 100000 in
theorem do_p (p : Pc) (X : Nat) (W : World) (B T : Nat) (vs : List PrZ) (t : TS) (vv mp ad bv : Value) (hX : Lies W X 145 #[.pointer (some ⟨T, 0, none⟩)]) (h : Tz W B T vs t vv mp ad bv) (ha : PutA p W B vs t) (hv : ∀ x ∈ vs, x.val.size ≤ 1152921504606846976) : Calls Tryz.prog 99 #[pcV p, .pointer (some ⟨X, 0, none⟩)] W fun x w' => PutP p W B T vs t vv mp bv x w' := by
  have x0 := hX.cell (i := 0) rfl
  clear hX
  cases p with
  | lit l =>
    have hp := litPut_p l W B T vs t vv mp ad bv h ha
    have hm := m_lit
    clear h ha hv
    unfold pcV
    go_enter Tryz.func99, Tryz.ntmps99
    go_wp2_with (go_at_call 157; refine hp.mono ?_; rintro x w2 ⟨rfl, hq⟩)
    go_end0
    exact ⟨rfl, hq⟩
  | var l =>
    have hp := varPut_p l W B T vs t vv mp ad bv h ha hv
    have hm := m_var
    clear h ha hv
    unfold pcV
    go_enter Tryz.func99, Tryz.ntmps99
    go_wp2_with (go_at_call 166; refine hp.mono ?_; rintro x w2 ⟨rfl, hq⟩)
    go_end0
    exact ⟨rfl, hq⟩
  | ifE l =>
    have hp := ifEPut_p l W B T vs t vv mp ad bv h ha hv
    have hm := m_ifE
    clear h ha hv
    unfold pcV
    go_enter Tryz.func99, Tryz.ntmps99
    go_wp2_with (go_at_call 170; refine hp.mono ?_; rintro x w2 ⟨rfl, hq⟩)
    go_end0
    exact ⟨rfl, hq⟩
  | ifF l =>
    have hp := ifFPut_p l W B T vs t vv mp ad bv h ha
    have hm := m_ifF
    clear h ha hv
    unfold pcV
    go_enter Tryz.func99, Tryz.ntmps99
    go_wp2_with (go_at_call 173; refine hp.mono ?_; rintro x w2 ⟨rfl, hq⟩)
    go_end0
    exact ⟨rfl, hq⟩
  | fin =>
    have hp := endPut_p W B T vs t vv mp ad bv h ha
    have hm := m_fin
    clear h ha hv
    unfold pcV
    go_enter Tryz.func99, Tryz.ntmps99
    go_wp2_with (go_at_call 164; refine hp.mono ?_; rintro x w2 ⟨rfl, hq⟩)
    go_end0
    exact ⟨rfl, hq⟩
end Go.Proofs.YtbmakfdljddhcaaGreatDoor
