/- The reader of words: its smaller methods, each by what it does to the reader. -/
import Derived.Test.YtbmakfdljddhcaaGreatDoorRdX
import Derived.Test.YtbmakfdljddhcaaGreatDoorShelf
import Derived.Maps.AppendAt
import Derived.Deep.AppendLies
namespace Go.Proofs.YtbmakfdljddhcaaGreatDoor
open Go Go.RowKit

theorem ext_bs (s : ByteArray) (i j : Nat) : s.extract i j = bs (((un s).take j).drop i) := un_inj (by rw [un_bs, un_extract])
theorem ext_part (s : ByteArray) (k n : Nat) : s.extract k (k + n) = bs (((un s).drop k).take n) := by rw [ext_bs, List.drop_take]; congr 2; omega
theorem ext_tail (s : ByteArray) (k : Nat) : s.extract k s.size = bs ((un s).drop k) := by rw [ext_bs, List.take_of_length_le (by rw [un_length]; exact Nat.le_refl _)]
theorem beq_u8n (b : UInt8) (n : Nat) (hn : n < 256) : ((b.toNat : Int) == (n : Int)) = decide (b = n.toUInt8) := by
  rw [Bool.eq_iff_iff, beq_iff_eq, decide_eq_true_iff]
  constructor
  · intro h
    apply UInt8.toNat_inj.1
    have : b.toNat = n := by omega
    rw [this]; simp; omega
  · rintro rfl
    simp; omega
theorem own_sliceN {W : World} {base e size n : Nat} {v : Value} {xs : List Value} (h : W.ownsRow base e size v n xs) : ∃ o c, v = .slice o n c := by
  rcases h.2 with ⟨rfl, h0⟩ | ⟨g, cap, cur, rfl, _⟩
  · exact ⟨_, _, by rw [h0]⟩
  · exact ⟨_, _, rfl⟩
/-- The value of a piece. -/
def pcV : Pc → Value
  | .lit l => .iface 168 (.string (bs l))
  | .var n => .iface 178 (.string (bs n))
  | .ifE n => .iface 179 (.string (bs n))
  | .ifF n => .iface 180 (.string (bs n))
  | .fin => .iface 171 (.agg #[])
def erV (n : Nat) : Value := if n = 0 then .nilIface else .iface 32 (.int .i64 n)

set_option maxHeartbeats 2000000 in
set_option maxRecDepth 100000 in
theorem enter_p (W : World) (R : Nat) (s : ByteArray) (e : UInt8) (k : Nat) (v : Value) (st : List Nat) (m : Nat) (h : Rd W R s e k v st) (hl : st.length ≤ 1099511627776) : Calls Tryz.prog 110 #[.pointer (some ⟨R, 0, none⟩), .int .u8 (m : Int)] W fun x w' => x = .returned (.tuple #[]) ∧ ∃ v', Rd w' R s e k v' (m :: st) ∧ Rnd (rdS R v) (rdS R v') W w' := by
  obtain ⟨i0, hi, hz0, hz1, hz2⟩ := info_parts info_mn
  obtain ⟨va, vc, hv⟩ := own_sliceN h.own
  have f3 := h.lies.cell (i := 3) rfl
  have hlt := h.there
  have hne := h.ne
  have HR : Hid (Lies W R 161 #[.string s, .int .u8 e.toNat, .int .i64 k, v]) := h.lies
  have hown := h.own
  clear h
  subst hv
  have hRW : R < W.heap.size := hlt R (.inl rfl)
  go_enter Tryz.func110, Tryz.ntmps110
  go_wp2_with (at_builtin; refine wpList_append_own_at _ rfl _ _ 159 rfl 0 141 i0 (.int .u8 0) 1 1 Tryz.underlying159 hi hz0 hz1 hz2 rfl (by decide) (.slice va st.length vc) st.length (mnC st) rfl (hown.alloc _) ⟨W.heap.size, 0, none⟩ 1 1 [.int .u8 (m : Int)] rfl rfl (cell_one_new _ _ _) (by intro u hu; simp at hu; subst hu; rfl) (by unfold maxLen; omega) (by omega) (by simp) ?_; intro v1 w1 hown1 hgrow1 _ hat; obtain ⟨g1, cap1, rfl, _, hg1⟩ := hown1.form (by omega); have hR1 : Lies w1 R 161 #[.string s, .int .u8 e.toNat, .int .i64 k, .slice va st.length vc] := (hgrow1.block R (by simp; omega) (fun e => hne e.symm)).trans ((HR.out).alloc _); have k3 := hR1.cell (i := 3) rfl; have kf := hR1.frozen 3)
  have hne1 : g1 ≠ R := by
    rcases hat with h1 | h1
    · exact fun e => hne (by rw [← h1, ← e]; rfl)
    · have h1 : g1 = (W.alloc (.cells #[.int .u8 (m : Int)] 141)).heap.size := by simpa [Value.ownBlock] using h1
      rw [World.size_alloc] at h1; omega
  go_end0
  refine ⟨rfl, .slice (some ⟨g1, 0, none⟩) (st.length + 1) cap1, ⟨?_, ?_⟩, ?_⟩
  · exact hR1.set (i := 3) _
  · refine ⟨by rw [mnC_length]; simp, ?_⟩
    rcases hown1.2 with ⟨h0, _⟩ | ⟨g, cap, cur, h0, h1, hg, h2⟩
    · cases h0
    · refine .inr ⟨g, cap, cur, h0, h1, (Below.heap_setCell _ _ _ _ (fun e => hne1 (by injection h0 with h0; injection h0 with h0; injection h0 with h0; exact h0.trans e))).trans hg, ?_⟩
      rw [mnC_cons]; exact h2
  · have r1 := ((Rnd.refl (rdS R (.slice va st.length vc)) W).alloc (.cells #[.int .u8 (m : Int)] 141)).grown hgrow1 (fun j hj => .inr hj)
    have r2 := r1.set (b := R) (i := 3) (.inl rfl) (.slice (some ⟨g1, 0, none⟩) (st.length + 1) cap1)
    refine r2.to (fun j hj => ?_)
    rcases hj with hj | hj
    · exact .inl (.inl hj)
    · rcases hat with h1 | h1
      · exact .inl (.inr (by rw [← h1]; exact hj))
      · right
        have hj : g1 = j := by simpa [Value.ownBlock] using hj
        have h1 : g1 = (W.alloc (.cells #[.int .u8 (m : Int)] 141)).heap.size := by simpa [Value.ownBlock] using h1
        rw [World.size_alloc] at h1
        exact ⟨by omega, by simp [World.setCell]; omega⟩

set_option maxHeartbeats 2000000 in
set_option maxRecDepth 100000 in
theorem leave_p (W : World) (R : Nat) (s : ByteArray) (e : UInt8) (k : Nat) (v : Value) (m : Nat) (st : List Nat) (h : Rd W R s e k v (m :: st)) (hl : st.length ≤ 1099511627776) : Calls Tryz.prog 107 #[.pointer (some ⟨R, 0, none⟩)] W fun x w' => x = .returned (.tuple #[]) ∧ ∃ v', Rd w' R s e k v' st ∧ Rnd (rdS R v) (rdS R v') W w' := by
  obtain ⟨g, cap, rfl, hc, hm, hcell, hne, hown⟩ := h.row
  have f3 := h.lies.cell (i := 3) rfl
  have fr := h.lies.frozen 3
  have HR : Hid (Lies W R 161 #[.string s, .int .u8 e.toNat, .int .i64 k, .slice (some ⟨g, 0, none⟩) (st.length + 1) cap]) := h.lies
  have w1 : IntKind.i64.wrap ((st.length + 1 : Nat) - 1 : Int) = (st.length : Int) := by rw [wrap_small _ (by omega) (by omega)]; omega
  have d1 : (st.length : Int) ≤ (cap : Int) := by omega
  have d0 : (0 : Int) ≤ (st.length : Int) := by omega
  unfold maxLen at hm
  have HO : Hid (W.ownsRow 0 141 1 (.slice (some ⟨g, 0, none⟩) st.length cap) st.length (mnC st)) := hown
  clear h hcell hown
  go_enter Tryz.func107, Tryz.ntmps107
  go_region
  all_goals
    go_wp2
    go_end0
    refine ⟨rfl, .slice (some ⟨g, 0, none⟩) st.length cap, ⟨?_, ?_⟩, ?_⟩
    · exact (HR.out.drew _).set (i := 3) _
    · refine ⟨HO.out.1, ?_⟩
      rcases HO.out.2 with ⟨h0, _⟩ | ⟨g2, cap2, cur, h0, h1, hg, h2⟩
      · cases h0
      · refine .inr ⟨g2, cap2, cur, h0, h1, (Below.heap_setCell _ _ _ _ (fun e => hne (by injection h0 with h0; injection h0 with h0; injection h0 with h0; exact h0.trans e))).trans hg, h2⟩
    · exact ((Rnd.drew (rdS R _) W _).set (b := R) (i := 3) (.inl rfl) _)

set_option maxHeartbeats 2000000 in
set_option maxRecDepth 100000 in
theorem mark_p (p : Value) (W : World) (R : Nat) (s : ByteArray) (e : UInt8) (k : Nat) (v : Value) (st : List Nat) (h : Rd W R s e k v st) (hk : k ≤ 1099511627776) : Calls Tryz.prog 108 #[.pointer (some ⟨R, 0, none⟩), p] W fun x w' => x = .returned p ∧ Rd w' R s e (k + 1) v st ∧ Rnd (rdS R v) (rdS R v) W w' := by
  have f2 := h.lies.cell (i := 2) rfl
  have fr := h.lies.frozen 2
  have HR : Hid (Rd W R s e k v st) := h
  have w1 : IntKind.i64.wrap ((k : Int) + 1) = ((k + 1 : Nat) : Int) := by rw [wrap_small _ (by omega) (by omega)]; omega
  clear h
  go_enter Tryz.func108, Tryz.ntmps108
  go_wp2
  go_ret
  exact ⟨rfl, HR.out.move (k + 1), (Rnd.refl _ W).set (.inl rfl) _⟩

set_option maxHeartbeats 2000000 in
set_option maxRecDepth 100000 in
theorem bytes_p (n : Nat) (W : World) (R : Nat) (s : ByteArray) (e : UInt8) (k : Nat) (v : Value) (st : List Nat) (h : Rd W R s e k v st) (hk : k + n ≤ s.size) (hs : s.size ≤ 1099511627776) : Calls Tryz.prog 114 #[.pointer (some ⟨R, 0, none⟩), .int .i64 (n : Int)] W fun x w' => x = .returned (.string (bs (((un s).drop k).take n))) ∧ Rd w' R s e (k + n) v st ∧ Rnd (rdS R v) (rdS R v) W w' := by
  have f2 := h.lies.cell (i := 2) rfl
  have fr := h.lies.frozen 2
  have HR : Hid (Rd W R s e k v st) := h
  have w1 : IntKind.i64.wrap ((k : Int) + (n : Int)) = ((k + n : Nat) : Int) := by rw [wrap_small _ (by omega) (by omega)]; omega
  have w2 : IntKind.i64.wrap (((k + n : Nat) : Int) - (n : Int)) = (k : Int) := by rw [wrap_small _ (by omega) (by omega)]; omega
  have d0 : (0 : Int) ≤ (k : Int) := by omega
  have d1 : (k : Int) ≤ ((k + n : Nat) : Int) := by omega
  have d2 : ((k + n : Nat) : Int) ≤ (s.size : Int) := by omega
  have h2 := h.move (k + n)
  have r2 := (Rnd.refl (rdS R v) W).set (b := R) (i := 2) (.inl rfl) (.int .i64 ((k + n : Nat) : Int))
  have HX : Hid (s.extract k (k + n) = bs (((un s).drop k).take n)) := ext_part s k n
  clear h
  generalize hkn : k + n = kn at *
  go_enter Tryz.func114, Tryz.ntmps114
  go_wp2
  generalize (W.setCell ⟨R, 2, none⟩ (.int .i64 (kn : Int))) = W2 at *
  have g0 := h2.lies.cell (i := 0) rfl
  have g2 := h2.lies.cell (i := 2) rfl
  clear f2 fr
  go_quiet (fail)
  go_wp2
  go_ret
  exact ⟨by rw [← HX.out]; rfl, h2.drew _, r2.drewR _⟩
end Go.Proofs.YtbmakfdljddhcaaGreatDoor
