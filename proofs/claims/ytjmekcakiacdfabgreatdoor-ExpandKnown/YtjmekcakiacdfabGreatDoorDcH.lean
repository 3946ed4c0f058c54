/- One piece more, or a list of them: how the loops of the document's reader go on. -/
import Derived.Test.YtjmekcakiacdfabGreatDoorDcG
namespace Go.Proofs.YtjmekcakiacdfabGreatDoor
open Go Go.RowKit

theorem cells_new4 (W : World) (a b c d : Value) (t : TypeId) : ∀ (j : Nat) u, ([a, b, c, d] : List Value)[j]? = some u → (W.alloc (.cells #[a, b, c, d] t)).cell? ((⟨W.heap.size, 0, none⟩ : Addr).add j) = some u := by
  intro j u h
  have hadd : (⟨W.heap.size, 0, none⟩ : Addr).add j = ⟨W.heap.size, j, none⟩ := by unfold Addr.add; split <;> simp_all
  rw [hadd]; exact (Lies.new W t #[a, b, c, d]).cell (by simpa using h)
theorem LI.to {st : List Nat} {W : World} {B R : Nat} {s : ByteArray} {e : UInt8} {k : Nat} {v : Value} {ns : List (List UInt8)} {w : World} {k2 no2 : Nat} {v2 : Value} {ns2 : List (List UInt8)} {lv : Value} {ts : List Pt} {us : List Value} (h : LI st W B R s e k v ns w k2 no2 v2 ns2 lv ts us) (n : Nat) : LI st W B R s e k v ns (w.drewN n) k2 no2 v2 ns2 lv ts us :=
  ⟨h.dr.drew n, h.pl.to (Nat.le_refl _) (fun _ _ => rfl), h.rnd.drewR n, h.len, h.hi, h.ok, h.bad⟩
/-- A piece has been read, and is not yet laid to the others. -/
structure PI (st : List Nat) (W : World) (B R : Nat) (s : ByteArray) (e : UInt8) (k : Nat) (v : Value) (ns : List (List UInt8)) (w : World) (kd k2 no2 : Nat) (v2 : Value) (ns2 : List (List UInt8)) (lv : Value) (ts : List Pt) (us : List Value) (p : Pt) (u : Value) : Prop where
  dr : DR w B R s e kd no2 v2 ns2
  pl : PL W w R v2 lv ts us
  kid : PatP w (TLp W w R v2 lv) p u
  rnd : Rnd (rdS R v) (rdS R v2) W w
  len : ts.length + 1 + k ≤ s.size + 2 ∧ (no2 = 0 → ts.length + 1 + k ≤ k2)
  hi : k2 ≤ s.size + 1
  ok : no2 = 0 → k2 ≤ s.size ∧ Run e st ((un s).drop k) st ((un s).drop k2) (flatL (ts ++ [p])) ∧ ns2 = metL (flatL (ts ++ [p])) ns ∧ ns2.length + k ≤ ns.length + k2
  bad : no2 ≠ 0 → s.size ≤ k2 ∧ Bad e st ((un s).drop k) no2
theorem LI.piece {st : List Nat} {W : World} {B R : Nat} {s : ByteArray} {e : UInt8} {k : Nat} {v : Value} {ns : List (List UInt8)} {w : World} {k2 : Nat} {v2 : Value} {ns2 : List (List UInt8)} {lv : Value} {ts : List Pt} {us : List Value} (h : LI st W B R s e k v ns w k2 0 v2 ns2 lv ts us)
    {w1 : World} {k3 no3 : Nat} {v3 : Value} {ns3 : List (List UInt8)} {p : Pt} {u : Value} (hd : DR w1 B R s e k3 no3 v3 ns3) (hk : k2 < k3) (hk3 : k3 ≤ s.size + 1) (hp : PatP w1 (TAp w w1 R v3) p u) (hr : Rnd (rdS R v2) (rdS R v3) w w1)
    (hok : no3 = 0 → k3 ≤ s.size ∧ Run e st ((un s).drop k2) st ((un s).drop k3) (flatP p) ∧ ns3 = metL (flatP p) ns2 ∧ ns3.length + k2 ≤ ns2.length + k3) (hbad : no3 ≠ 0 → s.size ≤ k3 ∧ Bad e st ((un s).drop k2) no3) : PI st W B R s e k v ns w1 k3 k3 no3 v3 ns3 lv ts us p u := by
  obtain ⟨o1, o2, o3, o4⟩ := h.ok rfl
  have hsz := h.rnd.size
  refine ⟨hd, h.pl.rnd hr, hp.to (fun j hj => ⟨⟨by have := hj.1; omega, hj.2.1, hj.2.2⟩, fun e => ?_⟩), h.rnd.trans hr, by have := h.len.2 rfl; have := (h.ok rfl).1; exact ⟨by omega, fun _ => by omega⟩, hk3, fun h0 => ?_, fun h0 => ⟨(hbad h0).1, o2.bad (hbad h0).2⟩⟩
  · have := (h.pl.blk j e).2.1
    have := hj.1
    omega
  · obtain ⟨q1, q2, q3, q4⟩ := hok h0
    rw [flatL_append, flatL_one]
    exact ⟨q1, o2.trans q2, by rw [metL_append, ← o3]; exact q3, by omega⟩
theorem LI.bytes {st : List Nat} {W : World} {B R : Nat} {s : ByteArray} {e : UInt8} {k : Nat} {v : Value} {ns : List (List UInt8)} {w : World} {k2 : Nat} {v2 : Value} {ns2 : List (List UInt8)} {lv : Value} {ts : List Pt} {us : List Value} (h : LI st W B R s e k v ns w k2 0 v2 ns2 lv ts us)
    {w1 : World} {kd k3 : Nat} {l : List UInt8} (hd : DR w1 B R s e kd 0 v2 ns2) (hk : k2 < k3) (hk3 : k3 ≤ s.size) (hr : Rnd (rdS R v2) (rdS R v2) w w1) (hrun : Run e st ((un s).drop k2) st ((un s).drop k3) [.lit l]) (hll : l.length ≤ 1099511627776) : PI st W B R s e k v ns w1 kd k3 0 v2 ns2 lv ts us (.mk l [] 0 []) (.slice none 0 0) := by
  obtain ⟨o1, o2, o3, o4⟩ := h.ok rfl
  refine ⟨hd, h.pl.rnd hr, patP_leaf _ _ _ _ _ hll, h.rnd.trans hr, by have := h.len.2 rfl; exact ⟨by omega, fun _ => by omega⟩, by omega, fun h0 => ?_, fun h => (h rfl).elim⟩
  have e1 : flatP (.mk l [] 0 []) = [.lit l] := by rw [flatP_lit]
  rw [flatL_append, flatL_one, e1]
  exact ⟨hk3, o2.trans hrun, by rw [metL_append, ← o3]; rfl, by omega⟩
theorem PI.laid {st : List Nat} {W : World} {B R : Nat} {s : ByteArray} {e : UInt8} {k : Nat} {v : Value} {ns : List (List UInt8)} {w : World} {kd k2 no2 : Nat} {v2 : Value} {ns2 : List (List UInt8)} {lv : Value} {ts : List Pt} {us : List Value} {p : Pt} {u : Value} (h : PI st W B R s e k v ns w kd k2 no2 v2 ns2 lv ts us p u)
    {w3 : World} {lv3 : Value} {o : Obj} (hown : w3.ownsRow 0 108 4 lv3 (ts.length + 1) (ptsC ts us ++ ptC p u)) (hgrow : (w.alloc o).grownBy w3 lv.ownBlock) (hat : lv3.ownBlock = lv.ownBlock ∨ lv3.ownBlock = some (w.alloc o).heap.size) : DR w3 B R s e kd no2 v2 ns2 ∧ PL W w3 R v2 lv3 (ts ++ [p]) (us ++ [u]) ∧ Rnd (rdS R v) (rdS R v2) W w3 := by
  have ha := h.pl.alloc o
  have hs0 : (w.alloc o).heap.size = w.heap.size + 1 := World.size_alloc _ _
  have hW := h.rnd.size
  have hkid : PatP (w.alloc o) (TLp W (w.alloc o) R v2 lv) p u := PatP.keep (fun j hj => ⟨⟨hj.1.1, by have := hj.1.2.1; omega, hj.1.2.2⟩, hj.2⟩) (fun j hj => Below.heap_alloc w o j hj.1.2.1) p u h.kid
  have hg := ha.grow (lv2 := lv3) (ts2 := ts ++ [p]) (us2 := us ++ [u]) hgrow (by
    rw [ptsC_append _ _ _ _ h.pl.pts.kids.len, ptsC_one, List.length_append]; exact hown) (ha.pts.kids.append (PatL.one hkid)) hat (fun j hj => by have := h.dr.there j hj; omega) (by omega)
  have hne : ∀ j, rdS R v2 j → lv.ownBlock ≠ some j := fun j hj e => (h.pl.blk j e).2.2 hj
  refine ⟨h.dr.keep (fun j hj => ?_), hg, ?_⟩
  · have := h.dr.there j hj
    exact (hgrow.block j (by omega) (fun e => hne j hj e.symm)).trans (Below.heap_alloc w o j this)
  · have r1 := h.rnd.alloc o
    refine ⟨hgrow.os.trans r1.os, hgrow.tape.trans r1.tape, hgrow.output.trans r1.output, by have := hgrow.size; omega, fun j hj hn => (hgrow.block j (by omega) (fun e => ?_)).trans (r1.same j hj hn), fun j hj => ?_⟩
    · have := (h.pl.blk j e.symm).1
      omega
    · have := hgrow.size
      rcases r1.more j hj with h9 | h9
      · exact .inl h9
      · exact .inr ⟨h9.1, by omega⟩
theorem PI.push {st : List Nat} {W : World} {B R : Nat} {s : ByteArray} {e : UInt8} {k : Nat} {v : Value} {ns : List (List UInt8)} {w : World} {k2 no2 : Nat} {v2 : Value} {ns2 : List (List UInt8)} {lv : Value} {ts : List Pt} {us : List Value} {p : Pt} {u : Value} (h : PI st W B R s e k v ns w k2 k2 no2 v2 ns2 lv ts us p u)
    {w3 : World} {lv3 : Value} {o : Obj} (hown : w3.ownsRow 0 108 4 lv3 (ts.length + 1) (ptsC ts us ++ ptC p u)) (hgrow : (w.alloc o).grownBy w3 lv.ownBlock) (hat : lv3.ownBlock = lv.ownBlock ∨ lv3.ownBlock = some (w.alloc o).heap.size) : LI st W B R s e k v ns w3 k2 no2 v2 ns2 lv3 (ts ++ [p]) (us ++ [u]) := by
  obtain ⟨h1, h2, h3⟩ := h.laid hown hgrow hat
  exact ⟨h1, h2, h3, by rw [List.length_append]; have := h.len; simp only [List.length_singleton]; exact ⟨by omega, fun h0 => by have := this.2 h0; omega⟩, h.hi, h.ok, h.bad⟩
theorem PL.set {W w : World} {R : Nat} {v lv : Value} {ts : List Pt} {us : List Value} (h : PL W w R v lv ts us) {i : Nat} (x : Value) : PL W (w.setCell ⟨R, i, none⟩ x) R v lv ts us :=
  h.to (by rw [size_setCell]; exact Nat.le_refl _) (fun j hj => Below.heap_setCell _ _ _ _ (fun e => hj.2.2 (.inl (by simp at e; exact e))))
/-- .. and then the reader goes on to where the piece ends. -/
theorem PI.pushTo {st : List Nat} {W : World} {B R : Nat} {s : ByteArray} {e : UInt8} {k : Nat} {v : Value} {ns : List (List UInt8)} {w : World} {kd k2 no2 : Nat} {v2 : Value} {ns2 : List (List UInt8)} {lv : Value} {ts : List Pt} {us : List Value} {p : Pt} {u : Value} (h : PI st W B R s e k v ns w kd k2 no2 v2 ns2 lv ts us p u)
    {w3 : World} {lv3 : Value} {o : Obj} (hown : w3.ownsRow 0 108 4 lv3 (ts.length + 1) (ptsC ts us ++ ptC p u)) (hgrow : (w.alloc o).grownBy w3 lv.ownBlock) (hat : lv3.ownBlock = lv.ownBlock ∨ lv3.ownBlock = some (w.alloc o).heap.size) : LI st W B R s e k v ns (w3.setCell ⟨R, 1, none⟩ (.int .i64 k2)) k2 no2 v2 ns2 lv3 (ts ++ [p]) (us ++ [u]) := by
  obtain ⟨h1, h2, h3⟩ := h.laid hown hgrow hat
  exact ⟨h1.move k2, h2.set _, h3.set (.inl rfl) _, by rw [List.length_append]; have := h.len; simp only [List.length_singleton]; exact ⟨by omega, fun h0 => by have := this.2 h0; omega⟩, h.hi, h.ok, h.bad⟩
theorem PtsAt.cells {w : World} {T : Nat → Prop} {g : Nat} {n cap : Nat} {ts : List Pt} {us : List Value} (h : PtsAt w T (.slice (some ⟨g, 0, none⟩) n cap) ts us) (hn : n = ts.length) : ∀ (j : Nat) u, (ptsC ts us)[j]? = some u → w.cell? ((⟨g, 0, none⟩ : Addr).add j) = some u := by
  intro j u hu
  have hadd : (⟨g, 0, none⟩ : Addr).add j = ⟨g, j, none⟩ := by unfold Addr.add; split <;> simp_all
  have hj := (List.getElem?_eq_some_iff.1 hu).1
  have h2 := h.own
  rw [← hn] at h2
  rw [hadd, h2.cellAt j (by rw [h2.1] at hj; exact hj), hu]
/-- A whole list more. -/
theorem LI.join {st : List Nat} {W : World} {B R : Nat} {s : ByteArray} {e : UInt8} {k : Nat} {v : Value} {ns : List (List UInt8)} {w : World} {k2 : Nat} {v2 : Value} {ns2 : List (List UInt8)} {lv : Value} {ts : List Pt} {us : List Value} (h : LI st W B R s e k v ns w k2 0 v2 ns2 lv ts us)
    {wq w1 w3 : World} {kq k3 no3 : Nat} {v3 : Value} {ns3 : List (List UInt8)} {lv2 lv3 : Value} {ts2 : List Pt} {us2 : List Value} (hd : DR w1 B R s e k3 no3 v3 ns3) (hp : PL wq w1 R v3 lv2 ts2 us2) (hwq : wq.heap.size = w.heap.size) (hr : Rnd (rdS R v2) (rdS R v3) w w1) (hk : k2 ≤ kq) (hl : ts2.length + kq ≤ s.size + 2 ∧ (no3 = 0 → ts2.length + kq ≤ k3)) (hhi : k3 ≤ s.size + 1)
    (hok : no3 = 0 → k3 ≤ s.size ∧ Run e st ((un s).drop k2) st ((un s).drop k3) (flatL ts2) ∧ ns3 = metL (flatL ts2) ns2 ∧ ns3.length + k2 ≤ ns2.length + k3) (hbad : no3 ≠ 0 → s.size ≤ k3 ∧ Bad e st ((un s).drop k2) no3)
    (hown : w3.ownsRow 0 108 4 lv3 (ts.length + ts2.length) (ptsC ts us ++ ptsC ts2 us2)) (hgrow : w1.grownBy w3 lv.ownBlock) (hat : lv3.ownBlock = lv.ownBlock ∨ lv3.ownBlock = some w1.heap.size) : LI st W B R s e k v ns w3 k3 no3 v3 ns3 lv3 (ts ++ ts2) (us ++ us2) := by
  obtain ⟨o1, o2, o3, o4⟩ := h.ok rfl
  have hsz := h.rnd.size
  have hsr := hr.size
  have ha := h.pl.rnd hr
  have hlv : ∀ j, lv.ownBlock = some j → j < w.heap.size := fun j hj => (h.pl.blk j hj).2.1
  have hkids : PatL w1 (TLp W w1 R v3 lv) ts2 us2 := PatL.keep (fun j hj => ⟨⟨by have := hj.1.1; omega, hj.1.2.1, hj.1.2.2⟩, fun e => by have := hlv j e; have := hj.1.1; omega⟩) (fun _ _ => rfl) ts2 us2 hp.pts.kids
  have hg := ha.grow (lv2 := lv3) (ts2 := ts ++ ts2) (us2 := us ++ us2) hgrow (by
    rw [ptsC_append _ _ _ _ h.pl.pts.kids.len, List.length_append]; exact hown) (ha.pts.kids.append hkids) hat (fun j hj => hd.there j hj) (by omega)
  have hne : ∀ j, rdS R v3 j → lv.ownBlock ≠ some j := fun j hj e => (ha.blk j e).2.2 hj
  have r1 := h.rnd.trans hr
  refine ⟨hd.keep (fun j hj => hgrow.block j (hd.there j hj) (fun e => hne j hj e.symm)), hg, ?_, by rw [List.length_append]; have := h.len.2 rfl; exact ⟨by omega, fun h0 => by have := hl.2 h0; omega⟩, hhi, fun h0 => ?_, fun h0 => ⟨(hbad h0).1, o2.bad (hbad h0).2⟩⟩
  · refine ⟨hgrow.os.trans r1.os, hgrow.tape.trans r1.tape, hgrow.output.trans r1.output, by have := hgrow.size; omega, fun j hj hn => (hgrow.block j (by omega) (fun e => ?_)).trans (r1.same j hj hn), fun j hj => ?_⟩
    · have := (ha.blk j e.symm).1
      omega
    · have := hgrow.size
      rcases r1.more j hj with h9 | h9
      · exact .inl h9
      · exact .inr ⟨h9.1, by omega⟩
  · obtain ⟨q1, q2, q3, q4⟩ := hok h0
    rw [flatL_append]
    exact ⟨q1, o2.trans q2, by rw [metL_append, ← o3]; exact q3, by omega⟩
/-- The end of a reading: what a loop leaves. -/
theorem LI.post {st : List Nat} {W : World} {B R : Nat} {s : ByteArray} {e : UInt8} {k : Nat} {v : Value} {ns : List (List UInt8)} {w : World} {k2 no2 : Nat} {v2 : Value} {ns2 : List (List UInt8)} {lv : Value} {ts : List Pt} {us : List Value} (h : LI st W B R s e k v ns w k2 no2 v2 ns2 lv ts us) {E : Nat → Prop} {hi : Nat} (hh : k2 ≤ hi) (hE : no2 = 0 → E k2) : LPost st st E hi W B R s e k v ns (.returned lv) w :=
  ⟨lv, ts, us, k2, no2, v2, ns2, rfl, h.dr, h.pl, h.rnd, h.len, hh, fun h0 => ⟨(h.ok h0).1, (h.ok h0).2.1, (h.ok h0).2.2.1, (h.ok h0).2.2.2, hE h0⟩, h.bad⟩
/-- .. where it goes on as far as the next piece, which is none. -/
theorem LI.last {st st2 : List Nat} {W : World} {B R : Nat} {s : ByteArray} {e : UInt8} {k : Nat} {v : Value} {ns : List (List UInt8)} {w : World} {k2 : Nat} {v2 : Value} {ns2 : List (List UInt8)} {lv : Value} {ts : List Pt} {us : List Value} (h : LI st W B R s e k v ns w k2 0 v2 ns2 lv ts us) {E : Nat → Prop} {hi : Nat} (k3 : Nat) (hk : k2 ≤ k3) (hh : k3 ≤ hi) (hs : k3 ≤ s.size) (hr : Run e st ((un s).drop k2) st2 ((un s).drop k3) []) (hE : E k3) : LPost st st2 E hi W B R s e k v ns (.returned lv) (w.setCell ⟨R, 1, none⟩ (.int .i64 k3)) := by
  obtain ⟨o1, o2, o3, o4⟩ := h.ok rfl
  refine ⟨lv, ts, us, k3, 0, v2, ns2, rfl, h.dr.move k3, h.pl.set _, h.rnd.set (.inl rfl) _, ⟨h.len.1, fun _ => by have := h.len.2 rfl; omega⟩, hh, fun _ => ⟨hs, ?_, o3, by omega, hE⟩, fun h => (h rfl).elim⟩
  have := o2.trans hr
  rwa [List.append_nil] at this
/-- .. where something is wrong at the end. -/
theorem LI.wrong {st st2 : List Nat} {W : World} {B R : Nat} {s : ByteArray} {e : UInt8} {k : Nat} {v : Value} {ns : List (List UInt8)} {w w1 : World} {k2 no2 n : Nat} {v2 : Value} {ns2 : List (List UInt8)} {lv : Value} {ts : List Pt} {us : List Value} (h : LI st W B R s e k v ns w k2 no2 v2 ns2 lv ts us) {E : Nat → Prop} {hi : Nat} (hd : DR w1 B R s e s.size (if no2 = 0 then n else no2) v2 ns2) (hr : Rnd (rdS R v2) (rdS R v2) w w1) (hh : s.size ≤ hi) (hn : n ≠ 0) (hb : no2 = 0 → Bad e st ((un s).drop k2) n) : LPost st st2 E hi W B R s e k v ns (.returned lv) w1 := by
  refine ⟨lv, ts, us, s.size, _, v2, ns2, rfl, hd, h.pl.rnd hr, h.rnd.trans hr, ⟨h.len.1, fun h0 => ?_⟩, hh, fun h0 => ?_, fun h0 => ⟨Nat.le_refl _, ?_⟩⟩
  · split at h0
    · exact (hn h0).elim
    · rename_i h1; exact (h1 h0).elim
  · split at h0
    · exact (hn h0).elim
    · rename_i h1; exact (h1 h0).elim
  · by_cases h1 : no2 = 0
    · rw [if_pos h1]; exact (h.ok h1).2.1.bad (hb h1)
    · rw [if_neg h1]; exact (h.bad h1).2
end Go.Proofs.YtjmekcakiacdfabGreatDoor
