/- The reader of words in memory: where it stands, what is open; what its smaller methods do. -/
import Derived.Test.YtbmakfdljddhcaaGreatDoorExM
import Derived.OwnWalk
import Derived.Laws.AppendOwn
import Derived.Laws.OwnMore
namespace Go.Proofs.YtbmakfdljddhcaaGreatDoor
open Go Go.RowKit

/-- From W to W2 only the blocks of S are written; S2: those of S, and new ones. -/
structure Rnd (S S2 : Nat → Prop) (W W2 : World) : Prop where
  os : W2.os = W.os
  tape : W2.tape = W.tape
  output : W2.output = W.output
  size : W.heap.size ≤ W2.heap.size
  same : ∀ k, k < W.heap.size → ¬ S k → W2.heap[k]? = W.heap[k]?
  more : ∀ k, S2 k → S k ∨ (W.heap.size ≤ k ∧ k < W2.heap.size)
theorem Rnd.refl (S : Nat → Prop) (W : World) : Rnd S S W W := ⟨rfl, rfl, rfl, Nat.le_refl _, fun _ _ _ => rfl, fun _ h => .inl h⟩
theorem Rnd.trans {S S2 S3 : Nat → Prop} {A B C : World} (h : Rnd S S2 A B) (k : Rnd S2 S3 B C) : Rnd S S3 A C := by
  have hs := h.size
  refine ⟨k.os.trans h.os, k.tape.trans h.tape, k.output.trans h.output, Nat.le_trans h.size k.size, fun i hi hn => (k.same i (by omega) (fun hs2 => ?_)).trans (h.same i hi hn), fun i hi => ?_⟩
  · rcases h.more i hs2 with h1 | h1
    · exact hn h1
    · omega
  · have := k.size
    rcases k.more i hi with h1 | h1
    · rcases h.more i h1 with h2 | h2
      · exact .inl h2
      · exact .inr ⟨h2.1, by omega⟩
    · exact .inr ⟨by omega, h1.2⟩
theorem Rnd.below {S S2 : Nat → Prop} {A B : World} (h : Rnd S S2 A B) {n : Nat} (hn : n ≤ A.heap.size) (hS : ∀ k, S k → n ≤ k) : Below n A B := ⟨h.os, h.tape, h.output, h.size, fun k hk => h.same k (by omega) (fun hk2 => by have := hS k hk2; omega)⟩
theorem Rnd.from' {S S2 : Nat → Prop} {A B : World} (h : Rnd S S2 A B) {n : Nat} (hn : n ≤ A.heap.size) (hS : ∀ k, S k → n ≤ k) : ∀ k, S2 k → n ≤ k := fun k hk => by
  rcases h.more k hk with h1 | h1
  · exact hS k h1
  · omega
theorem Rnd.drew (S : Nat → Prop) (W : World) (n : Nat) : Rnd S S W (W.drewN n) := ⟨rfl, rfl, rfl, Nat.le_refl _, fun _ _ _ => rfl, fun _ h => .inl h⟩
theorem Rnd.drewR {S S2 : Nat → Prop} {A B : World} (h : Rnd S S2 A B) (n : Nat) : Rnd S S2 A (B.drewN n) := ⟨h.os, h.tape, h.output, h.size, h.same, h.more⟩
theorem Rnd.set {S S2 : Nat → Prop} {A B : World} (h : Rnd S S2 A B) {b i : Nat} (hb : S2 b) (v : Value) : Rnd S S2 A (B.setCell ⟨b, i, none⟩ v) := by
  have hs := h.size
  have e : (B.setCell ⟨b, i, none⟩ v).heap.size = B.heap.size := by simp [World.setCell]
  refine ⟨h.os, h.tape, h.output, by rw [e]; exact hs, fun k hk hn => ?_, fun k hk => by rw [e]; exact h.more k hk⟩
  refine (Below.heap_setCell _ _ _ _ (fun e => ?_)).trans (h.same k hk hn)
  subst e
  rcases h.more _ hb with h1 | h1
  · exact hn h1
  · omega
theorem Rnd.grown {S S2 : Nat → Prop} {A B C : World} {r : Option Nat} (h : Rnd S S2 A B) (g : B.grownBy C r) (hr : ∀ j, r = some j → S2 j) : Rnd S S2 A C := by
  have hs := h.size
  have := g.size
  refine ⟨g.os.trans h.os, g.tape.trans h.tape, g.output.trans h.output, by omega, fun k hk hn => (g.block k (by omega) (fun e => ?_)).trans (h.same k hk hn), fun k hk => ?_⟩
  · rcases h.more k (hr k e.symm) with h1 | h1
    · exact hn h1
    · omega
  · rcases h.more k hk with h1 | h1
    · exact .inl h1
    · exact .inr ⟨h1.1, by omega⟩
theorem Rnd.alloc {S S2 : Nat → Prop} {A B : World} (h : Rnd S S2 A B) (o : Obj) : Rnd S S2 A (B.alloc o) := by
  have hs := h.size
  refine ⟨h.os, h.tape, h.output, by simp; omega, fun k hk hn => (Below.heap_alloc _ _ _ (by omega)).trans (h.same k hk hn), fun k hk => ?_⟩
  rcases h.more k hk with h1 | h1
  · exact .inl h1
  · exact .inr ⟨h1.1, by simp; omega⟩
/-- The set may name more of what is new. -/
theorem Rnd.to {S S2 S3 : Nat → Prop} {A B : World} (h : Rnd S S2 A B) (h3 : ∀ k, S3 k → S k ∨ (A.heap.size ≤ k ∧ k < B.heap.size)) : Rnd S S3 A B := ⟨h.os, h.tape, h.output, h.size, h.same, h3⟩

def mnC (st : List Nat) : List Value := st.reverse.map (fun m : Nat => Value.int .u8 (m : Int))
theorem mnC_length (st : List Nat) : (mnC st).length = st.length := by simp [mnC]
theorem mnC_cons (m : Nat) (st : List Nat) : mnC (m :: st) = mnC st ++ [.int .u8 (m : Int)] := by simp [mnC]
theorem info_mn : (Tryz.prog.info? 141).map (fun i => (i.zero, i.size, i.bytes)) = some (some (.int .u8 0), 1, 1) := by kernel_rfl
/-- Block R is a reader of s from k on, with these things open. -/
structure Rd (W : World) (R : Nat) (s : ByteArray) (e : UInt8) (k : Nat) (v : Value) (st : List Nat) : Prop where
  lies : Lies W R 161 #[.string s, .int .u8 e.toNat, .int .i64 k, v]
  own : W.ownsRow 0 141 1 v st.length (mnC st)
def rdS (R : Nat) (v : Value) : Nat → Prop := fun j => j = R ∨ v.ownBlock = some j
theorem Rd.ne {W : World} {R : Nat} {s : ByteArray} {e : UInt8} {k : Nat} {v : Value} {st : List Nat} (h : Rd W R s e k v st) : v.ownBlock ≠ some R := by
  intro hv
  rcases h.own.2 with ⟨rfl, _⟩ | ⟨g, cap, cur, rfl, _, hg, _⟩
  · cases hv
  · simp [Value.ownBlock] at hv
    subst hv
    have := h.lies
    unfold Lies at this
    rw [hg] at this
    simp at this
theorem Rd.keep {W W2 : World} {R : Nat} {s : ByteArray} {e : UInt8} {k : Nat} {v : Value} {st : List Nat} (h : Rd W R s e k v st) (hk : ∀ j, rdS R v j → W2.heap[j]? = W.heap[j]?) : Rd W2 R s e k v st := by
  refine ⟨(hk R (.inl rfl)).trans h.lies, h.own.1, ?_⟩
  rcases h.own.2 with h1 | ⟨g, cap, cur, rfl, h1, hg, h2⟩
  · exact .inl h1
  · exact .inr ⟨g, cap, cur, rfl, h1, (hk g (.inr rfl)).trans hg, h2⟩
theorem Rd.there {W : World} {R : Nat} {s : ByteArray} {e : UInt8} {k : Nat} {v : Value} {st : List Nat} (h : Rd W R s e k v st) : ∀ j, rdS R v j → j < W.heap.size := by
  rintro j (rfl | hj)
  · exact h.lies.lt
  · rcases h.own.2 with ⟨rfl, _⟩ | ⟨g, cap, cur, rfl, _, hg, _⟩
    · cases hj
    · simp [Value.ownBlock] at hj; subst hj
      exact (Array.getElem?_eq_some_iff.1 hg).1
theorem Rd.drew {W : World} {R : Nat} {s : ByteArray} {e : UInt8} {k : Nat} {v : Value} {st : List Nat} (h : Rd W R s e k v st) (n : Nat) : Rd (W.drewN n) R s e k v st := h.keep (fun _ _ => rfl)
/-- The reader's place turns. -/
theorem Rd.move {W : World} {R : Nat} {s : ByteArray} {e : UInt8} {k : Nat} {v : Value} {st : List Nat} (h : Rd W R s e k v st) (k2 : Nat) : Rd (W.setCell ⟨R, 2, none⟩ (.int .i64 k2)) R s e k2 v st := by
  refine ⟨?_, h.own.1, ?_⟩
  · have := h.lies.set (i := 2) (.int .i64 k2)
    exact this
  · rcases h.own.2 with h1 | ⟨g, cap, cur, rfl, h1, hg, h2⟩
    · exact .inl h1
    · refine .inr ⟨g, cap, cur, rfl, h1, (Below.heap_setCell _ _ _ _ (fun e => h.ne (by simp [Value.ownBlock, e]))).trans hg, h2⟩
/-- What lies in the row of what is open. -/
theorem Rd.row {W : World} {R : Nat} {s : ByteArray} {e : UInt8} {k : Nat} {v : Value} {m : Nat} {st : List Nat} (h : Rd W R s e k v (m :: st)) : ∃ g cap, v = .slice (some ⟨g, 0, none⟩) (st.length + 1) cap ∧ st.length + 1 ≤ cap ∧ cap ≤ maxLen ∧ W.cell? ⟨g, st.length, none⟩ = some (.int .u8 (m : Int)) ∧ g ≠ R ∧ W.ownsRow 0 141 1 (.slice (some ⟨g, 0, none⟩) st.length cap) st.length (mnC st) := by
  have hne := h.ne
  have hown := h.own
  rcases h.own.2 with ⟨_, h0⟩ | ⟨g, cap, cur, rfl, h1, hg, hc, hm, hs, ht⟩
  · simp at h0
  · have hgl := hown.cellAt st.length (by simp)
    refine ⟨g, cap, rfl, hc, hm, ?_, fun e => hne (by simp [Value.ownBlock, e]), by rw [mnC_length]; simp, .inr ⟨g, cap, cur, rfl, h1, hg, by simp at hc; omega, hm, hs, ?_⟩⟩
    · rw [hgl, mnC_cons, List.getElem?_append_right (by rw [mnC_length]; exact Nat.le_refl _), mnC_length, Nat.sub_self]; rfl
    · have e1 : cur.toList.take (st.length * 1) = (cur.toList.take ((m :: st).length * 1)).take (st.length * 1) := by rw [List.take_take]; congr 1; simp
      rw [e1, ht, mnC_cons, List.take_append_of_le_length (by rw [mnC_length]; omega), List.take_of_length_le (by rw [mnC_length]; omega)]

theorem now_p (W : World) (R : Nat) (s : ByteArray) (e : UInt8) (k : Nat) (v : Value) (m : Nat) (st : List Nat) (h : Rd W R s e k v (m :: st)) (hl : st.length ≤ 1099511627776) : Calls Tryz.prog 104 #[.pointer (some ⟨R, 0, none⟩)] W fun x w' => x = .returned (.int .u8 (m : Int)) ∧ ∃ d, w' = W.drewN d := by
  obtain ⟨g, cap, rfl, hc, hm, hcell, hne, _⟩ := h.row
  have f3 := h.lies.cell (i := 3) rfl
  have w1 : IntKind.i64.wrap ((st.length + 1 : Nat) - 1 : Int) = (st.length : Int) := by rw [wrap_small _ (by omega) (by omega)]; omega
  clear h
  go_enter Tryz.func104, Tryz.ntmps104
  go_wp2
  go_quiet (fail)
  go_wp2
  go_ret
  exact ⟨rfl, _, rfl⟩
end Go.Proofs.YtbmakfdljddhcaaGreatDoor
