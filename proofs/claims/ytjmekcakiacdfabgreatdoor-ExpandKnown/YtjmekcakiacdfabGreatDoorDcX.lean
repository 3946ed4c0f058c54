/- The document's reader in memory: where it stands, what is wrong, the names met; its smaller methods (next, wrong, bytes). -/
import Derived.Test.YtjmekcakiacdfabGreatDoorNmsW
import Derived.Test.YtjmekcakiacdfabGreatDoorTnW
namespace Go.Proofs.YtjmekcakiacdfabGreatDoor
open Go Go.RowKit

/-- Block R is the document's reader of s from k on: what is wrong (no), and the names met. -/
structure DR (W : World) (B R : Nat) (s : ByteArray) (e : UInt8) (k no : Nat) (v : Value) (ns : List (List UInt8)) : Prop where
  lies : Lies W R 79 #[.string s, .int .i64 k, .int .u8 e.toNat, .int .i64 no, v]
  own : W.ownsRow B 9 1 v ns.length (nsC ns)
theorem DR.ne {W : World} {B R : Nat} {s : ByteArray} {e : UInt8} {k no : Nat} {v : Value} {ns : List (List UInt8)} (h : DR W B R s e k no v ns) : v.ownBlock ≠ some R := by
  intro hv
  rcases h.own.2 with ⟨rfl, _⟩ | ⟨g, cap, cur, rfl, _, hg, _⟩
  · cases hv
  · simp [Value.ownBlock] at hv
    subst hv
    have := h.lies
    unfold Lies at this
    rw [hg] at this
    simp at this
theorem DR.keep {W W2 : World} {B R : Nat} {s : ByteArray} {e : UInt8} {k no : Nat} {v : Value} {ns : List (List UInt8)} (h : DR W B R s e k no v ns) (hk : ∀ j, rdS R v j → W2.heap[j]? = W.heap[j]?) : DR W2 B R s e k no v ns :=
  ⟨(hk R (.inl rfl)).trans h.lies, own_keepN h.own (fun j hj => hk j (.inr hj))⟩
theorem DR.there {W : World} {B R : Nat} {s : ByteArray} {e : UInt8} {k no : Nat} {v : Value} {ns : List (List UInt8)} (h : DR W B R s e k no v ns) : ∀ j, rdS R v j → j < W.heap.size := by
  rintro j (rfl | hj)
  · exact h.lies.lt
  · rcases h.own.2 with ⟨rfl, _⟩ | ⟨g, cap, cur, rfl, _, hg, _⟩
    · cases hj
    · simp [Value.ownBlock] at hj; subst hj
      exact (Array.getElem?_eq_some_iff.1 hg).1
theorem DR.drew {W : World} {B R : Nat} {s : ByteArray} {e : UInt8} {k no : Nat} {v : Value} {ns : List (List UInt8)} (h : DR W B R s e k no v ns) (n : Nat) : DR (W.drewN n) B R s e k no v ns := h.keep (fun _ _ => rfl)
theorem DR.belowK {W W2 : World} {B R : Nat} {s : ByteArray} {e : UInt8} {k no : Nat} {v : Value} {ns : List (List UInt8)} (h : DR W B R s e k no v ns) (hb : Below W.heap.size W W2) : DR W2 B R s e k no v ns := h.keep (fun j hj => hb.block j (h.there j hj))
theorem DR.setRow {W : World} {B R i : Nat} {s : ByteArray} {e : UInt8} {k no : Nat} {v : Value} {ns : List (List UInt8)} (h : DR W B R s e k no v ns) (x : Value) : (W.setCell ⟨R, i, none⟩ x).ownsRow B 9 1 v ns.length (nsC ns) :=
  own_keepN h.own (fun j hj => Below.heap_setCell _ _ _ _ (fun e => h.ne (by rw [hj]; exact congrArg some e)))
/-- The reader's place turns. -/
theorem DR.move {W : World} {B R : Nat} {s : ByteArray} {e : UInt8} {k no : Nat} {v : Value} {ns : List (List UInt8)} (h : DR W B R s e k no v ns) (k2 : Nat) : DR (W.setCell ⟨R, 1, none⟩ (.int .i64 k2)) B R s e k2 no v ns :=
  ⟨h.lies.set (i := 1) (.int .i64 k2), h.setRow _⟩
/-- Something is wrong. -/
theorem DR.mark {W : World} {B R : Nat} {s : ByteArray} {e : UInt8} {k no : Nat} {v : Value} {ns : List (List UInt8)} (h : DR W B R s e k no v ns) (n2 : Nat) : DR (W.setCell ⟨R, 3, none⟩ (.int .i64 n2)) B R s e k n2 v ns :=
  ⟨h.lies.set (i := 3) (.int .i64 n2), h.setRow _⟩

/-- The byte behind the next one. -/
def nextV : List UInt8 → Value
  | [] => .tuple #[.int .u8 0, .bool false]
  | d :: _ => .tuple #[.int .u8 d.toNat, .bool true]
set_option maxHeartbeats 2000000 in
set_option maxRecDepth 100000 in
theorem next_r (W : World) (B R : Nat) (s : ByteArray) (e : UInt8) (k no : Nat) (v : Value) (ns : List (List UInt8)) (h : DR W B R s e k no v ns) (hk : k ≤ 1099511627776) (_hs : s.size ≤ 1099511627776) : Calls Tryz.prog 50 #[.pointer (some ⟨R, 0, none⟩)] W fun x w' => x = .returned (nextV ((un s).drop (k + 1))) ∧ ∃ d, w' = W.drewN d := by
  have f0 := h.lies.cell (i := 0) rfl
  have f1 := h.lies.cell (i := 1) rfl
  have w1 : IntKind.i64.wrap ((k : Int) + 1) = ((k + 1 : Nat) : Int) := by rw [wrap_small _ (by omega) (by omega)]; omega
  clear h
  by_cases hlt : k + 1 < s.size
  · have hd := drop_get hlt
    have HD : Hid (nextV ((un s).drop (k + 1)) = .tuple #[.int .u8 s[k + 1].toNat, .bool true]) := by unfold Hid; rw [hd]; rfl
    have g1 : ¬ (s.size : Int) ≤ ((k + 1 : Nat) : Int) := by omega
    have d0 : (0 : Int) ≤ ((k + 1 : Nat) : Int) := by omega
    have d1 : ((k + 1 : Nat) : Int) < (s.size : Int) := by omega
    clear hd
    generalize (un s).drop (k + 1) = T at *
    generalize hkb : k + 1 = kb at *
    go_enter Tryz.func50, Tryz.ntmps50
    go_wp2
    go_quiet (fail)
    go_wp2
    go_quiet (fail)
    go_wp2
    go_ret2
    exact ⟨by rw [HD.out]; rfl, _, World.drewN_drewN _ _ _⟩
  · have HD : Hid (nextV ((un s).drop (k + 1)) = .tuple #[.int .u8 0, .bool false]) := by unfold Hid; rw [List.drop_of_length_le (by rw [un_length]; omega)]; rfl
    have g1 : (s.size : Int) ≤ ((k + 1 : Nat) : Int) := by omega
    generalize (un s).drop (k + 1) = T at *
    generalize hkb : k + 1 = kb at *
    go_enter Tryz.func50, Tryz.ntmps50
    go_wp2
    go_quiet (fail)
    go_wp2
    go_ret2
    exact ⟨by rw [HD.out]; rfl, _, rfl⟩

set_option maxHeartbeats 2000000 in
set_option maxRecDepth 100000 in
theorem wrong_r (n : Nat) (W : World) (B R : Nat) (s : ByteArray) (e : UInt8) (k no : Nat) (v : Value) (ns : List (List UInt8)) (h : DR W B R s e k no v ns) (_hs : s.size ≤ 1099511627776) : Calls Tryz.prog 52 #[.pointer (some ⟨R, 0, none⟩), .int .i64 (n : Int)] W fun x w' => x = .returned (.tuple #[]) ∧ DR w' B R s e s.size (if no = 0 then n else no) v ns ∧ Rnd (rdS R v) (rdS R v) W w' := by
  have f3 := h.lies.cell (i := 3) rfl
  have fr := h.lies.frozen 3
  have HR : Hid (DR W B R s e k no v ns) := h
  by_cases hn : no = 0
  · have q1 : ((no : Int) == 0) = true := by subst hn; rfl
    rw [if_pos hn]
    have h2 := h.mark n
    have r2 := (Rnd.refl (rdS R v) W).set (b := R) (i := 3) (.inl rfl) (.int .i64 (n : Int))
    have g0 := h.lies.cell (i := 0) rfl
    have g1 := h.lies.cell (i := 1) rfl
    have gr := h.lies.frozen 1
    clear h hn
    go_enter Tryz.func52, Tryz.ntmps52
    go_wp2
    go_end0
    exact ⟨rfl, h2.move s.size, r2.set (b := R) (i := 1) (.inl rfl) _⟩
  · have q1 : ((no : Int) == 0) = false := by simp; omega
    rw [if_neg hn]
    have g0 := h.lies.cell (i := 0) rfl
    have g1 := h.lies.cell (i := 1) rfl
    have gr := h.lies.frozen 1
    clear h hn
    go_enter Tryz.func52, Tryz.ntmps52
    go_wp2
    go_end0
    exact ⟨rfl, HR.out.move s.size, (Rnd.refl _ W).set (b := R) (i := 1) (.inl rfl) _⟩
end Go.Proofs.YtjmekcakiacdfabGreatDoor
