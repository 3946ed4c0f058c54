/- Blocks of cells, errors' numbers, what is put into a block: what the walks of layer 5 stand on. -/
import Derived.Test.YtgdkgdlgalinbaaGreatDoorProg
import Derived.Test.YtgdkgdlgalinbaaGreatDoorSplitM
import Derived.Lib.LaidTab
import Derived.Lib.UnsafeStr
import Derived.WalkKit
import Derived.WalkSpells
import Derived.Outline
import Derived.Deep.MidRow
import Derived.Deep.WholeRow
import Derived.RangeFuncBox
import Derived.RegionTactic
import Derived.Deep.Quiet
import Derived.Deep.QuietTactic
import Derived.BigQuiet
import Derived.Deep.Draws
import Derived.Laws.CopyOwn
import Derived.Laws.IdiomStrings
namespace Go.Proofs.YtgdkgdlgalinbaaGreatDoor
open Go Go.RowKit

def errV (n : Int) : Value := if n = 0 then .nilIface else .iface 46 (.int .i64 n)
theorem errV_zero : errV 0 = .nilIface := rfl
theorem errV_some (n : Int) (h : n ≠ 0) : errV n = .iface 46 (.int .i64 n) := if_neg h
theorem joinB_size (a b : ByteArray) : (joinB a b).size ≤ a.size + 1 + b.size := by
  unfold joinB
  split
  · omega
  · rw [← un_length, un_append, un_append, List.length_append, List.length_append, un_length a, un_length b, show (un ⟨#[47]⟩).length = 1 from rfl]; omega
theorem splitP_cases (p : ByteArray) : (splitP p).2.2 = 0 ∨ (splitP p).2.2 = 9 := by
  unfold splitP
  repeat' split
  all_goals first | exact .inl rfl | exact .inr rfl

/-- Block B holds just these cells. -/
def Lies (W : World) (B : Nat) (t : TypeId) (cur : Array Value) : Prop := W.heap[B]? = some (.cells cur t (0, 0))
theorem Lies.cell {W : World} {B i : Nat} {t : TypeId} {cur : Array Value} {v : Value} (h : Lies W B t cur) (hv : cur[i]? = some v) : W.cell? ⟨B, i, none⟩ = some v := by simp [World.cell?, show W.heap[B]? = _ from h, hv]
theorem Lies.frozen {W : World} {B : Nat} {t : TypeId} {cur : Array Value} (h : Lies W B t cur) (i : Nat) : W.frozen? ⟨B, i, none⟩ = false := by simp [World.frozen?, show W.heap[B]? = _ from h]
theorem Lies.lt {W : World} {B : Nat} {t : TypeId} {cur : Array Value} (h : Lies W B t cur) : B < W.heap.size := (Array.getElem?_eq_some_iff.1 h).1
theorem Lies.new (W : World) (t : TypeId) (cur : Array Value) : Lies (W.alloc (.cells cur t)) W.heap.size t cur := World.alloc_heap_new W _
theorem Lies.set {W : World} {B i : Nat} {t : TypeId} {cur : Array Value} (h : Lies W B t cur) (v : Value) : Lies (W.setCell ⟨B, i, none⟩ v) B t (cur.setIfInBounds i v) := by
  obtain ⟨hlt, hk⟩ := Array.getElem?_eq_some_iff.1 h
  show (W.heap.modify B _)[B]? = _
  rw [Array.getElem?_eq_getElem (by rw [Array.size_modify]; exact hlt), Array.getElem_modify_self, hk]
  rfl
theorem Lies.other {W : World} {B b i : Nat} {t : TypeId} {cur : Array Value} (h : Lies W B t cur) (v : Value) (hne : b ≠ B) : Lies (W.setCell ⟨b, i, none⟩ v) B t cur := by
  show (W.heap.modify b _)[B]? = _
  rw [Array.getElem?_modify, if_neg hne]; exact h
theorem Lies.below {W W2 : World} {B : Nat} {t : TypeId} {cur : Array Value} (h : Lies W B t cur) (hb : Below W.heap.size W W2) : Lies W2 B t cur := (hb.block B h.lt).trans h
theorem Lies.alloc {W : World} {B : Nat} {t : TypeId} {cur : Array Value} (h : Lies W B t cur) (o : Obj) : Lies (W.alloc o) B t cur := (Below.heap_alloc W o B h.lt).trans h
theorem Lies.drew {W : World} {B : Nat} {t : TypeId} {cur : Array Value} (h : Lies W B t cur) (k : Nat) : Lies (W.drewN k) B t cur := h
theorem below_drawn {B : Nat} {a w : World} (h : Below B a w) (n : Nat) : Below B a (w.drewN n) := h.trans ⟨rfl, rfl, rfl, Nat.le_refl _, fun _ _ => rfl⟩
theorem below_join {w w1 w2 : World} (h : Below w.heap.size w w1) (k : Below w1.heap.size w1 w2) : Below w.heap.size w w2 := h.trans (k.mono h.size)
theorem Lies.row {W : World} {B : Nat} {t : TypeId} {cur : Array Value} (h : Lies W B t cur) (cs : Array Value) : Lies (W.setRow B cs) B t cs := setRow_heap W B cur cs t (0, 0) h
theorem Lies.otherRow {W : World} {B b : Nat} {t : TypeId} {cur : Array Value} (h : Lies W B t cur) (cs : Array Value) (hne : b ≠ B) : Lies (W.setRow b cs) B t cur := by
  show (W.heap.modify b _)[B]? = _
  rw [Array.getElem?_modify, if_neg hne]; exact h

/-- Of what was there block b alone has turned. -/
abbrev Turned (b : Nat) (w w' : World) : Prop := w.grownBy w' (some b)
theorem Turned.refl (b : Nat) (w : World) : Turned b w w := ⟨rfl, rfl, rfl, Nat.le_refl _, fun _ _ _ => rfl⟩
theorem Turned.trans {b : Nat} {u v w : World} (h : Turned b u v) (k : Turned b v w) : Turned b u w :=
  ⟨k.os.trans h.os, k.tape.trans h.tape, k.output.trans h.output, Nat.le_trans h.size k.size, fun i hi hn => (k.block i (Nat.lt_of_lt_of_le hi h.size) hn).trans (h.block i hi hn)⟩
theorem Turned.of {b : Nat} {w w' : World} (h : Below w.heap.size w w') : Turned b w w' := ⟨h.os, h.tape, h.output, h.size, fun i hi _ => h.block i hi⟩
theorem Turned.set (b : Nat) (w : World) (i : Nat) (v : Value) : Turned b w (w.setCell ⟨b, i, none⟩ v) :=
  ⟨rfl, rfl, rfl, by simp [World.setCell], fun j _ hn => by
    show (w.heap.modify b _)[j]? = _
    rw [Array.getElem?_modify, if_neg (fun e => hn (by rw [e]))]⟩
theorem Turned.drew (b : Nat) (w : World) (n : Nat) : Turned b w (w.drewN n) := ⟨rfl, rfl, rfl, Nat.le_refl _, fun _ _ _ => rfl⟩
theorem Turned.cells (b : Nat) : ∀ (vs : List Value) (o : Nat) (w : World), Turned b w (w.setCells b o vs)
  | [], _, w => Turned.refl b w
  | v :: vs, o, w => (Turned.set b w o v).trans (Turned.cells b vs (o + 1) _)
theorem Lies.turned {b B : Nat} {w w' : World} {t : TypeId} {c : Array Value} (h : Lies w B t c) (k : Turned b w w') (hne : B ≠ b) : Lies w' B t c := (k.block B h.lt (fun e => hne (Option.some.inj e))).trans h
/-- A block of this call's own has turned: nothing of what was there. -/
theorem Turned.below {b : Nat} {w w1 w2 : World} (h : Below w.heap.size w w1) (k : Turned b w1 w2) (hb : w.heap.size ≤ b) : Below w.heap.size w w2 :=
  ⟨k.os.trans h.os, k.tape.trans h.tape, k.output.trans h.output, Nat.le_trans h.size k.size, fun i hi => (k.block i (Nat.lt_of_lt_of_le hi h.size) (fun e => by have := Option.some.inj e; omega)).trans (h.block i hi)⟩

theorem Lies.cells {B : Nat} {t : TypeId} : ∀ (vs : List Value) (o : Nat) {W : World} {cur : Array Value}, Lies W B t cur → o + vs.length ≤ cur.size → Lies (W.setCells B o vs) B t (cur.toList.take o ++ vs ++ cur.toList.drop (o + vs.length)).toArray
  | [], o, W, cur, h, _ => by
    have e : (cur.toList.take o ++ [] ++ cur.toList.drop (o + ([] : List Value).length)).toArray = cur := by simp
    rw [e]; exact h
  | v :: vs, o, W, cur, h, hl => by
    rw [World.setCells]
    have h1 := h.set (i := o) v
    have h2 := Lies.cells vs (o + 1) h1 (by simp at hl ⊢; omega)
    have e : ((cur.setIfInBounds o v).toList.take (o + 1) ++ vs ++ (cur.setIfInBounds o v).toList.drop (o + 1 + vs.length)).toArray = (cur.toList.take o ++ v :: vs ++ cur.toList.drop (o + (v :: vs).length)).toArray := by
      congr 1
      have ho : o < cur.toList.length := by simp at hl ⊢; omega
      rw [Array.toList_setIfInBounds, List.drop_set_of_lt (by omega), List.take_add_one, List.take_set_of_le (Nat.le_refl _), List.getElem?_set_self ho, List.length_cons, show o + (vs.length + 1) = o + 1 + vs.length by omega]
      simp
    rw [e] at h2; exact h2

/-- copy out of a text into cells that may be written. -/
theorem run_copy_str {P : Program} (w : World) (dT sT ty elem : TypeId) (b o dLen dCap n : Nat) (s : ByteArray) (hu : P.underlying dT = some (.slice elem)) (hs : (P.info? elem).map (·.size) = some 1) (hn : Nat.min s.size dLen = n)
    (hc : ∀ j, j < n → (w.cell? ⟨b, o + j, none⟩).isSome = true) (hf : ∀ j, j < n → w.frozen? ⟨b, o + j, none⟩ = false) :
    (Builtin.copy_ #[dT, sT] ty #[.slice (some ⟨b, o, none⟩) dLen dCap, .string s]).run P w = .ok (.int .i64 n) (w.setCells b o (Lib.byteCells ((un s).take n))) := by
  have hle : n ≤ s.size := by rw [← hn]; exact Nat.min_le_left _ _
  have hlen : (Lib.byteCells ((un s).take n)).length = n := by rw [Lib.byteCells_length, List.length_take, un_length]; omega
  have hst := run_storeCells_cells (P := P) b o (Lib.byteCells ((un s).take n)) 0 w (by rw [hlen]; simpa using hc) (by rw [hlen]; simpa using hf) (fun v hv => by
    unfold Lib.byteCells at hv; obtain ⟨x, _, rfl⟩ := List.mem_map.1 hv; rfl)
  have e : List.take n (List.map (fun b => Value.int IntKind.u8 (b.toNat : Int)) s.data.toList) = Lib.byteCells ((un s).take n) := by unfold Lib.byteCells un; rw [List.map_take]
  cases hq : P.info? elem with
  | none => simp [hq] at hs
  | some i =>
    simp [Builtin.copy_, run_underlying hu, Builtin.lenOf, Builtin.firstCells, sizeOf, typeInfo, hq, hn, e, hst, goInt]
/-- Bytes put into a block from f on. -/
def putB (bl : List UInt8) (f : Nat) (xs : List UInt8) : List UInt8 := bl.take f ++ xs ++ bl.drop (f + xs.length)
theorem putB_length (bl : List UInt8) (f : Nat) (xs : List UInt8) (h : f + xs.length ≤ bl.length) : (putB bl f xs).length = bl.length := by simp [putB]; omega
theorem info_byte : (Tryz.prog.info? 5).map (·.size) = some 1 := by kernel_rfl
/-- Bytes as cells. -/
def bcs (l : List UInt8) : Array Value := (Lib.byteCells l).toArray
theorem bcs_size (l : List UInt8) : (bcs l).size = l.length := by simp [bcs, Lib.byteCells]
theorem bcs_get (l : List UInt8) (k : Nat) (h : k < l.length) : (bcs l)[k]? = some (.int .u8 l[k].toNat) := by simp [bcs, Lib.byteCells, h]
theorem bcs_one (l : List UInt8) : (bcs l).all (·.oneCell') = true := Array.all_eq_true_iff_forall_mem.2 (fun v hv => by
  simp [bcs, Lib.byteCells] at hv; obtain ⟨b, _, rfl⟩ := hv; rfl)
theorem bcs_set (l : List UInt8) (k : Nat) (b : UInt8) : (bcs l).setIfInBounds k (.int .u8 b.toNat) = bcs (l.set k b) := by
  simp [bcs, Lib.byteCells, List.map_set]
theorem bcs_put (l : List UInt8) (f : Nat) (ys : List UInt8) : ((bcs l).toList.take f ++ Lib.byteCells ys ++ (bcs l).toList.drop (f + (Lib.byteCells ys).length)).toArray = bcs (putB l f ys) := by
  simp [bcs, Lib.byteCells, putB, List.map_take, List.map_drop]
theorem var_lt {P : Program} {w : World} {n : String} {g : Nat} {cs : Array Value} (hg : P.globalNamed n = some g) (h : w.var? P n = some cs) : g < w.heap.size := by
  rcases Nat.lt_or_ge g w.heap.size with h1 | h1
  · exact h1
  · simp [World.var?, hg, Array.getElem?_eq_none h1] at h
theorem run_index_arr {P : Program} {w : World} {t e : TypeId} {n : Nat} {C : Array Value} {v : Value} (k : Nat) (hu : P.underlying t = some (.array n e)) (hs : (sizeOf e).run P w = .ok 1 w) (hp : (isAgg e).run P w = .ok false w) (hk : k < n) (hv : C[k]? = some v) :
    (Instr.index t (.agg C) (.int .i64 k)).run P w = .ok v w := by
  have h1 : (0 : Int) ≤ (k : Int) := by omega
  simp [Instr.index, asIntOf, run_underlying hu, h1, hs, hp, part, hv]
  omega
/-- string(b) of a piece of a block's bytes. -/
theorem conv_lies (l : List UInt8) (b o n cap : Nat) (w : World) (t : TypeId) (hL : Lies w b t (bcs l)) (h : o + n ≤ l.length) :
    (convert 44 9 (.slice (some ⟨b, o, none⟩) n cap)).run Tryz.prog w = .ok (.string (bs ((l.drop o).take n))) w := by
  have hlen : ((l.drop o).take n).length = n := by simp; omega
  have := run_convert_bytes_back (P := Tryz.prog) w 44 9 5 ⟨b, o, none⟩ cap ((l.drop o).take n) Tryz.underlying44 Tryz.underlying5 Tryz.underlying9 (fun j hj => by
    rw [Addr.add_mid, hL.cell (bcs_get l (o + j) (by omega))]
    simp)
  rw [hlen] at this
  exact this
end Go.Proofs.YtgdkgdlgalinbaaGreatDoor
