/- Digests as keys of a map. -/
import Derived.Test.YtmohlmodaibbaaaDoorClashM
import Derived.Test.YtmohlmodaibbaaaDoorDigEq
import Derived.DeepKeys3
import Derived.Maps.OwnSet
import Derived.Maps.Views
namespace Go.Proofs.YtmohlmodaibbaaaDoor
open Go Go.RowKit Go.Maps

def digLits (l : List UInt8) : List Lit := l.map fun b => Lit.int .u8 b.toNat
def keyD (l : List UInt8) : Lit := .string (keyBytes (digLits l))
theorem keyD_lit (l : List UInt8) : WideAt.IsKeyLit (keyD l) := trivial
theorem mapM_all {α β : Type} (f : α → Option β) (g : α → β) : ∀ L : List α, (∀ x ∈ L, f x = some (g x)) → L.mapM f = some (L.map g)
  | [], _ => rfl
  | x :: L, h => by
    rw [List.mapM_cons, h x (by simp), mapM_all f g L (fun y hy => h y (by simp [hy]))]
    rfl
theorem digest_cells : Tryd.prog.cellsOf 32 = 32 := by kernel_rfl
theorem wide_digest : (match Tryd.prog.underlying 32 with | some (.array _ _) | some (.struct _) => true | _ => false) = true := by kernel_rfl
theorem types_n : Tryd.prog.types.size = 108 := by kernel_rfl
theorem types_two : ∃ n, Tryd.prog.types.size + 1 = n + 2 := ⟨108 - 1, by rw [types_n]⟩
theorem lits_dig (n : Nat) (l : List UInt8) (h : l.length = 32) : Tryd.prog.keyLits (n + 2) 32 (Lib.byteCells l) = some (digLits l) := by
  have hl : (Lib.byteCells l).length = 32 := by rw [Lib.byteCells_length, h]
  unfold Program.keyLits
  rw [Tryd.underlying32]
  simp only []
  rw [digest_cells, if_pos hl, byte_cells]
  have hone : ∀ i ∈ List.range 32, Tryd.prog.keyLits (n + 1) 5 (((Lib.byteCells l).drop (i * 1)).take 1) = some [Lit.int .u8 ((l.getD i 0).toNat : Nat)] := fun i hi => by
    have hi2 : i < 32 := List.mem_range.1 hi
    have hil : i < l.length := by omega
    have e : ((Lib.byteCells l).drop (i * 1)).take 1 = [Value.int .u8 (l[i].toNat : Nat)] := by
      rw [Nat.mul_one, List.drop_eq_getElem_cons (by omega)]
      simp [Lib.byteCells]
    rw [e]
    unfold Program.keyLits
    rw [Tryd.underlying5]
    simp only []
    have hb : l[i].toNat < 256 := UInt8.toNat_lt _
    have hw : (Lit.int .u8 (l[i].toNat : Nat)).wf = true := by
      have e1 : IntKind.u8.min = 0 := rfl
      have e2 : IntKind.u8.max = 255 := rfl
      simp [Lit.wf]
      omega
    rw [if_pos (by exact ⟨by simp, hw⟩)]
    rw [List.getD_eq_getElem?_getD, List.getElem?_eq_getElem hil]
    rfl
  rw [mapM_all _ _ _ hone]
  show some (List.flatten _) = _
  congr 1
  apply List.ext_getElem?
  intro i
  have e2 : ((List.range 32).map fun i => [Lit.int .u8 ((l.getD i 0).toNat : Nat)]).flatten = (List.range 32).map fun i => Lit.int .u8 ((l.getD i 0).toNat : Nat) := by
    induction List.range 32 with
    | nil => rfl
    | cons a L ih => simp only [List.map_cons, List.flatten_cons, ih]; rfl
  rw [e2]
  unfold digLits
  rw [List.getElem?_map, List.getElem?_map]
  by_cases hi : i < 32
  · rw [List.getElem?_range hi, List.getElem?_eq_getElem (by omega)]
    simp [List.getElem?_eq_getElem (show i < l.length by omega)]
  · rw [List.getElem?_eq_none (by simp; omega), List.getElem?_eq_none (by omega)]; rfl
theorem key_dig (l : List UInt8) (h : l.length = 32) : keyOf Tryd.prog 32 (.agg (dig32 l)) = some (keyD l) := by
  obtain ⟨n, hn⟩ := types_two
  have hk : Tryd.prog.keyType 32 = true := by kernel_rfl
  have hf : (Value.agg (dig32 l)).formed Tryd.prog 32 = true := by
    unfold Value.formed
    rw [Tryd.underlying32]
    simp only []
    rw [digest_cells, dig32_size, h]; rfl
  unfold keyOf
  rw [Tryd.underlying32]
  simp only []
  rw [hk, hf, hn]
  have e : (Value.agg (dig32 l)).cells.toList = Lib.byteCells l := by simp [Value.cells, dig32]
  rw [e, lits_dig n l h]
  rfl
theorem tiled_digest : Tryd.prog.tiled 2 32 = true := by kernel_rfl
theorem digest_law : Keyed Tryd.prog 32 := Keyed.of_law (deep_law (m := 2) (by decide) (by kernel_rfl) tiled_digest wide_digest)
theorem keyD_inj {a b : List UInt8} (ha : a.length = 32) (hb : b.length = 32) (h : keyD a = keyD b) : a = b := by
  have e := keyOf_inj_deep tiled_digest wide_digest (key_dig a ha) (h ▸ key_dig b hb)
  have e2 : dig32 a = dig32 b := by injection e
  apply List.ext_getElem?
  intro i
  by_cases hi : i < 32
  · have h1 := dig32_get a i (by omega)
    have h2 := dig32_get b i (by omega)
    rw [e2, h2] at h1
    have h3 : (b[i].toNat : Int) = (a[i].toNat : Int) := by injection (Option.some.inj h1)
    rw [List.getElem?_eq_getElem (by omega), List.getElem?_eq_getElem (by omega)]
    congr 1
    exact UInt8.toNat_inj.1 (by omega)
  · rw [List.getElem?_eq_none (by omega), List.getElem?_eq_none (by omega)]

/-- The map tells of each digest the first of the first k places that has it. -/
def MapOK (f : ByteArray → List UInt8) (l : List ByteArray) (k : Nat) (D : DataW Unit) : Prop :=
  ∀ d : List UInt8, d.length = 32 → (has D (keyD d) = false → NoneAt f l k d) ∧ (has D (keyD d) = true → ∃ i : Nat, (∀ z, D.atKey (keyD d) z = .lit (.int .i64 i)) ∧ FirstAt f l k d i)
theorem mapOK_start (f : ByteArray → List UInt8) (l : List ByteArray) : MapOK f l 0 (.map []) := fun d _ => ⟨fun _ q x hq => by omega, fun h => by cases h⟩
theorem mapOK_same {f : ByteArray → List UInt8} {l : List ByteArray} {k : Nat} {D : DataW Unit} {y : ByteArray} (h : MapOK f l k D) (hy : l[k]? = some y) (hh : has D (keyD (f y)) = true) : MapOK f l (k + 1) D := fun d hd => by
  refine ⟨fun hn => (h d hd).1 hn |>.succ hy (fun e => by subst e; rw [hh] at hn; cases hn), fun ht => ?_⟩
  obtain ⟨i, h1, h2⟩ := (h d hd).2 ht
  exact ⟨i, h1, h2.mono⟩
theorem mapOK_put {f : ByteArray → List UInt8} {l : List ByteArray} {k : Nat} {D : DataW Unit} {y : ByteArray} (h : MapOK f l k D) (hm : IsMap D) (hy : l[k]? = some y) (hh : has D (keyD (f y)) = false) (hf : (f y).length = 32) : MapOK f l (k + 1) (D.put (keyD (f y)) (.lit (.int .i64 k))) := fun d hd => by
  by_cases e : d = f y
  · subst e
    refine ⟨fun hn => (by rw [has_put_same hm (keyD_lit _)] at hn; cases hn), fun _ => ⟨k, fun z => atKey_put_same hm (keyD_lit _) _ z, ((h _ hd).1 hh).first hy⟩⟩
  · have hne : keyD d ≠ keyD (f y) := fun e2 => e (keyD_inj hd hf e2)
    refine ⟨fun hn => ((h d hd).1 (by rw [has_put_other hne] at hn; exact hn)).succ hy e, fun ht => ?_⟩
    rw [has_put_other hne] at ht
    obtain ⟨i, h1, h2⟩ := (h d hd).2 ht
    exact ⟨i, fun z => by rw [atKey_put_other hne]; exact h1 z, h2.mono⟩
end Go.Proofs.YtmohlmodaibbaaaDoor
