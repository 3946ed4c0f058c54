/- A map from texts to places, in memory: what it answers, as a function. -/
import Derived.Maps.OwnSet
import Derived.Maps.OwnIn
import Derived.StringKeys
import Derived.Sort.KeysCollected
namespace Go.Proofs.YtgildlfanfbebaaGreatDoor
open Go Go.RowKit

/-- How a place among a map's elements reads: nothing, or the first cell of a block. -/
def ptrElem : Value → Option (DataW Unit × List MemPlace)
  | .pointer none => some (.nil, [])
  | .pointer (some ⟨b, 0, none⟩) => some (.lit (.int .u64 b), [])
  | _ => none
def toPtr : Option Nat → Value
  | none => .pointer none
  | some b => .pointer (some ⟨b, 0, none⟩)
def toDat : Option Nat → DataW Unit
  | none => .nil
  | some b => .lit (.int .u64 b)
theorem ptrElem_of (o : Option Nat) : ptrElem (toPtr o) = some (toDat o, []) := by cases o <;> rfl
theorem ptrElem_inv {v : Value} {o : Option Nat} {ps : List MemPlace} (h : ptrElem v = some (toDat o, ps)) : v = toPtr o := by
  unfold ptrElem at h
  split at h
  · cases o with
    | none => rfl
    | some b => simp [toDat] at h
  · cases o with
    | none => simp [toDat] at h
    | some b => simp [toDat] at h; simp [toPtr]; omega
  · cases h

/-- The function with one text's answer put in. -/
def setKid (f : List UInt8 → Option Nat) (s : List UInt8) (o : Option Nat) : List UInt8 → Option Nat := fun x => if x = s then o else f x
theorem setKid_same (f : List UInt8 → Option Nat) (s : List UInt8) (o : Option Nat) : setKid f s o s = o := by simp [setKid]
theorem setKid_other (f : List UInt8 → Option Nat) (s : List UInt8) (o : Option Nat) {x : List UInt8} (h : x ≠ s) : setKid f s o x = f x := by simp [setKid, h]

/-- Block m is a map of at most n entries that answers as f does. -/
def KidsAt (W : World) (P : Program) (k : TypeId) (m n : Nat) (f : List UInt8 → Option Nat) : Prop :=
  ∃ D : DataW Unit, W.ownsMap P k ptrElem m n D ∧ ∀ s : List UInt8, D.atKey (.string s) .nil = toDat (f s) ∧ Maps.has D (.string s) = (f s).isSome

variable {P : Program} {k t e : TypeId} {W W' : World} {m n : Nat} {f : List UInt8 → Option Nat}

theorem kids_made (W : World) (P : Program) (k : TypeId) : KidsAt (W.alloc (.map #[] 0)) P k W.heap.size 0 (fun _ => none) :=
  ⟨_, World.ownsMap_made W P k ptrElem, fun s => by simp [DataW.atKey, toDat, Maps.has]⟩
theorem KidsAt.lt (h : KidsAt W P k m n f) : m < W.heap.size := let ⟨_, h, _⟩ := h; h.lt
theorem KidsAt.mono (h : KidsAt W P k m n f) {n' : Nat} (hn : n ≤ n') : KidsAt W P k m n' f := let ⟨D, h1, h2⟩ := h; ⟨D, h1.mono hn, h2⟩
theorem KidsAt.kept {row : Option Nat} (h : KidsAt W P k m n f) (hg : W.grownBy W' row) (hne : some m ≠ row) : KidsAt W' P k m n f := let ⟨D, h1, h2⟩ := h; ⟨D, h1.kept hg hne, h2⟩
theorem KidsAt.alloc (h : KidsAt W P k m n f) (o : Obj) : KidsAt (W.alloc o) P k m n f := let ⟨D, h1, h2⟩ := h; ⟨D, h1.alloc o, h2⟩
theorem KidsAt.setCell (h : KidsAt W P k m n f) {a : Addr} (ha : m ≠ a.block) (u : Value) : KidsAt (W.setCell a u) P k m n f := let ⟨D, h1, h2⟩ := h; ⟨D, h1.setCell ha u, h2⟩
theorem KidsAt.below {B : Nat} (h : KidsAt W P k m n f) (hb : Below B W W') (hm : m < B) : KidsAt W' P k m n f := by
  obtain ⟨D, ⟨es, clock, h1, h2⟩, h3⟩ := h
  exact ⟨D, ⟨es, clock, (hb.block m hm).trans h1, h2⟩, h3⟩
theorem KidsAt.turned (h : KidsAt W P k m n f) {b : Nat} (ht : W.mapTurned W' b) (hne : m ≠ b) : KidsAt W' P k m n f := h.kept ht.grown (by simpa using hne)
/-- 'm[s]'. -/
theorem KidsAt.look (h : KidsAt W P k m n f) (hk : P.underlying k = some .string) (ht : P.underlying t = some (.map k e)) (hz : (zeroValue e).run P W = .ok (.pointer none) W) {s : ByteArray} (hs : s.size ≤ maxLen) :
    (Instr.lookup t (.map (some m)) (.string s) false).run P W = .ok (toPtr (f s.data.toList)) W := by
  obtain ⟨D, h1, h2⟩ := h
  obtain ⟨v, ps, hrun, hv⟩ := h1.lookup (Maps.string_keyed hk) ht hz (zd := .nil) (zp := []) rfl (WideMaps.keyOf_string_mk hk hs)
  rw [(h2 _).1] at hv
  rw [hrun, ptrElem_inv hv]
/-- .. of no map. -/
theorem kids_nil (hk : P.underlying k = some .string) (ht : P.underlying t = some (.map k e)) (hz : (zeroValue e).run P W = .ok (.pointer none) W) {s : ByteArray} (hs : s.size ≤ maxLen) :
    (Instr.lookup t (.map none) (.string s) false).run P W = .ok (.pointer none) W :=
  Maps.look_nil false (Maps.string_keyed hk) ht hz (WideMaps.keyOf_string_mk hk hs)
/-- 'm[s] = p'. -/
theorem KidsAt.store (h : KidsAt W P k m n f) (hk : P.underlying k = some .string) (ht : P.underlying t = some (.map k e)) (hn : n < maxLen) {s : ByteArray} (hs : s.size ≤ maxLen) (o : Nat) :
    ∃ W', (Instr.mapUpdate t (.map (some m)) (.string s) (toPtr (some o))).run P W = .ok () W' ∧ KidsAt W' P k m (n + 1) (setKid f s.data.toList (some o)) ∧ W.mapTurned W' m := by
  obtain ⟨D, h1, h2⟩ := h
  obtain ⟨W', hrun, h3, h4⟩ := h1.store (Maps.string_keyed hk) ht hn (WideMaps.keyOf_string_mk hk hs) (ptrElem_of (some o))
  refine ⟨W', hrun, ⟨_, h3, fun x => ?_⟩, h4⟩
  by_cases hx : x = s.data.toList
  · subst hx
    rw [setKid_same]
    exact ⟨Maps.atKey_put_same h1.isMap (by simp [WideAt.IsKeyLit]) _ _, Maps.has_put_same h1.isMap (by simp [WideAt.IsKeyLit]) _⟩
  · rw [setKid_other _ _ _ hx, ← (h2 x).1, ← (h2 x).2]
    exact ⟨Maps.atKey_put_other (by simpa using hx) _ _, Maps.has_put_other (by simpa using hx) _⟩
/-- 'delete(m, s)'. -/
theorem KidsAt.drop (h : KidsAt W P k m n f) (hk : P.underlying k = some .string) (ht : P.underlying t = some (.map k e)) {s : ByteArray} (hs : s.size ≤ maxLen) (ty : TypeId) :
    ∃ W', (Builtin.delete_ #[t, k] ty #[.map (some m), .string s]).run P W = .ok (.tuple #[]) W' ∧ KidsAt W' P k m n (setKid f s.data.toList none) ∧ W.mapTurned W' m := by
  obtain ⟨D, h1, h2⟩ := h
  obtain ⟨W', hrun, h3, h4⟩ := h1.drop (Maps.string_keyed hk) ht (WideMaps.keyOf_string_mk hk hs) ty
  refine ⟨W', hrun, ⟨_, h3, fun x => ?_⟩, h4⟩
  by_cases hx : x = s.data.toList
  · subst hx
    rw [setKid_same]
    exact ⟨Maps.atKey_del_same _, Maps.has_del_same⟩
  · rw [setKid_other _ _ _ hx, ← (h2 x).1, ← (h2 x).2]
    exact ⟨Maps.atKey_del_other (by simpa using hx) _, Maps.has_del_other (by simpa using hx)⟩
/-- Its keys: those texts at which f has something. -/
theorem KidsAt.keys (h : KidsAt W P k m n f) (hk : P.underlying k = some .string) : ∃ D : DataW Unit, W.ownsMap P k ptrElem m n D ∧ Maps.size D ≤ n ∧ ∀ ss : List (List UInt8), ss.Perm (strKeys D) → ss.Nodup ∧ ∀ s, s ∈ ss ↔ f s ≠ none := by
  obtain ⟨D, h1, h2⟩ := h
  refine ⟨D, h1, ?_, fun ss hp => ?_⟩
  · obtain ⟨es, clock, _, _, h4, rfl⟩ := h1
    show List.length _ ≤ n
    rw [length_sorted]
    simpa using h4
  · obtain ⟨es, hD, hpw, _⟩ := h1.entries (Maps.string_keyed hk)
    obtain ⟨es', hD', hko⟩ := h1.keysOf
    obtain rfl : es = es' := by rw [hD] at hD'; simpa using hD'
    subst hD
    have hks : ∀ p ∈ es, ∃ x, p.1 = Lit.string x := fun p hp => by obtain ⟨v, hv⟩ := hko p hp; obtain ⟨x, _, hx, _⟩ := Maps.keyOf_str hk hv; exact ⟨x, hx⟩
    have hnd : (strKeys (DataW.map es)).Nodup := by
      show (es.map fun p => strOf p.1).Nodup
      refine List.pairwise_map.2 (hpw.imp_of_mem fun {p q} hp' hq' hne e => hne ?_)
      obtain ⟨a, ha⟩ := hks p hp'
      obtain ⟨b, hb⟩ := hks q hq'
      rw [ha, hb] at e ⊢
      exact congrArg _ e
    refine ⟨hp.nodup_iff.2 hnd, fun s => ?_⟩
    rw [hp.mem_iff]
    have h3 := (h2 s).2
    have h4 : s ∈ strKeys (DataW.map es) ↔ Maps.has (DataW.map es) (.string s) = true := by
      rw [Maps.has_eq, List.any_eq_true]
      show s ∈ es.map (fun p => strOf p.1) ↔ _
      rw [List.mem_map]
      constructor
      · rintro ⟨p, hp', rfl⟩
        obtain ⟨a, ha⟩ := hks p hp'
        exact ⟨p, hp', by rw [ha]; simp [Lit.sameKey, strOf]⟩
      · rintro ⟨p, hp', hs⟩
        obtain ⟨a, ha⟩ := hks p hp'
        rw [ha] at hs
        exact ⟨p, hp', by rw [ha]; simpa [Lit.sameKey, strOf] using hs⟩
    rw [h4, h3, Option.isSome_iff_ne_none]
/-- 'm[s] = p' at the operation, for the walk: behind it 'intro w1 hk1 hturn1'. -/
theorem wpList_kid_store {ops : Array Oper} {rest : List Oper} {o : Oper} {a : Act} {Q : Exit → Act → World → Prop} (W : World)
    (hg : o.guard = none) (mo x v : Operand) (t : TypeId) (hop : o.op = Op.mapUpdate t mo x v) (k e : TypeId) (hk : P.underlying k = some .string) (ht : P.underlying t = some (.map k e)) (m n : Nat) (f : List UInt8 → Option Nat)
    (hm : a.eval mo = .map (some m)) (h : KidsAt W P k m n f) (hn : n < maxLen) (s : ByteArray) (hx : a.eval x = .string s) (hs : s.size ≤ maxLen) (b : Nat) (hv : a.eval v = .pointer (some ⟨b, 0, none⟩))
    (hK : ∀ w', KidsAt w' P k m (n + 1) (setKid f s.data.toList (some b)) → W.mapTurned w' m → wpList P ops Q rest (a.put o.dst undef) w') :
    wpList P ops Q (o :: rest) a W := by
  refine wpList_plain hg fun K' hK' => ?_
  obtain ⟨w', hrun, r1, r2⟩ := h.store hk ht hn hs b
  unfold Oper.wp
  simp [toPtr] at hrun
  simp [execOp, hop, hm, hx, hv, hrun, Result.andThen]
  exact hK' _ _ (hK w' r1 r2)
end Go.Proofs.YtgildlfanfbebaaGreatDoor
