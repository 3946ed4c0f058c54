/- Region 1 of newPlaces at the known text: its operations in whatever order. (Made by wip/gen_netpl.py.) -/
import Derived.Test.YtcoinfancoeepabDoorNet
import Derived.Test.YtcoinfancoeepabDoorRevK
import Derived.Test.YtcoinfancoeepabDoorMk32
namespace Go.Proofs.YtcoinfancoeepabDoor
open Go Go.RowKit

def opsP : Array Oper := #[
  { dst := some 5, op := Op.move (Operand.tmp 0), type := 9, pos := "places.go:30", after := #[], guard := none },
  { dst := some 6, op := Op.move (Operand.tmp 0), type := 9, pos := "places.go:30", after := #[], guard := none },
  { dst := some 7, op := Op.call { callee := Callee.builtin Builtin.len, args := #[Operand.tmp 6], argTypes := #[9] }, type := 3, pos := "places.go:30", after := #[{ on := 1, ground := Ground.data }], guard := none },
  { dst := some 8, op := Op.call { callee := Callee.builtin Builtin.min, args := #[Operand.tmp 7, Operand.const (Value.int IntKind.i64 32767)], argTypes := #[3, 3] }, type := 3, pos := "places.go:30", after := #[{ on := 2, ground := Ground.data }], guard := none },
  { dst := some 9, op := Op.convert 3 61 (Operand.tmp 8), type := 61, pos := "places.go:30", after := #[{ on := 3, ground := Ground.data }], guard := none },
  { dst := some 10, op := Op.call { callee := Callee.value (Operand.func 50), args := #[Operand.tmp 9], argTypes := #[61] }, type := 3, pos := "places.go:32", after := #[{ on := 4, ground := Ground.data }], guard := none },
  { dst := some 11, op := Op.binOp BinOp.shl 3 (Operand.const (Value.int IntKind.i64 1)) (Operand.tmp 10) 3, type := 3, pos := "places.go:30", after := #[{ on := 5, ground := Ground.data }], guard := none },
  { dst := some 12, op := Op.makeSlice 94 (Operand.tmp 11) (Operand.tmp 11), type := 94, pos := "places.go:30", after := #[{ on := 6, ground := Ground.data }, { on := 6, ground := Ground.data }], guard := none },
  { dst := some 13, op := Op.move (Operand.tmp 0), type := 9, pos := "places.go:30", after := #[], guard := none },
  { dst := some 14, op := Op.call { callee := Callee.builtin Builtin.len, args := #[Operand.tmp 13], argTypes := #[9] }, type := 3, pos := "places.go:30", after := #[{ on := 8, ground := Ground.data }], guard := none },
  { dst := some 15, op := Op.call { callee := Callee.builtin Builtin.min, args := #[Operand.tmp 14, Operand.const (Value.int IntKind.i64 65536)], argTypes := #[3, 3] }, type := 3, pos := "places.go:30", after := #[{ on := 9, ground := Ground.data }], guard := none },
  { dst := some 16, op := Op.makeSlice 94 (Operand.tmp 15) (Operand.tmp 15), type := 94, pos := "places.go:30", after := #[{ on := 10, ground := Ground.data }, { on := 10, ground := Ground.data }], guard := none },
  { dst := some 17, op := Op.move (Operand.tmp 0), type := 9, pos := "places.go:30", after := #[], guard := none },
  { dst := some 18, op := Op.call { callee := Callee.builtin Builtin.len, args := #[Operand.tmp 17], argTypes := #[9] }, type := 3, pos := "places.go:30", after := #[{ on := 12, ground := Ground.data }], guard := none },
  { dst := some 19, op := Op.call { callee := Callee.builtin Builtin.min, args := #[Operand.tmp 18, Operand.const (Value.int IntKind.i64 65536)], argTypes := #[3, 3] }, type := 3, pos := "places.go:30", after := #[{ on := 13, ground := Ground.data }], guard := none },
  { dst := some 20, op := Op.makeSlice 94 (Operand.tmp 19) (Operand.tmp 19), type := 94, pos := "places.go:30", after := #[{ on := 14, ground := Ground.data }, { on := 14, ground := Ground.data }], guard := none },
  { dst := some 21, op := Op.build 97 #[(0, Operand.tmp 5), (1, Operand.tmp 12), (2, Operand.tmp 16), (3, Operand.tmp 20)], type := 97, pos := "places.go:30", after := #[{ on := 0, ground := Ground.data }, { on := 7, ground := Ground.data }, { on := 11, ground := Ground.data }, { on := 15, ground := Ground.data }], guard := none },
  { dst := some 22, op := Op.box 97 (Operand.tmp 21), type := 65, pos := "places.go:30", after := #[{ on := 16, ground := Ground.data }], guard := none },
  { dst := some 3, op := Op.assign (Operand.tmp 22), type := 65, pos := "places.go:30", after := #[{ on := 17, ground := Ground.data }, { on := 5, ground := Ground.chain }, { on := 0, ground := Ground.phase }, { on := 1, ground := Ground.phase }, { on := 2, ground := Ground.phase }, { on := 3, ground := Ground.phase }, { on := 4, ground := Ground.phase }, { on := 5, ground := Ground.phase }, { on := 6, ground := Ground.phase }, { on := 7, ground := Ground.phase }, { on := 8, ground := Ground.phase }, { on := 9, ground := Ground.phase }, { on := 10, ground := Ground.phase }, { on := 11, ground := Ground.phase }, { on := 12, ground := Ground.phase }, { on := 13, ground := Ground.phase }, { on := 14, ground := Ground.phase }, { on := 15, ground := Ground.phase }, { on := 16, ground := Ground.phase }, { on := 17, ground := Ground.phase }], guard := none }]
def dsP : List Nat := [5, 6, 7, 8, 9, 10, 11, 12, 13, 14, 15, 16, 17, 18, 19, 20, 21, 22, 3]
theorem ndP : dsP.Nodup := by decide
def vsP (S1 S2 S3 AG P : Value) : List Value := [.string ⟨#[97]⟩, .string ⟨#[97]⟩, .int .i64 1, .int .i64 1, .int .u64 1, .int .i64 1, .int .i64 2, S1, .string ⟨#[97]⟩, .int .i64 1, .int .i64 1, S2, .string ⟨#[97]⟩, .int .i64 1, .int .i64 1, S3, AG, P, P]
theorem afterP : ∀ (i : Nat) (o : Oper), opsP[i]? = some o → ∀ e ∈ o.after, e.on < i := by
  intro i o ho e he
  have key : (opsP.toList.zipIdx.all fun p => p.1.after.all fun e => e.on < p.2) = true := by kernel_rfl
  rw [List.all_eq_true] at key
  have hm : (o, i) ∈ opsP.toList.zipIdx := by
    rw [List.mem_zipIdx_iff_getElem?, Array.getElem?_toList]; exact ho
  have := key _ hm
  rw [Array.all_eq_true_iff_forall_mem] at this
  exact of_decide_eq_true (this e he)
/-- What is known of the values, as far as they have come up. -/
structure Know (w : World) (S1 S2 S3 AG P : Value) (l : Array Bool) (W : World) : Prop where
  k7 : l.getD 7 false = true → ∃ g, S1 = .slice (some ⟨g, 0, none⟩) 2 2 ∧ Lies W g 21 #[.int .i32 0, .int .i32 0] ∧ w.heap.size ≤ g
  k11 : l.getD 11 false = true → ∃ g, S2 = .slice (some ⟨g, 0, none⟩) 1 1 ∧ Lies W g 21 #[.int .i32 0] ∧ w.heap.size ≤ g
  k15 : l.getD 15 false = true → ∃ g, S3 = .slice (some ⟨g, 0, none⟩) 1 1 ∧ Lies W g 21 #[.int .i32 0] ∧ w.heap.size ≤ g
  k16 : l.getD 16 false = true → AG = .agg #[.string ⟨#[97]⟩, S1, S2, S3] ∧ l.getD 7 false = true ∧ l.getD 11 false = true ∧ l.getD 15 false = true
  k17 : l.getD 17 false = true → l.getD 16 false = true ∧ ∃ g, P = .pointer (some ⟨g, 0, none⟩) ∧ Lies W g 97 #[.string ⟨#[97]⟩, S1, S2, S3] ∧ w.heap.size ≤ g
  k18 : l.getD 18 false = true → l.getD 17 false = true
  bl : Below w.heap.size w W
theorem Know.same {w : World} {S1 S2 S3 AG P : Value} {l : Array Bool} {W W2 : World} (x : Know w S1 S2 S3 AG P l W) (i : Nat) (h7 : i ≠ 7) (h11 : i ≠ 11) (h15 : i ≠ 15) (h16 : i ≠ 16) (h17 : i ≠ 17) (h18 : i ≠ 18) (b : Below W.heap.size W W2) : Know w S1 S2 S3 AG P (l.setIfInBounds i true) W2 := by
  refine ⟨fun h => ?_, fun h => ?_, fun h => ?_, fun h => ?_, fun h => ?_, fun h => ?_, below_join x.bl b⟩
  · rw [getD_set_ne false h7] at h
    obtain ⟨g, e, hg, hb⟩ := x.k7 h
    exact ⟨g, e, hg.below b, hb⟩
  · rw [getD_set_ne false h11] at h
    obtain ⟨g, e, hg, hb⟩ := x.k11 h
    exact ⟨g, e, hg.below b, hb⟩
  · rw [getD_set_ne false h15] at h
    obtain ⟨g, e, hg, hb⟩ := x.k15 h
    exact ⟨g, e, hg.below b, hb⟩
  · rw [getD_set_ne false h16] at h
    rw [getD_set_ne false h7, getD_set_ne false h11, getD_set_ne false h15]
    exact x.k16 h
  · rw [getD_set_ne false h17] at h
    rw [getD_set_ne false h16]
    obtain ⟨h2, g, e, hg, hb⟩ := x.k17 h
    exact ⟨h2, g, e, hg.below b, hb⟩
  · rw [getD_set_ne false h18] at h
    rw [getD_set_ne false h17]
    exact x.k18 h
structure StP (w : World) (a0 : Act) (listed : Array Bool) (a : Act) (W : World) : Prop where
  sz : listed.size = 19
  ex : ∃ S1 S2 S3 AG P, Net a0 dsP (vsP S1 S2 S3 AG P) listed a ∧ Know w S1 S2 S3 AG P listed W
theorem not_both {l : Array Bool} {i : Nat} (hs : i < l.size) (h1 : l.getD i true = false) (h2 : l.getD i false = true) : False := by
  rw [Array.getD_eq_getD_getElem?, Array.getElem?_eq_getElem hs] at h1 h2
  simp at h1 h2
  rw [h1] at h2; cases h2
theorem set_is {l : Array Bool} {i : Nat} (hs : i < l.size) : (l.setIfInBounds i true).getD i false = true := by
  rw [Array.getD_eq_getD_getElem?, Array.getElem?_setIfInBounds_self_of_lt hs]; rfl

set_option maxRecDepth 100000 in
theorem stP_0 {Q : Exit → Act → World → Prop} {w : World} {a0 : Act} {listed : Array Bool} {a : Act} {W : World} (x : StP w a0 listed a W) (hb : a0.tmps.size = 39) (t0 : a0.tmps[0]? = some (.string ⟨#[97]⟩)) :
    wpOp Tryd.prog opsP Q 0 (fun a' w' => StP w a0 (listed.setIfInBounds 0 true) a' w') a W := by
  obtain ⟨sz, S1, S2, S3, AG, P, NE, K⟩ := x
  have e0 : a.tmps[0]? = some (.string ⟨#[97]⟩) := (NE.same 0 (by decide)).trans t0
  refine wpOp_step (o := { dst := some 5, op := Op.move (Operand.tmp 0), type := 9, pos := "places.go:30", after := #[], guard := none }) rfl (fun KK hK => ?_)
  have HK : Hid (KK (a.put (some 5) (.string ⟨#[97]⟩)) W) := hK _ _ ⟨by rw [Array.size_setIfInBounds]; exact sz, S1, S2, S3, AG, P, NE.put ndP rfl rfl (by rw [hb]; decide), K.same 0 (by decide) (by decide) (by decide) (by decide) (by decide) (by decide) (Below.refl _ W)⟩
  clear hK NE K
  go_simp
  exact HK.out
set_option maxRecDepth 100000 in
theorem stP_1 {Q : Exit → Act → World → Prop} {w : World} {a0 : Act} {listed : Array Bool} {a : Act} {W : World} (x : StP w a0 listed a W) (hb : a0.tmps.size = 39) (t0 : a0.tmps[0]? = some (.string ⟨#[97]⟩)) :
    wpOp Tryd.prog opsP Q 1 (fun a' w' => StP w a0 (listed.setIfInBounds 1 true) a' w') a W := by
  obtain ⟨sz, S1, S2, S3, AG, P, NE, K⟩ := x
  have e0 : a.tmps[0]? = some (.string ⟨#[97]⟩) := (NE.same 0 (by decide)).trans t0
  refine wpOp_step (o := { dst := some 6, op := Op.move (Operand.tmp 0), type := 9, pos := "places.go:30", after := #[], guard := none }) rfl (fun KK hK => ?_)
  have HK : Hid (KK (a.put (some 6) (.string ⟨#[97]⟩)) W) := hK _ _ ⟨by rw [Array.size_setIfInBounds]; exact sz, S1, S2, S3, AG, P, NE.put ndP rfl rfl (by rw [hb]; decide), K.same 1 (by decide) (by decide) (by decide) (by decide) (by decide) (by decide) (Below.refl _ W)⟩
  clear hK NE K
  go_simp
  exact HK.out
set_option maxRecDepth 100000 in
theorem stP_2 {Q : Exit → Act → World → Prop} {w : World} {a0 : Act} {listed : Array Bool} {a : Act} {W : World} (x : StP w a0 listed a W) (hb : a0.tmps.size = 39) (d1 : listed.getD 1 false = true) :
    wpOp Tryd.prog opsP Q 2 (fun a' w' => StP w a0 (listed.setIfInBounds 2 true) a' w') a W := by
  obtain ⟨sz, S1, S2, S3, AG, P, NE, K⟩ := x
  have e6 : a.tmps[6]? = some (.string ⟨#[97]⟩) := NE.at 1 6 rfl rfl d1
  refine wpOp_step (o := { dst := some 7, op := Op.call { callee := Callee.builtin Builtin.len, args := #[Operand.tmp 6], argTypes := #[9] }, type := 3, pos := "places.go:30", after := #[{ on := 1, ground := Ground.data }], guard := none }) rfl (fun KK hK => ?_)
  have HK : Hid (KK (a.put (some 7) (.int .i64 1)) W) := hK _ _ ⟨by rw [Array.size_setIfInBounds]; exact sz, S1, S2, S3, AG, P, NE.put ndP rfl rfl (by rw [hb]; decide), K.same 2 (by decide) (by decide) (by decide) (by decide) (by decide) (by decide) (Below.refl _ W)⟩
  clear hK NE K
  go_simp
  exact HK.out
set_option maxRecDepth 100000 in
theorem stP_3 {Q : Exit → Act → World → Prop} {w : World} {a0 : Act} {listed : Array Bool} {a : Act} {W : World} (x : StP w a0 listed a W) (hb : a0.tmps.size = 39) (d2 : listed.getD 2 false = true) :
    wpOp Tryd.prog opsP Q 3 (fun a' w' => StP w a0 (listed.setIfInBounds 3 true) a' w') a W := by
  obtain ⟨sz, S1, S2, S3, AG, P, NE, K⟩ := x
  have e7 : a.tmps[7]? = some (.int .i64 1) := NE.at 2 7 rfl rfl d2
  refine wpOp_step (o := { dst := some 8, op := Op.call { callee := Callee.builtin Builtin.min, args := #[Operand.tmp 7, Operand.const (Value.int IntKind.i64 32767)], argTypes := #[3, 3] }, type := 3, pos := "places.go:30", after := #[{ on := 2, ground := Ground.data }], guard := none }) rfl (fun KK hK => ?_)
  have HK : Hid (KK (a.put (some 8) (.int .i64 1)) W) := hK _ _ ⟨by rw [Array.size_setIfInBounds]; exact sz, S1, S2, S3, AG, P, NE.put ndP rfl rfl (by rw [hb]; decide), K.same 3 (by decide) (by decide) (by decide) (by decide) (by decide) (by decide) (Below.refl _ W)⟩
  clear hK NE K
  go_simp
  exact HK.out
set_option maxRecDepth 100000 in
theorem stP_4 {Q : Exit → Act → World → Prop} {w : World} {a0 : Act} {listed : Array Bool} {a : Act} {W : World} (x : StP w a0 listed a W) (hb : a0.tmps.size = 39) (d3 : listed.getD 3 false = true) :
    wpOp Tryd.prog opsP Q 4 (fun a' w' => StP w a0 (listed.setIfInBounds 4 true) a' w') a W := by
  obtain ⟨sz, S1, S2, S3, AG, P, NE, K⟩ := x
  have e8 : a.tmps[8]? = some (.int .i64 1) := NE.at 3 8 rfl rfl d3
  refine wpOp_step (o := { dst := some 9, op := Op.convert 3 61 (Operand.tmp 8), type := 61, pos := "places.go:30", after := #[{ on := 3, ground := Ground.data }], guard := none }) rfl (fun KK hK => ?_)
  have HK : Hid (KK (a.put (some 9) (.int .u64 1)) W) := hK _ _ ⟨by rw [Array.size_setIfInBounds]; exact sz, S1, S2, S3, AG, P, NE.put ndP rfl rfl (by rw [hb]; decide), K.same 4 (by decide) (by decide) (by decide) (by decide) (by decide) (by decide) (Below.refl _ W)⟩
  have wu : IntKind.u64.wrap 1 = 1 := by decide
  clear hK NE K
  go_simp
  exact HK.out
set_option maxRecDepth 100000 in
theorem stP_5 {Q : Exit → Act → World → Prop} {w : World} {a0 : Act} {listed : Array Bool} {a : Act} {W : World} (x : StP w a0 listed a W) (hb : a0.tmps.size = 39) (d4 : listed.getD 4 false = true) :
    wpOp Tryd.prog opsP Q 5 (fun a' w' => StP w a0 (listed.setIfInBounds 5 true) a' w') a W := by
  obtain ⟨sz, S1, S2, S3, AG, P, NE, K⟩ := x
  have e9 : a.tmps[9]? = some (.int .u64 1) := NE.at 4 9 rfl rfl d4
  refine wpOp_step (o := { dst := some 10, op := Op.call { callee := Callee.value (Operand.func 50), args := #[Operand.tmp 9], argTypes := #[61] }, type := 3, pos := "places.go:32", after := #[{ on := 4, ground := Ground.data }], guard := none }) rfl (fun KK hK => ?_)
  have HK : Hid (KK (a.put (some 10) (.int .i64 1)) W) := hK _ _ ⟨by rw [Array.size_setIfInBounds]; exact sz, S1, S2, S3, AG, P, NE.put ndP rfl rfl (by rw [hb]; decide), K.same 5 (by decide) (by decide) (by decide) (by decide) (by decide) (by decide) (Below.refl _ W)⟩
  clear hK NE K
  go_simp
  refine (len_1 W).mono ?_
  rintro e w9 ⟨rfl, rfl⟩
  exact HK.out
set_option maxRecDepth 100000 in
theorem stP_6 {Q : Exit → Act → World → Prop} {w : World} {a0 : Act} {listed : Array Bool} {a : Act} {W : World} (x : StP w a0 listed a W) (hb : a0.tmps.size = 39) (d5 : listed.getD 5 false = true) :
    wpOp Tryd.prog opsP Q 6 (fun a' w' => StP w a0 (listed.setIfInBounds 6 true) a' w') a W := by
  obtain ⟨sz, S1, S2, S3, AG, P, NE, K⟩ := x
  have e10 : a.tmps[10]? = some (.int .i64 1) := NE.at 5 10 rfl rfl d5
  refine wpOp_step (o := { dst := some 11, op := Op.binOp BinOp.shl 3 (Operand.const (Value.int IntKind.i64 1)) (Operand.tmp 10) 3, type := 3, pos := "places.go:30", after := #[{ on := 5, ground := Ground.data }], guard := none }) rfl (fun KK hK => ?_)
  have HK : Hid (KK (a.put (some 11) (.int .i64 2)) W) := hK _ _ ⟨by rw [Array.size_setIfInBounds]; exact sz, S1, S2, S3, AG, P, NE.put ndP rfl rfl (by rw [hb]; decide), K.same 6 (by decide) (by decide) (by decide) (by decide) (by decide) (by decide) (Below.refl _ W)⟩
  have wi : IntKind.i64.wrap 2 = 2 := by decide
  clear hK NE K
  go_simp
  exact HK.out
set_option maxRecDepth 100000 in
theorem stP_7 {Q : Exit → Act → World → Prop} {w : World} {a0 : Act} {listed : Array Bool} {a : Act} {W : World} (x : StP w a0 listed a W) (hb : a0.tmps.size = 39) (hl : listed.getD 7 true = false) (d6 : listed.getD 6 false = true) :
    wpOp Tryd.prog opsP Q 7 (fun a' w' => StP w a0 (listed.setIfInBounds 7 true) a' w') a W := by
  obtain ⟨sz, S1, S2, S3, AG, P, NE, K⟩ := x
  have e11 : a.tmps[11]? = some (.int .i64 2) := NE.at 6 11 rfl rfl d6
  refine wpOp_step (o := { dst := some 12, op := Op.makeSlice 94 (Operand.tmp 11) (Operand.tmp 11), type := 94, pos := "places.go:30", after := #[{ on := 6, ground := Ground.data }, { on := 6, ground := Ground.data }], guard := none }) rfl (fun KK hK => ?_)
  have n16 : ¬ listed.getD 16 false = true := fun h => by obtain ⟨_, h7, h11, h15⟩ := K.k16 h; exact not_both (by omega) hl h7
  have n17 : ¬ listed.getD 17 false = true := fun h => n16 (K.k17 h).1
  have n18 : ¬ listed.getD 18 false = true := fun h => n17 (K.k18 h)
  have HK : Hid (KK (a.put (some 12) (.slice (some ⟨W.heap.size, 0, none⟩) 2 2)) (W.alloc (.cells #[.int .i32 0, .int .i32 0] 21))) := hK _ _ ⟨by rw [Array.size_setIfInBounds]; exact sz, (.slice (some ⟨W.heap.size, 0, none⟩) 2 2), S2, S3, AG, P, (NE.swap (us := vsP (.slice (some ⟨W.heap.size, 0, none⟩) 2 2) S2 S3 AG P) (fun j hj => by
      have hne : j ≠ 7 := fun e => by subst e; exact not_both (by omega) hl hj
      match j, hne with
      | 0, _ => rfl
      | 1, _ => rfl
      | 2, _ => rfl
      | 3, _ => rfl
      | 4, _ => rfl
      | 5, _ => rfl
      | 6, _ => rfl
      | 7, hne => exact absurd rfl hne
      | 8, _ => rfl
      | 9, _ => rfl
      | 10, _ => rfl
      | 11, _ => rfl
      | 12, _ => rfl
      | 13, _ => rfl
      | 14, _ => rfl
      | 15, _ => rfl
      | 16, _ => rfl
      | 17, _ => rfl
      | 18, _ => rfl
      | _ + 19, _ => rfl)).put ndP rfl rfl (by rw [hb]; decide), ⟨fun _ => ⟨W.heap.size, rfl, Lies.new W _ _, K.bl.size⟩, fun h => by rw [getD_set_ne false (by decide)] at h; obtain ⟨g, e, hg, hb2⟩ := K.k11 h; exact ⟨g, e, hg.alloc _, hb2⟩, fun h => by rw [getD_set_ne false (by decide)] at h; obtain ⟨g, e, hg, hb2⟩ := K.k15 h; exact ⟨g, e, hg.alloc _, hb2⟩, fun h => absurd (by rw [getD_set_ne false (by decide)] at h; exact h) n16, fun h => absurd (by rw [getD_set_ne false (by decide)] at h; exact h) n17, fun h => absurd (by rw [getD_set_ne false (by decide)] at h; exact h) n18, below_join K.bl ((Below.refl _ W).alloc (Nat.le_refl _) _)⟩⟩
  have hmk : (Instr.makeSlice 94 (.int .i64 2) (.int .i64 2)).run Tryd.prog W = .ok (.slice (some ⟨W.heap.size, 0, none⟩) 2 2) (W.alloc (.cells #[.int .i32 0, .int .i32 0] 21)) := make_32 2 (by omega) W
  clear hK NE K n16 n17 n18
  go_simp
  exact HK.out
set_option maxRecDepth 100000 in
theorem stP_8 {Q : Exit → Act → World → Prop} {w : World} {a0 : Act} {listed : Array Bool} {a : Act} {W : World} (x : StP w a0 listed a W) (hb : a0.tmps.size = 39) (t0 : a0.tmps[0]? = some (.string ⟨#[97]⟩)) :
    wpOp Tryd.prog opsP Q 8 (fun a' w' => StP w a0 (listed.setIfInBounds 8 true) a' w') a W := by
  obtain ⟨sz, S1, S2, S3, AG, P, NE, K⟩ := x
  have e0 : a.tmps[0]? = some (.string ⟨#[97]⟩) := (NE.same 0 (by decide)).trans t0
  refine wpOp_step (o := { dst := some 13, op := Op.move (Operand.tmp 0), type := 9, pos := "places.go:30", after := #[], guard := none }) rfl (fun KK hK => ?_)
  have HK : Hid (KK (a.put (some 13) (.string ⟨#[97]⟩)) W) := hK _ _ ⟨by rw [Array.size_setIfInBounds]; exact sz, S1, S2, S3, AG, P, NE.put ndP rfl rfl (by rw [hb]; decide), K.same 8 (by decide) (by decide) (by decide) (by decide) (by decide) (by decide) (Below.refl _ W)⟩
  clear hK NE K
  go_simp
  exact HK.out
set_option maxRecDepth 100000 in
theorem stP_9 {Q : Exit → Act → World → Prop} {w : World} {a0 : Act} {listed : Array Bool} {a : Act} {W : World} (x : StP w a0 listed a W) (hb : a0.tmps.size = 39) (d8 : listed.getD 8 false = true) :
    wpOp Tryd.prog opsP Q 9 (fun a' w' => StP w a0 (listed.setIfInBounds 9 true) a' w') a W := by
  obtain ⟨sz, S1, S2, S3, AG, P, NE, K⟩ := x
  have e13 : a.tmps[13]? = some (.string ⟨#[97]⟩) := NE.at 8 13 rfl rfl d8
  refine wpOp_step (o := { dst := some 14, op := Op.call { callee := Callee.builtin Builtin.len, args := #[Operand.tmp 13], argTypes := #[9] }, type := 3, pos := "places.go:30", after := #[{ on := 8, ground := Ground.data }], guard := none }) rfl (fun KK hK => ?_)
  have HK : Hid (KK (a.put (some 14) (.int .i64 1)) W) := hK _ _ ⟨by rw [Array.size_setIfInBounds]; exact sz, S1, S2, S3, AG, P, NE.put ndP rfl rfl (by rw [hb]; decide), K.same 9 (by decide) (by decide) (by decide) (by decide) (by decide) (by decide) (Below.refl _ W)⟩
  clear hK NE K
  go_simp
  exact HK.out
set_option maxRecDepth 100000 in
theorem stP_10 {Q : Exit → Act → World → Prop} {w : World} {a0 : Act} {listed : Array Bool} {a : Act} {W : World} (x : StP w a0 listed a W) (hb : a0.tmps.size = 39) (d9 : listed.getD 9 false = true) :
    wpOp Tryd.prog opsP Q 10 (fun a' w' => StP w a0 (listed.setIfInBounds 10 true) a' w') a W := by
  obtain ⟨sz, S1, S2, S3, AG, P, NE, K⟩ := x
  have e14 : a.tmps[14]? = some (.int .i64 1) := NE.at 9 14 rfl rfl d9
  refine wpOp_step (o := { dst := some 15, op := Op.call { callee := Callee.builtin Builtin.min, args := #[Operand.tmp 14, Operand.const (Value.int IntKind.i64 65536)], argTypes := #[3, 3] }, type := 3, pos := "places.go:30", after := #[{ on := 9, ground := Ground.data }], guard := none }) rfl (fun KK hK => ?_)
  have HK : Hid (KK (a.put (some 15) (.int .i64 1)) W) := hK _ _ ⟨by rw [Array.size_setIfInBounds]; exact sz, S1, S2, S3, AG, P, NE.put ndP rfl rfl (by rw [hb]; decide), K.same 10 (by decide) (by decide) (by decide) (by decide) (by decide) (by decide) (Below.refl _ W)⟩
  clear hK NE K
  go_simp
  exact HK.out
set_option maxRecDepth 100000 in
theorem stP_11 {Q : Exit → Act → World → Prop} {w : World} {a0 : Act} {listed : Array Bool} {a : Act} {W : World} (x : StP w a0 listed a W) (hb : a0.tmps.size = 39) (hl : listed.getD 11 true = false) (d10 : listed.getD 10 false = true) :
    wpOp Tryd.prog opsP Q 11 (fun a' w' => StP w a0 (listed.setIfInBounds 11 true) a' w') a W := by
  obtain ⟨sz, S1, S2, S3, AG, P, NE, K⟩ := x
  have e15 : a.tmps[15]? = some (.int .i64 1) := NE.at 10 15 rfl rfl d10
  refine wpOp_step (o := { dst := some 16, op := Op.makeSlice 94 (Operand.tmp 15) (Operand.tmp 15), type := 94, pos := "places.go:30", after := #[{ on := 10, ground := Ground.data }, { on := 10, ground := Ground.data }], guard := none }) rfl (fun KK hK => ?_)
  have n16 : ¬ listed.getD 16 false = true := fun h => by obtain ⟨_, h7, h11, h15⟩ := K.k16 h; exact not_both (by omega) hl h11
  have n17 : ¬ listed.getD 17 false = true := fun h => n16 (K.k17 h).1
  have n18 : ¬ listed.getD 18 false = true := fun h => n17 (K.k18 h)
  have HK : Hid (KK (a.put (some 16) (.slice (some ⟨W.heap.size, 0, none⟩) 1 1)) (W.alloc (.cells #[.int .i32 0] 21))) := hK _ _ ⟨by rw [Array.size_setIfInBounds]; exact sz, S1, (.slice (some ⟨W.heap.size, 0, none⟩) 1 1), S3, AG, P, (NE.swap (us := vsP S1 (.slice (some ⟨W.heap.size, 0, none⟩) 1 1) S3 AG P) (fun j hj => by
      have hne : j ≠ 11 := fun e => by subst e; exact not_both (by omega) hl hj
      match j, hne with
      | 0, _ => rfl
      | 1, _ => rfl
      | 2, _ => rfl
      | 3, _ => rfl
      | 4, _ => rfl
      | 5, _ => rfl
      | 6, _ => rfl
      | 7, _ => rfl
      | 8, _ => rfl
      | 9, _ => rfl
      | 10, _ => rfl
      | 11, hne => exact absurd rfl hne
      | 12, _ => rfl
      | 13, _ => rfl
      | 14, _ => rfl
      | 15, _ => rfl
      | 16, _ => rfl
      | 17, _ => rfl
      | 18, _ => rfl
      | _ + 19, _ => rfl)).put ndP rfl rfl (by rw [hb]; decide), ⟨fun h => by rw [getD_set_ne false (by decide)] at h; obtain ⟨g, e, hg, hb2⟩ := K.k7 h; exact ⟨g, e, hg.alloc _, hb2⟩, fun _ => ⟨W.heap.size, rfl, Lies.new W _ _, K.bl.size⟩, fun h => by rw [getD_set_ne false (by decide)] at h; obtain ⟨g, e, hg, hb2⟩ := K.k15 h; exact ⟨g, e, hg.alloc _, hb2⟩, fun h => absurd (by rw [getD_set_ne false (by decide)] at h; exact h) n16, fun h => absurd (by rw [getD_set_ne false (by decide)] at h; exact h) n17, fun h => absurd (by rw [getD_set_ne false (by decide)] at h; exact h) n18, below_join K.bl ((Below.refl _ W).alloc (Nat.le_refl _) _)⟩⟩
  have hmk : (Instr.makeSlice 94 (.int .i64 1) (.int .i64 1)).run Tryd.prog W = .ok (.slice (some ⟨W.heap.size, 0, none⟩) 1 1) (W.alloc (.cells #[.int .i32 0] 21)) := make_32 1 (by omega) W
  clear hK NE K n16 n17 n18
  go_simp
  exact HK.out
set_option maxRecDepth 100000 in
theorem stP_12 {Q : Exit → Act → World → Prop} {w : World} {a0 : Act} {listed : Array Bool} {a : Act} {W : World} (x : StP w a0 listed a W) (hb : a0.tmps.size = 39) (t0 : a0.tmps[0]? = some (.string ⟨#[97]⟩)) :
    wpOp Tryd.prog opsP Q 12 (fun a' w' => StP w a0 (listed.setIfInBounds 12 true) a' w') a W := by
  obtain ⟨sz, S1, S2, S3, AG, P, NE, K⟩ := x
  have e0 : a.tmps[0]? = some (.string ⟨#[97]⟩) := (NE.same 0 (by decide)).trans t0
  refine wpOp_step (o := { dst := some 17, op := Op.move (Operand.tmp 0), type := 9, pos := "places.go:30", after := #[], guard := none }) rfl (fun KK hK => ?_)
  have HK : Hid (KK (a.put (some 17) (.string ⟨#[97]⟩)) W) := hK _ _ ⟨by rw [Array.size_setIfInBounds]; exact sz, S1, S2, S3, AG, P, NE.put ndP rfl rfl (by rw [hb]; decide), K.same 12 (by decide) (by decide) (by decide) (by decide) (by decide) (by decide) (Below.refl _ W)⟩
  clear hK NE K
  go_simp
  exact HK.out
set_option maxRecDepth 100000 in
theorem stP_13 {Q : Exit → Act → World → Prop} {w : World} {a0 : Act} {listed : Array Bool} {a : Act} {W : World} (x : StP w a0 listed a W) (hb : a0.tmps.size = 39) (d12 : listed.getD 12 false = true) :
    wpOp Tryd.prog opsP Q 13 (fun a' w' => StP w a0 (listed.setIfInBounds 13 true) a' w') a W := by
  obtain ⟨sz, S1, S2, S3, AG, P, NE, K⟩ := x
  have e17 : a.tmps[17]? = some (.string ⟨#[97]⟩) := NE.at 12 17 rfl rfl d12
  refine wpOp_step (o := { dst := some 18, op := Op.call { callee := Callee.builtin Builtin.len, args := #[Operand.tmp 17], argTypes := #[9] }, type := 3, pos := "places.go:30", after := #[{ on := 12, ground := Ground.data }], guard := none }) rfl (fun KK hK => ?_)
  have HK : Hid (KK (a.put (some 18) (.int .i64 1)) W) := hK _ _ ⟨by rw [Array.size_setIfInBounds]; exact sz, S1, S2, S3, AG, P, NE.put ndP rfl rfl (by rw [hb]; decide), K.same 13 (by decide) (by decide) (by decide) (by decide) (by decide) (by decide) (Below.refl _ W)⟩
  clear hK NE K
  go_simp
  exact HK.out
set_option maxRecDepth 100000 in
theorem stP_14 {Q : Exit → Act → World → Prop} {w : World} {a0 : Act} {listed : Array Bool} {a : Act} {W : World} (x : StP w a0 listed a W) (hb : a0.tmps.size = 39) (d13 : listed.getD 13 false = true) :
    wpOp Tryd.prog opsP Q 14 (fun a' w' => StP w a0 (listed.setIfInBounds 14 true) a' w') a W := by
  obtain ⟨sz, S1, S2, S3, AG, P, NE, K⟩ := x
  have e18 : a.tmps[18]? = some (.int .i64 1) := NE.at 13 18 rfl rfl d13
  refine wpOp_step (o := { dst := some 19, op := Op.call { callee := Callee.builtin Builtin.min, args := #[Operand.tmp 18, Operand.const (Value.int IntKind.i64 65536)], argTypes := #[3, 3] }, type := 3, pos := "places.go:30", after := #[{ on := 13, ground := Ground.data }], guard := none }) rfl (fun KK hK => ?_)
  have HK : Hid (KK (a.put (some 19) (.int .i64 1)) W) := hK _ _ ⟨by rw [Array.size_setIfInBounds]; exact sz, S1, S2, S3, AG, P, NE.put ndP rfl rfl (by rw [hb]; decide), K.same 14 (by decide) (by decide) (by decide) (by decide) (by decide) (by decide) (Below.refl _ W)⟩
  clear hK NE K
  go_simp
  exact HK.out
set_option maxRecDepth 100000 in
theorem stP_15 {Q : Exit → Act → World → Prop} {w : World} {a0 : Act} {listed : Array Bool} {a : Act} {W : World} (x : StP w a0 listed a W) (hb : a0.tmps.size = 39) (hl : listed.getD 15 true = false) (d14 : listed.getD 14 false = true) :
    wpOp Tryd.prog opsP Q 15 (fun a' w' => StP w a0 (listed.setIfInBounds 15 true) a' w') a W := by
  obtain ⟨sz, S1, S2, S3, AG, P, NE, K⟩ := x
  have e19 : a.tmps[19]? = some (.int .i64 1) := NE.at 14 19 rfl rfl d14
  refine wpOp_step (o := { dst := some 20, op := Op.makeSlice 94 (Operand.tmp 19) (Operand.tmp 19), type := 94, pos := "places.go:30", after := #[{ on := 14, ground := Ground.data }, { on := 14, ground := Ground.data }], guard := none }) rfl (fun KK hK => ?_)
  have n16 : ¬ listed.getD 16 false = true := fun h => by obtain ⟨_, h7, h11, h15⟩ := K.k16 h; exact not_both (by omega) hl h15
  have n17 : ¬ listed.getD 17 false = true := fun h => n16 (K.k17 h).1
  have n18 : ¬ listed.getD 18 false = true := fun h => n17 (K.k18 h)
  have HK : Hid (KK (a.put (some 20) (.slice (some ⟨W.heap.size, 0, none⟩) 1 1)) (W.alloc (.cells #[.int .i32 0] 21))) := hK _ _ ⟨by rw [Array.size_setIfInBounds]; exact sz, S1, S2, (.slice (some ⟨W.heap.size, 0, none⟩) 1 1), AG, P, (NE.swap (us := vsP S1 S2 (.slice (some ⟨W.heap.size, 0, none⟩) 1 1) AG P) (fun j hj => by
      have hne : j ≠ 15 := fun e => by subst e; exact not_both (by omega) hl hj
      match j, hne with
      | 0, _ => rfl
      | 1, _ => rfl
      | 2, _ => rfl
      | 3, _ => rfl
      | 4, _ => rfl
      | 5, _ => rfl
      | 6, _ => rfl
      | 7, _ => rfl
      | 8, _ => rfl
      | 9, _ => rfl
      | 10, _ => rfl
      | 11, _ => rfl
      | 12, _ => rfl
      | 13, _ => rfl
      | 14, _ => rfl
      | 15, hne => exact absurd rfl hne
      | 16, _ => rfl
      | 17, _ => rfl
      | 18, _ => rfl
      | _ + 19, _ => rfl)).put ndP rfl rfl (by rw [hb]; decide), ⟨fun h => by rw [getD_set_ne false (by decide)] at h; obtain ⟨g, e, hg, hb2⟩ := K.k7 h; exact ⟨g, e, hg.alloc _, hb2⟩, fun h => by rw [getD_set_ne false (by decide)] at h; obtain ⟨g, e, hg, hb2⟩ := K.k11 h; exact ⟨g, e, hg.alloc _, hb2⟩, fun _ => ⟨W.heap.size, rfl, Lies.new W _ _, K.bl.size⟩, fun h => absurd (by rw [getD_set_ne false (by decide)] at h; exact h) n16, fun h => absurd (by rw [getD_set_ne false (by decide)] at h; exact h) n17, fun h => absurd (by rw [getD_set_ne false (by decide)] at h; exact h) n18, below_join K.bl ((Below.refl _ W).alloc (Nat.le_refl _) _)⟩⟩
  have hmk : (Instr.makeSlice 94 (.int .i64 1) (.int .i64 1)).run Tryd.prog W = .ok (.slice (some ⟨W.heap.size, 0, none⟩) 1 1) (W.alloc (.cells #[.int .i32 0] 21)) := make_32 1 (by omega) W
  clear hK NE K n16 n17 n18
  go_simp
  exact HK.out
set_option maxRecDepth 100000 in
theorem stP_16 {Q : Exit → Act → World → Prop} {w : World} {a0 : Act} {listed : Array Bool} {a : Act} {W : World} (x : StP w a0 listed a W) (hb : a0.tmps.size = 39) (hl : listed.getD 16 true = false) (d0 : listed.getD 0 false = true) (d7 : listed.getD 7 false = true) (d11 : listed.getD 11 false = true) (d15 : listed.getD 15 false = true) :
    wpOp Tryd.prog opsP Q 16 (fun a' w' => StP w a0 (listed.setIfInBounds 16 true) a' w') a W := by
  obtain ⟨sz, S1, S2, S3, AG, P, NE, K⟩ := x
  have e5 : a.tmps[5]? = some (.string ⟨#[97]⟩) := NE.at 0 5 rfl rfl d0
  have e12 : a.tmps[12]? = some (S1) := NE.at 7 12 rfl rfl d7
  have e16 : a.tmps[16]? = some (S2) := NE.at 11 16 rfl rfl d11
  have e20 : a.tmps[20]? = some (S3) := NE.at 15 20 rfl rfl d15
  refine wpOp_step (o := { dst := some 21, op := Op.build 97 #[(0, Operand.tmp 5), (1, Operand.tmp 12), (2, Operand.tmp 16), (3, Operand.tmp 20)], type := 97, pos := "places.go:30", after := #[{ on := 0, ground := Ground.data }, { on := 7, ground := Ground.data }, { on := 11, ground := Ground.data }, { on := 15, ground := Ground.data }], guard := none }) rfl (fun KK hK => ?_)
  have n17 : ¬ listed.getD 17 false = true := fun h => not_both (by omega) hl (K.k17 h).1
  have n18 : ¬ listed.getD 18 false = true := fun h => n17 (K.k18 h)
  have HK : Hid (KK (a.put (some 21) (.agg #[.string ⟨#[97]⟩, S1, S2, S3])) W) := hK _ _ ⟨by rw [Array.size_setIfInBounds]; exact sz, S1, S2, S3, (.agg #[.string ⟨#[97]⟩, S1, S2, S3]), P, (NE.swap (us := vsP S1 S2 S3 (.agg #[.string ⟨#[97]⟩, S1, S2, S3]) P) (fun j hj => by
      have hne : j ≠ 16 := fun e => by subst e; exact not_both (by omega) hl hj
      match j, hne with
      | 0, _ => rfl
      | 1, _ => rfl
      | 2, _ => rfl
      | 3, _ => rfl
      | 4, _ => rfl
      | 5, _ => rfl
      | 6, _ => rfl
      | 7, _ => rfl
      | 8, _ => rfl
      | 9, _ => rfl
      | 10, _ => rfl
      | 11, _ => rfl
      | 12, _ => rfl
      | 13, _ => rfl
      | 14, _ => rfl
      | 15, _ => rfl
      | 16, hne => exact absurd rfl hne
      | 17, _ => rfl
      | 18, _ => rfl
      | _ + 19, _ => rfl)).put ndP rfl rfl (by rw [hb]; decide), ⟨fun h => K.k7 (by rw [getD_set_ne false (by decide)] at h; exact h), fun h => K.k11 (by rw [getD_set_ne false (by decide)] at h; exact h), fun h => K.k15 (by rw [getD_set_ne false (by decide)] at h; exact h), fun _ => ⟨rfl, by rw [getD_set_ne false (by decide)]; exact d7, by rw [getD_set_ne false (by decide)]; exact d11, by rw [getD_set_ne false (by decide)]; exact d15⟩, fun h => absurd (by rw [getD_set_ne false (by decide)] at h; exact h) n17, fun h => absurd (by rw [getD_set_ne false (by decide)] at h; exact h) n18, K.bl⟩⟩
  obtain ⟨g1, rfl, _, _⟩ := K.k7 d7
  obtain ⟨g2, rfl, _, _⟩ := K.k11 d11
  obtain ⟨g3, rfl, _, _⟩ := K.k15 d15
  clear hK NE K n17 n18
  go_simp
  exact HK.out
set_option maxRecDepth 100000 in
theorem stP_17 {Q : Exit → Act → World → Prop} {w : World} {a0 : Act} {listed : Array Bool} {a : Act} {W : World} (x : StP w a0 listed a W) (hb : a0.tmps.size = 39) (hl : listed.getD 17 true = false) (d16 : listed.getD 16 false = true) :
    wpOp Tryd.prog opsP Q 17 (fun a' w' => StP w a0 (listed.setIfInBounds 17 true) a' w') a W := by
  obtain ⟨sz, S1, S2, S3, AG, P, NE, K⟩ := x
  have e21 : a.tmps[21]? = some (AG) := NE.at 16 21 rfl rfl d16
  refine wpOp_step (o := { dst := some 22, op := Op.box 97 (Operand.tmp 21), type := 65, pos := "places.go:30", after := #[{ on := 16, ground := Ground.data }], guard := none }) rfl (fun KK hK => ?_)
  have n18 : ¬ listed.getD 18 false = true := fun h => not_both (by omega) hl (K.k18 h)
  obtain ⟨rfl, l7, l11, l15⟩ := K.k16 d16
  have HK : Hid (KK (a.put (some 22) (.pointer (some ⟨W.heap.size, 0, none⟩))) (W.alloc (.cells #[.string ⟨#[97]⟩, S1, S2, S3] 97))) := hK _ _ ⟨by rw [Array.size_setIfInBounds]; exact sz, S1, S2, S3, _, (.pointer (some ⟨W.heap.size, 0, none⟩)), (NE.swap (us := vsP S1 S2 S3 (.agg #[.string ⟨#[97]⟩, S1, S2, S3]) (.pointer (some ⟨W.heap.size, 0, none⟩))) (fun j hj => by
      have hne : j ≠ 17 := fun e => by subst e; exact not_both (by omega) hl hj
      have hne2 : j ≠ 18 := fun e => by subst e; exact n18 hj
      match j, hne, hne2 with
      | 0, _, _ => rfl
      | 1, _, _ => rfl
      | 2, _, _ => rfl
      | 3, _, _ => rfl
      | 4, _, _ => rfl
      | 5, _, _ => rfl
      | 6, _, _ => rfl
      | 7, _, _ => rfl
      | 8, _, _ => rfl
      | 9, _, _ => rfl
      | 10, _, _ => rfl
      | 11, _, _ => rfl
      | 12, _, _ => rfl
      | 13, _, _ => rfl
      | 14, _, _ => rfl
      | 15, _, _ => rfl
      | 16, _, _ => rfl
      | 17, hne, _ => exact absurd rfl hne
      | 18, _, hne2 => exact absurd rfl hne2
      | _ + 19, _, _ => rfl)).put ndP rfl rfl (by rw [hb]; decide), ⟨fun _ => (by obtain ⟨g, e, hg, hb2⟩ := K.k7 l7; exact ⟨g, e, hg.alloc _, hb2⟩), fun _ => (by obtain ⟨g, e, hg, hb2⟩ := K.k11 l11; exact ⟨g, e, hg.alloc _, hb2⟩), fun _ => (by obtain ⟨g, e, hg, hb2⟩ := K.k15 l15; exact ⟨g, e, hg.alloc _, hb2⟩), fun _ => ⟨rfl, by rw [getD_set_ne false (by decide)]; exact l7, by rw [getD_set_ne false (by decide)]; exact l11, by rw [getD_set_ne false (by decide)]; exact l15⟩, fun _ => ⟨by rw [getD_set_ne false (by decide)]; exact d16, W.heap.size, rfl, Lies.new W _ _, K.bl.size⟩, fun h => absurd (by rw [getD_set_ne false (by decide)] at h; exact h) n18, below_join K.bl ((Below.refl _ W).alloc (Nat.le_refl _) _)⟩⟩
  obtain ⟨g1, rfl, _, _⟩ := K.k7 l7
  obtain ⟨g2, rfl, _, _⟩ := K.k11 l11
  obtain ⟨g3, rfl, _, _⟩ := K.k15 l15
  clear hK NE K n18
  go_simp
  exact HK.out
set_option maxRecDepth 100000 in
theorem stP_18 {Q : Exit → Act → World → Prop} {w : World} {a0 : Act} {listed : Array Bool} {a : Act} {W : World} (x : StP w a0 listed a W) (hb : a0.tmps.size = 39) (d17 : listed.getD 17 false = true) :
    wpOp Tryd.prog opsP Q 18 (fun a' w' => StP w a0 (listed.setIfInBounds 18 true) a' w') a W := by
  obtain ⟨sz, S1, S2, S3, AG, P, NE, K⟩ := x
  have e22 : a.tmps[22]? = some (P) := NE.at 17 22 rfl rfl d17
  refine wpOp_step (o := { dst := some 3, op := Op.assign (Operand.tmp 22), type := 65, pos := "places.go:30", after := #[{ on := 17, ground := Ground.data }, { on := 5, ground := Ground.chain }, { on := 0, ground := Ground.phase }, { on := 1, ground := Ground.phase }, { on := 2, ground := Ground.phase }, { on := 3, ground := Ground.phase }, { on := 4, ground := Ground.phase }, { on := 5, ground := Ground.phase }, { on := 6, ground := Ground.phase }, { on := 7, ground := Ground.phase }, { on := 8, ground := Ground.phase }, { on := 9, ground := Ground.phase }, { on := 10, ground := Ground.phase }, { on := 11, ground := Ground.phase }, { on := 12, ground := Ground.phase }, { on := 13, ground := Ground.phase }, { on := 14, ground := Ground.phase }, { on := 15, ground := Ground.phase }, { on := 16, ground := Ground.phase }, { on := 17, ground := Ground.phase }], guard := none }) rfl (fun KK hK => ?_)
  obtain ⟨_, g, rfl, _, _⟩ := K.k17 d17
  have HK : Hid (KK (a.put (some 3) (.pointer (some ⟨g, 0, none⟩))) W) := hK _ _ ⟨by rw [Array.size_setIfInBounds]; exact sz, S1, S2, S3, AG, _, NE.put ndP rfl rfl (by rw [hb]; decide), ⟨fun h => K.k7 (by rw [getD_set_ne false (by decide)] at h; exact h), fun h => K.k11 (by rw [getD_set_ne false (by decide)] at h; exact h), fun h => K.k15 (by rw [getD_set_ne false (by decide)] at h; exact h), fun h => (by rw [getD_set_ne false (by decide)] at h ⊢; rw [getD_set_ne false (by decide), getD_set_ne false (by decide)]; exact K.k16 h), fun h => (by rw [getD_set_ne false (by decide)] at h ⊢; exact K.k17 h), fun _ => (by rw [getD_set_ne false (by decide)]; exact d17), K.bl⟩⟩
  clear hK NE K
  go_simp
  exact HK.out
set_option maxRecDepth 100000 in
theorem regionP {Q : Exit → Act → World → Prop} {w : World} {a0 : Act} {W : World} (hb : a0.tmps.size = 39) (t0 : a0.tmps[0]? = some (.string ⟨#[97]⟩)) (bl : Below w.heap.size w W)
    (hQ : ∀ g1 g2 g3 g4 W2, Lies W2 g1 21 #[.int .i32 0, .int .i32 0] → Lies W2 g3 21 #[.int .i32 0] → Lies W2 g4 97 #[.string ⟨#[97]⟩, .slice (some ⟨g1, 0, none⟩) 2 2, .slice (some ⟨g2, 0, none⟩) 1 1, .slice (some ⟨g3, 0, none⟩) 1 1] → w.heap.size ≤ g1 → w.heap.size ≤ g3 → w.heap.size ≤ g4 → Below w.heap.size w W2 →
      Q .normal (putAll a0 dsP (vsP (.slice (some ⟨g1, 0, none⟩) 2 2) (.slice (some ⟨g2, 0, none⟩) 1 1) (.slice (some ⟨g3, 0, none⟩) 1 1) (.agg #[.string ⟨#[97]⟩, .slice (some ⟨g1, 0, none⟩) 2 2, .slice (some ⟨g2, 0, none⟩) 1 1, .slice (some ⟨g3, 0, none⟩) 1 1]) (.pointer (some ⟨g4, 0, none⟩)))) W2) :
    (Code.region 1 opsP true).wp Tryd.prog Q a0 W := by
  refine wp_region_net (by kernel_rfl) (StP w a0) ?_ ?_ ?_
  · have nn : ∀ k, ¬ (Array.replicate opsP.size false).getD k false = true := fun k h => by
      rw [Array.getD_eq_getD_getElem?, Array.getElem?_replicate] at h
      split at h <;> simp at h
    exact ⟨by rw [Array.size_replicate]; rfl, .pointer none, .pointer none, .pointer none, .pointer none, .pointer none, Net.start _ _ _ _, fun h => absurd h (nn _), fun h => absurd h (nn _), fun h => absurd h (nn _), fun h => absurd h (nn _), fun h => absurd h (nn _), fun h => absurd h (nn _), below_drawn bl 1⟩
  · intro listed a W i x hr
    obtain ⟨hl, o, ho, hdep⟩ := mem_ready.1 hr
    have hi : i < 19 := (Array.getElem?_eq_some_iff.1 ho).1
    have dep : ∀ k, (opsP[i]?.any fun o2 => o2.after.any fun e => e.on == k && Region.binds .any e) = true → listed.getD k false = true := by
      intro k hk
      rw [ho] at hk
      simp only [Option.any_some] at hk
      rw [Array.any_eq_true'] at hk
      obtain ⟨e, he, hk⟩ := hk
      rw [Bool.and_eq_true, beq_iff_eq] at hk
      rw [← hk.1]
      exact hdep e he hk.2
    clear hdep ho hr
    match i, hi, hl, dep with
    | 0, _, _, _ => exact stP_0 x hb t0
    | 1, _, _, _ => exact stP_1 x hb t0
    | 2, _, _, dep => exact stP_2 x hb (dep 1 (by kernel_rfl))
    | 3, _, _, dep => exact stP_3 x hb (dep 2 (by kernel_rfl))
    | 4, _, _, dep => exact stP_4 x hb (dep 3 (by kernel_rfl))
    | 5, _, _, dep => exact stP_5 x hb (dep 4 (by kernel_rfl))
    | 6, _, _, dep => exact stP_6 x hb (dep 5 (by kernel_rfl))
    | 7, _, hl, dep => exact stP_7 x hb hl (dep 6 (by kernel_rfl))
    | 8, _, _, _ => exact stP_8 x hb t0
    | 9, _, _, dep => exact stP_9 x hb (dep 8 (by kernel_rfl))
    | 10, _, _, dep => exact stP_10 x hb (dep 9 (by kernel_rfl))
    | 11, _, hl, dep => exact stP_11 x hb hl (dep 10 (by kernel_rfl))
    | 12, _, _, _ => exact stP_12 x hb t0
    | 13, _, _, dep => exact stP_13 x hb (dep 12 (by kernel_rfl))
    | 14, _, _, dep => exact stP_14 x hb (dep 13 (by kernel_rfl))
    | 15, _, hl, dep => exact stP_15 x hb hl (dep 14 (by kernel_rfl))
    | 16, _, hl, dep => exact stP_16 x hb hl (dep 0 (by kernel_rfl)) (dep 7 (by kernel_rfl)) (dep 11 (by kernel_rfl)) (dep 15 (by kernel_rfl))
    | 17, _, hl, dep => exact stP_17 x hb hl (dep 16 (by kernel_rfl))
    | 18, _, _, dep => exact stP_18 x hb (dep 17 (by kernel_rfl))
    | n + 19, hn, _, _ => exact absurd hn (by omega)
  · intro listed a W x hr
    obtain ⟨sz, S1, S2, S3, AG, P, NE, K⟩ := x
    have hall := all_done (md := .any) (ops := opsP) (listed := listed) (by rw [sz]; rfl) afterP hr
    rw [NE.all ndP rfl (fun d hd => by rw [hb]; exact of_decide_eq_true ((List.all_eq_true.1 (show (dsP.all fun d => decide (d < 39)) = true by kernel_rfl)) d hd)) (fun i hi => hall i hi)]
    obtain ⟨g1, rfl, h1, b1⟩ := K.k7 (hall 7 (by decide))
    obtain ⟨g2, rfl, h2, b2⟩ := K.k11 (hall 11 (by decide))
    obtain ⟨g3, rfl, h3, b3⟩ := K.k15 (hall 15 (by decide))
    obtain ⟨rfl, _⟩ := K.k16 (hall 16 (by decide))
    obtain ⟨_, g4, rfl, h4, b4⟩ := K.k17 (hall 17 (by decide))
    exact hQ g1 g2 g3 g4 W h1 h3 h4 b1 b3 b4 K.bl
end Go.Proofs.YtcoinfancoeepabDoor
