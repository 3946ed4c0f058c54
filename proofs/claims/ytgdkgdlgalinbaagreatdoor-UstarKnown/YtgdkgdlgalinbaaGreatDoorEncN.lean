/- Region 11 of the document's Encode: its operations in whatever order. (Made by wip/gen_net11.py.) -/
import Derived.Test.YtgdkgdlgalinbaaGreatDoorNet
import Derived.Test.YtgdkgdlgalinbaaGreatDoorRefX
namespace Go.Proofs.YtgdkgdlgalinbaaGreatDoor
open Go Go.RowKit

/-- The header's cells. -/
structure HdAt (W : World) (b : Nat) (h : Hd) : Prop where
  lies : Lies W b 28 (hcs h)
theorem HdAt.below {W W2 : World} {b : Nat} {h : Hd} (x : HdAt W b h) (k : Below W.heap.size W W2) : HdAt W2 b h := ⟨x.lies.below k⟩
def ops11 : Array Oper := #[
  { dst := some 121, op := Op.fieldAddr 28 (Operand.tmp 1) 6, type := 0, pos := "ref.go:81", after := #[], guard := none },
  { dst := some 122, op := Op.load 5 (Operand.tmp 121), type := 5, pos := "ref.go:81", after := #[{ on := 0, ground := Ground.data }], guard := none },
  { dst := some 123, op := Op.buildSlice 44 1 #[(0, Operand.tmp 122)], type := 44, pos := "ref.go:81", after := #[{ on := 1, ground := Ground.data }], guard := none },
  { dst := some 124, op := Op.convert 44 9 (Operand.tmp 123), type := 9, pos := "ref.go:81", after := #[{ on := 2, ground := Ground.data }], guard := none },
  { dst := some 125, op := Op.fieldAddr 28 (Operand.tmp 1) 7, type := 0, pos := "ref.go:81", after := #[], guard := none },
  { dst := some 126, op := Op.load 9 (Operand.tmp 125), type := 9, pos := "ref.go:81", after := #[{ on := 4, ground := Ground.data }], guard := none },
  { dst := some 127, op := Op.call { callee := Callee.value (Operand.func 30), args := #[Operand.tmp 126, Operand.const (Value.int IntKind.i64 100)], argTypes := #[9, 3] }, type := 9, pos := "ref.go:81", after := #[{ on := 5, ground := Ground.data }], guard := none },
  { dst := some 128, op := Op.binOp BinOp.add 9 (Operand.tmp 124) (Operand.tmp 127) 9, type := 9, pos := "ref.go:81", after := #[{ on := 3, ground := Ground.data }, { on := 6, ground := Ground.data }], guard := none },
  { dst := some 129, op := Op.binOp BinOp.add 9 (Operand.tmp 128) (Operand.const (Value.string { data := #[117, 115, 116, 97, 114, 0, 48, 48] })) 9, type := 9, pos := "ref.go:81", after := #[{ on := 7, ground := Ground.data }], guard := none },
  { dst := some 130, op := Op.fieldAddr 28 (Operand.tmp 1) 8, type := 0, pos := "ref.go:81", after := #[], guard := none },
  { dst := some 131, op := Op.load 9 (Operand.tmp 130), type := 9, pos := "ref.go:81", after := #[{ on := 9, ground := Ground.data }], guard := none },
  { dst := some 132, op := Op.call { callee := Callee.value (Operand.func 30), args := #[Operand.tmp 131, Operand.const (Value.int IntKind.i64 32)], argTypes := #[9, 3] }, type := 9, pos := "ref.go:81", after := #[{ on := 10, ground := Ground.data }, { on := 6, ground := Ground.chain }], guard := none },
  { dst := some 133, op := Op.binOp BinOp.add 9 (Operand.tmp 129) (Operand.tmp 132) 9, type := 9, pos := "ref.go:81", after := #[{ on := 8, ground := Ground.data }, { on := 11, ground := Ground.data }], guard := none },
  { dst := some 134, op := Op.fieldAddr 28 (Operand.tmp 1) 9, type := 0, pos := "ref.go:81", after := #[], guard := none },
  { dst := some 135, op := Op.load 9 (Operand.tmp 134), type := 9, pos := "ref.go:81", after := #[{ on := 13, ground := Ground.data }], guard := none },
  { dst := some 136, op := Op.call { callee := Callee.value (Operand.func 30), args := #[Operand.tmp 135, Operand.const (Value.int IntKind.i64 32)], argTypes := #[9, 3] }, type := 9, pos := "ref.go:81", after := #[{ on := 14, ground := Ground.data }, { on := 11, ground := Ground.chain }], guard := none },
  { dst := some 137, op := Op.binOp BinOp.add 9 (Operand.tmp 133) (Operand.tmp 136) 9, type := 9, pos := "ref.go:81", after := #[{ on := 12, ground := Ground.data }, { on := 15, ground := Ground.data }], guard := none },
  { dst := some 138, op := Op.fieldAddr 28 (Operand.tmp 1) 10, type := 0, pos := "ref.go:81", after := #[], guard := none },
  { dst := some 139, op := Op.load 2 (Operand.tmp 138), type := 2, pos := "ref.go:81", after := #[{ on := 17, ground := Ground.data }], guard := none },
  { dst := some 140, op := Op.call { callee := Callee.value (Operand.func 31), args := #[Operand.tmp 139, Operand.const (Value.int IntKind.i64 7)], argTypes := #[2, 3] }, type := 9, pos := "ref.go:81", after := #[{ on := 18, ground := Ground.data }, { on := 15, ground := Ground.chain }], guard := none },
  { dst := some 141, op := Op.binOp BinOp.add 9 (Operand.tmp 137) (Operand.tmp 140) 9, type := 9, pos := "ref.go:81", after := #[{ on := 16, ground := Ground.data }, { on := 19, ground := Ground.data }], guard := none },
  { dst := some 142, op := Op.binOp BinOp.add 9 (Operand.tmp 141) (Operand.const (Value.string { data := #[0] })) 9, type := 9, pos := "ref.go:81", after := #[{ on := 20, ground := Ground.data }], guard := none },
  { dst := some 143, op := Op.fieldAddr 28 (Operand.tmp 1) 11, type := 0, pos := "ref.go:81", after := #[], guard := none },
  { dst := some 144, op := Op.load 2 (Operand.tmp 143), type := 2, pos := "ref.go:81", after := #[{ on := 22, ground := Ground.data }], guard := none },
  { dst := some 145, op := Op.call { callee := Callee.value (Operand.func 31), args := #[Operand.tmp 144, Operand.const (Value.int IntKind.i64 7)], argTypes := #[2, 3] }, type := 9, pos := "ref.go:81", after := #[{ on := 23, ground := Ground.data }, { on := 19, ground := Ground.chain }], guard := none },
  { dst := some 146, op := Op.binOp BinOp.add 9 (Operand.tmp 142) (Operand.tmp 145) 9, type := 9, pos := "ref.go:81", after := #[{ on := 21, ground := Ground.data }, { on := 24, ground := Ground.data }], guard := none },
  { dst := some 147, op := Op.binOp BinOp.add 9 (Operand.tmp 146) (Operand.const (Value.string { data := #[0] })) 9, type := 9, pos := "ref.go:81", after := #[{ on := 25, ground := Ground.data }], guard := none },
  { dst := some 148, op := Op.move (Operand.tmp 4), type := 9, pos := "ref.go:81", after := #[], guard := none },
  { dst := some 149, op := Op.call { callee := Callee.value (Operand.func 30), args := #[Operand.tmp 148, Operand.const (Value.int IntKind.i64 155)], argTypes := #[9, 3] }, type := 9, pos := "ref.go:81", after := #[{ on := 27, ground := Ground.data }, { on := 24, ground := Ground.chain }], guard := none },
  { dst := some 150, op := Op.binOp BinOp.add 9 (Operand.tmp 147) (Operand.tmp 149) 9, type := 9, pos := "ref.go:81", after := #[{ on := 26, ground := Ground.data }, { on := 28, ground := Ground.data }], guard := none },
  { dst := some 151, op := Op.call { callee := Callee.value (Operand.func 30), args := #[Operand.const (Value.string { data := #[] }), Operand.const (Value.int IntKind.i64 12)], argTypes := #[9, 3] }, type := 9, pos := "ref.go:81", after := #[{ on := 28, ground := Ground.chain }], guard := none },
  { dst := some 152, op := Op.binOp BinOp.add 9 (Operand.tmp 150) (Operand.tmp 151) 9, type := 9, pos := "ref.go:81", after := #[{ on := 29, ground := Ground.data }, { on := 30, ground := Ground.data }], guard := none },
  { dst := some 8, op := Op.assign (Operand.tmp 152), type := 9, pos := "ref.go:81", after := #[{ on := 31, ground := Ground.data }, { on := 30, ground := Ground.chain }, { on := 0, ground := Ground.phase }, { on := 1, ground := Ground.phase }, { on := 2, ground := Ground.phase }, { on := 3, ground := Ground.phase }, { on := 4, ground := Ground.phase }, { on := 5, ground := Ground.phase }, { on := 6, ground := Ground.phase }, { on := 7, ground := Ground.phase }, { on := 8, ground := Ground.phase }, { on := 9, ground := Ground.phase }, { on := 10, ground := Ground.phase }, { on := 11, ground := Ground.phase }, { on := 12, ground := Ground.phase }, { on := 13, ground := Ground.phase }, { on := 14, ground := Ground.phase }, { on := 15, ground := Ground.phase }, { on := 16, ground := Ground.phase }, { on := 17, ground := Ground.phase }, { on := 18, ground := Ground.phase }, { on := 19, ground := Ground.phase }, { on := 20, ground := Ground.phase }, { on := 21, ground := Ground.phase }, { on := 22, ground := Ground.phase }, { on := 23, ground := Ground.phase }, { on := 24, ground := Ground.phase }, { on := 25, ground := Ground.phase }, { on := 26, ground := Ground.phase }, { on := 27, ground := Ground.phase }, { on := 28, ground := Ground.phase }, { on := 29, ground := Ground.phase }, { on := 30, ground := Ground.phase }, { on := 31, ground := Ground.phase }], guard := none }]
def ds11 : List Nat := [121, 122, 123, 124, 125, 126, 127, 128, 129, 130, 131, 132, 133, 134, 135, 136, 137, 138, 139, 140, 141, 142, 143, 144, 145, 146, 147, 148, 149, 150, 151, 152, 8]
theorem nd11 : ds11.Nodup := by decide
def vs11 (h : Hd) (b : Nat) (T1 PF F1 F2 F3 F4 F5 O5 O6 : ByteArray) (g : Nat) : List Value := [
  .pointer (some ⟨b, 6, none⟩),
  .int .u8 h.typ.toNat,
  .slice (some ⟨g, 0, none⟩) 1 1,
  .string T1,
  .pointer (some ⟨b, 7, none⟩),
  .string h.link,
  .string F1,
  .string (T1 ++ F1),
  .string (T1 ++ F1 ++ ⟨#[117, 115, 116, 97, 114, 0, 48, 48]⟩),
  .pointer (some ⟨b, 8, none⟩),
  .string h.user,
  .string F2,
  .string (T1 ++ F1 ++ ⟨#[117, 115, 116, 97, 114, 0, 48, 48]⟩ ++ F2),
  .pointer (some ⟨b, 9, none⟩),
  .string h.group,
  .string F3,
  .string (T1 ++ F1 ++ ⟨#[117, 115, 116, 97, 114, 0, 48, 48]⟩ ++ F2 ++ F3),
  .pointer (some ⟨b, 10, none⟩),
  .int .i64 h.major,
  .string O5,
  .string (T1 ++ F1 ++ ⟨#[117, 115, 116, 97, 114, 0, 48, 48]⟩ ++ F2 ++ F3 ++ O5),
  .string (T1 ++ F1 ++ ⟨#[117, 115, 116, 97, 114, 0, 48, 48]⟩ ++ F2 ++ F3 ++ O5 ++ ⟨#[0]⟩),
  .pointer (some ⟨b, 11, none⟩),
  .int .i64 h.minor,
  .string O6,
  .string (T1 ++ F1 ++ ⟨#[117, 115, 116, 97, 114, 0, 48, 48]⟩ ++ F2 ++ F3 ++ O5 ++ ⟨#[0]⟩ ++ O6),
  .string (T1 ++ F1 ++ ⟨#[117, 115, 116, 97, 114, 0, 48, 48]⟩ ++ F2 ++ F3 ++ O5 ++ ⟨#[0]⟩ ++ O6 ++ ⟨#[0]⟩),
  .string PF,
  .string F4,
  .string (T1 ++ F1 ++ ⟨#[117, 115, 116, 97, 114, 0, 48, 48]⟩ ++ F2 ++ F3 ++ O5 ++ ⟨#[0]⟩ ++ O6 ++ ⟨#[0]⟩ ++ F4),
  .string F5,
  .string (T1 ++ F1 ++ ⟨#[117, 115, 116, 97, 114, 0, 48, 48]⟩ ++ F2 ++ F3 ++ O5 ++ ⟨#[0]⟩ ++ O6 ++ ⟨#[0]⟩ ++ F4 ++ F5),
  .string (T1 ++ F1 ++ ⟨#[117, 115, 116, 97, 114, 0, 48, 48]⟩ ++ F2 ++ F3 ++ O5 ++ ⟨#[0]⟩ ++ O6 ++ ⟨#[0]⟩ ++ F4 ++ F5)]
theorem after11 : ∀ (i : Nat) (o : Oper), ops11[i]? = some o → ∀ e ∈ o.after, e.on < i := by
  intro i o ho e he
  have hi : i < 33 := by
    have := (Array.getElem?_eq_some_iff.1 ho).1
    exact this
  have key : (ops11.toList.zipIdx.all fun p => p.1.after.all fun e => e.on < p.2) = true := by kernel_rfl
  rw [List.all_eq_true] at key
  have hm : (o, i) ∈ ops11.toList.zipIdx := by
    rw [List.mem_zipIdx_iff_getElem?, Array.getElem?_toList]; exact ho
  have := key _ hm
  rw [Array.all_eq_true_iff_forall_mem] at this
  exact of_decide_eq_true (this e he)

structure St11 (h : Hd) (b : Nat) (T1 PF F1 F2 F3 F4 F5 O5 O6 : ByteArray) (w : World) (a0 : Act) (listed : Array Bool) (a : Act) (W : World) : Prop where
  sz : listed.size = 33
  ex : ∃ g, Net a0 ds11 (vs11 h b T1 PF F1 F2 F3 F4 F5 O5 O6 g) listed a ∧ (listed.getD 2 false = true → W.cell? ⟨g, 0, none⟩ = some (.int .u8 h.typ.toNat))
  hd : HdAt W b h
  bl : Below w.heap.size w W
theorem St11.step {h : Hd} {b : Nat} {T1 PF F1 F2 F3 F4 F5 O5 O6 : ByteArray} {w : World} {a0 : Act} {listed : Array Bool} {a : Act} {W W2 : World} {g i d : Nat} {v : Value}
    (sz : listed.size = 33) (N : Net a0 ds11 (vs11 h b T1 PF F1 F2 F3 F4 F5 O5 O6 g) listed a) (hc : listed.getD 2 false = true → W.cell? ⟨g, 0, none⟩ = some (.int .u8 h.typ.toNat)) (hd : HdAt W b h) (bl : Below w.heap.size w W)
    (hb : a0.tmps.size = 165) (h2 : i ≠ 2) (hdi : ds11[i]? = some d) (hlt : d < 165) (hv : (vs11 h b T1 PF F1 F2 F3 F4 F5 O5 O6 g)[i]? = some v) (k : Below W.heap.size W W2) :
    St11 h b T1 PF F1 F2 F3 F4 F5 O5 O6 w a0 (listed.setIfInBounds i true) (a.put (some d) v) W2 :=
  ⟨by rw [Array.size_setIfInBounds]; exact sz, ⟨g, N.put nd11 hdi hv (by rw [hb]; exact hlt), fun hl => by
    rw [getD_set_ne false h2] at hl
    have := hc hl
    exact (k.cell (p := ⟨g, 0, none⟩) (World.block_lt_of_cell? W _ this)).trans this⟩, hd.below k, below_join bl k⟩

set_option maxRecDepth 100000 in
theorem st11_0 {Q : Exit → Act → World → Prop} (h : Hd) (b : Nat) (T1 PF F1 F2 F3 F4 F5 O5 O6 : ByteArray) {w : World} {a0 : Act} {listed : Array Bool} {a : Act} {W : World} (x : St11 h b T1 PF F1 F2 F3 F4 F5 O5 O6 w a0 listed a W) (hb : a0.tmps.size = 165) (t1 : a0.tmps[1]? = some (.pointer (some ⟨b, 0, none⟩))) :
    wpOp Tryz.prog ops11 Q 0 (fun a' w' => St11 h b T1 PF F1 F2 F3 F4 F5 O5 O6 w a0 (listed.setIfInBounds 0 true) a' w') a W := by
  obtain ⟨sz, ⟨g, N, hc⟩, hd, bl⟩ := x
  have e1 : a.tmps[1]? = some (.pointer (some ⟨b, 0, none⟩)) := (N.same 1 (by decide)).trans t1
  refine wpOp_step (o := { dst := some 121, op := Op.fieldAddr 28 (Operand.tmp 1) 6, type := 0, pos := "ref.go:81", after := #[], guard := none }) rfl (fun K hK => ?_)
  have HK : Hid (K (a.put (some 121) (.pointer (some ⟨b, 6, none⟩))) W) := hK _ _ (St11.step sz N hc hd bl hb (by decide) (i := 0) (d := 121) rfl (by decide) rfl (Below.refl _ W))
  clear hK hc N hd bl
  go_simp
  exact HK.out
set_option maxRecDepth 100000 in
theorem st11_1 {Q : Exit → Act → World → Prop} (h : Hd) (b : Nat) (T1 PF F1 F2 F3 F4 F5 O5 O6 : ByteArray) {w : World} {a0 : Act} {listed : Array Bool} {a : Act} {W : World} (x : St11 h b T1 PF F1 F2 F3 F4 F5 O5 O6 w a0 listed a W) (hb : a0.tmps.size = 165) (d0 : listed.getD 0 false = true) :
    wpOp Tryz.prog ops11 Q 1 (fun a' w' => St11 h b T1 PF F1 F2 F3 F4 F5 O5 O6 w a0 (listed.setIfInBounds 1 true) a' w') a W := by
  obtain ⟨sz, ⟨g, N, hc⟩, hd, bl⟩ := x
  have e121 : a.tmps[121]? = some (.pointer (some ⟨b, 6, none⟩)) := N.at 0 121 rfl rfl d0
  have hcell : W.cell? ⟨b, 6, none⟩ = some (.int .u8 h.typ.toNat) := hd.lies.cell rfl
  refine wpOp_step (o := { dst := some 122, op := Op.load 5 (Operand.tmp 121), type := 5, pos := "ref.go:81", after := #[{ on := 0, ground := Ground.data }], guard := none }) rfl (fun K hK => ?_)
  have HK : Hid (K (a.put (some 122) (.int .u8 h.typ.toNat)) W) := hK _ _ (St11.step sz N hc hd bl hb (by decide) (i := 1) (d := 122) rfl (by decide) rfl (Below.refl _ W))
  clear hK hc N hd bl
  go_simp
  exact HK.out
set_option maxRecDepth 100000 in
theorem st11_2 {Q : Exit → Act → World → Prop} (h : Hd) (b : Nat) (T1 PF F1 F2 F3 F4 F5 O5 O6 : ByteArray) {w : World} {a0 : Act} {listed : Array Bool} {a : Act} {W : World} (x : St11 h b T1 PF F1 F2 F3 F4 F5 O5 O6 w a0 listed a W) (hb : a0.tmps.size = 165) (hl : listed.getD 2 true = false) (d1 : listed.getD 1 false = true) :
    wpOp Tryz.prog ops11 Q 2 (fun a' w' => St11 h b T1 PF F1 F2 F3 F4 F5 O5 O6 w a0 (listed.setIfInBounds 2 true) a' w') a W := by
  obtain ⟨sz, ⟨g, N, hc⟩, hd, bl⟩ := x
  have e122 : a.tmps[122]? = some (.int .u8 h.typ.toNat) := N.at 1 122 rfl rfl d1
  refine wpOp_step (o := { dst := some 123, op := Op.buildSlice 44 1 #[(0, Operand.tmp 122)], type := 44, pos := "ref.go:81", after := #[{ on := 1, ground := Ground.data }], guard := none }) rfl (fun K hK => ?_)
  have HK : Hid (K (a.put (some 123) (.slice (some ⟨W.heap.size, 0, none⟩) 1 1)) (W.alloc (.cells #[.int .u8 h.typ.toNat] 5))) := hK _ _ ⟨by rw [Array.size_setIfInBounds]; exact sz, ⟨W.heap.size, (N.swap (us := vs11 h b T1 PF F1 F2 F3 F4 F5 O5 O6 W.heap.size) (fun j hj => by
      have h2 : j ≠ 2 := fun e => by subst e; rw [Array.getD_eq_getD_getElem?] at hj hl; rw [Array.getElem?_eq_getElem (by omega)] at hj hl; simp at hj hl; rw [hj] at hl; cases hl
      match j with
      | 0 => rfl
      | 1 => rfl
      | 2 => exact absurd rfl h2
      | _ + 3 => rfl)).put nd11 rfl rfl (by rw [hb]; decide), fun _ => (Lies.new W _ _).cell rfl⟩, hd.below ((Below.refl _ W).alloc (Nat.le_refl _) _), below_join bl ((Below.refl _ W).alloc (Nat.le_refl _) _)⟩
  clear hK hc N hd bl
  go_simp
  exact HK.out
set_option maxRecDepth 100000 in
theorem st11_3 {Q : Exit → Act → World → Prop} (h : Hd) (b : Nat) (T1 PF F1 F2 F3 F4 F5 O5 O6 : ByteArray) {w : World} {a0 : Act} {listed : Array Bool} {a : Act} {W : World} (x : St11 h b T1 PF F1 F2 F3 F4 F5 O5 O6 w a0 listed a W) (hb : a0.tmps.size = 165) (hT1 : bs [h.typ] = T1) (d2 : listed.getD 2 false = true) :
    wpOp Tryz.prog ops11 Q 3 (fun a' w' => St11 h b T1 PF F1 F2 F3 F4 F5 O5 O6 w a0 (listed.setIfInBounds 3 true) a' w') a W := by
  obtain ⟨sz, ⟨g, N, hc⟩, hd, bl⟩ := x
  have e123 : a.tmps[123]? = some (.slice (some ⟨g, 0, none⟩) 1 1) := N.at 2 123 rfl rfl d2
  have hcv : (convert 44 9 (.slice (some ⟨g, 0, none⟩) 1 1)).run Tryz.prog W = .ok (.string T1) W := by
    rw [← hT1]
    exact run_convert_bytes_back W 44 9 5 ⟨g, 0, none⟩ 1 [h.typ] Tryz.underlying44 Tryz.underlying5 Tryz.underlying9 (fun j hj => by
      obtain rfl : j = 0 := by simp at hj; exact hj
      exact hc d2)
  refine wpOp_step (o := { dst := some 124, op := Op.convert 44 9 (Operand.tmp 123), type := 9, pos := "ref.go:81", after := #[{ on := 2, ground := Ground.data }], guard := none }) rfl (fun K hK => ?_)
  have HK : Hid (K (a.put (some 124) (.string T1)) W) := hK _ _ (St11.step sz N hc hd bl hb (by decide) (i := 3) (d := 124) rfl (by decide) rfl (Below.refl _ W))
  clear hK hc N hd bl
  go_simp
  exact HK.out
set_option maxRecDepth 100000 in
theorem st11_4 {Q : Exit → Act → World → Prop} (h : Hd) (b : Nat) (T1 PF F1 F2 F3 F4 F5 O5 O6 : ByteArray) {w : World} {a0 : Act} {listed : Array Bool} {a : Act} {W : World} (x : St11 h b T1 PF F1 F2 F3 F4 F5 O5 O6 w a0 listed a W) (hb : a0.tmps.size = 165) (t1 : a0.tmps[1]? = some (.pointer (some ⟨b, 0, none⟩))) :
    wpOp Tryz.prog ops11 Q 4 (fun a' w' => St11 h b T1 PF F1 F2 F3 F4 F5 O5 O6 w a0 (listed.setIfInBounds 4 true) a' w') a W := by
  obtain ⟨sz, ⟨g, N, hc⟩, hd, bl⟩ := x
  have e1 : a.tmps[1]? = some (.pointer (some ⟨b, 0, none⟩)) := (N.same 1 (by decide)).trans t1
  refine wpOp_step (o := { dst := some 125, op := Op.fieldAddr 28 (Operand.tmp 1) 7, type := 0, pos := "ref.go:81", after := #[], guard := none }) rfl (fun K hK => ?_)
  have HK : Hid (K (a.put (some 125) (.pointer (some ⟨b, 7, none⟩))) W) := hK _ _ (St11.step sz N hc hd bl hb (by decide) (i := 4) (d := 125) rfl (by decide) rfl (Below.refl _ W))
  clear hK hc N hd bl
  go_simp
  exact HK.out
set_option maxRecDepth 100000 in
theorem st11_5 {Q : Exit → Act → World → Prop} (h : Hd) (b : Nat) (T1 PF F1 F2 F3 F4 F5 O5 O6 : ByteArray) {w : World} {a0 : Act} {listed : Array Bool} {a : Act} {W : World} (x : St11 h b T1 PF F1 F2 F3 F4 F5 O5 O6 w a0 listed a W) (hb : a0.tmps.size = 165) (d4 : listed.getD 4 false = true) :
    wpOp Tryz.prog ops11 Q 5 (fun a' w' => St11 h b T1 PF F1 F2 F3 F4 F5 O5 O6 w a0 (listed.setIfInBounds 5 true) a' w') a W := by
  obtain ⟨sz, ⟨g, N, hc⟩, hd, bl⟩ := x
  have e125 : a.tmps[125]? = some (.pointer (some ⟨b, 7, none⟩)) := N.at 4 125 rfl rfl d4
  have hcell : W.cell? ⟨b, 7, none⟩ = some (.string h.link) := hd.lies.cell rfl
  refine wpOp_step (o := { dst := some 126, op := Op.load 9 (Operand.tmp 125), type := 9, pos := "ref.go:81", after := #[{ on := 4, ground := Ground.data }], guard := none }) rfl (fun K hK => ?_)
  have HK : Hid (K (a.put (some 126) (.string h.link)) W) := hK _ _ (St11.step sz N hc hd bl hb (by decide) (i := 5) (d := 126) rfl (by decide) rfl (Below.refl _ W))
  clear hK hc N hd bl
  go_simp
  exact HK.out
set_option maxRecDepth 100000 in
theorem st11_6 {Q : Exit → Act → World → Prop} (h : Hd) (b : Nat) (T1 PF F1 F2 F3 F4 F5 O5 O6 : ByteArray) {w : World} {a0 : Act} {listed : Array Bool} {a : Act} {W : World} (x : St11 h b T1 PF F1 F2 F3 F4 F5 O5 O6 w a0 listed a W) (hb : a0.tmps.size = 165) (cF1 : ∀ W, Calls Tryz.prog 30 #[.string h.link, .int .i64 100] W fun e w' => e = .returned (.string F1) ∧ Below W.heap.size W w') (d5 : listed.getD 5 false = true) :
    wpOp Tryz.prog ops11 Q 6 (fun a' w' => St11 h b T1 PF F1 F2 F3 F4 F5 O5 O6 w a0 (listed.setIfInBounds 6 true) a' w') a W := by
  obtain ⟨sz, ⟨g, N, hc⟩, hd, bl⟩ := x
  have e126 : a.tmps[126]? = some (.string h.link) := N.at 5 126 rfl rfl d5
  refine wpOp_step (o := { dst := some 127, op := Op.call { callee := Callee.value (Operand.func 30), args := #[Operand.tmp 126, Operand.const (Value.int IntKind.i64 100)], argTypes := #[9, 3] }, type := 9, pos := "ref.go:81", after := #[{ on := 5, ground := Ground.data }], guard := none }) rfl (fun K hK => ?_)
  have HK : Hid (∀ W2, Below W.heap.size W W2 → K (a.put (some 127) (.string F1)) W2) := fun W2 k => hK _ _ (St11.step sz N hc hd bl hb (by decide) (i := 6) (d := 127) rfl (by decide) rfl k)
  clear hK hc N hd bl
  go_simp
  refine (cF1 W).mono ?_
  rintro e w9 ⟨rfl, b9⟩
  exact HK.out w9 b9
set_option maxRecDepth 100000 in
theorem st11_7 {Q : Exit → Act → World → Prop} (h : Hd) (b : Nat) (T1 PF F1 F2 F3 F4 F5 O5 O6 : ByteArray) {w : World} {a0 : Act} {listed : Array Bool} {a : Act} {W : World} (x : St11 h b T1 PF F1 F2 F3 F4 F5 O5 O6 w a0 listed a W) (hb : a0.tmps.size = 165) (zs : T1.size = 1 ∧ F1.size = 100 ∧ F2.size = 32 ∧ F3.size = 32 ∧ F4.size = 155 ∧ F5.size = 12 ∧ O5.size = 7 ∧ O6.size = 7) (d3 : listed.getD 3 false = true) (d6 : listed.getD 6 false = true) :
    wpOp Tryz.prog ops11 Q 7 (fun a' w' => St11 h b T1 PF F1 F2 F3 F4 F5 O5 O6 w a0 (listed.setIfInBounds 7 true) a' w') a W := by
  obtain ⟨sz, ⟨g, N, hc⟩, hd, bl⟩ := x
  have e124 : a.tmps[124]? = some (.string T1) := N.at 3 124 rfl rfl d3
  have e127 : a.tmps[127]? = some (.string F1) := N.at 6 127 rfl rfl d6
  obtain ⟨z0, z1, z2, z3, z4, z5, z6, z7⟩ := zs
  refine wpOp_step (o := { dst := some 128, op := Op.binOp BinOp.add 9 (Operand.tmp 124) (Operand.tmp 127) 9, type := 9, pos := "ref.go:81", after := #[{ on := 3, ground := Ground.data }, { on := 6, ground := Ground.data }], guard := none }) rfl (fun K hK => ?_)
  have HK : Hid (K (a.put (some 128) (.string (T1 ++ F1))) W) := hK _ _ (St11.step sz N hc hd bl hb (by decide) (i := 7) (d := 128) rfl (by decide) rfl (Below.refl _ W))
  clear hK hc N hd bl
  go_simp
  exact HK.out
set_option maxRecDepth 100000 in
theorem st11_8 {Q : Exit → Act → World → Prop} (h : Hd) (b : Nat) (T1 PF F1 F2 F3 F4 F5 O5 O6 : ByteArray) {w : World} {a0 : Act} {listed : Array Bool} {a : Act} {W : World} (x : St11 h b T1 PF F1 F2 F3 F4 F5 O5 O6 w a0 listed a W) (hb : a0.tmps.size = 165) (zs : T1.size = 1 ∧ F1.size = 100 ∧ F2.size = 32 ∧ F3.size = 32 ∧ F4.size = 155 ∧ F5.size = 12 ∧ O5.size = 7 ∧ O6.size = 7) (d7 : listed.getD 7 false = true) :
    wpOp Tryz.prog ops11 Q 8 (fun a' w' => St11 h b T1 PF F1 F2 F3 F4 F5 O5 O6 w a0 (listed.setIfInBounds 8 true) a' w') a W := by
  obtain ⟨sz, ⟨g, N, hc⟩, hd, bl⟩ := x
  have e128 : a.tmps[128]? = some (.string (T1 ++ F1)) := N.at 7 128 rfl rfl d7
  obtain ⟨z0, z1, z2, z3, z4, z5, z6, z7⟩ := zs
  refine wpOp_step (o := { dst := some 129, op := Op.binOp BinOp.add 9 (Operand.tmp 128) (Operand.const (Value.string { data := #[117, 115, 116, 97, 114, 0, 48, 48] })) 9, type := 9, pos := "ref.go:81", after := #[{ on := 7, ground := Ground.data }], guard := none }) rfl (fun K hK => ?_)
  have HK : Hid (K (a.put (some 129) (.string (T1 ++ F1 ++ ⟨#[117, 115, 116, 97, 114, 0, 48, 48]⟩))) W) := hK _ _ (St11.step sz N hc hd bl hb (by decide) (i := 8) (d := 129) rfl (by decide) rfl (Below.refl _ W))
  clear hK hc N hd bl
  go_simp
  exact HK.out
set_option maxRecDepth 100000 in
theorem st11_9 {Q : Exit → Act → World → Prop} (h : Hd) (b : Nat) (T1 PF F1 F2 F3 F4 F5 O5 O6 : ByteArray) {w : World} {a0 : Act} {listed : Array Bool} {a : Act} {W : World} (x : St11 h b T1 PF F1 F2 F3 F4 F5 O5 O6 w a0 listed a W) (hb : a0.tmps.size = 165) (t1 : a0.tmps[1]? = some (.pointer (some ⟨b, 0, none⟩))) :
    wpOp Tryz.prog ops11 Q 9 (fun a' w' => St11 h b T1 PF F1 F2 F3 F4 F5 O5 O6 w a0 (listed.setIfInBounds 9 true) a' w') a W := by
  obtain ⟨sz, ⟨g, N, hc⟩, hd, bl⟩ := x
  have e1 : a.tmps[1]? = some (.pointer (some ⟨b, 0, none⟩)) := (N.same 1 (by decide)).trans t1
  refine wpOp_step (o := { dst := some 130, op := Op.fieldAddr 28 (Operand.tmp 1) 8, type := 0, pos := "ref.go:81", after := #[], guard := none }) rfl (fun K hK => ?_)
  have HK : Hid (K (a.put (some 130) (.pointer (some ⟨b, 8, none⟩))) W) := hK _ _ (St11.step sz N hc hd bl hb (by decide) (i := 9) (d := 130) rfl (by decide) rfl (Below.refl _ W))
  clear hK hc N hd bl
  go_simp
  exact HK.out
set_option maxRecDepth 100000 in
theorem st11_10 {Q : Exit → Act → World → Prop} (h : Hd) (b : Nat) (T1 PF F1 F2 F3 F4 F5 O5 O6 : ByteArray) {w : World} {a0 : Act} {listed : Array Bool} {a : Act} {W : World} (x : St11 h b T1 PF F1 F2 F3 F4 F5 O5 O6 w a0 listed a W) (hb : a0.tmps.size = 165) (d9 : listed.getD 9 false = true) :
    wpOp Tryz.prog ops11 Q 10 (fun a' w' => St11 h b T1 PF F1 F2 F3 F4 F5 O5 O6 w a0 (listed.setIfInBounds 10 true) a' w') a W := by
  obtain ⟨sz, ⟨g, N, hc⟩, hd, bl⟩ := x
  have e130 : a.tmps[130]? = some (.pointer (some ⟨b, 8, none⟩)) := N.at 9 130 rfl rfl d9
  have hcell : W.cell? ⟨b, 8, none⟩ = some (.string h.user) := hd.lies.cell rfl
  refine wpOp_step (o := { dst := some 131, op := Op.load 9 (Operand.tmp 130), type := 9, pos := "ref.go:81", after := #[{ on := 9, ground := Ground.data }], guard := none }) rfl (fun K hK => ?_)
  have HK : Hid (K (a.put (some 131) (.string h.user)) W) := hK _ _ (St11.step sz N hc hd bl hb (by decide) (i := 10) (d := 131) rfl (by decide) rfl (Below.refl _ W))
  clear hK hc N hd bl
  go_simp
  exact HK.out
set_option maxRecDepth 100000 in
theorem st11_11 {Q : Exit → Act → World → Prop} (h : Hd) (b : Nat) (T1 PF F1 F2 F3 F4 F5 O5 O6 : ByteArray) {w : World} {a0 : Act} {listed : Array Bool} {a : Act} {W : World} (x : St11 h b T1 PF F1 F2 F3 F4 F5 O5 O6 w a0 listed a W) (hb : a0.tmps.size = 165) (cF2 : ∀ W, Calls Tryz.prog 30 #[.string h.user, .int .i64 32] W fun e w' => e = .returned (.string F2) ∧ Below W.heap.size W w') (d10 : listed.getD 10 false = true) :
    wpOp Tryz.prog ops11 Q 11 (fun a' w' => St11 h b T1 PF F1 F2 F3 F4 F5 O5 O6 w a0 (listed.setIfInBounds 11 true) a' w') a W := by
  obtain ⟨sz, ⟨g, N, hc⟩, hd, bl⟩ := x
  have e131 : a.tmps[131]? = some (.string h.user) := N.at 10 131 rfl rfl d10
  refine wpOp_step (o := { dst := some 132, op := Op.call { callee := Callee.value (Operand.func 30), args := #[Operand.tmp 131, Operand.const (Value.int IntKind.i64 32)], argTypes := #[9, 3] }, type := 9, pos := "ref.go:81", after := #[{ on := 10, ground := Ground.data }, { on := 6, ground := Ground.chain }], guard := none }) rfl (fun K hK => ?_)
  have HK : Hid (∀ W2, Below W.heap.size W W2 → K (a.put (some 132) (.string F2)) W2) := fun W2 k => hK _ _ (St11.step sz N hc hd bl hb (by decide) (i := 11) (d := 132) rfl (by decide) rfl k)
  clear hK hc N hd bl
  go_simp
  refine (cF2 W).mono ?_
  rintro e w9 ⟨rfl, b9⟩
  exact HK.out w9 b9
set_option maxRecDepth 100000 in
theorem st11_12 {Q : Exit → Act → World → Prop} (h : Hd) (b : Nat) (T1 PF F1 F2 F3 F4 F5 O5 O6 : ByteArray) {w : World} {a0 : Act} {listed : Array Bool} {a : Act} {W : World} (x : St11 h b T1 PF F1 F2 F3 F4 F5 O5 O6 w a0 listed a W) (hb : a0.tmps.size = 165) (zs : T1.size = 1 ∧ F1.size = 100 ∧ F2.size = 32 ∧ F3.size = 32 ∧ F4.size = 155 ∧ F5.size = 12 ∧ O5.size = 7 ∧ O6.size = 7) (d8 : listed.getD 8 false = true) (d11 : listed.getD 11 false = true) :
    wpOp Tryz.prog ops11 Q 12 (fun a' w' => St11 h b T1 PF F1 F2 F3 F4 F5 O5 O6 w a0 (listed.setIfInBounds 12 true) a' w') a W := by
  obtain ⟨sz, ⟨g, N, hc⟩, hd, bl⟩ := x
  have e129 : a.tmps[129]? = some (.string (T1 ++ F1 ++ ⟨#[117, 115, 116, 97, 114, 0, 48, 48]⟩)) := N.at 8 129 rfl rfl d8
  have e132 : a.tmps[132]? = some (.string F2) := N.at 11 132 rfl rfl d11
  obtain ⟨z0, z1, z2, z3, z4, z5, z6, z7⟩ := zs
  refine wpOp_step (o := { dst := some 133, op := Op.binOp BinOp.add 9 (Operand.tmp 129) (Operand.tmp 132) 9, type := 9, pos := "ref.go:81", after := #[{ on := 8, ground := Ground.data }, { on := 11, ground := Ground.data }], guard := none }) rfl (fun K hK => ?_)
  have HK : Hid (K (a.put (some 133) (.string (T1 ++ F1 ++ ⟨#[117, 115, 116, 97, 114, 0, 48, 48]⟩ ++ F2))) W) := hK _ _ (St11.step sz N hc hd bl hb (by decide) (i := 12) (d := 133) rfl (by decide) rfl (Below.refl _ W))
  clear hK hc N hd bl
  go_simp
  exact HK.out
set_option maxRecDepth 100000 in
theorem st11_13 {Q : Exit → Act → World → Prop} (h : Hd) (b : Nat) (T1 PF F1 F2 F3 F4 F5 O5 O6 : ByteArray) {w : World} {a0 : Act} {listed : Array Bool} {a : Act} {W : World} (x : St11 h b T1 PF F1 F2 F3 F4 F5 O5 O6 w a0 listed a W) (hb : a0.tmps.size = 165) (t1 : a0.tmps[1]? = some (.pointer (some ⟨b, 0, none⟩))) :
    wpOp Tryz.prog ops11 Q 13 (fun a' w' => St11 h b T1 PF F1 F2 F3 F4 F5 O5 O6 w a0 (listed.setIfInBounds 13 true) a' w') a W := by
  obtain ⟨sz, ⟨g, N, hc⟩, hd, bl⟩ := x
  have e1 : a.tmps[1]? = some (.pointer (some ⟨b, 0, none⟩)) := (N.same 1 (by decide)).trans t1
  refine wpOp_step (o := { dst := some 134, op := Op.fieldAddr 28 (Operand.tmp 1) 9, type := 0, pos := "ref.go:81", after := #[], guard := none }) rfl (fun K hK => ?_)
  have HK : Hid (K (a.put (some 134) (.pointer (some ⟨b, 9, none⟩))) W) := hK _ _ (St11.step sz N hc hd bl hb (by decide) (i := 13) (d := 134) rfl (by decide) rfl (Below.refl _ W))
  clear hK hc N hd bl
  go_simp
  exact HK.out
set_option maxRecDepth 100000 in
theorem st11_14 {Q : Exit → Act → World → Prop} (h : Hd) (b : Nat) (T1 PF F1 F2 F3 F4 F5 O5 O6 : ByteArray) {w : World} {a0 : Act} {listed : Array Bool} {a : Act} {W : World} (x : St11 h b T1 PF F1 F2 F3 F4 F5 O5 O6 w a0 listed a W) (hb : a0.tmps.size = 165) (d13 : listed.getD 13 false = true) :
    wpOp Tryz.prog ops11 Q 14 (fun a' w' => St11 h b T1 PF F1 F2 F3 F4 F5 O5 O6 w a0 (listed.setIfInBounds 14 true) a' w') a W := by
  obtain ⟨sz, ⟨g, N, hc⟩, hd, bl⟩ := x
  have e134 : a.tmps[134]? = some (.pointer (some ⟨b, 9, none⟩)) := N.at 13 134 rfl rfl d13
  have hcell : W.cell? ⟨b, 9, none⟩ = some (.string h.group) := hd.lies.cell rfl
  refine wpOp_step (o := { dst := some 135, op := Op.load 9 (Operand.tmp 134), type := 9, pos := "ref.go:81", after := #[{ on := 13, ground := Ground.data }], guard := none }) rfl (fun K hK => ?_)
  have HK : Hid (K (a.put (some 135) (.string h.group)) W) := hK _ _ (St11.step sz N hc hd bl hb (by decide) (i := 14) (d := 135) rfl (by decide) rfl (Below.refl _ W))
  clear hK hc N hd bl
  go_simp
  exact HK.out
set_option maxRecDepth 100000 in
theorem st11_15 {Q : Exit → Act → World → Prop} (h : Hd) (b : Nat) (T1 PF F1 F2 F3 F4 F5 O5 O6 : ByteArray) {w : World} {a0 : Act} {listed : Array Bool} {a : Act} {W : World} (x : St11 h b T1 PF F1 F2 F3 F4 F5 O5 O6 w a0 listed a W) (hb : a0.tmps.size = 165) (cF3 : ∀ W, Calls Tryz.prog 30 #[.string h.group, .int .i64 32] W fun e w' => e = .returned (.string F3) ∧ Below W.heap.size W w') (d14 : listed.getD 14 false = true) :
    wpOp Tryz.prog ops11 Q 15 (fun a' w' => St11 h b T1 PF F1 F2 F3 F4 F5 O5 O6 w a0 (listed.setIfInBounds 15 true) a' w') a W := by
  obtain ⟨sz, ⟨g, N, hc⟩, hd, bl⟩ := x
  have e135 : a.tmps[135]? = some (.string h.group) := N.at 14 135 rfl rfl d14
  refine wpOp_step (o := { dst := some 136, op := Op.call { callee := Callee.value (Operand.func 30), args := #[Operand.tmp 135, Operand.const (Value.int IntKind.i64 32)], argTypes := #[9, 3] }, type := 9, pos := "ref.go:81", after := #[{ on := 14, ground := Ground.data }, { on := 11, ground := Ground.chain }], guard := none }) rfl (fun K hK => ?_)
  have HK : Hid (∀ W2, Below W.heap.size W W2 → K (a.put (some 136) (.string F3)) W2) := fun W2 k => hK _ _ (St11.step sz N hc hd bl hb (by decide) (i := 15) (d := 136) rfl (by decide) rfl k)
  clear hK hc N hd bl
  go_simp
  refine (cF3 W).mono ?_
  rintro e w9 ⟨rfl, b9⟩
  exact HK.out w9 b9
set_option maxRecDepth 100000 in
theorem st11_16 {Q : Exit → Act → World → Prop} (h : Hd) (b : Nat) (T1 PF F1 F2 F3 F4 F5 O5 O6 : ByteArray) {w : World} {a0 : Act} {listed : Array Bool} {a : Act} {W : World} (x : St11 h b T1 PF F1 F2 F3 F4 F5 O5 O6 w a0 listed a W) (hb : a0.tmps.size = 165) (zs : T1.size = 1 ∧ F1.size = 100 ∧ F2.size = 32 ∧ F3.size = 32 ∧ F4.size = 155 ∧ F5.size = 12 ∧ O5.size = 7 ∧ O6.size = 7) (d12 : listed.getD 12 false = true) (d15 : listed.getD 15 false = true) :
    wpOp Tryz.prog ops11 Q 16 (fun a' w' => St11 h b T1 PF F1 F2 F3 F4 F5 O5 O6 w a0 (listed.setIfInBounds 16 true) a' w') a W := by
  obtain ⟨sz, ⟨g, N, hc⟩, hd, bl⟩ := x
  have e133 : a.tmps[133]? = some (.string (T1 ++ F1 ++ ⟨#[117, 115, 116, 97, 114, 0, 48, 48]⟩ ++ F2)) := N.at 12 133 rfl rfl d12
  have e136 : a.tmps[136]? = some (.string F3) := N.at 15 136 rfl rfl d15
  obtain ⟨z0, z1, z2, z3, z4, z5, z6, z7⟩ := zs
  refine wpOp_step (o := { dst := some 137, op := Op.binOp BinOp.add 9 (Operand.tmp 133) (Operand.tmp 136) 9, type := 9, pos := "ref.go:81", after := #[{ on := 12, ground := Ground.data }, { on := 15, ground := Ground.data }], guard := none }) rfl (fun K hK => ?_)
  have HK : Hid (K (a.put (some 137) (.string (T1 ++ F1 ++ ⟨#[117, 115, 116, 97, 114, 0, 48, 48]⟩ ++ F2 ++ F3))) W) := hK _ _ (St11.step sz N hc hd bl hb (by decide) (i := 16) (d := 137) rfl (by decide) rfl (Below.refl _ W))
  clear hK hc N hd bl
  go_simp
  exact HK.out
set_option maxRecDepth 100000 in
theorem st11_17 {Q : Exit → Act → World → Prop} (h : Hd) (b : Nat) (T1 PF F1 F2 F3 F4 F5 O5 O6 : ByteArray) {w : World} {a0 : Act} {listed : Array Bool} {a : Act} {W : World} (x : St11 h b T1 PF F1 F2 F3 F4 F5 O5 O6 w a0 listed a W) (hb : a0.tmps.size = 165) (t1 : a0.tmps[1]? = some (.pointer (some ⟨b, 0, none⟩))) :
    wpOp Tryz.prog ops11 Q 17 (fun a' w' => St11 h b T1 PF F1 F2 F3 F4 F5 O5 O6 w a0 (listed.setIfInBounds 17 true) a' w') a W := by
  obtain ⟨sz, ⟨g, N, hc⟩, hd, bl⟩ := x
  have e1 : a.tmps[1]? = some (.pointer (some ⟨b, 0, none⟩)) := (N.same 1 (by decide)).trans t1
  refine wpOp_step (o := { dst := some 138, op := Op.fieldAddr 28 (Operand.tmp 1) 10, type := 0, pos := "ref.go:81", after := #[], guard := none }) rfl (fun K hK => ?_)
  have HK : Hid (K (a.put (some 138) (.pointer (some ⟨b, 10, none⟩))) W) := hK _ _ (St11.step sz N hc hd bl hb (by decide) (i := 17) (d := 138) rfl (by decide) rfl (Below.refl _ W))
  clear hK hc N hd bl
  go_simp
  exact HK.out
set_option maxRecDepth 100000 in
theorem st11_18 {Q : Exit → Act → World → Prop} (h : Hd) (b : Nat) (T1 PF F1 F2 F3 F4 F5 O5 O6 : ByteArray) {w : World} {a0 : Act} {listed : Array Bool} {a : Act} {W : World} (x : St11 h b T1 PF F1 F2 F3 F4 F5 O5 O6 w a0 listed a W) (hb : a0.tmps.size = 165) (d17 : listed.getD 17 false = true) :
    wpOp Tryz.prog ops11 Q 18 (fun a' w' => St11 h b T1 PF F1 F2 F3 F4 F5 O5 O6 w a0 (listed.setIfInBounds 18 true) a' w') a W := by
  obtain ⟨sz, ⟨g, N, hc⟩, hd, bl⟩ := x
  have e138 : a.tmps[138]? = some (.pointer (some ⟨b, 10, none⟩)) := N.at 17 138 rfl rfl d17
  have hcell : W.cell? ⟨b, 10, none⟩ = some (.int .i64 h.major) := hd.lies.cell rfl
  refine wpOp_step (o := { dst := some 139, op := Op.load 2 (Operand.tmp 138), type := 2, pos := "ref.go:81", after := #[{ on := 17, ground := Ground.data }], guard := none }) rfl (fun K hK => ?_)
  have HK : Hid (K (a.put (some 139) (.int .i64 h.major)) W) := hK _ _ (St11.step sz N hc hd bl hb (by decide) (i := 18) (d := 139) rfl (by decide) rfl (Below.refl _ W))
  clear hK hc N hd bl
  go_simp
  exact HK.out
set_option maxRecDepth 100000 in
theorem st11_19 {Q : Exit → Act → World → Prop} (h : Hd) (b : Nat) (T1 PF F1 F2 F3 F4 F5 O5 O6 : ByteArray) {w : World} {a0 : Act} {listed : Array Bool} {a : Act} {W : World} (x : St11 h b T1 PF F1 F2 F3 F4 F5 O5 O6 w a0 listed a W) (hb : a0.tmps.size = 165) (cO5 : ∀ W, Calls Tryz.prog 31 #[.int .i64 h.major, .int .i64 7] W fun e w' => e = .returned (.string O5) ∧ Below W.heap.size W w') (d18 : listed.getD 18 false = true) :
    wpOp Tryz.prog ops11 Q 19 (fun a' w' => St11 h b T1 PF F1 F2 F3 F4 F5 O5 O6 w a0 (listed.setIfInBounds 19 true) a' w') a W := by
  obtain ⟨sz, ⟨g, N, hc⟩, hd, bl⟩ := x
  have e139 : a.tmps[139]? = some (.int .i64 h.major) := N.at 18 139 rfl rfl d18
  refine wpOp_step (o := { dst := some 140, op := Op.call { callee := Callee.value (Operand.func 31), args := #[Operand.tmp 139, Operand.const (Value.int IntKind.i64 7)], argTypes := #[2, 3] }, type := 9, pos := "ref.go:81", after := #[{ on := 18, ground := Ground.data }, { on := 15, ground := Ground.chain }], guard := none }) rfl (fun K hK => ?_)
  have HK : Hid (∀ W2, Below W.heap.size W W2 → K (a.put (some 140) (.string O5)) W2) := fun W2 k => hK _ _ (St11.step sz N hc hd bl hb (by decide) (i := 19) (d := 140) rfl (by decide) rfl k)
  clear hK hc N hd bl
  go_simp
  refine (cO5 W).mono ?_
  rintro e w9 ⟨rfl, b9⟩
  exact HK.out w9 b9
set_option maxRecDepth 100000 in
theorem st11_20 {Q : Exit → Act → World → Prop} (h : Hd) (b : Nat) (T1 PF F1 F2 F3 F4 F5 O5 O6 : ByteArray) {w : World} {a0 : Act} {listed : Array Bool} {a : Act} {W : World} (x : St11 h b T1 PF F1 F2 F3 F4 F5 O5 O6 w a0 listed a W) (hb : a0.tmps.size = 165) (zs : T1.size = 1 ∧ F1.size = 100 ∧ F2.size = 32 ∧ F3.size = 32 ∧ F4.size = 155 ∧ F5.size = 12 ∧ O5.size = 7 ∧ O6.size = 7) (d16 : listed.getD 16 false = true) (d19 : listed.getD 19 false = true) :
    wpOp Tryz.prog ops11 Q 20 (fun a' w' => St11 h b T1 PF F1 F2 F3 F4 F5 O5 O6 w a0 (listed.setIfInBounds 20 true) a' w') a W := by
  obtain ⟨sz, ⟨g, N, hc⟩, hd, bl⟩ := x
  have e137 : a.tmps[137]? = some (.string (T1 ++ F1 ++ ⟨#[117, 115, 116, 97, 114, 0, 48, 48]⟩ ++ F2 ++ F3)) := N.at 16 137 rfl rfl d16
  have e140 : a.tmps[140]? = some (.string O5) := N.at 19 140 rfl rfl d19
  obtain ⟨z0, z1, z2, z3, z4, z5, z6, z7⟩ := zs
  refine wpOp_step (o := { dst := some 141, op := Op.binOp BinOp.add 9 (Operand.tmp 137) (Operand.tmp 140) 9, type := 9, pos := "ref.go:81", after := #[{ on := 16, ground := Ground.data }, { on := 19, ground := Ground.data }], guard := none }) rfl (fun K hK => ?_)
  have HK : Hid (K (a.put (some 141) (.string (T1 ++ F1 ++ ⟨#[117, 115, 116, 97, 114, 0, 48, 48]⟩ ++ F2 ++ F3 ++ O5))) W) := hK _ _ (St11.step sz N hc hd bl hb (by decide) (i := 20) (d := 141) rfl (by decide) rfl (Below.refl _ W))
  clear hK hc N hd bl
  go_simp
  exact HK.out
set_option maxRecDepth 100000 in
theorem st11_21 {Q : Exit → Act → World → Prop} (h : Hd) (b : Nat) (T1 PF F1 F2 F3 F4 F5 O5 O6 : ByteArray) {w : World} {a0 : Act} {listed : Array Bool} {a : Act} {W : World} (x : St11 h b T1 PF F1 F2 F3 F4 F5 O5 O6 w a0 listed a W) (hb : a0.tmps.size = 165) (zs : T1.size = 1 ∧ F1.size = 100 ∧ F2.size = 32 ∧ F3.size = 32 ∧ F4.size = 155 ∧ F5.size = 12 ∧ O5.size = 7 ∧ O6.size = 7) (d20 : listed.getD 20 false = true) :
    wpOp Tryz.prog ops11 Q 21 (fun a' w' => St11 h b T1 PF F1 F2 F3 F4 F5 O5 O6 w a0 (listed.setIfInBounds 21 true) a' w') a W := by
  obtain ⟨sz, ⟨g, N, hc⟩, hd, bl⟩ := x
  have e141 : a.tmps[141]? = some (.string (T1 ++ F1 ++ ⟨#[117, 115, 116, 97, 114, 0, 48, 48]⟩ ++ F2 ++ F3 ++ O5)) := N.at 20 141 rfl rfl d20
  obtain ⟨z0, z1, z2, z3, z4, z5, z6, z7⟩ := zs
  refine wpOp_step (o := { dst := some 142, op := Op.binOp BinOp.add 9 (Operand.tmp 141) (Operand.const (Value.string { data := #[0] })) 9, type := 9, pos := "ref.go:81", after := #[{ on := 20, ground := Ground.data }], guard := none }) rfl (fun K hK => ?_)
  have HK : Hid (K (a.put (some 142) (.string (T1 ++ F1 ++ ⟨#[117, 115, 116, 97, 114, 0, 48, 48]⟩ ++ F2 ++ F3 ++ O5 ++ ⟨#[0]⟩))) W) := hK _ _ (St11.step sz N hc hd bl hb (by decide) (i := 21) (d := 142) rfl (by decide) rfl (Below.refl _ W))
  clear hK hc N hd bl
  go_simp
  exact HK.out
set_option maxRecDepth 100000 in
theorem st11_22 {Q : Exit → Act → World → Prop} (h : Hd) (b : Nat) (T1 PF F1 F2 F3 F4 F5 O5 O6 : ByteArray) {w : World} {a0 : Act} {listed : Array Bool} {a : Act} {W : World} (x : St11 h b T1 PF F1 F2 F3 F4 F5 O5 O6 w a0 listed a W) (hb : a0.tmps.size = 165) (t1 : a0.tmps[1]? = some (.pointer (some ⟨b, 0, none⟩))) :
    wpOp Tryz.prog ops11 Q 22 (fun a' w' => St11 h b T1 PF F1 F2 F3 F4 F5 O5 O6 w a0 (listed.setIfInBounds 22 true) a' w') a W := by
  obtain ⟨sz, ⟨g, N, hc⟩, hd, bl⟩ := x
  have e1 : a.tmps[1]? = some (.pointer (some ⟨b, 0, none⟩)) := (N.same 1 (by decide)).trans t1
  refine wpOp_step (o := { dst := some 143, op := Op.fieldAddr 28 (Operand.tmp 1) 11, type := 0, pos := "ref.go:81", after := #[], guard := none }) rfl (fun K hK => ?_)
  have HK : Hid (K (a.put (some 143) (.pointer (some ⟨b, 11, none⟩))) W) := hK _ _ (St11.step sz N hc hd bl hb (by decide) (i := 22) (d := 143) rfl (by decide) rfl (Below.refl _ W))
  clear hK hc N hd bl
  go_simp
  exact HK.out
set_option maxRecDepth 100000 in
theorem st11_23 {Q : Exit → Act → World → Prop} (h : Hd) (b : Nat) (T1 PF F1 F2 F3 F4 F5 O5 O6 : ByteArray) {w : World} {a0 : Act} {listed : Array Bool} {a : Act} {W : World} (x : St11 h b T1 PF F1 F2 F3 F4 F5 O5 O6 w a0 listed a W) (hb : a0.tmps.size = 165) (d22 : listed.getD 22 false = true) :
    wpOp Tryz.prog ops11 Q 23 (fun a' w' => St11 h b T1 PF F1 F2 F3 F4 F5 O5 O6 w a0 (listed.setIfInBounds 23 true) a' w') a W := by
  obtain ⟨sz, ⟨g, N, hc⟩, hd, bl⟩ := x
  have e143 : a.tmps[143]? = some (.pointer (some ⟨b, 11, none⟩)) := N.at 22 143 rfl rfl d22
  have hcell : W.cell? ⟨b, 11, none⟩ = some (.int .i64 h.minor) := hd.lies.cell rfl
  refine wpOp_step (o := { dst := some 144, op := Op.load 2 (Operand.tmp 143), type := 2, pos := "ref.go:81", after := #[{ on := 22, ground := Ground.data }], guard := none }) rfl (fun K hK => ?_)
  have HK : Hid (K (a.put (some 144) (.int .i64 h.minor)) W) := hK _ _ (St11.step sz N hc hd bl hb (by decide) (i := 23) (d := 144) rfl (by decide) rfl (Below.refl _ W))
  clear hK hc N hd bl
  go_simp
  exact HK.out
set_option maxRecDepth 100000 in
theorem st11_24 {Q : Exit → Act → World → Prop} (h : Hd) (b : Nat) (T1 PF F1 F2 F3 F4 F5 O5 O6 : ByteArray) {w : World} {a0 : Act} {listed : Array Bool} {a : Act} {W : World} (x : St11 h b T1 PF F1 F2 F3 F4 F5 O5 O6 w a0 listed a W) (hb : a0.tmps.size = 165) (cO6 : ∀ W, Calls Tryz.prog 31 #[.int .i64 h.minor, .int .i64 7] W fun e w' => e = .returned (.string O6) ∧ Below W.heap.size W w') (d23 : listed.getD 23 false = true) :
    wpOp Tryz.prog ops11 Q 24 (fun a' w' => St11 h b T1 PF F1 F2 F3 F4 F5 O5 O6 w a0 (listed.setIfInBounds 24 true) a' w') a W := by
  obtain ⟨sz, ⟨g, N, hc⟩, hd, bl⟩ := x
  have e144 : a.tmps[144]? = some (.int .i64 h.minor) := N.at 23 144 rfl rfl d23
  refine wpOp_step (o := { dst := some 145, op := Op.call { callee := Callee.value (Operand.func 31), args := #[Operand.tmp 144, Operand.const (Value.int IntKind.i64 7)], argTypes := #[2, 3] }, type := 9, pos := "ref.go:81", after := #[{ on := 23, ground := Ground.data }, { on := 19, ground := Ground.chain }], guard := none }) rfl (fun K hK => ?_)
  have HK : Hid (∀ W2, Below W.heap.size W W2 → K (a.put (some 145) (.string O6)) W2) := fun W2 k => hK _ _ (St11.step sz N hc hd bl hb (by decide) (i := 24) (d := 145) rfl (by decide) rfl k)
  clear hK hc N hd bl
  go_simp
  refine (cO6 W).mono ?_
  rintro e w9 ⟨rfl, b9⟩
  exact HK.out w9 b9
set_option maxRecDepth 100000 in
theorem st11_25 {Q : Exit → Act → World → Prop} (h : Hd) (b : Nat) (T1 PF F1 F2 F3 F4 F5 O5 O6 : ByteArray) {w : World} {a0 : Act} {listed : Array Bool} {a : Act} {W : World} (x : St11 h b T1 PF F1 F2 F3 F4 F5 O5 O6 w a0 listed a W) (hb : a0.tmps.size = 165) (zs : T1.size = 1 ∧ F1.size = 100 ∧ F2.size = 32 ∧ F3.size = 32 ∧ F4.size = 155 ∧ F5.size = 12 ∧ O5.size = 7 ∧ O6.size = 7) (d21 : listed.getD 21 false = true) (d24 : listed.getD 24 false = true) :
    wpOp Tryz.prog ops11 Q 25 (fun a' w' => St11 h b T1 PF F1 F2 F3 F4 F5 O5 O6 w a0 (listed.setIfInBounds 25 true) a' w') a W := by
  obtain ⟨sz, ⟨g, N, hc⟩, hd, bl⟩ := x
  have e142 : a.tmps[142]? = some (.string (T1 ++ F1 ++ ⟨#[117, 115, 116, 97, 114, 0, 48, 48]⟩ ++ F2 ++ F3 ++ O5 ++ ⟨#[0]⟩)) := N.at 21 142 rfl rfl d21
  have e145 : a.tmps[145]? = some (.string O6) := N.at 24 145 rfl rfl d24
  obtain ⟨z0, z1, z2, z3, z4, z5, z6, z7⟩ := zs
  refine wpOp_step (o := { dst := some 146, op := Op.binOp BinOp.add 9 (Operand.tmp 142) (Operand.tmp 145) 9, type := 9, pos := "ref.go:81", after := #[{ on := 21, ground := Ground.data }, { on := 24, ground := Ground.data }], guard := none }) rfl (fun K hK => ?_)
  have HK : Hid (K (a.put (some 146) (.string (T1 ++ F1 ++ ⟨#[117, 115, 116, 97, 114, 0, 48, 48]⟩ ++ F2 ++ F3 ++ O5 ++ ⟨#[0]⟩ ++ O6))) W) := hK _ _ (St11.step sz N hc hd bl hb (by decide) (i := 25) (d := 146) rfl (by decide) rfl (Below.refl _ W))
  clear hK hc N hd bl
  go_simp
  exact HK.out
set_option maxRecDepth 100000 in
theorem st11_26 {Q : Exit → Act → World → Prop} (h : Hd) (b : Nat) (T1 PF F1 F2 F3 F4 F5 O5 O6 : ByteArray) {w : World} {a0 : Act} {listed : Array Bool} {a : Act} {W : World} (x : St11 h b T1 PF F1 F2 F3 F4 F5 O5 O6 w a0 listed a W) (hb : a0.tmps.size = 165) (zs : T1.size = 1 ∧ F1.size = 100 ∧ F2.size = 32 ∧ F3.size = 32 ∧ F4.size = 155 ∧ F5.size = 12 ∧ O5.size = 7 ∧ O6.size = 7) (d25 : listed.getD 25 false = true) :
    wpOp Tryz.prog ops11 Q 26 (fun a' w' => St11 h b T1 PF F1 F2 F3 F4 F5 O5 O6 w a0 (listed.setIfInBounds 26 true) a' w') a W := by
  obtain ⟨sz, ⟨g, N, hc⟩, hd, bl⟩ := x
  have e146 : a.tmps[146]? = some (.string (T1 ++ F1 ++ ⟨#[117, 115, 116, 97, 114, 0, 48, 48]⟩ ++ F2 ++ F3 ++ O5 ++ ⟨#[0]⟩ ++ O6)) := N.at 25 146 rfl rfl d25
  obtain ⟨z0, z1, z2, z3, z4, z5, z6, z7⟩ := zs
  refine wpOp_step (o := { dst := some 147, op := Op.binOp BinOp.add 9 (Operand.tmp 146) (Operand.const (Value.string { data := #[0] })) 9, type := 9, pos := "ref.go:81", after := #[{ on := 25, ground := Ground.data }], guard := none }) rfl (fun K hK => ?_)
  have HK : Hid (K (a.put (some 147) (.string (T1 ++ F1 ++ ⟨#[117, 115, 116, 97, 114, 0, 48, 48]⟩ ++ F2 ++ F3 ++ O5 ++ ⟨#[0]⟩ ++ O6 ++ ⟨#[0]⟩))) W) := hK _ _ (St11.step sz N hc hd bl hb (by decide) (i := 26) (d := 147) rfl (by decide) rfl (Below.refl _ W))
  clear hK hc N hd bl
  go_simp
  exact HK.out
set_option maxRecDepth 100000 in
theorem st11_27 {Q : Exit → Act → World → Prop} (h : Hd) (b : Nat) (T1 PF F1 F2 F3 F4 F5 O5 O6 : ByteArray) {w : World} {a0 : Act} {listed : Array Bool} {a : Act} {W : World} (x : St11 h b T1 PF F1 F2 F3 F4 F5 O5 O6 w a0 listed a W) (hb : a0.tmps.size = 165) (t4 : a0.tmps[4]? = some (.string PF)) :
    wpOp Tryz.prog ops11 Q 27 (fun a' w' => St11 h b T1 PF F1 F2 F3 F4 F5 O5 O6 w a0 (listed.setIfInBounds 27 true) a' w') a W := by
  obtain ⟨sz, ⟨g, N, hc⟩, hd, bl⟩ := x
  have e4 : a.tmps[4]? = some (.string PF) := (N.same 4 (by decide)).trans t4
  refine wpOp_step (o := { dst := some 148, op := Op.move (Operand.tmp 4), type := 9, pos := "ref.go:81", after := #[], guard := none }) rfl (fun K hK => ?_)
  have HK : Hid (K (a.put (some 148) (.string PF)) W) := hK _ _ (St11.step sz N hc hd bl hb (by decide) (i := 27) (d := 148) rfl (by decide) rfl (Below.refl _ W))
  clear hK hc N hd bl
  go_simp
  exact HK.out
set_option maxRecDepth 100000 in
theorem st11_28 {Q : Exit → Act → World → Prop} (h : Hd) (b : Nat) (T1 PF F1 F2 F3 F4 F5 O5 O6 : ByteArray) {w : World} {a0 : Act} {listed : Array Bool} {a : Act} {W : World} (x : St11 h b T1 PF F1 F2 F3 F4 F5 O5 O6 w a0 listed a W) (hb : a0.tmps.size = 165) (cF4 : ∀ W, Calls Tryz.prog 30 #[.string PF, .int .i64 155] W fun e w' => e = .returned (.string F4) ∧ Below W.heap.size W w') (d27 : listed.getD 27 false = true) :
    wpOp Tryz.prog ops11 Q 28 (fun a' w' => St11 h b T1 PF F1 F2 F3 F4 F5 O5 O6 w a0 (listed.setIfInBounds 28 true) a' w') a W := by
  obtain ⟨sz, ⟨g, N, hc⟩, hd, bl⟩ := x
  have e148 : a.tmps[148]? = some (.string PF) := N.at 27 148 rfl rfl d27
  refine wpOp_step (o := { dst := some 149, op := Op.call { callee := Callee.value (Operand.func 30), args := #[Operand.tmp 148, Operand.const (Value.int IntKind.i64 155)], argTypes := #[9, 3] }, type := 9, pos := "ref.go:81", after := #[{ on := 27, ground := Ground.data }, { on := 24, ground := Ground.chain }], guard := none }) rfl (fun K hK => ?_)
  have HK : Hid (∀ W2, Below W.heap.size W W2 → K (a.put (some 149) (.string F4)) W2) := fun W2 k => hK _ _ (St11.step sz N hc hd bl hb (by decide) (i := 28) (d := 149) rfl (by decide) rfl k)
  clear hK hc N hd bl
  go_simp
  refine (cF4 W).mono ?_
  rintro e w9 ⟨rfl, b9⟩
  exact HK.out w9 b9
set_option maxRecDepth 100000 in
theorem st11_29 {Q : Exit → Act → World → Prop} (h : Hd) (b : Nat) (T1 PF F1 F2 F3 F4 F5 O5 O6 : ByteArray) {w : World} {a0 : Act} {listed : Array Bool} {a : Act} {W : World} (x : St11 h b T1 PF F1 F2 F3 F4 F5 O5 O6 w a0 listed a W) (hb : a0.tmps.size = 165) (zs : T1.size = 1 ∧ F1.size = 100 ∧ F2.size = 32 ∧ F3.size = 32 ∧ F4.size = 155 ∧ F5.size = 12 ∧ O5.size = 7 ∧ O6.size = 7) (d26 : listed.getD 26 false = true) (d28 : listed.getD 28 false = true) :
    wpOp Tryz.prog ops11 Q 29 (fun a' w' => St11 h b T1 PF F1 F2 F3 F4 F5 O5 O6 w a0 (listed.setIfInBounds 29 true) a' w') a W := by
  obtain ⟨sz, ⟨g, N, hc⟩, hd, bl⟩ := x
  have e147 : a.tmps[147]? = some (.string (T1 ++ F1 ++ ⟨#[117, 115, 116, 97, 114, 0, 48, 48]⟩ ++ F2 ++ F3 ++ O5 ++ ⟨#[0]⟩ ++ O6 ++ ⟨#[0]⟩)) := N.at 26 147 rfl rfl d26
  have e149 : a.tmps[149]? = some (.string F4) := N.at 28 149 rfl rfl d28
  obtain ⟨z0, z1, z2, z3, z4, z5, z6, z7⟩ := zs
  refine wpOp_step (o := { dst := some 150, op := Op.binOp BinOp.add 9 (Operand.tmp 147) (Operand.tmp 149) 9, type := 9, pos := "ref.go:81", after := #[{ on := 26, ground := Ground.data }, { on := 28, ground := Ground.data }], guard := none }) rfl (fun K hK => ?_)
  have HK : Hid (K (a.put (some 150) (.string (T1 ++ F1 ++ ⟨#[117, 115, 116, 97, 114, 0, 48, 48]⟩ ++ F2 ++ F3 ++ O5 ++ ⟨#[0]⟩ ++ O6 ++ ⟨#[0]⟩ ++ F4))) W) := hK _ _ (St11.step sz N hc hd bl hb (by decide) (i := 29) (d := 150) rfl (by decide) rfl (Below.refl _ W))
  clear hK hc N hd bl
  go_simp
  exact HK.out
set_option maxRecDepth 100000 in
theorem st11_30 {Q : Exit → Act → World → Prop} (h : Hd) (b : Nat) (T1 PF F1 F2 F3 F4 F5 O5 O6 : ByteArray) {w : World} {a0 : Act} {listed : Array Bool} {a : Act} {W : World} (x : St11 h b T1 PF F1 F2 F3 F4 F5 O5 O6 w a0 listed a W) (hb : a0.tmps.size = 165) (cF5 : ∀ W, Calls Tryz.prog 30 #[.string ⟨#[]⟩, .int .i64 12] W fun e w' => e = .returned (.string F5) ∧ Below W.heap.size W w') :
    wpOp Tryz.prog ops11 Q 30 (fun a' w' => St11 h b T1 PF F1 F2 F3 F4 F5 O5 O6 w a0 (listed.setIfInBounds 30 true) a' w') a W := by
  obtain ⟨sz, ⟨g, N, hc⟩, hd, bl⟩ := x
  refine wpOp_step (o := { dst := some 151, op := Op.call { callee := Callee.value (Operand.func 30), args := #[Operand.const (Value.string { data := #[] }), Operand.const (Value.int IntKind.i64 12)], argTypes := #[9, 3] }, type := 9, pos := "ref.go:81", after := #[{ on := 28, ground := Ground.chain }], guard := none }) rfl (fun K hK => ?_)
  have HK : Hid (∀ W2, Below W.heap.size W W2 → K (a.put (some 151) (.string F5)) W2) := fun W2 k => hK _ _ (St11.step sz N hc hd bl hb (by decide) (i := 30) (d := 151) rfl (by decide) rfl k)
  clear hK hc N hd bl
  go_simp
  refine (cF5 W).mono ?_
  rintro e w9 ⟨rfl, b9⟩
  exact HK.out w9 b9
set_option maxRecDepth 100000 in
theorem st11_31 {Q : Exit → Act → World → Prop} (h : Hd) (b : Nat) (T1 PF F1 F2 F3 F4 F5 O5 O6 : ByteArray) {w : World} {a0 : Act} {listed : Array Bool} {a : Act} {W : World} (x : St11 h b T1 PF F1 F2 F3 F4 F5 O5 O6 w a0 listed a W) (hb : a0.tmps.size = 165) (zs : T1.size = 1 ∧ F1.size = 100 ∧ F2.size = 32 ∧ F3.size = 32 ∧ F4.size = 155 ∧ F5.size = 12 ∧ O5.size = 7 ∧ O6.size = 7) (d29 : listed.getD 29 false = true) (d30 : listed.getD 30 false = true) :
    wpOp Tryz.prog ops11 Q 31 (fun a' w' => St11 h b T1 PF F1 F2 F3 F4 F5 O5 O6 w a0 (listed.setIfInBounds 31 true) a' w') a W := by
  obtain ⟨sz, ⟨g, N, hc⟩, hd, bl⟩ := x
  have e150 : a.tmps[150]? = some (.string (T1 ++ F1 ++ ⟨#[117, 115, 116, 97, 114, 0, 48, 48]⟩ ++ F2 ++ F3 ++ O5 ++ ⟨#[0]⟩ ++ O6 ++ ⟨#[0]⟩ ++ F4)) := N.at 29 150 rfl rfl d29
  have e151 : a.tmps[151]? = some (.string F5) := N.at 30 151 rfl rfl d30
  obtain ⟨z0, z1, z2, z3, z4, z5, z6, z7⟩ := zs
  refine wpOp_step (o := { dst := some 152, op := Op.binOp BinOp.add 9 (Operand.tmp 150) (Operand.tmp 151) 9, type := 9, pos := "ref.go:81", after := #[{ on := 29, ground := Ground.data }, { on := 30, ground := Ground.data }], guard := none }) rfl (fun K hK => ?_)
  have HK : Hid (K (a.put (some 152) (.string (T1 ++ F1 ++ ⟨#[117, 115, 116, 97, 114, 0, 48, 48]⟩ ++ F2 ++ F3 ++ O5 ++ ⟨#[0]⟩ ++ O6 ++ ⟨#[0]⟩ ++ F4 ++ F5))) W) := hK _ _ (St11.step sz N hc hd bl hb (by decide) (i := 31) (d := 152) rfl (by decide) rfl (Below.refl _ W))
  clear hK hc N hd bl
  go_simp
  exact HK.out
set_option maxRecDepth 100000 in
theorem st11_32 {Q : Exit → Act → World → Prop} (h : Hd) (b : Nat) (T1 PF F1 F2 F3 F4 F5 O5 O6 : ByteArray) {w : World} {a0 : Act} {listed : Array Bool} {a : Act} {W : World} (x : St11 h b T1 PF F1 F2 F3 F4 F5 O5 O6 w a0 listed a W) (hb : a0.tmps.size = 165) (d31 : listed.getD 31 false = true) :
    wpOp Tryz.prog ops11 Q 32 (fun a' w' => St11 h b T1 PF F1 F2 F3 F4 F5 O5 O6 w a0 (listed.setIfInBounds 32 true) a' w') a W := by
  obtain ⟨sz, ⟨g, N, hc⟩, hd, bl⟩ := x
  have e152 : a.tmps[152]? = some (.string (T1 ++ F1 ++ ⟨#[117, 115, 116, 97, 114, 0, 48, 48]⟩ ++ F2 ++ F3 ++ O5 ++ ⟨#[0]⟩ ++ O6 ++ ⟨#[0]⟩ ++ F4 ++ F5)) := N.at 31 152 rfl rfl d31
  refine wpOp_step (o := { dst := some 8, op := Op.assign (Operand.tmp 152), type := 9, pos := "ref.go:81", after := #[{ on := 31, ground := Ground.data }, { on := 30, ground := Ground.chain }, { on := 0, ground := Ground.phase }, { on := 1, ground := Ground.phase }, { on := 2, ground := Ground.phase }, { on := 3, ground := Ground.phase }, { on := 4, ground := Ground.phase }, { on := 5, ground := Ground.phase }, { on := 6, ground := Ground.phase }, { on := 7, ground := Ground.phase }, { on := 8, ground := Ground.phase }, { on := 9, ground := Ground.phase }, { on := 10, ground := Ground.phase }, { on := 11, ground := Ground.phase }, { on := 12, ground := Ground.phase }, { on := 13, ground := Ground.phase }, { on := 14, ground := Ground.phase }, { on := 15, ground := Ground.phase }, { on := 16, ground := Ground.phase }, { on := 17, ground := Ground.phase }, { on := 18, ground := Ground.phase }, { on := 19, ground := Ground.phase }, { on := 20, ground := Ground.phase }, { on := 21, ground := Ground.phase }, { on := 22, ground := Ground.phase }, { on := 23, ground := Ground.phase }, { on := 24, ground := Ground.phase }, { on := 25, ground := Ground.phase }, { on := 26, ground := Ground.phase }, { on := 27, ground := Ground.phase }, { on := 28, ground := Ground.phase }, { on := 29, ground := Ground.phase }, { on := 30, ground := Ground.phase }, { on := 31, ground := Ground.phase }], guard := none }) rfl (fun K hK => ?_)
  have HK : Hid (K (a.put (some 8) (.string (T1 ++ F1 ++ ⟨#[117, 115, 116, 97, 114, 0, 48, 48]⟩ ++ F2 ++ F3 ++ O5 ++ ⟨#[0]⟩ ++ O6 ++ ⟨#[0]⟩ ++ F4 ++ F5))) W) := hK _ _ (St11.step sz N hc hd bl hb (by decide) (i := 32) (d := 8) rfl (by decide) rfl (Below.refl _ W))
  clear hK hc N hd bl
  go_simp
  exact HK.out
set_option maxRecDepth 100000 in
theorem region11 {Q : Exit → Act → World → Prop} (h : Hd) (b : Nat) (T1 PF F1 F2 F3 F4 F5 O5 O6 : ByteArray) {w : World} {a0 : Act} {W : World} (hb : a0.tmps.size = 165) (t1 : a0.tmps[1]? = some (.pointer (some ⟨b, 0, none⟩))) (t4 : a0.tmps[4]? = some (.string PF)) (cF1 : ∀ W, Calls Tryz.prog 30 #[.string h.link, .int .i64 100] W fun e w' => e = .returned (.string F1) ∧ Below W.heap.size W w') (cF2 : ∀ W, Calls Tryz.prog 30 #[.string h.user, .int .i64 32] W fun e w' => e = .returned (.string F2) ∧ Below W.heap.size W w') (cF3 : ∀ W, Calls Tryz.prog 30 #[.string h.group, .int .i64 32] W fun e w' => e = .returned (.string F3) ∧ Below W.heap.size W w') (cF4 : ∀ W, Calls Tryz.prog 30 #[.string PF, .int .i64 155] W fun e w' => e = .returned (.string F4) ∧ Below W.heap.size W w') (cF5 : ∀ W, Calls Tryz.prog 30 #[.string ⟨#[]⟩, .int .i64 12] W fun e w' => e = .returned (.string F5) ∧ Below W.heap.size W w') (cO5 : ∀ W, Calls Tryz.prog 31 #[.int .i64 h.major, .int .i64 7] W fun e w' => e = .returned (.string O5) ∧ Below W.heap.size W w') (cO6 : ∀ W, Calls Tryz.prog 31 #[.int .i64 h.minor, .int .i64 7] W fun e w' => e = .returned (.string O6) ∧ Below W.heap.size W w') (hT1 : bs [h.typ] = T1) (zs : T1.size = 1 ∧ F1.size = 100 ∧ F2.size = 32 ∧ F3.size = 32 ∧ F4.size = 155 ∧ F5.size = 12 ∧ O5.size = 7 ∧ O6.size = 7)
    (hd : HdAt W b h) (bl : Below w.heap.size w W) (hQ : ∀ g W2, Below w.heap.size w W2 → Q .normal (putAll a0 ds11 (vs11 h b T1 PF F1 F2 F3 F4 F5 O5 O6 g)) W2) :
    (Code.region 11 ops11 true).wp Tryz.prog Q a0 W := by
  refine wp_region_net (by kernel_rfl) (St11 h b T1 PF F1 F2 F3 F4 F5 O5 O6 w a0) ?_ ?_ ?_
  · exact ⟨by rw [Array.size_replicate]; rfl, ⟨0, Net.start _ _ _ _, fun hl => by
      rw [Array.getD_eq_getD_getElem?, Array.getElem?_replicate] at hl
      split at hl <;> simp at hl⟩, ⟨hd.lies⟩, below_drawn bl 1⟩
  · intro listed a W i x hr
    obtain ⟨hl, o, ho, hdep⟩ := mem_ready.1 hr
    have hi : i < 33 := (Array.getElem?_eq_some_iff.1 ho).1
    have dep : ∀ k, (ops11[i]?.any fun o2 => o2.after.any fun e => e.on == k && Region.binds .any e) = true → listed.getD k false = true := by
      intro k hk
      rw [ho] at hk
      simp only [Option.any_some] at hk
      rw [Array.any_eq_true'] at hk
      obtain ⟨e, he, hk⟩ := hk
      rw [Bool.and_eq_true, beq_iff_eq] at hk
      rw [← hk.1]
      exact hdep e he hk.2
    clear hdep ho hr
    match i, hi, hl, dep with
    | 0, _, _, _ => exact st11_0 h b T1 PF F1 F2 F3 F4 F5 O5 O6 x hb t1
    | 1, _, _, dep => exact st11_1 h b T1 PF F1 F2 F3 F4 F5 O5 O6 x hb (dep 0 (by kernel_rfl))
    | 2, _, hl, dep => exact st11_2 h b T1 PF F1 F2 F3 F4 F5 O5 O6 x hb hl (dep 1 (by kernel_rfl))
    | 3, _, _, dep => exact st11_3 h b T1 PF F1 F2 F3 F4 F5 O5 O6 x hb hT1 (dep 2 (by kernel_rfl))
    | 4, _, _, _ => exact st11_4 h b T1 PF F1 F2 F3 F4 F5 O5 O6 x hb t1
    | 5, _, _, dep => exact st11_5 h b T1 PF F1 F2 F3 F4 F5 O5 O6 x hb (dep 4 (by kernel_rfl))
    | 6, _, _, dep => exact st11_6 h b T1 PF F1 F2 F3 F4 F5 O5 O6 x hb cF1 (dep 5 (by kernel_rfl))
    | 7, _, _, dep => exact st11_7 h b T1 PF F1 F2 F3 F4 F5 O5 O6 x hb zs (dep 3 (by kernel_rfl)) (dep 6 (by kernel_rfl))
    | 8, _, _, dep => exact st11_8 h b T1 PF F1 F2 F3 F4 F5 O5 O6 x hb zs (dep 7 (by kernel_rfl))
    | 9, _, _, _ => exact st11_9 h b T1 PF F1 F2 F3 F4 F5 O5 O6 x hb t1
    | 10, _, _, dep => exact st11_10 h b T1 PF F1 F2 F3 F4 F5 O5 O6 x hb (dep 9 (by kernel_rfl))
    | 11, _, _, dep => exact st11_11 h b T1 PF F1 F2 F3 F4 F5 O5 O6 x hb cF2 (dep 10 (by kernel_rfl))
    | 12, _, _, dep => exact st11_12 h b T1 PF F1 F2 F3 F4 F5 O5 O6 x hb zs (dep 8 (by kernel_rfl)) (dep 11 (by kernel_rfl))
    | 13, _, _, _ => exact st11_13 h b T1 PF F1 F2 F3 F4 F5 O5 O6 x hb t1
    | 14, _, _, dep => exact st11_14 h b T1 PF F1 F2 F3 F4 F5 O5 O6 x hb (dep 13 (by kernel_rfl))
    | 15, _, _, dep => exact st11_15 h b T1 PF F1 F2 F3 F4 F5 O5 O6 x hb cF3 (dep 14 (by kernel_rfl))
    | 16, _, _, dep => exact st11_16 h b T1 PF F1 F2 F3 F4 F5 O5 O6 x hb zs (dep 12 (by kernel_rfl)) (dep 15 (by kernel_rfl))
    | 17, _, _, _ => exact st11_17 h b T1 PF F1 F2 F3 F4 F5 O5 O6 x hb t1
    | 18, _, _, dep => exact st11_18 h b T1 PF F1 F2 F3 F4 F5 O5 O6 x hb (dep 17 (by kernel_rfl))
    | 19, _, _, dep => exact st11_19 h b T1 PF F1 F2 F3 F4 F5 O5 O6 x hb cO5 (dep 18 (by kernel_rfl))
    | 20, _, _, dep => exact st11_20 h b T1 PF F1 F2 F3 F4 F5 O5 O6 x hb zs (dep 16 (by kernel_rfl)) (dep 19 (by kernel_rfl))
    | 21, _, _, dep => exact st11_21 h b T1 PF F1 F2 F3 F4 F5 O5 O6 x hb zs (dep 20 (by kernel_rfl))
    | 22, _, _, _ => exact st11_22 h b T1 PF F1 F2 F3 F4 F5 O5 O6 x hb t1
    | 23, _, _, dep => exact st11_23 h b T1 PF F1 F2 F3 F4 F5 O5 O6 x hb (dep 22 (by kernel_rfl))
    | 24, _, _, dep => exact st11_24 h b T1 PF F1 F2 F3 F4 F5 O5 O6 x hb cO6 (dep 23 (by kernel_rfl))
    | 25, _, _, dep => exact st11_25 h b T1 PF F1 F2 F3 F4 F5 O5 O6 x hb zs (dep 21 (by kernel_rfl)) (dep 24 (by kernel_rfl))
    | 26, _, _, dep => exact st11_26 h b T1 PF F1 F2 F3 F4 F5 O5 O6 x hb zs (dep 25 (by kernel_rfl))
    | 27, _, _, _ => exact st11_27 h b T1 PF F1 F2 F3 F4 F5 O5 O6 x hb t4
    | 28, _, _, dep => exact st11_28 h b T1 PF F1 F2 F3 F4 F5 O5 O6 x hb cF4 (dep 27 (by kernel_rfl))
    | 29, _, _, dep => exact st11_29 h b T1 PF F1 F2 F3 F4 F5 O5 O6 x hb zs (dep 26 (by kernel_rfl)) (dep 28 (by kernel_rfl))
    | 30, _, _, _ => exact st11_30 h b T1 PF F1 F2 F3 F4 F5 O5 O6 x hb cF5
    | 31, _, _, dep => exact st11_31 h b T1 PF F1 F2 F3 F4 F5 O5 O6 x hb zs (dep 29 (by kernel_rfl)) (dep 30 (by kernel_rfl))
    | 32, _, _, dep => exact st11_32 h b T1 PF F1 F2 F3 F4 F5 O5 O6 x hb (dep 31 (by kernel_rfl))
    | n + 33, hn, _, _ => exact absurd hn (by omega)
  · intro listed a W x hr
    obtain ⟨sz, ⟨g, N, _⟩, _, bl2⟩ := x
    have hall := all_done (md := .any) (ops := ops11) (listed := listed) (by rw [sz]; rfl) after11 hr
    rw [N.all nd11 rfl (fun d hd => by rw [hb]; exact of_decide_eq_true ((List.all_eq_true.1 (show (ds11.all fun d => decide (d < 165)) = true by kernel_rfl)) d hd)) (fun i hi => hall i hi)]
    exact hQ g W bl2
end Go.Proofs.YtgdkgdlgalinbaaGreatDoor
