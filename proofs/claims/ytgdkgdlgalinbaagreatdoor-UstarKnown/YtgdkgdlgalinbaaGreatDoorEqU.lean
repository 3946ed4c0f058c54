/- Headers held against each other. -/
import Derived.Test.YtgdkgdlgalinbaaGreatDoorHdU
import Derived.ChangeKeysEq
import Derived.Laws.StructEq
namespace Go.Proofs.YtgdkgdlgalinbaaGreatDoor
open Go Go.RowKit

theorem eqF_cons {P : Program} {w : World} (d : Nat) (f : Field) (fs : List Field) (xs ys : Array Value) (a b : Value) (r R : Bool) (hn : f.name ≠ "_") (ha : (part f.type xs f.offset).run P w = .ok a w) (hb : (part f.type ys f.offset).run P w = .ok b w)
    (hr : (Op.equalIn d f.type a b).run P w = .ok r w) (hR : (Op.eqFields d xs ys fs).run P w = .ok R w) : (Op.eqFields d xs ys (f :: fs)).run P w = .ok (r && R) w := by
  simp only [Op.eqFields, if_pos hn, Sem.run_bind, ha, hb, hr, Result.andThen_ok]
  cases r with
  | false => simp
  | true => simpa using hR
theorem eqF_nil {P : Program} {w : World} (d : Nat) (xs ys : Array Value) : (Op.eqFields d xs ys []).run P w = .ok true w := rfl
def eqHd (a b : Hd) : Bool := (a.path.toList == b.path.toList) && ((a.mode == b.mode) && ((a.uid == b.uid) && ((a.gid == b.gid) && ((a.size == b.size) && ((a.time == b.time) && (((a.typ.toNat : Int) == (b.typ.toNat : Int)) && ((a.link.toList == b.link.toList) && ((a.user.toList == b.user.toList) && ((a.group.toList == b.group.toList) && ((a.major == b.major) && ((a.minor == b.minor) && true)))))))))))
theorem eqHd_iff (a b : Hd) : eqHd a b = true ↔ a = b := by
  constructor
  · intro h
    unfold eqHd at h
    simp only [Bool.and_eq_true, beq_iff_eq, toList_un] at h
    obtain ⟨h0, h1, h2, h3, h4, h5, h6, h7, h8, h9, h10, h11, _⟩ := h
    cases a; cases b
    simp only at h0 h1 h2 h3 h4 h5 h6 h7 h8 h9 h10 h11
    rw [un_inj h0, h1, h2, h3, h4, h5, UInt8.toNat_inj.1 (Int.ofNat.inj h6), un_inj h7, un_inj h8, un_inj h9, h10, h11]
  · rintro rfl
    unfold eqHd
    simp
set_option maxRecDepth 100000 in
theorem eq_hd (a b : Hd) (w : World) : (Op.equalIn 10000 28 (.agg (hcs a)) (.agg (hcs b))).run Tryz.prog w = .ok (eqHd a b) w := by
  rw [run_equalIn_struct w 9999 28 (hcs a) (hcs b) (by kernel_rfl) (by kernel_rfl)]
  have hs : ∀ x y : ByteArray, (Op.equalIn 9999 9 (.string x) (.string y)).run Tryz.prog w = .ok (x.toList == y.toList) w := fun x y => run_equalIn_string w 9998 _ x y Tryz.underlying9
  have hi : ∀ x y : Int, (Op.equalIn 9999 2 (.int .i64 x) (.int .i64 y)).run Tryz.prog w = .ok (x == y) w := fun x y => run_equalIn_int w 9998 _ .i64 .i64 _ _ Tryz.underlying2
  have hb : ∀ x y : Int, (Op.equalIn 9999 5 (.int .u8 x) (.int .u8 y)).run Tryz.prog w = .ok (x == y) w := fun x y => run_equalIn_int w 9998 _ .u8 .u8 _ _ Tryz.underlying5
  have pt : ∀ (h : Hd) (k : Nat) (v : Value) (t : TypeId), (isAgg t).run Tryz.prog w = .ok false w → (hcs h)[k]? = some v → (part t (hcs h) k).run Tryz.prog w = .ok v w := fun h k v t ht hv => by simp [part, ht, hv]
  have aS := Tryz.isAgg9 w
  have ai := Tryz.isAgg2 w
  have ab := Tryz.isAgg5 w
  unfold eqHd
  rw [show (Tryz.prog.fieldsOf 28) = _ from by unfold Program.fieldsOf; rw [Tryz.underlying28]]
  exact eqF_cons 9999 _ _ _ _ _ _ _ _ (by decide) (pt a 0 _ _ aS rfl) (pt b 0 _ _ aS rfl) (hs _ _) (eqF_cons 9999 _ _ _ _ _ _ _ _ (by decide) (pt a 1 _ _ ai rfl) (pt b 1 _ _ ai rfl) (hi _ _) (eqF_cons 9999 _ _ _ _ _ _ _ _ (by decide) (pt a 2 _ _ ai rfl) (pt b 2 _ _ ai rfl) (hi _ _) (eqF_cons 9999 _ _ _ _ _ _ _ _ (by decide) (pt a 3 _ _ ai rfl) (pt b 3 _ _ ai rfl) (hi _ _) (eqF_cons 9999 _ _ _ _ _ _ _ _ (by decide) (pt a 4 _ _ ai rfl) (pt b 4 _ _ ai rfl) (hi _ _) (eqF_cons 9999 _ _ _ _ _ _ _ _ (by decide) (pt a 5 _ _ ai rfl) (pt b 5 _ _ ai rfl) (hi _ _) (eqF_cons 9999 _ _ _ _ _ _ _ _ (by decide) (pt a 6 _ _ ab rfl) (pt b 6 _ _ ab rfl) (hb _ _) (eqF_cons 9999 _ _ _ _ _ _ _ _ (by decide) (pt a 7 _ _ aS rfl) (pt b 7 _ _ aS rfl) (hs _ _) (eqF_cons 9999 _ _ _ _ _ _ _ _ (by decide) (pt a 8 _ _ aS rfl) (pt b 8 _ _ aS rfl) (hs _ _) (eqF_cons 9999 _ _ _ _ _ _ _ _ (by decide) (pt a 9 _ _ aS rfl) (pt b 9 _ _ aS rfl) (hs _ _) (eqF_cons 9999 _ _ _ _ _ _ _ _ (by decide) (pt a 10 _ _ ai rfl) (pt b 10 _ _ ai rfl) (hi _ _) (eqF_cons 9999 _ _ _ _ _ _ _ _ (by decide) (pt a 11 _ _ ai rfl) (pt b 11 _ _ ai rfl) (hi _ _) (eqF_nil _ _ _))))))))))))
end Go.Proofs.YtgdkgdlgalinbaaGreatDoor
