/- Digests held against each other. -/
import Derived.Test.YtodgcmhkojkpcaaGreatDoorBytes
import Derived.ChangeKeysEq
import Derived.Laws.StructEq
namespace Go.Proofs.YtodgcmhkojkpcaaGreatDoor
open Go Go.RowKit

theorem byte_cells : Tryz.prog.cellsOf 5 = 1 := by kernel_rfl
theorem part_dig (l : List UInt8) (i : Nat) (h : i < l.length) (w : World) : (part 5 (dig32 l) (i * 1)).run Tryz.prog w = .ok (.int .u8 l[i].toNat) w := by
  simp [part, Tryz.isAgg5, dig32_get l i h]
theorem items_dig (l m : List UInt8) (w : World) : ∀ is : List Nat, (∀ i ∈ is, i < l.length ∧ i < m.length) →
    (Op.eqItems 9999 5 1 (dig32 l) (dig32 m) is).run Tryz.prog w = .ok (is.all fun i => l[i]? == m[i]?) w
  | [], _ => rfl
  | i :: is, h => by
    obtain ⟨h1, h2⟩ := h i (by simp)
    have ih := items_dig l m w is (fun j hj => h j (by simp [hj]))
    have he : (Op.equalIn 9999 5 (.int .u8 l[i].toNat) (.int .u8 m[i].toNat)).run Tryz.prog w = .ok ((l[i].toNat : Int) == (m[i].toNat : Int)) w := run_equalIn_int w 9998 _ .u8 .u8 _ _ Tryz.underlying5
    have hb : ((l[i].toNat : Int) == (m[i].toNat : Int)) = (l[i]? == m[i]?) := by
      rw [List.getElem?_eq_getElem h1, List.getElem?_eq_getElem h2]
      by_cases e : l[i] = m[i]
      · rw [e]; simp
      · have e2 : ¬ (l[i].toNat : Int) = (m[i].toNat : Int) := fun h => e (UInt8.toNat_inj.1 (by omega))
        rw [beq_false_of_ne e2, beq_false_of_ne (fun h => e (Option.some.inj h))]
    simp only [Op.eqItems, Sem.run_bind, part_dig l i h1, part_dig m i h2, he, hb, Result.andThen_ok, List.all_cons]
    cases (l[i]? == m[i]?) with
    | false => simp
    | true => simpa using ih
theorem all_eq (l m : List UInt8) (hl : l.length = 32) (hm : m.length = 32) : ((List.range 32).all fun i => l[i]? == m[i]?) = (l == m) := by
  by_cases h : l = m
  · subst h; simp
  · have h2 : (l == m) = false := by simpa using h
    rw [h2]
    apply Bool.eq_false_iff.2
    intro ha
    apply h
    apply List.ext_getElem?
    intro i
    by_cases hi : i < 32
    · have := List.all_eq_true.1 ha i (List.mem_range.2 hi); simpa using this
    · rw [List.getElem?_eq_none (by omega), List.getElem?_eq_none (by omega)]
theorem eq_dig (l m : List UInt8) (hl : l.length = 32) (hm : m.length = 32) (w : World) : (Op.equalIn 10000 25 (.agg (dig32 l)) (.agg (dig32 m))).run Tryz.prog w = .ok (l == m) w := by
  obtain ⟨i, hi, _⟩ := Option.map_eq_some_iff.1 info_byte
  rw [run_equalIn_array w 9999 (dig32 l) (dig32 m) Tryz.underlying25 hi, byte_cells, items_dig l m w _ (fun i h => by have := List.mem_range.1 h; omega), all_eq l m hl hm]
end Go.Proofs.YtodgcmhkojkpcaaGreatDoor
