/- (*Tree).lay: its ways as one. -/
import Derived.Test.YtgildlfanfbebaaGreatDoorLayX
import Derived.Test.YtgildlfanfbebaaGreatDoorLayY
import Derived.Test.YtgildlfanfbebaaGreatDoorLayZ
import Derived.Test.YtgildlfanfbebaaGreatDoorLayN
import Derived.Test.YtgildlfanfbebaaGreatDoorLayM
namespace Go.Proofs.YtgildlfanfbebaaGreatDoor
open Go Go.RowKit

/-- What lay makes of the counts. -/
def layQ (F : Pic) (q : Int) (x : Ent) : Int :=
  match F (namesP (parentB x.path) ++ [un (lastB x.path)]) with
  | none => q + x.data.size
  | some o => q + x.data.size - o.e.data.size
def layK (F : Pic) (n : Nat) (x : Ent) : Nat :=
  match F (namesP (parentB x.path) ++ [un (lastB x.path)]) with
  | none => n + 1
  | some _ => n
theorem TreeAt.mono {W : World} {tb base N n : Nat} {F : Pic} {q : Int} (h : TreeAt W tb base N F n q) : TreeAt W tb base (N + 1) F n q := ⟨h.from', h.root, h.tree.mono (Nat.le_succ _), h.kinds⟩
/-- lay over a Tree: refused, or the entry stands at its path. -/
theorem lay_p (tb base N : Nat) (F : Pic) (n : Nat) (q : Int) (x : Ent) (w : World) (hp : x.path.size ≤ 1073741824) (hd : x.data.size ≤ 1073741824) (hn : n ≤ 1073741824) (hq : 0 ≤ q ∧ q ≤ 1073741824) (hN : N < 1073741824)
    (hod : ∀ ns o, F ns = some o → o.e.data.size ≤ 1073741824) (hT : TreeAt w tb base N F n q) :
    Calls Tryz.prog 87 #[.pointer (some ⟨tb, 0, none⟩), .agg #[.string x.path, .int .i64 x.kind, .int .i64 x.mode, .string x.data, .string x.link]] w fun e w' => e = .returned (errE (layN F n q x)) ∧
      ((layN F n q x ≠ 0 ∧ Below w.heap.size w w') ∨ (layN F n q x = 0 ∧ Below base w w' ∧ ∃ z : Nd, z.e = x ∧ TreeAt w' tb base (N + 1) (setPic F (namesP (parentB x.path) ++ [un (lastB x.path)]) (some z)) (layK F n x) (layQ F q x) ∧ Rnd (MineT tb F) (MineT tb (setPic F (namesP (parentB x.path) ++ [un (lastB x.path)]) (some z))) w w')) := by
  cases hpar : F (namesP (parentB x.path)) with
  | none =>
    have hl : layN F n q x = 10 := by simp [layN, hpar]
    refine (lay_10 tb base N F n q x w hp hT hpar).mono ?_
    rintro e w' ⟨rfl, hb⟩
    rw [hl]
    exact ⟨rfl, .inl ⟨by decide, hb⟩⟩
  | some u =>
    by_cases hk : u.e.kind = 1
    · cases hold : F (namesP (parentB x.path) ++ [un (lastB x.path)]) with
      | none =>
        by_cases h5 : 4096 < n + 1 ∨ 16777216 < q + x.data.size
        · have hl : layN F n q x = 5 := by simp only [layN, hpar, hold]; rw [if_neg (by simpa using hk), if_pos h5]
          refine (lay_5n tb base N F n q x w hp hd hn hq hT u hpar hk hold h5).mono ?_
          rintro e w' ⟨rfl, hb⟩
          rw [hl]
          exact ⟨rfl, .inl ⟨by decide, hb⟩⟩
        · have hl : layN F n q x = 0 := by simp only [layN, hpar, hold]; rw [if_neg (by simpa using hk), if_neg h5]
          refine (lay_0n tb base N F n q x w hp hd hn hq hT u hpar hk hold (by omega) (by omega) hN).mono ?_
          rintro e w' ⟨rfl, hb, z, hz, ht, hr⟩
          rw [hl]
          exact ⟨rfl, .inr ⟨rfl, hb, z, hz, by simp only [layK, layQ, hold]; exact ht, hr⟩⟩
      | some o =>
        have ho := hod _ o hold
        by_cases h14 : (o.e.kind == 1) = (x.kind == 1)
        · by_cases h5 : 4096 < n ∨ 16777216 < q + x.data.size - o.e.data.size
          · have hl : layN F n q x = 5 := by simp only [layN, hpar, hold]; rw [if_neg (by simpa using hk), if_neg (by simpa using h14), if_pos h5]
            refine (lay_5o tb base N F n q x w hp hd hn hq hT u o hpar hk hold h14 ho h5).mono ?_
            rintro e w' ⟨rfl, hb⟩
            rw [hl]
            exact ⟨rfl, .inl ⟨by decide, hb⟩⟩
          · have hl : layN F n q x = 0 := by simp only [layN, hpar, hold]; rw [if_neg (by simpa using hk), if_neg (by simpa using h14), if_neg h5]
            refine (lay_0o tb base N F n q x w hp hd hn hq hT u o hpar hk hold h14 ho (by omega) (by omega)).mono ?_
            rintro e w' ⟨rfl, hb, ht, hr⟩
            rw [hl]
            exact ⟨rfl, .inr ⟨rfl, hb, { o with e := x }, rfl, by simp only [layK, layQ, hold]; exact ht.mono, hr⟩⟩
        · have hl : layN F n q x = 14 := by simp only [layN, hpar, hold]; rw [if_neg (by simpa using hk), if_pos h14]
          refine (lay_14 tb base N F n q x w hp hd hn hq hT u o hpar hk hold h14).mono ?_
          rintro e w' ⟨rfl, hb⟩
          rw [hl]
          exact ⟨rfl, .inl ⟨by decide, hb⟩⟩
    · have hl : layN F n q x = 13 := by simp only [layN, hpar]; rw [if_pos hk]
      refine (lay_13 tb base N F n q x w hp hT u hpar hk).mono ?_
      rintro e w' ⟨rfl, hb⟩
      rw [hl]
      exact ⟨rfl, .inl ⟨by decide, hb⟩⟩
end Go.Proofs.YtgildlfanfbebaaGreatDoor
