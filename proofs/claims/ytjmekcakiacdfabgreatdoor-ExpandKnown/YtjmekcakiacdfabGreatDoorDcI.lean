/- What the reading of a variable leaves; bytes held against each other. -/
import Derived.Test.YtjmekcakiacdfabGreatDoorDcH
namespace Go.Proofs.YtjmekcakiacdfabGreatDoor
open Go Go.RowKit

/-- What the reading of a variable leaves, wherever it begins from k on. -/
def VarT (st : List Nat) (B R : Nat) (s : ByteArray) (e : UInt8) (k : Nat) : Prop :=
  ∀ (W2 : World) (k2 : Nat) (v2 : Value) (ns2 : List (List UInt8)), k ≤ k2 → DR W2 B R s e k2 0 v2 ns2 → (36 : UInt8) ≠ e → (∃ t, (un s).drop k2 = 36 :: t) → B ≤ W2.heap.size → ns2.length ≤ k2 → Calls Tryz.prog 54 #[.pointer (some ⟨R, 0, none⟩)] W2 fun x w' => VPost st W2 B R s e k2 v2 ns2 x w'
theorem free1 {e c : UInt8} (h1 : c ≠ e) (h2 : c ≠ 36) : freeB e [1] c = true := by
  unfold freeB
  have a1 : (c == e) = false := by simpa using h1
  have a2 : (c == 36) = false := by simpa using h2
  simp [a1, a2, opq]
theorem u8t {a b : UInt8} (h : a = b) : ((a.toNat : Int) == (b.toNat : Int)) = true := by subst h; simp
theorem u8f {a b : UInt8} (h : a ≠ b) : ((a.toNat : Int) == (b.toNat : Int)) = false := by
  rw [beq_eq_false_iff_ne]
  intro h2
  exact h (UInt8.toNat_inj.1 (by omega))
theorem u8nt {a : UInt8} {n : Nat} (hn : n < 256) (h : a = n.toUInt8) : ((a.toNat : Int) == (n : Int)) = true := by rw [beq_u8n a n hn]; exact decide_eq_true h
theorem u8nf {a : UInt8} {n : Nat} (hn : n < 256) (h : a ≠ n.toUInt8) : ((a.toNat : Int) == (n : Int)) = false := by rw [beq_u8n a n hn]; exact decide_eq_false h
end Go.Proofs.YtjmekcakiacdfabGreatDoor
