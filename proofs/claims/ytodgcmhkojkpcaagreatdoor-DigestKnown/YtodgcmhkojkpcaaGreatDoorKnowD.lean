/- What the other statements of layer 3 say, of everything that DigestKnown asks them; rows of texts and numbers. -/
import Derived.Test.YtodgcmhkojkpcaaGreatDoorLists
import Derived.Deep.MidRow
import Derived.Deep.RegionHeld
import Derived.Deep.CutRange
import Derived.WalkSpells
import Derived.Outline
import Derived.RegionTactic
import Derived.Deep.Quiet
import Derived.Deep.QuietTactic
import Derived.BigQuiet
namespace Go.Proofs.YtodgcmhkojkpcaaGreatDoor
open Go Go.RowKit

abbrev True' (W : World) (e : Ending) (w' : World) : Prop := e = .returned (.bool true) ∧ Below W.heap.size W w'
/-- Of a text. -/
def Says1 (G : World → Prop) (f : Nat) : Prop := ∀ (s : ByteArray), s.size ≤ 200000 → ∀ W, G W → Calls Tryz.prog f #[.string s] W (True' W)
/-- Of a number and a text. -/
def Says2 (G : World → Prop) (f : Nat) : Prop := ∀ (n : Int) (s : ByteArray), s.size ≤ 200000 → ∀ W, G W → Calls Tryz.prog f #[.int .i64 n, .string s] W (True' W)
/-- Of two numbers and a text. -/
def Says3 (G : World → Prop) (f : Nat) : Prop := ∀ (n m : Int) (s : ByteArray), s.size ≤ 200000 → ∀ W, G W → Calls Tryz.prog f #[.int .i64 n, .int .i64 m, .string s] W (True' W)
/-- Of a number and a list of texts. -/
def SaysL (G : World → Prop) (f : Nat) : Prop := ∀ (n : Int) (l : List ByteArray) (v : Value), wt l ≤ 1000000 → ∀ W, TextsAt W v l → G W → Calls Tryz.prog f #[.int .i64 n, v] W (True' W)
/-- Of a list of texts. -/
def SaysT (G : World → Prop) (f : Nat) : Prop := ∀ (l : List ByteArray) (v : Value), wt l ≤ 1000000 → ∀ W, TextsAt W v l → G W → Calls Tryz.prog f #[v] W (True' W)
/-- Of a text and a list. -/
def SaysP (G : World → Prop) (f : Nat) : Prop := ∀ (s : ByteArray) (l : List ByteArray) (v : Value), s.size ≤ 200000 → wt l ≤ 1000000 → ∀ W, TextsAt W v l → G W → Calls Tryz.prog f #[.string s, v] W (True' W)
/-- Of two lists and a text. -/
def SaysB (G : World → Prop) (f : Nat) : Prop := ∀ (l m : List ByteArray) (u v : Value) (s : ByteArray), wt l + wt m + s.size ≤ 1000000 → ∀ W, TextsAt W u l → TextsAt W v m → G W → Calls Tryz.prog f #[u, v, .string s] W (True' W)
/-- Four steps on two hashes. -/
def acts4 (s : ByteArray) : Array Value := #[.string ⟨#[97]⟩, .bool true, .bool false, .string s, .bool false, .bool true, .string s, .bool true, .bool false, .string ⟨#[98]⟩, .bool true, .bool true]
def SaysH (G : World → Prop) (f : Nat) : Prop := ∀ (n m : Int) (s : ByteArray) (g : Nat), s.size ≤ 200000 → ∀ W, W.heap[g]? = some (.cells (acts4 s) 34 (0, 0)) → G W → Calls Tryz.prog f #[.int .i64 n, .int .i64 m, .slice (some ⟨g, 0, none⟩) 4 4] W (True' W)
/-- A digest. -/
def SaysD (G : World → Prop) (f : Nat) : Prop := ∀ (l : List UInt8), l.length = 32 → ∀ W, G W → Calls Tryz.prog f #[.agg (dig32 l)] W (True' W)

def ints (l : List Int) : List Value := l.map fun x => .int .i64 x
theorem Lies.new' (W : World) (t : TypeId) (cur : Array Value) : (W.alloc (.cells cur t)).heap[W.heap.size]? = some (.cells cur t (0, 0)) := World.alloc_heap_new W _
/-- Texts in a block. -/
theorem TextsAt.block {W : World} {g : Nat} {t : TypeId} {l : List ByteArray} (h : W.heap[g]? = some (.cells (strs l).toArray t (0, 0))) (n c : Nat) (hn : l.length = n) : TextsAt W (.slice (some ⟨g, 0, none⟩) n c) l := by
  subst hn
  refine ⟨_, _, rfl, (fun e => nomatch e), fun i x hx => ⟨g, 0, rfl, ?_⟩⟩
  rw [Nat.zero_add]
  simp [World.cell?, h, strs, hx]
def strSz : Value → Nat
  | .string s => s.size
  | _ => 0
theorem size_app (a b : ByteArray) : (a ++ b).size = a.size + b.size := by rw [← un_length, un_append, List.length_append, un_length, un_length]
theorem size_ext (a : ByteArray) (i j : Nat) : (a.extract i j).size ≤ a.size := by
  rw [← un_length, un_extract, List.length_drop, List.length_take, un_length]; omega
end Go.Proofs.YtodgcmhkojkpcaaGreatDoor
