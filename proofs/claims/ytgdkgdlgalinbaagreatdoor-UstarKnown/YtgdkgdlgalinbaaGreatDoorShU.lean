/- What the walks ask of the library's functions. -/
import Derived.Test.YtgdkgdlgalinbaaGreatDoorOctM
namespace Go.Proofs.YtgdkgdlgalinbaaGreatDoor
open Go Go.RowKit

/-- How many bytes a text has ahead of its first byte 0. -/
def headN (l : List UInt8) : Nat := (l.takeWhile (· != 0)).length
/-- How many blanks stand ahead. -/
def blanks (l : List UInt8) : Nat := (l.takeWhile (· == 32)).length
/-- How many bytes are left when blanks and bytes 0 are cut off behind. -/
def coreN (l : List UInt8) : Nat := (l.reverse.dropWhile (fun c => c == 0 || c == 32)).length
structure Shelf5 : Prop where
  idx : ∀ (s : ByteArray) (w : World), Calls Tryz.prog 41 #[.string s, .int .u8 0] w fun e w' => e = .returned (.int .i64 (Lib.indexByte (un s) 0)) ∧ w' = w
  rep : ∀ (c : Nat) (w : World), c ≤ 12 → Calls Tryz.prog 55 #[.string ⟨#[48]⟩, .int .i64 c] w fun e w' => e = .returned (.string (bs (List.replicate c (dg 0)))) ∧ Below w.heap.size w w'
  triml : ∀ (t : TypeId) (l : List UInt8) (b o n c : Nat) (w : World), Lies w b t (bcs l) → 0 < n → o + n ≤ l.length → n ≤ c → c ≤ 512 → Calls Tryz.prog 49 #[.slice (some ⟨b, o, none⟩) n c, .string ⟨#[32]⟩] w fun e w' =>
    e = .returned (if blanks ((l.drop o).take n) = n then .slice none 0 0 else .slice (some ⟨b, o + blanks ((l.drop o).take n), none⟩) (n - blanks ((l.drop o).take n)) (c - blanks ((l.drop o).take n))) ∧ Below w.heap.size w w'
  trimr : ∀ (t : TypeId) (l : List UInt8) (b o n c : Nat) (w : World), Lies w b t (bcs l) → 0 < n → o + n ≤ l.length → n ≤ c → c ≤ 512 → Calls Tryz.prog 48 #[.slice (some ⟨b, o, none⟩) n c, .string ⟨#[0, 32]⟩] w fun e w' =>
    e = .returned (.slice (some ⟨b, o, none⟩) (coreN ((l.drop o).take n)) c) ∧ Below w.heap.size w w'
  trimn : ∀ (w : World), Calls Tryz.prog 48 #[.slice none 0 0, .string ⟨#[0, 32]⟩] w fun e w' => e = .returned (.slice none 0 0) ∧ Below w.heap.size w w'
  cut : ∀ (t : TypeId) (l : List UInt8) (b o n c q : Nat) (w : World), Lies w b t (bcs l) → o + n ≤ l.length → n ≤ c → c ≤ 512 → w.cell? ⟨q, 0, none⟩ = some (.int .u8 0) → Calls Tryz.prog 50 #[.slice (some ⟨b, o, none⟩) n c, .slice (some ⟨q, 0, none⟩) 1 1] w fun e w' =>
    ∃ (v u : Value), e = .returned (.tuple #[.slice (some ⟨b, o, none⟩) (headN ((l.drop o).take n)) c, v, u]) ∧ Below w.heap.size w w'
end Go.Proofs.YtgdkgdlgalinbaaGreatDoor
