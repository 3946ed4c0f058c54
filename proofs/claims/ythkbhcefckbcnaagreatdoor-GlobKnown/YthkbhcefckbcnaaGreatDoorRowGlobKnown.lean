/- GlobKnown, closed: the examples of the chapter, each byte in each role, patterns and lists about their bounds: from its walk to its row and its card. -/
import Derived.Test.YthkbhcefckbcnaaGreatDoorRows
import Derived.Test.YthkbhcefckbcnaaGreatDoorPlain
import Derived.LaidHandle
import Derived.LaidLaws
import Derived.Stop.Joined
import Derived.Lib.LaidTab
import Derived.SliceStrings
import Derived.Laws.Tables
import Derived.Test.YthkbhcefckbcnaaGreatDoorLawOutB
import Derived.Deep.RegionHeld3
import Derived.Laws.IdiomStrings
import Derived.Test.YthkbhcefckbcnaaGreatDoorShownK
import Derived.Test.YthkbhcefckbcnaaGreatDoorLawLast
import Derived.Test.YthkbhcefckbcnaaGreatDoorCards
import Derived.Test.YthkbhcefckbcnaaGreatDoorTie
import Derived.ProofKit
import Derived.OpenShut
import Derived.SizedLaws
import Derived.Deep.DeepHandedRow
import Derived.SevenTiedAt

namespace Go.Proofs.YthkbhcefckbcnaaGreatDoor
open Go.ChangeShapes Go.WideShapes Go.RowKit

theorem own : ownKnob Tryz.prog.godebug = none := by kernel_rfl
theorem l_et : Tryz.prog.globalNamed "errors.errorType" = some 0 := by kernel_rfl
theorem l_rt : (Tryz.prog.cutTypes.find? (·.1 == "internal/reflectlite.rtype")).map (·.2) = some 140 := by kernel_rfl
theorem l_oneRow : ((List.range 249).filter fun t => Tryz.prog.rowNamed t [101, 114, 114, 111, 114]) = [28] := by kernel_rfl
theorem l_size : Tryz.prog.types.size = 249 := by kernel_rfl

abbrev listedU : List (String × DataW Unit) := [("unicode/utf8.acceptRanges", Rows.laid_unicode_utf8_acceptRanges), ("errors.errorType", Rows.laid_errors_errorType), ("unicode/utf8.first", Rows.laid_unicode_utf8_first)]
set_option maxRecDepth 100000 in
theorem handle_of_laidU {W : World} (h : laidMetH Tryz.prog listedU W) : ErrType W := by
  have h2 : laidMet Tryz.prog [("unicode/utf8.acceptRanges", Rows.laid_unicode_utf8_acceptRanges), ("unicode/utf8.first", Rows.laid_unicode_utf8_first)] W ∧ handlesMet Tryz.prog [("errors.errorType", Rows.laid_errors_errorType)] W := h
  obtain ⟨name, u, ty, e1, e2, e3, e4, e5⟩ := h2.2 _ (List.mem_singleton.2 rfl)
  have en : name = [101, 114, 114, 111, 114] := (Option.some.inj e1).symm
  subst en
  obtain rfl := Option.some.inj (l_rt.symm.trans e2)
  have hm : ty ∈ (List.range 249).filter fun t => Tryz.prog.rowNamed t [101, 114, 114, 111, 114] := List.mem_filter.2 ⟨List.mem_range.2 (by rw [← l_size]; exact e3), e4⟩
  rw [l_oneRow] at hm
  obtain rfl := List.mem_singleton.1 hm
  have hh : typeHandle Tryz.prog 28 = .pointer (some ⟨4, 28, none⟩) := by kernel_rfl
  rw [hh] at e5
  have h3 := World.var?_cell l_et e5 0
  unfold ErrType
  simpa using h3
def numsOf : DataW Unit → List Value
  | .lit (.int k n) => [.int k n]
  | .agg ds => ds.flatMap fun
    | .lit (.int k n) => [Value.int k n]
    | .agg es => es.map fun
      | .lit (.int k n) => Value.int k n
      | _ => .int .i64 0
    | _ => []
  | _ => []
noncomputable def laidWorldU (os : Os) : World :=
  (((World.holding Tryz.prog os ⟨#[], #[], []⟩).setRow 3 (numsOf Rows.laid_unicode_utf8_acceptRanges).toArray).setRow 2 (numsOf Rows.laid_unicode_utf8_first).toArray).setRow 0 #[.iface 140 (.agg #[.pointer (some ⟨4, 28, none⟩)])]
end Go.Proofs.YthkbhcefckbcnaaGreatDoor

namespace Go.Proofs.YthkbhcefckbcnaaGreatDoor
open Go Go.RowKit

def MatchOK : Prop := ∀ (p q : ByteArray) (W : World), p.size ≤ 1048576 → q.size ≤ 1048576 → ErrType W → Calls Tryz.prog 45 #[.string p, .string q] W fun e w' => e = .returned (.bool true) ∧ Below W.heap.size W w'
def LastOK : Prop := ∀ (x y z : ByteArray) (W : World), x.size ≤ 1048576 → y.size ≤ 1048576 → z.size ≤ 1048576 → ErrType W → Calls Tryz.prog 46 #[.string x, .string y, .string z] W fun e w' => e = .returned (.bool true) ∧ Below W.heap.size W w'
/-- Texts in a block of their own. -/
def TxtRow (W : World) (g : Nat) (L : List ByteArray) : Prop := Lies W g 9 (strs L).toArray
theorem TxtRow.below {W W2 : World} {g : Nat} {L : List ByteArray} (h : TxtRow W g L) (b : Below W.heap.size W W2) : TxtRow W2 g L := Lies.below h b
theorem TxtRow.cell {W : World} {g i : Nat} {L : List ByteArray} {x : ByteArray} (h : TxtRow W g L) (hx : L[i]? = some x) : W.cell? ⟨g, i, none⟩ = some (.string x) := Lies.cell h (by simp [strs, hx])
theorem TxtRow.texts {W : World} {g c : Nat} {L : List ByteArray} (h : TxtRow W g L) : TextsO W (.slice (some ⟨g, 0, none⟩) L.length c) L :=
  ⟨some ⟨g, 0, none⟩, c, rfl, (fun e => nomatch e), fun i x hx => ⟨g, 0, rfl, by rw [Nat.zero_add]; exact h.cell hx⟩⟩
set_option maxRecDepth 100000 in
theorem conv_one (k : Nat) (hk : k < 256) (w : World) : (convert 84 9 (.slice (some ⟨w.heap.size, 0, none⟩) 1 1)).run Tryz.prog (w.alloc (.cells #[.int .u8 (k : Int)] 5)) = .ok (.string (bs [UInt8.ofNat k])) (w.alloc (.cells #[.int .u8 (k : Int)] 5)) := by
  refine run_convert_bytes_back _ 84 9 5 ⟨w.heap.size, 0, none⟩ 1 [UInt8.ofNat k] Tryz.underlying84 Tryz.underlying5 Tryz.underlying9 ?_
  intro j hj
  have h0 : j = 0 := by simp at hj; omega
  subst h0
  have e : (⟨w.heap.size, 0, none⟩ : Addr).add 0 = ⟨w.heap.size, 0, none⟩ := by rw [Addr.add_mid]
  rw [e]
  have h := (Lies.new w 5 #[.int .u8 (k : Int)]).cell (i := 0) rfl
  rw [h]
  have h2 : (UInt8.ofNat k).toNat = k := by rw [UInt8.toNat_ofNat']; omega
  show some (Value.int .u8 (k : Int)) = some (Value.int .u8 ((UInt8.ofNat k).toNat : Int))
  rw [h2]
def roleL (S : ByteArray) : List ByteArray := [S, ⟨#[92]⟩ ++ S, ⟨#[91]⟩ ++ S ++ ⟨#[93]⟩, ⟨#[91, 33]⟩ ++ S ++ ⟨#[120, 93]⟩, ⟨#[91, 97, 45]⟩ ++ S ++ ⟨#[93]⟩, ⟨#[91]⟩ ++ S ++ ⟨#[45, 122, 93]⟩, ⟨#[91]⟩ ++ S, ⟨#[97]⟩ ++ S ++ ⟨#[98]⟩, ⟨#[91, 92]⟩ ++ S ++ ⟨#[45, 122, 93]⟩, ⟨#[91, 45]⟩ ++ S ++ ⟨#[93]⟩, S ++ ⟨#[42, 42]⟩, ⟨#[63]⟩, ⟨#[97, 63, 98]⟩, ⟨#[42]⟩ ++ S, ⟨#[91, 1, 45, 92]⟩ ++ S ++ ⟨#[120, 93]⟩]
theorem role_size {S : ByteArray} (hS : S.size = 1) : ∀ x ∈ roleL S, x.size ≤ 1048576 := by
  intro x hx
  simp only [roleL, List.mem_cons, List.not_mem_nil, or_false] at hx
  rcases hx with rfl | rfl | rfl | rfl | rfl | rfl | rfl | rfl | rfl | rfl | rfl | rfl | rfl | rfl | rfl <;> first | (simp only [ByteArray.size_append, hS]; decide) | (rw [hS]; decide) | decide
def psK : List ByteArray := [⟨#[97]⟩, ⟨#[120]⟩, ⟨#[120, 47, 121]⟩, ⟨#[]⟩]
def linesK : List ByteArray := [⟨#[33, 120]⟩, ⟨#[33, 33, 120]⟩, ⟨#[32, 33, 32, 120, 13]⟩, ⟨#[35, 120]⟩, ⟨#[33, 97, 47, 98]⟩, ⟨#[33, 42]⟩, ⟨#[33, 35, 120]⟩, ⟨#[92, 33, 120]⟩, ⟨#[33, 92, 33, 120]⟩, ⟨#[120]⟩, ⟨#[]⟩, ⟨#[33, 42, 42]⟩, ⟨#[33, 32]⟩]
def textsK : List ByteArray := [⟨#[]⟩, ⟨#[120]⟩, ⟨#[97, 47, 98, 10, 42, 10]⟩, ⟨#[33, 120]⟩, ⟨#[42, 42, 10, 33, 97]⟩, ⟨#[35]⟩, ⟨#[33, 92, 33, 42]⟩]
def pathsK : List ByteArray := [⟨#[120]⟩, ⟨#[33, 120]⟩, ⟨#[97, 47, 98]⟩, ⟨#[97, 47, 98, 47, 99]⟩, ⟨#[35, 120]⟩, ⟨#[]⟩, ⟨#[120, 47, 121]⟩]
theorem ps_size : ∀ x ∈ psK, x.size ≤ 100 := by decide
theorem lines_size : ∀ x ∈ linesK, x.size ≤ 100 := by decide
theorem texts_size : ∀ x ∈ textsK, x.size ≤ 100 := by decide
theorem paths_size : ∀ x ∈ pathsK, x.size ≤ 100 := by decide
theorem paths_size2 : ∀ x ∈ pathsK, x.size ≤ 1048576 := fun x hx => by have := paths_size x hx; omega
theorem paths_len : pathsK.length = 7 := rfl
theorem ps_len : psK.length = 4 := rfl
theorem out_paths (tx y : ByteArray) (W : World) (g3 : Nat) (h : TxtRow W g3 pathsK) (hE : ErrType W) (h1 : tx.size ≤ 1048576) (h2 : y.size ≤ 1048576) : Calls Tryz.prog 47 #[.string tx, .string y, .slice (some ⟨g3, 0, none⟩) 7 7] W fun e w' => e = .returned (.bool true) ∧ Below W.heap.size W w' := by
  have ht := h.texts (c := 7)
  rw [paths_len] at ht
  exact globout_law tx y pathsK _ W hE h1 h2 ht paths_size2
/-- The four lists stand. -/
structure FourK (w W : World) (g0 g1 g2 g3 : Nat) : Prop where
  t0 : TxtRow W g0 psK
  t1 : TxtRow W g1 linesK
  t2 : TxtRow W g2 textsK
  t3 : TxtRow W g3 pathsK
  bel : Below w.heap.size w W
theorem FourK.below {w W W2 : World} {g0 g1 g2 g3 : Nat} (h : FourK w W g0 g1 g2 g3) (b : Below W.heap.size W W2) : FourK w W2 g0 g1 g2 g3 := ⟨h.t0.below b, h.t1.below b, h.t2.below b, h.t3.below b, h.bel.trans (b.mono h.bel.size)⟩
theorem four_new {w wr : World} (hB : Below w.heap.size w wr) : FourK w ((((wr.alloc (.cells (strs psK).toArray 9)).alloc (.cells (strs linesK).toArray 9)).alloc (.cells (strs textsK).toArray 9)).alloc (.cells (strs pathsK).toArray 9)) wr.heap.size (wr.heap.size + 1) (wr.heap.size + 1 + 1) (wr.heap.size + 1 + 1 + 1) := by
  have hs := hB.size
  have a0 : Below wr.heap.size wr (wr.alloc (.cells (strs psK).toArray 9)) := (Below.refl _ _).alloc (Nat.le_refl _) _
  refine ⟨?_, ?_, ?_, ?_, (((hB.alloc hs _).alloc (by simp; omega) _).alloc (by simp; omega) _).alloc (by simp; omega) _⟩
  · exact Lies.alloc (Lies.alloc (Lies.alloc (Lies.new wr _ _) _) _) _
  · have := Lies.new (wr.alloc (.cells (strs psK).toArray 9)) 9 (strs linesK).toArray
    rw [World.size_alloc] at this
    exact Lies.alloc (Lies.alloc this _) _
  · have := Lies.new ((wr.alloc (.cells (strs psK).toArray 9)).alloc (.cells (strs linesK).toArray 9)) 9 (strs textsK).toArray
    rw [World.size_alloc, World.size_alloc] at this
    exact Lies.alloc this _
  · have := Lies.new (((wr.alloc (.cells (strs psK).toArray 9)).alloc (.cells (strs linesK).toArray 9)).alloc (.cells (strs textsK).toArray 9)) 9 (strs pathsK).toArray
    rw [World.size_alloc, World.size_alloc, World.size_alloc] at this
    exact this
theorem role_length (S : ByteArray) : (roleL S).length = 15 := rfl
set_option maxRecDepth 100000 in
set_option maxHeartbeats 8000000 in
theorem edged_p (HM : Hid MatchOK) (HL : Hid LastOK) (w : World) (hg : ErrType w) : Calls Tryz.prog 21 #[] w fun e w' => e = .returned (.bool true) ∧ Below w.heap.size w w' := by
  have HE : Hid (∀ W, Below w.heap.size w W → ErrType W) := fun W b => hg.below b
  clear hg
  go_enter Tryz.func21, Tryz.ntmps21
  go_wp2
  go_loopw [1, 2, 3, 4] (fun i _ _ _ wr => ∃ k : Nat, i = .int .i64 k ∧ k ≤ 256 ∧ Below w.heap.size w wr) (fun i _ _ _ _ => 256 - (intOf i).toNat)
  case atStart => exact ⟨0, rfl, Nat.zero_le _, Below.refl _ _⟩
  case round =>
    obtain ⟨k, rfl, hk, hB⟩ := hrel
    by_cases hlt : k < 256
    · have hlt' : (k : Int) < 256 := by omega
      have hk0 : (0 : Int) ≤ (k : Int) := by omega
      have hcv := conv_one k hlt wr
      have hS : (bs [UInt8.ofNat k]).size = 1 := rfl
      generalize bs [UInt8.ofNat k] = S at *
      go_upto_region 6 with fail
      have hsz := hB.size
      have B1 : Below w.heap.size w ((wr.alloc (.cells #[.int .u8 (k : Int)] 5)).alloc (.cells (strs (roleL S)).toArray 9)) := (hB.alloc hsz _).alloc (by simp; omega) _
      have T1 : TxtRow ((wr.alloc (.cells #[.int .u8 (k : Int)] 5)).alloc (.cells (strs (roleL S)).toArray 9)) (wr.heap.size + 1) (roleL S) := by
        have := Lies.new (wr.alloc (.cells #[.int .u8 (k : Int)] 5)) 9 (strs (roleL S)).toArray
        rw [World.size_alloc] at this; exact this
      have HW : Hid (((wr.alloc (.cells #[.int .u8 (k : Int)] 5)).alloc (.cells (strs (roleL S)).toArray 9)) = ((wr.alloc (.cells #[.int .u8 (k : Int)] 5)).alloc (.cells #[.string S, .string (⟨#[92]⟩ ++ S), .string (⟨#[91]⟩ ++ S ++ ⟨#[93]⟩), .string (⟨#[91, 33]⟩ ++ S ++ ⟨#[120, 93]⟩), .string (⟨#[91, 97, 45]⟩ ++ S ++ ⟨#[93]⟩), .string (⟨#[91]⟩ ++ S ++ ⟨#[45, 122, 93]⟩), .string (⟨#[91]⟩ ++ S), .string (⟨#[97]⟩ ++ S ++ ⟨#[98]⟩), .string (⟨#[91, 92]⟩ ++ S ++ ⟨#[45, 122, 93]⟩), .string (⟨#[91, 45]⟩ ++ S ++ ⟨#[93]⟩), .string (S ++ ⟨#[42, 42]⟩), .string ⟨#[63]⟩, .string ⟨#[97, 63, 98]⟩, .string (⟨#[42]⟩ ++ S), .string (⟨#[91, 1, 45, 92]⟩ ++ S ++ ⟨#[120, 93]⟩)] 9))) := rfl
      rw [HW.out] at B1 T1
      clear HW
      generalize ((wr.alloc (.cells #[.int .u8 (k : Int)] 5)).alloc (.cells #[.string S, .string (⟨#[92]⟩ ++ S), .string (⟨#[91]⟩ ++ S ++ ⟨#[93]⟩), .string (⟨#[91, 33]⟩ ++ S ++ ⟨#[120, 93]⟩), .string (⟨#[91, 97, 45]⟩ ++ S ++ ⟨#[93]⟩), .string (⟨#[91]⟩ ++ S ++ ⟨#[45, 122, 93]⟩), .string (⟨#[91]⟩ ++ S), .string (⟨#[97]⟩ ++ S ++ ⟨#[98]⟩), .string (⟨#[91, 92]⟩ ++ S ++ ⟨#[45, 122, 93]⟩), .string (⟨#[91, 45]⟩ ++ S ++ ⟨#[93]⟩), .string (S ++ ⟨#[42, 42]⟩), .string ⟨#[63]⟩, .string ⟨#[97, 63, 98]⟩, .string (⟨#[42]⟩ ++ S), .string (⟨#[91, 1, 45, 92]⟩ ++ S ++ ⟨#[120, 93]⟩)] 9)) = W1 at *
      generalize wr.heap.size + 1 = ge at *
      have HT1 : Hid (TxtRow W1 ge (roleL S)) := T1
      clear T1 hcv hB
      have hrs := role_size hS
      have q1 : S.size ≤ 1048576 := by omega
      have q2 : (⟨#[98]⟩ : ByteArray).size ≤ 1048576 := by decide
      have q3 : (⟨#[45]⟩ : ByteArray).size ≤ 1048576 := by decide
      have q4 : (⟨#[97]⟩ ++ S ++ ⟨#[98]⟩ : ByteArray).size ≤ 1048576 := by rw [ByteArray.size_append, ByteArray.size_append, hS]; decide
      have q5 : (⟨#[120, 93]⟩ : ByteArray).size ≤ 1048576 := by decide
      go_wp2
      go_loopw [4] (fun i wr2 => ∃ m : Nat, i = .int .i64 m ∧ m ≤ 15 ∧ Below w.heap.size w wr2 ∧ Hid (TxtRow wr2 ge (roleL S))) (fun i _ => 15 - (intOf i).toNat)
      case atStart => exact ⟨0, rfl, Nat.zero_le _, B1, HT1⟩
      case round =>
        clear HT1 B1
        obtain ⟨m, rfl, hm, A0, HT1⟩ := hrel
        by_cases hml : m < 15
        · have hml' : (m : Int) < 15 := by omega
          have hm0 : (0 : Int) ≤ (m : Int) := by omega
          obtain ⟨x, hx⟩ : ∃ x, (roleL S)[m]? = some x := ⟨_, List.getElem?_eq_getElem (by rw [role_length]; exact hml)⟩
          have hxz := hrs x (List.mem_of_getElem? hx)
          have HCX : Hid (∀ W, Below wr.heap.size wr W → W.cell? ⟨ge, m, none⟩ = some (.string x)) := fun W bb => (HT1.out.below bb).cell hx
          have d0 := HT1.out.cell hx
          have HTB : Hid (∀ W, Below wr.heap.size wr W → TxtRow W ge (roleL S)) := fun W bb => HT1.out.below bb
          clear hx HT1
          have K1 := HM.out x S wr hxz q1 (HE.out wr A0)
          go_wp2_with fail
          refine K1.mono ?_
          rintro e x1 ⟨rfl, y1⟩
          have A1 := below_join A0 y1
          have Y1 := y1
          have d1 := HCX.out x1 Y1
          have K2 := HM.out x ⟨#[98]⟩ x1 hxz q2 (HE.out x1 A1)
          go_wp2_with fail
          refine K2.mono ?_
          rintro e x2 ⟨rfl, y2⟩
          have A2 := below_join A1 y2
          have Y2 := below_join Y1 y2
          have d2 := HCX.out x2 Y2
          have K3 := HM.out x ⟨#[45]⟩ x2 hxz q3 (HE.out x2 A2)
          go_wp2_with fail
          refine K3.mono ?_
          rintro e x3 ⟨rfl, y3⟩
          have A3 := below_join A2 y3
          have Y3 := below_join Y2 y3
          have d3 := HCX.out x3 Y3
          have K4 := HM.out x (⟨#[97]⟩ ++ S ++ ⟨#[98]⟩) x3 hxz q4 (HE.out x3 A3)
          go_wp2_with fail
          refine K4.mono ?_
          rintro e x4 ⟨rfl, y4⟩
          have A4 := below_join A3 y4
          have Y4 := below_join Y3 y4
          have d4 := HCX.out x4 Y4
          have K5 := HM.out x ⟨#[120, 93]⟩ x4 hxz q5 (HE.out x4 A4)
          go_wp2_with fail
          refine K5.mono ?_
          rintro e x5 ⟨rfl, y5⟩
          have A5 := below_join A4 y5
          have Y5 := below_join Y4 y5
          go_wp2
          go_roundw
          case rel => exact ⟨m + 1, by go_num, by omega, A5, HTB.out x5 Y5⟩
          case measure => simp [intOf]; omega
        · have hml' : ¬ (m : Int) < 15 := by omega
          go_wp2
          go_roundw
          case rel => exact ⟨k + 1, by go_num, by omega, A0⟩
          case measure => simp [intOf]; omega
    · have hge : ¬ (k : Int) < 256 := by omega
      go_wp2
      go_loopw [5, 6] (fun l i wr2 => ∃ (k : Nat) (X : ByteArray), i = .int .i64 k ∧ k ≤ 510 ∧ l = .string X ∧ X.size = 2 * k ∧ Below w.heap.size w wr2) (fun _ i _ => 510 - (intOf i).toNat)
      case atStart => exact ⟨0, ⟨#[]⟩, rfl, Nat.zero_le _, rfl, rfl, hB⟩
      case round =>
        clear hB hge hk
        obtain ⟨k, X, rfl, hk, rfl, hX, hB⟩ := hrel
        by_cases hlt : k < 510
        · have hlt' : (k : Int) < 510 := by omega
          have hXb : X.size ≤ 2000 := by omega
          go_wp2
          go_roundw
          case rel => exact ⟨k + 1, X ++ ⟨#[97, 47]⟩, by go_num, by omega, rfl, by rw [ByteArray.size_append, hX]; rfl, hB⟩
          case measure => simp [intOf]; omega
        · have hge : ¬ (k : Int) < 510 := by omega
          have q1 : X.size ≤ 1048576 := by omega
          have q2 : (X ++ ⟨#[47]⟩ : ByteArray).size ≤ 1048576 := by rw [ByteArray.size_append]; show X.size + 1 ≤ _; omega
          have q3 : (X ++ ⟨#[97]⟩ : ByteArray).size ≤ 1048576 := by rw [ByteArray.size_append]; show X.size + 1 ≤ _; omega
          have q4 : (⟨#[42, 42, 47, 97]⟩ : ByteArray).size ≤ 1048576 := by decide
          have q5 : (X ++ X : ByteArray).size ≤ 1048576 := by rw [ByteArray.size_append]; omega
          have hXb : X.size ≤ 2000 := by omega
          clear hX
          have K1 := HM.out X X wr q1 q1 (HE.out wr hB)
          go_wp2_with fail
          refine K1.mono ?_
          rintro e x1 ⟨rfl, y1⟩
          have A1 := below_join hB y1
          have K2 := HM.out (X ++ ⟨#[47]⟩) X x1 q2 q1 (HE.out x1 A1)
          go_wp2_with fail
          refine K2.mono ?_
          rintro e x2 ⟨rfl, y2⟩
          have A2 := below_join A1 y2
          have K3 := HM.out (X ++ ⟨#[97]⟩) (X ++ ⟨#[97]⟩) x2 q3 q3 (HE.out x2 A2)
          go_wp2_with fail
          refine K3.mono ?_
          rintro e x3 ⟨rfl, y3⟩
          have A3 := below_join A2 y3
          have K4 := HM.out ⟨#[42, 42, 47, 97]⟩ (X ++ X) x3 q4 q5 (HE.out x3 A3)
          go_wp2_with fail
          refine K4.mono ?_
          rintro e x4 ⟨rfl, y4⟩
          have A4 := below_join A3 y4
          go_upto_region 18 with fail
          clear K1 K2 K3 K4 y1 y2 y3 y4 A1 A2 A3 hB q1 q2 q3 q4 q5
          go_wp2
          go_loopw [7, 8] (fun l i wr2 => ∃ (k : Nat) (Z : ByteArray), i = .int .i64 k ∧ k ≤ 256 ∧ l = .string Z ∧ Z.size = 2 * k ∧ Below w.heap.size w wr2) (fun _ i _ => 256 - (intOf i).toNat)
          case atStart => exact ⟨0, ⟨#[]⟩, rfl, Nat.zero_le _, rfl, rfl, A4⟩
          case round =>
            clear A4 hge hk
            obtain ⟨k, Z, rfl, hk, rfl, hZ, hB⟩ := hrel
            by_cases hlt : k < 256
            · have hlt' : (k : Int) < 256 := by omega
              have hZb : Z.size ≤ 2000 := by omega
              go_wp2
              go_roundw
              case rel => exact ⟨k + 1, Z ++ ⟨#[120, 10]⟩, by go_num, by omega, rfl, by rw [ByteArray.size_append, hZ]; rfl, hB⟩
              case measure => simp [intOf]; omega
            · have hge : ¬ (k : Int) < 256 := by omega
              have hZb : Z.size ≤ 2000 := by omega
              clear hZ
              go_upto_region 27 with fail
              have hsz := hB.size
              have F4 : FourK w ((((wr.alloc (.cells #[.string ⟨#[97]⟩, .string ⟨#[120]⟩, .string ⟨#[120, 47, 121]⟩, .string ⟨#[]⟩] 9)).alloc (.cells #[.string ⟨#[33, 120]⟩, .string ⟨#[33, 33, 120]⟩, .string ⟨#[32, 33, 32, 120, 13]⟩, .string ⟨#[35, 120]⟩, .string ⟨#[33, 97, 47, 98]⟩, .string ⟨#[33, 42]⟩, .string ⟨#[33, 35, 120]⟩, .string ⟨#[92, 33, 120]⟩, .string ⟨#[33, 92, 33, 120]⟩, .string ⟨#[120]⟩, .string ⟨#[]⟩, .string ⟨#[33, 42, 42]⟩, .string ⟨#[33, 32]⟩] 9)).alloc (.cells #[.string ⟨#[]⟩, .string ⟨#[120]⟩, .string ⟨#[97, 47, 98, 10, 42, 10]⟩, .string ⟨#[33, 120]⟩, .string ⟨#[42, 42, 10, 33, 97]⟩, .string ⟨#[35]⟩, .string ⟨#[33, 92, 33, 42]⟩] 9)).alloc (.cells #[.string ⟨#[120]⟩, .string ⟨#[33, 120]⟩, .string ⟨#[97, 47, 98]⟩, .string ⟨#[97, 47, 98, 47, 99]⟩, .string ⟨#[35, 120]⟩, .string ⟨#[]⟩, .string ⟨#[120, 47, 121]⟩] 9)) wr.heap.size (wr.heap.size + 1) (wr.heap.size + 1 + 1) (wr.heap.size + 1 + 1 + 1) := four_new hB
              generalize ((((wr.alloc (.cells #[.string ⟨#[97]⟩, .string ⟨#[120]⟩, .string ⟨#[120, 47, 121]⟩, .string ⟨#[]⟩] 9)).alloc (.cells #[.string ⟨#[33, 120]⟩, .string ⟨#[33, 33, 120]⟩, .string ⟨#[32, 33, 32, 120, 13]⟩, .string ⟨#[35, 120]⟩, .string ⟨#[33, 97, 47, 98]⟩, .string ⟨#[33, 42]⟩, .string ⟨#[33, 35, 120]⟩, .string ⟨#[92, 33, 120]⟩, .string ⟨#[33, 92, 33, 120]⟩, .string ⟨#[120]⟩, .string ⟨#[]⟩, .string ⟨#[33, 42, 42]⟩, .string ⟨#[33, 32]⟩] 9)).alloc (.cells #[.string ⟨#[]⟩, .string ⟨#[120]⟩, .string ⟨#[97, 47, 98, 10, 42, 10]⟩, .string ⟨#[33, 120]⟩, .string ⟨#[42, 42, 10, 33, 97]⟩, .string ⟨#[35]⟩, .string ⟨#[33, 92, 33, 42]⟩] 9)).alloc (.cells #[.string ⟨#[120]⟩, .string ⟨#[33, 120]⟩, .string ⟨#[97, 47, 98]⟩, .string ⟨#[97, 47, 98, 47, 99]⟩, .string ⟨#[35, 120]⟩, .string ⟨#[]⟩, .string ⟨#[120, 47, 121]⟩] 9)) = W4 at *
              generalize wr.heap.size + 1 + 1 + 1 = g3 at *
              generalize wr.heap.size + 1 + 1 = g2 at *
              generalize wr.heap.size + 1 = g1 at *
              generalize wr.heap.size = g0 at *
              have HF4 : Hid (FourK w W4 g0 g1 g2 g3) := F4
              clear F4 hB hsz
              go_wp2
              go_loopw [13, 14, 15] (fun i _ _ wr2 => ∃ a : Nat, i = .int .i64 a ∧ a ≤ 13 ∧ Hid (FourK w wr2 g0 g1 g2 g3)) (fun i _ _ _ => 13 - (intOf i).toNat)
              case atStart => exact ⟨0, rfl, Nat.zero_le _, HF4⟩
              case round =>
                clear HF4
                obtain ⟨a, rfl, ha, HF⟩ := hrel
                by_cases hla : a < 13
                · have hla' : (a : Int) < 13 := by omega
                  have ha0 : (0 : Int) ≤ (a : Int) := by omega
                  obtain ⟨ln, hln⟩ : ∃ x, linesK[a]? = some x := ⟨_, List.getElem?_eq_getElem hla⟩
                  have HLN : Hid (linesK[a]? = some ln) := hln
                  have qln := lines_size ln (List.mem_of_getElem? hln)
                  clear hln
                  go_wp2
                  go_loopw [14, 15] (fun i _ wr2 => ∃ b : Nat, i = .int .i64 b ∧ b ≤ 7 ∧ Hid (FourK w wr2 g0 g1 g2 g3)) (fun i _ _ => 7 - (intOf i).toNat)
                  case atStart => exact ⟨0, rfl, Nat.zero_le _, HF⟩
                  case round =>
                    clear HF
                    obtain ⟨b, rfl, hb, HF⟩ := hrel
                    by_cases hlb : b < 7
                    · have hlb' : (b : Int) < 7 := by omega
                      have hb0 : (0 : Int) ≤ (b : Int) := by omega
                      obtain ⟨tx, htx⟩ : ∃ x, textsK[b]? = some x := ⟨_, List.getElem?_eq_getElem hlb⟩
                      have HTX : Hid (textsK[b]? = some tx) := htx
                      have qtx := texts_size tx (List.mem_of_getElem? htx)
                      clear htx
                      go_wp2
                      go_loopw [15] (fun i wr2 => ∃ c : Nat, i = .int .i64 c ∧ c ≤ 7 ∧ Hid (FourK w wr2 g0 g1 g2 g3)) (fun i _ => 7 - (intOf i).toNat)
                      case atStart => exact ⟨0, rfl, Nat.zero_le _, HF⟩
                      case round =>
                        clear HF
                        obtain ⟨c, rfl, hc, HF⟩ := hrel
                        by_cases hlc : c < 7
                        · have hlc' : (c : Int) < 7 := by omega
                          have hc0 : (0 : Int) ≤ (c : Int) := by omega
                          obtain ⟨pa, hpa⟩ : ∃ x, pathsK[c]? = some x := ⟨_, List.getElem?_eq_getElem hlc⟩
                          have qpa := paths_size pa (List.mem_of_getElem? hpa)
                          have HS : Hid (∀ W, FourK w W g0 g1 g2 g3 → (W.cell? ⟨g2, b, none⟩ = some (.string tx) ∧ W.cell? ⟨g1, a, none⟩ = some (.string ln) ∧ W.cell? ⟨g3, c, none⟩ = some (.string pa) ∧ FourK w W g0 g1 g2 g3)) := fun W hW => ⟨hW.t2.cell HTX.out, hW.t1.cell HLN.out, hW.t3.cell hpa, hW⟩
                          have HS0 : Hid (wr.drew.cell? ⟨g2, b, none⟩ = some (.string tx) ∧ wr.drew.cell? ⟨g1, a, none⟩ = some (.string ln) ∧ wr.drew.cell? ⟨g3, c, none⟩ = some (.string pa) ∧ FourK w wr.drew g0 g1 g2 g3) := HS.out wr.drew (FourK.below (W2 := wr.drew) HF.out (show Below wr.heap.size wr wr.drew from ⟨rfl, rfl, rfl, Nat.le_refl _, fun _ _ => rfl⟩))
                          have HKP : Hid (∀ W1 W2, Below W1.heap.size W1 W2 → FourK w W1 g0 g1 g2 g3 → (W2.cell? ⟨g2, b, none⟩ = some (.string tx) ∧ W2.cell? ⟨g1, a, none⟩ = some (.string ln) ∧ W2.cell? ⟨g3, c, none⟩ = some (.string pa) ∧ FourK w W2 g0 g1 g2 g3)) := fun W1 W2 bb h => HS.out W2 (h.below bb)
                          have qtx2 : tx.size ≤ 1048576 := Nat.le_trans qtx (by decide)
                          have qln2 : ln.size ≤ 1048576 := Nat.le_trans qln (by decide)
                          have qpa2 : pa.size ≤ 1048576 := Nat.le_trans qpa (by decide)
                          have q1 : (tx ++ ⟨#[10]⟩ ++ ln).size ≤ 1048576 := by rw [ByteArray.size_append, ByteArray.size_append]; show tx.size + 1 + ln.size ≤ _; omega
                          have HLA : Hid (∀ W, FourK w W g0 g1 g2 g3 → Calls Tryz.prog 46 #[.string tx, .string ln, .string pa] W fun e w' => e = .returned (.bool true) ∧ Below W.heap.size W w') := fun W hW => HL.out tx ln pa W qtx2 qln2 qpa2 (HE.out W hW.bel)
                          have HOA : Hid (∀ W, FourK w W g0 g1 g2 g3 → Calls Tryz.prog 47 #[.string tx, .string (tx ++ ⟨#[10]⟩ ++ ln), .slice (some ⟨g3, 0, none⟩) 7 7] W fun e w' => e = .returned (.bool true) ∧ Below W.heap.size W w') := fun W hW => out_paths tx _ W g3 hW.t3 (HE.out W hW.bel) qtx2 q1
                          have hb1 : ∀ W, (Op.stringOp .add tx ⟨#[10]⟩).run Tryz.prog W = .ok (.string (tx ++ ⟨#[10]⟩)) W := fun W => run_string_add_sum W tx ⟨#[10]⟩ (by show tx.size + 1 ≤ _; omega)
                          have hb2 : ∀ W, (Op.stringOp .add (tx ++ ⟨#[10]⟩) ln).run Tryz.prog W = .ok (.string (tx ++ ⟨#[10]⟩ ++ ln)) W := fun W => run_string_add_sum W (tx ++ ⟨#[10]⟩) ln (by rw [ByteArray.size_append]; show tx.size + 1 + ln.size ≤ _; omega)
                          clear hpa HS HF
                          go_wp2_with fail
                          go_region_held3 (fun w' => w'.cell? ⟨g2, b, none⟩ = some (.string tx) ∧ w'.cell? ⟨g1, a, none⟩ = some (.string ln) ∧ w'.cell? ⟨g3, c, none⟩ = some (.string pa) ∧ FourK w w' g0 g1 g2 g3)
                            (first | exact HS0.out | (go_split_ands; exact HKP.out _ _ b9 (by assumption)))
                            (first
                              | (go_at_call 46; go_split_ands; with_reducible refine (HLA.out _ (by assumption)).mono ?_; rintro e w9 ⟨rfl, b9⟩)
                              | (go_at_call 47; go_split_ands; with_reducible refine (HOA.out _ (by assumption)).mono ?_; rintro e w9 ⟨rfl, b9⟩))
                          have HF9 : FourK w w9 g0 g1 g2 g3 := by first | assumption | (go_split_ands; assumption)
                          go_wp2
                          go_roundw
                          case rel => exact ⟨c + 1, by go_num, by omega, HF9⟩
                          case measure => simp [intOf]; omega
                        · have hlc' : ¬ (c : Int) < 7 := by omega
                          go_wp2
                          go_roundw
                          case rel => exact ⟨b + 1, by go_num, by omega, HF⟩
                          case measure => simp [intOf]; omega
                    · have hlb' : ¬ (b : Int) < 7 := by omega
                      go_wp2
                      go_roundw
                      case rel => exact ⟨a + 1, by go_num, by omega, HF⟩
                      case measure => simp [intOf]; omega
                · have hla' : ¬ (a : Int) < 13 := by omega
                  have HOP : Hid (∀ (x y : ByteArray) W, FourK w W g0 g1 g2 g3 → x.size ≤ 1048576 → y.size ≤ 1048576 → Calls Tryz.prog 47 #[.string x, .string y, .slice (some ⟨g0, 0, none⟩) 4 4] W fun e w' => e = .returned (.bool true) ∧ Below W.heap.size W w') := fun x y W hW hx hy => globout_law x y psK (.slice (some ⟨g0, 0, none⟩) 4 4) W (HE.out W hW.bel) hx hy hW.t0.texts (fun x hx => by have := ps_size x hx; omega)
                  have r1 : Z.size ≤ 1048576 := by omega
                  have r2 : (Z ++ ⟨#[97]⟩ : ByteArray).size ≤ 1048576 := by rw [ByteArray.size_append]; show Z.size + 1 ≤ _; omega
                  have r3 : (Z ++ ⟨#[35, 10, 32, 9, 13, 10]⟩ : ByteArray).size ≤ 1048576 := by rw [ByteArray.size_append]; show Z.size + 6 ≤ _; omega
                  have r4 : (Z ++ ⟨#[91]⟩ : ByteArray).size ≤ 1048576 := by rw [ByteArray.size_append]; show Z.size + 1 ≤ _; omega
                  go_wp2_with fail
                  refine (HOP.out _ _ _ HF.out r1 r2).mono ?_
                  rintro e x1 ⟨rfl, y1⟩
                  have F1 := HF.out.below y1
                  go_wp2_with fail
                  refine (HOP.out _ _ _ F1 r3 r4).mono ?_
                  rintro e x2 ⟨rfl, y2⟩
                  have F2 := F1.below y2
                  go_wp2_with fail
                  refine (HOP.out _ _ _ F2 (by decide) (by decide)).mono ?_
                  rintro e x3 ⟨rfl, y3⟩
                  have F3 := F2.below y3
                  go_wp2_with fail
                  refine (HOP.out _ _ _ F3 (by decide) (by decide)).mono ?_
                  rintro e x4 ⟨rfl, y4⟩
                  have F4 := F3.below y4
                  go_wp2
                  go_ret
                  exact ⟨rfl, F4.bel⟩
end Go.Proofs.YthkbhcefckbcnaaGreatDoor

namespace Go.Proofs.YthkbhcefckbcnaaGreatDoor
open Go Go.RowKit

theorem match_ok : MatchOK := fun p q W hp hq hE => match_law p q W hE hp hq
theorem last_ok : LastOK := fun x y z W hx hy hz hE => last_law x y z W hE (by omega) (by omega) (by omega)
set_option maxRecDepth 100000 in
theorem globknown_law (w : World) (hg : ErrType w) : Calls Tryz.prog 5 #[] w fun e w' => e = .returned (.bool true) ∧ Below w.heap.size w w' := by
  go_enter Tryz.func5, Tryz.ntmps5
  go_wp2_with fail
  refine (shown_p w hg).mono ?_
  rintro e w1 ⟨rfl, b1⟩
  go_wp2_with fail
  refine (edged_p match_ok last_ok w1 (hg.below b1)).mono ?_
  rintro e w2 ⟨rfl, b2⟩
  go_wp2
  go_ret
  exact ⟨rfl, joinT b1 b2⟩
end Go.Proofs.YthkbhcefckbcnaaGreatDoor

namespace Go.Proofs.YthkbhcefckbcnaaGreatDoor.fnGlobKnown
open Go.ChangeShapes Go.WideShapes Go.ChangeAt Go.RowKit
open Go.WideMaps Go.WideElems
open Go.ChangeMaps (open_string shut_string)

abbrev listed : List (String × DataW Unit) := listedU
set_option maxRecDepth 100000 in
theorem contract (H : Type) (enc : TypeId × Value → H) (W : World) (base : Nat) (args : Array Value) (ds gs : List (DataW H)) (before : List MemPlace)
    (hval : ∀ (j : Nat) t v, Tryz.f5.params[j]? = some t → args[j]? = some v → Value.okWide Tryz.prog W .any base t v)
    (hW : DataW.Whole enc Tryz.prog Tryz.f5.params.toList Rows.globKnownSpec.vars false W args.toList ds gs before)
    (hz : (DataW.weightsEach Tryz.prog (Tryz.f5.params.toList ++ (OpenSpec.ofChange Rows.globKnownSpec).bare.plain.varTypes Tryz.prog) (ds ++ gs)).all (· ≤ reachBytes) = true)
    (hL : laidMetH Tryz.prog listed W) :
    Calls Tryz.prog 5 args W fun e W' => ∃ v, e = .returned v ∧ Rows.globKnownSpec.post enc Tryz.prog Tryz.f5 false true false false W args v W' := by
  have hW' := hW
  obtain ⟨p, q, hA0, hV, rfl, hfz, hnd⟩ := hW
  have hA : DataW.TrodAll enc Tryz.prog W 0 (fun _ => true) true Tryz.f5.params.toList args.toList ds p := hA0
  rw [Tryz.params5] at hA hval
  obtain ⟨hargs, rfl, rfl⟩ := trodAll_nil hA
  obtain rfl : args = #[] := by cases args; simp_all
  obtain ⟨rfl, rfl⟩ := trodVars_none hV
  clear hA0
  simp only [List.append_nil] at hW'
  refine (globknown_law W (handle_of_laidU hL)).mono fun e W' ⟨he, hg⟩ => ?_
  subst he
  have e1 : Rows.globKnownSpec.fn H ([] ++ []) = { results := [.lit (.bool true)], args := [] } := by simp [Rows.globKnownSpec]
  refine ⟨_, rfl, _, _, _, [], [], [], hW', ?_, ?_, ?_, hg.frame _, fun h => by cases h⟩
  · rw [e1]; exact trodAll_mk1 (shut_bool Tryz.underlying4 true)
  · rw [e1]; exact trodAll_mk0
  · rw [e1]; rfl

set_option maxRecDepth 100000 in
theorem met (os : Os) (args : Array Value) : laidMetH Tryz.prog listed ((laidWorldU os).forCall (fun _ _ => 0) ⟨#[], args, []⟩).memory :=
  laidMetH_of_parts (laidMet_of_run' 8 (by kernel_rfl) (by kernel_rfl)) (by kernel_rfl)
theorem reads (os : Os) {H : Type} (enc : TypeId × Value → H) : ∃ places, DataW.whole enc Tryz.prog ((laidWorldU os).forCall (fun _ _ => 0) ⟨#[], #[], []⟩).memory Tryz.f5.params.toList Rows.globKnownSpec.vars false (#[] : Array Value).toList 8 = some ([], [], places) :=
  ⟨[], by kernel_rfl⟩

set_option maxRecDepth 100000 in
theorem lifted (os : Os) (started : os.Started) (H : Type) (enc : TypeId × Value → H) (F : Stop.Interp) :
    ReturnsInHanded {} Tryz.checked os 5 .any ((OpenSpec.ofChange Rows.globKnownSpec).preRow enc Tryz.prog Tryz.f5 Rows.globKnownRow.domain false Rows.globKnownRow.laid) (((OpenSpec.ofChange Rows.globKnownSpec).at F).post enc Tryz.prog Tryz.f5 false true false false) := by
  obtain ⟨places, hx⟩ := reads os enc
  refine returnsInHanded_of_row (C := Tryz.checked) (s := OpenSpec.ofChange Rows.globKnownSpec) own started (by kernel_rfl) Tryz.func5
    (witness_row_at (enc := enc) (C := Tryz.checked) false (laidWorldU os) #[] rfl (by kernel_rfl) (by kernel_rfl) (by kernel_rfl)
      (OpenSpec.preRow_of_cond 8 hx (by kernel_rfl) (fun k hk => by cases hk) (by kernel_rfl) (met os _))) ?_
  intro W base args ds gs before hval hW _ _ hz hL _ _
  exact contract H enc W base args ds gs before hval hW hz hL

theorem said : Rows.GlobKnownSaid :=
  OpenClaim.holds_of_cond 5 Tryz.f5 rfl rfl rfl rfl rfl rfl rfl ⟨rfl, rfl, rfl, rfl, rfl⟩ rfl rfl rfl rfl rfl (by kernel_rfl) Tryz.func5 (by kernel_rfl)
    (of_decide_eq_true (by kernel_rfl)) (by unfold Func.isWrapper; rw [if_neg (of_decide_eq_false (by kernel_rfl))]; exact ⟨rfl, rfl⟩)
    (fun os started H enc _ F => by rw [OpenClaim.pre_eq_preRow]; exact lifted os started H enc F)

theorem plainly (f : FuncId) (fn : Func) (hf : Tryz.pinned.checked.prog.funcNamed "strata/stratalaw02.GlobKnown" = some f) (hfn : Tryz.pinned.checked.prog.funcs[f]? = some fn) :
    true = Tryz.pinned.checked.prog.looks [] ∧ ∀ (j : Nat) t, fn.params[j]? = some t → Tryz.pinned.checked.prog.wantsStandIn t = false := by
  obtain rfl : f = 5 := Option.some.inj ((show Tryz.prog.funcNamed "strata/stratalaw02.GlobKnown" = some 5 by kernel_rfl).symm.trans hf) |>.symm
  obtain rfl : fn = Tryz.f5 := (Option.some.inj (Tryz.func5.symm.trans hfn)).symm
  refine ⟨by kernel_rfl, fun j t ht => ?_⟩
  rw [Tryz.params5] at ht
  simp at ht

theorem card : Rows.GlobKnownCardSaid :=
  Claim7.holds_tied_plain_at .later [] _ _ _ _ said (fun _ h => by cases h) (by kernel_rfl) (fun _ h => by cases h) globKnown_row_tie rfl ⟨rfl, rfl⟩ (by kernel_rfl) rfl plainly (by kernel_rfl)
end Go.Proofs.YthkbhcefckbcnaaGreatDoor.fnGlobKnown
namespace Go.Proofs.YthkbhcefckbcnaaGreatDoor
theorem globKnown_card : Rows.GlobKnownCardSaid := fnGlobKnown.card
end Go.Proofs.YthkbhcefckbcnaaGreatDoor
