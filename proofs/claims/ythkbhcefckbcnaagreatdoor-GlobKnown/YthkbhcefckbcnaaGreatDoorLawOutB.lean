/- GlobOut, walked: of every list the error and its line, or what it says of every text, asked again, beside another list. -/
import Derived.Test.YthkbhcefckbcnaaGreatDoorRefSetD
import Derived.Test.YthkbhcefckbcnaaGreatDoorPattern
import Derived.Test.YthkbhcefckbcnaaGreatDoorTakeN
import Derived.Deep.LoopGhost
import Derived.Test.YthkbhcefckbcnaaGreatDoorShelf
import Derived.Test.YthkbhcefckbcnaaGreatDoorSpec
import Derived.WalkKit
import Derived.WalkSpells
import Derived.Scope
import Derived.Deep.QuietTactic
import Derived.BigQuiet
import Derived.Outline
import Derived.Laws.RangeAny
import Derived.Lib.OthersKept
import Derived.Lib.DecodeN
import Derived.Lib.IndexAny
import Derived.Test.YthkbhcefckbcnaaGreatDoorPlain
import Derived.Test.YthkbhcefckbcnaaGreatDoorNamesM
import Derived.Test.YthkbhcefckbcnaaGreatDoorReadP
import Derived.Test.YthkbhcefckbcnaaGreatDoorRefNames
import Derived.Test.YthkbhcefckbcnaaGreatDoorTrim
import Derived.Deep.CutRange
import Derived.Laws.OwnMore
import Derived.Laws.Tables
import Derived.Laws.CopyOwn
import Derived.Test.YthkbhcefckbcnaaGreatDoorParseL
import Derived.Deep.RegionHeld3
import Derived.Test.YthkbhcefckbcnaaGreatDoorPlaceFO
import Derived.Test.YthkbhcefckbcnaaGreatDoorOutP

namespace Go.Proofs.YthkbhcefckbcnaaGreatDoor
open Go Go.RowKit

/-- No row of bools lies there. -/
def NoBools (A : World) (row : Option Nat) : Prop := ∀ k, row = some k → ∀ cur fr, A.heap[k]? ≠ some (.cells cur 4 fr)
theorem NoBools.none (A : World) : NoBools A none := fun _ e => by cases e
theorem Lies.turnB {A B : World} {row : Option Nat} {g : Nat} {cur : Array Value} (h : Lies A g 4 cur) (hg : A.grownBy B row) (hn : NoBools A row) : Lies B g 4 cur :=
  (hg.block g h.lt (fun e => hn g e.symm cur (0, 0) h)).trans h
/-- How a part's two cells tell what it takes. -/
def RPartRep (W : World) (p : Taker UInt8) (a b : Value) : Prop :=
  match p with
  | none => a = .bool true ∧ b = .slice none 0 0
  | some st => ∃ g, a = .bool false ∧ b = .slice (some ⟨g, 0, none⟩) 256 256 ∧ Lies W g 4 (rowB 256 (setRow st))
theorem RPartRep.turn {A B : World} {row : Option Nat} {p : Taker UInt8} {a b : Value} (h : RPartRep A p a b) (hg : A.grownBy B row) (hn : NoBools A row) : RPartRep B p a b := by
  cases p with
  | none => exact h
  | some st => obtain ⟨g, h1, h2, h3⟩ := h; exact ⟨g, h1, h2, h3.turnB hg hn⟩
def RPartsRep (W : World) : List (Taker UInt8) → List Value → Prop
  | [], cs => cs = []
  | p :: ps, cs => ∃ a b rest, RPartRep W p a b ∧ cs = a :: b :: rest ∧ RPartsRep W ps rest
theorem RPartsRep.turn {A B : World} {row : Option Nat} (hg : A.grownBy B row) (hn : NoBools A row) : ∀ {ps : List (Taker UInt8)} {cs : List Value}, RPartsRep A ps cs → RPartsRep B ps cs
  | [], _, h => h
  | _ :: _, _, ⟨a, b, rest, h1, e, hr⟩ => ⟨a, b, rest, h1.turn hg hn, e, hr.turn hg hn⟩
theorem RPartsRep.snoc {W : World} : ∀ {ps : List (Taker UInt8)} {cs : List Value} {p : Taker UInt8} {a b : Value}, RPartsRep W ps cs → RPartRep W p a b → RPartsRep W (ps ++ [p]) (cs ++ [a, b])
  | [], cs, p, a, b, h, hp => by
    have e : cs = [] := h
    subst e
    exact ⟨a, b, [], hp, rfl, rfl⟩
  | q :: ps, cs, p, a, b, ⟨c, d, rest, h1, e, hr⟩, hp => ⟨c, d, rest ++ [a, b], h1, by rw [e]; simp, hr.snoc hp⟩
theorem RPartsRep.at {W : World} : ∀ {ps : List (Taker UInt8)} {cs : List Value} {i : Nat} {p : Taker UInt8}, RPartsRep W ps cs → ps[i]? = some p → ∃ a b, RPartRep W p a b ∧ cs[i * 2]? = some a ∧ cs[i * 2 + 1]? = some b
  | [], _, _, _, _, h => by simp at h
  | q :: ps, cs, 0, p, ⟨a, b, rest, h1, e, hr⟩, h => by
    simp at h; subst h; subst e
    exact ⟨a, b, h1, rfl, rfl⟩
  | q :: ps, cs, i + 1, p, ⟨a, b, rest, h1, e, hr⟩, h => by
    obtain ⟨c, d, hcd, h2, h3⟩ := hr.at (i := i) (by simpa using h)
    subst e
    exact ⟨c, d, hcd, by rw [show (i + 1) * 2 = i * 2 + 1 + 1 by omega]; simpa using h2, by rw [show (i + 1) * 2 + 1 = i * 2 + 1 + 1 + 1 by omega]; simpa using h3⟩
theorem info_rpartAll : (Tryz.prog.info? 133).map (fun i => (i.zero, i.size, i.bytes)) = some (some (.agg #[.bool false, .slice none 0 0]), 2, 32) := by kernel_rfl
/-- What Parts owes. -/
def RPartsPost (s : ByteArray) (w : World) (e : Ending) (w' : World) : Prop :=
  ((∃ (ps : List (Taker UInt8)) (v : Value) (cs : List Value), partsOf (un s) = some ps ∧ RPartsRep w' ps cs ∧ w'.ownsRow w.heap.size 133 2 v ps.length cs ∧ e = .returned (.tuple #[v, .bool true])) ∨
   (partsOf (un s) = none ∧ e = .returned (.tuple #[.slice none 0 0, .bool false]))) ∧ Below w.heap.size w w'
theorem rpart_star (l : List UInt8) : rPart (42 :: l) = some (none, l) := rfl
theorem rpart_any (l : List UInt8) : rPart (63 :: l) = some (some fun _ => true, l) := rfl
theorem rpart_set (l : List UInt8) : rPart (91 :: l) = match rSet l with | none => none | some (s, r2) => some (some s, r2) := rfl
theorem rpart_one (c : UInt8) (l : List UInt8) (h1 : c ≠ 42) (h2 : c ≠ 63) (h3 : c ≠ 91) : rPart (c :: l) = match rByte (c :: l) with | none => none | some (b, r2) => some (some fun x => x == b, r2) := by
  simp only [rPart]; rw [if_neg (by simpa using h1), if_neg (by simpa using h2), if_neg (by simpa using h3)]; rfl

theorem rparts_app {X w1 : World} {base : Nat} {v : Value} {ps : List (Taker UInt8)} {cs : List Value} {p : Taker UInt8} {a b : Value} (h1 : RPartsRep X ps cs) (h2 : RPartRep X p a b) (ho : X.ownsRow base 133 2 v ps.length cs) (hg : (X.alloc (.cells #[a, b] 133)).grownBy w1 v.ownBlock) : RPartsRep w1 (ps ++ [p]) (cs ++ [a, b]) := by
  have h3 := (h1.snoc h2).turn (World.grownBy_alloc X (.cells #[a, b] 133) none) (NoBools.none _)
  refine h3.turn hg ?_
  intro k e cur fr hk
  obtain ⟨_, cur2, hc2⟩ := own_ge (ho.alloc (.cells #[a, b] 133)) k e.symm
  rw [hk] at hc2; simp at hc2
theorem single_any (w : World) : Calls Tryz.prog 83 #[.int .u8 0, .bool true] w fun e w' => ∃ g, e = .returned (.agg #[.bool false, .slice (some ⟨g, 0, none⟩) 256 256]) ∧ w.heap.size ≤ g ∧ Lies w' g 4 (rowB 256 (setRow fun _ => true)) ∧ Below w.heap.size w w' := single_r 0 true w
theorem single_one (c : UInt8) (w : World) : Calls Tryz.prog 83 #[.int .u8 c.toNat, .bool false] w fun e w' => ∃ g, e = .returned (.agg #[.bool false, .slice (some ⟨g, 0, none⟩) 256 256]) ∧ w.heap.size ≤ g ∧ Lies w' g 4 (rowB 256 (setRow fun x => x == c)) ∧ Below w.heap.size w w' := single_r c false w
theorem parts_step {s : ByteArray} {q j : Nat} {ps : List (Taker UInt8)} {p : Taker UInt8} (h : partsOf (un s) = (partsOf ((un s).drop q)).map (ps ++ ·)) (hr : rPart ((un s).drop q) = some (p, (un s).drop j)) : partsOf (un s) = (partsOf ((un s).drop j)).map ((ps ++ [p]) ++ ·) := by
  rw [h, partsOf_on hr, Option.map_map]
  congr 1; funext z; simp
theorem parts_stop {s : ByteArray} {q : Nat} {ps : List (Taker UInt8)} (h : partsOf (un s) = (partsOf ((un s).drop q)).map (ps ++ ·)) (hne : (un s).drop q ≠ []) (hr : rPart ((un s).drop q) = none) : partsOf (un s) = none := by
  rw [h, partsOf_wrong hne hr]; rfl

set_option maxRecDepth 100000 in
set_option maxHeartbeats 8000000 in
theorem parts_r (s : ByteArray) (w : World) (hs : s.size ≤ 1099511627776) : Calls Tryz.prog 50 #[.string s] w (RPartsPost s w) := by
  obtain ⟨i0, hi, hz0, hz1, hz2⟩ := info_parts info_rpartAll
  go_enter Tryz.func50, Tryz.ntmps50
  go_wp2
  go_loopg [4, 5] (s.size + 1) (fun gk v n wr => ∃ (q : Nat) (ps : List (Taker UInt8)) (cs : List Value), n = .int .i64 q ∧ q ≤ s.size ∧ ps.length ≤ q ∧ Aside (s.size + 1 - q ≤ gk ∧ partsOf (un s) = (partsOf ((un s).drop q)).map (ps ++ ·) ∧ RPartsRep wr ps cs) ∧ wr.ownsRow w.heap.size 133 2 v ps.length cs ∧ Below w.heap.size w wr)
  case atStart => exact ⟨0, [], [], rfl, Nat.zero_le _, Nat.zero_le _, ⟨by omega, by rw [List.drop_zero]; cases partsOf (un s) <;> rfl, rfl⟩, World.ownsRow_nil _ _ _ _, Below.refl _ _⟩
  case round =>
    obtain ⟨q, ps, cs, rfl, hq, hpl, HP, hown, hB⟩ := hrel
    by_cases hlt : q < s.size
    · have hd := drop_cons s q hlt
      have hne : (un s).drop q ≠ [] := by rw [hd]; simp
      have d2 : (0 : Int) ≤ (q : Int) := by omega
      have d3 : (q : Int) < (s.size : Int) := by omega
      by_cases h42 : s[q].toNat = 42
      · have HN : Aside _ := parts_step (p := none) (j := q + 1) HP.out.2.1 (by rw [hd, show s[q] = 42 from UInt8.toNat_inj.1 h42]; exact rpart_star _)
        clear hd hne
        have HNC : Hid (∀ (j : Nat) u, ([.bool true, .slice none 0 0] : List Value)[j]? = some u → (wr.alloc (.cells #[.bool true, .slice none 0 0] 133)).cell? ((⟨wr.heap.size, 0, none⟩ : Addr).add j) = some u) := cells_new wr #[.bool true, .slice none 0 0] 133
        go_wp2_with (at_builtin; refine wpList_append_own _ rfl _ _ 88 rfl w.heap.size 133 i0 (.agg #[.bool false, .slice none 0 0]) 2 32 Tryz.underlying88 hi hz0 hz1 hz2 rfl (by decide) _ _ _ rfl (hown.alloc _) ⟨wr.heap.size, 0, none⟩ 1 1 [.bool true, .slice none 0 0] rfl rfl HNC.out (by simp [Value.oneCell']) (by unfold maxLen; omega) (by omega) (by have := hB.size; simp; omega) ?_; intro v1 w1 hown1 hgrow1 _)
        have hb1 : Below w.heap.size w w1 := (hB.alloc hB.size _).grown hgrow1 (by have := hB.size; simp; omega) (fun j hj => (own_ge hown j hj.symm).1)
        go_roundg (s.size + 1 - (q + 1))
        case rel => exact ⟨q + 1, ps ++ [none], _, by go_num, by omega, by simp; omega, ⟨Nat.le_refl _, HN.out, rparts_app (p := none) HP.out.2.2 ⟨rfl, rfl⟩ hown hgrow1⟩, by rw [List.length_append]; exact hown1, hb1⟩
        case measure => have := HP.out.1; omega
      · by_cases h63 : s[q].toNat = 63
        · have HN : Aside _ := parts_step (p := some fun _ => true) (j := q + 1) HP.out.2.1 (by rw [hd, show s[q] = 63 from UInt8.toNat_inj.1 h63]; exact rpart_any _)
          clear hd hne
          go_wp2_with fail
          refine (single_any _).mono ?_
          rintro e w2 ⟨g, rfl, hgg, hL, b2⟩
          have hown2 := own_below hown b2
          have hB2 := hB.trans (b2.mono hB.size)
          have HP2 : Aside (RPartsRep w2 ps cs ∧ RPartRep w2 (some fun _ => true) (.bool false) (.slice (some ⟨g, 0, none⟩) 256 256)) := ⟨HP.out.2.2.turn (grown_of_below b2) (NoBools.none _), g, rfl, rfl, hL⟩
          clear hown hB hL b2
          have HNC : Hid (∀ (j : Nat) u, ([.bool false, .slice (some ⟨g, 0, none⟩) 256 256] : List Value)[j]? = some u → (w2.alloc (.cells #[.bool false, .slice (some ⟨g, 0, none⟩) 256 256] 133)).cell? ((⟨w2.heap.size, 0, none⟩ : Addr).add j) = some u) := cells_new w2 #[.bool false, .slice (some ⟨g, 0, none⟩) 256 256] 133
          go_wp2_with (at_builtin; refine wpList_append_own _ rfl _ _ 88 rfl w.heap.size 133 i0 (.agg #[.bool false, .slice none 0 0]) 2 32 Tryz.underlying88 hi hz0 hz1 hz2 rfl (by decide) _ _ _ rfl (hown2.alloc _) ⟨w2.heap.size, 0, none⟩ 1 1 [.bool false, .slice (some ⟨g, 0, none⟩) 256 256] rfl rfl HNC.out (by simp [Value.oneCell']) (by unfold maxLen; omega) (by omega) (by have := hB2.size; simp; omega) ?_; intro v1 w1 hown1 hgrow1 _)
          have hb1 : Below w.heap.size w w1 := (hB2.alloc hB2.size _).grown hgrow1 (by have := hB2.size; simp; omega) (fun j hj => (own_ge hown2 j hj.symm).1)
          go_roundg (s.size + 1 - (q + 1))
          case rel => exact ⟨q + 1, ps ++ [some fun _ => true], _, by go_num, by omega, by simp; omega, ⟨Nat.le_refl _, HN.out, rparts_app HP2.out.1 HP2.out.2 hown2 hgrow1⟩, by rw [List.length_append]; exact hown1, hb1⟩
          case measure => have := HP.out.1; omega
        · by_cases h91 : s[q].toNat = 91
          · have hsq : s[q] = 91 := UInt8.toNat_inj.1 h91
            have hcall := set_r s q wr hs hlt
            unfold RSetPost at hcall
            go_wp2_with fail
            refine hcall.mono ?_
            rintro e w2 ⟨⟨st, j, g, hset, hqj, hjs, hgg, hL, rfl⟩ | ⟨hset, rfl⟩, b2⟩
            · have HN : Aside _ := parts_step (p := some st) (j := j) HP.out.2.1 (by rw [hd, hsq, rpart_set, hset])
              have hown2 := own_below hown b2
              have hB2 := hB.trans (b2.mono hB.size)
              have HP2 : Aside (RPartsRep w2 ps cs ∧ RPartRep w2 (some st) (.bool false) (.slice (some ⟨g, 0, none⟩) 256 256)) := ⟨HP.out.2.2.turn (grown_of_below b2) (NoBools.none _), g, rfl, rfl, hL⟩
              clear hown hB hL b2 hset hd hne hsq hcall
              have HNC : Hid (∀ (j : Nat) u, ([.bool false, .slice (some ⟨g, 0, none⟩) 256 256] : List Value)[j]? = some u → (w2.alloc (.cells #[.bool false, .slice (some ⟨g, 0, none⟩) 256 256] 133)).cell? ((⟨w2.heap.size, 0, none⟩ : Addr).add j) = some u) := cells_new w2 #[.bool false, .slice (some ⟨g, 0, none⟩) 256 256] 133
              go_wp2_with (at_builtin; refine wpList_append_own _ rfl _ _ 88 rfl w.heap.size 133 i0 (.agg #[.bool false, .slice none 0 0]) 2 32 Tryz.underlying88 hi hz0 hz1 hz2 rfl (by decide) _ _ _ rfl (hown2.alloc _) ⟨w2.heap.size, 0, none⟩ 1 1 [.bool false, .slice (some ⟨g, 0, none⟩) 256 256] rfl rfl HNC.out (by simp [Value.oneCell']) (by unfold maxLen; omega) (by omega) (by have := hB2.size; simp; omega) ?_; intro v1 w1 hown1 hgrow1 _)
              have hb1 : Below w.heap.size w w1 := (hB2.alloc hB2.size _).grown hgrow1 (by have := hB2.size; simp; omega) (fun j hj => (own_ge hown2 j hj.symm).1)
              go_roundg (s.size + 1 - j)
              case rel => exact ⟨j, ps ++ [some st], _, by go_num, by omega, by simp; omega, ⟨Nat.le_refl _, HN.out, rparts_app HP2.out.1 HP2.out.2 hown2 hgrow1⟩, by rw [List.length_append]; exact hown1, hb1⟩
              case measure => have := HP.out.1; omega
            · have HN : Aside (partsOf (un s) = none) := parts_stop HP.out.2.1 hne (by rw [hd, hsq, rpart_set, hset])
              clear hset hd hne hsq hcall hown
              go_wp2
              go_ret2
              exact ⟨.inr ⟨HN.out, rfl⟩, hB.trans (b2.mono hB.size)⟩
          · have n42 : s[q] ≠ 42 := fun e => h42 (by rw [e]; rfl)
            have n63 : s[q] ≠ 63 := fun e => h63 (by rw [e]; rfl)
            have n91 : s[q] ≠ 91 := fun e => h91 (by rw [e]; rfl)
            have hrp : rPart ((un s).drop q) = match rByte ((un s).drop q) with | none => none | some (b, r2) => some (some fun x => x == b, r2) := by rw [hd]; exact rpart_one _ _ n42 n63 n91
            have e1 : ((s[q].toNat : Int) == 42) = false := by simp; omega
            have e2 : ((s[q].toNat : Int) == 63) = false := by simp; omega
            have e3 : ((s[q].toNat : Int) == 91) = false := by simp; omega
            have hcall := byteAt_r s q wr hs (by omega)
            unfold BytePost at hcall
            go_wp2_with fail
            refine hcall.mono ?_
            rintro e w2 ⟨⟨b, j, hrb, hqj, hjs, rfl⟩ | ⟨hrb, rfl⟩, hw2⟩
            all_goals replace hw2 := hw2.symm
            all_goals subst hw2
            · have HN : Aside _ := parts_step (p := some fun x => x == b) (j := j) HP.out.2.1 (by rw [hrp, hrb])
              clear hrb hd hne hrp hcall n42 n63 n91
              go_wp2_with fail
              refine (single_one b _).mono ?_
              rintro e w2 ⟨g, rfl, hgg, hL, b2⟩
              have hown2 := own_below hown b2
              have hB2 := hB.trans (b2.mono hB.size)
              have HP2 : Aside (RPartsRep w2 ps cs ∧ RPartRep w2 (some fun x => x == b) (.bool false) (.slice (some ⟨g, 0, none⟩) 256 256)) := ⟨HP.out.2.2.turn (grown_of_below b2) (NoBools.none _), g, rfl, rfl, hL⟩
              clear hown hB hL b2
              have HNC : Hid (∀ (j : Nat) u, ([.bool false, .slice (some ⟨g, 0, none⟩) 256 256] : List Value)[j]? = some u → (w2.alloc (.cells #[.bool false, .slice (some ⟨g, 0, none⟩) 256 256] 133)).cell? ((⟨w2.heap.size, 0, none⟩ : Addr).add j) = some u) := cells_new w2 #[.bool false, .slice (some ⟨g, 0, none⟩) 256 256] 133
              go_wp2_with (at_builtin; refine wpList_append_own _ rfl _ _ 88 rfl w.heap.size 133 i0 (.agg #[.bool false, .slice none 0 0]) 2 32 Tryz.underlying88 hi hz0 hz1 hz2 rfl (by decide) _ _ _ rfl (hown2.alloc _) ⟨w2.heap.size, 0, none⟩ 1 1 [.bool false, .slice (some ⟨g, 0, none⟩) 256 256] rfl rfl HNC.out (by simp [Value.oneCell']) (by unfold maxLen; omega) (by omega) (by have := hB2.size; simp; omega) ?_; intro v1 w1 hown1 hgrow1 _)
              have hb1 : Below w.heap.size w w1 := (hB2.alloc hB2.size _).grown hgrow1 (by have := hB2.size; simp; omega) (fun j hj => (own_ge hown2 j hj.symm).1)
              go_roundg (s.size + 1 - j)
              case rel => exact ⟨j, ps ++ [some fun x => x == b], _, by go_num, by omega, by simp; omega, ⟨Nat.le_refl _, HN.out, rparts_app HP2.out.1 HP2.out.2 hown2 hgrow1⟩, by rw [List.length_append]; exact hown1, hb1⟩
              case measure => have := HP.out.1; omega
            · have HN : Aside (partsOf (un s) = none) := parts_stop HP.out.2.1 hne (by rw [hrp, hrb])
              clear hrb hd hne hrp hcall hown n42 n63 n91
              go_wp2
              go_ret2
              exact ⟨.inr ⟨HN.out, rfl⟩, hB⟩
    · have HN : Aside (partsOf (un s) = some ps) := by
        unfold Aside
        rw [HP.out.2.1, drop_end s q (by omega), partsOf_nil]; simp
      have d3 : ¬ (q : Int) < (s.size : Int) := by omega
      go_wp2
      go_ret2
      exact ⟨.inl ⟨ps, _, cs, HN.out, HP.out.2.2, hown, rfl⟩, hB⟩
end Go.Proofs.YthkbhcefckbcnaaGreatDoor

namespace Go.Proofs.YthkbhcefckbcnaaGreatDoor
open Go Go.RowKit

def anyTo (f : Nat → Bool) (i : Nat) : Bool := (List.range (i + 1)).any f
theorem anyTo_succ (f : Nat → Bool) (i : Nat) : anyTo f (i + 1) = (anyTo f i || f (i + 1)) := by unfold anyTo; rw [List.range_succ (n := i + 1)]; simp
theorem anyTo_zero (f : Nat → Bool) : anyTo f 0 = f 0 := by unfold anyTo; simp
theorem Lies.setB {W : World} {g n k : Nat} {f : Nat → Bool} (h : Lies W g 4 (rowB n f)) (b : Bool) (hk : k < n) : Lies (W.setCell ⟨g, k, none⟩ (.bool b)) g 4 (rowB n (fun i => if i = k then b else f i)) := by
  rw [← rowB_set n f k b hk]; exact h.set _

set_option maxHeartbeats 2000000 in
theorem spread_r (g n : Nat) (f : Nat → Bool) (w : World) (hn : n ≤ 1099511627777) (hl : Lies w g 4 (rowB n f)) : Calls Tryz.prog 122 #[.slice (some ⟨g, 0, none⟩) n n] w fun e w' => e = .returned (.tuple #[]) ∧ Lies w' g 4 (rowB n (anyTo f)) ∧ w.grownBy w' (some g) := by
  go_enter Tryz.func122, Tryz.ntmps122
  go_wp2
  go_loopw [2] (fun i wr => ∃ k : Nat, i = .int .i64 k ∧ 1 ≤ k ∧ (k ≤ n ∨ k = 1) ∧ Lies wr g 4 (rowB n (fun i => if i < k then anyTo f i else f i)) ∧ w.grownBy wr (some g)) (fun i _ => n - (intOf i).toNat)
  case atStart =>
    refine ⟨1, rfl, Nat.le_refl _, .inr rfl, ?_, grown_refl _ _⟩
    rw [rowB_congr (g := f) (fun i _ => by
      by_cases h : i < 1
      · obtain rfl : i = 0 := by omega
        rw [if_pos h, anyTo_zero]
      · rw [if_neg h])]
    exact hl
  case round =>
    obtain ⟨k, rfl, hk1, hk2, hL, hG⟩ := hrel
    by_cases hlt : k < n
    · have c1 := hL.cell (rowB_get n (fun i => if i < k then anyTo f i else f i) k hlt)
      have c2 := hL.cell (rowB_get n (fun i => if i < k then anyTo f i else f i) (k - 1) (by omega))
      rw [if_neg (by omega)] at c1
      rw [if_pos (by omega)] at c2
      have hf := hL.frozen k
      have HLs : Hid (∀ b, Lies (wr.setCell ⟨g, k, none⟩ (.bool b)) g 4 (rowB n (fun i => if i = k then b else if i < k then anyTo f i else f i))) := fun b => hL.setB b hlt
      have HGs : Hid (∀ v, w.grownBy (wr.setCell ⟨g, k, none⟩ v) (some g)) := fun v => grown_set v hG
      have hstep : anyTo f k = (anyTo f (k - 1) || f k) := by obtain ⟨m, rfl⟩ : ∃ m, k = m + 1 := ⟨k - 1, by omega⟩; exact anyTo_succ f m
      have HE : Hid (∀ b, b = anyTo f k → rowB n (fun i => if i = k then b else if i < k then anyTo f i else f i) = rowB n (fun i => if i < k + 1 then anyTo f i else f i)) := fun b hb => rowB_congr (fun i _ => by
        by_cases h : i = k
        · subst h; rw [if_pos rfl, if_pos (by omega), hb]
        · rw [if_neg h]
          by_cases h2 : i < k
          · rw [if_pos h2, if_pos (by omega)]
          · rw [if_neg h2, if_neg (by omega)])
      have d1 : (0 : Int) ≤ (k : Int) := by omega
      have d2 : (k : Int) < (n : Int) := by omega
      have d3 : (0 : Int) ≤ (k : Int) - 1 := by omega
      have d4 : (k : Int) - 1 < (n : Int) := by omega
      have d5 : ((k : Int) - 1).toNat = k - 1 := by omega
      cases hfk : f k
      · have HV : Hid (anyTo f (k - 1) = anyTo f k) := by unfold Hid; rw [hstep, hfk]; simp
        rw [hfk] at c1
        clear hL hG hl hstep hfk
        go_wp2
        go_roundw
        case rel => exact ⟨k + 1, by go_num, by omega, .inl (by omega), by rw [← HE.out _ HV.out]; exact HLs.out _, HGs.out _⟩
        case measure => simp [intOf]; omega
      · have HV : Hid (true = anyTo f k) := by unfold Hid; rw [hstep, hfk]; simp
        rw [hfk] at c1
        clear hL hG hl hstep hfk
        go_wp2
        go_roundw
        case rel => exact ⟨k + 1, by go_num, by omega, .inl (by omega), by rw [← HE.out _ HV.out]; exact HLs.out _, HGs.out _⟩
        case measure => simp [intOf]; omega
    · have HE : Hid (rowB n (fun i => if i < k then anyTo f i else f i) = rowB n (anyTo f)) := rowB_congr (fun i hi => by rw [if_pos (by omega)])
      have HL : Hid (Lies wr g 4 (rowB n (fun i => if i < k then anyTo f i else f i))) := hL
      clear hL hl
      go_wp2
      go_end0
      exact ⟨rfl, by rw [← HE.out]; exact HL.out, hG⟩
end Go.Proofs.YthkbhcefckbcnaaGreatDoor

namespace Go.Proofs.YthkbhcefckbcnaaGreatDoor
open Go Go.RowKit

theorem taken_eq (m : Nat → Bool) (t : Nat → Nat → Bool) (k i : Nat) : takenB m t (k + 1) i = if m k then (List.range (i + 1)).any (fun j => takenB m t k j) else match i with | 0 => false | j + 1 => t k j && takenB m t k j := by cases i <;> rfl
theorem taken_many {m : Nat → Bool} {t : Nat → Nat → Bool} {k : Nat} (h : m k = true) (i : Nat) : takenB m t (k + 1) i = anyTo (takenB m t k) i := by rw [taken_eq, h]; rfl
theorem taken_zero {m : Nat → Bool} {t : Nat → Nat → Bool} {k : Nat} (h : m k = false) : takenB m t (k + 1) 0 = false := by rw [taken_eq, h]; rfl
theorem taken_one {m : Nat → Bool} {t : Nat → Nat → Bool} {k : Nat} (h : m k = false) (i : Nat) : takenB m t (k + 1) (i + 1) = (t k i && takenB m t k i) := by rw [taken_eq, h]; rfl
theorem taken_start (m : Nat → Bool) (t : Nat → Nat → Bool) (i : Nat) : takenB m t 0 i = (i == 0) := rfl

set_option maxRecDepth 100000 in
set_option maxHeartbeats 8000000 in
theorem takes_r (piece name : ByteArray) (ps : List (Taker UInt8)) (w : World) (hp : partsOf (un piece) = some ps) (hs : piece.size ≤ 1099511627775) (hz : name.size ≤ 1099511627776) :
    Calls Tryz.prog 123 #[.string piece, .string name] w fun e w' => e = .returned (.bool (takeI ps (un name))) ∧ Below w.heap.size w w' := by
  have hmk : ∀ W, (Instr.makeSlice 66 (.int .i64 ((name.size : Int) + 1)) (.int .i64 ((name.size : Int) + 1))).run Tryz.prog W = .ok (.slice (some ⟨W.heap.size, 0, none⟩) (name.size + 1) (name.size + 1)) (W.alloc (.cells (rowB (name.size + 1) fun _ => false) 4)) := fun W => make_bools (name.size + 1) (by omega) W
  have hcall := parts_r piece w (by omega)
  have hplen : ps.length ≤ 1099511627776 := by have := partsGo_length hp; rw [un_length] at this; omega
  unfold RPartsPost at hcall
  have Htk : Hid (takeI ps (un name) = takenB (isMany ps) (isTaken ps (un name)) ps.length name.size) := by unfold Hid takeI; rw [un_length]
  obtain ⟨M, hM⟩ : ∃ M, isMany ps = M := ⟨_, rfl⟩
  obtain ⟨T, hT⟩ : ∃ T, isTaken ps (un name) = T := ⟨_, rfl⟩
  rw [hM, hT] at Htk
  have HM : Hid (isMany ps = M) := hM
  have HT : Hid (isTaken ps (un name) = T) := hT
  clear hM hT
  go_enter Tryz.func123, Tryz.ntmps123
  go_wp2_with fail
  refine hcall.mono ?_
  rintro e w1 ⟨⟨ps2, v, cs, hps, hrep, hown, rfl⟩ | ⟨hps, rfl⟩, b1⟩
  rotate_left
  · rw [hp] at hps; cases hps
  rw [hp] at hps
  cases hps
  obtain ⟨o, c, rfl⟩ : ∃ o c, v = .slice o ps.length c := by
    rcases hown.2 with ⟨rfl, h0⟩ | ⟨g, cap, cur, rfl, _⟩
    · exact ⟨none, 0, by rw [h0]⟩
    · exact ⟨_, _, rfl⟩
  have HO : Hid (w1.ownsRow w.heap.size 133 2 (.slice o ps.length c) ps.length cs ∧ RPartsRep w1 ps cs) := ⟨hown, hrep⟩
  have hmk0 : (rowB (name.size + 1) fun _ => false)[0]? = some (.bool false) := rowB_get _ _ 0 (by omega)
  have e0 : (0 : Int) < (name.size : Int) + 1 := by omega
  clear hown hrep hcall hp
  go_wp2
  go_loopg [7, 8] (ps.length + 1) (fun gk cv kv wr => ∃ (k g : Nat), kv = .int .i64 k ∧ k ≤ ps.length ∧ cv = .slice (some ⟨g, 0, none⟩) (name.size + 1) (name.size + 1) ∧ w1.heap.size ≤ g ∧ Aside (ps.length + 1 - k ≤ gk ∧ Lies wr g 4 (rowB (name.size + 1) (takenB M T k))) ∧ Below w1.heap.size w1 wr)
  case atStart =>
    refine ⟨0, w1.heap.size, rfl, Nat.zero_le _, rfl, Nat.le_refl _, ⟨by omega, ?_⟩, (Below.refl _ w1).alloc (Nat.le_refl _) _⟩
    have e : rowB (name.size + 1) (takenB M T 0) = (rowB (name.size + 1) fun _ => false).setIfInBounds 0 (.bool true) := by
      rw [rowB_set (name.size + 1) (fun _ => false) 0 true (by omega)]
      exact rowB_congr (fun i _ => by rw [taken_start]; by_cases h : i = 0 <;> simp [h])
    rw [e]
    exact Lies.new w1 _ _
  case round =>
    obtain ⟨k, g, rfl, hk, rfl, hg, HP, hB⟩ := hrel
    have hL := HP.out.2
    by_cases hlt : k < ps.length
    · obtain ⟨p, hpk⟩ : ∃ p, ps[k]? = some p := ⟨_, List.getElem?_eq_getElem hlt⟩
      have hgw : g < wr.heap.size := hL.lt
      have hownr := own_below HO.out.1 hB
      have hrepr := HO.out.2.turn (grown_of_below hB) (NoBools.none _)
      obtain ⟨av, bv, hab, hca, hcb⟩ := hrepr.at hpk
      obtain ⟨g2, rfl⟩ : ∃ g2, o = some ⟨g2, 0, none⟩ := by
        rcases hownr.2 with ⟨_, h0⟩ | ⟨g2, cap2, cur2, h0, _⟩
        · omega
        · exact ⟨g2, (Value.slice.inj h0).1⟩
      have ca := row_cell hownr _ _ hca
      have cb := row_cell hownr _ _ hcb
      have d1 : (0 : Int) ≤ (k : Int) := by omega
      have d2 : (k : Int) < (ps.length : Int) := by omega
      cases p with
      | none =>
        obtain ⟨rfl, rfl⟩ := hab
        have hMk : M k = true := by rw [← HM.out]; exact has_at hpk
        have hsp := spread_r g (name.size + 1) (takenB M T k) wr (by omega) hL
        clear hL hownr hrepr hca hcb cb
        go_wp2_with fail
        refine hsp.mono ?_
        rintro e w2 ⟨rfl, hL2, hG2⟩
        have HB2 : Hid (Below w1.heap.size w1 w2) := hB.grown hG2 hB.size (fun j e => by cases e; exact hg)
        have HL2 : Hid (Lies w2 g 4 (rowB (name.size + 1) (takenB M T (k + 1)))) := by
          unfold Hid
          rw [rowB_congr (g := anyTo (takenB M T k)) (fun i _ => taken_many hMk i)]; exact hL2
        clear hL2 hG2 hMk hsp ca
        go_wp2
        go_roundg (ps.length + 1 - (k + 1))
        case rel => exact ⟨k + 1, g, by go_num, by omega, rfl, hg, ⟨Nat.le_refl _, HL2.out⟩, HB2.out⟩
        case measure => have := HP.out.1; omega
      | some st =>
        obtain ⟨g3, rfl, rfl, hL3⟩ := hab
        have hMk : M k = false := by rw [← HM.out]; exact has_at hpk
        have HPK : Hid (∀ W, Below wr.heap.size wr W → W.cell? ⟨g2, k * 2 + 1, none⟩ = some (.slice (some ⟨g3, 0, none⟩) 256 256) ∧ Lies W g3 4 (rowB 256 (setRow st)) ∧ Lies W g 4 (rowB (name.size + 1) (takenB M T k))) := fun W hb => by
          refine ⟨?_, hL3.below hb, hL.below hb⟩
          have hlt2 : g2 < wr.heap.size := World.block_lt_of_cell? wr ⟨g2, k * 2 + 1, none⟩ cb
          exact (hb.cell (p := ⟨g2, k * 2 + 1, none⟩) hlt2).trans cb
        have HTk : Hid (∀ (i : Nat) (h : i < name.size), T k i = st name[i]) := fun i h => by
          rw [← HT.out]; unfold isTaken; rw [hpk, un_getElem? name i h]
        clear hL hownr hrepr hca hcb cb hL3 hpk
        obtain ⟨wo, hwo⟩ : ∃ wo, wo = wr := ⟨_, rfl⟩
        subst hwo
        go_wp2
        go_loopg [10] (name.size + 1) (fun gi iv wx => ∃ i : Nat, iv = .int .i64 i ∧ i ≤ name.size ∧ Aside (name.size + 1 - i ≤ gi ∧ Lies wx wo.heap.size 4 (rowB (name.size + 1) (fun x => decide (x ≤ i) && takenB M T (k + 1) x))) ∧ Below wo.heap.size wo wx)
        case atStart =>
          refine ⟨0, rfl, Nat.zero_le _, ⟨by omega, ?_⟩, (Below.refl _ wo).alloc (Nat.le_refl _) _⟩
          have e : rowB (name.size + 1) (fun x => decide (x ≤ 0) && takenB M T (k + 1) x) = rowB (name.size + 1) fun _ => false := rowB_congr (fun x _ => by
            by_cases h : x = 0
            · subst h; rw [taken_zero hMk]; rfl
            · rw [decide_eq_false (by omega), Bool.false_and])
          rw [e]
          exact Lies.new wo _ _
        case round =>
          obtain ⟨i, rfl, hi, HI, hBi⟩ := hrel
          by_cases hlti : i < name.size
          · obtain ⟨c3, l3, l4⟩ := HPK.out _ hBi
            have cc := l4.cell (rowB_get (name.size + 1) (takenB M T k) i (by omega))
            have cn := HI.out.2.cell (rowB_get (name.size + 1) (fun x => decide (x ≤ i) && takenB M T (k + 1) x) (i + 1) (by omega))
            have fn := HI.out.2.frozen (i + 1)
            have hbb := name[i].toNat_lt
            have ch := l3.cell (rowB_get 256 (setRow st) name[i].toNat (by omega))
            rw [setRow_at] at ch
            have HS : Hid (∀ b, b = takenB M T (k + 1) (i + 1) → Lies (wr.setCell ⟨wo.heap.size, i + 1, none⟩ (.bool b)) wo.heap.size 4 (rowB (name.size + 1) (fun x => decide (x ≤ i + 1) && takenB M T (k + 1) x))) := fun b hb => by
              have e : rowB (name.size + 1) (fun x => decide (x ≤ i + 1) && takenB M T (k + 1) x) = rowB (name.size + 1) (fun x => if x = i + 1 then b else decide (x ≤ i) && takenB M T (k + 1) x) := rowB_congr (fun x _ => by
                by_cases h : x = i + 1
                · subst h; rw [if_pos rfl, hb]; simp
                · rw [if_neg h]
                  by_cases h2 : x ≤ i
                  · simp [h2, show x ≤ i + 1 by omega]
                  · simp [h2, show ¬ x ≤ i + 1 by omega])
              rw [e]; exact HI.out.2.setB b (by omega)
            have HBs : Hid (∀ v, Below wo.heap.size wo (wr.setCell ⟨wo.heap.size, i + 1, none⟩ v)) := fun v => hBi.setCell (p := ⟨wo.heap.size, i + 1, none⟩) (Nat.le_refl _) v
            have hval : takenB M T (k + 1) (i + 1) = (st name[i] && takenB M T k i) := by rw [taken_one hMk, HTk.out i hlti]
            have e1 : (0 : Int) ≤ (i : Int) := by omega
            have e2 : (i : Int) < (name.size : Int) := by omega
            have e3 : (i : Int) < (name.size : Int) + 1 := by omega
            have e4 : (i : Int) + 1 < (name.size : Int) + 1 := by omega
            have e5 : (0 : Int) ≤ (i : Int) + 1 := by omega
            have e6 : (name[i].toNat : Int) < 256 := by omega
            cases htk : takenB M T k i
            · have HV : Hid (false = takenB M T (k + 1) (i + 1)) := by unfold Hid; rw [hval, htk]; simp
              rw [htk] at cc
              clear hval htk l3 l4 ch c3
              go_wp2
              go_region
              all_goals go_wp2
              all_goals go_roundg (name.size + 1 - (i + 1))
              case rel => exact ⟨i + 1, by go_num, by omega, ⟨Nat.le_refl _, (HS.out _ HV.out).drew 1⟩, below_drew (HBs.out _)⟩
              case measure => have := HI.out.1; omega
            · have HV : Hid (st name[i] = takenB M T (k + 1) (i + 1)) := by unfold Hid; rw [hval, htk]; simp
              rw [htk] at cc
              clear hval htk l3 l4
              go_wp2
              go_region
              all_goals go_wp2
              all_goals go_roundg (name.size + 1 - (i + 1))
              case rel => exact ⟨i + 1, by go_num, by omega, ⟨Nat.le_refl _, (HS.out _ HV.out).drew 1⟩, below_drew (HBs.out _)⟩
              case measure => have := HI.out.1; omega
          · obtain rfl : i = name.size := by omega
            have HLn : Hid (Lies wr wo.heap.size 4 (rowB (name.size + 1) (takenB M T (k + 1)))) := by
              unfold Hid
              have e : rowB (name.size + 1) (takenB M T (k + 1)) = rowB (name.size + 1) (fun x => decide (x ≤ name.size) && takenB M T (k + 1) x) := rowB_congr (fun x hx => by rw [decide_eq_true (by omega), Bool.true_and])
              rw [e]; exact HI.out.2
            go_wp2
            go_roundg (ps.length + 1 - (k + 1))
            case rel => exact ⟨k + 1, wo.heap.size, by go_num, by omega, rfl, hB.size, ⟨Nat.le_refl _, HLn.out⟩, hB.trans (hBi.mono hB.size)⟩
            case measure => have := HP.out.1; omega
    · obtain rfl : k = ps.length := by omega
      have cN := hL.cell (rowB_get (name.size + 1) (takenB M T ps.length) name.size (by omega))
      have d1 : (0 : Int) ≤ (name.size : Int) := by omega
      have d2 : (name.size : Int) < (name.size : Int) + 1 := by omega
      clear hL
      go_wp2
      go_ret
      exact ⟨by rw [Htk.out]; rfl, b1.trans (hB.mono b1.size)⟩
end Go.Proofs.YthkbhcefckbcnaaGreatDoor

namespace Go.Proofs.YthkbhcefckbcnaaGreatDoor
open Go Go.RowKit

theorem stars_un (x : ByteArray) (h : isStars x = true) : un x = [42, 42] := by unfold isStars at h; rw [toList_un] at h; exact beq_iff_eq.1 h
theorem piece_some (x : ByteArray) : (pieceOf x).isSome = (partsOf (un x)).isSome := by
  unfold pieceOf
  cases h : isStars x
  · cases partsOf (un x) <;> rfl
  · rw [stars_un x h]; rfl
theorem allOf_take (xs : List ByteArray) (k : Nat) (x : ByteArray) (hx : xs[k]? = some x) : (allOf (xs.take (k + 1))).isSome = ((allOf (xs.take k)).isSome && (partsOf (un x)).isSome) := by
  rw [List.take_add_one, hx, ← piece_some, allOf_append]
  simp only [Option.toList, allOf]
  cases allOf (xs.take k) <;> cases pieceOf x <;> rfl
theorem allOf_bad (xs : List ByteArray) (k : Nat) (h : (allOf (xs.take k)).isSome = false) : allOf xs = none := by
  have e : xs = xs.take k ++ xs.drop k := (List.take_append_drop k xs).symm
  rw [e, allOf_append]
  cases h2 : allOf (xs.take k) with
  | none => rfl
  | some y => rw [h2] at h; cases h

set_option maxRecDepth 100000 in
set_option maxHeartbeats 4000000 in
theorem pattern_r (s : ByteArray) (w : World) (hs : s.size ≤ 1099511627775) : Calls Tryz.prog 24 #[.string s] w fun e w' => e = .returned (.bool (patOf s).isSome) ∧ Below w.heap.size w w' := by
  have hnl := Nat.le_trans (length_wt _) (wt_names s)
  obtain ⟨xs, hxs⟩ : ∃ xs, namesB s = xs := ⟨_, rfl⟩
  have hnr := names_r s w (by omega)
  have HX : Hid (∀ x ∈ xs, x.size ≤ s.size) := fun x hx => names_size s x (by rw [hxs]; exact hx)
  have HP : Hid (patOf s = if s.size ≤ 1020 ∧ xs ≠ [] then allOf xs else none) := by unfold Hid patOf; rw [hxs]
  rw [hxs] at hnr hnl
  clear hxs
  go_enter Tryz.func24, Tryz.ntmps24
  go_wp2_with fail
  refine hnr.mono ?_
  rintro e w1 ⟨v, rfl, ho, b1⟩
  obtain ⟨o, c, rfl⟩ : ∃ o c, v = .slice o xs.length c := by
    rcases ho.2 with ⟨rfl, h0⟩ | ⟨g, cap, cur, rfl, _⟩
    · exact ⟨none, 0, by rw [h0]⟩
    · exact ⟨_, _, rfl⟩
  have HO : Hid (w1.ownsRow w.heap.size 9 1 (.slice o xs.length c) xs.length (strs xs)) := ho
  clear ho hnr
  by_cases h1 : s.size ≤ 1020
  · cases hx0 : xs with
    | nil =>
      subst hx0
      have HN : Hid ((patOf s).isSome = false) := by unfold Hid; rw [HP.out, if_neg (fun h => h.2 rfl)]; rfl
      have d1 : ¬ (1020 : Int) < (s.size : Int) := by omega
      go_wp2
      go_ret
      exact ⟨by rw [HN.out]; rfl, b1⟩
    | cons x0 xs0 =>
      have hpos : 0 < xs.length := by rw [hx0]; simp
      have HN : Hid (patOf s = allOf xs) := by unfold Hid; rw [HP.out, if_pos ⟨h1, by rw [hx0]; simp⟩]
      rw [← hx0]
      clear hx0
      have d1 : ¬ (1020 : Int) < (s.size : Int) := by omega
      have d2 : ((xs.length : Int) == 0) = false := beq_false_of_ne (by omega)
      obtain ⟨g, rfl⟩ : ∃ g, o = some ⟨g, 0, none⟩ := by
        rcases HO.out.2 with ⟨_, h0⟩ | ⟨g2, cap2, cur2, h0, _⟩
        · omega
        · exact ⟨g2, (Value.slice.inj h0).1⟩
      go_wp2
      go_loopw [4] (fun i wr => ∃ k : Nat, i = .int .i64 k ∧ k ≤ xs.length ∧ (allOf (xs.take k)).isSome = true ∧ Below w1.heap.size w1 wr) (fun i _ => xs.length - (intOf i).toNat)
      case atStart => exact ⟨0, rfl, Nat.zero_le _, rfl, Below.refl _ _⟩
      case round =>
        obtain ⟨k, rfl, hk, hall, hB⟩ := hrel
        by_cases hlt : k < xs.length
        · obtain ⟨x, hx⟩ : ∃ x, xs[k]? = some x := ⟨_, List.getElem?_eq_getElem hlt⟩
          have hc := row_cell (own_below HO.out hB) k (.string x) (by simp [strs, hx])
          have hcall := parts_r x wr (by have := HX.out x (List.mem_of_getElem? hx); omega)
          unfold RPartsPost at hcall
          have HT : Hid _ := allOf_take xs k x hx
          have Hall : Hid ((allOf (xs.take k)).isSome = true) := hall
          have e1 : (0 : Int) ≤ (k : Int) := by omega
          have e2 : (k : Int) < (xs.length : Int) := by omega
          clear hall hx
          go_wp2_with fail
          refine hcall.mono ?_
          rintro e w2 ⟨⟨ps, v, cs, hps, _, _, rfl⟩ | ⟨hps, rfl⟩, b2⟩
          · have HK : Hid ((allOf (xs.take (k + 1))).isSome = true) := by unfold Hid; rw [HT.out, Hall.out, hps]; rfl
            clear hps hcall
            go_wp2
            go_roundw
            case rel => exact ⟨k + 1, by go_num, by omega, HK.out, hB.trans (b2.mono hB.size)⟩
            case measure => simp [intOf]; omega
          · have HK : Hid ((patOf s).isSome = false) := by
              unfold Hid
              rw [HN.out, allOf_bad xs (k + 1) (by rw [HT.out, hps]; simp)]; rfl
            clear hps hcall
            go_wp2
            go_ret
            exact ⟨by rw [HK.out]; rfl, b1.trans ((hB.trans (b2.mono hB.size)).mono b1.size)⟩
        · have HK : Hid ((patOf s).isSome = true) := by
            unfold Hid
            rw [HN.out]
            rw [List.take_of_length_le (by omega)] at hall
            exact hall
          clear hall
          go_wp2
          go_ret
          exact ⟨by rw [HK.out]; rfl, b1.trans (hB.mono b1.size)⟩
  · have HN : Hid ((patOf s).isSome = false) := by unfold Hid; rw [HP.out, if_neg (fun h => h1 h.1)]; rfl
    have d1 : (1020 : Int) < (s.size : Int) := by omega
    go_wp2
    go_ret
    exact ⟨by rw [HN.out]; rfl, b1⟩
end Go.Proofs.YthkbhcefckbcnaaGreatDoor

namespace Go.Proofs.YthkbhcefckbcnaaGreatDoor
open Go Go.RowKit

theorem allOf_at : ∀ {xs : List ByteArray} {ps : List Pc} {k : Nat} {x : ByteArray}, allOf xs = some ps → xs[k]? = some x → ∃ p, ps[k]? = some p ∧ pieceOf x = some p
  | [], _, _, _, _, h => by simp at h
  | y :: xs, ps, k, x, h, hx => by
    simp only [allOf] at h
    cases hp : pieceOf y with
    | none => simp [hp] at h
    | some p =>
      simp only [hp, Option.map_eq_some_iff] at h
      obtain ⟨r, hr, rfl⟩ := h
      cases k with
      | zero => simp at hx; subst hx; exact ⟨p, rfl, hp⟩
      | succ k => obtain ⟨q, h1, h2⟩ := allOf_at hr (by simpa using hx); exact ⟨q, by simpa using h1, h2⟩

theorem wrap_succ (i : Nat) (h : i ≤ 1099511627777) : IntKind.i64.wrap ((i : Int) + 1) = (i : Int) + 1 := by
  simp only [IntKind.wrap, IntKind.bits, IntKind.signed]
  simp
  omega

set_option maxRecDepth 100000 in
set_option maxHeartbeats 8000000 in
theorem reached_r (s : ByteArray) (ps : List Pc) (ys : List ByteArray) (b2 : Nat) (u : Value) (w : World) (hp : patOf s = some ps) (hu : w.ownsRow b2 9 1 u ys.length (strs ys)) (hl2 : ys.length ≤ 1099511627776) (hz : ∀ y ∈ ys, y.size ≤ 1099511627776) :
    Calls Tryz.prog 98 #[.string s, u] w fun e w' => ∃ g, e = .returned (.slice (some ⟨g, 0, none⟩) (ys.length + 1) (ys.length + 1)) ∧ Lies w' g 4 (rowB (ys.length + 1) (takenB (isMany (ps.map pcTaker)) (isTaken (ps.map pcTaker) ys) ps.length)) ∧ Below w.heap.size w w' := by
  have hmk : ∀ W, (Instr.makeSlice 66 (.int .i64 ((ys.length : Int) + 1)) (.int .i64 ((ys.length : Int) + 1))).run Tryz.prog W = .ok (.slice (some ⟨W.heap.size, 0, none⟩) (ys.length + 1) (ys.length + 1)) (W.alloc (.cells (rowB (ys.length + 1) fun _ => false) 4)) := fun W => make_bools (ys.length + 1) (by omega) W
  have hmk0 : (rowB (ys.length + 1) fun _ => false)[0]? = some (.bool false) := rowB_get _ _ 0 (by omega)
  have e0 : (0 : Int) < (ys.length : Int) + 1 := by omega
  obtain ⟨xs, hxs⟩ : ∃ xs, namesB s = xs := ⟨_, rfl⟩
  have hpat : s.size ≤ 1020 ∧ allOf xs = some ps := by
    unfold patOf at hp; rw [hxs] at hp
    split at hp
    · rename_i h; exact ⟨h.1, hp⟩
    · cases hp
  obtain ⟨hs, hall⟩ := hpat
  have hplen := allOf_length hall
  have hxl : xs.length ≤ 1021 := by have h1 := length_wt xs; have h2 := wt_names s; rw [hxs] at h2; omega
  have HX : Hid (∀ x ∈ xs, x.size ≤ 1020) := fun x hx => Nat.le_trans (names_size s x (by rw [hxs]; exact hx)) hs
  have hnr := names_r s w (by omega)
  rw [hxs] at hnr
  obtain ⟨M, hM⟩ : ∃ M, isMany (ps.map pcTaker) = M := ⟨_, rfl⟩
  obtain ⟨T, hT⟩ : ∃ T, isTaken (ps.map pcTaker) ys = T := ⟨_, rfl⟩
  rw [hM, hT]
  have HM : Hid (isMany (ps.map pcTaker) = M) := hM
  have HT : Hid (isTaken (ps.map pcTaker) ys = T) := hT
  have HA : Hid (allOf xs = some ps) := hall
  have HZ : Hid (∀ y ∈ ys, y.size ≤ 1099511627776) := hz
  obtain ⟨ou, cu, rfl⟩ : ∃ o c, u = .slice o ys.length c := by
    rcases hu.2 with ⟨rfl, h0⟩ | ⟨g, cap, cur, rfl, _⟩
    · exact ⟨none, 0, by rw [h0]⟩
    · exact ⟨_, _, rfl⟩
  have HU : Hid (w.ownsRow b2 9 1 (.slice ou ys.length cu) ys.length (strs ys)) := hu
  clear hM hT hxs hall hp hz hu
  rw [hplen]
  go_enter Tryz.func98, Tryz.ntmps98
  go_wp2_with fail
  refine hnr.mono ?_
  rintro e w1 ⟨v, rfl, ho, b1⟩
  obtain ⟨o, c, rfl⟩ : ∃ o c, v = .slice o xs.length c := by
    rcases ho.2 with ⟨rfl, h0⟩ | ⟨g, cap, cur, rfl, _⟩
    · exact ⟨none, 0, by rw [h0]⟩
    · exact ⟨_, _, rfl⟩
  have HO : Hid (w1.ownsRow w.heap.size 9 1 (.slice o xs.length c) xs.length (strs xs) ∧ w1.ownsRow b2 9 1 (.slice ou ys.length cu) ys.length (strs ys)) := ⟨ho, own_below HU.out b1⟩
  clear ho hnr hplen
  go_wp2
  go_loopg [6, 7] (xs.length + 1) (fun gk cv kv wr => ∃ (k g : Nat), kv = .int .i64 k ∧ k ≤ xs.length ∧ cv = .slice (some ⟨g, 0, none⟩) (ys.length + 1) (ys.length + 1) ∧ w1.heap.size ≤ g ∧ Aside (xs.length + 1 - k ≤ gk ∧ Lies wr g 4 (rowB (ys.length + 1) (takenB M T k))) ∧ Below w1.heap.size w1 wr)
  case atStart =>
    refine ⟨0, w1.heap.size, rfl, Nat.zero_le _, rfl, Nat.le_refl _, ⟨by omega, ?_⟩, (Below.refl _ w1).alloc (Nat.le_refl _) _⟩
    have e : rowB (ys.length + 1) (takenB M T 0) = (rowB (ys.length + 1) fun _ => false).setIfInBounds 0 (.bool true) := by
      rw [rowB_set (ys.length + 1) (fun _ => false) 0 true (by omega)]
      exact rowB_congr (fun i _ => by rw [taken_start]; by_cases h : i = 0 <;> simp [h])
    rw [e]
    exact Lies.new w1 _ _
  case round =>
    obtain ⟨k, g, rfl, hk, rfl, hg, HP, hB⟩ := hrel
    have hL := HP.out.2
    by_cases hlt : k < xs.length
    · obtain ⟨x, hx⟩ : ∃ x, xs[k]? = some x := ⟨_, List.getElem?_eq_getElem hlt⟩
      obtain ⟨p, hpk, hpx⟩ := allOf_at HA.out hx
      obtain ⟨g2, rfl⟩ : ∃ g2, o = some ⟨g2, 0, none⟩ := by
        rcases HO.out.1.2 with ⟨_, h0⟩ | ⟨g2, cap2, cur2, h0, _⟩
        · omega
        · exact ⟨g2, (Value.slice.inj h0).1⟩
      have cx := row_cell (own_below HO.out.1 hB) k (.string x) (by simp [strs, hx])
      have d1 : (0 : Int) ≤ (k : Int) := by omega
      have d2 : (k : Int) < (xs.length : Int) := by omega
      cases hst : isStars x
      rotate_left
      · have hMk : M k = true := by
          rw [← HM.out, pcs_many hpk]
          unfold pieceOf at hpx; rw [hst] at hpx; simp at hpx; subst hpx; rfl
        have hstb : (x.toList == [42, 42]) = true := hst
        have hsp := spread_r g (ys.length + 1) (takenB M T k) wr (by omega) hL
        clear hL hpk hpx hst hx
        go_wp2_with fail
        refine hsp.mono ?_
        rintro e w2 ⟨rfl, hL2, hG2⟩
        have HB2 : Hid (Below w1.heap.size w1 w2) := hB.grown hG2 hB.size (fun j e => by cases e; exact hg)
        have HL2 : Hid (Lies w2 g 4 (rowB (ys.length + 1) (takenB M T (k + 1)))) := by
          unfold Hid
          have e : rowB (ys.length + 1) (takenB M T (k + 1)) = rowB (ys.length + 1) (anyTo (takenB M T k)) := rowB_congr (fun i _ => taken_many hMk i)
          rw [e]; exact hL2
        clear hL2 hG2 hMk hsp
        go_wp2
        go_roundg (xs.length + 1 - (k + 1))
        case rel => exact ⟨k + 1, g, by go_num, by omega, rfl, hg, ⟨Nat.le_refl _, HL2.out⟩, HB2.out⟩
        case measure => have := HP.out.1; omega
      · obtain ⟨qs, hqs, rfl⟩ : ∃ qs, partsOf (un x) = some qs ∧ p = some qs := by
          unfold pieceOf at hpx; rw [hst] at hpx
          simp only [Bool.false_eq_true, if_false, Option.map_eq_some_iff] at hpx
          obtain ⟨a, ha, rfl⟩ := hpx
          exact ⟨a, ha, rfl⟩
        have hMk : M k = false := by rw [← HM.out, pcs_many hpk]; rfl
        have hstb : (x.toList == [42, 42]) = false := hst
        have hxz := HX.out x (List.mem_of_getElem? hx)
        have hlg2 : g2 < wr.heap.size := World.block_lt_of_cell? wr ⟨g2, k, none⟩ cx
        have HTk : Hid (∀ (i : Nat) y, ys[i]? = some y → T k i = takeI qs (un y)) := fun i y hy => by
          rw [← HT.out]; unfold isTaken; rw [List.getElem?_map, hpk, hy]; rfl
        have HTC : Hid (∀ y W, y ∈ ys → Calls Tryz.prog 123 #[.string x, .string y] W fun e w' => e = .returned (.bool (takeI qs (un y))) ∧ Below W.heap.size W w') := fun y W hy => takes_r x y qs W hqs (by omega) (HZ.out y hy)
        obtain ⟨wo, hwo⟩ : ∃ wo, wo = wr := ⟨_, rfl⟩
        subst hwo
        have HLg : Hid (Lies wo g 4 (rowB (ys.length + 1) (takenB M T k))) := hL
        have HUo : Hid (wo.ownsRow b2 9 1 (.slice ou ys.length cu) ys.length (strs ys)) := own_below HO.out.2 hB
        have HCx : Hid (wo.cell? ⟨g2, k, none⟩ = some (.string x)) := cx
        clear hL hpk hpx hst hx hqs
        go_wp2
        go_loopg [9] (ys.length + 1) (fun gi iv wx => ∃ i : Nat, iv = .int .i64 i ∧ i ≤ ys.length ∧ Aside (ys.length + 1 - i ≤ gi ∧ Lies wx wo.heap.size 4 (rowB (ys.length + 1) (fun x => decide (x ≤ i) && takenB M T (k + 1) x))) ∧ Below wo.heap.size wo wx)
        case atStart =>
          refine ⟨0, rfl, Nat.zero_le _, ⟨by omega, ?_⟩, (Below.refl _ wo).alloc (Nat.le_refl _) _⟩
          have e : rowB (ys.length + 1) (fun x => decide (x ≤ 0) && takenB M T (k + 1) x) = rowB (ys.length + 1) fun _ => false := rowB_congr (fun x _ => by
            by_cases h : x = 0
            · subst h; rw [taken_zero hMk]; rfl
            · rw [decide_eq_false (by omega), Bool.false_and])
          rw [e]
          exact Lies.new wo _ _
        case round =>
          obtain ⟨i, rfl, hi, HI, hBi⟩ := hrel
          by_cases hlti : i < ys.length
          · obtain ⟨y, hy⟩ : ∃ y, ys[i]? = some y := ⟨_, List.getElem?_eq_getElem hlti⟩
            obtain ⟨g4, rfl⟩ : ∃ g4, ou = some ⟨g4, 0, none⟩ := by
              rcases HUo.out.2 with ⟨_, h0⟩ | ⟨g4, cap4, cur4, h0, _⟩
              · omega
              · exact ⟨g4, (Value.slice.inj h0).1⟩
            have cy := row_cell (own_below HUo.out hBi) i (.string y) (by simp [strs, hy])
            have cx2 : wr.cell? ⟨g2, k, none⟩ = some (.string x) := (hBi.cell (p := ⟨g2, k, none⟩) hlg2).trans HCx.out
            have cc := (HLg.out.below hBi).cell (rowB_get (ys.length + 1) (takenB M T k) i (by omega))
            have HS : Hid (∀ W b, Lies W wo.heap.size 4 (rowB (ys.length + 1) (fun x => decide (x ≤ i) && takenB M T (k + 1) x)) → b = takenB M T (k + 1) (i + 1) → Lies (W.setCell ⟨wo.heap.size, i + 1, none⟩ (.bool b)) wo.heap.size 4 (rowB (ys.length + 1) (fun x => decide (x ≤ i + 1) && takenB M T (k + 1) x))) := fun W b hW hb => by
              have e : rowB (ys.length + 1) (fun x => decide (x ≤ i + 1) && takenB M T (k + 1) x) = rowB (ys.length + 1) (fun x => if x = i + 1 then b else decide (x ≤ i) && takenB M T (k + 1) x) := rowB_congr (fun x _ => by
                by_cases h : x = i + 1
                · subst h; rw [if_pos rfl, hb]; simp
                · rw [if_neg h]
                  by_cases h2 : x ≤ i
                  · simp [h2, show x ≤ i + 1 by omega]
                  · simp [h2, show ¬ x ≤ i + 1 by omega])
              rw [e]; exact hW.setB b (by omega)
            have hval : takenB M T (k + 1) (i + 1) = (takeI qs (un y) && takenB M T k i) := by rw [taken_one hMk, HTk.out i y hy]
            have e1 : (0 : Int) ≤ (i : Int) := by omega
            have e2 : (i : Int) < (ys.length : Int) := by omega
            have e3 : (i : Int) < (ys.length : Int) + 1 := by omega
            have e4 : (i : Int) + 1 < (ys.length : Int) + 1 := by omega
            have e5 : (0 : Int) ≤ (i : Int) + 1 := by omega
            cases htk : takenB M T k i
            · have HV : Hid (false = takenB M T (k + 1) (i + 1)) := by unfold Hid; rw [hval, htk]; simp
              have cn := HI.out.2.cell (rowB_get (ys.length + 1) (fun x => decide (x ≤ i) && takenB M T (k + 1) x) (i + 1) (by omega))
              have fn := HI.out.2.frozen (i + 1)
              rw [htk] at cc
              clear hval htk hy
              go_wp2
              go_region
              all_goals go_wp2
              all_goals go_roundg (ys.length + 1 - (i + 1))
              case rel => exact ⟨i + 1, by go_num, by omega, ⟨Nat.le_refl _, (HS.out _ _ HI.out.2 HV.out).drew 1⟩, below_drew (hBi.setCell (p := ⟨wo.heap.size, i + 1, none⟩) (Nat.le_refl _) _)⟩
              case measure => have := HI.out.1; omega
            · have HV : Hid (takeI qs (un y) = takenB M T (k + 1) (i + 1)) := by unfold Hid; rw [hval, htk]; simp
              have hcall := HTC.out y wr.drew (List.mem_of_getElem? hy)
              rw [htk] at cc
              have cn := HI.out.2.cell (rowB_get (ys.length + 1) (fun x => decide (x ≤ i) && takenB M T (k + 1) x) (i + 1) (by omega))
              have fn := HI.out.2.frozen (i + 1)
              obtain ⟨bv, hbv⟩ : ∃ bv, takeI qs (un y) = bv := ⟨_, rfl⟩
              rw [hbv] at hcall HV
              have HI2 : Hid (Lies wr wo.heap.size 4 (rowB (ys.length + 1) (fun x => decide (x ≤ i) && takenB M T (k + 1) x))) := HI.out.2
              have HF4 : Hid (∀ w4, Below wr.drew.heap.size wr.drew w4 → (∃ u4, w4.cell? ⟨wo.heap.size, i + 1, none⟩ = some u4) ∧ w4.frozen? ⟨wo.heap.size, i + 1, none⟩ = false) := fun w4 hb4 => ⟨⟨_, ((HI2.out.drew 1).below hb4).cell (rowB_get (ys.length + 1) (fun x => decide (x ≤ i) && takenB M T (k + 1) x) (i + 1) (by omega))⟩, ((HI2.out.drew 1).below hb4).frozen (i + 1)⟩
              clear hval htk hy hbv
              have hwr := wrap_succ i (by omega)
              go_wp2
              go_region_with (first | (go_at_call 123; refine hcall.mono ?_; rintro e w4 ⟨rfl, hb4⟩; obtain ⟨⟨u4, cn4⟩, fn4⟩ := HF4.out w4 hb4))
              all_goals (
                go_wp2
                go_roundg (ys.length + 1 - (i + 1))
                case rel => exact ⟨i + 1, by go_num, by omega, ⟨Nat.le_refl _, HS.out _ _ ((HI2.out.drew 1).below hb4) HV.out⟩, ((below_drew hBi).trans (hb4.mono (below_drew hBi).size)).setCell (p := ⟨wo.heap.size, i + 1, none⟩) (Nat.le_refl _) _⟩
                case measure => have := HI.out.1; omega)
          · obtain rfl : i = ys.length := by omega
            have HLn : Hid (Lies wr wo.heap.size 4 (rowB (ys.length + 1) (takenB M T (k + 1)))) := by
              unfold Hid
              have e : rowB (ys.length + 1) (takenB M T (k + 1)) = rowB (ys.length + 1) (fun x => decide (x ≤ ys.length) && takenB M T (k + 1) x) := rowB_congr (fun x hx => by rw [decide_eq_true (by omega), Bool.true_and])
              rw [e]; exact HI.out.2
            go_wp2
            go_roundg (xs.length + 1 - (k + 1))
            case rel => exact ⟨k + 1, wo.heap.size, by go_num, by omega, rfl, hB.size, ⟨Nat.le_refl _, HLn.out⟩, hB.trans (hBi.mono hB.size)⟩
            case measure => have := HP.out.1; omega
    · obtain rfl : k = xs.length := by omega
      go_wp2
      go_ret
      exact ⟨g, rfl, HP.out.2, b1.trans (hB.mono b1.size)⟩
end Go.Proofs.YthkbhcefckbcnaaGreatDoor

namespace Go.Proofs.YthkbhcefckbcnaaGreatDoor
open Go Go.RowKit

set_option maxHeartbeats 2000000 in
theorem match_r (pat p : ByteArray) (w : World) (hz : pat.size ≤ 1099511627775) (hp : p.size ≤ 1099511627775) : Calls Tryz.prog 78 #[.string pat, .string p] w fun e w' => e = .returned (.tuple #[.bool (matchB pat p), .int .i64 (if (patOf pat).isNone then 24 else 0)]) ∧ Below w.heap.size w w' := by
  have hcall := pattern_r pat w hz
  cases hpat : patOf pat with
  | none =>
    have HM : Hid (matchB pat p = false) := by unfold Hid matchB; rw [hpat]
    rw [hpat] at hcall
    simp only [Option.isSome_none, Option.isNone_none, if_true] at hcall ⊢
    clear hpat
    go_enter Tryz.func78, Tryz.ntmps78
    go_wp2_with fail
    refine hcall.mono ?_
    rintro e w1 ⟨rfl, b1⟩
    go_wp2_with fail
    go_ret2
    exact ⟨by rw [HM.out]; rfl, b1⟩
  | some ps =>
    have HM : Hid (matchB pat p = takenB (isMany (ps.map pcTaker)) (isTaken (ps.map pcTaker) (namesB p)) ps.length (namesB p).length) := by
      unfold Hid matchB; rw [hpat]; simp only [takeP, takeI, List.length_map]
    have HP : Hid (patOf pat = some ps) := hpat
    rw [hpat] at hcall
    simp only [Option.isSome_some, Option.isNone_some, Bool.false_eq_true, if_false] at hcall ⊢
    have h1 := length_wt (namesB p)
    have h2 := wt_names p
    clear hpat
    go_enter Tryz.func78, Tryz.ntmps78
    go_wp2_with fail
    refine hcall.mono ?_
    rintro e w1 ⟨rfl, b1⟩
    go_wp2_with fail
    refine (names_r p _ (by omega)).mono ?_
    rintro e w2 ⟨u, rfl, ho, b2⟩
    have hcall3 := reached_r pat ps (namesB p) _ u w2 HP.out ho (by omega) (fun y hy => by have := names_size p y hy; omega)
    obtain ⟨o, c, rfl⟩ : ∃ o c, u = .slice o (namesB p).length c := by
      rcases ho.2 with ⟨rfl, h0⟩ | ⟨g, cap, cur, rfl, _⟩
      · exact ⟨none, 0, by rw [h0]⟩
      · exact ⟨_, _, rfl⟩
    clear ho hcall
    go_wp2_with fail
    refine hcall3.mono ?_
    rintro e w3 ⟨g, rfl, hL, b3⟩
    have cN := hL.cell (rowB_get ((namesB p).length + 1) (takenB (isMany (ps.map pcTaker)) (isTaken (ps.map pcTaker) (namesB p)) ps.length) (namesB p).length (by omega))
    have d1 : (0 : Int) ≤ ((namesB p).length : Int) := by omega
    have d2 : ((namesB p).length : Int) < ((namesB p).length : Int) + 1 := by omega
    rw [← HM.out] at cN
    clear hL hcall3
    go_wp2
    go_ret2
    exact ⟨rfl, (b1.trans (b2.mono b1.size)).trans (b3.mono (b1.trans (b2.mono b1.size)).size)⟩
end Go.Proofs.YthkbhcefckbcnaaGreatDoor

namespace Go.Proofs.YthkbhcefckbcnaaGreatDoor
open Go.RowKit

theorem enc_valid (r : Int) (h1 : 128 ≤ r) (hv : Lib.validRune r = true) : Utf8.valid r = true := by
  have h := of_decide_eq_true hv
  simp [Utf8.valid]; omega
theorem enc_last_byte (c : Nat) : 128 ≤ (UInt8.ofNat (128 + c % 64)).toNat := by
  rw [UInt8.toNat_ofNat']; omega
theorem enc_forms (r : Int) (h1 : 128 ≤ r) (hv : Lib.validRune r = true) : ∃ (a b c : UInt8) (d : UInt8), 128 ≤ d.toNat ∧ (Utf8.encode r = ⟨#[a, d]⟩ ∨ Utf8.encode r = ⟨#[a, b, d]⟩ ∨ Utf8.encode r = ⟨#[a, b, c, d]⟩) := by
  have hval := enc_valid r h1 hv
  unfold Utf8.encode
  simp only [hval, if_true]
  by_cases c1 : r.toNat < 128
  · omega
  · by_cases c2 : r.toNat < 2048
    · exact ⟨_, 0, 0, UInt8.ofNat (128 + r.toNat % 64), enc_last_byte _, .inl (by rw [if_neg c1, if_pos c2])⟩
    · by_cases c3 : r.toNat < 65536
      · exact ⟨_, _, 0, UInt8.ofNat (128 + r.toNat % 64), enc_last_byte _, .inr (.inl (by rw [if_neg c1, if_neg c2, if_pos c3]))⟩
      · exact ⟨_, _, _, UInt8.ofNat (128 + r.toNat % 64), enc_last_byte _, .inr (.inr (by rw [if_neg c1, if_neg c2, if_neg c3]))⟩
theorem index_empty (c : Int) (w : World) : Calls Tryz.prog 152 #[.string ByteArray.empty, .int .u8 c] w fun e w' => e = .returned (.int .i64 (-1)) ∧ w' = w := Tryz.strings_IndexByte ByteArray.empty c w

theorem index_one (d : UInt8) (hd : 128 ≤ d.toNat) (w : World) : Calls Tryz.prog 152 #[.string ⟨#[91]⟩, .int .u8 d.toNat] w fun e w' => e = .returned (.int .i64 (-1)) ∧ w' = w := by
  have h := Tryz.strings_IndexByte ⟨#[91]⟩ d.toNat w
  have hb : ((d.toNat : Int)).toNat.toUInt8 = d := by simp
  have e : Lib.indexByte [91] d = -1 := by
    unfold Lib.indexByte
    rw [if_neg (fun e => by have := beq_iff_eq.1 e; subst this; simp at hd)]; rfl
  rw [hb, show (⟨#[91]⟩ : ByteArray).data.toList = [91] from rfl, e] at h
  exact h

set_option maxRecDepth 100000 in
set_option maxHeartbeats 1000000 in
theorem rune_valid (r : Int) (w : World) (h1 : 128 ≤ r) (h2 : r ≤ 2147483647) (h3 : (r == 65533) = false) (hv : Lib.validRune r = true) : Calls Tryz.prog 136 #[.string ⟨#[42, 63, 91]⟩, .int .i32 r] w fun e w' => e = .returned (.int .i64 (-1)) ∧ Below w.heap.size w w' := by
  have h4 : ¬ r < 128 := by omega
  go_enter Tryz.func136, Tryz.ntmps136
  go_wp2_with (go_at_call 153; refine (Tryz.utf8_ValidRune _ _).mono ?_; rintro e w' ⟨rfl, rfl⟩; rw [hv])
  obtain ⟨x, y, z, d, hd, he | he | he⟩ := enc_forms r h1 hv
  · have hne : ((((⟨#[42, 63, 91]⟩ : ByteArray)[1]'(by decide)).toNat : Int) != (((⟨#[x, d]⟩ : ByteArray)[1]'(by show 1 < 2; decide)).toNat : Int)) = true := by
      show ((63 : Int) != (d.toNat : Int)) = true
      simp; omega
    refine wp_scope_straight ?_
    go_wp2
    refine wp_loop_rounds 1 ?_
    rw [rounds_succ]
    go_wp2
    refine wp_scope_straight ?_
    go_wp2
    go_quiet (fail)
    obtain ⟨W1, hW1⟩ : ∃ W1, w'.drewN nq = W1 := ⟨_, rfl⟩
    rw [hW1]
    have HW1 : Hid (w'.drewN nq = W1) := hW1
    clear hW1
    go_wp2
    go_quiet ((go_at_call 152; exact Calls.quiet_of_same (index_one d hd _)))
    go_wp2
    simp only [Exit.inBlock, Exit.then, Exit.noGoto]
    go_ret
    exact ⟨rfl, by rw [← HW1.out]; exact ⟨rfl, rfl, rfl, Nat.le_refl _, fun _ _ => rfl⟩⟩
  · have hne : ((((⟨#[42, 63, 91]⟩ : ByteArray)[2]'(by decide)).toNat : Int) != (((⟨#[x, y, d]⟩ : ByteArray)[2]'(by show 2 < 3; decide)).toNat : Int)) = true := by
      show ((91 : Int) != (d.toNat : Int)) = true
      simp; omega
    refine wp_scope_straight ?_
    go_wp2
    refine wp_loop_rounds 1 ?_
    rw [rounds_succ]
    go_wp2
    refine wp_scope_straight ?_
    go_wp2
    go_quiet (fail)
    obtain ⟨W1, hW1⟩ : ∃ W1, w'.drewN nq = W1 := ⟨_, rfl⟩
    rw [hW1]
    have HW1 : Hid (w'.drewN nq = W1) := hW1
    clear hW1
    go_wp2
    go_quiet ((go_at_call 152; exact Calls.quiet_of_same (index_empty _ _)))
    go_wp2
    simp only [Exit.inBlock, Exit.then, Exit.noGoto]
    go_ret
    exact ⟨rfl, by rw [← HW1.out]; exact ⟨rfl, rfl, rfl, Nat.le_refl _, fun _ _ => rfl⟩⟩
  · refine wp_scope_straight ?_
    go_wp2
    refine wp_loop_rounds 1 ?_
    rw [rounds_succ]
    go_wp2
    rw [Exit.noGoto_ret]
    go_ret
    exact ⟨rfl, Below.refl _ _⟩
set_option maxRecDepth 100000 in
set_option maxHeartbeats 1000000 in
theorem rune_bad (r : Int) (w : World) (h1 : 128 ≤ r) (h2 : r ≤ 2147483647) (h3 : (r == 65533) = false) (hv : Lib.validRune r = false) : Calls Tryz.prog 136 #[.string ⟨#[42, 63, 91]⟩, .int .i32 r] w fun e w' => e = .returned (.int .i64 (-1)) ∧ Below w.heap.size w w' := by
  have h4 : ¬ r < 128 := by omega
  go_enter Tryz.func136, Tryz.ntmps136
  go_wp2_with (go_at_call 153; refine (Tryz.utf8_ValidRune _ _).mono ?_; rintro e w' ⟨rfl, rfl⟩; rw [hv])
  go_ret
  exact ⟨rfl, Below.refl _ _⟩
set_option maxRecDepth 100000 in
set_option maxHeartbeats 1000000 in
theorem rune_error (w : World) : Calls Tryz.prog 136 #[.string ⟨#[42, 63, 91]⟩, .int .i32 65533] w fun e w' => e = .returned (.int .i64 (-1)) ∧ Below w.heap.size w w' := by
  have n0 := fun ty => run_next_ascii (P := Tryz.prog) w ⟨#[42, 63, 91]⟩ 0 ty (by decide) (by decide)
  have n1 := fun ty => run_next_ascii (P := Tryz.prog) w ⟨#[42, 63, 91]⟩ 1 ty (by decide) (by decide)
  have n2 := fun ty => run_next_ascii (P := Tryz.prog) w ⟨#[42, 63, 91]⟩ 2 ty (by decide) (by decide)
  have n3 := fun ty => run_next_end (P := Tryz.prog) w ⟨#[42, 63, 91]⟩ 3 ty (by decide)
  go_enter Tryz.func136, Tryz.ntmps136
  go_wp2
  refine wp_loop_rounds 4 ?_
  rw [rounds_succ]
  go_wp2
  rw [rounds_succ]
  go_wp2
  rw [rounds_succ]
  go_wp2
  rw [rounds_succ]
  go_wp2
  go_ret
  exact ⟨rfl, (Below.refl _ _).alloc (Nat.le_refl _) _⟩

theorem rune_hi (r : Int) (w : World) (h1 : 128 ≤ r) (h2 : r ≤ 2147483647) : Calls Tryz.prog 136 #[.string ⟨#[42, 63, 91]⟩, .int .i32 r] w fun e w' => e = .returned (.int .i64 (-1)) ∧ Below w.heap.size w w' := by
  by_cases h3 : r = 65533
  · subst h3; exact rune_error w
  · have h3' : (r == 65533) = false := by simpa using h3
    cases hv : Lib.validRune r
    · exact rune_bad r w h1 h2 h3' hv
    · exact rune_valid r w h1 h2 h3' hv

set_option maxHeartbeats 1000000 in
theorem decode_run (s : ByteArray) (i : Nat) (h : i < s.size) : ∀ j, i ≤ j → j < i + (Utf8.decode s i).2 → j < s.size ∧ (j = i ∨ 128 ≤ (s.get! j).toNat) := by
  rw [Lib.decode_at]
  unfold Lib.decodeN
  intro j h1
  have hj : j = i ∨ j = i + 1 ∨ j = i + 2 ∨ j = i + 3 ∨ i + 4 ≤ j := by omega
  repeat' split
  all_goals
    intro h2
    simp only at h2
    rcases hj with rfl | rfl | rfl | rfl | hj
    all_goals first | exact ⟨h, .inl rfl⟩ | exact ⟨by omega, .inr (by omega)⟩ | omega
theorem get_un (s : ByteArray) (j : Nat) (b : UInt8) (h : (un s)[j]? = some b) : s.get! j = b := by
  have hl : j < s.data.size := by
    rcases Nat.lt_or_ge j s.data.size with h2 | h2
    · exact h2
    · unfold un at h; rw [List.getElem?_eq_none (by simpa using h2)] at h; cases h
  have h3 : s.data.toList[j]? = some b := h
  cases s with
  | mk d =>
    have hl2 : j < d.size := hl
    have h4 : d[j]? = some b := by simpa using h3
    rw [Array.getElem?_eq_getElem hl2] at h4
    simp [ByteArray.get!]; rw [getElem!_pos d j hl2]; exact Option.some.inj h4
theorem noAny_skip (s : ByteArray) (i : Nat) (h : i < s.size) (hhi : 128 ≤ (s[i]'h).toNat) (hn : Lib.NoAny (un s) [42, 63, 91] i) : Lib.NoAny (un s) [42, 63, 91] (i + (Utf8.decode s i).2) := by
  intro j b hj hb
  rcases Nat.lt_or_ge j i with h1 | h1
  · exact hn j b h1 hb
  · have hd := (decode_run s i h j h1 hj).2
    have hg := get_un s j b hb
    have h128 : 128 ≤ b.toNat := by
      rcases hd with rfl | hd
      · have e : (un s)[j]? = some (s[j]'h) := by show s.data.toList[j]? = some s.data[j]; simp
        rw [e] at hb; cases hb; exact hhi
      · rw [hg] at hd; exact hd
    have c1 : b ≠ 42 := fun e => by subst e; simp at h128
    have c2 : b ≠ 63 := fun e => by subst e; simp at h128
    have c3 : b ≠ 91 := fun e => by subst e; simp at h128
    simp [c1, c2, c3]
theorem decode_end (s : ByteArray) (i : Nat) (h : i < s.size) : i + (Utf8.decode s i).2 ≤ s.size := by
  rcases Nat.lt_or_ge s.size (i + (Utf8.decode s i).2) with h1 | h1
  · have := (decode_run s i h s.size (by omega) h1).1; omega
  · exact h1

set_option maxRecDepth 100000 in
set_option maxHeartbeats 4000000 in
theorem any_short (s : ByteArray) (w : World) (h8 : s.size ≤ 8) : Calls Tryz.prog 110 #[.string s, .string ⟨#[42, 63, 91]⟩] w fun e w' => e = .returned (.int .i64 (Lib.indexAny (un s) [42, 63, 91])) ∧ Below w.heap.size w w' := by
  have h8z : decide ((8 : Int) < (s.size : Int)) = false := decide_eq_false (by omega)
  go_enter Tryz.func110, Tryz.ntmps110
  go_wp2_with (go_at_call 137; refine (Tryz.strings_shouldUseASCIISet _ _).mono ?_; rintro e w' ⟨rfl, hw⟩; rw [hw, h8z])
  go_loopg [9, 10] s.size (fun g _ _ wx => ∃ i : Nat, i + g = s.size ∧ wx.heap[w.heap.size]? = some (.stringIter s i) ∧ Below w.heap.size w wx ∧ Lib.NoAny (un s) [42, 63, 91] i)
  case atStart => exact ⟨0, by omega, World.iter_heap w s 0, (Below.refl _ w).alloc (Nat.le_refl _) _, Lib.NoAny.zero _ _⟩
  case round =>
    obtain ⟨i, hig, hit, hB, hno⟩ := hrel
    cases gk with
    | zero =>
      obtain rfl : i = s.size := by omega
      have HN : Aside (Lib.NoAny (un s) [42, 63, 91] s.size) := hno
      have Hit : Aside _ := hit
      have hnx := fun ty => Lib.run_next_end_at (P := Tryz.prog) wr w.heap.size s s.size ty hit (by omega)
      clear hno hit
      go_wp2
      go_ret
      exact ⟨by rw [Lib.indexAny_none (by rw [un_length]; exact HN.out)]; rfl, hB⟩
    | succ g =>
      have hi : i < s.size := by omega
      obtain ⟨x, hx⟩ : ∃ x : UInt8, s[i]'hi = x := ⟨_, rfl⟩
      have hxl : (un s)[i]? = some x := by rw [← hx]; show s.data.toList[i]? = some s.data[i]; simp
      have HN : Aside (Lib.NoAny (un s) [42, 63, 91] i) := hno
      by_cases hlo : x.toNat < 128
      · have hnx := fun ty => Lib.run_next_ascii_at (P := Tryz.prog) wr w.heap.size s i ty hit hi (by rw [hx]; exact hlo)
        rw [hx] at hnx
        have Hx : Aside ((un s)[i]? = some x) := hxl
        have Hit : Aside _ := Lib.iterAt_heap wr w.heap.size s i (i + 1) hit
        have Hbel : Aside _ := Lib.below_iterAt hB (Nat.le_refl _) s (i + 1)
        clear hxl hx hno hit
        have hcon := Lib.contains_iff_indexByte [42, 63, 91] x
        have hback : ((x.toNat : Int)).toNat.toUInt8 = x := by simp
        cases hin : ([42, 63, 91] : List UInt8).contains x
        · rw [hin] at hcon
          have hlt : ¬ ((0 : Int) ≤ Lib.indexByte [42, 63, 91] x) := of_decide_eq_false hcon.symm
          clear hcon
          go_wp2_with (go_at_call 136; refine (Tryz.strings_IndexRune_ascii _ _ _ (by omega) (by omega)).mono ?_; rintro e w' ⟨rfl, hw⟩; rw [hw, hback])
          go_roundg g
          case measure => omega
          case rel => exact ⟨i + 1, by omega, Hit.out, Hbel.out, HN.out.succ Hx.out hin⟩
        · rw [hin] at hcon
          have hge : (0 : Int) ≤ Lib.indexByte [42, 63, 91] x := of_decide_eq_true hcon.symm
          clear hcon
          go_wp2_with (go_at_call 136; refine (Tryz.strings_IndexRune_ascii _ _ _ (by omega) (by omega)).mono ?_; rintro e w' ⟨rfl, hw⟩; rw [hw, hback])
          go_ret
          exact ⟨by rw [Lib.indexAny_hit HN.out Hx.out hin]; rfl, Hbel.out⟩
      · have hhi : 128 ≤ (s[i]'hi).toNat := by rw [hx]; omega
        have hnx := fun ty => Lib.run_next_any_at (P := Tryz.prog) wr w.heap.size s i ty hit hi
        have hd1 := (decode_high s i hi hhi).1
        have hd2 := (decode_high s i hi hhi).2
        have hd3 := decode_le s i
        have hd4 := decode_end s i hi
        have HK : Aside _ := noAny_skip s i hi hhi hno
        have Hit : Aside _ := Lib.iterAt_heap wr w.heap.size s i (i + (Utf8.decode s i).2) hit
        have Hbel : Aside _ := Lib.below_iterAt hB (Nat.le_refl _) s (i + (Utf8.decode s i).2)
        clear hno hit hxl hhi hx hlo
        generalize (Utf8.decode s i).1 = rr at *
        generalize (Utf8.decode s i).2 = wd at *
        go_wp2_with (go_at_call 136; refine (rune_hi _ _ (by omega) (by omega)).mono ?_; rintro e w' ⟨rfl, hb⟩)
        go_roundg (s.size - (i + wd))
        case measure => omega
        case rel => exact ⟨i + wd, by omega, (hb.block _ (Array.getElem?_eq_some_iff.1 Hit.out).1).trans Hit.out, Hbel.out.trans (hb.mono Hbel.out.size), HK.out⟩

theorem zero93 : ∀ w, (zeroValue 154).run Tryz.prog w = .ok (.agg (Array.replicate 256 (.bool false))) w := fun _ => by kernel_rfl
theorem anyOK (s : ByteArray) (hs : s.size ≤ 1048576) (w : World) : Calls Tryz.prog 77 #[.string s, .string ⟨#[42, 63, 91]⟩] w fun e w' => e = .returned (.bool (Lib.containsAny (un s) [42, 63, 91])) ∧ Below w.heap.size w w' := by
  have key : ∀ w, Calls Tryz.prog 110 #[.string s, .string ⟨#[42, 63, 91]⟩] w fun e w' => e = .returned (.int .i64 (Lib.indexAny (un s) [42, 63, 91])) ∧ Below w.heap.size w w' := fun w => by
    by_cases h8 : s.size ≤ 8
    · exact any_short s w h8
    · refine (Tryz.strings_IndexAny_long zero93 s ⟨#[42, 63, 91]⟩ w (by decide) (by omega) (by omega) (by decide) (by
        intro j b h
        rcases j with _ | _ | _ | j
        · simp at h; subst h; decide
        · simp at h; subst h; decide
        · simp at h; subst h; decide
        · simp at h)).mono ?_
      rintro e w' ⟨rfl, rfl⟩
      exact ⟨rfl, ((Below.refl _ w).alloc (Nat.le_refl _) _).alloc (by simp) _⟩
  have K : Hid _ := key
  clear key
  go_enter Tryz.func77, Tryz.ntmps77
  go_wp2_with (go_at_call 110; refine (K.out _).mono ?_; rintro e w' ⟨rfl, hb⟩)
  go_ret
  exact ⟨rfl, hb⟩
end Go.Proofs.YthkbhcefckbcnaaGreatDoor

namespace Go.Proofs.YthkbhcefckbcnaaGreatDoor
open Go.RowKit

theorem v_m1 : matchB ⟨#[97, 42, 99]⟩ ⟨#[97, 98, 98, 99]⟩ = true := by decide +kernel
theorem v_m2 : matchB ⟨#[97, 42, 99]⟩ ⟨#[97, 98, 98]⟩ = false := by decide +kernel
theorem v_m3 : matchB ⟨#[91, 97]⟩ ⟨#[97]⟩ = false := by decide +kernel
theorem v_p1 : (patOf ⟨#[97, 42, 99]⟩).isNone = false := by decide +kernel
theorem v_p3 : (patOf ⟨#[91, 97]⟩).isNone = true := by decide +kernel
theorem perr_ok {p : ByteArray} (h : (patOf p).isNone = false) : perr p = .nilIface := by unfold perr; rw [h]; rfl
theorem perr_bad {p : ByteArray} (h : (patOf p).isNone = true) : perr p = .iface 56 (.int .i64 24) := by unfold perr; rw [h]; rfl
theorem c_m1 (w : World) : Calls Tryz.prog 29 #[.string ⟨#[97, 42, 99]⟩, .string ⟨#[97, 98, 98, 99]⟩] w fun e w' => e = .returned (.tuple #[.bool true, .nilIface]) ∧ Below w.heap.size w w' := by
  have h := match_p ⟨#[97, 42, 99]⟩ ⟨#[97, 98, 98, 99]⟩ w (by decide) (by decide); rw [v_m1, perr_ok v_p1] at h; exact h
theorem c_m2 (w : World) : Calls Tryz.prog 29 #[.string ⟨#[97, 42, 99]⟩, .string ⟨#[97, 98, 98]⟩] w fun e w' => e = .returned (.tuple #[.bool false, .nilIface]) ∧ Below w.heap.size w w' := by
  have h := match_p ⟨#[97, 42, 99]⟩ ⟨#[97, 98, 98]⟩ w (by decide) (by decide); rw [v_m2, perr_ok v_p1] at h; exact h
theorem c_m3 (w : World) : Calls Tryz.prog 29 #[.string ⟨#[91, 97]⟩, .string ⟨#[97]⟩] w fun e w' => e = .returned (.tuple #[.bool false, .iface 56 (.int .i64 24)]) ∧ Below w.heap.size w w' := by
  have h := match_p ⟨#[91, 97]⟩ ⟨#[97]⟩ w (by decide) (by decide); rw [v_m3, perr_bad v_p3] at h; exact h
theorem below_join2 {w w1 w2 : World} (h : Below w.heap.size w w1) (k : Below w1.heap.size w1 w2) : Below w.heap.size w w2 := h.trans (k.mono h.size)

set_option maxHeartbeats 1000000 in
theorem works2_p (w : World) (hg : ErrType w) : Calls Tryz.prog 9 #[] w fun e w' => e = .returned (.bool true) ∧ Below w.heap.size w w' := by
  go_enter Tryz.func9, Tryz.ntmps9
  go_wp2_with fail
  refine (c_m1 _).mono ?_
  rintro e w1 ⟨rfl, b1⟩
  go_wp2_with fail
  refine (c_m2 _).mono ?_
  rintro e w2 ⟨rfl, b2⟩
  replace b2 := below_join2 b1 b2
  clear b1
  go_wp2_with fail
  refine (c_m3 _).mono ?_
  rintro e w3 ⟨rfl, b3⟩
  replace b3 := below_join2 b2 b3
  clear b2
  go_wp2_with fail
  refine (plain_some 24 (by decide) (by decide) _ (hg.below b3)).mono ?_
  rintro e w4 ⟨rfl, b4⟩
  replace b4 := below_join2 b3 b4
  clear b3
  go_wp2_with fail
  go_ret
  exact ⟨rfl, b4⟩
end Go.Proofs.YthkbhcefckbcnaaGreatDoor

namespace Go.Proofs.YthkbhcefckbcnaaGreatDoor
open Go.RowKit

set_option maxHeartbeats 1000000 in
theorem meta_p (s : ByteArray) (w : World) (hs : s.size ≤ 1048576) : Calls Tryz.prog 44 #[.string s] w fun e w' => e = .returned (.bool (Lib.containsAny (un s) [42, 63, 91])) ∧ Below w.heap.size w w' := by
  have hcall := anyOK s hs w
  go_enter Tryz.func44, Tryz.ntmps44
  go_wp2_with fail
  refine hcall.mono ?_
  rintro e w1 ⟨rfl, b1⟩
  go_wp2_with fail
  go_ret
  exact ⟨rfl, b1⟩

set_option maxHeartbeats 1000000 in
theorem meta_r (s : ByteArray) (w : World) (hs : s.size ≤ 1048576) : Calls Tryz.prog 79 #[.string s] w fun e w' => e = .returned (.bool (metaB s)) ∧ w' = w := by
  go_enter Tryz.func79, Tryz.ntmps79
  go_wp2
  go_loop [3] (fun i => ∃ k : Nat, k ≤ s.size ∧ i = .int .i64 k ∧ metaB s = ((un s).drop k).any (fun b => b == 42 || b == 63 || b == 91)) (fun i => s.size - (intOf i).toNat)
  case atStart => exact ⟨0, Nat.zero_le _, rfl, rfl⟩
  case round =>
    obtain ⟨k, hk, rfl, hm⟩ := hrel
    by_cases hlt : k < s.size
    · rw [drop_cons s k hlt, List.any_cons] at hm
      have d1 : (0 : Int) ≤ (k : Int) := by omega
      have d2 : (k : Int) < (s.size : Int) := by omega
      by_cases h1 : s[k].toNat = 42
      · have HV : Hid (metaB s = true) := by unfold Hid; rw [hm, show s[k] = 42 from UInt8.toNat_inj.1 h1]; rfl
        clear hm
        go_wp2
        go_ret
        exact ⟨by rw [HV.out]; rfl, rfl⟩
      · have e1 : ((s[k].toNat : Int) == 42) = false := by simp; omega
        by_cases h2 : s[k].toNat = 63
        · have HV : Hid (metaB s = true) := by unfold Hid; rw [hm, show s[k] = 63 from UInt8.toNat_inj.1 h2]; rfl
          clear hm
          go_wp2
          go_ret
          exact ⟨by rw [HV.out]; rfl, rfl⟩
        · have e2 : ((s[k].toNat : Int) == 63) = false := by simp; omega
          by_cases h3 : s[k].toNat = 91
          · have HV : Hid (metaB s = true) := by unfold Hid; rw [hm, show s[k] = 91 from UInt8.toNat_inj.1 h3]; rfl
            clear hm
            go_wp2
            go_ret
            exact ⟨by rw [HV.out]; rfl, rfl⟩
          · have e3 : ((s[k].toNat : Int) == 91) = false := by simp; omega
            have HV : Hid (metaB s = ((un s).drop (k + 1)).any (fun b => b == 42 || b == 63 || b == 91)) := by
              unfold Hid
              rw [hm, beq_false_of_ne (fun e => h1 (by rw [e]; rfl)), beq_false_of_ne (fun e => h2 (by rw [e]; rfl)), beq_false_of_ne (fun e => h3 (by rw [e]; rfl))]; rfl
            clear hm
            go_wp2
            go_round
            case rel => exact ⟨k + 1, by omega, by go_num, HV.out⟩
            case measure => simp [intOf]; omega
    · have HV : Hid (metaB s = false) := by unfold Hid; rw [hm, drop_end s k (by omega)]; rfl
      clear hm
      go_wp2
      go_ret
      exact ⟨by rw [HV.out]; rfl, rfl⟩

theorem any_eq : ∀ l : List UInt8, Lib.containsAny l [42, 63, 91] = l.any (fun b => b == 42 || b == 63 || b == 91)
  | [] => rfl
  | b :: l => by
    have ih := any_eq l
    have hge := Lib.indexAny_ge [42, 63, 91] l
    rw [List.any_cons, ← ih]
    unfold Lib.containsAny
    rw [Lib.indexAny]
    cases h : ([42, 63, 91] : List UInt8).contains b
    · have hb : (b == 42 || b == 63 || b == 91) = false := by simpa [Bool.or_assoc] using h
      rw [hb, Bool.false_or]
      simp only [Bool.false_eq_true, if_false]
      by_cases h1 : Lib.indexAny l [42, 63, 91] = -1
      · rw [h1]; rfl
      · rw [if_neg (by simpa using h1)]
        exact decide_eq_decide.2 (by omega)
    · have hb : (b == 42 || b == 63 || b == 91) = true := by simpa [Bool.or_assoc] using h
      rw [hb, Bool.true_or]; rfl
theorem meta_v (s : ByteArray) (w : World) (hs : s.size ≤ 1048576) : Calls Tryz.prog 44 #[.string s] w fun e w' => e = .returned (.bool (metaB s)) ∧ Below w.heap.size w w' := by
  have h := meta_p s w hs
  rw [any_eq] at h
  exact h

set_option maxRecDepth 100000 in
set_option maxHeartbeats 2000000 in
theorem match_law (pat p : ByteArray) (w : World) (hg : ErrType w) (hz : pat.size ≤ 1048576) (hp : p.size ≤ 1048576) :
    Calls Tryz.prog 45 #[.string pat, .string p] w fun e w' => e = .returned (.bool true) ∧ Below w.heap.size w w' := by
  have hm := fun W => match_p pat p W (by omega) (by omega)
  have hr := fun W => match_r pat p W (by omega) (by omega)
  have ha := fun W => meta_v pat W hz
  have hb := fun W => meta_v p W hp
  have hc := fun W => meta_r pat W hz
  have hd := fun W => meta_r p W hp
  have e1 : (matchB pat p == matchB pat p) = true := by simp
  have e2 : (metaB pat == metaB pat) = true := by simp
  have e3 : (metaB p == metaB p) = true := by simp
  generalize matchB pat p = mv at *
  generalize metaB pat = m1 at *
  generalize metaB p = m2 at *
  cases hn : (patOf pat).isNone
  · rw [perr_ok hn] at hm
    rw [hn] at hr
    simp only [Bool.false_eq_true, if_false] at hr
    clear hn
    go_enter Tryz.func45, Tryz.ntmps45
    go_wp2_with fail
    refine (hr _).mono ?_
    rintro e w1 ⟨rfl, b1⟩
    go_wp2_with fail
    refine (hm _).mono ?_
    rintro e w2 ⟨rfl, b2⟩
    replace b2 := below_join2 b1 b2
    clear b1
    go_wp2_with fail
    refine (plain_nil _).mono ?_
    rintro e w3 ⟨rfl, b3⟩
    replace b3 := below_join2 b2 b3
    clear b2
    go_wp2_with fail
    refine (ha _).mono ?_
    rintro e w4 ⟨rfl, b4⟩
    replace b4 := below_join2 b3 b4
    clear b3
    go_wp2_with fail
    refine (hc _).mono ?_
    rintro e w5 ⟨rfl, hw5⟩
    replace hw5 := hw5.symm
    subst hw5
    go_wp2_with fail
    refine (hb _).mono ?_
    rintro e w6 ⟨rfl, b6⟩
    replace b6 := below_join2 b4 b6
    clear b4
    go_wp2_with fail
    refine (hd _).mono ?_
    rintro e w7 ⟨rfl, hw7⟩
    replace hw7 := hw7.symm
    subst hw7
    go_wp2_with fail
    refine (works2_p _ (hg.below b6)).mono ?_
    rintro e w8 ⟨rfl, b8⟩
    replace b8 := below_join2 b6 b8
    go_wp2_with fail
    go_ret
    exact ⟨rfl, b8⟩
  · rw [perr_bad hn] at hm
    rw [hn] at hr
    simp only [if_true] at hr
    clear hn
    go_enter Tryz.func45, Tryz.ntmps45
    go_wp2_with fail
    refine (hr _).mono ?_
    rintro e w1 ⟨rfl, b1⟩
    go_wp2_with fail
    refine (hm _).mono ?_
    rintro e w2 ⟨rfl, b2⟩
    replace b2 := below_join2 b1 b2
    clear b1
    go_wp2_with fail
    refine (plain_some 24 (by decide) (by decide) _ (hg.below b2)).mono ?_
    rintro e w3 ⟨rfl, b3⟩
    replace b3 := below_join2 b2 b3
    clear b2
    go_wp2_with fail
    refine (ha _).mono ?_
    rintro e w4 ⟨rfl, b4⟩
    replace b4 := below_join2 b3 b4
    clear b3
    go_wp2_with fail
    refine (hc _).mono ?_
    rintro e w5 ⟨rfl, hw5⟩
    replace hw5 := hw5.symm
    subst hw5
    go_wp2_with fail
    refine (hb _).mono ?_
    rintro e w6 ⟨rfl, b6⟩
    replace b6 := below_join2 b4 b6
    clear b4
    go_wp2_with fail
    refine (hd _).mono ?_
    rintro e w7 ⟨rfl, hw7⟩
    replace hw7 := hw7.symm
    subst hw7
    go_wp2_with fail
    refine (works2_p _ (hg.below b6)).mono ?_
    rintro e w8 ⟨rfl, b8⟩
    replace b8 := below_join2 b6 b8
    go_wp2_with fail
    go_ret
    exact ⟨rfl, b8⟩
end Go.Proofs.YthkbhcefckbcnaaGreatDoor

namespace Go.Proofs.YthkbhcefckbcnaaGreatDoor
open Go Go.RowKit

/-- No line ends between these two places. -/
def noNl (s : ByteArray) (f k : Nat) : Prop := ∀ j : Nat, f ≤ j → j < k → (un s)[j]? ≠ some 10
theorem noNl_nil (s : ByteArray) (k : Nat) : noNl s k k := fun j h1 h2 => by omega
theorem noNl_succ {s : ByteArray} {f k : Nat} (h : noNl s f k) (hc : (un s)[k]? ≠ some 10) : noNl s f (k + 1) := fun j h1 h2 => by
  rcases Nat.lt_or_ge j k with h3 | h3
  · exact h j h1 h3
  · obtain rfl : j = k := by omega
    exact hc
theorem noNl_mem {s : ByteArray} {f k : Nat} (h : noNl s f k) : (10 : UInt8) ∉ un (s.extract f k) := fun hm => by
  obtain ⟨j, hj, he⟩ := List.getElem_of_mem hm
  have h1 : (un (s.extract f k))[j]? = some 10 := by rw [List.getElem?_eq_getElem hj, he]
  rw [un_extract, List.getElem?_drop, List.getElem?_take] at h1
  split at h1
  · exact h (f + j) (by omega) (by assumption) h1
  · cases h1
theorem linesL_split : ∀ (a b : List UInt8), (10 : UInt8) ∉ a → linesL (a ++ 10 :: b) = a :: linesL b
  | [], b, _ => by rw [List.nil_append, linesL_cons, if_pos (by decide)]
  | c :: a, b, h => by
    have hc : (c == 10) = false := by
      rw [beq_eq_false_iff_ne]; intro e; exact h (by rw [e]; exact List.mem_cons_self)
    rw [List.cons_append, linesL_cons, hc, linesL_split a b (fun hm => h (List.mem_cons_of_mem _ hm))]
    rfl
theorem lines_at (s : ByteArray) (f k : Nat) (hf : f ≤ k) (hk : k < s.size) (hc : (un s)[k]? = some 10) (hn : noNl s f k) :
    linesL (un (s.extract f s.size)) = un (s.extract f k) :: linesL (un (s.extract (k + 1) s.size)) := by
  rw [← linesL_split _ _ (noNl_mem hn)]
  congr 1
  rw [un_extract, un_extract, un_extract]
  have hl : (un s).length = s.size := un_length s
  rw [← hl, List.take_length]
  have hk' : k < (un s).length := by omega
  have e1 : (un s).drop f = ((un s).take k).drop f ++ (un s).drop k := by
    rw [← List.drop_append_of_le_length (by rw [List.length_take]; omega), List.take_append_drop]
  have e2 : (un s).drop k = 10 :: (un s).drop (k + 1) := by
    rw [List.drop_eq_getElem_cons hk']
    congr 1
    rw [List.getElem?_eq_getElem hk'] at hc
    exact Option.some.inj hc
  rw [e1, e2]
set_option maxRecDepth 100000 in
set_option maxHeartbeats 1000000 in
theorem lines_r (s : ByteArray) (w : World) (hs : s.size ≤ 1099511627776) : Calls Tryz.prog 22 #[.string s] w fun e w' => ∃ v, e = .returned v ∧ w'.ownsRow w.heap.size 9 1 v (linesL (un s)).length (strs ((linesL (un s)).map bs)) ∧ Below w.heap.size w w' := by
  obtain ⟨i0, hi, hz0, hz1, hz2⟩ := info_parts info_str
  go_enter Tryz.func22, Tryz.ntmps22
  go_wp2
  go_loopw [3, 4, 5] (fun v fr i wr => ∃ (k f : Nat) (ps : List ByteArray), i = .int .i64 k ∧ fr = .int .i64 f ∧ f ≤ k ∧ k ≤ s.size ∧ ps.length ≤ k ∧ wr.ownsRow w.heap.size 9 1 v ps.length (strs ps) ∧ Below w.heap.size w wr ∧ noNl s f k ∧ (linesL (un s)).map bs = ps ++ (linesL (un (s.extract f s.size))).map bs) (fun _ _ i _ => s.size - (intOf i).toNat)
  case atStart => exact ⟨0, 0, [], rfl, rfl, Nat.le_refl _, Nat.zero_le _, Nat.le_refl _, World.ownsRow_nil _ _ _ _, Below.refl _ _, noNl_nil _ _, by rw [extract_all]; rfl⟩
  case round =>
    obtain ⟨k, f, ps, rfl, rfl, hfk, hk, hpl, hown, hB, hn, hp⟩ := hrel
    have hsz := hB.size
    by_cases hlt : k < s.size
    · have hlt' : (k : Int) < (s.size : Int) := by omega
      have hk0 : (0 : Int) ≤ (k : Int) := by omega
      have hf0 : (0 : Int) ≤ (f : Int) := by omega
      have hfk' : (f : Int) ≤ (k : Int) := by omega
      have hget := un_getElem? s k hlt
      by_cases hc : s[k].toNat = 10
      · have hc2 : (un s)[k]? = some 10 := by rw [hget]; congr 1; exact UInt8.toNat_inj.1 hc
        have Hp : Hid ((linesL (un s)).map bs = (ps ++ [s.extract f k]) ++ (linesL (un (s.extract (k + 1) s.size))).map bs) := by
          unfold Hid; rw [hp, lines_at s f k hfk hlt hc2 hn, List.map_cons, bs_un]; simp
        clear hget hc2 hn hp
        go_wp2_with (at_builtin; refine wpList_append_own _ rfl _ _ 46 rfl w.heap.size 9 i0 (.string ⟨#[]⟩) 1 16 Tryz.underlying46 hi hz0 hz1 hz2 rfl (by decide) _ _ _ rfl (hown.alloc _) ⟨wr.heap.size, 0, none⟩ 1 1 [.string (s.extract f k)] rfl rfl (cell_one_new _ _ _) (by simp [Value.oneCell']) (by unfold maxLen; omega) (by omega) (by simp; omega) ?_; intro v1 w1 hown1 hgrow1 _)
        have hb1 : Below w.heap.size w w1 := (hB.alloc hsz _).grown hgrow1 (by simp; omega) (fun j hj => (own_ge hown j hj.symm).1)
        go_roundw
        case rel => exact ⟨k + 1, k + 1, ps ++ [s.extract f k], by go_num, by go_num, Nat.le_refl _, by omega, by simp; omega, by simpa [strs] using hown1, hb1, noNl_nil _ _, Hp.out⟩
        case measure => simp [intOf]; omega
      · have hc2 : (un s)[k]? ≠ some 10 := by rw [hget]; intro e; exact hc (by rw [Option.some.inj e]; rfl)
        have Hn : Hid _ := noNl_succ hn hc2
        have Hp : Hid _ := hp
        have hcb : ((s[k].toNat : Int) == 10) = false := by rw [beq_eq_false_iff_ne]; omega
        clear hget hc2 hn hp
        go_wp2
        go_roundw
        case rel => exact ⟨k + 1, f, ps, by go_num, rfl, by omega, by omega, by omega, hown, hB, Hn.out, Hp.out⟩
        case measure => simp [intOf]; omega
    · obtain rfl : k = s.size := by omega
      have hf0 : (0 : Int) ≤ (f : Int) := by omega
      have hfk' : (f : Int) ≤ (s.size : Int) := by omega
      have hge : ¬ (s.size : Int) < (s.size : Int) := by omega
      have Hp : Hid ((linesL (un s)).map bs = ps ++ [s.extract f s.size]) := by
        unfold Hid; rw [hp, linesL_none _ (noNl_mem hn), List.map_cons, bs_un]; rfl
      clear hn hp
      go_wp2_with (at_builtin; refine wpList_append_own _ rfl _ _ 46 rfl w.heap.size 9 i0 (.string ⟨#[]⟩) 1 16 Tryz.underlying46 hi hz0 hz1 hz2 rfl (by decide) _ _ _ rfl (hown.alloc _) ⟨wr.heap.size, 0, none⟩ 1 1 [.string (s.extract f s.size)] rfl rfl (cell_one_new _ _ _) (by simp [Value.oneCell']) (by unfold maxLen; omega) (by omega) (by simp; omega) ?_; intro v1 w1 hown1 hgrow1 _)
      have hb1 : Below w.heap.size w w1 := (hB.alloc hsz _).grown hgrow1 (by simp; omega) (fun j hj => (own_ge hown j hj.symm).1)
      go_ret
      have hlen : (linesL (un s)).length = ps.length + 1 := by
        have := congrArg List.length Hp.out
        simpa using this
      exact ⟨v1, rfl, by rw [Hp.out, hlen]; simpa [strs] using hown1, hb1⟩
end Go.Proofs.YthkbhcefckbcnaaGreatDoor

namespace Go.Proofs.YthkbhcefckbcnaaGreatDoor
open Go Go.RowKit

def isBlank (c : UInt8) : Bool := ([32, 9, 13] : List UInt8).contains c
theorem isBlank_eq (c : UInt8) : (((c.toNat : Int) == 32) || ((c.toNat : Int) == 9) || ((c.toNat : Int) == 13)) = isBlank c := by
  have h : ∀ d : UInt8, ((c.toNat : Int) == (d.toNat : Int)) = (c == d) := fun d => by
    by_cases e : c = d
    · subst e; simp
    · rw [beq_eq_false_iff_ne.2 e, beq_eq_false_iff_ne]; intro e2; exact e (UInt8.toNat_inj.1 (by omega))
  have h1 := h 32
  have h2 := h 9
  have h3 := h 13
  unfold isBlank
  simp only [List.contains_cons, List.contains_nil, Bool.or_false]
  rw [← h1, ← h2, ← h3, Bool.or_assoc]; rfl
theorem blank_r (c : UInt8) (w : World) : Calls Tryz.prog 48 #[.int .u8 c.toNat] w fun e w' => e = .returned (.bool (isBlank c)) ∧ w' = w := by
  by_cases h1 : c.toNat = 32
  · have hb : isBlank c = true := by rw [show c = 32 from UInt8.toNat_inj.1 h1]; rfl
    rw [hb]
    go_enter Tryz.func48, Tryz.ntmps48
    go_wp2
    go_ret
    exact ⟨rfl, rfl⟩
  · by_cases h2 : c.toNat = 9
    · have hb : isBlank c = true := by rw [show c = 9 from UInt8.toNat_inj.1 h2]; rfl
      rw [hb]
      go_enter Tryz.func48, Tryz.ntmps48
      go_wp2
      go_ret
      exact ⟨rfl, rfl⟩
    · have hb := isBlank_eq c
      go_enter Tryz.func48, Tryz.ntmps48
      go_wp2
      go_ret
      exact ⟨rfl, rfl⟩

theorem trimS_mid (a m b : List UInt8) (ha : ∀ c ∈ a, isBlank c = true) (hb : ∀ c ∈ b, isBlank c = true) (h1 : ∀ c, m.head? = some c → isBlank c = false) (h2 : ∀ c, m.getLast? = some c → isBlank c = false) : Lib.trimS (a ++ m ++ b) [32, 9, 13] = m := by
  unfold Lib.trimS Lib.trimLeftS Lib.trimRightS
  change List.dropWhile isBlank (List.dropWhile isBlank (a ++ m ++ b).reverse).reverse = m
  rw [List.reverse_append, List.dropWhile_append_of_pos (by intro c hc; exact hb c (List.mem_reverse.1 hc)), List.reverse_append]
  rcases List.eq_nil_or_concat m with rfl | ⟨m', x, rfl⟩
  · rw [List.reverse_nil, List.nil_append]
    have : List.dropWhile isBlank a.reverse = [] := by
      have h := List.dropWhile_append_of_pos (p := isBlank) (l₁ := a.reverse) (l₂ := []) (by intro c hc; exact ha c (List.mem_reverse.1 hc))
      simpa using h
    rw [this]; rfl
  · have hx : isBlank x = false := h2 x (by simp)
    have e1 : List.dropWhile isBlank ((m'.concat x).reverse ++ a.reverse) = (m'.concat x).reverse ++ a.reverse := by
      simp [hx]
    rw [e1, ← List.reverse_append, List.reverse_reverse, List.dropWhile_append_of_pos ha]
    cases m' with
    | nil => simp [hx]
    | cons y t => have hy : isBlank y = false := h1 y (by simp)
                  simp [hy]
theorem trimB_mid (s : ByteArray) (i j : Nat) (hij : i ≤ j) (hj : j ≤ s.size) (ha : ∀ c ∈ (un s).take i, isBlank c = true) (hb : ∀ c ∈ (un s).drop j, isBlank c = true) (h1 : i < j → ∀ c, (un s)[i]? = some c → isBlank c = false) (h2 : i < j → ∀ c, (un s)[j - 1]? = some c → isBlank c = false) : trimB s = s.extract i j := by
  refine un_inj ?_
  unfold trimB
  rw [un_bs, un_extract]
  have hl := un_length s
  have e : un s = (un s).take i ++ ((un s).take j).drop i ++ (un s).drop j := by
    have e2 : (un s).take i = ((un s).take j).take i := by rw [List.take_take, Nat.min_eq_left hij]
    rw [e2, List.take_append_drop, List.take_append_drop]
  have hlm : (((un s).take j).drop i).length = j - i := by simp; omega
  conv => lhs; rw [e]
  refine trimS_mid _ _ _ ha hb (fun c hc => ?_) (fun c hc => ?_)
  · rw [List.head?_drop, List.getElem?_take] at hc
    split at hc
    · exact h1 (by omega) c hc
    · cases hc
  · have hlt : i < j := by
      rcases Nat.lt_or_ge i j with h | h
      · exact h
      · rw [List.getLast?_eq_none_iff.2 (List.length_eq_zero_iff.1 (by omega))] at hc; cases hc
    rw [List.getLast?_eq_getElem?, hlm, List.getElem?_drop, List.getElem?_take] at hc
    split at hc
    · exact h2 hlt c (by rw [← hc]; congr 1; omega)
    · cases hc

set_option maxHeartbeats 2000000 in
theorem trimmed_r (s : ByteArray) (w : World) (hs : s.size ≤ 1099511627776) :
    Calls Tryz.prog 23 #[.string s] w fun e w' => e = .returned (.string (trimB s)) ∧ Below w.heap.size w w' := by
  go_enter Tryz.func23, Tryz.ntmps23
  go_wp2
  go_loopw [3] (fun n wr => ∃ k : Nat, k ≤ s.size ∧ n = .int .i64 k ∧ (∀ c ∈ (un s).take k, isBlank c = true) ∧ Below w.heap.size w wr) (fun n _ => s.size - (intOf n).toNat)
  case atStart => exact ⟨0, Nat.zero_le _, rfl, by simp, Below.refl _ _⟩
  case round =>
    obtain ⟨k, hk, rfl, ha, hB⟩ := hrel
    by_cases hlt : k < s.size
    · have hget := un_getElem? s k hlt
      have d1 : (0 : Int) ≤ (k : Int) := by omega
      have d2 : (k : Int) < (s.size : Int) := by omega
      by_cases hbl : isBlank s[k] = true
      · have Ha : Hid (∀ c ∈ (un s).take (k + 1), isBlank c = true) := by
          intro c hc
          rw [List.take_add_one, hget] at hc
          rcases List.mem_append.1 hc with h | h
          · exact ha c h
          · rw [List.mem_singleton.1 h]; exact hbl
        clear ha hget
        go_wp2_with (go_at_call 48; refine (blank_r _ _).mono ?_; rintro e w' ⟨rfl, rfl⟩; rw [hbl])
        exact ⟨⟨k + 1, by omega, by go_num, Ha.out, hB⟩, by simp [intOf]; omega⟩
      · have hbl2 : isBlank s[k] = false := by simpa using hbl
        have H1 : Hid (∀ c, (un s)[k]? = some c → isBlank c = false) := fun c hc => by rw [hget] at hc; rw [← Option.some.inj hc]; exact hbl2
        have Ha : Hid (∀ c ∈ (un s).take k, isBlank c = true) := ha
        clear ha hget hbl
        go_wp2_with (go_at_call 48; refine (blank_r _ _).mono ?_; rintro e w' ⟨rfl, rfl⟩; rw [hbl2])
        go_loopw [4] (fun n wr => ∃ j : Nat, k < j ∧ j ≤ s.size ∧ n = .int .i64 j ∧ (∀ c ∈ (un s).drop j, isBlank c = true) ∧ Below w.heap.size w wr) (fun n _ => (intOf n).toNat)
        case atStart => exact ⟨s.size, hlt, Nat.le_refl _, rfl, by simp [← un_length], hB⟩
        case round =>
          obtain ⟨j, hkj, hj, rfl, hb, hB2⟩ := hrel
          have hgj := un_getElem? s (j - 1) (by omega)
          have e1 : (0 : Int) ≤ (j : Int) - 1 := by omega
          have e2 : (j : Int) - 1 < (s.size : Int) := by omega
          have e3 : ((j : Int) - 1) = ((j - 1 : Nat) : Int) := by omega
          by_cases hbj : isBlank s[j - 1] = true
          · have Hb : Hid (∀ c ∈ (un s).drop (j - 1), isBlank c = true) := by
              intro c hc
              rw [List.drop_eq_getElem_cons (by rw [un_length]; omega)] at hc
              rcases List.mem_cons.1 hc with h | h
              · rw [List.getElem?_eq_getElem (by rw [un_length]; omega)] at hgj
                rw [h, Option.some.inj hgj]; exact hbj
              · rw [show j - 1 + 1 = j by omega] at h; exact hb c h
            have hkj2 : k < j - 1 := by
              rcases Nat.lt_or_ge k (j - 1) with h | h
              · exact h
              · obtain rfl : k = j - 1 := by omega
                rw [hbl2] at hbj; cases hbj
            clear hb hgj
            go_wp2_with (go_at_call 48; refine (blank_r _ _).mono ?_; rintro e w' ⟨rfl, rfl⟩; rw [hbj])
            exact ⟨⟨j - 1, by omega, by omega, by go_num, Hb.out, hB2⟩, by simp [intOf]; omega⟩
          · have hbj2 : isBlank s[j - 1] = false := by simpa using hbj
            have Ht : Hid (trimB s = s.extract k j) := trimB_mid s k j (by omega) hj Ha.out hb (fun _ => H1.out) (fun _ c hc => by rw [hgj] at hc; rw [← Option.some.inj hc]; exact hbj2)
            clear hb hgj hbj
            go_wp2_with (go_at_call 48; refine (blank_r _ _).mono ?_; rintro e w' ⟨rfl, rfl⟩; rw [hbj2])
            go_ret
            exact ⟨by rw [Ht.out]; rfl, hB2⟩
    · obtain rfl : k = s.size := by omega
      have Ht : Hid (trimB s = s.extract s.size s.size) := trimB_mid s s.size s.size (Nat.le_refl _) (Nat.le_refl _) ha (by simp [← un_length]) (fun h => absurd h (Nat.lt_irrefl _)) (fun h => absurd h (Nat.lt_irrefl _))
      clear ha
      go_wp2
      refine wp_loop_rounds 1 ?_
      rw [rounds_succ]
      go_wp2
      go_ret
      exact ⟨by rw [Ht.out, show s.extract s.size s.size = ByteArray.empty from un_inj (by rw [un_extract, List.drop_eq_nil_of_le (by simp [un_length])]; rfl)]; rfl, hB⟩
end Go.Proofs.YthkbhcefckbcnaaGreatDoor

namespace Go.Proofs.YthkbhcefckbcnaaGreatDoor
open Go Go.RowKit

/-- A line's rule, as the document has it: does it take back, and its pattern. -/
abbrev RuleD := Bool × ByteArray
def docRule (line : ByteArray) : Option RuleD :=
  if (trimB line).size = 0 ∨ (un (trimB line))[0]? = some 35 then none
  else if (un (trimB line))[0]? = some 33 then some (true, trimB ((trimB line).extract 1 (trimB line).size))
  else some (false, trimB line)
def addLineD (rs : List RuleD) (line : ByteArray) : Except Int (List RuleD) :=
  match docRule line with
  | none => .ok rs
  | some r => if rs.length = 256 then .error 5 else if (patOf r.2).isNone then .error 24 else .ok (rs ++ [r])
def addLinesD : List RuleD → List ByteArray → Nat → Except (Int × Nat) (List RuleD)
  | rs, [], _ => .ok rs
  | rs, x :: xs, k => match addLineD rs x with | .error n => .error (n, k) | .ok rs2 => addLinesD rs2 xs (k + 1)
theorem addLinesD_cons (rs : List RuleD) (x : ByteArray) (xs : List ByteArray) (k : Nat) : addLinesD rs (x :: xs) k = match addLineD rs x with | .error n => .error (n, k) | .ok rs2 => addLinesD rs2 xs (k + 1) := rfl
def parseD (s : ByteArray) : Except (Int × Nat) (List RuleD) := addLinesD [] ((linesL (un s)).map bs) 1
/-- What a line says is what the program's reading says of it. -/
theorem lineRule_doc (line : ByteArray) : lineRule line = match docRule line with | none => some none | some r => (patOf r.2).map fun ps => some (r.1, ps ++ [none]) := by
  unfold lineRule docRule
  by_cases h1 : (trimB line).size = 0 ∨ (un (trimB line))[0]? = some 35
  · rw [if_pos h1, if_pos h1]
  · rw [if_neg h1, if_neg h1]
    by_cases h2 : (un (trimB line))[0]? = some 33
    · obtain ⟨l, hl⟩ : ∃ l, un (trimB line) = 33 :: l := by
        cases hu : un (trimB line) with
        | nil => rw [hu] at h2; cases h2
        | cons c l => rw [hu] at h2; simp at h2; exact ⟨l, by rw [h2]⟩
      have e1 : Lib.hasPrefix (un (trimB line)) [33] = true := by rw [hl]; simp [Lib.hasPrefix]
      have e2 : bs (Lib.trimPrefix (un (trimB line)) [33]) = (trimB line).extract 1 (trimB line).size := by
        apply un_inj
        rw [un_bs, un_extract, ← un_length, List.take_length, hl]
        simp [Lib.trimPrefix, Lib.hasPrefix]
      rw [if_pos e1, if_pos h2, e2]
    · have e1 : Lib.hasPrefix (un (trimB line)) [33] = false := by
        cases hu : un (trimB line) with
        | nil => simp [Lib.hasPrefix]
        | cons c l =>
          rw [hu] at h2; simp at h2
          have e : ((33 : UInt8) == c) = false := by rw [beq_eq_false_iff_ne]; exact fun e => h2 e.symm
          simp [Lib.hasPrefix, List.isPrefixOf, e]
      rw [if_neg (by rw [e1]; decide), if_neg h2]
/-- The program's rules, of the document's. -/
def toRule (r : RuleD) : Rule := (r.1, (patOf r.2).getD [] ++ [none])
theorem addLine_doc (rs : List RuleD) (line : ByteArray) : addLine (rs.map toRule) line = match addLineD rs line with | .error n => .error n | .ok rs2 => .ok (rs2.map toRule) := by
  unfold addLine addLineD
  rw [lineRule_doc]
  cases docRule line with
  | none => rfl
  | some r =>
    simp only [List.length_map]
    cases hp : patOf r.2 with
    | none =>
      simp only [Option.map_none, Option.isNone_none, if_true]
      split <;> rfl
    | some ps =>
      simp only [Option.map_some, Option.isNone_some]
      split
      · rfl
      · simp [toRule, hp]
theorem info_rule : (Tryz.prog.info? 50).map (fun i => (i.zero, i.size, i.bytes)) = some (some (.agg #[.bool false, .string ⟨#[]⟩]), 2, 24) := by kernel_rfl
def rcells (rs : List RuleD) : List Value := rs.flatMap fun r => [.bool r.1, .string r.2]
theorem rcells_length (rs : List RuleD) : (rcells rs).length = rs.length * 2 := by
  unfold rcells; induction rs with
  | nil => rfl
  | cons r rs ih => rw [List.flatMap_cons, List.length_append, ih]; simp; omega
theorem rcells_append (a b : List RuleD) : rcells (a ++ b) = rcells a ++ rcells b := by simp [rcells]
def ParseD (s : ByteArray) (w : World) (e : Ending) (w' : World) : Prop :=
  (match parseD s with
  | .ok rs => ∃ v, e = .returned (.tuple #[v, .int .i64 0, .int .i64 0]) ∧ w'.ownsRow w.heap.size 50 2 v rs.length (rcells rs)
  | .error (n, k) => e = .returned (.tuple #[.slice none 0 0, .int .i64 n, .int .i64 k])) ∧ Below w.heap.size w w'
theorem lines_count : ∀ (l : List UInt8) (s : ByteArray), un s = l → (linesL l).length ≤ s.size + 1 := fun l s h => by
  rw [← un_length, h]
  clear h
  induction l with
  | nil => simp [linesL]
  | cons c l ih =>
    rw [linesL_cons]
    split
    · simp; exact ih
    · have : (linesL l).tail.length ≤ l.length := by simp; omega
      simp at this ⊢; omega
theorem lines_len : ∀ (l : List UInt8), ∀ x ∈ linesL l, x.length ≤ l.length
  | [], x, hx => by simp [linesL] at hx; subst hx; simp
  | c :: l, x, hx => by
    rw [linesL_cons] at hx
    have ih := lines_len l
    split at hx
    · rcases List.mem_cons.1 hx with rfl | h
      · simp
      · have := ih x h; simp; omega
    · rcases List.mem_cons.1 hx with h | h
      · have h2 : ((linesL l).headD []).length ≤ l.length := by
          cases hq : linesL l with
          | nil => simp
          | cons a b => exact ih a (by rw [hq]; exact List.mem_cons_self)
        rw [h, List.length_cons, List.length_cons]
        exact Nat.succ_le_succ h2
      · have := ih x (List.mem_of_mem_tail h); simp; omega
theorem cell_new2 (W : World) (t : TypeId) (cs : Array Value) (j : Nat) (v : Value) (h : cs[j]? = some v) : (W.alloc (.cells cs t)).cell? ⟨W.heap.size, j, none⟩ = some v := by
  unfold World.cell?
  rw [World.alloc_heap_new]
  exact h
/-- The rule's own block, and all that a round needs. -/
structure PSt (w W : World) (gl cap gr : Nat) (LS : List ByteArray) (v : Value) (rs : List RuleD) (r : RuleD) : Prop where
  rule : W.heap[gr]? = some (.cells #[.bool r.1, .string r.2] 50 (0, 0))
  rows : W.ownsRow w.heap.size 50 2 v rs.length (rcells rs)
  lines : W.ownsRow w.heap.size 9 1 (.slice (some ⟨gl, 0, none⟩) LS.length cap) LS.length (strs LS)
  bel : Below w.heap.size w W
set_option maxRecDepth 100000 in
set_option maxHeartbeats 2000000 in
theorem parse_r (HPt : Hid (∀ (x : ByteArray) (W : World), x.size ≤ 1099511627775 → Calls Tryz.prog 24 #[.string x] W fun e w' => e = .returned (.bool (patOf x).isSome) ∧ Below W.heap.size W w')) (s : ByteArray) (w : World) (hs : s.size ≤ 1099511627775) : Calls Tryz.prog 6 #[.string s] w (ParseD s w) := by
  obtain ⟨i0, hi, hz0, hz1, hz2⟩ := info_parts info_rule
  go_enter Tryz.func6, Tryz.ntmps6
  go_wp2_with (go_at_call 22; refine (lines_r s _ (by omega)).mono ?_; rintro e w1 ⟨lv, rfl, hol, b1⟩)
  have hlz : ∀ x ∈ (linesL (un s)).map bs, x.size ≤ s.size := fun x hx => by
    obtain ⟨y, hy, rfl⟩ := List.mem_map.1 hx
    rw [size_bs, ← un_length]; exact lines_len _ y hy
  have hpd : parseD s = addLinesD [] ((linesL (un s)).map bs) 1 := rfl
  have hn0 : 0 < (linesL (un s)).length := List.length_pos_iff.2 (linesL_ne _)
  rw [show (linesL (un s)).length = ((linesL (un s)).map bs).length by rw [List.length_map]] at hol hn0
  have hnl : ((linesL (un s)).map bs).length ≤ s.size + 1 := by
    rw [List.length_map]; exact lines_count _ s rfl
  generalize (linesL (un s)).map bs = LS at *
  rcases hol.2 with ⟨rfl, h0⟩ | ⟨gl, cap, cur, rfl, hgb, hgl, hcap⟩
  · omega
  clear hgl hcap
  go_loopw [5, 7] (fun v i wr => ∃ (k : Nat) (rs : List RuleD), i = .int .i64 k ∧ k ≤ LS.length ∧ rs.length ≤ 256 ∧ wr.ownsRow w.heap.size 50 2 v rs.length (rcells rs) ∧ wr.ownsRow w.heap.size 9 1 (.slice (some ⟨gl, 0, none⟩) LS.length cap) LS.length (strs LS) ∧ Below w.heap.size w wr ∧ parseD s = addLinesD rs (LS.drop k) (k + 1)) (fun _ i _ => LS.length - (intOf i).toNat)
  case atStart => exact ⟨0, [], rfl, Nat.zero_le _, by simp, World.ownsRow_nil _ _ _ _, hol, b1, hpd⟩
  case round =>
    obtain ⟨k, rs, rfl, hk, hr, hrows, hls, hB, hp⟩ := hrel
    have hsz := hB.size
    by_cases hlt : k < LS.length
    · have hlt' : (k : Int) < (LS.length : Int) := by omega
      have hk0 : (0 : Int) ≤ (k : Int) := by omega
      obtain ⟨x, hx⟩ : ∃ x, LS[k]? = some x := ⟨_, List.getElem?_eq_getElem hlt⟩
      have hxs := hlz x (List.mem_of_getElem? hx)
      have c0 : wr.cell? ⟨gl, k, none⟩ = some (.string x) := by
        rw [hls.cellAt k (by omega)]; simp [strs, hx]
      have hdr : LS.drop k = x :: LS.drop (k + 1) := by
        rw [List.drop_eq_getElem_cons hlt]; congr 1
        rw [List.getElem?_eq_getElem hlt] at hx; exact Option.some.inj hx
      rw [hdr, addLinesD_cons] at hp
      have hT := fun W => trimmed_r x W (by omega)
      have zT := trimB_size x
      clear hdr hx
      by_cases hz : (trimB x).size = 0
      · have ez : (trimB x).toList.isEmpty = true := (isEmpty_iff _).2 hz
        have HP : Hid (parseD s = addLinesD rs (LS.drop (k + 1)) (k + 1 + 1)) := by unfold Hid; rw [hp]; unfold addLineD docRule; rw [if_pos (.inl hz)]
        clear hp hz zT
        generalize trimB x = T at *
        go_wp2_with (go_at_call 23; refine (hT _).mono ?_; rintro e w2 ⟨rfl, b2⟩)
        go_roundw
        case rel => exact ⟨k + 1, rs, by go_num, by omega, hr, own_below hrows b2, own_below hls b2, hB.trans (b2.mono hsz), HP.out⟩
        case measure => simp [intOf]; omega
      · have ez : (trimB x).toList.isEmpty = false := (isEmpty_false _).2 (by omega)
        have hz0' : 0 < (trimB x).size := by omega
        have hget := un_getElem? (trimB x) 0 hz0'
        by_cases h35 : (trimB x)[0].toNat = 35
        · have HP : Hid (parseD s = addLinesD rs (LS.drop (k + 1)) (k + 1 + 1)) := by
            unfold Hid; rw [hp]; unfold addLineD docRule
            rw [if_pos (.inr (by rw [hget]; congr 1; exact UInt8.toNat_inj.1 h35))]
          have hb35 : (((trimB x)[0].toNat : Int) == 35) = true := by simp [h35]
          clear hp hz zT hget
          generalize trimB x = T at *
          go_wp2_with (go_at_call 23; refine (hT _).mono ?_; rintro e w2 ⟨rfl, b2⟩)
          go_roundw
          case rel => exact ⟨k + 1, rs, by go_num, by omega, hr, own_below hrows b2, own_below hls b2, hB.trans (b2.mono hsz), HP.out⟩
          case measure => simp [intOf]; omega
        · have hb35 : (((trimB x)[0].toNat : Int) == 35) = false := by rw [beq_eq_false_iff_ne]; omega
          obtain ⟨r, hr1, hr2, hrz⟩ : ∃ r : RuleD, docRule x = some r ∧ r = (if (trimB x)[0].toNat = 33 then (true, trimB ((trimB x).extract 1 (trimB x).size)) else (false, trimB x)) ∧ r.2.size ≤ x.size := by
            have n35 : ¬ ((trimB x).size = 0 ∨ (un (trimB x))[0]? = some 35) := by
              rintro (h | h)
              · exact hz h
              · rw [hget] at h; exact h35 (by rw [Option.some.inj h]; rfl)
            by_cases h33 : (trimB x)[0].toNat = 33
            · refine ⟨_, ?_, rfl, ?_⟩
              · unfold docRule; rw [if_neg n35, if_pos (by rw [hget]; congr 1; exact UInt8.toNat_inj.1 h33), if_pos h33]
              · rw [if_pos h33]
                have := trimB_size ((trimB x).extract 1 (trimB x).size)
                have h2 := size_extract' (trimB x) 1 (trimB x).size (Nat.le_refl _)
                show (trimB ((trimB x).extract 1 (trimB x).size)).size ≤ x.size
                omega
            · refine ⟨_, ?_, rfl, ?_⟩
              · unfold docRule; rw [if_neg n35, if_neg (by rw [hget]; intro e; exact h33 (by rw [Option.some.inj e]; rfl)), if_neg h33]
              · rw [if_neg h33]; exact zT
          have HP : Hid (parseD s = match (if rs.length = 256 then Except.error 5 else if (patOf r.2).isNone then .error 24 else .ok (rs ++ [r]) : Except Int (List RuleD)) with | .error n => .error (n, k + 1) | .ok rs2 => addLinesD rs2 (LS.drop (k + 1)) (k + 1 + 1)) := by
            unfold Hid; rw [hp]; unfold addLineD; rw [hr1]
          have hT2 := fun W => trimmed_r ((trimB x).extract 1 (trimB x).size) W (by have := size_extract' (trimB x) 1 (trimB x).size (Nat.le_refl _); omega)
          have h1s : (1 : Int) ≤ ((trimB x).size : Int) := by omega
          have Hr2 : Hid _ := hr2
          clear hp hz zT hget hr1 hr2
          generalize trimB ((trimB x).extract 1 (trimB x).size) = T2 at *
          generalize trimB x = T at *
          obtain ⟨ro, rc, rfl⟩ : ∃ o c, u5 = .slice o rs.length c := by
            rcases hrows.2 with ⟨h, h0⟩ | ⟨g, cap', cur, h, _⟩
            · exact ⟨none, 0, by rw [h, h0]⟩
            · exact ⟨_, _, h⟩
          go_upto_if 34 with (go_at_call 23; first | (with_reducible refine (hT _).mono ?_; rintro e w2 ⟨rfl, b2⟩))
          have hinf : (Tryz.prog.info? 50).map (·.size) = some 2 := by kernel_rfl
          have B2 : Below wr.heap.size wr (w2.alloc (.cells #[.bool false, .string T] 50)) := b2.alloc b2.size _
          have L2 : (w2.alloc (.cells #[.bool false, .string T] 50)).heap[w2.heap.size]? = some (.cells #[.bool false, .string T] 50 (0, 0)) := World.alloc_heap_new w2 _
          have hgr : wr.heap.size ≤ w2.heap.size := b2.size
          have mk : ∀ W, Below wr.heap.size wr W → W.heap[w2.heap.size]? = some (.cells #[.bool r.1, .string r.2] 50 (0, 0)) → PSt w W gl cap w2.heap.size LS (.slice ro rs.length rc) rs r := fun W b h => ⟨h, own_below hrows b, own_below hls b, hB.trans (b.mono hsz)⟩
          have MK : Hid _ := mk
          clear mk
          generalize w2.alloc (.cells #[.bool false, .string T] 50) = W2 at *
          generalize w2.heap.size = gr at *
          go_cut [] from 12 to 53 (fun wx => PSt w wx gl cap gr LS (.slice ro rs.length rc) rs r)
          case first =>
            by_cases h33 : T[0].toNat = 33
            · have hb33 : ((T[0].toNat : Int) == 33) = true := by simp [h33]
              have er : r = (true, T2) := by rw [Hr2.out, if_pos h33]
              have hone : (#[.bool true, .string T2] : Array Value).all (·.oneCell') = true := by simp [Value.oneCell']
              go_wp2_with (first
                | (go_at_call 23; with_reducible refine (hT2 _).mono ?_; rintro e w3 ⟨rfl, b3⟩; have L3 := (b3.block gr (Array.getElem?_eq_some_iff.1 L2).1).trans L2)
                | (refine wpList_store_row rfl 50 (.tmp 9) (.tmp 38) rfl gr #[.bool true, .string T2] rfl rfl 50 #[.bool false, .string T] L3 hinf rfl hone ?_))
              go_meet
              refine MK.out _ (below_setRow (B2.trans (b3.mono B2.size)) hgr _) ?_
              rw [er]
              exact setRow_heap w3 gr _ _ _ (0, 0) L3
            · have hb33 : ((T[0].toNat : Int) == 33) = false := by rw [beq_eq_false_iff_ne]; omega
              have er : r = (false, T) := by rw [Hr2.out, if_neg h33]
              go_wp2
              go_meet
              refine MK.out _ B2 ?_
              rw [er]; exact L2
          case rest =>
            obtain ⟨hru, hro, hli, hbe⟩ := hcut
            clear MK L2 B2 hgr hrows hls hB
            have c1 : wc.cell? ⟨gr, 1, none⟩ = some (.string r.2) := by simp [World.cell?, hru]
            by_cases hm : rs.length = 256
            · have hmb : ((rs.length : Int) == 256) = true := by simp [hm]
              have HP2 : Hid (parseD s = .error (5, k + 1)) := by unfold Hid; rw [HP.out, if_pos hm]
              clear hm HP
              go_wp2
              refine bodyPost_ret (results_tmp3 rfl _ _ _) rfl ?_
              unfold ParseD
              rw [HP2.out]
              exact ⟨rfl, hbe⟩
            · have hmb : ((rs.length : Int) == 256) = false := by rw [beq_eq_false_iff_ne]; omega
              have hPt := HPt.out r.2 wc (by omega)
              cases hpat : patOf r.2 with
              | none =>
                have HP2 : Hid (parseD s = .error (24, k + 1)) := by unfold Hid; rw [HP.out, if_neg hm, hpat]; rfl
                rw [hpat] at hPt
                clear HP hpat
                go_wp2_with (go_at_call 24; refine hPt.mono ?_; rintro e w4 ⟨rfl, b4⟩)
                refine bodyPost_ret (results_tmp3 rfl _ _ _) rfl ?_
                unfold ParseD
                rw [HP2.out]
                exact ⟨rfl, hbe.trans (b4.mono hbe.size)⟩
              | some ps =>
                have HP2 : Hid (parseD s = addLinesD (rs ++ [r]) (LS.drop (k + 1)) (k + 1 + 1)) := by unfold Hid; rw [HP.out, if_neg hm, hpat]; rfl
                rw [hpat] at hPt
                clear HP hpat
                go_wp2_with (first
                  | (go_at_call 24; refine hPt.mono ?_; rintro e w4 ⟨rfl, b4⟩; have L4 := (b4.block gr (Array.getElem?_eq_some_iff.1 hru).1).trans hru; have B4 := hbe.trans (b4.mono hbe.size); have R4 := own_below hro b4; have I4 := own_below hli b4)
                  | (refine wpList_load_row rfl 50 (.tmp 9) rfl gr rfl 50 #[.bool r.1, .string r.2] (0, 0) _ L4 Tryz.underlying50 rfl hinf ?_)
                  | (at_builtin; refine wpList_append_own _ rfl _ _ 23 rfl w.heap.size 50 i0 (.agg #[.bool false, .string ⟨#[]⟩]) 2 24 Tryz.underlying23 hi hz0 hz1 hz2 rfl (by decide) _ _ _ rfl (R4.alloc _) ⟨w4.heap.size, 0, none⟩ 1 1 [.bool r.1, .string r.2] rfl rfl ?c1 ?c2 ?c3 ?c4 ?c5 ?_))
                case c1 =>
                  intro j u hj
                  rw [Addr.add_mid, Nat.zero_add]
                  rcases j with _ | _ | j
                  · simp at hj; subst hj; exact cell_new2 w4 _ _ 0 _ rfl
                  · simp at hj; subst hj; exact cell_new2 w4 _ _ 1 _ rfl
                  · simp at hj
                case c2 => intro u hu; simp at hu; rcases hu with rfl | rfl <;> rfl
                case c3 => unfold maxLen; omega
                case c4 => omega
                case c5 => have := B4.size; simp; omega
                intro v5 w5 R5 gr5 _
                have B5 : Below w.heap.size w w5 := (B4.alloc B4.size _).grown gr5 (by have := B4.size; simp; omega) (fun q hq => (own_ge R4 q hq.symm).1)
                have I5 : w5.ownsRow w.heap.size 9 1 (.slice (some ⟨gl, 0, none⟩) LS.length cap) LS.length (strs LS) := own_same (I4.alloc _) (same_grown gr5 (fun q cur hq hh => by
                  obtain ⟨_, cur2, h2⟩ := own_ge (R4.alloc (.cells #[.bool r.1, .string r.2] 50)) q hq.symm
                  rw [h2] at hh
                  injection hh with hh
                  injection hh with _ ht
                  exact absurd ht (by decide)))
                have R6 : w5.ownsRow w.heap.size 50 2 v5 (rs ++ [r]).length (rcells (rs ++ [r])) := by
                  rw [rcells_append, List.length_append]; exact R5
                have hl6 : (rs ++ [r]).length ≤ 256 := by rw [List.length_append]; simp; omega
                clear R5 gr5 R4 I4 B4 L4 b4 hro hli hbe hru c1 hPt
                go_wp2
                go_roundw
                case rel => exact ⟨k + 1, rs ++ [r], by go_num, by omega, hl6, R6, I5, B5, HP2.out⟩
                case measure => simp [intOf]; omega
    · have hge : ¬ (k : Int) < (LS.length : Int) := by omega
      have HP : Hid (parseD s = .ok rs) := by
        unfold Hid; rw [hp, List.drop_eq_nil_of_le (by omega)]; rfl
      clear hp
      go_wp2
      refine bodyPost_ret (results_tmp3 rfl _ _ _) rfl ?_
      unfold ParseD
      rw [HP.out]
      exact ⟨⟨_, rfl, hrows⟩, hB⟩
end Go.Proofs.YthkbhcefckbcnaaGreatDoor

namespace Go.Proofs.YthkbhcefckbcnaaGreatDoor
open Go Go.RowKit

theorem takenB_congr {m m' : Nat → Bool} {t t' : Nat → Nat → Bool} (K : Nat) (h : ∀ q, q < K → m q = m' q ∧ ∀ i, t q i = t' q i) : ∀ k, k ≤ K → ∀ i, takenB m t k i = takenB m' t' k i
  | 0, _, i => by rw [taken_start, taken_start]
  | k + 1, hk, i => by
    have ih := takenB_congr K h k (by omega)
    rw [taken_eq, taken_eq, (h k (by omega)).1]
    split
    · congr 1; funext j; exact ih j
    · cases i with
      | zero => rfl
      | succ j => simp only [(h k (by omega)).2 j, ih j]
theorem behind_any (ps : List Pc) (xs : List ByteArray) : takeP (ps ++ [none]) xs = (List.range (xs.length + 1)).any fun j => takenB (isMany (ps.map pcTaker)) (isTaken (ps.map pcTaker) xs) ps.length j := by
  have e1 : takeP (ps ++ [none]) xs = takenB (isMany ((ps ++ [none]).map pcTaker)) (isTaken ((ps ++ [none]).map pcTaker) xs) (ps.length + 1) xs.length := by
    simp only [takeP, takeI, List.length_map, List.length_append, List.length_singleton]
  have hm : isMany ((ps ++ [none]).map pcTaker) ps.length = true := by
    simp [isMany, pcTaker]
  rw [e1, taken_many hm]
  unfold anyTo
  congr 1
  funext j
  refine takenB_congr ps.length (fun q hq => ⟨?_, fun i => ?_⟩) ps.length (Nat.le_refl _) j
  · simp [isMany, List.getElem?_append_left, hq]
  · simp [isTaken, List.getElem?_append_left, hq]
set_option maxRecDepth 100000 in
set_option maxHeartbeats 2000000 in
theorem meets_r (r : RuleD) (ps : List Pc) (p : ByteArray) (w : World) (hpat : patOf r.2 = some ps) (hp : p.size ≤ 1099511627775) : Calls Tryz.prog 61 #[.agg #[.bool r.1, .string r.2], .string p] w fun e w' => e = .returned (.bool (takeP (ps ++ [none]) (namesB p))) ∧ Below w.heap.size w w' := by
  have h1 := length_wt (namesB p)
  have h2 := wt_names p
  have hN := fun W => names_r p W (by omega)
  have hR := fun u W b2 (ho : W.ownsRow b2 9 1 u (namesB p).length (strs (namesB p))) => reached_r r.2 ps (namesB p) b2 u W hpat ho (by omega) (fun y hy => by have := names_size p y hy; omega)
  have HV : Hid (takeP (ps ++ [none]) (namesB p) = (List.range ((namesB p).length + 1)).any fun j => takenB (isMany (ps.map pcTaker)) (isTaken (ps.map pcTaker) (namesB p)) ps.length j) := behind_any ps (namesB p)
  have hnn : (namesB p).length ≤ 1099511627776 := by omega
  clear hpat h1 h2
  generalize takenB (isMany (ps.map pcTaker)) (isTaken (ps.map pcTaker) (namesB p)) ps.length = f at *
  generalize takeP (ps ++ [none]) (namesB p) = V at *
  generalize namesB p = xs at *
  have HB0 : Hid (Below w.heap.size w (w.alloc (.cells #[.bool r.1, .string r.2] 50))) := (Below.refl _ w).alloc (Nat.le_refl _) _
  have c0 : (w.alloc (.cells #[.bool r.1, .string r.2] 50)).cell? ⟨w.heap.size, 1, none⟩ = some (.string r.2) := cell_new2 w _ _ 1 _ rfl
  have hlt0 : w.heap.size < (w.alloc (.cells #[.bool r.1, .string r.2] 50)).heap.size := by simp
  go_enter Tryz.func61, Tryz.ntmps61
  go_upto_region 1 with fail
  generalize w.alloc (.cells #[.bool r.1, .string r.2] 50) = W0 at *
  go_region_held3 (fun W => W.cell? ⟨w.heap.size, 1, none⟩ = some (.string r.2) ∧ Below w.heap.size w W) (first | exact ⟨c0, below_drawn HB0.out 1⟩ | (exact ⟨c2, B2⟩) | (exact ⟨c1, B1⟩)) (first
    | (go_at_call 49; refine (hN _).mono ?_; rintro e w1 ⟨u, rfl, ho, b1⟩; have B1 := (below_drawn HB0.out 1).trans (b1.mono HB0.out.size); have c1 : w1.cell? ⟨w.heap.size, 1, none⟩ = some (.string r.2) := (b1.cell (p := ⟨w.heap.size, 1, none⟩) hlt0).trans c0)
    | (go_at_call 98; refine (hR _ _ _ ho).mono ?_; rintro e w2 ⟨g, rfl, hL, b2⟩; have B2 := B1.trans (b2.mono B1.size); have c2 : w2.cell? ⟨w.heap.size, 1, none⟩ = some (.string r.2) := (b2.cell (p := ⟨w.heap.size, 1, none⟩) (World.block_lt_of_cell? w1 _ c1)).trans c1))
  all_goals
    have hcell : ∀ (W : World) (j : Nat), j < xs.length + 1 → Below w2.heap.size w2 W → W.cell? ⟨g, j, none⟩ = some (.bool (f j)) := fun W j hj b => (b.cell (p := ⟨g, j, none⟩) hL.lt).trans (hL.cell (rowB_get (xs.length + 1) f j hj))
    have HC : Hid _ := hcell
    clear hcell hL
    go_wp2
    go_loopw [6] (fun i wr => ∃ k : Nat, i = .int .i64 k ∧ k ≤ xs.length + 1 ∧ (∀ j, j < k → f j = false) ∧ Below w2.heap.size w2 wr) (fun i _ => xs.length + 1 - (intOf i).toNat)
    case atStart => exact ⟨0, rfl, Nat.zero_le _, fun j hj => by omega, Below.refl _ _⟩
    case round =>
      obtain ⟨k, rfl, hk, hno, hB⟩ := hrel
      have HN : Hid (∀ j, j < k → f j = false) := hno
      clear hno
      by_cases hlt : k < xs.length + 1
      · have hlt' : (k : Int) < (xs.length : Int) + 1 := by omega
        have hk0 : (0 : Int) ≤ (k : Int) := by omega
        have ck := HC.out wr k hlt hB
        cases hf : f k with
        | true =>
          have Hf : Hid (V = true) := by
            unfold Hid; rw [HV.out]; exact List.any_eq_true.2 ⟨k, List.mem_range.2 hlt, hf⟩
          rw [hf] at ck
          clear hf
          go_wp2
          go_ret
          exact ⟨by rw [Hf.out]; rfl, B2.trans (hB.mono B2.size)⟩
        | false =>
          have Hf : Hid (∀ j, j < k + 1 → f j = false) := fun j hj => by
            rcases Nat.lt_or_ge j k with h | h
            · exact HN.out j h
            · obtain rfl : j = k := by omega
              exact hf
          rw [hf] at ck
          clear hf
          go_wp2
          go_roundw
          case rel => exact ⟨k + 1, by go_num, by omega, Hf.out, hB⟩
          case measure => simp [intOf]; omega
      · have hge : ¬ (k : Int) < (xs.length : Int) + 1 := by omega
        have Hf : Hid (V = false) := by
          unfold Hid; rw [HV.out]; rw [List.any_eq_false]; intro j hj; have := List.mem_range.1 hj; rw [HN.out j (by omega)]; decide
        go_wp2
        go_ret
        exact ⟨by rw [Hf.out]; rfl, B2.trans (hB.mono B2.size)⟩
end Go.Proofs.YthkbhcefckbcnaaGreatDoor

namespace Go.Proofs.YthkbhcefckbcnaaGreatDoor
open Go Go.RowKit

/-- Is a text out, by a row of rules: the last one that meets says it. -/
def outL (rs : List Rule) (xs : List ByteArray) : Bool := match rs.reverse.find? fun r => takeP r.2 xs with | none => false | some r => !r.1
theorem outL_nil (xs : List ByteArray) : outL [] xs = false := rfl
theorem outL_snoc (rs : List Rule) (r : Rule) (xs : List ByteArray) : outL (rs ++ [r]) xs = if takeP r.2 xs then !r.1 else outL rs xs := by
  unfold outL
  rw [List.reverse_append, List.reverse_singleton, List.singleton_append, List.find?_cons]
  cases takeP r.2 xs <;> rfl
theorem rcells_get : ∀ (rs : List RuleD) (k : Nat) (r : RuleD), rs[k]? = some r → (rcells rs)[k * 2]? = some (.bool r.1) ∧ (rcells rs)[k * 2 + 1]? = some (.string r.2)
  | [], k, r, h => by simp at h
  | q :: rs, 0, r, h => by simp at h; subst h; exact ⟨rfl, rfl⟩
  | q :: rs, k + 1, r, h => by
    have ih := rcells_get rs k r (by simpa using h)
    have e : rcells (q :: rs) = .bool q.1 :: .string q.2 :: rcells rs := rfl
    rw [e, show (k + 1) * 2 = k * 2 + 1 + 1 by omega, show k * 2 + 1 + 1 + 1 = k * 2 + 1 + 1 + 1 from rfl]
    exact ⟨ih.1, ih.2⟩
set_option maxRecDepth 100000 in
set_option maxHeartbeats 2000000 in
theorem out_r (rs : List RuleD) (b : Nat) (v : Value) (p : ByteArray) (w : World) (hown : w.ownsRow b 50 2 v rs.length (rcells rs)) (hpat : ∀ r ∈ rs, (patOf r.2).isSome = true) (hr : rs.length ≤ 256) (hp : p.size ≤ 1099511627775) : Calls Tryz.prog 31 #[v, .string p] w fun e w' => e = .returned (.bool (outL (rs.map toRule) (namesB p))) ∧ Below w.heap.size w w' := by
  obtain ⟨o, c, rfl⟩ : ∃ o c, v = .slice o rs.length c := by
    rcases hown.2 with ⟨h, h0⟩ | ⟨g, cap', cur, h, _⟩
    · exact ⟨none, 0, by rw [h, h0]⟩
    · exact ⟨_, _, h⟩
  go_enter Tryz.func31, Tryz.ntmps31
  go_wp2
  go_loopw [5, 6] (fun x i wr => ∃ k : Nat, i = .int .i64 k ∧ k ≤ rs.length ∧ x = .bool (outL ((rs.take k).map toRule) (namesB p)) ∧ Below w.heap.size w wr) (fun _ i _ => rs.length - (intOf i).toNat)
  case atStart => exact ⟨0, rfl, Nat.zero_le _, rfl, Below.refl _ _⟩
  case round =>
    obtain ⟨k, rfl, hk, rfl, hB⟩ := hrel
    by_cases hlt : k < rs.length
    · have hlt' : (k : Int) < (rs.length : Int) := by omega
      have hk0 : (0 : Int) ≤ (k : Int) := by omega
      obtain ⟨r, hrk⟩ : ∃ r, rs[k]? = some r := ⟨_, List.getElem?_eq_getElem hlt⟩
      obtain ⟨ps, hps⟩ := Option.isSome_iff_exists.1 (hpat r (List.mem_of_getElem? hrk))
      obtain ⟨g, rfl⟩ : ∃ g, o = some ⟨g, 0, none⟩ := by
        rcases hown.2 with ⟨h, h0⟩ | ⟨g, cap', cur, h, _⟩
        · omega
        · injection h with h1; exact ⟨g, h1⟩
      have hrc := rcells_get rs k r hrk
      have hc : ∀ W, Below w.heap.size w W → W.cell? ⟨g, k * 2, none⟩ = some (.bool r.1) ∧ W.cell? ⟨g, k * 2 + 1, none⟩ = some (.string r.2) := fun W bb => by
        have hw := own_below hown bb
        rw [hw.cellAt (k * 2) (by omega), hw.cellAt (k * 2 + 1) (by omega)]; exact hrc
      have c1 := (hc wr hB).1
      have c2 := (hc wr hB).2
      have HC : Hid _ := hc
      have HS : Hid (outL ((rs.take (k + 1)).map toRule) (namesB p) = if takeP (ps ++ [none]) (namesB p) then !r.1 else outL ((rs.take k).map toRule) (namesB p)) := by
        unfold Hid
        rw [List.take_add_one, hrk, List.map_append]
        show outL (_ ++ [toRule r]) _ = _
        rw [outL_snoc]
        simp [toRule, hps]
      have hM := fun W => meets_r r ps p W hps hp
      clear hc hrc hrk hps
      generalize outL ((rs.take k).map toRule) (namesB p) = A at *
      cases hv : takeP (ps ++ [none]) (namesB p) with
      | true =>
        rw [hv] at hM
        have H2 : Hid (outL ((rs.take (k + 1)).map toRule) (namesB p) = !r.1) := by unfold Hid; rw [HS.out, hv]; rfl
        clear hv HS
        go_wp2_with (go_at_call 61; refine (hM _).mono ?_; rintro e w1 ⟨rfl, b1⟩; have B1 := hB.trans (b1.mono hB.size); have d1 := (HC.out w1 B1).1)
        go_roundw
        case rel => exact ⟨k + 1, by go_num, by omega, by rw [H2.out], B1⟩
        case measure => simp [intOf]; omega
      | false =>
        rw [hv] at hM
        have H2 : Hid (outL ((rs.take (k + 1)).map toRule) (namesB p) = A) := by unfold Hid; rw [HS.out, hv]; rfl
        clear hv HS
        go_wp2_with (go_at_call 61; refine (hM _).mono ?_; rintro e w1 ⟨rfl, b1⟩; have B1 := hB.trans (b1.mono hB.size))
        go_roundw
        case rel => exact ⟨k + 1, by go_num, by omega, by rw [H2.out], B1⟩
        case measure => simp [intOf]; omega
    · have hge : ¬ (k : Int) < (rs.length : Int) := by omega
      have HE : Hid (outL ((rs.take k).map toRule) (namesB p) = outL (rs.map toRule) (namesB p)) := by unfold Hid; rw [List.take_of_length_le (by omega)]
      generalize outL ((rs.take k).map toRule) (namesB p) = A at *
      go_wp2
      go_ret
      exact ⟨congrArg (fun z => Ending.returned (Value.bool z)) HE.out, hB⟩
end Go.Proofs.YthkbhcefckbcnaaGreatDoor

namespace Go.Proofs.YthkbhcefckbcnaaGreatDoor
open Go Go.RowKit

theorem addLines_doc : ∀ (xs : List (List UInt8)) (rs : List RuleD) (k : Nat), addLinesE (rs.map toRule) xs k = match addLinesD rs (xs.map bs) k with | .error e => .error e | .ok rs2 => .ok (rs2.map toRule)
  | [], rs, k => rfl
  | x :: xs, rs, k => by
    rw [addLinesE_cons, List.map_cons, addLinesD_cons, addLine_doc]
    cases addLineD rs (bs x) with
    | error n => rfl
    | ok rs2 => exact addLines_doc xs rs2 (k + 1)
/-- The program's reading is the document's. -/
theorem parse_doc (s : ByteArray) : parseE s = match parseD s with | .error e => .error e | .ok rs => .ok (rs.map toRule) := addLines_doc (linesL (un s)) [] 1
theorem addLineD_some {rs rs2 : List RuleD} {x : ByteArray} (h : addLineD rs x = .ok rs2) (hr : rs.length ≤ 256) (hp : ∀ r ∈ rs, (patOf r.2).isSome = true) : rs2.length ≤ 256 ∧ ∀ r ∈ rs2, (patOf r.2).isSome = true := by
  unfold addLineD at h
  split at h
  · cases h; exact ⟨hr, hp⟩
  · rename_i r _
    split at h
    · cases h
    · split at h
      · cases h
      · rename_i h1 h2
        cases h
        refine ⟨by rw [List.length_append]; simp; omega, fun q hq => ?_⟩
        rcases List.mem_append.1 hq with hq | hq
        · exact hp q hq
        · obtain rfl := List.mem_singleton.1 hq
          cases hh : patOf q.2 with
          | none => rw [hh] at h2; simp at h2
          | some _ => rfl
theorem addLinesD_some : ∀ (xs : List ByteArray) (rs rs2 : List RuleD) (k : Nat), addLinesD rs xs k = .ok rs2 → rs.length ≤ 256 → (∀ r ∈ rs, (patOf r.2).isSome = true) → rs2.length ≤ 256 ∧ ∀ r ∈ rs2, (patOf r.2).isSome = true
  | [], rs, rs2, k, h, hr, hp => by cases h; exact ⟨hr, hp⟩
  | x :: xs, rs, rs2, k, h, hr, hp => by
    rw [addLinesD_cons] at h
    cases ha : addLineD rs x with
    | error n => rw [ha] at h; cases h
    | ok rs3 =>
      rw [ha] at h
      have := addLineD_some ha hr hp
      exact addLinesD_some xs rs3 rs2 (k + 1) h this.1 this.2
theorem parseD_some {s : ByteArray} {rs : List RuleD} (h : parseD s = .ok rs) : rs.length ≤ 256 ∧ ∀ r ∈ rs, (patOf r.2).isSome = true := addLinesD_some _ [] rs 1 h (by simp) (fun r hr => by cases hr)
theorem addLineD_err {rs : List RuleD} {x : ByteArray} {n : Int} (h : addLineD rs x = .error n) : n = 5 ∨ n = 24 := by
  unfold addLineD at h
  split at h
  · cases h
  · split at h
    · cases h; exact .inl rfl
    · split at h
      · cases h; exact .inr rfl
      · cases h
theorem addLinesD_err : ∀ (xs : List ByteArray) (rs : List RuleD) (k : Nat) (n : Int) (q : Nat), addLinesD rs xs k = .error (n, q) → n = 5 ∨ n = 24
  | [], rs, k, n, q, h => by cases h
  | x :: xs, rs, k, n, q, h => by
    rw [addLinesD_cons] at h
    cases ha : addLineD rs x with
    | error m => rw [ha] at h; cases h; exact addLineD_err ha
    | ok rs3 => rw [ha] at h; exact addLinesD_err xs rs3 (k + 1) n q h
theorem parseD_err {s : ByteArray} {n : Int} {q : Nat} (h : parseD s = .error (n, q)) : n = 5 ∨ n = 24 := addLinesD_err _ [] 1 n q h
end Go.Proofs.YthkbhcefckbcnaaGreatDoor

namespace Go.Proofs.YthkbhcefckbcnaaGreatDoor
open Go Go.RowKit

theorem at_nil (l a : Int) (w : World) : Calls Tryz.prog 43 #[.nilIface, .int .i64 0, .int .i64 l, .int .i64 a] w fun e w' => e = .returned (.bool true) ∧ w' = w := by
  go_enter Tryz.func43, Tryz.ntmps43
  go_wp2
  go_ret
  exact ⟨rfl, rfl⟩
theorem num_nil' (w : World) : Calls Tryz.prog 8 #[.nilIface] w fun e w' => e = .returned (.int .i64 0) ∧ w' = w := by
  go_enter Tryz.func8, Tryz.ntmps8
  go_wp2
  go_ret
  exact ⟨rfl, rfl⟩
end Go.Proofs.YthkbhcefckbcnaaGreatDoor

namespace Go.Proofs.YthkbhcefckbcnaaGreatDoor
open Go Go.RowKit

theorem outL_eq (rs : List Rule) (xs : List ByteArray) : outL rs xs = outB rs xs := rfl
/-- The error of a list: none, or a fault. -/
def errF (n line : Int) : Value := if n = 0 then .nilIface else fltV n line 0
/-- The document's rules, where the list is one. -/
def DocOK (s : ByteArray) (n : Int) (rv : Value) (W : World) : Prop := n = 0 → ∃ rs b, parseD s = .ok rs ∧ W.ownsRow b 50 2 rv rs.length (rcells rs)
/-- The program's list, where it is one. -/
def PtrOK (s : ByteArray) (n : Int) (pv : Value) (W : World) : Prop := (n = 0 → ∃ rs l, parseD s = .ok rs ∧ pv = .pointer (some ⟨l, 0, none⟩) ∧ ListIn W l (rs.map toRule)) ∧ (n ≠ 0 → pv = .pointer none)
theorem DocOK.below {s : ByteArray} {n : Int} {rv : Value} {W W2 : World} (h : DocOK s n rv W) (b : Below W.heap.size W W2) : DocOK s n rv W2 := fun hn => by
  obtain ⟨rs, q, h1, h2⟩ := h hn; exact ⟨rs, q, h1, own_below h2 b⟩
theorem PtrOK.below {s : ByteArray} {n : Int} {pv : Value} {W W2 : World} (h : PtrOK s n pv W) (b : Below W.heap.size W W2) : PtrOK s n pv W2 := ⟨fun hn => by
  obtain ⟨rs, l, h1, h2, h3⟩ := h.1 hn; exact ⟨rs, l, h1, h2, h3.below b⟩, h.2⟩
/-- All that is asked of a text's list. -/
theorem parsed (s : ByteArray) (hs : s.size ≤ 1048576) : ∃ n line : Int, 0 ≤ n ∧ n ≤ 32 ∧
    (∀ W, Calls Tryz.prog 6 #[.string s] W fun e w' => ∃ rv, e = .returned (.tuple #[rv, .int .i64 n, .int .i64 line]) ∧ DocOK s n rv w' ∧ Below W.heap.size W w') ∧
    (∀ W, ErrType W → Calls Tryz.prog 7 #[.string s] W fun e w' => ∃ pv, e = .returned (.tuple #[pv, errF n line]) ∧ PtrOK s n pv w' ∧ Below W.heap.size W w') := by
  have HPt : Hid (∀ (x : ByteArray) (W : World), x.size ≤ 1099511627775 → Calls Tryz.prog 24 #[.string x] W fun e w' => e = .returned (.bool (patOf x).isSome) ∧ Below W.heap.size W w') := fun x W hx => pattern_r x W hx
  have hR := fun W => parse_r HPt s W (by omega)
  have hL := fun W hW => parse_l s W hW (by omega)
  unfold ParseD at hR
  unfold ParsePost at hL
  rw [parse_doc] at hL
  cases hd : parseD s with
  | error e =>
    obtain ⟨n, q⟩ := e
    have hn := parseD_err hd
    rw [hd] at hR hL
    have h0 : n ≠ 0 := by omega
    refine ⟨n, q, by omega, by omega, fun W => (hR W).mono fun e w' h => ⟨_, h.1, fun hh => absurd hh h0, h.2⟩, fun W hW => (hL W hW).mono fun e w' h => ⟨_, by rw [errF, if_neg h0]; exact h.1, ⟨fun hh => absurd hh h0, fun _ => rfl⟩, h.2⟩⟩
  | ok rs =>
    rw [hd] at hR hL
    refine ⟨0, 0, by decide, by decide, fun W => (hR W).mono fun e w' h => ?_, fun W hW => (hL W hW).mono fun e w' h => ?_⟩
    · obtain ⟨⟨v, h1, h2⟩, h3⟩ := h
      exact ⟨v, h1, fun _ => ⟨rs, _, hd, h2⟩, h3⟩
    · obtain ⟨⟨h1, h2⟩, h3⟩ := h
      exact ⟨_, h1, ⟨fun _ => ⟨rs, _, hd, rfl, h2⟩, fun hh => absurd rfl hh⟩, h3⟩
theorem at_both (n line : Int) (h0 : 0 ≤ n) (h1 : n ≤ 32) (W : World) (hW : ErrType W) : Calls Tryz.prog 43 #[errF n line, .int .i64 n, .int .i64 line, .int .i64 0] W fun e w' => e = .returned (.bool true) ∧ Below W.heap.size W w' := by
  unfold errF
  by_cases h : n = 0
  · subst h; rw [if_pos rfl]; exact (at_nil line 0 W).mono fun e w' hh => ⟨hh.1, by rw [hh.2]; exact Below.refl _ _⟩
  · rw [if_neg h]; exact at_p n line 0 (by omega) h1 W hW
theorem num_both (n line : Int) (h0 : 0 ≤ n) (h1 : n ≤ 32) (W : World) : Calls Tryz.prog 8 #[errF n line] W fun e w' => e = .returned (.int .i64 n) ∧ Below W.heap.size W w' := by
  unfold errF
  by_cases h : n = 0
  · subst h; rw [if_pos rfl]; exact (num_nil' W).mono fun e w' hh => ⟨hh.1, by rw [hh.2]; exact Below.refl _ _⟩
  · rw [if_neg h]; exact num_fault n line 0 (by omega) h1 W
end Go.Proofs.YthkbhcefckbcnaaGreatDoor

namespace Go.Proofs.YthkbhcefckbcnaaGreatDoor
open Go Go.RowKit

theorem fine_pat {s : ByteArray} {ps : List Pc} (h : patOf s = some ps) : Short (ps ++ [none]) ∧ (ps ++ [none]).length ≤ 1099511627776 := by
  obtain ⟨h1, h2⟩ := pat_facts h
  refine ⟨fun qs hq => ?_, by simp; omega⟩
  rcases List.mem_append.1 hq with a | a
  · have := h2 qs a; omega
  · simp at a
theorem fine_doc {rs : List RuleD} (hl : rs.length ≤ 256) (hp : ∀ r ∈ rs, (patOf r.2).isSome = true) : Fine (rs.map toRule) := by
  refine ⟨by rw [List.length_map]; exact hl, fun q hq => ?_⟩
  obtain ⟨r, hr, rfl⟩ := List.mem_map.1 hq
  obtain ⟨ps, h⟩ := Option.isSome_iff_exists.1 (hp r hr)
  show Short ((patOf r.2).getD [] ++ [none]) ∧ ((patOf r.2).getD [] ++ [none]).length ≤ 1099511627776
  rw [h]
  exact fine_pat h
/-- What a list says of a text. -/
def outS (s p : ByteArray) : Bool := match parseD s with | .ok rs => outB (rs.map toRule) (namesB p) | .error _ => false
theorem out_c {s : ByteArray} {n : Int} {pv : Value} {W : World} (hn : n = 0) (h : PtrOK s n pv W) (p : ByteArray) (hp : p.size ≤ 1048576) : Calls Tryz.prog 18 #[pv, .string p] W fun e w' => e = .returned (.bool (outS s p)) ∧ Below W.heap.size W w' := by
  obtain ⟨rs, l, h1, rfl, h3⟩ := h.1 hn
  have hf := parseD_some h1
  have := out_p l (rs.map toRule) p W h3 (fine_doc hf.1 hf.2) (by omega)
  unfold outS; rw [h1]; exact this
theorem out_d {s : ByteArray} {n : Int} {rv : Value} {W : World} (hn : n = 0) (h : DocOK s n rv W) (p : ByteArray) (hp : p.size ≤ 1048576) : Calls Tryz.prog 31 #[rv, .string p] W fun e w' => e = .returned (.bool (outS s p)) ∧ Below W.heap.size W w' := by
  obtain ⟨rs, b, h1, h2⟩ := h hn
  have hf := parseD_some h1
  have := out_r rs b rv p W h2 hf.2 hf.1 (by omega)
  unfold outS; rw [h1]; exact this
/-- The list at v holds these texts. -/
def TextsO (w : World) (v : Value) (l : List ByteArray) : Prop :=
  ∃ a c, v = .slice a l.length c ∧ (a = none → c = 0) ∧ ∀ i x, l[i]? = some x → ∃ b o, a = some ⟨b, o, none⟩ ∧ w.cell? ⟨b, o + i, none⟩ = some (.string x)
set_option maxRecDepth 100000 in
set_option maxHeartbeats 4000000 in
theorem globout_law (text other : ByteArray) (l : List ByteArray) (v : Value) (w : World) (hg : ErrType w) (ht : text.size ≤ 1048576) (ho : other.size ≤ 1048576) (hv : TextsO w v l) (hz : ∀ x ∈ l, x.size ≤ 1048576) : Calls Tryz.prog 47 #[.string text, .string other, v] w fun e w' => e = .returned (.bool true) ∧ Below w.heap.size w w' := by
  obtain ⟨n, line, n0, n32, PR1, PL1⟩ := parsed text ht
  obtain ⟨m, line2, m0, m32, PR2, PL2⟩ := parsed other ho
  obtain ⟨a, c, rfl, _, hcell⟩ := hv
  have AT1 := fun W hW => at_both n line n0 n32 W hW
  have NU2 := fun W => num_both m line2 m0 m32 W
  clear ht ho
  generalize errF n line = E1 at *
  generalize errF m line2 = E2 at *
  go_enter Tryz.func47, Tryz.ntmps47
  go_upto_region 3 with (first
    | (go_at_call 6; with_reducible refine (PR1 _).mono ?_; rintro e w1 ⟨rv, rfl, D1, b1⟩)
    | (go_at_call 7; with_reducible refine (PL1 _ (hg.below b1)).mono ?_; rintro e w2 ⟨pv, rfl, P2, b2⟩))
  have B2 := below_join b1 b2
  have D2 := D1.below b2
  clear D1 b1 b2 PR1 PL1
  by_cases hn : n = 0
  · have hnb : (n == 0) = true := by simp [hn]
    have hnx : (n != 0) = false := by simp [hn]
    obtain ⟨l1, rfl⟩ : ∃ l1, pv = .pointer (some ⟨l1, 0, none⟩) := by obtain ⟨_, q, _, h, _⟩ := P2.1 hn; exact ⟨q, h⟩
    have HN : Hid (n = 0) := hn
    clear hn
    go_upto_region 7 with (first
      | (go_at_call 43; with_reducible refine (AT1 _ (hg.below B2)).mono ?_; rintro e w3 ⟨rfl, b3⟩; have B3 := below_join B2 b3)
      | (go_at_call 6; with_reducible refine (PR2 _).mono ?_; rintro e w4 ⟨rv2, rfl, E4, b4⟩; have B4 := below_join B3 b4)
      | (go_at_call 7; with_reducible refine (PL2 _ (hg.below B4)).mono ?_; rintro e w5 ⟨pv2, rfl, Q5, b5⟩; have B5 := below_join B4 b5))
    have D5 := ((D2.below b3).below b4).below b5
    have P5 := ((P2.below b3).below b4).below b5
    have E5 := E4.below b5
    clear D2 P2 E4 b3 b4 b5 B2 B3 B4 PR2 PL2 AT1
    by_cases hm : m = 0
    · have hmb : (m == 0) = true := by simp [hm]
      have hmx : (m != 0) = false := by simp [hm]
      obtain ⟨l2, rfl⟩ : ∃ l2, pv2 = .pointer (some ⟨l2, 0, none⟩) := by obtain ⟨_, q, _, h, _⟩ := Q5.1 hm; exact ⟨q, h⟩
      have HM : Hid (m = 0) := hm
      clear hm
      go_upto_region 9 with (go_at_call 8; with_reducible refine (NU2 _).mono ?_; rintro e w6 ⟨rfl, b6⟩)
      have B6 := below_join B5 b6
      have D6 := D5.below b6
      have P6 := P5.below b6
      have E6 := E5.below b6
      have Q6 := Q5.below b6
      clear D5 P5 E5 Q5 B5 b6 NU2
      go_wp2
      go_loopw [17] (fun i wr => ∃ k : Nat, i = .int .i64 k ∧ k ≤ l.length ∧ Below w6.heap.size w6 wr) (fun i _ => l.length - (intOf i).toNat)
      case atStart => exact ⟨0, rfl, Nat.zero_le _, Below.refl _ _⟩
      case round =>
        obtain ⟨k, rfl, hk, hB⟩ := hrel
        have hk0 : (0 : Int) ≤ (k : Int) := by omega
        by_cases hlt : k < l.length
        · have hlt' : (k : Int) < (l.length : Int) := by omega
          by_cases h200 : k < 200
          · have h200' : (k : Int) < 200 := by omega
            obtain ⟨p, hpk⟩ : ∃ p, l[k]? = some p := ⟨_, List.getElem?_eq_getElem hlt⟩
            have hpz := hz p (List.mem_of_getElem? hpk)
            obtain ⟨ab, ao, rfl, hcl⟩ := hcell k p hpk
            have hcr : wr.cell? ⟨ab, ao + k, none⟩ = some (.string p) := by
              rw [(hB.cell (p := ⟨ab, ao + k, none⟩) (Nat.lt_of_lt_of_le (World.block_lt_of_cell? w _ hcl) B6.size)), (B6.cell (p := ⟨ab, ao + k, none⟩) (World.block_lt_of_cell? w _ hcl))]; exact hcl
            clear hpk hcl
            have A0 : Below w6.heap.size w6 wr := hB
            have K1 := out_c (s := text) HN.out (P6.below A0) p hpz
            go_wp2_with (first
              | (go_at_call 18; with_reducible refine K1.mono ?_; rintro e x1 ⟨rfl, y1⟩; have A1 := below_join A0 y1; have K2 := out_d (s := text) HN.out (D6.below A1) p hpz)
              | (go_at_call 31; with_reducible refine K2.mono ?_; rintro e x2 ⟨rfl, y2⟩; have A2 := below_join A1 y2; have K3 := out_c (s := other) HM.out (Q6.below A2) p hpz)
              | (go_at_call 18; with_reducible refine K3.mono ?_; rintro e x3 ⟨rfl, y3⟩; have A3 := below_join A2 y3; have K4 := out_d (s := other) HM.out (E6.below A3) p hpz)
              | (go_at_call 31; with_reducible refine K4.mono ?_; rintro e x4 ⟨rfl, y4⟩; have A4 := below_join A3 y4; have K5 := out_c (s := text) HN.out (P6.below A4) p hpz)
              | (go_at_call 18; with_reducible refine K5.mono ?_; rintro e x5 ⟨rfl, y5⟩; have A5 := below_join A4 y5; have K6 := out_d (s := text) HN.out (D6.below A5) p hpz)
              | (go_at_call 31; with_reducible refine K6.mono ?_; rintro e x6 ⟨rfl, y6⟩; have A6 := below_join A5 y6))
            go_roundw
            case rel => exact ⟨k + 1, by go_num, by omega, A6⟩
            case measure => simp [intOf]; omega
          · have h200' : decide ((k : Int) < 200) = false := by simp; omega
            have W1 := works2_p wr (hg.below (below_join B6 hB))
            go_wp2_with (go_at_call 9; refine W1.mono ?_; rintro e w9 ⟨rfl, b9⟩)
            go_ret
            exact ⟨rfl, below_join (below_join B6 hB) b9⟩
        · have hlt' : decide ((k : Int) < (l.length : Int)) = false := by simp; omega
          have W1 := works2_p wr (hg.below (below_join B6 hB))
          go_wp2_with (go_at_call 9; refine W1.mono ?_; rintro e w9 ⟨rfl, b9⟩)
          go_ret
          exact ⟨rfl, below_join (below_join B6 hB) b9⟩
    · have hmb : (m == 0) = false := by rw [beq_eq_false_iff_ne]; exact hm
      have hmx : (m != 0) = true := by simp [hm]
      obtain rfl := Q5.2 hm
      have HM : Hid (m ≠ 0) := hm
      clear hm
      go_upto_region 9 with (go_at_call 8; with_reducible refine (NU2 _).mono ?_; rintro e w6 ⟨rfl, b6⟩)
      have B6 := below_join B5 b6
      have D6 := D5.below b6
      have P6 := P5.below b6
      have E6 := E5.below b6
      have Q6 := Q5.below b6
      clear D5 P5 E5 Q5 B5 b6 NU2
      go_wp2
      go_loopw [17] (fun i wr => ∃ k : Nat, i = .int .i64 k ∧ k ≤ l.length ∧ Below w6.heap.size w6 wr) (fun i _ => l.length - (intOf i).toNat)
      case atStart => exact ⟨0, rfl, Nat.zero_le _, Below.refl _ _⟩
      case round =>
        obtain ⟨k, rfl, hk, hB⟩ := hrel
        have hk0 : (0 : Int) ≤ (k : Int) := by omega
        by_cases hlt : k < l.length
        · have hlt' : (k : Int) < (l.length : Int) := by omega
          by_cases h200 : k < 200
          · have h200' : (k : Int) < 200 := by omega
            obtain ⟨p, hpk⟩ : ∃ p, l[k]? = some p := ⟨_, List.getElem?_eq_getElem hlt⟩
            have hpz := hz p (List.mem_of_getElem? hpk)
            obtain ⟨ab, ao, rfl, hcl⟩ := hcell k p hpk
            have hcr : wr.cell? ⟨ab, ao + k, none⟩ = some (.string p) := by
              rw [(hB.cell (p := ⟨ab, ao + k, none⟩) (Nat.lt_of_lt_of_le (World.block_lt_of_cell? w _ hcl) B6.size)), (B6.cell (p := ⟨ab, ao + k, none⟩) (World.block_lt_of_cell? w _ hcl))]; exact hcl
            clear hpk hcl
            have A0 : Below w6.heap.size w6 wr := hB
            have K1 := out_c (s := text) HN.out (P6.below A0) p hpz
            go_wp2_with (first
              | (go_at_call 18; with_reducible refine K1.mono ?_; rintro e x1 ⟨rfl, y1⟩; have A1 := below_join A0 y1; have K2 := out_d (s := text) HN.out (D6.below A1) p hpz)
              | (go_at_call 31; with_reducible refine K2.mono ?_; rintro e x2 ⟨rfl, y2⟩; have A2 := below_join A1 y2; have K3 := out_c (s := text) HN.out (P6.below A2) p hpz)
              | (go_at_call 18; with_reducible refine K3.mono ?_; rintro e x3 ⟨rfl, y3⟩; have A3 := below_join A2 y3; have K4 := out_d (s := text) HN.out (D6.below A3) p hpz)
              | (go_at_call 31; with_reducible refine K4.mono ?_; rintro e x4 ⟨rfl, y4⟩; have A4 := below_join A3 y4))
            go_roundw
            case rel => exact ⟨k + 1, by go_num, by omega, A4⟩
            case measure => simp [intOf]; omega
          · have h200' : decide ((k : Int) < 200) = false := by simp; omega
            have W1 := works2_p wr (hg.below (below_join B6 hB))
            go_wp2_with (go_at_call 9; refine W1.mono ?_; rintro e w9 ⟨rfl, b9⟩)
            go_ret
            exact ⟨rfl, below_join (below_join B6 hB) b9⟩
        · have hlt' : decide ((k : Int) < (l.length : Int)) = false := by simp; omega
          have W1 := works2_p wr (hg.below (below_join B6 hB))
          go_wp2_with (go_at_call 9; refine W1.mono ?_; rintro e w9 ⟨rfl, b9⟩)
          go_ret
          exact ⟨rfl, below_join (below_join B6 hB) b9⟩
  · have hnb : (n == 0) = false := by rw [beq_eq_false_iff_ne]; exact hn
    have hnx : (n != 0) = true := by simp [hn]
    obtain rfl := P2.2 hn
    have HN : Hid (n ≠ 0) := hn
    clear hn
    go_upto_region 7 with (first
      | (go_at_call 43; with_reducible refine (AT1 _ (hg.below B2)).mono ?_; rintro e w3 ⟨rfl, b3⟩; have B3 := below_join B2 b3)
      | (go_at_call 6; with_reducible refine (PR2 _).mono ?_; rintro e w4 ⟨rv2, rfl, E4, b4⟩; have B4 := below_join B3 b4)
      | (go_at_call 7; with_reducible refine (PL2 _ (hg.below B4)).mono ?_; rintro e w5 ⟨pv2, rfl, Q5, b5⟩; have B5 := below_join B4 b5))
    have D5 := ((D2.below b3).below b4).below b5
    have P5 := ((P2.below b3).below b4).below b5
    have E5 := E4.below b5
    clear D2 P2 E4 b3 b4 b5 B2 B3 B4 PR2 PL2 AT1
    by_cases hm : m = 0
    · have hmb : (m == 0) = true := by simp [hm]
      have hmx : (m != 0) = false := by simp [hm]
      obtain ⟨l2, rfl⟩ : ∃ l2, pv2 = .pointer (some ⟨l2, 0, none⟩) := by obtain ⟨_, q, _, h, _⟩ := Q5.1 hm; exact ⟨q, h⟩
      have HM : Hid (m = 0) := hm
      clear hm
      go_upto_region 9 with (go_at_call 8; with_reducible refine (NU2 _).mono ?_; rintro e w6 ⟨rfl, b6⟩)
      have B6 := below_join B5 b6
      have D6 := D5.below b6
      have P6 := P5.below b6
      have E6 := E5.below b6
      have Q6 := Q5.below b6
      clear D5 P5 E5 Q5 B5 b6 NU2
      go_wp2
      go_loopw [17] (fun i wr => ∃ k : Nat, i = .int .i64 k ∧ k ≤ l.length ∧ Below w6.heap.size w6 wr) (fun i _ => l.length - (intOf i).toNat)
      case atStart => exact ⟨0, rfl, Nat.zero_le _, Below.refl _ _⟩
      case round =>
        obtain ⟨k, rfl, hk, hB⟩ := hrel
        have hk0 : (0 : Int) ≤ (k : Int) := by omega
        by_cases hlt : k < l.length
        · have hlt' : (k : Int) < (l.length : Int) := by omega
          by_cases h200 : k < 200
          · have h200' : (k : Int) < 200 := by omega
            obtain ⟨p, hpk⟩ : ∃ p, l[k]? = some p := ⟨_, List.getElem?_eq_getElem hlt⟩
            have hpz := hz p (List.mem_of_getElem? hpk)
            obtain ⟨ab, ao, rfl, hcl⟩ := hcell k p hpk
            have hcr : wr.cell? ⟨ab, ao + k, none⟩ = some (.string p) := by
              rw [(hB.cell (p := ⟨ab, ao + k, none⟩) (Nat.lt_of_lt_of_le (World.block_lt_of_cell? w _ hcl) B6.size)), (B6.cell (p := ⟨ab, ao + k, none⟩) (World.block_lt_of_cell? w _ hcl))]; exact hcl
            clear hpk hcl
            have A0 : Below w6.heap.size w6 wr := hB
            have K1 := out_c (s := other) HM.out (Q6.below A0) p hpz
            go_wp2_with (first
              | (go_at_call 18; with_reducible refine K1.mono ?_; rintro e x1 ⟨rfl, y1⟩; have A1 := below_join A0 y1; have K2 := out_d (s := other) HM.out (E6.below A1) p hpz)
              | (go_at_call 31; with_reducible refine K2.mono ?_; rintro e x2 ⟨rfl, y2⟩; have A2 := below_join A1 y2))
            go_roundw
            case rel => exact ⟨k + 1, by go_num, by omega, A2⟩
            case measure => simp [intOf]; omega
          · have h200' : decide ((k : Int) < 200) = false := by simp; omega
            have W1 := works2_p wr (hg.below (below_join B6 hB))
            go_wp2_with (go_at_call 9; refine W1.mono ?_; rintro e w9 ⟨rfl, b9⟩)
            go_ret
            exact ⟨rfl, below_join (below_join B6 hB) b9⟩
        · have hlt' : decide ((k : Int) < (l.length : Int)) = false := by simp; omega
          have W1 := works2_p wr (hg.below (below_join B6 hB))
          go_wp2_with (go_at_call 9; refine W1.mono ?_; rintro e w9 ⟨rfl, b9⟩)
          go_ret
          exact ⟨rfl, below_join (below_join B6 hB) b9⟩
    · have hmb : (m == 0) = false := by rw [beq_eq_false_iff_ne]; exact hm
      have hmx : (m != 0) = true := by simp [hm]
      obtain rfl := Q5.2 hm
      have HM : Hid (m ≠ 0) := hm
      clear hm
      go_upto_region 9 with (go_at_call 8; with_reducible refine (NU2 _).mono ?_; rintro e w6 ⟨rfl, b6⟩)
      have B6 := below_join B5 b6
      have D6 := D5.below b6
      have P6 := P5.below b6
      have E6 := E5.below b6
      have Q6 := Q5.below b6
      clear D5 P5 E5 Q5 B5 b6 NU2
      go_wp2
      go_loopw [17] (fun i wr => ∃ k : Nat, i = .int .i64 k ∧ k ≤ l.length ∧ Below w6.heap.size w6 wr) (fun i _ => l.length - (intOf i).toNat)
      case atStart => exact ⟨0, rfl, Nat.zero_le _, Below.refl _ _⟩
      case round =>
        obtain ⟨k, rfl, hk, hB⟩ := hrel
        have hk0 : (0 : Int) ≤ (k : Int) := by omega
        by_cases hlt : k < l.length
        · have hlt' : (k : Int) < (l.length : Int) := by omega
          by_cases h200 : k < 200
          · have h200' : (k : Int) < 200 := by omega
            obtain ⟨p, hpk⟩ : ∃ p, l[k]? = some p := ⟨_, List.getElem?_eq_getElem hlt⟩
            have hpz := hz p (List.mem_of_getElem? hpk)
            obtain ⟨ab, ao, rfl, hcl⟩ := hcell k p hpk
            have hcr : wr.cell? ⟨ab, ao + k, none⟩ = some (.string p) := by
              rw [(hB.cell (p := ⟨ab, ao + k, none⟩) (Nat.lt_of_lt_of_le (World.block_lt_of_cell? w _ hcl) B6.size)), (B6.cell (p := ⟨ab, ao + k, none⟩) (World.block_lt_of_cell? w _ hcl))]; exact hcl
            clear hpk hcl
            have A0 : Below w6.heap.size w6 wr := hB
            go_wp2
            go_roundw
            case rel => exact ⟨k + 1, by go_num, by omega, A0⟩
            case measure => simp [intOf]; omega
          · have h200' : decide ((k : Int) < 200) = false := by simp; omega
            have W1 := works2_p wr (hg.below (below_join B6 hB))
            go_wp2_with (go_at_call 9; refine W1.mono ?_; rintro e w9 ⟨rfl, b9⟩)
            go_ret
            exact ⟨rfl, below_join (below_join B6 hB) b9⟩
        · have hlt' : decide ((k : Int) < (l.length : Int)) = false := by simp; omega
          have W1 := works2_p wr (hg.below (below_join B6 hB))
          go_wp2_with (go_at_call 9; refine W1.mono ?_; rintro e w9 ⟨rfl, b9⟩)
          go_ret
          exact ⟨rfl, below_join (below_join B6 hB) b9⟩
end Go.Proofs.YthkbhcefckbcnaaGreatDoor
