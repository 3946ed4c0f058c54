/- The document's answer for the parts of a pattern's piece. -/
import Derived.Test.YthkbhcefckbcnaaGreatDoorRefSetD
import Derived.Test.YthkbhcefckbcnaaGreatDoorPattern
namespace Go.Proofs.YthkbhcefckbcnaaGreatDoor
open Go Go.RowKit

/-- No row of bools lies there. -/
def NoBools (A : World) (row : Option Nat) : Prop := ∀ k, row = some k → ∀ cur fr, A.heap[k]? ≠ some (.cells cur 4 fr)
theorem NoBools.none (A : World) : NoBools A none := fun _ e => by cases e
theorem Lies.turnB {A B : World} {row : Option Nat} {g : Nat} {cur : Array Value} (h : Lies A g 4 cur) (hg : A.grownBy B row) (hn : NoBools A row) : Lies B g 4 cur :=
  (hg.block g h.lt (fun e => hn g e.symm cur (0, 0) h)).trans h
/-- How a part's two cells tell what it takes. -/
def RPartRep (W : World) (p : Taker UInt8) (a b : Value) : Prop :=
  match p with
  | none => a = .bool true ∧ b = .slice none 0 0
  | some st => ∃ g, a = .bool false ∧ b = .slice (some ⟨g, 0, none⟩) 256 256 ∧ Lies W g 4 (rowB 256 (setRow st))
theorem RPartRep.turn {A B : World} {row : Option Nat} {p : Taker UInt8} {a b : Value} (h : RPartRep A p a b) (hg : A.grownBy B row) (hn : NoBools A row) : RPartRep B p a b := by
  cases p with
  | none => exact h
  | some st => obtain ⟨g, h1, h2, h3⟩ := h; exact ⟨g, h1, h2, h3.turnB hg hn⟩
def RPartsRep (W : World) : List (Taker UInt8) → List Value → Prop
  | [], cs => cs = []
  | p :: ps, cs => ∃ a b rest, RPartRep W p a b ∧ cs = a :: b :: rest ∧ RPartsRep W ps rest
theorem RPartsRep.turn {A B : World} {row : Option Nat} (hg : A.grownBy B row) (hn : NoBools A row) : ∀ {ps : List (Taker UInt8)} {cs : List Value}, RPartsRep A ps cs → RPartsRep B ps cs
  | [], _, h => h
  | _ :: _, _, ⟨a, b, rest, h1, e, hr⟩ => ⟨a, b, rest, h1.turn hg hn, e, hr.turn hg hn⟩
theorem RPartsRep.snoc {W : World} : ∀ {ps : List (Taker UInt8)} {cs : List Value} {p : Taker UInt8} {a b : Value}, RPartsRep W ps cs → RPartRep W p a b → RPartsRep W (ps ++ [p]) (cs ++ [a, b])
  | [], cs, p, a, b, h, hp => by
    have e : cs = [] := h
    subst e
    exact ⟨a, b, [], hp, rfl, rfl⟩
  | q :: ps, cs, p, a, b, ⟨c, d, rest, h1, e, hr⟩, hp => ⟨c, d, rest ++ [a, b], h1, by rw [e]; simp, hr.snoc hp⟩
theorem RPartsRep.at {W : World} : ∀ {ps : List (Taker UInt8)} {cs : List Value} {i : Nat} {p : Taker UInt8}, RPartsRep W ps cs → ps[i]? = some p → ∃ a b, RPartRep W p a b ∧ cs[i * 2]? = some a ∧ cs[i * 2 + 1]? = some b
  | [], _, _, _, _, h => by simp at h
  | q :: ps, cs, 0, p, ⟨a, b, rest, h1, e, hr⟩, h => by
    simp at h; subst h; subst e
    exact ⟨a, b, h1, rfl, rfl⟩
  | q :: ps, cs, i + 1, p, ⟨a, b, rest, h1, e, hr⟩, h => by
    obtain ⟨c, d, hcd, h2, h3⟩ := hr.at (i := i) (by simpa using h)
    subst e
    exact ⟨c, d, hcd, by rw [show (i + 1) * 2 = i * 2 + 1 + 1 by omega]; simpa using h2, by rw [show (i + 1) * 2 + 1 = i * 2 + 1 + 1 + 1 by omega]; simpa using h3⟩
theorem info_rpartAll : (Tryz.prog.info? 133).map (fun i => (i.zero, i.size, i.bytes)) = some (some (.agg #[.bool false, .slice none 0 0]), 2, 32) := by kernel_rfl
/-- What Parts owes. -/
def RPartsPost (s : ByteArray) (w : World) (e : Ending) (w' : World) : Prop :=
  ((∃ (ps : List (Taker UInt8)) (v : Value) (cs : List Value), partsOf (un s) = some ps ∧ RPartsRep w' ps cs ∧ w'.ownsRow w.heap.size 133 2 v ps.length cs ∧ e = .returned (.tuple #[v, .bool true])) ∨
   (partsOf (un s) = none ∧ e = .returned (.tuple #[.slice none 0 0, .bool false]))) ∧ Below w.heap.size w w'
theorem rpart_star (l : List UInt8) : rPart (42 :: l) = some (none, l) := rfl
theorem rpart_any (l : List UInt8) : rPart (63 :: l) = some (some fun _ => true, l) := rfl
theorem rpart_set (l : List UInt8) : rPart (91 :: l) = match rSet l with | none => none | some (s, r2) => some (some s, r2) := rfl
theorem rpart_one (c : UInt8) (l : List UInt8) (h1 : c ≠ 42) (h2 : c ≠ 63) (h3 : c ≠ 91) : rPart (c :: l) = match rByte (c :: l) with | none => none | some (b, r2) => some (some fun x => x == b, r2) := by
  simp only [rPart]; rw [if_neg (by simpa using h1), if_neg (by simpa using h2), if_neg (by simpa using h3)]; rfl

theorem rparts_app {X w1 : World} {base : Nat} {v : Value} {ps : List (Taker UInt8)} {cs : List Value} {p : Taker UInt8} {a b : Value} (h1 : RPartsRep X ps cs) (h2 : RPartRep X p a b) (ho : X.ownsRow base 133 2 v ps.length cs) (hg : (X.alloc (.cells #[a, b] 133)).grownBy w1 v.ownBlock) : RPartsRep w1 (ps ++ [p]) (cs ++ [a, b]) := by
  have h3 := (h1.snoc h2).turn (World.grownBy_alloc X (.cells #[a, b] 133) none) (NoBools.none _)
  refine h3.turn hg ?_
  intro k e cur fr hk
  obtain ⟨_, cur2, hc2⟩ := own_ge (ho.alloc (.cells #[a, b] 133)) k e.symm
  rw [hk] at hc2; simp at hc2
theorem single_any (w : World) : Calls Tryz.prog 83 #[.int .u8 0, .bool true] w fun e w' => ∃ g, e = .returned (.agg #[.bool false, .slice (some ⟨g, 0, none⟩) 256 256]) ∧ w.heap.size ≤ g ∧ Lies w' g 4 (rowB 256 (setRow fun _ => true)) ∧ Below w.heap.size w w' := single_r 0 true w
theorem single_one (c : UInt8) (w : World) : Calls Tryz.prog 83 #[.int .u8 c.toNat, .bool false] w fun e w' => ∃ g, e = .returned (.agg #[.bool false, .slice (some ⟨g, 0, none⟩) 256 256]) ∧ w.heap.size ≤ g ∧ Lies w' g 4 (rowB 256 (setRow fun x => x == c)) ∧ Below w.heap.size w w' := single_r c false w
theorem parts_step {s : ByteArray} {q j : Nat} {ps : List (Taker UInt8)} {p : Taker UInt8} (h : partsOf (un s) = (partsOf ((un s).drop q)).map (ps ++ ·)) (hr : rPart ((un s).drop q) = some (p, (un s).drop j)) : partsOf (un s) = (partsOf ((un s).drop j)).map ((ps ++ [p]) ++ ·) := by
  rw [h, partsOf_on hr, Option.map_map]
  congr 1; funext z; simp
theorem parts_stop {s : ByteArray} {q : Nat} {ps : List (Taker UInt8)} (h : partsOf (un s) = (partsOf ((un s).drop q)).map (ps ++ ·)) (hne : (un s).drop q ≠ []) (hr : rPart ((un s).drop q) = none) : partsOf (un s) = none := by
  rw [h, partsOf_wrong hne hr]; rfl

set_option maxRecDepth 100000 in
set_option maxHeartbeats 8000000 in
theorem parts_r (s : ByteArray) (w : World) (hs : s.size ≤ 1099511627776) : Calls Tryz.prog 50 #[.string s] w (RPartsPost s w) := by
  obtain ⟨i0, hi, hz0, hz1, hz2⟩ := info_parts info_rpartAll
  go_enter Tryz.func50, Tryz.ntmps50
  go_wp2
  go_loopg [4, 5] (s.size + 1) (fun gk v n wr => ∃ (q : Nat) (ps : List (Taker UInt8)) (cs : List Value), n = .int .i64 q ∧ q ≤ s.size ∧ ps.length ≤ q ∧ Aside (s.size + 1 - q ≤ gk ∧ partsOf (un s) = (partsOf ((un s).drop q)).map (ps ++ ·) ∧ RPartsRep wr ps cs) ∧ wr.ownsRow w.heap.size 133 2 v ps.length cs ∧ Below w.heap.size w wr)
  case atStart => exact ⟨0, [], [], rfl, Nat.zero_le _, Nat.zero_le _, ⟨by omega, by rw [List.drop_zero]; cases partsOf (un s) <;> rfl, rfl⟩, World.ownsRow_nil _ _ _ _, Below.refl _ _⟩
  case round =>
    obtain ⟨q, ps, cs, rfl, hq, hpl, HP, hown, hB⟩ := hrel
    by_cases hlt : q < s.size
    · have hd := drop_cons s q hlt
      have hne : (un s).drop q ≠ [] := by rw [hd]; simp
      have d2 : (0 : Int) ≤ (q : Int) := by omega
      have d3 : (q : Int) < (s.size : Int) := by omega
      by_cases h42 : s[q].toNat = 42
      · have HN : Aside _ := parts_step (p := none) (j := q + 1) HP.out.2.1 (by rw [hd, show s[q] = 42 from UInt8.toNat_inj.1 h42]; exact rpart_star _)
        clear hd hne
        have HNC : Hid (∀ (j : Nat) u, ([.bool true, .slice none 0 0] : List Value)[j]? = some u → (wr.alloc (.cells #[.bool true, .slice none 0 0] 133)).cell? ((⟨wr.heap.size, 0, none⟩ : Addr).add j) = some u) := cells_new wr #[.bool true, .slice none 0 0] 133
        go_wp2_with (at_builtin; refine wpList_append_own _ rfl _ _ 88 rfl w.heap.size 133 i0 (.agg #[.bool false, .slice none 0 0]) 2 32 Tryz.underlying88 hi hz0 hz1 hz2 rfl (by decide) _ _ _ rfl (hown.alloc _) ⟨wr.heap.size, 0, none⟩ 1 1 [.bool true, .slice none 0 0] rfl rfl HNC.out (by simp [Value.oneCell']) (by unfold maxLen; omega) (by omega) (by have := hB.size; simp; omega) ?_; intro v1 w1 hown1 hgrow1 _)
        have hb1 : Below w.heap.size w w1 := (hB.alloc hB.size _).grown hgrow1 (by have := hB.size; simp; omega) (fun j hj => (own_ge hown j hj.symm).1)
        go_roundg (s.size + 1 - (q + 1))
        case rel => exact ⟨q + 1, ps ++ [none], _, by go_num, by omega, by simp; omega, ⟨Nat.le_refl _, HN.out, rparts_app (p := none) HP.out.2.2 ⟨rfl, rfl⟩ hown hgrow1⟩, by rw [List.length_append]; exact hown1, hb1⟩
        case measure => have := HP.out.1; omega
      · by_cases h63 : s[q].toNat = 63
        · have HN : Aside _ := parts_step (p := some fun _ => true) (j := q + 1) HP.out.2.1 (by rw [hd, show s[q] = 63 from UInt8.toNat_inj.1 h63]; exact rpart_any _)
          clear hd hne
          go_wp2_with fail
          refine (single_any _).mono ?_
          rintro e w2 ⟨g, rfl, hgg, hL, b2⟩
          have hown2 := own_below hown b2
          have hB2 := hB.trans (b2.mono hB.size)
          have HP2 : Aside (RPartsRep w2 ps cs ∧ RPartRep w2 (some fun _ => true) (.bool false) (.slice (some ⟨g, 0, none⟩) 256 256)) := ⟨HP.out.2.2.turn (grown_of_below b2) (NoBools.none _), g, rfl, rfl, hL⟩
          clear hown hB hL b2
          have HNC : Hid (∀ (j : Nat) u, ([.bool false, .slice (some ⟨g, 0, none⟩) 256 256] : List Value)[j]? = some u → (w2.alloc (.cells #[.bool false, .slice (some ⟨g, 0, none⟩) 256 256] 133)).cell? ((⟨w2.heap.size, 0, none⟩ : Addr).add j) = some u) := cells_new w2 #[.bool false, .slice (some ⟨g, 0, none⟩) 256 256] 133
          go_wp2_with (at_builtin; refine wpList_append_own _ rfl _ _ 88 rfl w.heap.size 133 i0 (.agg #[.bool false, .slice none 0 0]) 2 32 Tryz.underlying88 hi hz0 hz1 hz2 rfl (by decide) _ _ _ rfl (hown2.alloc _) ⟨w2.heap.size, 0, none⟩ 1 1 [.bool false, .slice (some ⟨g, 0, none⟩) 256 256] rfl rfl HNC.out (by simp [Value.oneCell']) (by unfold maxLen; omega) (by omega) (by have := hB2.size; simp; omega) ?_; intro v1 w1 hown1 hgrow1 _)
          have hb1 : Below w.heap.size w w1 := (hB2.alloc hB2.size _).grown hgrow1 (by have := hB2.size; simp; omega) (fun j hj => (own_ge hown2 j hj.symm).1)
          go_roundg (s.size + 1 - (q + 1))
          case rel => exact ⟨q + 1, ps ++ [some fun _ => true], _, by go_num, by omega, by simp; omega, ⟨Nat.le_refl _, HN.out, rparts_app HP2.out.1 HP2.out.2 hown2 hgrow1⟩, by rw [List.length_append]; exact hown1, hb1⟩
          case measure => have := HP.out.1; omega
        · by_cases h91 : s[q].toNat = 91
          · have hsq : s[q] = 91 := UInt8.toNat_inj.1 h91
            have hcall := set_r s q wr hs hlt
            unfold RSetPost at hcall
            go_wp2_with fail
            refine hcall.mono ?_
            rintro e w2 ⟨⟨st, j, g, hset, hqj, hjs, hgg, hL, rfl⟩ | ⟨hset, rfl⟩, b2⟩
            · have HN : Aside _ := parts_step (p := some st) (j := j) HP.out.2.1 (by rw [hd, hsq, rpart_set, hset])
              have hown2 := own_below hown b2
              have hB2 := hB.trans (b2.mono hB.size)
              have HP2 : Aside (RPartsRep w2 ps cs ∧ RPartRep w2 (some st) (.bool false) (.slice (some ⟨g, 0, none⟩) 256 256)) := ⟨HP.out.2.2.turn (grown_of_below b2) (NoBools.none _), g, rfl, rfl, hL⟩
              clear hown hB hL b2 hset hd hne hsq hcall
              have HNC : Hid (∀ (j : Nat) u, ([.bool false, .slice (some ⟨g, 0, none⟩) 256 256] : List Value)[j]? = some u → (w2.alloc (.cells #[.bool false, .slice (some ⟨g, 0, none⟩) 256 256] 133)).cell? ((⟨w2.heap.size, 0, none⟩ : Addr).add j) = some u) := cells_new w2 #[.bool false, .slice (some ⟨g, 0, none⟩) 256 256] 133
              go_wp2_with (at_builtin; refine wpList_append_own _ rfl _ _ 88 rfl w.heap.size 133 i0 (.agg #[.bool false, .slice none 0 0]) 2 32 Tryz.underlying88 hi hz0 hz1 hz2 rfl (by decide) _ _ _ rfl (hown2.alloc _) ⟨w2.heap.size, 0, none⟩ 1 1 [.bool false, .slice (some ⟨g, 0, none⟩) 256 256] rfl rfl HNC.out (by simp [Value.oneCell']) (by unfold maxLen; omega) (by omega) (by have := hB2.size; simp; omega) ?_; intro v1 w1 hown1 hgrow1 _)
              have hb1 : Below w.heap.size w w1 := (hB2.alloc hB2.size _).grown hgrow1 (by have := hB2.size; simp; omega) (fun j hj => (own_ge hown2 j hj.symm).1)
              go_roundg (s.size + 1 - j)
              case rel => exact ⟨j, ps ++ [some st], _, by go_num, by omega, by simp; omega, ⟨Nat.le_refl _, HN.out, rparts_app HP2.out.1 HP2.out.2 hown2 hgrow1⟩, by rw [List.length_append]; exact hown1, hb1⟩
              case measure => have := HP.out.1; omega
            · have HN : Aside (partsOf (un s) = none) := parts_stop HP.out.2.1 hne (by rw [hd, hsq, rpart_set, hset])
              clear hset hd hne hsq hcall hown
              go_wp2
              go_ret2
              exact ⟨.inr ⟨HN.out, rfl⟩, hB.trans (b2.mono hB.size)⟩
          · have n42 : s[q] ≠ 42 := fun e => h42 (by rw [e]; rfl)
            have n63 : s[q] ≠ 63 := fun e => h63 (by rw [e]; rfl)
            have n91 : s[q] ≠ 91 := fun e => h91 (by rw [e]; rfl)
            have hrp : rPart ((un s).drop q) = match rByte ((un s).drop q) with | none => none | some (b, r2) => some (some fun x => x == b, r2) := by rw [hd]; exact rpart_one _ _ n42 n63 n91
            have e1 : ((s[q].toNat : Int) == 42) = false := by simp; omega
            have e2 : ((s[q].toNat : Int) == 63) = false := by simp; omega
            have e3 : ((s[q].toNat : Int) == 91) = false := by simp; omega
            have hcall := byteAt_r s q wr hs (by omega)
            unfold BytePost at hcall
            go_wp2_with fail
            refine hcall.mono ?_
            rintro e w2 ⟨⟨b, j, hrb, hqj, hjs, rfl⟩ | ⟨hrb, rfl⟩, hw2⟩
            all_goals replace hw2 := hw2.symm
            all_goals subst hw2
            · have HN : Aside _ := parts_step (p := some fun x => x == b) (j := j) HP.out.2.1 (by rw [hrp, hrb])
              clear hrb hd hne hrp hcall n42 n63 n91
              go_wp2_with fail
              refine (single_one b _).mono ?_
              rintro e w2 ⟨g, rfl, hgg, hL, b2⟩
              have hown2 := own_below hown b2
              have hB2 := hB.trans (b2.mono hB.size)
              have HP2 : Aside (RPartsRep w2 ps cs ∧ RPartRep w2 (some fun x => x == b) (.bool false) (.slice (some ⟨g, 0, none⟩) 256 256)) := ⟨HP.out.2.2.turn (grown_of_below b2) (NoBools.none _), g, rfl, rfl, hL⟩
              clear hown hB hL b2
              have HNC : Hid (∀ (j : Nat) u, ([.bool false, .slice (some ⟨g, 0, none⟩) 256 256] : List Value)[j]? = some u → (w2.alloc (.cells #[.bool false, .slice (some ⟨g, 0, none⟩) 256 256] 133)).cell? ((⟨w2.heap.size, 0, none⟩ : Addr).add j) = some u) := cells_new w2 #[.bool false, .slice (some ⟨g, 0, none⟩) 256 256] 133
              go_wp2_with (at_builtin; refine wpList_append_own _ rfl _ _ 88 rfl w.heap.size 133 i0 (.agg #[.bool false, .slice none 0 0]) 2 32 Tryz.underlying88 hi hz0 hz1 hz2 rfl (by decide) _ _ _ rfl (hown2.alloc _) ⟨w2.heap.size, 0, none⟩ 1 1 [.bool false, .slice (some ⟨g, 0, none⟩) 256 256] rfl rfl HNC.out (by simp [Value.oneCell']) (by unfold maxLen; omega) (by omega) (by have := hB2.size; simp; omega) ?_; intro v1 w1 hown1 hgrow1 _)
              have hb1 : Below w.heap.size w w1 := (hB2.alloc hB2.size _).grown hgrow1 (by have := hB2.size; simp; omega) (fun j hj => (own_ge hown2 j hj.symm).1)
              go_roundg (s.size + 1 - j)
              case rel => exact ⟨j, ps ++ [some fun x => x == b], _, by go_num, by omega, by simp; omega, ⟨Nat.le_refl _, HN.out, rparts_app HP2.out.1 HP2.out.2 hown2 hgrow1⟩, by rw [List.length_append]; exact hown1, hb1⟩
              case measure => have := HP.out.1; omega
            · have HN : Aside (partsOf (un s) = none) := parts_stop HP.out.2.1 hne (by rw [hrp, hrb])
              clear hrb hd hne hrp hcall hown n42 n63 n91
              go_wp2
              go_ret2
              exact ⟨.inr ⟨HN.out, rfl⟩, hB⟩
    · have HN : Aside (partsOf (un s) = some ps) := by
        unfold Aside
        rw [HP.out.2.1, drop_end s q (by omega), partsOf_nil]; simp
      have d3 : ¬ (q : Int) < (s.size : Int) := by omega
      go_wp2
      go_ret2
      exact ⟨.inl ⟨ps, _, cs, HN.out, HP.out.2.2, hown, rfl⟩, hB⟩
end Go.Proofs.YthkbhcefckbcnaaGreatDoor
