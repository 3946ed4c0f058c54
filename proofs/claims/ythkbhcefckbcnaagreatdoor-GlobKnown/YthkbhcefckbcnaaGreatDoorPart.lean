/- Package glob's readPart. -/
import Derived.Test.YthkbhcefckbcnaaGreatDoorSetR
namespace Go.Proofs.YthkbhcefckbcnaaGreatDoor
open Go Go.RowKit

/-- How a part's cells tell what it takes. -/
def PartRep (p : Taker UInt8) (cs : Array Value) : Prop :=
  match p with
  | none => cs = #[.bool true, .int .u64 0, .int .u64 0, .int .u64 0, .int .u64 0]
  | some st => ∃ x, Words x ∧ bitOf x = st ∧ cs = setCells [.bool false] x
/-- What readPart owes. -/
def PartPost (s : ByteArray) (w : World) (e : Ending) (w' : World) : Prop :=
  ((∃ (p : Taker UInt8) (r : ByteArray) (cs : Array Value), rPart (un s) = some (p, un r) ∧ PartRep p cs ∧ e = .returned (.tuple #[.agg cs, .string r, .nilIface])) ∨
   (rPart (un s) = none ∧ ∃ (b : Bool) (x : Nat → Nat) (r : ByteArray), e = .returned (.tuple #[.agg (setCells [.bool b] x), .string r, errP]))) ∧ Below w.heap.size w w'
theorem setCells_one (b : Bool) (x : Nat → Nat) : setCells [.bool b] x = #[.bool b, .int .u64 (x 0), .int .u64 (x 1), .int .u64 (x 2), .int .u64 (x 3)] := rfl
theorem Lies.five {W : World} {B : Nat} {t : TypeId} {b : Bool} {x : Nat → Nat} (h : Lies W B t (setCells [.bool b] x)) :
    (W.cell? ⟨B, 0, none⟩ = some (.bool b) ∧ W.cell? ⟨B, 1, none⟩ = some (.int .u64 (x 0)) ∧ W.cell? ⟨B, 2, none⟩ = some (.int .u64 (x 1)) ∧ W.cell? ⟨B, 3, none⟩ = some (.int .u64 (x 2)) ∧ W.cell? ⟨B, 4, none⟩ = some (.int .u64 (x 3))) ∧
    (W.frozen? ⟨B, 0, none⟩ = false ∧ W.frozen? ⟨B, 1, none⟩ = false ∧ W.frozen? ⟨B, 2, none⟩ = false ∧ W.frozen? ⟨B, 3, none⟩ = false ∧ W.frozen? ⟨B, 4, none⟩ = false) :=
  ⟨⟨h.cell rfl, h.cell rfl, h.cell rfl, h.cell rfl, h.cell rfl⟩, h.frozen 0, h.frozen 1, h.frozen 2, h.frozen 3, h.frozen 4⟩
theorem Lies.set5 {W : World} {B : Nat} {t : TypeId} {b0 : Bool} {x : Nat → Nat} (h : Lies W B t (setCells [.bool b0] x)) (a b c d e : Value) :
    Lies (((((W.setCell ⟨B, 0, none⟩ a).setCell ⟨B, 1, none⟩ b).setCell ⟨B, 2, none⟩ c).setCell ⟨B, 3, none⟩ d).setCell ⟨B, 4, none⟩ e) B t #[a, b, c, d, e] := ((((h.set a).set b).set c).set d).set e
theorem below_set5 {w W : World} {B : Nat} (h : Below w.heap.size w W) (hB : w.heap.size ≤ B) (a b c d e : Value) :
    Below w.heap.size w (((((W.setCell ⟨B, 0, none⟩ a).setCell ⟨B, 1, none⟩ b).setCell ⟨B, 2, none⟩ c).setCell ⟨B, 3, none⟩ d).setCell ⟨B, 4, none⟩ e) :=
  ((((h.setCell (p := ⟨B, 0, none⟩) hB a).setCell (p := ⟨B, 1, none⟩) hB b).setCell (p := ⟨B, 2, none⟩) hB c).setCell (p := ⟨B, 3, none⟩) hB d).setCell (p := ⟨B, 4, none⟩) hB e
theorem info_part : (Tryz.prog.info? 174).map (·.size) = some 5 := by kernel_rfl

set_option maxRecDepth 100000 in
set_option maxHeartbeats 4000000 in
theorem readPart_star (s : ByteArray) (w : World) (hz : s.size ≤ 1099511627776) (hs : 0 < s.size) (h1 : s[0].toNat = 42) : Calls Tryz.prog 121 #[.string s] w (PartPost s w) := by
  obtain ⟨l, hl⟩ := un_zero s hs
  have HS : Hid (rPart (un s) = some (none, un (bs l))) := by unfold Hid; rw [hl, show s[0] = 42 from UInt8.toNat_inj.1 h1, un_bs]; rfl
  have hre : s.extract 1 s.size = bs l := by rw [rest_one_bs, hl]; rfl
  have d1 : (0 : Int) < (s.size : Int) := by omega
  have d2 : (1 : Int) ≤ (s.size : Int) := by omega
  clear hl
  go_enter Tryz.func121, Tryz.ntmps121
  go_wp2
  go_region
  all_goals go_wp2
  all_goals refine bodyPost_ret (results_c3 rfl _ _ w.heap.size 174 _ _ rfl (((Lies.new w _ _).alloc _).drew 1) Tryz.underlying174 rfl info_part) rfl ?_
  all_goals exact ⟨.inl ⟨none, bs l, _, HS.out, rfl, rfl⟩, below_drew (((Below.refl _ w).alloc (Nat.le_refl _) _).alloc (by simp) _)⟩

theorem two_new (w : World) (cur : Array Value) (t : TypeId) : Lies ((w.alloc (.cells cur t)).alloc (.cells cur t)) (w.heap.size + 1) t cur ∧ Lies ((w.alloc (.cells cur t)).alloc (.cells cur t)) w.heap.size t cur ∧ Below w.heap.size w ((w.alloc (.cells cur t)).alloc (.cells cur t)) := by
  refine ⟨?_, (Lies.new w t cur).alloc _, ((Below.refl _ w).alloc (Nat.le_refl _) _).alloc (by simp) _⟩
  have h := Lies.new (w.alloc (.cells cur t)) t cur; rw [World.size_alloc] at h; exact h

set_option maxRecDepth 100000 in
set_option maxHeartbeats 4000000 in
theorem readPart_any (s : ByteArray) (w : World) (hz : s.size ≤ 1099511627776) (hs : 0 < s.size) (h1 : s[0].toNat = 63) : Calls Tryz.prog 121 #[.string s] w (PartPost s w) := by
  obtain ⟨l, hl⟩ := un_zero s hs
  have HS : Hid (rPart (un s) = some (some fun _ => true, un (bs l))) := by unfold Hid; rw [hl, show s[0] = 63 from UInt8.toNat_inj.1 h1, un_bs]; rfl
  have hre : s.extract 1 s.size = bs l := by rw [rest_one_bs, hl]; rfl
  have d1 : (0 : Int) < (s.size : Int) := by omega
  have d2 : (1 : Int) ≤ (s.size : Int) := by omega
  obtain ⟨l1, l2, hB⟩ := two_new w (setCells [.bool false] zeroW) 174
  clear hl
  go_enter Tryz.func121, Tryz.ntmps121
  go_wp2_with fail
  refine (turn_p (w.heap.size + 1) 174 [.bool false] zeroW _ zero_words l1).mono ?_
  rintro e w2 ⟨rfl, x2, hw2, hb2, hl2, hg2⟩
  have hr2 := l2.grown hg2 (by omega)
  have hB2 : Below w.heap.size w w2 := hB.grown hg2 hB.size (fun k e => by cases e; omega)
  have HA : Hid (Words x2 ∧ bitOf x2 = fun _ => true) := ⟨hw2, by funext b; rw [hb2 b, zero_bit]; rfl⟩
  have Hr : Hid (Lies w2 w.heap.size 174 (setCells [.bool false] zeroW)) := hr2
  obtain ⟨⟨c0, c1, c2, c3, c4⟩, f0, f1, f2, f3, f4⟩ := hl2.five
  obtain ⟨⟨c5, c6, c7, c8, c9⟩, f5, f6, f7, f8, f9⟩ := hr2.five
  clear hr2 hl2 hg2 hb2 hw2 l1 l2 hB
  go_wp2
  go_region
  all_goals go_wp2
  all_goals refine bodyPost_ret (results_c3 rfl _ _ w.heap.size 174 _ _ rfl ((Lies.set5 Hr.out _ _ _ _ _).drew 1) Tryz.underlying174 rfl info_part) rfl ?_
  all_goals exact ⟨.inl ⟨_, bs l, _, HS.out, ⟨x2, HA.out.1, HA.out.2, rfl⟩, rfl⟩, below_drew (below_set5 hB2 (Nat.le_refl _) _ _ _ _ _)⟩

set_option maxRecDepth 100000 in
set_option maxHeartbeats 4000000 in
theorem readPart_set (s : ByteArray) (w : World) (hz : s.size ≤ 1099511627776) (hs : 0 < s.size) (h1 : s[0].toNat = 91) : Calls Tryz.prog 121 #[.string s] w (PartPost s w) := by
  obtain ⟨l, hl⟩ := un_zero s hs
  have HS : Hid (rPart (un s) = match rSet l with | none => none | some (s, r2) => some (some s, r2)) := by unfold Hid; rw [hl, show s[0] = 91 from UInt8.toNat_inj.1 h1]; rfl
  have hre : s.extract 1 s.size = bs l := by rw [rest_one_bs, hl]; rfl
  have hlz : (bs l).size ≤ s.size := by rw [size_bs, ← un_length, hl]; simp
  have d1 : (0 : Int) < (s.size : Int) := by omega
  have d2 : (1 : Int) ≤ (s.size : Int) := by omega
  obtain ⟨l1, l2, hB⟩ := two_new w (setCells [.bool false] zeroW) 174
  have hcall := fun W => readSet_p (bs l) W (by omega)
  clear hl l1
  unfold SetPost errP aggW at hcall
  go_enter Tryz.func121, Tryz.ntmps121
  go_wp2_with fail
  refine (hcall _).mono ?_
  rintro e w2 ⟨⟨st, r, x, hset, hw, hb, rfl⟩ | ⟨hset, rfl⟩, hb2⟩
  · rw [un_bs] at hset
    have hr2 := l2.below hb2
    have hB2 := hB.trans (hb2.mono hB.size)
    have HS2 : Hid (rPart (un s) = some (some st, un r)) := by unfold Hid; rw [HS.out, hset]
    have HA : Hid (Words x ∧ bitOf x = st) := ⟨hw, hb⟩
    have Hr : Hid (Lies w2 w.heap.size 174 (setCells [.bool false] zeroW)) := hr2
    obtain ⟨⟨c5, c6, c7, c8, c9⟩, f5, f6, f7, f8, f9⟩ := hr2.five
    have hz2 := hr2.lt
    clear hr2 hb2 l2 hB hset hw hb
    go_wp2
    refine bodyPost_ret (results_c3 rfl _ _ w.heap.size 174 _ _ rfl ((Lies.set5 Hr.out _ _ _ _ _).alloc _) Tryz.underlying174 rfl info_part) rfl ?_
    exact ⟨.inl ⟨_, r, _, HS2.out, ⟨x, HA.out.1, HA.out.2, rfl⟩, rfl⟩, (below_set5 hB2 (Nat.le_refl _) _ _ _ _ _).alloc (below_set5 hB2 (Nat.le_refl _) _ _ _ _ _).size _⟩
  · rw [un_bs] at hset
    have hr2 := l2.below hb2
    have hB2 := hB.trans (hb2.mono hB.size)
    have HS2 : Hid (rPart (un s) = none) := by unfold Hid; rw [HS.out, hset]
    have Hr : Hid (Lies w2 w.heap.size 174 (setCells [.bool false] zeroW)) := hr2
    obtain ⟨⟨c5, c6, c7, c8, c9⟩, f5, f6, f7, f8, f9⟩ := hr2.five
    have hz2 := hr2.lt
    clear hr2 hb2 l2 hB hset
    go_wp2
    refine bodyPost_ret (results_c3 rfl _ _ w.heap.size 174 _ _ rfl ((Lies.set5 Hr.out _ _ _ _ _).alloc _) Tryz.underlying174 rfl info_part) rfl ?_
    exact ⟨.inr ⟨HS2.out, false, zeroW, _, rfl⟩, (below_set5 hB2 (Nat.le_refl _) _ _ _ _ _).alloc (below_set5 hB2 (Nat.le_refl _) _ _ _ _ _).size _⟩

set_option maxRecDepth 100000 in
set_option maxHeartbeats 4000000 in
theorem readPart_one (s : ByteArray) (w : World) (hz : s.size ≤ 1099511627776) (hs : 0 < s.size) (h1 : s[0].toNat ≠ 42) (h2 : s[0].toNat ≠ 63) (h3 : s[0].toNat ≠ 91) : Calls Tryz.prog 121 #[.string s] w (PartPost s w) := by
  obtain ⟨l, hl⟩ := un_zero s hs
  have HS : Hid (rPart (un s) = match rByte (un s) with | none => none | some (b, r2) => some (some fun x => x == b, r2)) := by
    unfold Hid; rw [hl]
    simp only [rPart]
    rw [if_neg (by intro e; exact h1 (by rw [beq_iff_eq.1 e]; rfl)), if_neg (by intro e; exact h2 (by rw [beq_iff_eq.1 e]; rfl)), if_neg (by intro e; exact h3 (by rw [beq_iff_eq.1 e]; rfl))]
    rfl
  have d1 : (0 : Int) < (s.size : Int) := by omega
  have d2 : ((s[0].toNat : Int) == 42) = false := by simp; omega
  have d3 : ((s[0].toNat : Int) == 63) = false := by simp; omega
  have d4 : ((s[0].toNat : Int) == 91) = false := by simp; omega
  obtain ⟨l1, l2, hB⟩ := two_new w (setCells [.bool false] zeroW) 174
  cases hb : rByte (un s) with
  | none =>
    have hcall := fun W => readByte_no s W (by rw [hl]; simp) hb hz
    have HS2 : Hid (rPart (un s) = none) := by unfold Hid; rw [HS.out, hb]
    clear hl hb h1 h2 h3
    unfold errP at hcall
    go_enter Tryz.func121, Tryz.ntmps121
    go_wp2_with fail
    refine (hcall _).mono ?_
    rintro e w1 ⟨rfl, k, rfl⟩
    go_wp2_with fail
    refine (add_p (w.heap.size + 1) 174 [.bool false] zeroW 0 0 _ zero_words (l1.drew k)).mono ?_
    rintro e w2 ⟨rfl, x2, hw2, hb2, hl2, hg2⟩
    have hr2 := (l2.drew k).grown hg2 (by omega)
    have hB2 : Below w.heap.size w w2 := (below_drewN k hB).grown hg2 hB.size (fun k e => by cases e; omega)
    have Hr : Hid (Lies w2 w.heap.size 174 (setCells [.bool false] zeroW)) := hr2
    obtain ⟨⟨c0, c1, c2, c3, c4⟩, f0, f1, f2, f3, f4⟩ := hl2.five
    obtain ⟨⟨c5, c6, c7, c8, c9⟩, f5, f6, f7, f8, f9⟩ := hr2.five
    clear hr2 hl2 hg2 hb2 hw2 l1 l2 hB
    go_wp2
    refine bodyPost_ret (results_c3 rfl _ _ w.heap.size 174 _ _ rfl (Lies.set5 Hr.out _ _ _ _ _) Tryz.underlying174 rfl info_part) rfl ?_
    exact ⟨.inr ⟨HS2.out, false, x2, _, rfl⟩, below_set5 hB2 (Nat.le_refl _) _ _ _ _ _⟩
  | some y =>
    obtain ⟨b, r, hb3⟩ := pair_un hb
    have hcall := fun W => readByte_ok s r b W hb3 hz
    have HS2 : Hid (rPart (un s) = some (some fun x => x == b, un r)) := by unfold Hid; rw [HS.out, hb3]
    clear hl hb hb3 h1 h2 h3
    go_enter Tryz.func121, Tryz.ntmps121
    go_wp2_with fail
    refine (hcall _).mono ?_
    rintro e w1 ⟨rfl, k, rfl⟩
    go_wp2_with fail
    refine (add_p (w.heap.size + 1) 174 [.bool false] zeroW b b _ zero_words (l1.drew k)).mono ?_
    rintro e w2 ⟨rfl, x2, hw2, hb2, hl2, hg2⟩
    have hr2 := (l2.drew k).grown hg2 (by omega)
    have hB2 : Below w.heap.size w w2 := (below_drewN k hB).grown hg2 hB.size (fun k e => by cases e; omega)
    have HA : Hid (Words x2 ∧ bitOf x2 = fun x => x == b) := ⟨hw2, by
      funext c
      rw [hb2 c]
      unfold addS
      rw [zero_bit, Bool.false_or]
      by_cases h : c = b
      · subst h; simp
      · rw [beq_false_of_ne h, Bool.and_eq_false_iff]
        by_cases h4 : b ≤ c
        · right
          refine decide_eq_false fun h5 => h ?_
          exact UInt8.toNat_inj.1 (Nat.le_antisymm (UInt8.le_iff_toNat_le.1 h5) (UInt8.le_iff_toNat_le.1 h4))
        · exact .inl (decide_eq_false h4)⟩
    have Hr : Hid (Lies w2 w.heap.size 174 (setCells [.bool false] zeroW)) := hr2
    obtain ⟨⟨c0, c1, c2, c3, c4⟩, f0, f1, f2, f3, f4⟩ := hl2.five
    obtain ⟨⟨c5, c6, c7, c8, c9⟩, f5, f6, f7, f8, f9⟩ := hr2.five
    clear hr2 hl2 hg2 hb2 hw2 l1 l2 hB
    go_wp2
    refine bodyPost_ret (results_c3 rfl _ _ w.heap.size 174 _ _ rfl (Lies.set5 Hr.out _ _ _ _ _) Tryz.underlying174 rfl info_part) rfl ?_
    exact ⟨.inl ⟨_, r, _, HS2.out, ⟨x2, HA.out.1, HA.out.2, rfl⟩, rfl⟩, below_set5 hB2 (Nat.le_refl _) _ _ _ _ _⟩
theorem readPart_p (s : ByteArray) (w : World) (hz : s.size ≤ 1099511627776) (hs : 0 < s.size) : Calls Tryz.prog 121 #[.string s] w (PartPost s w) := by
  by_cases h1 : s[0].toNat = 42
  · exact readPart_star s w hz hs h1
  · by_cases h2 : s[0].toNat = 63
    · exact readPart_any s w hz hs h2
    · by_cases h3 : s[0].toNat = 91
      · exact readPart_set s w hz hs h3
      · exact readPart_one s w hz hs h1 h2 h3
end Go.Proofs.YthkbhcefckbcnaaGreatDoor
