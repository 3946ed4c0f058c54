/- Package glob's readSet. -/
import Derived.Test.YthkbhcefckbcnaaGreatDoorSet
import Derived.LoopN
namespace Go.Proofs.YthkbhcefckbcnaaGreatDoor
open Go Go.RowKit

def aggW (x : Nat → Nat) : Value := .agg #[.int .u64 (x 0), .int .u64 (x 1), .int .u64 (x 2), .int .u64 (x 3)]
def zeroW : Nat → Nat := fun _ => 0
theorem zero_bit : bitOf zeroW = fun _ => false := by funext b; simp [bitOf, zeroW]
theorem zero_words : Words zeroW := fun _ => by simp [zeroW]
theorem setCells_nil (x : Nat → Nat) : setCells [] x = #[.int .u64 (x 0), .int .u64 (x 1), .int .u64 (x 2), .int .u64 (x 3)] := rfl
/-- What readSet owes. -/
def SetPost (s : ByteArray) (w : World) (e : Ending) (w' : World) : Prop :=
  ((∃ (st : BSet) (r : ByteArray) (x : Nat → Nat), rSet (un s) = some (st, un r) ∧ Words x ∧ bitOf x = st ∧ e = .returned (.tuple #[aggW x, .string r, .nilIface])) ∨ (rSet (un s) = none ∧ e = .returned (.tuple #[aggW zeroW, .string ⟨#[]⟩, errP]))) ∧ Below w.heap.size w w'

def strLen : Value → Nat
  | .string t => t.size
  | _ => 0
theorem Lies.words {W : World} {B : Nat} {t : TypeId} {x : Nat → Nat} (h : Lies W B t (setCells [] x)) :
    (W.cell? ⟨B, 0, none⟩ = some (.int .u64 (x 0)) ∧ W.cell? ⟨B, 1, none⟩ = some (.int .u64 (x 1)) ∧ W.cell? ⟨B, 2, none⟩ = some (.int .u64 (x 2)) ∧ W.cell? ⟨B, 3, none⟩ = some (.int .u64 (x 3))) ∧
    (W.frozen? ⟨B, 0, none⟩ = false ∧ W.frozen? ⟨B, 1, none⟩ = false ∧ W.frozen? ⟨B, 2, none⟩ = false ∧ W.frozen? ⟨B, 3, none⟩ = false) :=
  ⟨⟨h.cell rfl, h.cell rfl, h.cell rfl, h.cell rfl⟩, h.frozen 0, h.frozen 1, h.frozen 2, h.frozen 3⟩

theorem results_c3 {P : Program} {fn : Func} {p u v : Tmp} {ty : TypeId} (h : fn.results = #[.cell p ty, .tmp u, .tmp v]) (tmps : Array Value) (w : World) (g : Nat) (t : TypeId) (cs : Array Value) (d : TypeDesc)
    (hp : tmps.getD p undef = .pointer (some ⟨g, 0, none⟩)) (hg : Lies w g t cs)
    (hu : P.underlying ty = some d) (hd : (match d with | .struct _ | .array _ _ => true | _ => false) = true) (hi : (P.info? ty).map (·.size) = some cs.size) :
    (results fn tmps).run P w = .ok (.tuple #[.agg cs, tmps.getD u undef, tmps.getD v undef]) w := by
  have hp' : tmps[p]?.getD undef = .pointer (some ⟨g, 0, none⟩) := by simpa using hp
  simp [results, h, hp', asAddr, run_loadVar_row w g t ty cs (0, 0) d hg hu hd hi]
theorem Lies.set4 {W : World} {B : Nat} {t : TypeId} {x : Nat → Nat} (h : Lies W B t (setCells [] x)) (a b c d : Value) :
    Lies ((((W.setCell ⟨B, 0, none⟩ a).setCell ⟨B, 1, none⟩ b).setCell ⟨B, 2, none⟩ c).setCell ⟨B, 3, none⟩ d) B t #[a, b, c, d] := (((h.set a).set b).set c).set d
theorem below_set4 {w W : World} {B : Nat} (h : Below w.heap.size w W) (hB : w.heap.size ≤ B) (a b c d : Value) :
    Below w.heap.size w ((((W.setCell ⟨B, 0, none⟩ a).setCell ⟨B, 1, none⟩ b).setCell ⟨B, 2, none⟩ c).setCell ⟨B, 3, none⟩ d) :=
  (((h.setCell (p := ⟨B, 0, none⟩) hB a).setCell (p := ⟨B, 1, none⟩) hB b).setCell (p := ⟨B, 2, none⟩) hB c).setCell (p := ⟨B, 3, none⟩) hB d
theorem below_drewN {w W : World} (k : Nat) (h : Below w.heap.size w W) : Below w.heap.size w (W.drewN k) := h.grown (row := none) ⟨rfl, rfl, rfl, Nat.le_refl _, fun _ _ _ => rfl⟩ h.size (fun _ e => by cases e)
theorem below_drew {w W : World} (h : Below w.heap.size w W) : Below w.heap.size w W.drew := h.grown (row := none) ⟨rfl, rfl, rfl, Nat.le_refl _, fun _ _ _ => rfl⟩ h.size (fun _ e => by cases e)
theorem Lies.grown {W W2 : World} {B g : Nat} {t : TypeId} {cur : Array Value} (h : Lies W B t cur) (hg : W.grownBy W2 (some g)) (hne : B ≠ g) : Lies W2 B t cur := (hg.block B h.lt (fun e => hne (Option.some.inj e))).trans h
theorem info_set : (Tryz.prog.info? 172).map (·.size) = some 4 := by kernel_rfl

set_option maxRecDepth 100000 in
set_option maxHeartbeats 8000000 in
theorem readSet_plain (s : ByteArray) (w : World) (hz : s.size ≤ 1099511627776) (hs : 0 < s.size) (h1 : ((s[0].toNat : Int) == 33) = false) (h2 : ((s[0].toNat : Int) == 94) = false) : Calls Tryz.prog 143 #[.string s] w (SetPost s w) := by
  have HS : Hid (rSet (un s) = setRest true (fun _ => false) (un s)) := by
    obtain ⟨l, hl⟩ := un_zero s hs
    have ht : isTurned (un s) = false := by
      rw [hl]; simp only [isTurned, Bool.or_eq_false_iff]
      exact ⟨beq_false_of_ne fun e => by rw [e] at h1; simp at h1, beq_false_of_ne fun e => by rw [e] at h2; simp at h2⟩
    unfold Hid; rw [rSet_eq, ht]; rfl
  have he : s.toList.isEmpty = false := (isEmpty_false s).2 hs
  have d1 : (0 : Int) < (s.size : Int) := by omega
  have d1b : (1 : Int) ≤ (s.size : Int) := by omega
  go_enter Tryz.func143, Tryz.ntmps143
  go_wp2
  go_loopw [0, 7] (fun a f wr => ∃ (t : ByteArray) (first : Bool) (x : Nat → Nat), a = .string t ∧ f = .bool first ∧ t.size ≤ s.size ∧ Words x ∧ setRest first (bitOf x) (un t) = setRest true (fun _ => false) (un s) ∧ Lies wr (w.heap.size + 1) 172 (setCells [] x) ∧ Lies wr w.heap.size 172 (setCells [] zeroW) ∧ Below w.heap.size w wr) (fun a _ _ => strLen a)
  case atStart =>
    refine ⟨s, true, zeroW, rfl, rfl, Nat.le_refl _, zero_words, by rw [zero_bit], ?_, ?_, ?_⟩
    · have h := Lies.new (w.alloc (.cells (setCells [] zeroW) 172)) 172 (setCells [] zeroW); rw [World.size_alloc] at h; exact h
    · exact (Lies.new w 172 (setCells [] zeroW)).alloc _
    · exact ((Below.refl _ w).alloc (Nat.le_refl _) _).alloc (by simp) _
  case round =>
    obtain ⟨t, first, x, rfl, rfl, htz, hw, hp, hl, hr, hB⟩ := hrel
    have Hl : Hid (Lies wr (w.heap.size + 1) 172 (setCells [] x)) := hl
    have Hr : Hid (Lies wr w.heap.size 172 (setCells [] zeroW)) := hr
    have Hw : Hid (Words x) := hw
    obtain ⟨⟨c0, c1, c2, c3⟩, f0, f1, f2, f3⟩ := hl.words
    obtain ⟨⟨c4, c5, c6, c7⟩, f4, f5, f6, f7⟩ := hr.words
    clear hl hr hw
    cases ht : t.toList.isEmpty
    · have t0 : 0 < t.size := (isEmpty_false t).1 ht
      obtain ⟨l, hl⟩ := un_zero t t0
      have e0 : (0 : Int) < (t.size : Int) := by omega
      have e1 : (1 : Int) ≤ (t.size : Int) := by omega
      by_cases hend : t[0].toNat = 93 ∧ first = false
      · obtain ⟨hc, rfl⟩ := hend
        have HR : Hid (setRest true (fun _ => false) (un s) = some (bitOf x, l)) := by
          unfold Hid; rw [← hp, hl]; exact setRest_end _ (by rw [show t[0] = 93 from UInt8.toNat_inj.1 hc]; rfl)
        have hre : t.extract 1 t.size = bs l := by rw [rest_one_bs, hl]; rfl
        clear hp hl
        go_wp2
        go_region
        all_goals go_wp2
        all_goals refine bodyPost_ret (results_c3 rfl _ _ w.heap.size 172 _ _ rfl (Lies.set4 Hr.out _ _ _ _) Tryz.underlying172 rfl info_set) rfl ?_
        all_goals exact ⟨.inl ⟨_, bs l, x, by rw [HS.out, HR.out, un_bs], Hw.out, rfl, rfl⟩, below_drew (below_set4 hB (Nat.le_refl _) _ _ _ _)⟩
      · have hne : (t[0] == 93 && !first) = false := by
          cases first
          · have : t[0] ≠ 93 := fun e => hend ⟨by rw [e]; rfl, rfl⟩
            simp [this]
          · simp
        have hcs : (t[0].toNat ≠ 93) ∨ (t[0].toNat = 93 ∧ first = true) := by
          by_cases h : t[0].toNat = 93
          · cases first
            · exact (hend ⟨h, rfl⟩).elim
            · exact .inr ⟨h, rfl⟩
          · exact .inl h
        clear hend
        rw [hl] at hp
        cases hrr : rRange (un t) with
        | none =>
          have hcall := fun W => readRange_no t W (by rw [hl]; simp) hrr (by omega)
          rw [hl] at hrr
          have HR : Hid (setRest true (fun _ => false) (un s) = none) := by unfold Hid; rw [← hp]; exact setRest_wrong _ hne hrr
          clear hp hl hne hrr
          unfold errP at hcall
          rcases hcs with h93 | ⟨h93, rfl⟩
          all_goals (try have h93b : ((t[0].toNat : Int) == 93) = false := by simp; omega)
          all_goals go_wp2_with fail
          all_goals refine (hcall _).mono ?_
          all_goals rintro e w2 ⟨rfl, k, rfl⟩
          all_goals go_wp2
          all_goals refine bodyPost_ret (results_c3 rfl _ _ w.heap.size 172 _ _ rfl (Lies.set4 (Hr.out.drew k) _ _ _ _) Tryz.underlying172 rfl info_set) rfl ?_
          all_goals exact ⟨.inr ⟨by rw [HS.out, HR.out], rfl⟩, below_set4 (below_drewN k hB) (Nat.le_refl _) _ _ _ _⟩
        | some y =>
          obtain ⟨lo, hi, r0⟩ := y
          obtain ⟨r, rfl⟩ : ∃ r, r0 = un r := ⟨bs r0, (un_bs r0).symm⟩
          have hcall := fun W => readRange_ok t r lo hi W hrr (by omega)
          have hrl : r.size < t.size := by have := rRange_lt hrr; rw [un_length, un_length] at this; exact this
          rw [hl] at hrr
          have HR : Hid (setRest false (addS (bitOf x) lo hi) (un r) = setRest true (fun _ => false) (un s)) := by unfold Hid; rw [← hp]; exact (setRest_on _ hne hrr).symm
          clear hp hl hne hrr
          rcases hcs with h93 | ⟨h93, rfl⟩
          all_goals (try have h93b : ((t[0].toNat : Int) == 93) = false := by simp; omega)
          all_goals go_wp2_with fail
          all_goals refine (hcall _).mono ?_
          all_goals rintro e w2 ⟨rfl, k, rfl⟩
          all_goals go_wp2_with fail
          all_goals refine (add_p (w.heap.size + 1) 172 [] x lo hi _ Hw.out (Hl.out.drew k)).mono ?_
          all_goals rintro e w2 ⟨rfl, x2, hw2, hb2, hl2, hg2⟩
          all_goals have HA : Hid (Words x2 ∧ bitOf x2 = addS (bitOf x) lo hi ∧ Lies w2 (w.heap.size + 1) 172 (setCells [] x2) ∧ Lies w2 w.heap.size 172 (setCells [] zeroW) ∧ Below w.heap.size w w2) := ⟨hw2, funext hb2, hl2, (Hr.out.drew k).grown hg2 (by omega), (below_drewN k hB).grown hg2 hB.size (fun k e => by cases e; omega)⟩
          all_goals clear hw2 hb2 hl2 hg2
          all_goals go_wp2
          all_goals go_roundw
          case rel => exact ⟨r, false, x2, rfl, rfl, by omega, HA.out.1, by rw [HA.out.2.1]; exact HR.out, HA.out.2.2⟩
          case measure => exact hrl
          case rel => exact ⟨r, false, x2, rfl, rfl, by omega, HA.out.1, by rw [HA.out.2.1]; exact HR.out, HA.out.2.2⟩
          case measure => exact hrl
    · have HR : Hid (setRest true (fun _ => false) (un s) = none) := by
        unfold Hid; rw [← hp, show un t = [] from by rw [← toList_un]; exact List.isEmpty_iff.1 ht, setRest_nil]
      clear hp
      go_wp2
      refine bodyPost_ret (results_c3 rfl _ _ w.heap.size 172 _ _ rfl (Lies.set4 Hr.out _ _ _ _) Tryz.underlying172 rfl info_set) rfl ?_
      exact ⟨.inr ⟨by rw [HS.out, HR.out], rfl⟩, below_set4 hB (Nat.le_refl _) _ _ _ _⟩

set_option maxRecDepth 100000 in
set_option maxHeartbeats 8000000 in
theorem readSet_bang (s : ByteArray) (w : World) (hz : s.size ≤ 1099511627776) (hs : 0 < s.size) (z : ByteArray) (hze : s.extract 1 s.size = z) (h1 : s[0].toNat = 33) : Calls Tryz.prog 143 #[.string s] w (SetPost s w) := by
  have HS : Hid (rSet (un s) = (match setRest true (fun _ => false) (un z) with | none => none | some (s, r) => some (fun b => !s b, r))) := by
    obtain ⟨l, hl⟩ := un_zero s hs
    have ht : isTurned (un s) = true := by
      rw [hl, show s[0] = 33 from UInt8.toNat_inj.1 h1]; rfl
    unfold Hid; rw [rSet_eq, ht, ← hze, rest_one_bs, un_bs]; rfl
  have he : s.toList.isEmpty = false := (isEmpty_false s).2 hs
  have d1 : (0 : Int) < (s.size : Int) := by omega
  have d1b : (1 : Int) ≤ (s.size : Int) := by omega
  have hzl : z.size ≤ s.size := by rw [← hze, rest_one_bs, size_bs, List.length_drop, un_length]; omega
  go_enter Tryz.func143, Tryz.ntmps143
  go_wp2
  go_loopw [0, 7] (fun a f wr => ∃ (t : ByteArray) (first : Bool) (x : Nat → Nat), a = .string t ∧ f = .bool first ∧ t.size ≤ s.size ∧ Words x ∧ setRest first (bitOf x) (un t) = setRest true (fun _ => false) (un z) ∧ Lies wr (w.heap.size + 1) 172 (setCells [] x) ∧ Lies wr w.heap.size 172 (setCells [] zeroW) ∧ Below w.heap.size w wr) (fun a _ _ => strLen a)
  case atStart =>
    refine ⟨z, true, zeroW, rfl, rfl, hzl, zero_words, by rw [zero_bit], ?_, ?_, ?_⟩
    · have h := Lies.new (w.alloc (.cells (setCells [] zeroW) 172)) 172 (setCells [] zeroW); rw [World.size_alloc] at h; exact h
    · exact (Lies.new w 172 (setCells [] zeroW)).alloc _
    · exact ((Below.refl _ w).alloc (Nat.le_refl _) _).alloc (by simp) _
  case round =>
    obtain ⟨t, first, x, rfl, rfl, htz, hw, hp, hl, hr, hB⟩ := hrel
    have Hl : Hid (Lies wr (w.heap.size + 1) 172 (setCells [] x)) := hl
    have Hr : Hid (Lies wr w.heap.size 172 (setCells [] zeroW)) := hr
    have Hw : Hid (Words x) := hw
    obtain ⟨⟨c0, c1, c2, c3⟩, f0, f1, f2, f3⟩ := hl.words
    obtain ⟨⟨c4, c5, c6, c7⟩, f4, f5, f6, f7⟩ := hr.words
    clear hl hr hw
    cases ht : t.toList.isEmpty
    · have t0 : 0 < t.size := (isEmpty_false t).1 ht
      obtain ⟨l, hl⟩ := un_zero t t0
      have e0 : (0 : Int) < (t.size : Int) := by omega
      have e1 : (1 : Int) ≤ (t.size : Int) := by omega
      by_cases hend : t[0].toNat = 93 ∧ first = false
      · obtain ⟨hc, rfl⟩ := hend
        have HR : Hid (setRest true (fun _ => false) (un z) = some (bitOf x, l)) := by
          unfold Hid; rw [← hp, hl]; exact setRest_end _ (by rw [show t[0] = 93 from UInt8.toNat_inj.1 hc]; rfl)
        have hre : t.extract 1 t.size = bs l := by rw [rest_one_bs, hl]; rfl
        clear hp hl
        have Hturn := fun W (hL : Lies W (w.heap.size + 1) 172 (setCells [] x)) => turn_p (w.heap.size + 1) 172 [] x W Hw.out hL
        go_wp2_with fail
        refine (Hturn _ Hl.out).mono ?_
        rintro e w2 ⟨rfl, x2, hw2, hb2, hl2, hg2⟩
        have hr2 : Lies w2 w.heap.size 172 (setCells [] zeroW) := Hr.out.grown hg2 (by omega)
        have hB2 : Below w.heap.size w w2 := hB.grown hg2 hB.size (fun k e => by cases e; omega)
        have Hr2 : Hid _ := hr2
        have Hb2 : Hid _ := hb2
        have Hw2 : Hid _ := hw2
        clear c0 c1 c2 c3 f0 f1 f2 f3 c4 c5 c6 c7 f4 f5 f6 f7
        obtain ⟨⟨c0, c1, c2, c3⟩, f0, f1, f2, f3⟩ := hl2.words
        obtain ⟨⟨c4, c5, c6, c7⟩, f4, f5, f6, f7⟩ := hr2.words
        clear hr2 hl2 hg2 hb2 hw2
        go_wp2
        go_region
        all_goals go_wp2
        all_goals refine bodyPost_ret (results_c3 rfl _ _ w.heap.size 172 _ _ rfl (Lies.set4 Hr2.out _ _ _ _) Tryz.underlying172 rfl info_set) rfl ?_
        all_goals exact ⟨.inl ⟨fun b => !bitOf x b, bs l, x2, by rw [HS.out, HR.out, un_bs], Hw2.out, funext Hb2.out, rfl⟩, below_drew (below_set4 hB2 (Nat.le_refl _) _ _ _ _)⟩
      · have hne : (t[0] == 93 && !first) = false := by
          cases first
          · have : t[0] ≠ 93 := fun e => hend ⟨by rw [e]; rfl, rfl⟩
            simp [this]
          · simp
        have hcs : (t[0].toNat ≠ 93) ∨ (t[0].toNat = 93 ∧ first = true) := by
          by_cases h : t[0].toNat = 93
          · cases first
            · exact (hend ⟨h, rfl⟩).elim
            · exact .inr ⟨h, rfl⟩
          · exact .inl h
        clear hend
        rw [hl] at hp
        cases hrr : rRange (un t) with
        | none =>
          have hcall := fun W => readRange_no t W (by rw [hl]; simp) hrr (by omega)
          rw [hl] at hrr
          have HR : Hid (setRest true (fun _ => false) (un z) = none) := by unfold Hid; rw [← hp]; exact setRest_wrong _ hne hrr
          clear hp hl hne hrr
          unfold errP at hcall
          rcases hcs with h93 | ⟨h93, rfl⟩
          all_goals (try have h93b : ((t[0].toNat : Int) == 93) = false := by simp; omega)
          all_goals go_wp2_with fail
          all_goals refine (hcall _).mono ?_
          all_goals rintro e w2 ⟨rfl, k, rfl⟩
          all_goals go_wp2
          all_goals refine bodyPost_ret (results_c3 rfl _ _ w.heap.size 172 _ _ rfl (Lies.set4 (Hr.out.drew k) _ _ _ _) Tryz.underlying172 rfl info_set) rfl ?_
          all_goals exact ⟨.inr ⟨by rw [HS.out, HR.out], rfl⟩, below_set4 (below_drewN k hB) (Nat.le_refl _) _ _ _ _⟩
        | some y =>
          obtain ⟨lo, hi, r0⟩ := y
          obtain ⟨r, rfl⟩ : ∃ r, r0 = un r := ⟨bs r0, (un_bs r0).symm⟩
          have hcall := fun W => readRange_ok t r lo hi W hrr (by omega)
          have hrl : r.size < t.size := by have := rRange_lt hrr; rw [un_length, un_length] at this; exact this
          rw [hl] at hrr
          have HR : Hid (setRest false (addS (bitOf x) lo hi) (un r) = setRest true (fun _ => false) (un z)) := by unfold Hid; rw [← hp]; exact (setRest_on _ hne hrr).symm
          clear hp hl hne hrr
          rcases hcs with h93 | ⟨h93, rfl⟩
          all_goals (try have h93b : ((t[0].toNat : Int) == 93) = false := by simp; omega)
          all_goals go_wp2_with fail
          all_goals refine (hcall _).mono ?_
          all_goals rintro e w2 ⟨rfl, k, rfl⟩
          all_goals go_wp2_with fail
          all_goals refine (add_p (w.heap.size + 1) 172 [] x lo hi _ Hw.out (Hl.out.drew k)).mono ?_
          all_goals rintro e w2 ⟨rfl, x2, hw2, hb2, hl2, hg2⟩
          all_goals have HA : Hid (Words x2 ∧ bitOf x2 = addS (bitOf x) lo hi ∧ Lies w2 (w.heap.size + 1) 172 (setCells [] x2) ∧ Lies w2 w.heap.size 172 (setCells [] zeroW) ∧ Below w.heap.size w w2) := ⟨hw2, funext hb2, hl2, (Hr.out.drew k).grown hg2 (by omega), (below_drewN k hB).grown hg2 hB.size (fun k e => by cases e; omega)⟩
          all_goals clear hw2 hb2 hl2 hg2
          all_goals go_wp2
          all_goals go_roundw
          case rel => exact ⟨r, false, x2, rfl, rfl, by omega, HA.out.1, by rw [HA.out.2.1]; exact HR.out, HA.out.2.2⟩
          case measure => exact hrl
          case rel => exact ⟨r, false, x2, rfl, rfl, by omega, HA.out.1, by rw [HA.out.2.1]; exact HR.out, HA.out.2.2⟩
          case measure => exact hrl
    · have HR : Hid (setRest true (fun _ => false) (un z) = none) := by
        unfold Hid; rw [← hp, show un t = [] from by rw [← toList_un]; exact List.isEmpty_iff.1 ht, setRest_nil]
      clear hp
      go_wp2
      refine bodyPost_ret (results_c3 rfl _ _ w.heap.size 172 _ _ rfl (Lies.set4 Hr.out _ _ _ _) Tryz.underlying172 rfl info_set) rfl ?_
      exact ⟨.inr ⟨by rw [HS.out, HR.out], rfl⟩, below_set4 hB (Nat.le_refl _) _ _ _ _⟩

set_option maxRecDepth 100000 in
set_option maxHeartbeats 8000000 in
theorem readSet_hat (s : ByteArray) (w : World) (hz : s.size ≤ 1099511627776) (hs : 0 < s.size) (z : ByteArray) (hze : s.extract 1 s.size = z) (h1 : s[0].toNat = 94) : Calls Tryz.prog 143 #[.string s] w (SetPost s w) := by
  have HS : Hid (rSet (un s) = (match setRest true (fun _ => false) (un z) with | none => none | some (s, r) => some (fun b => !s b, r))) := by
    obtain ⟨l, hl⟩ := un_zero s hs
    have ht : isTurned (un s) = true := by
      rw [hl, show s[0] = 94 from UInt8.toNat_inj.1 h1]; rfl
    unfold Hid; rw [rSet_eq, ht, ← hze, rest_one_bs, un_bs]; rfl
  have he : s.toList.isEmpty = false := (isEmpty_false s).2 hs
  have d1 : (0 : Int) < (s.size : Int) := by omega
  have d1b : (1 : Int) ≤ (s.size : Int) := by omega
  have hzl : z.size ≤ s.size := by rw [← hze, rest_one_bs, size_bs, List.length_drop, un_length]; omega
  go_enter Tryz.func143, Tryz.ntmps143
  go_wp2
  go_loopw [0, 7] (fun a f wr => ∃ (t : ByteArray) (first : Bool) (x : Nat → Nat), a = .string t ∧ f = .bool first ∧ t.size ≤ s.size ∧ Words x ∧ setRest first (bitOf x) (un t) = setRest true (fun _ => false) (un z) ∧ Lies wr (w.heap.size + 1) 172 (setCells [] x) ∧ Lies wr w.heap.size 172 (setCells [] zeroW) ∧ Below w.heap.size w wr) (fun a _ _ => strLen a)
  case atStart =>
    refine ⟨z, true, zeroW, rfl, rfl, hzl, zero_words, by rw [zero_bit], ?_, ?_, ?_⟩
    · have h := Lies.new (w.alloc (.cells (setCells [] zeroW) 172)) 172 (setCells [] zeroW); rw [World.size_alloc] at h; exact h
    · exact (Lies.new w 172 (setCells [] zeroW)).alloc _
    · exact ((Below.refl _ w).alloc (Nat.le_refl _) _).alloc (by simp) _
  case round =>
    obtain ⟨t, first, x, rfl, rfl, htz, hw, hp, hl, hr, hB⟩ := hrel
    have Hl : Hid (Lies wr (w.heap.size + 1) 172 (setCells [] x)) := hl
    have Hr : Hid (Lies wr w.heap.size 172 (setCells [] zeroW)) := hr
    have Hw : Hid (Words x) := hw
    obtain ⟨⟨c0, c1, c2, c3⟩, f0, f1, f2, f3⟩ := hl.words
    obtain ⟨⟨c4, c5, c6, c7⟩, f4, f5, f6, f7⟩ := hr.words
    clear hl hr hw
    cases ht : t.toList.isEmpty
    · have t0 : 0 < t.size := (isEmpty_false t).1 ht
      obtain ⟨l, hl⟩ := un_zero t t0
      have e0 : (0 : Int) < (t.size : Int) := by omega
      have e1 : (1 : Int) ≤ (t.size : Int) := by omega
      by_cases hend : t[0].toNat = 93 ∧ first = false
      · obtain ⟨hc, rfl⟩ := hend
        have HR : Hid (setRest true (fun _ => false) (un z) = some (bitOf x, l)) := by
          unfold Hid; rw [← hp, hl]; exact setRest_end _ (by rw [show t[0] = 93 from UInt8.toNat_inj.1 hc]; rfl)
        have hre : t.extract 1 t.size = bs l := by rw [rest_one_bs, hl]; rfl
        clear hp hl
        have Hturn := fun W (hL : Lies W (w.heap.size + 1) 172 (setCells [] x)) => turn_p (w.heap.size + 1) 172 [] x W Hw.out hL
        go_wp2_with fail
        refine (Hturn _ Hl.out).mono ?_
        rintro e w2 ⟨rfl, x2, hw2, hb2, hl2, hg2⟩
        have hr2 : Lies w2 w.heap.size 172 (setCells [] zeroW) := Hr.out.grown hg2 (by omega)
        have hB2 : Below w.heap.size w w2 := hB.grown hg2 hB.size (fun k e => by cases e; omega)
        have Hr2 : Hid _ := hr2
        have Hb2 : Hid _ := hb2
        have Hw2 : Hid _ := hw2
        clear c0 c1 c2 c3 f0 f1 f2 f3 c4 c5 c6 c7 f4 f5 f6 f7
        obtain ⟨⟨c0, c1, c2, c3⟩, f0, f1, f2, f3⟩ := hl2.words
        obtain ⟨⟨c4, c5, c6, c7⟩, f4, f5, f6, f7⟩ := hr2.words
        clear hr2 hl2 hg2 hb2 hw2
        go_wp2
        go_region
        all_goals go_wp2
        all_goals refine bodyPost_ret (results_c3 rfl _ _ w.heap.size 172 _ _ rfl (Lies.set4 Hr2.out _ _ _ _) Tryz.underlying172 rfl info_set) rfl ?_
        all_goals exact ⟨.inl ⟨fun b => !bitOf x b, bs l, x2, by rw [HS.out, HR.out, un_bs], Hw2.out, funext Hb2.out, rfl⟩, below_drew (below_set4 hB2 (Nat.le_refl _) _ _ _ _)⟩
      · have hne : (t[0] == 93 && !first) = false := by
          cases first
          · have : t[0] ≠ 93 := fun e => hend ⟨by rw [e]; rfl, rfl⟩
            simp [this]
          · simp
        have hcs : (t[0].toNat ≠ 93) ∨ (t[0].toNat = 93 ∧ first = true) := by
          by_cases h : t[0].toNat = 93
          · cases first
            · exact (hend ⟨h, rfl⟩).elim
            · exact .inr ⟨h, rfl⟩
          · exact .inl h
        clear hend
        rw [hl] at hp
        cases hrr : rRange (un t) with
        | none =>
          have hcall := fun W => readRange_no t W (by rw [hl]; simp) hrr (by omega)
          rw [hl] at hrr
          have HR : Hid (setRest true (fun _ => false) (un z) = none) := by unfold Hid; rw [← hp]; exact setRest_wrong _ hne hrr
          clear hp hl hne hrr
          unfold errP at hcall
          rcases hcs with h93 | ⟨h93, rfl⟩
          all_goals (try have h93b : ((t[0].toNat : Int) == 93) = false := by simp; omega)
          all_goals go_wp2_with fail
          all_goals refine (hcall _).mono ?_
          all_goals rintro e w2 ⟨rfl, k, rfl⟩
          all_goals go_wp2
          all_goals refine bodyPost_ret (results_c3 rfl _ _ w.heap.size 172 _ _ rfl (Lies.set4 (Hr.out.drew k) _ _ _ _) Tryz.underlying172 rfl info_set) rfl ?_
          all_goals exact ⟨.inr ⟨by rw [HS.out, HR.out], rfl⟩, below_set4 (below_drewN k hB) (Nat.le_refl _) _ _ _ _⟩
        | some y =>
          obtain ⟨lo, hi, r0⟩ := y
          obtain ⟨r, rfl⟩ : ∃ r, r0 = un r := ⟨bs r0, (un_bs r0).symm⟩
          have hcall := fun W => readRange_ok t r lo hi W hrr (by omega)
          have hrl : r.size < t.size := by have := rRange_lt hrr; rw [un_length, un_length] at this; exact this
          rw [hl] at hrr
          have HR : Hid (setRest false (addS (bitOf x) lo hi) (un r) = setRest true (fun _ => false) (un z)) := by unfold Hid; rw [← hp]; exact (setRest_on _ hne hrr).symm
          clear hp hl hne hrr
          rcases hcs with h93 | ⟨h93, rfl⟩
          all_goals (try have h93b : ((t[0].toNat : Int) == 93) = false := by simp; omega)
          all_goals go_wp2_with fail
          all_goals refine (hcall _).mono ?_
          all_goals rintro e w2 ⟨rfl, k, rfl⟩
          all_goals go_wp2_with fail
          all_goals refine (add_p (w.heap.size + 1) 172 [] x lo hi _ Hw.out (Hl.out.drew k)).mono ?_
          all_goals rintro e w2 ⟨rfl, x2, hw2, hb2, hl2, hg2⟩
          all_goals have HA : Hid (Words x2 ∧ bitOf x2 = addS (bitOf x) lo hi ∧ Lies w2 (w.heap.size + 1) 172 (setCells [] x2) ∧ Lies w2 w.heap.size 172 (setCells [] zeroW) ∧ Below w.heap.size w w2) := ⟨hw2, funext hb2, hl2, (Hr.out.drew k).grown hg2 (by omega), (below_drewN k hB).grown hg2 hB.size (fun k e => by cases e; omega)⟩
          all_goals clear hw2 hb2 hl2 hg2
          all_goals go_wp2
          all_goals go_roundw
          case rel => exact ⟨r, false, x2, rfl, rfl, by omega, HA.out.1, by rw [HA.out.2.1]; exact HR.out, HA.out.2.2⟩
          case measure => exact hrl
          case rel => exact ⟨r, false, x2, rfl, rfl, by omega, HA.out.1, by rw [HA.out.2.1]; exact HR.out, HA.out.2.2⟩
          case measure => exact hrl
    · have HR : Hid (setRest true (fun _ => false) (un z) = none) := by
        unfold Hid; rw [← hp, show un t = [] from by rw [← toList_un]; exact List.isEmpty_iff.1 ht, setRest_nil]
      clear hp
      go_wp2
      refine bodyPost_ret (results_c3 rfl _ _ w.heap.size 172 _ _ rfl (Lies.set4 Hr.out _ _ _ _) Tryz.underlying172 rfl info_set) rfl ?_
      exact ⟨.inr ⟨by rw [HS.out, HR.out], rfl⟩, below_set4 hB (Nat.le_refl _) _ _ _ _⟩

theorem readSet_all (s : ByteArray) (w : World) (hz : s.size ≤ 1099511627776) (hs : 0 < s.size) : Calls Tryz.prog 143 #[.string s] w (SetPost s w) := by
  by_cases h1 : s[0].toNat = 33
  · exact readSet_bang s w hz hs _ rfl h1
  · by_cases h2 : s[0].toNat = 94
    · exact readSet_hat s w hz hs _ rfl h2
    · exact readSet_plain s w hz hs (by simp; omega) (by simp; omega)
set_option maxRecDepth 100000 in
set_option maxHeartbeats 4000000 in
theorem readSet_none (s : ByteArray) (w : World) (hs : s.size = 0) : Calls Tryz.prog 143 #[.string s] w (SetPost s w) := by
  have he : s.toList.isEmpty = true := (isEmpty_iff s).2 hs
  have HS : Hid (rSet (un s) = none) := by
    unfold Hid; rw [show un s = [] from by rw [← toList_un]; exact List.isEmpty_iff.1 he]; rfl
  clear hs
  go_enter Tryz.func143, Tryz.ntmps143
  go_wp2
  go_loopw [0] (fun a wr => a = .string s ∧ Lies wr w.heap.size 172 (setCells [] zeroW) ∧ Below w.heap.size w wr) (fun a _ => strLen a)
  case atStart => exact ⟨rfl, (Lies.new w 172 (setCells [] zeroW)).alloc _, ((Below.refl _ w).alloc (Nat.le_refl _) _).alloc (by simp) _⟩
  case round =>
    obtain ⟨rfl, hr, hB⟩ := hrel
    have Hr : Hid (Lies wr w.heap.size 172 (setCells [] zeroW)) := hr
    obtain ⟨⟨c4, c5, c6, c7⟩, f4, f5, f6, f7⟩ := hr.words
    clear hr
    go_wp2
    refine bodyPost_ret (results_c3 rfl _ _ w.heap.size 172 _ _ rfl (Lies.set4 Hr.out _ _ _ _) Tryz.underlying172 rfl info_set) rfl ?_
    exact ⟨.inr ⟨HS.out, rfl⟩, below_set4 hB (Nat.le_refl _) _ _ _ _⟩
theorem readSet_p (s : ByteArray) (w : World) (hz : s.size ≤ 1099511627776) : Calls Tryz.prog 143 #[.string s] w (SetPost s w) := by
  rcases Nat.eq_zero_or_pos s.size with h | h
  · exact readSet_none s w h
  · exact readSet_all s w hz h
end Go.Proofs.YthkbhcefckbcnaaGreatDoor
