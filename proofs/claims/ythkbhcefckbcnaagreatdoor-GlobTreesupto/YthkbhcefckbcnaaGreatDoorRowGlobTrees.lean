/- GlobTrees, where the text and the entries are of bulk at most 1048576: from its walk to its row and its card. -/
import Derived.Test.YthkbhcefckbcnaaGreatDoorSpec
import Derived.Test.YthkbhcefckbcnaaGreatDoorProg
import Derived.WalkKit
import Derived.WalkSpells
import Derived.Test.YthkbhcefckbcnaaGreatDoorCutM
import Derived.Test.YthkbhcefckbcnaaGreatDoorCmpM
import Derived.WalkLawsBesides
import Derived.Test.YthkbhcefckbcnaaGreatDoorEntW
import Derived.Deep.RegionWith
import Derived.Deep.RegionHeld3
import Derived.Deep.CutRange
import Derived.Test.YthkbhcefckbcnaaGreatDoorOutP
import Derived.Test.YthkbhcefckbcnaaGreatDoorReadP
import Derived.Test.YthkbhcefckbcnaaGreatDoorBelP
import Derived.Test.YthkbhcefckbcnaaGreatDoorKeepP
import Derived.Test.YthkbhcefckbcnaaGreatDoorWorks2
import Derived.Test.YthkbhcefckbcnaaGreatDoorLaidU
import Derived.Deep.Slices
import Derived.Deep.Strs
import Derived.ChangeArms
import Derived.Test.YthkbhcefckbcnaaGreatDoorCards
import Derived.Test.YthkbhcefckbcnaaGreatDoorTie
import Derived.ProofKit
import Derived.OpenShut
import Derived.SizedLaws
import Derived.Deep.DeepHandedRow
import Derived.SevenTiedAt

namespace Go.Proofs.YthkbhcefckbcnaaGreatDoor
open Go.RowKit

theorem lastIdx_succ (s : ByteArray) (k : Nat) (h : k < s.size) : Lib.lastIdx s 47 (k + 1) = if s[k].toNat = 47 then (k : Int) else Lib.lastIdx s 47 k := by
  have e : s.data[k]! = s[k] := by
    have h2 : k < s.data.size := h
    exact getElem!_pos s.data k h2
  simp only [Lib.lastIdx, e]
  by_cases hc : s[k].toNat = 47
  · rw [if_pos (by omega), if_pos hc]
  · rw [if_neg (by omega), if_neg hc]

set_option maxHeartbeats 400000 in
theorem slash_r (s : ByteArray) (w : World) (hs : s.size ≤ 9223372036854775806) : Calls Tryz.prog 68 #[.string s] w fun e w' => e = .returned (.int .i64 (Lib.lastIndexByte s 47)) ∧ w' = w := by
  go_enter Tryz.func68, Tryz.ntmps68
  go_wp2
  go_loop [3, 4] (fun a i => ∃ k : Nat, k ≤ s.size ∧ i = .int .i64 k ∧ a = .int .i64 (Lib.lastIdx s 47 k)) (fun _ i => s.size - (intOf i).toNat)
  case atStart => exact ⟨0, Nat.zero_le _, rfl, rfl⟩
  case round =>
    obtain ⟨k, hk, rfl, rfl⟩ := hrel
    by_cases hlt : k < s.size
    · have hsn : Hid _ := lastIdx_succ s k hlt
      by_cases hc : s[k].toNat = 47
      · go_wp2
        all_goals
          go_round
          case rel => exact ⟨k + 1, by omega, by go_num, by rw [hsn.out, if_pos hc]⟩
          case measure => simp [intOf]; omega
      · go_wp2
        all_goals
          go_round
          case rel => exact ⟨k + 1, by omega, by go_num, by rw [hsn.out, if_neg hc]⟩
          case measure => simp [intOf]; omega
    · go_wp2
      go_ret
      obtain rfl : k = s.size := by omega
      exact ⟨rfl, rfl⟩

theorem parent_r (a : ByteArray) (w : World) (hs : a.size < 4611686018427387904) : Calls Tryz.prog 39 #[.string a] w fun e w' => e = .returned (.string (parentB a)) ∧ w' = w := by
  have hr := lastIndexByte_range a 47
  by_cases h : Lib.lastIndexByte a 47 < 0
  · go_enter Tryz.func39, Tryz.ntmps39
    go_wp2_with (go_at_call 68; refine (slash_r _ _ (by omega)).mono ?_; rintro e w' ⟨rfl, rfl⟩)
    go_ret
    exact ⟨by simp [parentB, h], rfl⟩
  · go_enter Tryz.func39, Tryz.ntmps39
    go_wp2_with (go_at_call 68; refine (slash_r _ _ (by omega)).mono ?_; rintro e w' ⟨rfl, rfl⟩)
    go_ret
    exact ⟨by unfold parentB; rw [if_neg (by omega)]; rfl, rfl⟩
end Go.Proofs.YthkbhcefckbcnaaGreatDoor

namespace Go.Proofs.YthkbhcefckbcnaaGreatDoor
open Go Go.RowKit

set_option maxRecDepth 100000 in
set_option maxHeartbeats 2000000 in
theorem cut_r (s : ByteArray) (w : World) (hs : s.size ≤ 1099511627776) : Calls Tryz.prog 67 #[.string s] w fun e w' => ∃ v, e = .returned v ∧ w'.ownsRow w.heap.size 9 1 v (piecesB s).length (strs (piecesB s)) ∧ Below w.heap.size w w' := by
  obtain ⟨i0, hi, hz0, hz1, hz2⟩ := info_parts info_str
  have hpl := piecesB_length s
  go_enter Tryz.func67, Tryz.ntmps67
  go_wp2
  go_loopw [3, 4, 5] (fun v fr i wr => ∃ (k f : Nat) (ps : List ByteArray), i = .int .i64 k ∧ fr = .int .i64 f ∧ f ≤ k ∧ wr.ownsRow w.heap.size 9 1 v ps.length (strs ps) ∧ Below w.heap.size w wr ∧
      ((k ≤ s.size ∧ noSl s f k ∧ piecesB s = ps ++ piecesB (s.extract f s.size)) ∨ (k = s.size + 1 ∧ piecesB s = ps))) (fun _ _ i _ => s.size + 1 - (intOf i).toNat)
  case atStart => exact ⟨0, 0, [], rfl, rfl, Nat.le_refl _, World.ownsRow_nil _ _ _ _, Below.refl _ _, .inl ⟨Nat.zero_le _, noSl_nil _ _, by rw [extract_all]; rfl⟩⟩
  case round =>
    obtain ⟨k, f, ps, rfl, rfl, hfk, hown, hB, ⟨hk, hn, hp⟩ | ⟨rfl, hp⟩⟩ := hrel
    · have hsz := hB.size
      have hpsl : ps.length < (piecesB s).length := by
        rw [hp, List.length_append]; have := List.length_pos_iff.2 (piecesB_ne (s.extract f s.size)); omega
      by_cases hlt : k < s.size
      · have hget := un_getElem? s k hlt
        have hne : ((k : Int) == (s.size : Int)) = false := by simp; omega
        by_cases hc : s[k].toNat = 47
        · have hc2 : (un s)[k]? = some 47 := by rw [hget]; congr 1; exact UInt8.toNat_inj.1 hc
          have Hp : Hid (piecesB s = ps ++ [s.extract f k] ++ piecesB (s.extract (k + 1) s.size)) := by unfold Hid; rw [hp, pieces_at s f k hfk hlt hc2 hn]; simp
          clear hget hc2 hn hp
          go_wp2_with (at_builtin; refine wpList_append_own _ rfl _ _ 46 rfl w.heap.size 9 i0 (.string ⟨#[]⟩) 1 16 Tryz.underlying46 hi hz0 hz1 hz2 rfl (by decide) _ _ _ rfl (hown.alloc _) ⟨wr.heap.size, 0, none⟩ 1 1 [.string (s.extract f k)] rfl rfl (cell_one_new _ _ _) (by simp [Value.oneCell']) (by unfold maxLen; omega) (by omega) (by simp; omega) ?_; intro v1 w1 hown1 hgrow1 _)
          have hb1 : Below w.heap.size w w1 := (hB.alloc hsz _).grown hgrow1 (by simp; omega) (fun j hj => (own_ge hown j hj.symm).1)
          exact ⟨⟨k + 1, k + 1, ps ++ [s.extract f k], by go_num, by go_num, Nat.le_refl _, by simpa [strs] using hown1, hb1, .inl ⟨by omega, noSl_nil _ _, Hp.out⟩⟩, by simp [intOf]; omega⟩
        · have hc2 : (un s)[k]? ≠ some 47 := by rw [hget]; intro e; exact hc (by rw [Option.some.inj e]; rfl)
          have Hn : Hid _ := noSl_succ hn hc2
          have Hp : Hid _ := hp
          clear hget hc2 hn hp
          go_wp2
          first
            | exact ⟨⟨k + 1, f, ps, by go_num, rfl, by omega, hown, hB, .inl ⟨by omega, Hn.out, Hp.out⟩⟩, by simp [intOf]; omega⟩
            | (go_roundw
               case rel => exact ⟨k + 1, f, ps, by go_num, rfl, by omega, hown, hB, .inl ⟨by omega, Hn.out, Hp.out⟩⟩
               case measure => simp [intOf]; omega)
      · obtain rfl : k = s.size := by omega
        have Hp : Hid (piecesB s = ps ++ [s.extract f s.size]) := by unfold Hid; rw [hp, pieces_end s f hn]
        have hee : ((s.size : Int) == (s.size : Int)) = true := by simp
        clear hn hp
        go_wp2_with (at_builtin; refine wpList_append_own _ rfl _ _ 46 rfl w.heap.size 9 i0 (.string ⟨#[]⟩) 1 16 Tryz.underlying46 hi hz0 hz1 hz2 rfl (by decide) _ _ _ rfl (hown.alloc _) ⟨wr.heap.size, 0, none⟩ 1 1 [.string (s.extract f s.size)] rfl rfl (cell_one_new _ _ _) (by simp [Value.oneCell']) (by unfold maxLen; omega) (by omega) (by simp; omega) ?_; intro v1 w1 hown1 hgrow1 _)
        have hb1 : Below w.heap.size w w1 := (hB.alloc hsz _).grown hgrow1 (by simp; omega) (fun j hj => (own_ge hown j hj.symm).1)
        exact ⟨⟨s.size + 1, s.size + 1, ps ++ [s.extract f s.size], by go_num, by go_num, Nat.le_refl _, by simpa [strs] using hown1, hb1, .inr ⟨rfl, Hp.out⟩⟩, by simp [intOf]⟩
    · have Hp : Hid _ := hp
      clear hp
      go_wp2
      go_ret
      exact ⟨_, rfl, by rw [Hp.out]; exact hown, hB⟩

/-- Block g holds the texts xs, from its beginning on. -/
def Row (w : World) (g : Nat) (xs : List ByteArray) : Prop := ∀ (j : Nat) z, xs[j]? = some z → w.cell? ⟨g, j, none⟩ = some (.string z)
theorem Row.below {w w2 : World} {g : Nat} {xs : List ByteArray} (h : Row w g xs) (hg : g < w.heap.size) (hb : Below w.heap.size w w2) : Row w2 g xs := fun j z hz => (hb.cell (p := ⟨g, j, none⟩) hg).trans (h j z hz)
theorem row_of_owns {w : World} {base g cap n : Nat} {xs : List ByteArray} (h : w.ownsRow base 9 1 (.slice (some ⟨g, 0, none⟩) n cap) xs.length (strs xs)) : Row w g xs := fun j z hz => by
  have h := h.cells (g := g) rfl j (.string z) (by simp [strs, hz])
  rcases j with _ | j <;> simpa [Addr.add] using h
theorem cut_row (s : ByteArray) (w : World) (hs : s.size ≤ 1099511627776) : Calls Tryz.prog 67 #[.string s] w fun e w' => ∃ g cap, e = .returned (.slice (some ⟨g, 0, none⟩) (piecesB s).length cap) ∧ Row w' g (piecesB s) ∧ g < w'.heap.size ∧ w.heap.size ≤ g ∧ Below w.heap.size w w' := by
  refine (cut_r s w hs).mono ?_
  rintro e w2 ⟨v, rfl, hown, hb⟩
  rcases hown.2 with ⟨_, h0⟩ | ⟨g, cap, cur, rfl, hg, hgb, _⟩
  · exact absurd (List.eq_nil_of_length_eq_zero h0) (piecesB_ne s)
  · exact ⟨g, cap, rfl, row_of_owns hown, (Array.getElem?_eq_some_iff.1 hgb).1, hg, hb⟩
end Go.Proofs.YthkbhcefckbcnaaGreatDoor

namespace Go.Proofs.YthkbhcefckbcnaaGreatDoor
open Go Go.RowKit

theorem below_draw (w : World) (n : Nat) : Below w.heap.size w (w.drewN n) := ⟨rfl, rfl, rfl, Nat.le_refl _, fun _ _ => rfl⟩
theorem compare_less : ∀ a b : List UInt8, Lib.compareBytes a b = if Op.bytesLess a b then -1 else if a == b then 0 else 1
  | [], [] => rfl
  | [], _ :: _ => rfl
  | _ :: _, [] => rfl
  | x :: a, y :: b => by
    have ih := compare_less a b
    unfold Lib.compareBytes Op.bytesLess
    by_cases h1 : x < y
    · simp [h1]
    · by_cases h2 : y < x
      · have hne : x ≠ y := fun e => h1 (e ▸ h2)
        simp [h1, h2, hne]
      · have e : x = y := by
          have a1 : ¬ x.toNat < y.toNat := h1
          have a2 : ¬ y.toNat < x.toNat := h2
          exact UInt8.toNat_inj.1 (by omega)
        subst e
        simp only [h1, if_false, ih]
        simp
theorem cmpB_less (x y : ByteArray) : cmpB x y = if Op.bytesLess x.toList y.toList then -1 else if x.toList == y.toList then 0 else 1 := by
  unfold cmpB; rw [toList_un, toList_un]; exact compare_less _ _
theorem compareP_step (pre : List ByteArray) (x y : ByteArray) (xs ys : List ByteArray) (h : cmpB x y ≠ 0) : compareP (pre ++ x :: xs) (pre ++ y :: ys) = cmpB x y := by
  rw [compareP_same]; exact if_neg h
theorem row_at {w : World} {g : Nat} {pre xs : List ByteArray} {x : ByteArray} (h : Row w g (pre ++ x :: xs)) : w.cell? ⟨g, pre.length, none⟩ = some (.string x) := h _ _ (by simp)

set_option maxRecDepth 100000 in
set_option maxHeartbeats 4000000 in
theorem compare_r (a b : ByteArray) (w : World) (ha : a.size ≤ 1099511627776) (hb : b.size ≤ 1099511627776) : Calls Tryz.prog 38 #[.string a, .string b] w fun e w' => e = .returned (.int .i64 (compareN a b)) ∧ Below w.heap.size w w' := by
  have hla := piecesB_length a
  have hlb := piecesB_length b
  go_enter Tryz.func38, Tryz.ntmps38
  go_wp2_with fail
  refine (cut_row a _ ha).mono ?_
  rintro e w1 ⟨g1, cap1, rfl, hr1, hg1, _, b1⟩
  go_wp2_with fail
  refine (cut_row b _ hb).mono ?_
  rintro e w2 ⟨g2, cap2, rfl, hr2, hg2, _, b2⟩
  replace hr1 := hr1.below hg1 b2
  have hz2 := b2.size
  have b3 := b1.trans (b2.mono b1.size)
  clear b1 b2
  have HR1 : Hid _ := hr1
  have HR2 : Hid _ := hr2
  clear hr1 hr2
  go_wp2_with fail
  go_loopw [7] (fun i wr => ∃ (pre xs ys : List ByteArray) (q : Nat), piecesB a = pre ++ xs ∧ piecesB b = pre ++ ys ∧ i = .int .i64 pre.length ∧ wr = w2.drewN q) (fun i _ => (piecesB a).length - (intOf i).toNat)
  case atStart => exact ⟨[], _, _, 0, rfl, rfl, rfl, rfl⟩
  case round =>
    obtain ⟨pre, xs, ys, q, hx, hy, rfl, rfl⟩ := hrel
    have hlx : (piecesB a).length = pre.length + xs.length := by rw [hx]; simp
    have hly : (piecesB b).length = pre.length + ys.length := by rw [hy]; simp
    have HX : Hid _ := hx
    have HY : Hid _ := hy
    have HC : Hid (compareN a b = compareP xs ys) := by unfold Hid compareN; rw [hx, hy, compareP_same]
    cases xs with
    | nil =>
      simp only [List.length_nil, Nat.add_zero] at hlx
      cases ys with
      | nil =>
        simp only [List.length_nil, Nat.add_zero] at hly
        have l1 : ¬ (pre.length : Int) < (piecesB a).length := by omega
        have l2 : ¬ ((piecesB a).length : Int) < (piecesB b).length := by omega
        have l3 : ¬ ((piecesB b).length : Int) < (piecesB a).length := by omega
        clear hx hy hlx hly
        go_wp2
        go_ret
        exact ⟨by rw [HC.out]; rfl, b3.trans ((below_draw w2 q).mono b3.size)⟩
      | cons y ys =>
        simp only [List.length_cons] at hly
        have l1 : ¬ (pre.length : Int) < (piecesB a).length := by omega
        have l2 : ((piecesB a).length : Int) < (piecesB b).length := by omega
        clear hx hy hlx hly
        go_wp2
        go_ret
        exact ⟨by rw [HC.out]; rfl, b3.trans ((below_draw w2 q).mono b3.size)⟩
    | cons x xs =>
      simp only [List.length_cons] at hlx
      have l1 : (pre.length : Int) < (piecesB a).length := by omega
      cases ys with
      | nil =>
        simp only [List.length_nil, Nat.add_zero] at hly
        have l2 : ¬ (pre.length : Int) < (piecesB b).length := by omega
        have l3 : ¬ ((piecesB a).length : Int) < (piecesB b).length := by omega
        have l4 : ((piecesB b).length : Int) < (piecesB a).length := by omega
        clear hx hy hlx hly
        go_wp2
        go_ret
        exact ⟨by rw [HC.out]; rfl, b3.trans ((below_draw w2 q).mono b3.size)⟩
      | cons y ys =>
        simp only [List.length_cons] at hly
        have l2 : (pre.length : Int) < (piecesB b).length := by omega
        have hc1 := row_at (hx ▸ HR1.out)
        have hc2 := row_at (hy ▸ HR2.out)
        have HLX : Hid _ := hlx
        have HLY : Hid _ := hly
        clear hx hy hlx hly
        have hcm := cmpB_less x y
        cases e1 : Op.bytesLess x.toList y.toList
        · cases e2 : (x.toList == y.toList)
          · have HZ : Hid (compareN a b = 1) := by unfold Hid; rw [HC.out]; unfold compareP; rw [hcm, e1, e2]; rfl
            clear hcm
            go_wp2
            go_quiet (fail)
            go_wp2
            go_quiet (fail)
            go_wp2
            go_ret
            exact ⟨by rw [HZ.out]; rfl, b3.trans ⟨rfl, rfl, rfl, Nat.le_refl _, fun _ _ => rfl⟩⟩
          · have hxy : x = y := un_inj (by rw [← toList_un, ← toList_un]; exact beq_iff_eq.1 e2)
            have HXY : Hid _ := hxy
            clear hcm hxy
            go_wp2
            go_quiet (fail)
            go_wp2
            go_quiet (fail)
            go_wp2
            go_roundw
            case rel => exact ⟨pre ++ [x], xs, ys, _, by rw [HX.out]; simp, by rw [HY.out, HXY.out]; simp, by simp, rfl⟩
            case measure => have h := HLX.out; simp [intOf]; omega
        · have HZ : Hid (compareN a b = -1) := by unfold Hid; rw [HC.out]; unfold compareP; rw [hcm, e1]; rfl
          clear hcm
          go_wp2
          go_quiet (fail)
          go_wp2
          go_ret
          exact ⟨by rw [HZ.out]; rfl, b3.trans ⟨rfl, rfl, rfl, Nat.le_refl _, fun _ _ => rfl⟩⟩
end Go.Proofs.YthkbhcefckbcnaaGreatDoor

namespace Go.Proofs.YthkbhcefckbcnaaGreatDoor
open Go Go.RowKit

open Classical in
noncomputable def risesB (es : List Ent) : Bool := decide (Rises es)
open Classical in
theorem risesB_true {es : List Ent} (h : Rises es) : risesB es = true := decide_eq_true h
open Classical in
theorem risesB_false {es : List Ent} (h : ¬ Rises es) : risesB es = false := decide_eq_false h
open Classical in
theorem risesB_iff {es : List Ent} : risesB es = true ↔ Rises es := ⟨of_decide_eq_true, decide_eq_true⟩
def thereB (l : List Ent) (par : ByteArray) : Bool := par.toList.isEmpty || l.any fun f => (f.path.toList == par.toList) && (f.kind == 1)
theorem there_iff (l : List Ent) (e : Ent) : thereB l (parentB e.path) = true ↔ parOK l e := by
  unfold thereB parOK
  rw [Bool.or_eq_true, isEmpty_iff, List.any_eq_true]
  constructor
  · rintro (h | ⟨f, hf, h⟩)
    · exact .inl h
    · rw [Bool.and_eq_true, beq_iff_eq, beq_iff_eq, toList_un, toList_un] at h
      exact .inr ⟨f, hf, un_inj h.1, h.2⟩
  · rintro (h | ⟨f, hf, h1, h2⟩)
    · exact .inl h
    · refine .inr ⟨f, hf, ?_⟩
      rw [h1, h2]; simp
theorem there_mono {l l2 : List Ent} {par : ByteArray} (hs : ∀ f ∈ l, f ∈ l2) (h : thereB l par = true) : thereB l2 par = true := by
  unfold thereB at h ⊢
  rw [Bool.or_eq_true] at h ⊢
  rcases h with h | h
  · exact .inl h
  · right
    rw [List.any_eq_true] at h ⊢
    obtain ⟨f, hf, h2⟩ := h
    exact ⟨f, hs f hf, h2⟩
theorem there_next (es : List Ent) (m : Nat) (x : Ent) (par : ByteArray) (hx : es[m]? = some x) (h0 : thereB (es.take m) par = false) : thereB (es.take (m + 1)) par = ((x.path.toList == par.toList) && (x.kind == 1)) := by
  unfold thereB at h0 ⊢
  rw [Bool.or_eq_false_iff] at h0
  rw [List.take_add_one, hx, List.any_append, h0.1, h0.2]
  simp
theorem not_rises {es : List Ent} {k : Nat} {x : Ent} (hx : es[k]? = some x) (h : ¬ (ahead1 (es.take k) x ∧ parOK (es.take k) x)) : ¬ Rises es := fun hr => by
  have e : es = (es.take k ++ [x]) ++ es.drop (k + 1) := by
    have h1 : es.take (k + 1) = es.take k ++ [x] := by rw [List.take_add_one, hx]; rfl
    rw [← h1, List.take_append_drop]
  rw [e] at hr
  have := rises_last (rises_pre hr)
  exact h this
theorem last_take {es : List Ent} {j : Nat} {d : Ent} (hd : es[j]? = some d) : (es.take (j + 1)).getLast? = some d := by
  rw [List.take_add_one, hd]; simp
theorem wrap_pred (j : Nat) (h : j ≤ 1099511627777) : IntKind.i64.wrap ((j : Int) + 1 - 1) = (j : Int) := by
  simp only [IntKind.wrap, IntKind.bits, IntKind.signed]
  simp
  omega

def CutR (w : World) (es : List Ent) (k : Nat) (x : Ent) (s : Value) (wx : World) : Prop := ∃ c : Bool, s = .bool c ∧ (c = false → ahead1 (es.take k) x) ∧ (c = true → risesB es = false) ∧ Below w.heap.size w wx
set_option maxRecDepth 100000 in
set_option maxHeartbeats 4000000 in
theorem rises_p (v : Value) (es : List Ent) (w : World) (hv : EntsAt w v es) (hl : es.length ≤ 1073741824) (hz : ∀ e ∈ es, e.path.size ≤ 1048576) : Calls Tryz.prog 17 #[v] w fun e w' => e = .returned (.bool (risesB es)) ∧ Below w.heap.size w w' := by
  obtain ⟨a, cap, b, o, rfl, ha, hcap, hc⟩ := hv
  go_enter Tryz.func17, Tryz.ntmps17
  go_wp2
  go_loopw [3, 4, 5, 6] (fun i _ _ _ wr => ∃ k : Nat, i = .int .i64 k ∧ k ≤ es.length ∧ Rises (es.take k) ∧ Below w.heap.size w wr) (fun i _ _ _ _ => es.length - (intOf i).toNat)
  case atStart => exact ⟨0, rfl, Nat.zero_le _, rises_nil, Below.refl _ _⟩
  case round =>
    obtain ⟨k, rfl, hk, hR, hB⟩ := hrel
    by_cases hlt : k < es.length
    · have hlt' : (k : Int) < (es.length : Int) := by omega
      have hk0 : (0 : Int) ≤ (k : Int) := by omega
      obtain ⟨x, hx⟩ : ∃ x, es[k]? = some x := ⟨_, List.getElem?_eq_getElem hlt⟩
      obtain rfl := ha (fun e => by rw [e] at hlt; simp at hlt)
      have hxz := hz x (List.mem_of_getElem? hx)
      have HC : Hid (∀ W i e, es[i]? = some e → Below w.heap.size w W → EntC W b (o + i * 5) e) := fun W i e he bb => (hc i e he).below bb
      have HR : Hid _ := hR
      have HX : Hid _ := hx
      have hP := fun W => parent_r x.path W (by omega)
      have HTI : Hid (thereB (es.take k) (parentB x.path) = true ↔ parOK (es.take k) x) := there_iff _ x
      have GO : Hid (ahead1 (es.take k) x → thereB (es.take k) (parentB x.path) = true → Rises (es.take (k + 1))) := fun h1 h2 => by
        rw [List.take_add_one, hx]; exact rises_snoc hR h1 (HTI.out.1 h2)
      have NO : Hid (thereB (es.take k) (parentB x.path) = false → risesB es = false) := fun h2 => risesB_false (not_rises hx (fun h => by rw [HTI.out.2 h.2] at h2; cases h2))
      have NA : Hid (¬ ahead1 (es.take k) x → risesB es = false) := fun h2 => risesB_false (not_rises hx (fun h => h2 h.1))
      clear hc ha hR hx
      go_upto_if 29 with fail
      go_cut [29] from 7 to 63 (fun s wx => CutR w es k x s wx)
      case first =>
        by_cases hz0 : k = 0
        · have h0 : decide (0 < k) = false := by simp; omega
          have HA : Hid (ahead1 (es.take k) x) := fun d hd => by rw [hz0] at hd; simp at hd
          clear hz0
          go_quiet (fail)
          go_wp2
          go_meet
          exact ⟨false, rfl, fun _ => HA.out, (fun h => by cases h), hB.trans ⟨rfl, rfl, rfl, Nat.le_refl _, fun _ _ => rfl⟩⟩
        · obtain ⟨j, hj⟩ : ∃ j, k = j + 1 := ⟨k - 1, by omega⟩
          have h0 : 0 < k := by omega
          have h0i : (0 : Int) < (k : Int) := by omega
          have hw1 : IntKind.i64.wrap ((k : Int) - 1) = (j : Int) := by
            have := wrap_pred j (by omega)
            rw [hj]; simpa using this
          have hj0 : (0 : Int) ≤ (j : Int) := by omega
          have hj1 : (j : Int) < (es.length : Int) := by omega
          obtain ⟨d, hd⟩ : ∃ d, es[j]? = some d := ⟨_, List.getElem?_eq_getElem (by omega)⟩
          have hdz := hz d (List.mem_of_getElem? hd)
          have HLst : Hid ((es.take k).getLast? = some d) := by unfold Hid; rw [hj]; exact last_take hd
          have hC := fun W => compare_r d.path x.path W (by omega) (by omega)
          have HSg : Hid (compareN d.path x.path < 0 → ahead1 (es.take k) x) := fun h q hq => by rw [HLst.out] at hq; cases hq; exact h
          have HNg : Hid (¬ compareN d.path x.path < 0 → risesB es = false) := fun h => NA.out (fun q => h (q d HLst.out))
          have HS0 : Hid (wr.drew.cell? ⟨b, o + k * 5, none⟩ = some (.string x.path) ∧ wr.drew.cell? ⟨b, o + j * 5, none⟩ = some (.string d.path) ∧ Below w.heap.size w wr.drew) := ⟨(HC.out wr k x HX.out hB).c0, (HC.out wr j d hd hB).c0, hB.trans ⟨rfl, rfl, rfl, Nat.le_refl _, fun _ _ => rfl⟩⟩
          have HK : Hid (∀ W1 W2, Below W1.heap.size W1 W2 → W1.cell? ⟨b, o + k * 5, none⟩ = some (.string x.path) → W1.cell? ⟨b, o + j * 5, none⟩ = some (.string d.path) → Below w.heap.size w W1 → (W2.cell? ⟨b, o + k * 5, none⟩ = some (.string x.path) ∧ W2.cell? ⟨b, o + j * 5, none⟩ = some (.string d.path) ∧ Below w.heap.size w W2)) := fun W1 W2 bb e1 e2 e3 => ⟨(bb.cell (p := ⟨b, o + k * 5, none⟩) (World.block_lt_of_cell? W1 _ e1)).trans e1, (bb.cell (p := ⟨b, o + j * 5, none⟩) (World.block_lt_of_cell? W1 _ e2)).trans e2, e3.trans (bb.mono e3.size)⟩
          clear hj hd hz0
          generalize compareN d.path x.path = C at *
          by_cases hs : C < 0
          · have hsb : decide ((0 : Int) ≤ C) = false := by simp; omega
            have HA : Hid _ := HSg.out hs
            clear HSg HNg hs
            go_region_held3 (fun w' => w'.cell? ⟨b, o + k * 5, none⟩ = some (.string x.path) ∧ w'.cell? ⟨b, o + j * 5, none⟩ = some (.string d.path) ∧ Below w.heap.size w w') (first | exact HS0.out | (go_split_ands; exact HK.out _ _ b1 (by assumption) (by assumption) (by assumption))) (first | (go_at_call 38; with_reducible refine (hC _).mono ?_; rintro e w1 ⟨rfl, b1⟩))
            have hB1 : Below w.heap.size w w1 := by first | assumption | (go_split_ands; assumption)
            go_wp2
            go_meet
            exact ⟨false, rfl, fun _ => HA.out, (fun h => by cases h), hB1⟩
          · have hsb : decide ((0 : Int) ≤ C) = true := by simp; omega
            have HE : Hid (risesB es = false) := HNg.out hs
            clear HSg HNg hs
            go_region_held3 (fun w' => w'.cell? ⟨b, o + k * 5, none⟩ = some (.string x.path) ∧ w'.cell? ⟨b, o + j * 5, none⟩ = some (.string d.path) ∧ Below w.heap.size w w') (first | exact HS0.out | (go_split_ands; exact HK.out _ _ b1 (by assumption) (by assumption) (by assumption))) (first | (go_at_call 38; with_reducible refine (hC _).mono ?_; rintro e w1 ⟨rfl, b1⟩))
            have hB1 : Below w.heap.size w w1 := by first | assumption | (go_split_ands; assumption)
            go_wp2
            go_meet
            exact ⟨true, rfl, (fun h => by cases h), fun _ => HE.out, hB1⟩
      case rest =>
        obtain ⟨c, rfl, hA0, hE0, hBc⟩ := hcut
        cases c with
        | true =>
          have HE : Hid (risesB es = false) := hE0 rfl
          clear hA0 hE0
          go_wp2
          go_ret
          exact ⟨by rw [HE.out]; rfl, hBc⟩
        | false =>
        have hA := hA0 rfl
        clear hA0 hE0
        obtain ⟨c0, _, _, _, _⟩ := HC.out wc k x HX.out hBc
        have HA : Hid _ := hA
        clear hA
        generalize parentB x.path = par at *
        go_wp2_with (go_at_call 39; refine (hP _).mono ?_; rintro e w1 ⟨rfl, hw⟩; subst hw)
        go_loopw [5, 6] (fun th kk wr2 => ∃ m : Nat, kk = .int .i64 m ∧ m ≤ k ∧ th = .bool (thereB (es.take m) par) ∧ wr2 = w1) (fun _ kk _ => k - (intOf kk).toNat)
        case atStart => exact ⟨0, rfl, Nat.zero_le _, by simp [thereB], rfl⟩
        case round =>
          obtain ⟨m, rfl, hm, rfl, rfl⟩ := hrel
          have hm0 : (0 : Int) ≤ (m : Int) := by omega
          have hmn : (m : Int) ≤ (es.length : Int) := by omega
          cases hth : thereB (es.take m) par with
          | true =>
            have HT : Hid (Rises (es.take (k + 1))) := GO.out HA.out (there_mono (fun f hf => (List.take_sublist_take_left hm).subset hf) hth)
            by_cases hmk : m < k
            · have hmk' : (m : Int) < (k : Int) := by omega
              go_wp2
              go_roundw
              case rel => exact ⟨k + 1, by go_num, by omega, HT.out, hBc⟩
              case measure => simp [intOf]; omega
            · have hmk' : ¬ (m : Int) < (k : Int) := by omega
              go_wp2
              go_roundw
              case rel => exact ⟨k + 1, by go_num, by omega, HT.out, hBc⟩
              case measure => simp [intOf]; omega
          | false =>
            by_cases hmk : m < k
            · have hmk' : (m : Int) < (k : Int) := by omega
              have hml : (m : Int) < (es.length : Int) := by omega
              obtain ⟨y, hy⟩ : ∃ y, es[m]? = some y := ⟨_, List.getElem?_eq_getElem (by omega)⟩
              obtain ⟨d0, d1, _, _, _⟩ := HC.out _ m y hy hBc
              have HN : Hid _ := there_next es m y par hy hth
              clear hy
              cases e1 : (y.path.toList == par.toList) with
              | false =>
                go_wp2
                go_roundw
                case rel => exact ⟨m + 1, by go_num, by omega, by first | (rw [HN.out, e1]; rfl) | simp [HN.out, e1], by first | rfl | trivial⟩
                case measure => simp [intOf]; omega
              | true =>
                go_wp2
                go_roundw
                case rel => exact ⟨m + 1, by go_num, by omega, by first | (rw [HN.out, e1]; rfl) | simp [HN.out, e1], by first | rfl | trivial⟩
                case measure => simp [intOf]; omega
            · have hmk' : ¬ (m : Int) < (k : Int) := by omega
              have HE : Hid (risesB es = false) := NO.out (by rw [show k = m by omega]; exact hth)
              go_wp2
              go_ret
              exact ⟨by rw [HE.out]; rfl, hBc⟩
    · have hge : ¬ (k : Int) < (es.length : Int) := by omega
      have HE : Hid (risesB es = true) := risesB_true (by rw [List.take_of_length_le (by omega)] at hR; exact hR)
      clear hR
      go_wp2
      go_ret
      exact ⟨by rw [HE.out]; rfl, hB⟩
end Go.Proofs.YthkbhcefckbcnaaGreatDoor

namespace Go.Proofs.YthkbhcefckbcnaaGreatDoor
open Go Go.RowKit Go.Shelf

theorem fine_patT {s : ByteArray} {ps : List Pc} (h : patOf s = some ps) : Short (ps ++ [none]) ∧ (ps ++ [none]).length ≤ 1099511627776 := by
  obtain ⟨h1, h2⟩ := pat_facts h
  refine ⟨fun qs hq => ?_, by simp; omega⟩
  rcases List.mem_append.1 hq with a | a
  · have := h2 qs a; omega
  · simp at a
theorem fine_lineT {line : ByteArray} {r : Rule} (h : lineRule line = some (some r)) : Short r.2 ∧ r.2.length ≤ 1099511627776 := by
  unfold lineRule at h
  split at h
  · cases h
  · split at h
    · rw [Option.map_eq_some_iff] at h
      obtain ⟨ps, hp, e⟩ := h
      cases e
      exact fine_patT hp
    · rw [Option.map_eq_some_iff] at h
      obtain ⟨ps, hp, e⟩ := h
      cases e
      exact fine_patT hp
theorem fine_addT {rs rs2 : List Rule} {line : ByteArray} (hf : Fine rs) (h : addLine rs line = .ok rs2) : Fine rs2 := by
  refine ⟨addLine_le h hf.1, ?_⟩
  unfold addLine at h
  split at h
  · cases h; exact hf.2
  · split at h <;> cases h
  · rename_i r hr
    split at h
    · cases h
    · cases h
      intro q hq
      rcases List.mem_append.1 hq with a | a
      · exact hf.2 q a
      · simp at a; subst a; exact fine_lineT hr
theorem fine_linesT : ∀ {ls : List (List UInt8)} {rs rs2 : List Rule} {k : Nat}, Fine rs → addLinesE rs ls k = .ok rs2 → Fine rs2
  | [], _, _, _, hf, h => by cases h; exact hf
  | x :: ls, rs, rs2, k, hf, h => by
    rw [addLinesE_cons] at h
    cases ha : addLine rs (bs x) with
    | error n => rw [ha] at h; cases h
    | ok r3 => rw [ha] at h; exact fine_linesT (fine_addT hf ha) h
theorem fine_parseT {s : ByteArray} {rs : List Rule} (h : parseE s = .ok rs) : Fine rs := fine_linesT (rs := []) ⟨by simp, fun r hr => by cases hr⟩ h
/-- What isn't out. -/
def okB (rs : List Rule) (p : ByteArray) : Bool := !outB rs (namesB p)
theorem out_okT (l : Nat) (rs : List Rule) (hf : Fine rs) : OutOK (fun W => ListIn W l rs) (.pointer (some ⟨l, 0, none⟩)) (okB rs) := fun W hW p hp => by
  have := out_p l rs p W hW hf (by omega)
  unfold okB; rw [Bool.not_not]; exact this
theorem kept_okT (l : Nat) (rs : List Rule) : KeptBy (fun W => ListIn W l rs) := fun _ _ h b => h.below b
theorem joinT {w w1 w2 : World} (h : Below w.heap.size w w1) (k : Below w1.heap.size w1 w2) : Below w.heap.size w w2 := h.trans (k.mono h.size)
end Go.Proofs.YthkbhcefckbcnaaGreatDoor

namespace Go.Proofs.YthkbhcefckbcnaaGreatDoor
open Go Go.RowKit

def Cut200 (w1 : World) (s : Value) (wx : World) : Prop := ∃ es2 : List Ent, EntsAt w1 s es2 ∧ es2.length ≤ 200 ∧ (∀ e ∈ es2, e.path.size ≤ 1048576) ∧ w1 = wx
theorem keep_len (ok : ByteArray → Bool) (es : List Ent) : (keepB ok es).length ≤ es.length := List.length_filter_le _ _
theorem keep_mem {ok : ByteArray → Bool} {es : List Ent} {e : Ent} (h : e ∈ keepB ok es) : e ∈ es := (List.mem_filter.1 h).1
set_option maxRecDepth 100000 in
set_option maxHeartbeats 4000000 in
theorem globtrees_law (text : ByteArray) (es : List Ent) (v : Value) (w : World) (hg : ErrType w) (ht : text.size ≤ 1048576) (hv : EntsAt w v es) (hl : es.length ≤ 1048576) (hz : ∀ e ∈ es, e.path.size ≤ 1048576) : Calls Tryz.prog 4 #[.string text, v] w fun e w' => e = .returned (.bool true) ∧ Below w.heap.size w w' := by
  have hL := parse_l text w hg (by omega)
  unfold ParsePost at hL
  cases hd : parseE text with
  | error x =>
    obtain ⟨n, q⟩ := x
    rw [hd] at hL
    obtain ⟨a, cap, b, o, rfl, ha, hcap, hc⟩ := hv
    clear hd
    go_enter Tryz.func4, Tryz.ntmps4
    go_wp2_with (first
      | (go_at_call 7; refine hL.mono ?_; rintro e w1 ⟨rfl, b1⟩)
      | (go_at_call 9; refine (works2_p w1 (hg.below b1)).mono ?_; rintro e w2 ⟨rfl, b2⟩))
    go_ret
    exact ⟨rfl, joinT b1 b2⟩
  | ok rs =>
    rw [hd] at hL
    have HO : Hid (OutOK (fun W => ListIn W w.heap.size rs) (.pointer (some ⟨w.heap.size, 0, none⟩)) (okB rs)) := out_okT _ rs (fine_parseT hd)
    have HG := kept_okT w.heap.size rs
    generalize okB rs = ok at *
    obtain ⟨a, cap, b, o, rfl, ha, hcap, hc⟩ := hv
    have HV : Hid (EntsAt w (.slice a es.length cap) es) := ⟨a, cap, b, o, rfl, ha, hcap, hc⟩
    have HTK : Hid (∀ W, Below w.heap.size w W → 200 ≤ es.length → EntsAt W (.slice a 200 cap) (es.take 200)) := fun W bb h => ents_take ha hcap (fun i e he => (hc i e he).below bb) 200 h
    clear hd ha hc
    go_enter Tryz.func4, Tryz.ntmps4
    go_upto_if 26 with (go_at_call 7; refine hL.mono ?_; rintro e w1 ⟨⟨rfl, h1⟩, b1⟩)
    have H1 : Hid (ListIn w1 w.heap.size rs) := h1
    clear h1 hL
    go_cut [1] from 12 to 103 (fun s wx => Cut200 w1 s wx)
    case first =>
      by_cases h200 : 200 < es.length
      · have h200' : (200 : Int) < (es.length : Int) := by omega
        have hc200 : (200 : Int) ≤ (cap : Int) := by omega
        go_wp2
        go_meet
        exact ⟨es.take 200, HTK.out w1 b1 (by omega), by rw [List.length_take]; omega, fun e he => hz e (List.mem_of_mem_take he), rfl⟩
      · have h200' : ¬ (200 : Int) < (es.length : Int) := by omega
        go_wp2
        go_meet
        exact ⟨es, HV.out.below b1, by omega, hz, rfl⟩
    case rest =>
      obtain ⟨es2, hv2, hl2, hz2, rfl⟩ := hcut
      clear HTK HV hl hz hcap
      obtain ⟨a2, cap2, bb2, o2, rfl, ha2, hcap2, hc2⟩ := hv2
      have HV2 : Hid (EntsAt w1 (.slice a2 es2.length cap2) es2) := ⟨a2, cap2, bb2, o2, rfl, ha2, hcap2, hc2⟩
      have hR := rises_p _ es2 w1 HV2.out (by omega) hz2
      cases hri : risesB es2 with
      | false =>
        rw [hri] at hR
        go_wp2_with (first
          | (go_at_call 17; refine hR.mono ?_; rintro e w2 ⟨rfl, b2⟩)
          | (go_at_call 9; refine (works2_p w2 (hg.below (joinT b1 b2))).mono ?_; rintro e w3 ⟨rfl, b3⟩))
        go_ret
        exact ⟨rfl, joinT (joinT b1 b2) b3⟩
      | true =>
        rw [hri] at hR
        have HRI : Hid (Rises es2) := risesB_iff.1 hri
        clear hri
        go_upto_region 10 with (go_at_call 17; refine hR.mono ?_; rintro e w2 ⟨rfl, b2⟩)
        clear hR
        have hC := copy_p _ es2 w2 (HV2.out.below b2) (by omega)
        go_upto_region 11 with (first
          | (go_at_call 15; refine hC.mono ?_; rintro e w3 ⟨u1, rfl, o1, b3⟩; have hKp := keep_p HG _ ok HO u1 es2 w3 ((H1.out.below b2).below b3) (ents_of_owns o1) (by omega) hz2)
          | (go_at_call 12; refine hKp.mono ?_; rintro e w4 ⟨u2, rfl, o2', b4⟩))
        clear hC hKp o1
        have hkl := keep_len ok es2
        have hkz : ∀ e ∈ keepB ok es2, e.path.size ≤ 1048576 := fun e he => hz2 e (keep_mem he)
        have HKR : Hid (Rises (keepB ok es2)) := keep_rises ok es2 HRI.out
        have hC2 := copy_p _ (keepB ok es2) w4 (ents_of_owns o2') (by omega)
        have HST : Hid (keepB ok es2 = es2.filter (stayB ok es2)) := rfl
        have HKA : Hid (keepB ok (keepB ok es2) = keepB ok es2) := keep_again ok es2
        obtain ⟨a3, cap3, bb3, o3, rfl, ha3, hcap3, hc3⟩ := ents_of_owns o2'
        have HV4 : Hid (EntsAt w4 (.slice a3 (keepB ok es2).length cap3) (keepB ok es2)) := ents_of_owns o2'
        have L4 := (((H1.out.below b2).below b3).below b4)
        go_upto_region 12 with (first
          | (go_at_call 15; refine hC2.mono ?_; rintro e w5 ⟨u3, rfl, o5, b5⟩; have hKp := keep_p HG _ ok HO u3 (keepB ok es2) w5 (L4.below b5) (ents_of_owns o5) (by omega) hkz)
          | (go_at_call 12; refine hKp.mono ?_; rintro e w6 ⟨u4, rfl, o6, b6⟩))
        rw [HKA.out] at o6
        clear hC2 hKp o5 HKA
        have hR6 := rises_p _ (keepB ok es2) w6 ((HV4.out.below b5).below b6) (by omega) hkz
        rw [risesB_true HKR.out] at hR6
        go_upto_region 14 with (first
          | (go_at_call 17; refine hR6.mono ?_; rintro e w7 ⟨rfl, b7⟩; have hS := same_p u4 _ (keepB ok es2) w7 ((ents_of_owns o6).below b7) (((HV4.out.below b5).below b6).below b7) (by omega))
          | (go_at_call 13; refine hS.mono ?_; rintro e w8 ⟨rfl, b8⟩))
        have B8 : Below w.heap.size w w8 := joinT (joinT (joinT (joinT (joinT (joinT (joinT b1 b2) b3) b4) b5) b6) b7) b8
        have L8 := (((L4.below b5).below b6).below b7).below b8
        have HE8 : Hid (EntsAt w8 (.slice a2 es2.length cap2) es2) := ((((((HV2.out.below b2).below b3).below b4).below b5).below b6).below b7).below b8
        have HC2 : Hid (∀ W i e, es2[i]? = some e → Below w8.heap.size w8 W → EntC W bb2 (o2 + i * 5) e) := fun W i e he bb => ((((((((hc2 i e he).below b2).below b3).below b4).below b5).below b6).below b7).below b8).below bb
        have HC3 : Hid (∀ W i e, (keepB ok es2)[i]? = some e → Below w8.heap.size w8 W → EntC W bb3 (o3 + i * 5) e) := fun W i e he bb => (((((hc3 i e he).below b5).below b6).below b7).below b8).below bb
        have HL8 : Hid (ListIn w8 w.heap.size rs) := L8
        clear L4 L8 hc2 hc3 b1 b2 b3 b4 b5 b6 b7 b8 hR6 hS o6 o2' HV4 HV2 HKR HRI H1
        go_wp2
        go_loopw [9, 10, 11] (fun at_ i _ wr => ∃ k : Nat, i = .int .i64 k ∧ k ≤ es2.length ∧ at_ = .int .i64 (((es2.take k).filter (stayB ok es2)).length : Nat) ∧ Below w8.heap.size w8 wr) (fun _ i _ _ => es2.length - (intOf i).toNat)
        case atStart => exact ⟨0, rfl, Nat.zero_le _, rfl, Below.refl _ _⟩
        case round =>
          obtain ⟨k, rfl, hk, rfl, hB⟩ := hrel
          by_cases hlt : k < es2.length
          · have hlt' : (k : Int) < (es2.length : Int) := by omega
            have hk0 : (0 : Int) ≤ (k : Int) := by omega
            obtain ⟨x, hx⟩ : ∃ x, es2[k]? = some x := ⟨_, List.getElem?_eq_getElem hlt⟩
            obtain rfl := ha2 (fun e => by rw [e] at hlt; simp at hlt)
            have hxz := hz2 x (List.mem_of_getElem? hx)
            have hO := HO.out wr (HL8.out.below hB) x.path hxz
            have HBP : Hid (∀ W, Below w8.heap.size w8 W → Calls Tryz.prog 19 #[.pointer (some ⟨w.heap.size, 0, none⟩), .slice (some ⟨bb2, o2, none⟩) es2.length cap2, .string x.path] W fun e w' => e = .returned (.bool (anyB ok es2 x.path)) ∧ Below W.heap.size W w') := fun W bb => bel_p HG _ ok HO _ es2 x.path W (HL8.out.below bb) (HE8.out.below bb) (by omega) hz2 hxz
            have HCX : Hid (∀ W, Below w8.heap.size w8 W → EntC W bb2 (o2 + k * 5) x) := fun W bb => HC2.out W k x hx bb
            have c0 := (HCX.out wr hB).c0
            have HSB : Hid (stayB ok es2 x = (ok x.path || anyB ok es2 x.path)) := rfl
            have HFS : Hid _ := filter_take_succ (stayB ok es2) es2 k x hx
            have HFA : Hid (stayB ok es2 x = true → (keepB ok es2)[((es2.take k).filter (stayB ok es2)).length]? = some x) := fun h => filter_at _ es2 k x hx h
            have hml : ((es2.take k).filter (stayB ok es2)).length ≤ es2.length := by
              have h1 := List.length_filter_le (stayB ok es2) (es2.take k)
              rw [List.length_take] at h1; omega
            clear hx ha2
            generalize ((es2.take k).filter (stayB ok es2)).length = m at *
            have hm0 : (0 : Int) ≤ (m : Int) := by omega
            go_upto_region 18 with fail
            go_cut [11] from 52 to 96 (fun s wx => s = .bool (stayB ok es2 x) ∧ Below w8.heap.size w8 wx)
            case first =>
              cases hok : ok x.path with
              | true =>
                rw [hok] at hO
                go_wp2_with (go_at_call 18; refine hO.mono ?_; rintro e x1 ⟨rfl, y1⟩)
                go_meet
                exact ⟨by rw [HSB.out, hok]; rfl, joinT hB y1⟩
              | false =>
                rw [hok] at hO
                go_wp2_with (first
                  | (go_at_call 18; refine hO.mono ?_; rintro e x1 ⟨rfl, y1⟩; have c1 := (HCX.out x1 (joinT hB y1)).c0; have hBP := HBP.out x1 (joinT hB y1))
                  | (go_at_call 19; refine hBP.mono ?_; rintro e x2 ⟨rfl, y2⟩))
                go_meet
                exact ⟨by rw [HSB.out, hok]; rfl, joinT (joinT hB y1) y2⟩
            case rest =>
              obtain ⟨rfl, hBc⟩ := hcut
              obtain ⟨d0, d1, d2, d3, d4⟩ := HCX.out wc hBc
              clear HSB hO HBP c0
              cases hst : stayB ok es2 x with
              | false =>
                rw [hst, if_neg (by decide)] at HFS
                go_wp2
                go_quiet (fail)
                go_wp2
                go_roundw
                case rel => exact ⟨k + 1, by go_num, by omega, by rw [HFS.out]; rfl, hBc.trans ⟨rfl, rfl, rfl, Nat.le_refl _, fun _ _ => rfl⟩⟩
                case measure => simp [intOf]; omega
              | true =>
                rw [hst, if_pos rfl] at HFS
                have hat := HFA.out hst
                have hmlt : m < (keepB ok es2).length := (List.getElem?_eq_some_iff.1 hat).1
                have hmlt' : (m : Int) < ((keepB ok es2).length : Int) := by omega
                have hmd : decide (((keepB ok es2).length : Int) ≤ (m : Int)) = false := by simp; omega
                obtain rfl := ha3 (fun e => by rw [e] at hmlt; simp at hmlt)
                obtain ⟨f0, f1, f2, f3, f4⟩ := HC3.out wc m x hat hBc
                have heq := fun W => eq_self x W
                clear hat HFA
                go_wp2
                go_quiet (fail)
                go_wp2
                go_roundw
                case rel => exact ⟨k + 1, by go_num, by omega, by rw [HFS.out]; go_num, hBc.trans ⟨rfl, rfl, rfl, Nat.le_refl _, fun _ _ => rfl⟩⟩
                case measure => simp [intOf]; omega
          · have hge : ¬ (k : Int) < (es2.length : Int) := by omega
            have HTA : Hid (((es2.take k).filter (stayB ok es2)).length = (keepB ok es2).length) := by unfold Hid; rw [List.take_of_length_le (by omega), HST.out]
            have hW := works2_p wr (hg.below (joinT B8 hB))
            rw [HTA.out]
            go_wp2_with (go_at_call 9; refine hW.mono ?_; rintro e w9 ⟨rfl, b9⟩)
            go_ret
            exact ⟨rfl, joinT (joinT B8 hB) b9⟩
end Go.Proofs.YthkbhcefckbcnaaGreatDoor

namespace Go.Proofs.YthkbhcefckbcnaaGreatDoor
open Go.ChangeShapes Go.WideShapes Go.RowKit

theorem ent_size : Tryz.prog.cellsOf 38 = 5 := by kernel_rfl
theorem bulk_mem {H : Type} : ∀ {ds : List (DataW H)} {d : DataW H}, d ∈ ds → Rows.uptoBulk d ≤ Rows.uptoBulkAll ds
  | [], _, h => by cases h
  | y :: ds, d, h => by
    rw [Rows.uptoBulkAll]
    rcases List.mem_cons.1 h with rfl | h
    · omega
    · have := bulk_mem h; omega
theorem bulk_len {H : Type} : ∀ {ds : List (DataW H)}, (∀ d ∈ ds, 1 ≤ Rows.uptoBulk d) → ds.length ≤ Rows.uptoBulkAll ds
  | [], _ => by simp
  | y :: ds, h => by
    rw [Rows.uptoBulkAll, List.length_cons]
    have h1 := h y (by simp)
    have h2 := bulk_len (ds := ds) (fun d hd => h d (by simp [hd]))
    omega
set_option maxRecDepth 100000 in
/-- One entry's cells and datum. -/
theorem open_one {H : Type} {enc : TypeId × Value → H} {W : World} {n : Nat} {cs : List Value} {x : DataW H × List MemPlace} (hlen : cs.length = 5) (hf : DataW.trod enc Tryz.prog W 0 (fun _ => true) true n 38 cs = some x) :
    ∃ e : Ent, cs = ecs e ∧ x.1 = .agg [.lit (.string e.path.data.toList), .lit (.int .i64 e.kind), .lit (.int .i64 e.mode), .lit (.string e.data.data.toList), .lit (.string e.link.data.toList)] := by
  obtain ⟨xs, n, _, hx, hl, hlen2, hff⟩ := DataW.trod_struct Tryz.underlying38 hf
  obtain ⟨v0, v1, v2, v3, v4, hvs⟩ : ∃ v0 v1 v2 v3 v4, cs = [v0, v1, v2, v3, v4] := by
    match cs, hlen with
    | [v0, v1, v2, v3, v4], _ => exact ⟨v0, v1, v2, v3, v4, rfl⟩
  obtain ⟨y0, y1, y2, y3, y4, hys⟩ : ∃ y0 y1 y2 y3 y4, xs = [y0, y1, y2, y3, y4] := by
    match xs, hlen2 with
    | [y0, y1, y2, y3, y4], _ => exact ⟨y0, y1, y2, y3, y4, rfl⟩
  subst hys
  subst hvs
  have m0 : Tryz.prog.cellsOf 36 = 1 := by kernel_rfl
  have m1 : Tryz.prog.cellsOf 3 = 1 := by kernel_rfl
  have m2 : Tryz.prog.cellsOf 9 = 1 := by kernel_rfl
  have g0 : DataW.trod enc Tryz.prog W 0 (fun _ => true) true n 9 [v0] = some y0 := by
    have e : DataW.trod enc Tryz.prog W 0 (fun _ => true) true n 9 ((([v0, v1, v2, v3, v4] : List Value).drop 0).take (Tryz.prog.cellsOf 9)) = some y0 := hff 0 _ rfl
    rw [m2] at e
    exact e
  have g1 : DataW.trod enc Tryz.prog W 0 (fun _ => true) true n 36 [v1] = some y1 := by
    have e : DataW.trod enc Tryz.prog W 0 (fun _ => true) true n 36 ((([v0, v1, v2, v3, v4] : List Value).drop 1).take (Tryz.prog.cellsOf 36)) = some y1 := hff 1 _ rfl
    rw [m0] at e
    exact e
  have g2 : DataW.trod enc Tryz.prog W 0 (fun _ => true) true n 3 [v2] = some y2 := by
    have e : DataW.trod enc Tryz.prog W 0 (fun _ => true) true n 3 ((([v0, v1, v2, v3, v4] : List Value).drop 2).take (Tryz.prog.cellsOf 3)) = some y2 := hff 2 _ rfl
    rw [m1] at e
    exact e
  have g3 : DataW.trod enc Tryz.prog W 0 (fun _ => true) true n 9 [v3] = some y3 := by
    have e : DataW.trod enc Tryz.prog W 0 (fun _ => true) true n 9 ((([v0, v1, v2, v3, v4] : List Value).drop 3).take (Tryz.prog.cellsOf 9)) = some y3 := hff 3 _ rfl
    rw [m2] at e
    exact e
  have g4 : DataW.trod enc Tryz.prog W 0 (fun _ => true) true n 9 [v4] = some y4 := by
    have e : DataW.trod enc Tryz.prog W 0 (fun _ => true) true n 9 ((([v0, v1, v2, v3, v4] : List Value).drop 4).take (Tryz.prog.cellsOf 9)) = some y4 := hff 4 _ rfl
    rw [m2] at e
    exact e
  clear hff
  obtain ⟨s0, a0, b0, _⟩ := DataW.trod_string Tryz.underlying9 g0
  obtain rfl := (List.cons.inj a0).1
  subst b0
  obtain ⟨i1, a1, b1, w1⟩ := DataW.trod_int Tryz.underlying36 g1
  obtain rfl := (List.cons.inj a1).1
  subst b1
  obtain ⟨i2, a2, b2, w2⟩ := DataW.trod_int Tryz.underlying3 g2
  obtain rfl := (List.cons.inj a2).1
  subst b2
  obtain ⟨s3, a3, b3, _⟩ := DataW.trod_string Tryz.underlying9 g3
  obtain rfl := (List.cons.inj a3).1
  subst b3
  obtain ⟨s4, a4, b4, _⟩ := DataW.trod_string Tryz.underlying9 g4
  obtain rfl := (List.cons.inj a4).1
  subst b4
  exact ⟨⟨s0, i1, i2, s3, s4⟩, rfl, congrArg Prod.fst hx⟩
set_option maxRecDepth 100000 in
theorem open_ents {H : Type} {enc : TypeId × Value → H} {W : World} {b0 : Nat} {v : Value} {d : DataW H} {p : List MemPlace}
    (hv : Value.okWide Tryz.prog W .any b0 22 v) (h : DataW.Trod enc Tryz.prog W 0 (fun _ => true) true 22 v d p) : ∃ l : List Ent, EntsAt W v l ∧ l.length ≤ Rows.uptoBulk d ∧ ∀ x ∈ l, x.path.size ≤ Rows.uptoBulk d := by
  obtain ⟨a0, len0, cap0, rfl⟩ := okWide_slice Tryz.underlying22 hv
  obtain ⟨fuel, hf⟩ := h
  rcases Go.Deep.open_slice Tryz.underlying22 hf with ⟨hcs, hx⟩ | ⟨a, len, cap, m, n, D, Pl, hcs, _, hl, hm, hmm, hx, hall⟩
  · have e : Value.slice a0 len0 cap0 = .slice none 0 0 := by simpa [Value.cells] using hcs
    rw [e]
    exact ⟨[], ⟨none, 0, 0, 0, rfl, fun h => absurd rfl h, Nat.le_refl _, fun i x h => by simp at h⟩, by simp, fun x h => by cases h⟩
  · have e : Value.slice a0 len0 cap0 = .slice (some a) len cap := by simpa [Value.cells] using hcs
    rw [e]
    rw [if_pos rfl] at hmm
    have e2 : d = .slice ((List.range len).map D) ((List.range (m - len)).map fun j => D (len + j)) := congrArg Prod.fst hx
    have each : ∀ i, i < len → ∃ x : Ent, (∀ j v, (ecs x)[j]? = some v → W.cell? (a.add (i * 5 + j)) = some v) ∧ D i = .agg [.lit (.string x.path.data.toList), .lit (.int .i64 x.kind), .lit (.int .i64 x.mode), .lit (.string x.data.data.toList), .lit (.string x.link.data.toList)] := by
      intro i hi
      obtain ⟨cs', h1, h2⟩ := hall i (by omega)
      rw [ent_size] at h1
      obtain ⟨_, hlen, hcell⟩ := World.cells?_some h1
      obtain ⟨x, hxe, hxd⟩ := open_one hlen h2
      refine ⟨x, fun j v hj => ?_, hxd⟩
      have hj5 : j < 5 := (List.getElem?_eq_some_iff.1 hj).1
      have c := hcell j (by omega)
      rw [Go.Deep.add_add] at c
      rw [c]
      subst hxe
      first | exact hj | (rw [← hj]; simp) | simpa using hj
    obtain ⟨f, hfx⟩ : ∃ f : Nat → Ent, ∀ i, i < len → (∀ j v, (ecs (f i))[j]? = some v → W.cell? (a.add (i * 5 + j)) = some v) ∧ D i = .agg [.lit (.string (f i).path.data.toList), .lit (.int .i64 (f i).kind), .lit (.int .i64 (f i).mode), .lit (.string (f i).data.data.toList), .lit (.string (f i).link.data.toList)] :=
      ⟨fun i => if h : i < len then Classical.choose (each i h) else ⟨⟨#[]⟩, 0, 0, ⟨#[]⟩, ⟨#[]⟩⟩, fun i hi => by simp only [dif_pos hi]; exact Classical.choose_spec (each i hi)⟩
    have hD : ∀ i, i < len → (f i).path.size + 2 ≤ Rows.uptoBulk (D i) := fun i hi => by
      rw [(hfx i hi).2]
      have hs : (f i).path.data.toList.length = (f i).path.size := un_length _
      simp only [Rows.uptoBulk, Rows.uptoBulkAll, hs]
      omega
    have hmem : ∀ i, i < len → D i ∈ (List.range len).map D := fun i hi => List.mem_map_of_mem (List.mem_range.2 hi)
    have hbk : Rows.uptoBulkAll ((List.range len).map D) ≤ Rows.uptoBulk d := by rw [e2]; simp only [Rows.uptoBulk]; omega
    refine ⟨(List.range len).map f, ?_, ?_, ?_⟩
    · by_cases h0 : len = 0
      · subst h0
        exact ⟨some a, cap, 0, 0, by simp, fun h => absurd rfl h, by simp, fun i x h => by simp at h⟩
      · obtain ⟨b, off, spot⟩ := a
        have hc0 := (hfx 0 (by omega)).1 0 _ rfl
        have hspot : spot = none := by simpa [Addr.add] using World.cell?_spot hc0
        subst hspot
        refine ⟨some ⟨b, off, none⟩, cap, b, off, by simp, fun _ => rfl, by simpa using hl, fun i x hi => ?_⟩
        have h1 : i < len := by have := (List.getElem?_eq_some_iff.1 hi).1; simpa using this
        have hx2 : x = f i := by simpa [h1] using hi.symm
        subst hx2
        have hc : ∀ j v, (ecs (f i))[j]? = some v → W.cell? ⟨b, off + i * 5 + j, none⟩ = some v := fun j v hj => by
          have := (hfx i h1).1 j v hj
          rw [Addr.add_mid] at this
          rw [Nat.add_assoc]; exact this
        exact ⟨hc 0 _ rfl, hc 1 _ rfl, hc 2 _ rfl, hc 3 _ rfl, hc 4 _ rfl⟩
    · have := bulk_len (ds := (List.range len).map D) (fun y hy => by
        obtain ⟨i, hi, rfl⟩ := List.mem_map.1 hy
        have := hD i (List.mem_range.1 hi); omega)
      rw [List.length_map] at this ⊢
      omega
    · intro x hx3
      obtain ⟨i, hi, rfl⟩ := List.mem_map.1 hx3
      have h1 := hD i (List.mem_range.1 hi)
      have h2 := bulk_mem (hmem i (List.mem_range.1 hi))
      omega
end Go.Proofs.YthkbhcefckbcnaaGreatDoor

namespace Go.Proofs.YthkbhcefckbcnaaGreatDoor.fnGlobTreesUpto
open Go.ChangeShapes Go.WideShapes Go.ChangeAt Go.RowKit
open Go.WideMaps Go.WideElems
open Go.ChangeMaps (open_string shut_string)

abbrev listed : List (String × DataW Unit) := listedU
set_option maxRecDepth 100000 in
theorem contract (H : Type) (enc : TypeId × Value → H) (W : World) (base : Nat) (args : Array Value) (ds gs : List (DataW H)) (before : List MemPlace)
    (hval : ∀ (j : Nat) t v, Tryz.f4.params[j]? = some t → args[j]? = some v → Value.okWide Tryz.prog W .any base t v)
    (hW : DataW.Whole enc Tryz.prog Tryz.f4.params.toList Rows.globTreesSpec.vars false W args.toList ds gs before)
    (hk : Rows.uptoSmall H (ds ++ gs) = true)
    (hL : laidMetH Tryz.prog listed W) :
    Calls Tryz.prog 4 args W fun e W' => ∃ v, e = .returned v ∧ Rows.globTreesSpec.post enc Tryz.prog Tryz.f4 false true false false W args v W' := by
  have hW' := hW
  obtain ⟨p, q, hA0, hV, rfl, hfz, hnd⟩ := hW
  have hA : DataW.TrodAll enc Tryz.prog W 0 (fun _ => true) true Tryz.f4.params.toList args.toList ds p := hA0
  rw [Tryz.params4] at hA hval
  obtain ⟨v0, vs0, d0, ds0, p0, q0, hargs, rfl, rfl, h0, r0⟩ := trodAll_cons hA
  obtain ⟨v1, vs1, d1, ds1, p1, q1, rfl, rfl, rfl, h1, r1⟩ := trodAll_cons r0
  obtain ⟨rfl, rfl, rfl⟩ := trodAll_nil r1
  obtain rfl : args = #[v0, v1] := by cases args; simp_all
  obtain ⟨rfl, rfl⟩ := trodVars_none hV
  clear hA0
  simp only [List.append_nil] at hW'
  have hb := of_decide_eq_true hk
  simp only [List.append_nil, Rows.uptoBulkAll] at hb
  have k0 := fun (W' : World) (hg : Below W.heap.size W W') => Below.trod (by kernel_rfl) (by kernel_rfl) (of_decide_eq_true (by kernel_rfl)) h0 hg (by obtain ⟨fu, hf⟩ := h0; exact DataW.trod_lt _ _ _ _ hf)
  obtain ⟨s0, rfl, rfl, rfl, hs0⟩ := open_string Tryz.underlying9 (hval 0 9 v0 rfl rfl) h0
  have k1 := fun (W' : World) (hg : Below W.heap.size W W') => Below.trod (by kernel_rfl) (by kernel_rfl) (of_decide_eq_true (by kernel_rfl)) h1 hg (by obtain ⟨fu, hf⟩ := h1; exact DataW.trod_lt _ _ _ _ hf)
  obtain ⟨l1, t1, y1, x1⟩ := open_ents (hval 1 22 v1 rfl rfl) h1
  simp only [Rows.uptoBulk] at hb
  have z0 : s0.data.toList.length = s0.size := (Lib.size_eq s0).symm
  refine (globtrees_law s0 l1 v1 W (handle_of_laidU hL) (by omega) t1 (by omega) (fun x hx => by have := x1 x hx; omega)).mono fun e W' ⟨he, hg⟩ => ?_
  subst he
  have e1 : Rows.globTreesSpec.fn H ([.lit (.string s0.data.toList), d1] ++ []) = { results := [.lit (.bool true)], args := [.lit (.string s0.data.toList), d1] } := by simp [Rows.globTreesSpec]
  refine ⟨_, rfl, _, _, _, [], [] ++ (p1 ++ []), [], hW', ?_, ?_, ?_, hg.frame _, fun h => by cases h⟩
  · rw [e1]; exact trodAll_mk1 (shut_bool Tryz.underlying4 true)
  · rw [e1]; exact trodAll_cons_mk (k0 W' hg) (trodAll_cons_mk (k1 W' hg) trodAll_mk0)
  · rw [e1]; rfl

set_option maxRecDepth 100000 in
theorem met (os : Os) (args : Array Value) : laidMetH Tryz.prog listed ((laidWorldU os).forCall (fun _ _ => 0) ⟨#[], args, []⟩).memory :=
  laidMetH_of_parts (laidMet_of_run' 8 (by kernel_rfl) (by kernel_rfl)) (by kernel_rfl)
theorem reads (os : Os) {H : Type} (enc : TypeId × Value → H) : ∃ places, DataW.whole enc Tryz.prog ((laidWorldU os).forCall (fun _ _ => 0) ⟨#[], #[.string ⟨#[]⟩, .slice none 0 0], []⟩).memory Tryz.f4.params.toList Rows.globTreesSpec.vars false #[Value.string ⟨#[]⟩, Value.slice none 0 0].toList 8 = some ([.lit (.string []), .nil], [], places) :=
  ⟨[], by kernel_rfl⟩

set_option maxRecDepth 100000 in
theorem lifted (os : Os) (started : os.Started) (H : Type) (enc : TypeId × Value → H) (F : Stop.Interp) :
    ReturnsInHanded {} Tryz.checked os 4 .any ((Rows.OpenSpec.upto Rows.globTreesSpec).preRow enc Tryz.prog Tryz.f4 Rows.globTreesUptoRow.domain false Rows.globTreesUptoRow.laid) (((Rows.OpenSpec.upto Rows.globTreesSpec).at F).post enc Tryz.prog Tryz.f4 false true false false) := by
  obtain ⟨places, hx⟩ := reads os enc
  refine returnsInHanded_of_row (C := Tryz.checked) (s := Rows.OpenSpec.upto Rows.globTreesSpec) own started (by kernel_rfl) Tryz.func4
    (witness_row_at (enc := enc) (C := Tryz.checked) false (laidWorldU os) #[.string ⟨#[]⟩, .slice none 0 0] rfl (by kernel_rfl) (by kernel_rfl) (by kernel_rfl)
      (OpenSpec.preRow_of_cond 8 hx (by kernel_rfl) (fun k hk => by cases hk; kernel_rfl) (by kernel_rfl) (met os _))) ?_
  intro W base args ds gs before hval hW _ hcond _ hL _ _
  exact contract H enc W base args ds gs before hval hW (hcond _ rfl) hL

theorem said : Rows.GlobTreesUptoSaid :=
  OpenClaim.holds_of_cond 4 Tryz.f4 rfl rfl rfl rfl rfl rfl rfl ⟨rfl, rfl, rfl, rfl, rfl⟩ rfl rfl rfl rfl rfl (by kernel_rfl) Tryz.func4 (by kernel_rfl)
    (of_decide_eq_true (by kernel_rfl)) (by unfold Func.isWrapper; rw [if_neg (of_decide_eq_false (by kernel_rfl))]; exact ⟨rfl, rfl⟩)
    (fun os started H enc _ F => by rw [OpenClaim.pre_eq_preRow]; exact lifted os started H enc F)

theorem plainly (f : FuncId) (fn : Func) (hf : Tryz.pinned.checked.prog.funcNamed "strata/stratalaw02.GlobTrees" = some f) (hfn : Tryz.pinned.checked.prog.funcs[f]? = some fn) :
    true = Tryz.pinned.checked.prog.looks [] ∧ ∀ (j : Nat) t, fn.params[j]? = some t → Tryz.pinned.checked.prog.wantsStandIn t = false := by
  obtain rfl : f = 4 := Option.some.inj ((show Tryz.prog.funcNamed "strata/stratalaw02.GlobTrees" = some 4 by kernel_rfl).symm.trans hf) |>.symm
  obtain rfl : fn = Tryz.f4 := (Option.some.inj (Tryz.func4.symm.trans hfn)).symm
  refine ⟨by kernel_rfl, fun j t ht => ?_⟩
  rw [Tryz.params4] at ht
  have hm : t ∈ [9, 22] := by simpa using Array.mem_of_getElem? ht
  have hall : ([9, 22].all fun u => !Tryz.prog.wantsStandIn u) = true := by kernel_rfl
  exact (show Tryz.prog.wantsStandIn t = false by simpa using List.all_eq_true.1 hall t hm)

theorem card : Rows.GlobTreesUptoCardSaid :=
  Claim7.holds_tied_plain_at .later [] _ _ _ _ said (fun _ h => by cases h) (by kernel_rfl) (fun _ h => by cases h) globTreesUpto_row_tie rfl ⟨rfl, rfl⟩ (by kernel_rfl) rfl plainly (by kernel_rfl)
end Go.Proofs.YthkbhcefckbcnaaGreatDoor.fnGlobTreesUpto
namespace Go.Proofs.YthkbhcefckbcnaaGreatDoor
theorem globTreesUpto_card : Rows.GlobTreesUptoCardSaid := fnGlobTreesUpto.card
end Go.Proofs.YthkbhcefckbcnaaGreatDoor
