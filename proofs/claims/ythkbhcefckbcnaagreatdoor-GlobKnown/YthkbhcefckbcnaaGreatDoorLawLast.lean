/- GlobLast, walked: a rule that is put behind all goes ahead of all. -/
import Derived.Test.YthkbhcefckbcnaaGreatDoorRefNames
import Derived.Test.YthkbhcefckbcnaaGreatDoorLawOutB
import Derived.Test.YthkbhcefckbcnaaGreatDoorOutP
import Derived.Test.YthkbhcefckbcnaaGreatDoorParseL

namespace Go.Proofs.YthkbhcefckbcnaaGreatDoor
open Go Go.RowKit

def headB (s : ByteArray) (n : Nat) : ByteArray := if s.size ≤ n then s else s.extract 0 n
theorem headB_size (s : ByteArray) (n : Nat) : (headB s n).size ≤ n := by
  unfold headB; split
  · assumption
  · rw [size_extract' _ _ _ (by omega)]; omega
theorem head_p (s : ByteArray) (n : Nat) (w : World) (h1 : 1 ≤ n) (h2 : n ≤ 1099511627776) : Calls Tryz.prog 80 #[.string s, .int .i64 n] w fun e w' => e = .returned (.string (headB s n)) ∧ w' = w := by
  have d1 : ¬ (n : Int) < 1 := by omega
  by_cases h : s.size ≤ n
  · have d2 : (s.size : Int) ≤ (n : Int) := by omega
    go_enter Tryz.func80, Tryz.ntmps80
    go_wp2
    go_ret
    exact ⟨by unfold headB; rw [if_pos h]; rfl, rfl⟩
  · have d2 : ¬ (s.size : Int) ≤ (n : Int) := by omega
    have d3 : (0 : Int) ≤ (n : Int) := by omega
    go_enter Tryz.func80, Tryz.ntmps80
    go_wp2
    go_ret
    exact ⟨by unfold headB; rw [if_neg h]; rfl, rfl⟩
end Go.Proofs.YthkbhcefckbcnaaGreatDoor

namespace Go.Proofs.YthkbhcefckbcnaaGreatDoor
open Go Go.RowKit

theorem joinL_one (x : ByteArray) : joinL [x] = un x := by simp [joinL, Lib.join_one]
theorem joinL_snoc : ∀ (l : List ByteArray) (x : ByteArray), l ≠ [] → joinL (l ++ [x]) = joinL l ++ 47 :: un x
  | [], _, h => (h rfl).elim
  | [y], x, _ => by simp [joinL, Lib.join, List.intercalate]
  | y :: z :: l, x, _ => by
    have ih := joinL_snoc (z :: l) x (by simp)
    have e : ∀ l2, joinL (y :: z :: l2) = un y ++ (47 :: joinL (z :: l2)) := fun l2 => by simp [joinL, Lib.join, List.intercalate]
    rw [List.cons_append, List.cons_append, e, e, ← List.cons_append, ih]; simp
theorem joinL_nil : joinL [] = [] := rfl
theorem wt_take (xs : List ByteArray) (k i : Nat) : wt ((xs.take k).drop i) ≤ wt xs := by
  have h1 : wt (xs.take k) ≤ wt xs := wt_prefix (List.take_prefix k xs)
  have h2 : wt ((xs.take k).take i) + wt ((xs.take k).drop i) = wt (xs.take k) := by rw [← wt_append, List.take_append_drop]
  omega

set_option maxHeartbeats 2000000 in
theorem joined_p (xs : List ByteArray) (b1 : Nat) (v : Value) (i j : Nat) (w : World) (hv : w.ownsRow b1 9 1 v xs.length (strs xs)) (hij : i ≤ j) (hj : j ≤ xs.length) (hz : wt xs ≤ 1099511627776) :
    Calls Tryz.prog 111 #[v, .int .i64 i, .int .i64 j] w fun e w' => e = .returned (.string (bs (joinL ((xs.take j).drop i)))) ∧ w' = w := by
  have hl := length_wt xs
  have hlv : ∃ o c, v = .slice o xs.length c := by
    rcases hv.2 with ⟨rfl, h0⟩ | ⟨g, cap, cur, rfl, _⟩
    · exact ⟨none, 0, by rw [h0]⟩
    · exact ⟨_, _, rfl⟩
  have HC : Hid (∀ (k : Nat) x, xs[k]? = some x → ∃ g c, v = .slice (some ⟨g, 0, none⟩) xs.length c ∧ w.cell? ⟨g, k, none⟩ = some (.string x)) := fun k x hx => by
    have hk : k < xs.length := (List.getElem?_eq_some_iff.1 hx).1
    rcases hv.2 with ⟨rfl, h0⟩ | ⟨g, cap, cur, rfl, _⟩
    · omega
    · exact ⟨g, cap, rfl, row_cell hv k _ (by simp [strs, hx])⟩
  clear hv
  go_enter Tryz.func111, Tryz.ntmps111
  go_wp2
  go_loop [7, 8] (fun a n => ∃ k : Nat, i ≤ k ∧ k ≤ j ∧ n = .int .i64 k ∧ a = .string (bs (joinL ((xs.take k).drop i)))) (fun _ n => j - (intOf n).toNat)
  case atStart => exact ⟨i, Nat.le_refl _, hij, rfl, by rw [List.drop_eq_nil_of_le (by simp; omega), joinL_nil]; rfl⟩
  case round =>
    obtain ⟨k, hik, hkj, rfl, rfl⟩ := hrel
    have hz1 : (bs (joinL ((xs.take k).drop i))).size ≤ 1099511627776 := by
      rw [size_bs]; exact Nat.le_trans (joinL_length _) (Nat.le_trans (wt_take xs k i) hz)
    by_cases hlt : k < j
    · obtain ⟨x, hx⟩ : ∃ x, xs[k]? = some x := ⟨_, List.getElem?_eq_getElem (by omega)⟩
      obtain ⟨g, c, rfl, hc⟩ := HC.out k x hx
      have hxz : x.size ≤ 1099511627776 := by
        obtain ⟨a, b, hab⟩ := List.append_of_mem (List.mem_of_getElem? hx)
        rw [hab, wt_append] at hz; simp [wt] at hz; omega
      have hst : (xs.take (k + 1)).drop i = (xs.take k).drop i ++ [x] := by
        rw [List.take_add_one, hx, List.drop_append_of_le_length (by simp; omega)]; rfl
      have d1 : (0 : Int) ≤ (k : Int) := by omega
      have d2 : (k : Int) < (xs.length : Int) := by omega
      by_cases hki : i < k
      · have hne : (xs.take k).drop i ≠ [] := by
          intro e
          have := congrArg List.length e
          simp at this; omega
        have H3 : Hid (bs (joinL ((xs.take k).drop i)) ++ ⟨#[47]⟩ ++ x = bs (joinL ((xs.take (k + 1)).drop i))) := un_inj (by
          rw [un_append, un_append, un_bs, un_bs, hst, joinL_snoc _ _ hne, List.append_assoc]; rfl)
        obtain ⟨a, ha⟩ : ∃ a, bs (joinL ((xs.take k).drop i)) = a := ⟨_, rfl⟩
        rw [ha] at hz1 H3 ⊢
        have hz3 : (a ++ (⟨#[47]⟩ : ByteArray)).size = a.size + 1 := by rw [ByteArray.size_append]; rfl
        clear ha hst hne hx
        go_wp2
        go_round
        case rel => exact ⟨k + 1, by omega, by omega, by go_num, by rw [← H3.out]⟩
        case measure => simp [intOf]; omega
      · obtain rfl : k = i := by omega
        have he : (xs.take k).drop k = [] := List.drop_eq_nil_of_le (by simp; omega)
        have H3 : Hid (bs (joinL ((xs.take k).drop k)) ++ x = bs (joinL ((xs.take (k + 1)).drop k))) := un_inj (by
          rw [un_append, un_bs, un_bs, hst, he, joinL_nil]; exact (joinL_one x).symm)
        obtain ⟨a, ha⟩ : ∃ a, bs (joinL ((xs.take k).drop k)) = a := ⟨_, rfl⟩
        rw [ha] at hz1 H3 ⊢
        clear ha hst he hx
        go_wp2
        go_round
        case rel => exact ⟨k + 1, by omega, by omega, by go_num, by rw [← H3.out]⟩
        case measure => simp [intOf]; omega
    · obtain rfl : k = j := by omega
      go_wp2
      go_ret
      exact ⟨rfl, rfl⟩
end Go.Proofs.YthkbhcefckbcnaaGreatDoor

namespace Go.Proofs.YthkbhcefckbcnaaGreatDoor
open Go Go.RowKit

def withoutB (s : ByteArray) : ByteArray := bs ((un s).filter (fun c => c != 10))
theorem withoutB_size (s : ByteArray) : (withoutB s).size ≤ s.size := by
  unfold withoutB; rw [size_bs, ← un_length]; exact List.length_filter_le _ _
theorem withoutB_none (s : ByteArray) : (10 : UInt8) ∉ un (withoutB s) := by
  unfold withoutB; rw [un_bs]; simp
set_option maxHeartbeats 2000000 in
theorem without_p (s : ByteArray) (w : World) (hs : s.size ≤ 1099511627776) :
    Calls Tryz.prog 81 #[.string s] w fun e w' => e = .returned (.string (withoutB s)) ∧ w' = w := by
  go_enter Tryz.func81, Tryz.ntmps81
  go_wp2
  go_loop [3, 4] (fun a n => ∃ k : Nat, k ≤ s.size ∧ n = .int .i64 k ∧ a = .string (bs (((un s).take k).filter (fun c => c != 10)))) (fun _ n => s.size - (intOf n).toNat)
  case atStart => exact ⟨0, Nat.zero_le _, rfl, rfl⟩
  case round =>
    obtain ⟨k, hk, rfl, rfl⟩ := hrel
    have hz1 : (bs (((un s).take k).filter (fun c => c != 10))).size ≤ k := by
      rw [size_bs]; exact Nat.le_trans (List.length_filter_le _ _) (by simp; omega)
    by_cases hlt : k < s.size
    · have hget := un_getElem? s k hlt
      have d1 : (0 : Int) ≤ (k : Int) := by omega
      have d2 : (k : Int) < (s.size : Int) := by omega
      by_cases hc : s[k].toNat = 10
      · have hst : Hid (bs (((un s).take (k + 1)).filter (fun c => c != 10)) = bs (((un s).take k).filter (fun c => c != 10))) := by
          unfold Hid
          rw [List.take_add_one, hget, show s[k] = 10 from UInt8.toNat_inj.1 hc]
          simp [List.filter_append]
        obtain ⟨a, ha⟩ : ∃ a, bs (((un s).take k).filter (fun c => c != 10)) = a := ⟨_, rfl⟩
        rw [ha] at hz1 hst ⊢
        clear ha hget
        go_wp2
        go_round
        case rel => exact ⟨k + 1, by omega, by go_num, by rw [hst.out]⟩
        case measure => simp [intOf]; omega
      · have hst : Hid (bs (((un s).take (k + 1)).filter (fun c => c != 10)) = bs (((un s).take k).filter (fun c => c != 10)) ++ s.extract k (k + 1)) := by
          unfold Hid
          refine un_inj ?_
          have hc2 : (s[k] != 10) = true := by
            rw [bne_iff_ne]; intro e; exact hc (by rw [e]; rfl)
          have hx : ((un s).take (k + 1)).drop k = [s[k]] := by
            rw [List.take_add_one, hget, List.drop_append_of_le_length (by simp [un_length]; omega), List.drop_eq_nil_of_le (by simp; omega)]; rfl
          rw [un_append, un_bs, un_bs, un_extract, hx, List.take_add_one, hget]
          simp [List.filter_append, hc2]
        obtain ⟨a, ha⟩ : ∃ a, bs (((un s).take k).filter (fun c => c != 10)) = a := ⟨_, rfl⟩
        rw [ha] at hz1 hst ⊢
        have hz3 : (s.extract k (k + 1)).size = 1 := by rw [size_extract' s k (k + 1) (by omega)]; omega
        clear ha hget
        go_wp2
        go_round
        case rel => exact ⟨k + 1, by omega, by go_num, by rw [hst.out]⟩
        case measure => simp [intOf]; omega
    · obtain rfl : k = s.size := by omega
      have he : Hid (bs (((un s).take s.size).filter (fun c => c != 10)) = withoutB s) := by
        unfold Hid withoutB; rw [← un_length, List.take_length]
      rw [he.out]
      go_wp2
      go_ret
      exact ⟨rfl, rfl⟩
end Go.Proofs.YthkbhcefckbcnaaGreatDoor

namespace Go.Proofs.YthkbhcefckbcnaaGreatDoor
open Go Go.RowKit

theorem bool_iff {a b : Bool} (h : a = true ↔ b = true) : a = b := by cases a <;> cases b <;> simp_all
theorem behind_eq (ps : List Pc) (xs : List ByteArray) : takeP (ps ++ [none]) xs = (List.range (xs.length + 1)).any fun i => takeP ps (xs.take i) :=
  bool_iff (by rw [takeP_behind]; simp [Nat.lt_succ_iff])
theorem any_succ (f : Nat → Bool) (k : Nat) : (List.range (k + 1)).any f = ((List.range k).any f || f k) := by simp [List.range_succ]
theorem match_join {pat : ByteArray} {ps : List Pc} (h : patOf pat = some ps) (xs : List ByteArray) (hx : ∀ x ∈ xs, GoodB x) : matchB pat (bs (joinL xs)) = takeP ps xs := by
  unfold matchB; rw [h]; simp only []; rw [namesB_join xs hx]

/-- Whether a pattern takes some of the first names. -/
def meetsB (pat p : ByteArray) : Bool := match patOf pat with | none => false | some ps => takeP (ps ++ [none]) (namesB p)

set_option maxRecDepth 100000 in
set_option maxHeartbeats 8000000 in
theorem meets_p (a b : ByteArray) (w : World) (za : a.size ≤ 1000) (zb : b.size ≤ 1000) :
    Calls Tryz.prog 82 #[.string a, .string b] w fun e w' => e = .returned (.bool (meetsB a b)) ∧ Below w.heap.size w w' := by
  obtain ⟨xs, hxs⟩ : ∃ xs, namesB b = xs := ⟨_, rfl⟩
  have hw := wt_names b
  rw [hxs] at hw
  have hlx := length_wt xs
  have HG : Hid (∀ x ∈ xs, GoodB x) := fun x hx => namesB_good b x (by rw [hxs]; exact hx)
  have hjz : ∀ l : List ByteArray, wt l ≤ 1001 → (bs (joinL l)).size ≤ 1001 := fun l hl => by rw [size_bs]; exact Nat.le_trans (joinL_length l) hl
  have hnr := fun W => names_r b W (by omega)
  rw [hxs] at hnr
  cases hpat : patOf a with
  | none =>
    have e1 : perr a = .iface 56 (.int .i64 24) := perr_bad (by rw [hpat]; rfl)
    have HV : Hid (meetsB a b = false) := by unfold Hid meetsB; rw [hpat]
    have HM : Hid (∀ k, k ≤ xs.length → ∀ W, Calls Tryz.prog 29 #[.string a, .string (bs (joinL ((xs.take k).drop 0)))] W fun e w' => e = .returned (.tuple #[.bool false, .iface 56 (.int .i64 24)]) ∧ Below W.heap.size W w') := fun k hk W => by
      have h := match_p a (bs (joinL ((xs.take k).drop 0))) W (by omega) (by have := hjz ((xs.take k).drop 0) (by have := wt_take xs k 0; omega); omega)
      have e2 : matchB a (bs (joinL ((xs.take k).drop 0))) = false := by unfold matchB; rw [hpat]
      rw [e1, e2] at h
      exact h
    clear hpat e1 hxs hjz
    go_enter Tryz.func82, Tryz.ntmps82
    go_wp2_with fail
    refine (hnr _).mono ?_
    rintro e w3 ⟨u, rfl, ho, b3⟩
    obtain ⟨o, cp, rfl⟩ : ∃ o c, u = .slice o xs.length c := by
      rcases ho.2 with ⟨rfl, h0⟩ | ⟨g, cap, cur, rfl, _⟩
      · exact ⟨none, 0, by rw [h0]⟩
      · exact ⟨_, _, rfl⟩
    go_wp2_with fail
    go_loopw [6] (fun x wr => ∃ k : Nat, x = .int .i64 k ∧ k ≤ xs.length + 1 ∧ wr.ownsRow w.heap.size 9 1 (.slice o xs.length cp) xs.length (strs xs) ∧ Below w.heap.size w wr) (fun x _ => xs.length + 1 - (intOf x).toNat)
    case atStart => exact ⟨0, rfl, by omega, ho, b3⟩
    case round =>
      obtain ⟨k, rfl, hk, ho2, b4⟩ := hrel
      by_cases hlt : k ≤ xs.length
      · have HO : Hid _ := ho2
        have hd1 : decide ((k : Int) ≤ (xs.length : Int)) = true := by simp; omega
        go_wp2_with fail
        refine (joined_p xs w.heap.size _ 0 k _ HO.out (by omega) hlt (by omega)).mono ?_
        rintro e w5 ⟨rfl, rfl⟩
        go_wp2_with fail
        refine (HM.out k hlt _).mono ?_
        rintro e w6 ⟨rfl, b6⟩
        go_wp2_with fail
        go_roundw
        case rel => exact ⟨k + 1, by go_num, by omega, own_below HO.out b6, below_join2 b4 b6⟩
        case measure => simp [intOf]; omega
      · have hd1 : ¬ (k : Int) ≤ (xs.length : Int) := by omega
        go_wp2_with fail
        go_ret
        exact ⟨by rw [HV.out]; rfl, b4⟩
  | some ps =>
    have e1 : perr a = .nilIface := perr_ok (by rw [hpat]; rfl)
    have HV : Hid (meetsB a b = (List.range (xs.length + 1)).any fun i => takeP ps (xs.take i)) := by unfold Hid meetsB; rw [hpat, hxs]; exact behind_eq _ _
    have HM : Hid (∀ k, k ≤ xs.length → ∀ W, Calls Tryz.prog 29 #[.string a, .string (bs (joinL ((xs.take k).drop 0)))] W fun e w' => e = .returned (.tuple #[.bool (takeP ps (xs.take k)), .nilIface]) ∧ Below W.heap.size W w') := fun k hk W => by
      have h := match_p a (bs (joinL ((xs.take k).drop 0))) W (by omega) (by have := hjz ((xs.take k).drop 0) (by have := wt_take xs k 0; omega); omega)
      rw [e1, match_join hpat _ (fun x hx => HG.out x (List.mem_of_mem_take (List.mem_of_mem_drop hx)))] at h
      rw [List.drop_zero] at h ⊢
      exact h
    clear hpat e1 hxs hjz
    go_enter Tryz.func82, Tryz.ntmps82
    go_wp2_with fail
    refine (hnr _).mono ?_
    rintro e w3 ⟨u, rfl, ho, b3⟩
    obtain ⟨o, cp, rfl⟩ : ∃ o c, u = .slice o xs.length c := by
      rcases ho.2 with ⟨rfl, h0⟩ | ⟨g, cap, cur, rfl, _⟩
      · exact ⟨none, 0, by rw [h0]⟩
      · exact ⟨_, _, rfl⟩
    go_wp2_with fail
    go_loopw [6] (fun x wr => ∃ k : Nat, x = .int .i64 k ∧ k ≤ xs.length + 1 ∧ wr.ownsRow w.heap.size 9 1 (.slice o xs.length cp) xs.length (strs xs) ∧ Below w.heap.size w wr ∧ ((List.range k).any fun i => takeP ps (xs.take i)) = false) (fun x _ => xs.length + 1 - (intOf x).toNat)
    case atStart => exact ⟨0, rfl, by omega, ho, b3, rfl⟩
    case round =>
      obtain ⟨k, rfl, hk, ho2, b4, hno⟩ := hrel
      have HN : Hid _ := hno
      clear hno
      by_cases hlt : k ≤ xs.length
      · have HO : Hid _ := ho2
        have hd1 : decide ((k : Int) ≤ (xs.length : Int)) = true := by simp; omega
        have hmk := HM.out k hlt
        cases ht : takeP ps (xs.take k)
        · rw [ht] at hmk
          have HT : Hid _ := ht
          clear ht
          go_wp2_with fail
          refine (joined_p xs w.heap.size _ 0 k _ HO.out (by omega) hlt (by omega)).mono ?_
          rintro e w5 ⟨rfl, rfl⟩
          go_wp2_with fail
          refine (hmk _).mono ?_
          rintro e w6 ⟨rfl, b6⟩
          go_wp2_with fail
          go_roundw
          case rel => exact ⟨k + 1, by go_num, by omega, own_below HO.out b6, below_join2 b4 b6, by rw [any_succ, HN.out, HT.out]; rfl⟩
          case measure => simp [intOf]; omega
        · rw [ht] at hmk
          have HT : Hid _ := ht
          clear ht
          go_wp2_with fail
          refine (joined_p xs w.heap.size _ 0 k _ HO.out (by omega) hlt (by omega)).mono ?_
          rintro e w5 ⟨rfl, rfl⟩
          go_wp2_with fail
          refine (hmk _).mono ?_
          rintro e w6 ⟨rfl, b6⟩
          go_wp2_with fail
          go_ret
          refine ⟨?_, below_join2 b4 b6⟩
          have ha : ((List.range (xs.length + 1)).any fun i => takeP ps (xs.take i)) = true := List.any_eq_true.2 ⟨k, by simp; omega, HT.out⟩
          rw [HV.out, ha]; rfl
      · have hd1 : ¬ (k : Int) ≤ (xs.length : Int) := by omega
        have hke : k = xs.length + 1 := by omega
        go_wp2_with fail
        go_ret
        refine ⟨?_, b4⟩
        have ha := HN.out
        rw [hke] at ha
        rw [HV.out, ha]; rfl
end Go.Proofs.YthkbhcefckbcnaaGreatDoor

namespace Go.Proofs.YthkbhcefckbcnaaGreatDoor
open Go Go.RowKit

theorem dropWhile_twice {α : Type} (p : α → Bool) : ∀ l : List α, (l.dropWhile p).dropWhile p = l.dropWhile p
  | [] => rfl
  | x :: l => by
    by_cases h : p x = true
    · rw [List.dropWhile_cons_of_pos h]; exact dropWhile_twice p l
    · rw [List.dropWhile_cons_of_neg h, List.dropWhile_cons_of_neg h]
theorem dropWhile_snoc {α : Type} (p : α → Bool) (x : α) (hx : p x = false) : ∀ l : List α, (l ++ [x]).dropWhile p = l.dropWhile p ++ [x]
  | [] => by simp [hx]
  | y :: l => by
    by_cases h : p y = true
    · rw [List.cons_append, List.dropWhile_cons_of_pos h, List.dropWhile_cons_of_pos h]; exact dropWhile_snoc p x hx l
    · rw [List.cons_append, List.dropWhile_cons_of_neg h, List.dropWhile_cons_of_neg h]; rfl
theorem bang_trim (l : List UInt8) : Lib.trimS (33 :: l) [32, 9, 13] = 33 :: Lib.trimRightS l [32, 9, 13] := by
  unfold Lib.trimS Lib.trimRightS
  rw [List.reverse_cons, dropWhile_snoc _ _ (by decide), List.reverse_append]
  unfold Lib.trimLeftS
  simp
theorem trim_right (l : List UInt8) : Lib.trimS (Lib.trimRightS l [32, 9, 13]) [32, 9, 13] = Lib.trimS l [32, 9, 13] := by
  unfold Lib.trimS
  congr 1
  unfold Lib.trimRightS
  rw [List.reverse_reverse, dropWhile_twice]

theorem bang_prefix (l : List UInt8) : Lib.hasPrefix (33 :: l) [33] = true ∧ Lib.trimPrefix (33 :: l) [33] = l := by
  constructor
  · simp [Lib.hasPrefix]
  · simp [Lib.trimPrefix, Lib.hasPrefix]
theorem lineRule_bang (P : ByteArray) : lineRule (bs (33 :: un P)) = (patOf (trimB P)).map fun ps => some (true, ps ++ [none]) := by
  have e1 : un (trimB (bs (33 :: un P))) = 33 :: Lib.trimRightS (un P) [32, 9, 13] := by unfold trimB; rw [un_bs, un_bs, bang_trim]
  have e2 : trimB (bs (Lib.trimPrefix (un (trimB (bs (33 :: un P)))) [33])) = trimB P := by
    rw [e1, (bang_prefix _).2]; unfold trimB; rw [un_bs, trim_right]
  unfold lineRule
  rw [if_neg (by
    rintro (a | a)
    · rw [← un_length, e1] at a; simp at a
    · rw [e1] at a; simp at a), e2, e1, (bang_prefix _).1]
  rfl
theorem lineRule_none {P : ByteArray} (h : (trimB P).size = 0 ∨ (un (trimB P))[0]? = some 35) : lineRule P = some none := by unfold lineRule; rw [if_pos h]
theorem lineRule_back {P : ByteArray} (h : (un (trimB P))[0]? = some 33) : lineRule P = (patOf (trimB ((trimB P).extract 1 (trimB P).size))).map fun ps => some (true, ps ++ [none]) := by
  obtain ⟨l, hl⟩ : ∃ l, un (trimB P) = 33 :: l := by
    cases e : un (trimB P) with
    | nil => rw [e] at h; simp at h
    | cons a l => rw [e] at h; simp at h; exact ⟨l, by rw [h]⟩
  have e3 : (trimB P).extract 1 (trimB P).size = bs l := un_inj (by rw [un_extract, ← un_length, List.take_length, hl, un_bs]; rfl)
  unfold lineRule
  rw [if_neg (by
    rintro (a | a)
    · rw [← un_length, hl] at a; simp at a
    · rw [hl] at a; simp at a), e3, hl, (bang_prefix l).1, (bang_prefix l).2]
  rfl
theorem lineRule_plain {P : ByteArray} (h0 : 0 < (trimB P).size) (h1 : (un (trimB P))[0]? ≠ some 35) (h2 : (un (trimB P))[0]? ≠ some 33) : lineRule P = (patOf (trimB P)).map fun ps => some (false, ps ++ [none]) := by
  have hp : Lib.hasPrefix (un (trimB P)) [33] = false := by
    cases e : un (trimB P) with
    | nil => rfl
    | cons a l =>
      rw [e] at h2
      simp at h2
      show (((33 : UInt8) == a) && _) = false
      rw [beq_eq_false_iff_ne.2 (Ne.symm h2)]
      rfl
  unfold lineRule
  rw [if_neg (by rintro (a | a); omega; exact h1 a), hp]
  rfl

theorem out_snoc (rs : List Rule) (r : Rule) (xs : List ByteArray) : outB (rs ++ [r]) xs = if takeP r.2 xs then !r.1 else outB rs xs := by
  unfold outB
  rw [List.reverse_append]
  show (match (r :: rs.reverse).find? _ with | none => false | some r => !r.1) = _
  rw [List.find?_cons]
  cases takeP r.2 xs <;> rfl

theorem fine_patL {s : ByteArray} {ps : List Pc} (h : patOf s = some ps) : Short (ps ++ [none]) ∧ (ps ++ [none]).length ≤ 1099511627776 := by
  obtain ⟨h1, h2⟩ := pat_facts h
  refine ⟨fun qs hq => ?_, by simp; omega⟩
  rcases List.mem_append.1 hq with a | a
  · have := h2 qs a; omega
  · simp at a
theorem fine_line {line : ByteArray} {r : Rule} (h : lineRule line = some (some r)) : Short r.2 ∧ r.2.length ≤ 1099511627776 := by
  by_cases h0 : (trimB line).size = 0 ∨ (un (trimB line))[0]? = some 35
  · rw [lineRule_none h0] at h; cases h
  · have h1 : 0 < (trimB line).size := by omega
    have h2 : (un (trimB line))[0]? ≠ some 35 := fun e => h0 (.inr e)
    by_cases h3 : (un (trimB line))[0]? = some 33
    · rw [lineRule_back h3] at h
      cases hp : patOf (trimB ((trimB line).extract 1 (trimB line).size)) with
      | none => rw [hp] at h; cases h
      | some ps => rw [hp] at h; cases h; exact fine_patL hp
    · rw [lineRule_plain h1 h2 h3] at h
      cases hp : patOf (trimB line) with
      | none => rw [hp] at h; cases h
      | some ps => rw [hp] at h; cases h; exact fine_patL hp
theorem fine_add {rs rs2 : List Rule} {line : ByteArray} (hf : Fine rs) (h : addLine rs line = .ok rs2) : Fine rs2 := by
  refine ⟨addLine_le h hf.1, ?_⟩
  unfold addLine at h
  split at h
  · cases h; exact hf.2
  · split at h <;> cases h
  · rename_i r hr
    split at h
    · cases h
    · cases h
      intro q hq
      rcases List.mem_append.1 hq with a | a
      · exact hf.2 q a
      · simp at a; subst a; exact fine_line hr
theorem fine_lines : ∀ {ls : List (List UInt8)} {rs rs2 : List Rule}, Fine rs → addLines rs ls = .ok rs2 → Fine rs2
  | [], _, _, hf, h => by cases h; exact hf
  | x :: ls, rs, rs2, hf, h => by
    rw [addLines_cons] at h
    cases ha : addLine rs (bs x) with
    | error n => rw [ha] at h; cases h
    | ok r3 => rw [ha] at h; exact fine_lines (fine_add hf ha) h
theorem fine_parse {s : ByteArray} {rs : List Rule} (h : parseB s = .ok rs) : Fine rs := fine_lines (rs := []) ⟨by simp, fun r hr => by cases hr⟩ h

theorem addLines_one (rs : List Rule) (x : List UInt8) : addLines rs [x] = addLine rs (bs x) := by
  rw [addLines_cons]; cases addLine rs (bs x) <;> rfl
theorem parse_one {P : ByteArray} (h : (10 : UInt8) ∉ un P) : parseB P = addLine [] P := by
  unfold parseB; rw [linesL_none _ h, addLines_one, bs_un]
theorem parse_more {T S : ByteArray} {l : List UInt8} (hs : un S = un T ++ 10 :: l) (h : (10 : UInt8) ∉ l) : parseB S = match parseB T with | .error n => .error n | .ok rs => addLine rs (bs l) := by
  unfold parseB; rw [hs, linesL_append, addLines_append, linesL_none _ h]
  cases addLines [] (linesL (un T)) with
  | error n => rfl
  | ok rs => exact addLines_one rs l
end Go.Proofs.YthkbhcefckbcnaaGreatDoor

namespace Go.Proofs.YthkbhcefckbcnaaGreatDoor
open Go Go.RowKit

theorem linesE_b : ∀ (ls : List (List UInt8)) (rs : List Rule) (k : Nat), addLines rs ls = match addLinesE rs ls k with | .ok r => .ok r | .error (n, _) => .error n
  | [], rs, k => rfl
  | x :: ls, rs, k => by
    rw [addLines_cons, addLinesE_cons]
    cases addLine rs (bs x) with
    | error n => rfl
    | ok r => exact linesE_b ls r (k + 1)
theorem parseE_b (s : ByteArray) : parseB s = match parseE s with | .ok r => .ok r | .error (n, _) => .error n := linesE_b _ _ _
def ParsePostB (s : ByteArray) (w : World) (e : Ending) (w' : World) : Prop :=
  (match parseB s with
  | .ok rs => e = .returned (.tuple #[.pointer (some ⟨w.heap.size, 0, none⟩), .nilIface]) ∧ ListIn w' w.heap.size rs
  | .error _ => ∃ x, e = .returned (.tuple #[.pointer none, .iface 61 x])) ∧ Below w.heap.size w w'
theorem parse_b (s : ByteArray) (w : World) (hg : ErrType w) (hs : s.size ≤ 1099511627776) : Calls Tryz.prog 7 #[.string s] w (ParsePostB s w) := by
  refine (parse_l s w hg hs).mono fun e w' h => ?_
  unfold ParsePost at h
  unfold ParsePostB
  rw [parseE_b]
  cases hp : parseE s with
  | ok rs => rw [hp] at h; exact h
  | error x =>
    obtain ⟨n, k⟩ := x
    rw [hp] at h
    exact ⟨⟨_, h.1⟩, h.2⟩
end Go.Proofs.YthkbhcefckbcnaaGreatDoor

namespace Go.Proofs.YthkbhcefckbcnaaGreatDoor
open Go Go.RowKit

theorem parse_ok {s : ByteArray} {rs : List Rule} (h : parseB s = .ok rs) (W : World) (hg : ErrType W) (hs : s.size ≤ 1099511627776) : Calls Tryz.prog 7 #[.string s] W fun e w' => e = .returned (.tuple #[.pointer (some ⟨W.heap.size, 0, none⟩), .nilIface]) ∧ ListIn w' W.heap.size rs ∧ Below W.heap.size W w' := by
  refine (parse_b s W hg hs).mono ?_
  intro e w' hp
  unfold ParsePostB at hp
  rw [h] at hp
  exact ⟨hp.1.1, hp.1.2, hp.2⟩
theorem parse_err {s : ByteArray} {n : Int} (h : parseB s = .error n) (W : World) (hg : ErrType W) (hs : s.size ≤ 1099511627776) : Calls Tryz.prog 7 #[.string s] W fun e w' => (∃ x, e = .returned (.tuple #[.pointer none, .iface 61 x])) ∧ Below W.heap.size W w' := by
  refine (parse_b s W hg hs).mono ?_
  intro e w' hp
  unfold ParsePostB at hp
  rw [h] at hp
  exact hp
theorem parse_any (s : ByteArray) (W : World) (hg : ErrType W) (hs : s.size ≤ 1099511627776) : Calls Tryz.prog 7 #[.string s] W fun e w' => (∃ x y, e = .returned (.tuple #[x, y])) ∧ Below W.heap.size W w' := by
  refine (parse_b s W hg hs).mono ?_
  intro e w' hp
  unfold ParsePostB at hp
  cases h : parseB s with
  | ok rs => rw [h] at hp; exact ⟨⟨_, _, hp.1.1⟩, hp.2⟩
  | error n => rw [h] at hp; obtain ⟨⟨x, hx⟩, hb⟩ := hp; exact ⟨⟨_, _, hx⟩, hb⟩

set_option maxRecDepth 100000 in
set_option maxHeartbeats 16000000 in
theorem last_law (tx pt pp : ByteArray) (w : World) (hg : ErrType w) (_h1 : tx.size ≤ 140737488351232) (_h2 : pt.size ≤ 140737488351232) (_h3 : pp.size ≤ 140737488351232) :
    Calls Tryz.prog 46 #[.string tx, .string pt, .string pp] w fun e w' => e = .returned (.bool true) ∧ Below w.heap.size w w' := by
  have z1 := headB_size tx 20000
  have z2 := headB_size pt 1000
  have z3 := headB_size pp 1000
  have hh1 := fun W => head_p tx 20000 W (by decide) (by decide)
  have hh2 := fun W => head_p pt 1000 W (by decide) (by decide)
  have hh3 := fun W => head_p pp 1000 W (by decide) (by decide)
  obtain ⟨T, hT⟩ : ∃ a, headB tx 20000 = a := ⟨_, rfl⟩
  obtain ⟨P0, hP0⟩ : ∃ a, headB pt 1000 = a := ⟨_, rfl⟩
  obtain ⟨Q, hQ⟩ : ∃ a, headB pp 1000 = a := ⟨_, rfl⟩
  rw [hT] at z1 hh1
  rw [hP0] at z2 hh2
  rw [hQ] at z3 hh3
  clear hT hP0 hQ
  have hwo := fun W => without_p P0 W (by omega)
  have z4 := withoutB_size P0
  have hn := withoutB_none P0
  obtain ⟨P, hP⟩ : ∃ a, withoutB P0 = a := ⟨_, rfl⟩
  rw [hP] at z4 hn hwo
  clear hP
  have sA : (T ++ (⟨#[10]⟩ : ByteArray)).size = T.size + 1 := by rw [ByteArray.size_append]; rfl
  have sA2 : (T ++ (⟨#[10]⟩ : ByteArray) ++ P).size = T.size + 1 + P.size := by rw [ByteArray.size_append, sA]
  have sB : (T ++ (⟨#[10, 33]⟩ : ByteArray)).size = T.size + 2 := by rw [ByteArray.size_append]; rfl
  have sB2 : (T ++ (⟨#[10, 33]⟩ : ByteArray) ++ P).size = T.size + 2 + P.size := by rw [ByteArray.size_append, sB]
  have uA : un (T ++ (⟨#[10]⟩ : ByteArray) ++ P) = un T ++ 10 :: un P := by rw [un_append, un_append]; simp [un]
  have uB : un (T ++ (⟨#[10, 33]⟩ : ByteArray) ++ P) = un T ++ 10 :: (33 :: un P) := by rw [un_append, un_append]; simp [un]
  have eA := parse_more uA hn
  have eB := parse_more uB (by intro h; rcases List.mem_cons.1 h with h | h; exact absurd h (by decide); exact hn h)
  have eO := parse_one hn
  rw [bs_un] at eA
  clear uA uB hn
  obtain ⟨SA, hSA⟩ : ∃ a, T ++ (⟨#[10]⟩ : ByteArray) ++ P = a := ⟨_, rfl⟩
  obtain ⟨SB, hSB⟩ : ∃ a, T ++ (⟨#[10, 33]⟩ : ByteArray) ++ P = a := ⟨_, rfl⟩
  rw [hSA] at sA2 eA
  rw [hSB] at sB2 eB
  have zT : T.size ≤ 1099511627776 := by omega
  have zA : SA.size ≤ 1099511627776 := by omega
  have zB : SB.size ≤ 1099511627776 := by omega
  have zP : P.size ≤ 1099511627776 := by omega
  cases hL : parseB T with
  | error n =>
    clear eA eB eO
    go_enter Tryz.func46, Tryz.ntmps46
    go_wp2_with fail
    refine (hh1 _).mono ?_
    rintro e w ⟨rfl, rfl⟩
    go_wp2_with fail
    refine (hh2 _).mono ?_
    rintro e w ⟨rfl, rfl⟩
    go_wp2_with fail
    refine (hwo _).mono ?_
    rintro e w ⟨rfl, rfl⟩
    go_wp2_with fail
    refine (hh3 _).mono ?_
    rintro e w ⟨rfl, rfl⟩
    go_wp2_with fail
    refine (parse_err hL _ hg zT).mono ?_
    rintro e w1 ⟨⟨x1, rfl⟩, b1⟩
    have c1 : Below w.heap.size w w1 := b1
    go_wp2_with fail
    try simp only [hSA]
    refine (parse_any SA _ (hg.below c1) zA).mono ?_
    rintro e w2 ⟨⟨x2, y2, rfl⟩, b2⟩
    have c2 : Below w.heap.size w w2 := below_join2 c1 b2
    go_wp2_with fail
    try simp only [hSB]
    refine (parse_any SB _ (hg.below c2) zB).mono ?_
    rintro e w3 ⟨⟨x3, y3, rfl⟩, b3⟩
    have c3 : Below w.heap.size w w3 := below_join2 c2 b3
    go_wp2_with fail
    refine (parse_any P _ (hg.below c3) zP).mono ?_
    rintro e w4 ⟨⟨x4, y4, rfl⟩, b4⟩
    have c4 : Below w.heap.size w w4 := below_join2 c3 b4
    go_wp2_with fail
    refine (works2_p _ (hg.below c4)).mono ?_
    rintro e w9 ⟨rfl, b9⟩
    go_wp2_with fail
    go_ret
    exact ⟨rfl, below_join2 c4 b9⟩
  | ok rs =>
    rw [hL] at eA eB
    simp only [] at eA eB
    cases hA : addLine rs P with
    | error n =>
      rw [hA] at eA
      have hA2 : parseB SA = .error n := eA
      clear eA eB eO
      go_enter Tryz.func46, Tryz.ntmps46
      go_wp2_with fail
      refine (hh1 _).mono ?_
      rintro e w ⟨rfl, rfl⟩
      go_wp2_with fail
      refine (hh2 _).mono ?_
      rintro e w ⟨rfl, rfl⟩
      go_wp2_with fail
      refine (hwo _).mono ?_
      rintro e w ⟨rfl, rfl⟩
      go_wp2_with fail
      refine (hh3 _).mono ?_
      rintro e w ⟨rfl, rfl⟩
      go_wp2_with fail
      refine (parse_ok hL _ hg zT).mono ?_
      rintro e w1 ⟨rfl, l1, b1⟩
      have c1 : Below w.heap.size w w1 := b1
      go_wp2_with fail
      try simp only [hSA]
      refine (parse_err hA2 _ (hg.below c1) zA).mono ?_
      rintro e w2 ⟨⟨x2, rfl⟩, b2⟩
      have c2 : Below w.heap.size w w2 := below_join2 c1 b2
      go_wp2_with fail
      try simp only [hSB]
      refine (parse_any SB _ (hg.below c2) zB).mono ?_
      rintro e w3 ⟨⟨x3, y3, rfl⟩, b3⟩
      have c3 : Below w.heap.size w w3 := below_join2 c2 b3
      go_wp2_with fail
      refine (parse_any P _ (hg.below c3) zP).mono ?_
      rintro e w4 ⟨⟨x4, y4, rfl⟩, b4⟩
      have c4 : Below w.heap.size w w4 := below_join2 c3 b4
      go_wp2_with fail
      refine (works2_p _ (hg.below c4)).mono ?_
      rintro e w9 ⟨rfl, b9⟩
      go_wp2_with fail
      go_ret
      exact ⟨rfl, below_join2 c4 b9⟩
    | ok ra =>
      rw [hA] at eA
      have hA2 : parseB SA = .ok ra := eA
      cases hB : addLine rs (bs (33 :: un P)) with
      | error n =>
        rw [hB] at eB
        have hB2 : parseB SB = .error n := eB
        clear eA eB eO
        go_enter Tryz.func46, Tryz.ntmps46
        go_wp2_with fail
        refine (hh1 _).mono ?_
        rintro e w ⟨rfl, rfl⟩
        go_wp2_with fail
        refine (hh2 _).mono ?_
        rintro e w ⟨rfl, rfl⟩
        go_wp2_with fail
        refine (hwo _).mono ?_
        rintro e w ⟨rfl, rfl⟩
        go_wp2_with fail
        refine (hh3 _).mono ?_
        rintro e w ⟨rfl, rfl⟩
        go_wp2_with fail
        refine (parse_ok hL _ hg zT).mono ?_
        rintro e w1 ⟨rfl, l1, b1⟩
        have c1 : Below w.heap.size w w1 := b1
        go_wp2_with fail
        try simp only [hSA]
        refine (parse_ok hA2 _ (hg.below c1) zA).mono ?_
        rintro e w2 ⟨rfl, l2, b2⟩
        have c2 : Below w.heap.size w w2 := below_join2 c1 b2
        go_wp2_with fail
        try simp only [hSB]
        refine (parse_err hB2 _ (hg.below c2) zB).mono ?_
        rintro e w3 ⟨⟨x3, rfl⟩, b3⟩
        have c3 : Below w.heap.size w w3 := below_join2 c2 b3
        go_wp2_with fail
        refine (parse_any P _ (hg.below c3) zP).mono ?_
        rintro e w4 ⟨⟨x4, y4, rfl⟩, b4⟩
        have c4 : Below w.heap.size w w4 := below_join2 c3 b4
        go_wp2_with fail
        refine (works2_p _ (hg.below c4)).mono ?_
        rintro e w9 ⟨rfl, b9⟩
        go_wp2_with fail
        go_ret
        exact ⟨rfl, below_join2 c4 b9⟩
      | ok rb =>
        rw [hB] at eB
        have hB2 : parseB SB = .ok rb := eB
        cases hO : addLine [] P with
        | error n =>
          rw [hO] at eO
          have hO2 : parseB P = .error n := eO
          clear eA eB eO
          go_enter Tryz.func46, Tryz.ntmps46
          go_wp2_with fail
          refine (hh1 _).mono ?_
          rintro e w ⟨rfl, rfl⟩
          go_wp2_with fail
          refine (hh2 _).mono ?_
          rintro e w ⟨rfl, rfl⟩
          go_wp2_with fail
          refine (hwo _).mono ?_
          rintro e w ⟨rfl, rfl⟩
          go_wp2_with fail
          refine (hh3 _).mono ?_
          rintro e w ⟨rfl, rfl⟩
          go_wp2_with fail
          refine (parse_ok hL _ hg zT).mono ?_
          rintro e w1 ⟨rfl, l1, b1⟩
          have c1 : Below w.heap.size w w1 := b1
          go_wp2_with fail
          try simp only [hSA]
          refine (parse_ok hA2 _ (hg.below c1) zA).mono ?_
          rintro e w2 ⟨rfl, l2, b2⟩
          have c2 : Below w.heap.size w w2 := below_join2 c1 b2
          go_wp2_with fail
          try simp only [hSB]
          refine (parse_ok hB2 _ (hg.below c2) zB).mono ?_
          rintro e w3 ⟨rfl, l3, b3⟩
          have c3 : Below w.heap.size w w3 := below_join2 c2 b3
          go_wp2_with fail
          refine (parse_err hO2 _ (hg.below c3) zP).mono ?_
          rintro e w4 ⟨⟨x4, rfl⟩, b4⟩
          have c4 : Below w.heap.size w w4 := below_join2 c3 b4
          go_wp2_with fail
          refine (works2_p _ (hg.below c4)).mono ?_
          rintro e w9 ⟨rfl, b9⟩
          go_wp2_with fail
          go_ret
          exact ⟨rfl, below_join2 c4 b9⟩
        | ok r1 =>
          rw [hO] at eO
          have hO2 : parseB P = .ok r1 := eO
          clear eA eB eO
          have fL := fine_parse hL
          have fA := fine_parse hA2
          have fB := fine_parse hB2
          have fO := fine_parse hO2
          have hTr := fun W => trimmed_r P W zP
          have zs := trimB_size P
          have HoL : Hid (∀ W l, ListIn W l rs → Calls Tryz.prog 18 #[.pointer (some ⟨l, 0, none⟩), .string Q] W fun e w' => e = .returned (.bool (outB rs (namesB Q))) ∧ Below W.heap.size W w') := fun W l h => out_p l rs Q W h fL (by omega)
          have HoA : Hid (∀ W l, ListIn W l ra → Calls Tryz.prog 18 #[.pointer (some ⟨l, 0, none⟩), .string Q] W fun e w' => e = .returned (.bool (outB ra (namesB Q))) ∧ Below W.heap.size W w') := fun W l h => out_p l ra Q W h fA (by omega)
          have HoB : Hid (∀ W l, ListIn W l rb → Calls Tryz.prog 18 #[.pointer (some ⟨l, 0, none⟩), .string Q] W fun e w' => e = .returned (.bool (outB rb (namesB Q))) ∧ Below W.heap.size W w') := fun W l h => out_p l rb Q W h fB (by omega)
          have HoO : Hid (∀ W l, ListIn W l r1 → Calls Tryz.prog 18 #[.pointer (some ⟨l, 0, none⟩), .string Q] W fun e w' => e = .returned (.bool (outB r1 (namesB Q))) ∧ Below W.heap.size W w') := fun W l h => out_p l r1 Q W h fO (by omega)
          clear fL fA fB fO
          obtain ⟨X, hX⟩ : ∃ X, outB rs (namesB Q) = X := ⟨_, rfl⟩
          rw [hX] at HoL
          by_cases h0 : (trimB P).size = 0 ∨ (un (trimB P))[0]? = some 35
          · have hl0 := lineRule_none h0
            have era : rs = ra := by unfold addLine at hA; rw [hl0] at hA; cases hA; rfl
            subst era
            rw [hX] at HoA
            clear hl0 hA hB hO hX
            generalize trimB P = S at *
            rcases h0 with h0 | h0
            · obtain rfl : S = ⟨#[]⟩ := un_inj (List.length_eq_zero_iff.1 (by rw [un_length]; exact h0))
              clear h0 zs
              cases X
              · skip
                go_enter Tryz.func46, Tryz.ntmps46
                go_wp2_with fail
                refine (hh1 _).mono ?_
                rintro e w ⟨rfl, rfl⟩
                go_wp2_with fail
                refine (hh2 _).mono ?_
                rintro e w ⟨rfl, rfl⟩
                go_wp2_with fail
                refine (hwo _).mono ?_
                rintro e w ⟨rfl, rfl⟩
                go_wp2_with fail
                refine (hh3 _).mono ?_
                rintro e w ⟨rfl, rfl⟩
                go_wp2_with fail
                refine (parse_ok hL _ hg zT).mono ?_
                rintro e w1 ⟨rfl, l1, b1⟩
                have c1 : Below w.heap.size w w1 := b1
                go_wp2_with fail
                try simp only [hSA]
                refine (parse_ok hA2 _ (hg.below c1) zA).mono ?_
                rintro e w2 ⟨rfl, l2, b2⟩
                have c2 : Below w.heap.size w w2 := below_join2 c1 b2
                go_wp2_with fail
                try simp only [hSB]
                refine (parse_ok hB2 _ (hg.below c2) zB).mono ?_
                rintro e w3 ⟨rfl, l3, b3⟩
                have c3 : Below w.heap.size w w3 := below_join2 c2 b3
                go_wp2_with fail
                refine (parse_ok hO2 _ (hg.below c3) zP).mono ?_
                rintro e w4 ⟨rfl, l4, b4⟩
                have c4 : Below w.heap.size w w4 := below_join2 c3 b4
                have LL := ((l1.below b2).below b3).below b4
                have LA := (l2.below b3).below b4
                have LB := l3.below b4
                clear l1 l2 l3
                go_wp2_with fail
                refine (hTr _).mono ?_
                rintro e w5 ⟨rfl, b5⟩
                have c5 := below_join2 c4 b5
                go_wp2_with fail
                refine (HoA.out _ _ (LA.below b5)).mono ?_
                rintro e w6 ⟨rfl, b6⟩
                have c6 := below_join2 c5 b6
                go_wp2_with fail
                refine (HoL.out _ _ ((LL.below b5).below b6)).mono ?_
                rintro e w7 ⟨rfl, b7⟩
                have c7 := below_join2 c6 b7
                go_wp2_with fail
                refine (works2_p _ (hg.below c7)).mono ?_
                rintro e w19 ⟨rfl, b19⟩
                go_wp2_with fail
                go_ret
                exact ⟨rfl, below_join2 c7 b19⟩
              · skip
                go_enter Tryz.func46, Tryz.ntmps46
                go_wp2_with fail
                refine (hh1 _).mono ?_
                rintro e w ⟨rfl, rfl⟩
                go_wp2_with fail
                refine (hh2 _).mono ?_
                rintro e w ⟨rfl, rfl⟩
                go_wp2_with fail
                refine (hwo _).mono ?_
                rintro e w ⟨rfl, rfl⟩
                go_wp2_with fail
                refine (hh3 _).mono ?_
                rintro e w ⟨rfl, rfl⟩
                go_wp2_with fail
                refine (parse_ok hL _ hg zT).mono ?_
                rintro e w1 ⟨rfl, l1, b1⟩
                have c1 : Below w.heap.size w w1 := b1
                go_wp2_with fail
                try simp only [hSA]
                refine (parse_ok hA2 _ (hg.below c1) zA).mono ?_
                rintro e w2 ⟨rfl, l2, b2⟩
                have c2 : Below w.heap.size w w2 := below_join2 c1 b2
                go_wp2_with fail
                try simp only [hSB]
                refine (parse_ok hB2 _ (hg.below c2) zB).mono ?_
                rintro e w3 ⟨rfl, l3, b3⟩
                have c3 : Below w.heap.size w w3 := below_join2 c2 b3
                go_wp2_with fail
                refine (parse_ok hO2 _ (hg.below c3) zP).mono ?_
                rintro e w4 ⟨rfl, l4, b4⟩
                have c4 : Below w.heap.size w w4 := below_join2 c3 b4
                have LL := ((l1.below b2).below b3).below b4
                have LA := (l2.below b3).below b4
                have LB := l3.below b4
                clear l1 l2 l3
                go_wp2_with fail
                refine (hTr _).mono ?_
                rintro e w5 ⟨rfl, b5⟩
                have c5 := below_join2 c4 b5
                go_wp2_with fail
                refine (HoA.out _ _ (LA.below b5)).mono ?_
                rintro e w6 ⟨rfl, b6⟩
                have c6 := below_join2 c5 b6
                go_wp2_with fail
                refine (HoL.out _ _ ((LL.below b5).below b6)).mono ?_
                rintro e w7 ⟨rfl, b7⟩
                have c7 := below_join2 c6 b7
                go_wp2_with fail
                refine (works2_p _ (hg.below c7)).mono ?_
                rintro e w19 ⟨rfl, b19⟩
                go_wp2_with fail
                go_ret
                exact ⟨rfl, below_join2 c7 b19⟩
            · have hpos : 0 < S.size := by rw [← un_length]; exact (List.getElem?_eq_some_iff.1 h0).1
              have h3 : S[0].toNat = 35 := by have := un_getElem? S 0 hpos; rw [h0] at this; rw [← Option.some.inj this]; rfl
              have h4 : S.toList.isEmpty = false := (isEmpty_false _).2 hpos
              have d2 : (0 : Int) < (S.size : Int) := by omega
              clear h0
              cases X
              · skip
                go_enter Tryz.func46, Tryz.ntmps46
                go_wp2_with fail
                refine (hh1 _).mono ?_
                rintro e w ⟨rfl, rfl⟩
                go_wp2_with fail
                refine (hh2 _).mono ?_
                rintro e w ⟨rfl, rfl⟩
                go_wp2_with fail
                refine (hwo _).mono ?_
                rintro e w ⟨rfl, rfl⟩
                go_wp2_with fail
                refine (hh3 _).mono ?_
                rintro e w ⟨rfl, rfl⟩
                go_wp2_with fail
                refine (parse_ok hL _ hg zT).mono ?_
                rintro e w1 ⟨rfl, l1, b1⟩
                have c1 : Below w.heap.size w w1 := b1
                go_wp2_with fail
                try simp only [hSA]
                refine (parse_ok hA2 _ (hg.below c1) zA).mono ?_
                rintro e w2 ⟨rfl, l2, b2⟩
                have c2 : Below w.heap.size w w2 := below_join2 c1 b2
                go_wp2_with fail
                try simp only [hSB]
                refine (parse_ok hB2 _ (hg.below c2) zB).mono ?_
                rintro e w3 ⟨rfl, l3, b3⟩
                have c3 : Below w.heap.size w w3 := below_join2 c2 b3
                go_wp2_with fail
                refine (parse_ok hO2 _ (hg.below c3) zP).mono ?_
                rintro e w4 ⟨rfl, l4, b4⟩
                have c4 : Below w.heap.size w w4 := below_join2 c3 b4
                have LL := ((l1.below b2).below b3).below b4
                have LA := (l2.below b3).below b4
                have LB := l3.below b4
                clear l1 l2 l3
                go_wp2_with fail
                refine (hTr _).mono ?_
                rintro e w5 ⟨rfl, b5⟩
                have c5 := below_join2 c4 b5
                go_wp2_with fail
                refine (HoA.out _ _ (LA.below b5)).mono ?_
                rintro e w6 ⟨rfl, b6⟩
                have c6 := below_join2 c5 b6
                go_wp2_with fail
                refine (HoL.out _ _ ((LL.below b5).below b6)).mono ?_
                rintro e w7 ⟨rfl, b7⟩
                have c7 := below_join2 c6 b7
                go_wp2_with fail
                refine (works2_p _ (hg.below c7)).mono ?_
                rintro e w19 ⟨rfl, b19⟩
                go_wp2_with fail
                go_ret
                exact ⟨rfl, below_join2 c7 b19⟩
              · skip
                go_enter Tryz.func46, Tryz.ntmps46
                go_wp2_with fail
                refine (hh1 _).mono ?_
                rintro e w ⟨rfl, rfl⟩
                go_wp2_with fail
                refine (hh2 _).mono ?_
                rintro e w ⟨rfl, rfl⟩
                go_wp2_with fail
                refine (hwo _).mono ?_
                rintro e w ⟨rfl, rfl⟩
                go_wp2_with fail
                refine (hh3 _).mono ?_
                rintro e w ⟨rfl, rfl⟩
                go_wp2_with fail
                refine (parse_ok hL _ hg zT).mono ?_
                rintro e w1 ⟨rfl, l1, b1⟩
                have c1 : Below w.heap.size w w1 := b1
                go_wp2_with fail
                try simp only [hSA]
                refine (parse_ok hA2 _ (hg.below c1) zA).mono ?_
                rintro e w2 ⟨rfl, l2, b2⟩
                have c2 : Below w.heap.size w w2 := below_join2 c1 b2
                go_wp2_with fail
                try simp only [hSB]
                refine (parse_ok hB2 _ (hg.below c2) zB).mono ?_
                rintro e w3 ⟨rfl, l3, b3⟩
                have c3 : Below w.heap.size w w3 := below_join2 c2 b3
                go_wp2_with fail
                refine (parse_ok hO2 _ (hg.below c3) zP).mono ?_
                rintro e w4 ⟨rfl, l4, b4⟩
                have c4 : Below w.heap.size w w4 := below_join2 c3 b4
                have LL := ((l1.below b2).below b3).below b4
                have LA := (l2.below b3).below b4
                have LB := l3.below b4
                clear l1 l2 l3
                go_wp2_with fail
                refine (hTr _).mono ?_
                rintro e w5 ⟨rfl, b5⟩
                have c5 := below_join2 c4 b5
                go_wp2_with fail
                refine (HoA.out _ _ (LA.below b5)).mono ?_
                rintro e w6 ⟨rfl, b6⟩
                have c6 := below_join2 c5 b6
                go_wp2_with fail
                refine (HoL.out _ _ ((LL.below b5).below b6)).mono ?_
                rintro e w7 ⟨rfl, b7⟩
                have c7 := below_join2 c6 b7
                go_wp2_with fail
                refine (works2_p _ (hg.below c7)).mono ?_
                rintro e w19 ⟨rfl, b19⟩
                go_wp2_with fail
                go_ret
                exact ⟨rfl, below_join2 c7 b19⟩
          · have hpos : 0 < (trimB P).size := by omega
            have h35 : (un (trimB P))[0]? ≠ some 35 := fun e => h0 (.inr e)
            by_cases h33 : (un (trimB P))[0]? = some 33
            · have hl0 := lineRule_back h33
              have hTr2 := fun W => trimmed_r ((trimB P).extract 1 (trimB P).size) W (by rw [size_extract' _ _ _ (Nat.le_refl _)]; omega)
              have zr : (trimB ((trimB P).extract 1 (trimB P).size)).size ≤ 1000 := by
                refine Nat.le_trans (trimB_size _) ?_
                rw [size_extract' _ _ _ (Nat.le_refl _)]; omega
              have hme := fun W => meets_p (trimB ((trimB P).extract 1 (trimB P).size)) Q W zr z3
              generalize trimB P = S at *
              obtain ⟨R, hR⟩ : ∃ R, S.extract 1 S.size = R := ⟨_, rfl⟩
              rw [hR] at hTr2 hme hl0 zr
              generalize trimB R = R2 at *
              have h3 : S[0].toNat = 33 := by have := un_getElem? S 0 hpos; rw [h33] at this; rw [← Option.some.inj this]; rfl
              have h4 : S.toList.isEmpty = false := (isEmpty_false _).2 hpos
              have d2 : (0 : Int) < (S.size : Int) := by omega
              have d3 : (1 : Int) ≤ (S.size : Int) := by omega
              cases hp : patOf R2 with
              | none =>
                rw [hp] at hl0
                unfold addLine at hA
                rw [hl0] at hA
                simp only [Option.map_none] at hA
                split at hA <;> cases hA
              | some ps =>
                rw [hp] at hl0
                have era : outB ra (namesB Q) = if takeP (ps ++ [none]) (namesB Q) then false else X := by
                  unfold addLine at hA
                  rw [hl0] at hA
                  simp only [Option.map_some] at hA
                  split at hA
                  · cases hA
                  · cases hA; rw [out_snoc, hX]; rfl
                have em : meetsB R2 Q = takeP (ps ++ [none]) (namesB Q) := by unfold meetsB; rw [hp]
                rw [em] at hme
                rw [era] at HoA
                clear era em hl0 hA hB hO hX h0 h35 h33 hp
                cases hm : takeP (ps ++ [none]) (namesB Q)
                · rw [hm] at hme HoA
                  simp only [Bool.false_eq_true, if_false] at HoA
                  clear hm
                  cases X
                  · skip
                    go_enter Tryz.func46, Tryz.ntmps46
                    go_wp2_with fail
                    refine (hh1 _).mono ?_
                    rintro e w ⟨rfl, rfl⟩
                    go_wp2_with fail
                    refine (hh2 _).mono ?_
                    rintro e w ⟨rfl, rfl⟩
                    go_wp2_with fail
                    refine (hwo _).mono ?_
                    rintro e w ⟨rfl, rfl⟩
                    go_wp2_with fail
                    refine (hh3 _).mono ?_
                    rintro e w ⟨rfl, rfl⟩
                    go_wp2_with fail
                    refine (parse_ok hL _ hg zT).mono ?_
                    rintro e w1 ⟨rfl, l1, b1⟩
                    have c1 : Below w.heap.size w w1 := b1
                    go_wp2_with fail
                    try simp only [hSA]
                    refine (parse_ok hA2 _ (hg.below c1) zA).mono ?_
                    rintro e w2 ⟨rfl, l2, b2⟩
                    have c2 : Below w.heap.size w w2 := below_join2 c1 b2
                    go_wp2_with fail
                    try simp only [hSB]
                    refine (parse_ok hB2 _ (hg.below c2) zB).mono ?_
                    rintro e w3 ⟨rfl, l3, b3⟩
                    have c3 : Below w.heap.size w w3 := below_join2 c2 b3
                    go_wp2_with fail
                    refine (parse_ok hO2 _ (hg.below c3) zP).mono ?_
                    rintro e w4 ⟨rfl, l4, b4⟩
                    have c4 : Below w.heap.size w w4 := below_join2 c3 b4
                    have LL := ((l1.below b2).below b3).below b4
                    have LA := (l2.below b3).below b4
                    have LB := l3.below b4
                    clear l1 l2 l3
                    go_wp2_with fail
                    refine (hTr _).mono ?_
                    rintro e w5 ⟨rfl, b5⟩
                    have c5 := below_join2 c4 b5
                    go_wp2_with fail
                    try simp only [hR]
                    refine (hTr2 _).mono ?_
                    rintro e w6 ⟨rfl, b6⟩
                    have c6 := below_join2 c5 b6
                    go_wp2_with fail
                    refine (hme _).mono ?_
                    rintro e w7 ⟨rfl, b7⟩
                    have c7 := below_join2 c6 b7
                    go_wp2_with fail
                    refine (HoA.out _ _ (((LA.below b5).below b6).below b7)).mono ?_
                    rintro e w8 ⟨rfl, b8⟩
                    have c8 := below_join2 c7 b8
                    go_wp2_with fail
                    refine (HoL.out _ _ ((((LL.below b5).below b6).below b7).below b8)).mono ?_
                    rintro e w9 ⟨rfl, b9⟩
                    have c9 := below_join2 c8 b9
                    go_wp2_with fail
                    refine (works2_p _ (hg.below c9)).mono ?_
                    rintro e w19 ⟨rfl, b19⟩
                    go_wp2_with fail
                    go_ret
                    exact ⟨rfl, below_join2 c9 b19⟩
                  · skip
                    go_enter Tryz.func46, Tryz.ntmps46
                    go_wp2_with fail
                    refine (hh1 _).mono ?_
                    rintro e w ⟨rfl, rfl⟩
                    go_wp2_with fail
                    refine (hh2 _).mono ?_
                    rintro e w ⟨rfl, rfl⟩
                    go_wp2_with fail
                    refine (hwo _).mono ?_
                    rintro e w ⟨rfl, rfl⟩
                    go_wp2_with fail
                    refine (hh3 _).mono ?_
                    rintro e w ⟨rfl, rfl⟩
                    go_wp2_with fail
                    refine (parse_ok hL _ hg zT).mono ?_
                    rintro e w1 ⟨rfl, l1, b1⟩
                    have c1 : Below w.heap.size w w1 := b1
                    go_wp2_with fail
                    try simp only [hSA]
                    refine (parse_ok hA2 _ (hg.below c1) zA).mono ?_
                    rintro e w2 ⟨rfl, l2, b2⟩
                    have c2 : Below w.heap.size w w2 := below_join2 c1 b2
                    go_wp2_with fail
                    try simp only [hSB]
                    refine (parse_ok hB2 _ (hg.below c2) zB).mono ?_
                    rintro e w3 ⟨rfl, l3, b3⟩
                    have c3 : Below w.heap.size w w3 := below_join2 c2 b3
                    go_wp2_with fail
                    refine (parse_ok hO2 _ (hg.below c3) zP).mono ?_
                    rintro e w4 ⟨rfl, l4, b4⟩
                    have c4 : Below w.heap.size w w4 := below_join2 c3 b4
                    have LL := ((l1.below b2).below b3).below b4
                    have LA := (l2.below b3).below b4
                    have LB := l3.below b4
                    clear l1 l2 l3
                    go_wp2_with fail
                    refine (hTr _).mono ?_
                    rintro e w5 ⟨rfl, b5⟩
                    have c5 := below_join2 c4 b5
                    go_wp2_with fail
                    try simp only [hR]
                    refine (hTr2 _).mono ?_
                    rintro e w6 ⟨rfl, b6⟩
                    have c6 := below_join2 c5 b6
                    go_wp2_with fail
                    refine (hme _).mono ?_
                    rintro e w7 ⟨rfl, b7⟩
                    have c7 := below_join2 c6 b7
                    go_wp2_with fail
                    refine (HoA.out _ _ (((LA.below b5).below b6).below b7)).mono ?_
                    rintro e w8 ⟨rfl, b8⟩
                    have c8 := below_join2 c7 b8
                    go_wp2_with fail
                    refine (HoL.out _ _ ((((LL.below b5).below b6).below b7).below b8)).mono ?_
                    rintro e w9 ⟨rfl, b9⟩
                    have c9 := below_join2 c8 b9
                    go_wp2_with fail
                    refine (works2_p _ (hg.below c9)).mono ?_
                    rintro e w19 ⟨rfl, b19⟩
                    go_wp2_with fail
                    go_ret
                    exact ⟨rfl, below_join2 c9 b19⟩
                · rw [hm] at hme HoA
                  simp only [if_true] at HoA
                  clear hm
                  go_enter Tryz.func46, Tryz.ntmps46
                  go_wp2_with fail
                  refine (hh1 _).mono ?_
                  rintro e w ⟨rfl, rfl⟩
                  go_wp2_with fail
                  refine (hh2 _).mono ?_
                  rintro e w ⟨rfl, rfl⟩
                  go_wp2_with fail
                  refine (hwo _).mono ?_
                  rintro e w ⟨rfl, rfl⟩
                  go_wp2_with fail
                  refine (hh3 _).mono ?_
                  rintro e w ⟨rfl, rfl⟩
                  go_wp2_with fail
                  refine (parse_ok hL _ hg zT).mono ?_
                  rintro e w1 ⟨rfl, l1, b1⟩
                  have c1 : Below w.heap.size w w1 := b1
                  go_wp2_with fail
                  try simp only [hSA]
                  refine (parse_ok hA2 _ (hg.below c1) zA).mono ?_
                  rintro e w2 ⟨rfl, l2, b2⟩
                  have c2 : Below w.heap.size w w2 := below_join2 c1 b2
                  go_wp2_with fail
                  try simp only [hSB]
                  refine (parse_ok hB2 _ (hg.below c2) zB).mono ?_
                  rintro e w3 ⟨rfl, l3, b3⟩
                  have c3 : Below w.heap.size w w3 := below_join2 c2 b3
                  go_wp2_with fail
                  refine (parse_ok hO2 _ (hg.below c3) zP).mono ?_
                  rintro e w4 ⟨rfl, l4, b4⟩
                  have c4 : Below w.heap.size w w4 := below_join2 c3 b4
                  have LL := ((l1.below b2).below b3).below b4
                  have LA := (l2.below b3).below b4
                  have LB := l3.below b4
                  clear l1 l2 l3
                  go_wp2_with fail
                  refine (hTr _).mono ?_
                  rintro e w5 ⟨rfl, b5⟩
                  have c5 := below_join2 c4 b5
                  go_wp2_with fail
                  try simp only [hR]
                  refine (hTr2 _).mono ?_
                  rintro e w6 ⟨rfl, b6⟩
                  have c6 := below_join2 c5 b6
                  go_wp2_with fail
                  refine (hme _).mono ?_
                  rintro e w7 ⟨rfl, b7⟩
                  have c7 := below_join2 c6 b7
                  go_wp2_with fail
                  refine (HoA.out _ _ (((LA.below b5).below b6).below b7)).mono ?_
                  rintro e w8 ⟨rfl, b8⟩
                  have c8 := below_join2 c7 b8
                  go_wp2_with fail
                  refine (works2_p _ (hg.below c8)).mono ?_
                  rintro e w19 ⟨rfl, b19⟩
                  go_wp2_with fail
                  go_ret
                  exact ⟨rfl, below_join2 c8 b19⟩
            · have hl0 := lineRule_plain hpos h35 h33
              have hlb := lineRule_bang P
              generalize trimB P = S at *
              have hg0 := un_getElem? S 0 hpos
              have h3 : ((S[0].toNat : Int) == 35) = false := by
                rw [beq_eq_false_iff_ne]; intro e
                exact h35 (by rw [hg0]; congr 1; exact UInt8.toNat_inj.1 (by show S[0].toNat = 35; omega))
              have h3b : ((S[0].toNat : Int) == 33) = false := by
                rw [beq_eq_false_iff_ne]; intro e
                exact h33 (by rw [hg0]; congr 1; exact UInt8.toNat_inj.1 (by show S[0].toNat = 33; omega))
              have h4 : S.toList.isEmpty = false := (isEmpty_false _).2 hpos
              have d2 : (0 : Int) < (S.size : Int) := by omega
              cases hp : patOf S with
              | none =>
                rw [hp] at hl0
                unfold addLine at hA
                rw [hl0] at hA
                simp only [Option.map_none] at hA
                split at hA <;> cases hA
              | some ps =>
                rw [hp] at hl0 hlb
                have era : outB ra (namesB Q) = if takeP (ps ++ [none]) (namesB Q) then true else X := by
                  unfold addLine at hA
                  rw [hl0] at hA
                  simp only [Option.map_some] at hA
                  split at hA
                  · cases hA
                  · cases hA; rw [out_snoc, hX]; rfl
                have erb : outB rb (namesB Q) = if takeP (ps ++ [none]) (namesB Q) then false else X := by
                  unfold addLine at hB
                  rw [hlb] at hB
                  simp only [Option.map_some] at hB
                  split at hB
                  · cases hB
                  · cases hB; rw [out_snoc, hX]; rfl
                have ero : outB r1 (namesB Q) = takeP (ps ++ [none]) (namesB Q) := by
                  unfold addLine at hO
                  rw [hl0] at hO
                  simp only [Option.map_some] at hO
                  split at hO
                  · cases hO
                  · cases hO; rw [out_snoc]; cases takeP (ps ++ [none]) (namesB Q) <;> rfl
                rw [era] at HoA
                rw [erb] at HoB
                rw [ero] at HoO
                clear era erb ero hl0 hlb hA hB hO hX h0 h35 h33 hp hg0
                cases hm : takeP (ps ++ [none]) (namesB Q)
                · rw [hm] at HoA HoB HoO
                  simp only [Bool.false_eq_true, if_false] at HoA HoB
                  clear hm
                  cases X
                  · skip
                    go_enter Tryz.func46, Tryz.ntmps46
                    go_wp2_with fail
                    refine (hh1 _).mono ?_
                    rintro e w ⟨rfl, rfl⟩
                    go_wp2_with fail
                    refine (hh2 _).mono ?_
                    rintro e w ⟨rfl, rfl⟩
                    go_wp2_with fail
                    refine (hwo _).mono ?_
                    rintro e w ⟨rfl, rfl⟩
                    go_wp2_with fail
                    refine (hh3 _).mono ?_
                    rintro e w ⟨rfl, rfl⟩
                    go_wp2_with fail
                    refine (parse_ok hL _ hg zT).mono ?_
                    rintro e w1 ⟨rfl, l1, b1⟩
                    have c1 : Below w.heap.size w w1 := b1
                    go_wp2_with fail
                    try simp only [hSA]
                    refine (parse_ok hA2 _ (hg.below c1) zA).mono ?_
                    rintro e w2 ⟨rfl, l2, b2⟩
                    have c2 : Below w.heap.size w w2 := below_join2 c1 b2
                    go_wp2_with fail
                    try simp only [hSB]
                    refine (parse_ok hB2 _ (hg.below c2) zB).mono ?_
                    rintro e w3 ⟨rfl, l3, b3⟩
                    have c3 : Below w.heap.size w w3 := below_join2 c2 b3
                    go_wp2_with fail
                    refine (parse_ok hO2 _ (hg.below c3) zP).mono ?_
                    rintro e w4 ⟨rfl, l4, b4⟩
                    have c4 : Below w.heap.size w w4 := below_join2 c3 b4
                    have LL := ((l1.below b2).below b3).below b4
                    have LA := (l2.below b3).below b4
                    have LB := l3.below b4
                    clear l1 l2 l3
                    go_wp2_with fail
                    refine (hTr _).mono ?_
                    rintro e w5 ⟨rfl, b5⟩
                    have c5 := below_join2 c4 b5
                    go_wp2_with fail
                    refine (HoO.out _ _ (l4.below b5)).mono ?_
                    rintro e w6 ⟨rfl, b6⟩
                    have c6 := below_join2 c5 b6
                    go_wp2_with fail
                    refine (HoA.out _ _ ((LA.below b5).below b6)).mono ?_
                    rintro e w7 ⟨rfl, b7⟩
                    have c7 := below_join2 c6 b7
                    go_wp2_with fail
                    refine (HoL.out _ _ (((LL.below b5).below b6).below b7)).mono ?_
                    rintro e w8 ⟨rfl, b8⟩
                    have c8 := below_join2 c7 b8
                    go_wp2_with fail
                    refine (HoB.out _ _ ((((LB.below b5).below b6).below b7).below b8)).mono ?_
                    rintro e w9 ⟨rfl, b9⟩
                    have c9 := below_join2 c8 b9
                    go_wp2_with fail
                    refine (HoL.out _ _ (((((LL.below b5).below b6).below b7).below b8).below b9)).mono ?_
                    rintro e w10 ⟨rfl, b10⟩
                    have c10 := below_join2 c9 b10
                    go_wp2_with fail
                    refine (works2_p _ (hg.below c10)).mono ?_
                    rintro e w19 ⟨rfl, b19⟩
                    go_wp2_with fail
                    go_ret
                    exact ⟨rfl, below_join2 c10 b19⟩
                  · skip
                    go_enter Tryz.func46, Tryz.ntmps46
                    go_wp2_with fail
                    refine (hh1 _).mono ?_
                    rintro e w ⟨rfl, rfl⟩
                    go_wp2_with fail
                    refine (hh2 _).mono ?_
                    rintro e w ⟨rfl, rfl⟩
                    go_wp2_with fail
                    refine (hwo _).mono ?_
                    rintro e w ⟨rfl, rfl⟩
                    go_wp2_with fail
                    refine (hh3 _).mono ?_
                    rintro e w ⟨rfl, rfl⟩
                    go_wp2_with fail
                    refine (parse_ok hL _ hg zT).mono ?_
                    rintro e w1 ⟨rfl, l1, b1⟩
                    have c1 : Below w.heap.size w w1 := b1
                    go_wp2_with fail
                    try simp only [hSA]
                    refine (parse_ok hA2 _ (hg.below c1) zA).mono ?_
                    rintro e w2 ⟨rfl, l2, b2⟩
                    have c2 : Below w.heap.size w w2 := below_join2 c1 b2
                    go_wp2_with fail
                    try simp only [hSB]
                    refine (parse_ok hB2 _ (hg.below c2) zB).mono ?_
                    rintro e w3 ⟨rfl, l3, b3⟩
                    have c3 : Below w.heap.size w w3 := below_join2 c2 b3
                    go_wp2_with fail
                    refine (parse_ok hO2 _ (hg.below c3) zP).mono ?_
                    rintro e w4 ⟨rfl, l4, b4⟩
                    have c4 : Below w.heap.size w w4 := below_join2 c3 b4
                    have LL := ((l1.below b2).below b3).below b4
                    have LA := (l2.below b3).below b4
                    have LB := l3.below b4
                    clear l1 l2 l3
                    go_wp2_with fail
                    refine (hTr _).mono ?_
                    rintro e w5 ⟨rfl, b5⟩
                    have c5 := below_join2 c4 b5
                    go_wp2_with fail
                    refine (HoO.out _ _ (l4.below b5)).mono ?_
                    rintro e w6 ⟨rfl, b6⟩
                    have c6 := below_join2 c5 b6
                    go_wp2_with fail
                    refine (HoA.out _ _ ((LA.below b5).below b6)).mono ?_
                    rintro e w7 ⟨rfl, b7⟩
                    have c7 := below_join2 c6 b7
                    go_wp2_with fail
                    refine (HoL.out _ _ (((LL.below b5).below b6).below b7)).mono ?_
                    rintro e w8 ⟨rfl, b8⟩
                    have c8 := below_join2 c7 b8
                    go_wp2_with fail
                    refine (HoB.out _ _ ((((LB.below b5).below b6).below b7).below b8)).mono ?_
                    rintro e w9 ⟨rfl, b9⟩
                    have c9 := below_join2 c8 b9
                    go_wp2_with fail
                    refine (HoL.out _ _ (((((LL.below b5).below b6).below b7).below b8).below b9)).mono ?_
                    rintro e w10 ⟨rfl, b10⟩
                    have c10 := below_join2 c9 b10
                    go_wp2_with fail
                    refine (works2_p _ (hg.below c10)).mono ?_
                    rintro e w19 ⟨rfl, b19⟩
                    go_wp2_with fail
                    go_ret
                    exact ⟨rfl, below_join2 c10 b19⟩
                · rw [hm] at HoA HoB HoO
                  simp only [if_true] at HoA HoB
                  clear hm
                  go_enter Tryz.func46, Tryz.ntmps46
                  go_wp2_with fail
                  refine (hh1 _).mono ?_
                  rintro e w ⟨rfl, rfl⟩
                  go_wp2_with fail
                  refine (hh2 _).mono ?_
                  rintro e w ⟨rfl, rfl⟩
                  go_wp2_with fail
                  refine (hwo _).mono ?_
                  rintro e w ⟨rfl, rfl⟩
                  go_wp2_with fail
                  refine (hh3 _).mono ?_
                  rintro e w ⟨rfl, rfl⟩
                  go_wp2_with fail
                  refine (parse_ok hL _ hg zT).mono ?_
                  rintro e w1 ⟨rfl, l1, b1⟩
                  have c1 : Below w.heap.size w w1 := b1
                  go_wp2_with fail
                  try simp only [hSA]
                  refine (parse_ok hA2 _ (hg.below c1) zA).mono ?_
                  rintro e w2 ⟨rfl, l2, b2⟩
                  have c2 : Below w.heap.size w w2 := below_join2 c1 b2
                  go_wp2_with fail
                  try simp only [hSB]
                  refine (parse_ok hB2 _ (hg.below c2) zB).mono ?_
                  rintro e w3 ⟨rfl, l3, b3⟩
                  have c3 : Below w.heap.size w w3 := below_join2 c2 b3
                  go_wp2_with fail
                  refine (parse_ok hO2 _ (hg.below c3) zP).mono ?_
                  rintro e w4 ⟨rfl, l4, b4⟩
                  have c4 : Below w.heap.size w w4 := below_join2 c3 b4
                  have LL := ((l1.below b2).below b3).below b4
                  have LA := (l2.below b3).below b4
                  have LB := l3.below b4
                  clear l1 l2 l3
                  go_wp2_with fail
                  refine (hTr _).mono ?_
                  rintro e w5 ⟨rfl, b5⟩
                  have c5 := below_join2 c4 b5
                  go_wp2_with fail
                  refine (HoO.out _ _ (l4.below b5)).mono ?_
                  rintro e w6 ⟨rfl, b6⟩
                  have c6 := below_join2 c5 b6
                  go_wp2_with fail
                  refine (HoA.out _ _ ((LA.below b5).below b6)).mono ?_
                  rintro e w7 ⟨rfl, b7⟩
                  have c7 := below_join2 c6 b7
                  go_wp2_with fail
                  refine (HoB.out _ _ (((LB.below b5).below b6).below b7)).mono ?_
                  rintro e w8 ⟨rfl, b8⟩
                  have c8 := below_join2 c7 b8
                  go_wp2_with fail
                  refine (works2_p _ (hg.below c8)).mono ?_
                  rintro e w19 ⟨rfl, b19⟩
                  go_wp2_with fail
                  go_ret
                  exact ⟨rfl, below_join2 c8 b19⟩
end Go.Proofs.YthkbhcefckbcnaaGreatDoor
