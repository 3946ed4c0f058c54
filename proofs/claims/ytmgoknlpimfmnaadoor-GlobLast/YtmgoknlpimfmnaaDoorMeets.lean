/- Does a pattern match a text of the first names of another? -/
import Derived.Test.YtmgoknlpimfmnaaDoorHead
import Derived.Test.YtmgoknlpimfmnaaDoorJoined
import Derived.Test.YtmgoknlpimfmnaaDoorWorks2
namespace Go.Proofs.YtmgoknlpimfmnaaDoor
open Go Go.RowKit

theorem bool_iff {a b : Bool} (h : a = true ↔ b = true) : a = b := by cases a <;> cases b <;> simp_all
theorem behind_eq (ps : List Pc) (xs : List ByteArray) : takeP (ps ++ [none]) xs = (List.range (xs.length + 1)).any fun i => takeP ps (xs.take i) :=
  bool_iff (by rw [takeP_behind]; simp [Nat.lt_succ_iff])
theorem any_succ (f : Nat → Bool) (k : Nat) : (List.range (k + 1)).any f = ((List.range k).any f || f k) := by simp [List.range_succ]
theorem match_join {pat : ByteArray} {ps : List Pc} (h : patOf pat = some ps) (xs : List ByteArray) (hx : ∀ x ∈ xs, GoodB x) : matchB pat (bs (joinL xs)) = takeP ps xs := by
  unfold matchB; rw [h]; simp only []; rw [namesB_join xs hx]

/-- Whether a pattern takes some of the first names. -/
def meetsB (pat p : ByteArray) : Bool := match patOf pat with | none => false | some ps => takeP (ps ++ [none]) (namesB p)

set_option maxRecDepth 100000 in
set_option maxHeartbeats 8000000 in
theorem meets_p (a b : ByteArray) (w : World) (za : a.size ≤ 1000) (zb : b.size ≤ 1000) :
    Calls Tryd.prog 10 #[.string a, .string b] w fun e w' => e = .returned (.bool (meetsB a b)) ∧ Below w.heap.size w w' := by
  obtain ⟨xs, hxs⟩ : ∃ xs, namesB b = xs := ⟨_, rfl⟩
  have hw := wt_names b
  rw [hxs] at hw
  have hlx := length_wt xs
  have HG : Hid (∀ x ∈ xs, GoodB x) := fun x hx => namesB_good b x (by rw [hxs]; exact hx)
  have hjz : ∀ l : List ByteArray, wt l ≤ 1001 → (bs (joinL l)).size ≤ 1001 := fun l hl => by rw [size_bs]; exact Nat.le_trans (joinL_length l) hl
  have hnr := fun W => names_r b W (by omega)
  rw [hxs] at hnr
  cases hpat : patOf a with
  | none =>
    have e1 : perr a = .iface 38 (.int .i64 24) := perr_bad (by rw [hpat]; rfl)
    have HV : Hid (meetsB a b = false) := by unfold Hid meetsB; rw [hpat]
    have HM : Hid (∀ k, k ≤ xs.length → ∀ W, Calls Tryd.prog 14 #[.string a, .string (bs (joinL ((xs.take k).drop 0)))] W fun e w' => e = .returned (.tuple #[.bool false, .iface 38 (.int .i64 24)]) ∧ Below W.heap.size W w') := fun k hk W => by
      have h := match_p a (bs (joinL ((xs.take k).drop 0))) W (by omega) (by have := hjz ((xs.take k).drop 0) (by have := wt_take xs k 0; omega); omega)
      have e2 : matchB a (bs (joinL ((xs.take k).drop 0))) = false := by unfold matchB; rw [hpat]
      rw [e1, e2] at h
      exact h
    clear hpat e1 hxs hjz
    go_enter Tryd.func10, Tryd.ntmps10
    go_wp2_with fail
    refine (hnr _).mono ?_
    rintro e w3 ⟨u, rfl, ho, b3⟩
    obtain ⟨o, cp, rfl⟩ : ∃ o c, u = .slice o xs.length c := by
      rcases ho.2 with ⟨rfl, h0⟩ | ⟨g, cap, cur, rfl, _⟩
      · exact ⟨none, 0, by rw [h0]⟩
      · exact ⟨_, _, rfl⟩
    go_wp2_with fail
    go_loopw [6] (fun x wr => ∃ k : Nat, x = .int .i64 k ∧ k ≤ xs.length + 1 ∧ wr.ownsRow w.heap.size 9 1 (.slice o xs.length cp) xs.length (strs xs) ∧ Below w.heap.size w wr) (fun x _ => xs.length + 1 - (intOf x).toNat)
    case atStart => exact ⟨0, rfl, by omega, ho, b3⟩
    case round =>
      obtain ⟨k, rfl, hk, ho2, b4⟩ := hrel
      by_cases hlt : k ≤ xs.length
      · have HO : Hid _ := ho2
        have hd1 : decide ((k : Int) ≤ (xs.length : Int)) = true := by simp; omega
        go_wp2_with fail
        refine (joined_p xs w.heap.size _ 0 k _ HO.out (by omega) hlt (by omega)).mono ?_
        rintro e w5 ⟨rfl, rfl⟩
        go_wp2_with fail
        refine (HM.out k hlt _).mono ?_
        rintro e w6 ⟨rfl, b6⟩
        go_wp2_with fail
        go_roundw
        case rel => exact ⟨k + 1, by go_num, by omega, own_below HO.out b6, below_join2 b4 b6⟩
        case measure => simp [intOf]; omega
      · have hd1 : ¬ (k : Int) ≤ (xs.length : Int) := by omega
        go_wp2_with fail
        go_ret
        exact ⟨by rw [HV.out]; rfl, b4⟩
  | some ps =>
    have e1 : perr a = .nilIface := perr_ok (by rw [hpat]; rfl)
    have HV : Hid (meetsB a b = (List.range (xs.length + 1)).any fun i => takeP ps (xs.take i)) := by unfold Hid meetsB; rw [hpat, hxs]; exact behind_eq _ _
    have HM : Hid (∀ k, k ≤ xs.length → ∀ W, Calls Tryd.prog 14 #[.string a, .string (bs (joinL ((xs.take k).drop 0)))] W fun e w' => e = .returned (.tuple #[.bool (takeP ps (xs.take k)), .nilIface]) ∧ Below W.heap.size W w') := fun k hk W => by
      have h := match_p a (bs (joinL ((xs.take k).drop 0))) W (by omega) (by have := hjz ((xs.take k).drop 0) (by have := wt_take xs k 0; omega); omega)
      rw [e1, match_join hpat _ (fun x hx => HG.out x (List.mem_of_mem_take (List.mem_of_mem_drop hx)))] at h
      rw [List.drop_zero] at h ⊢
      exact h
    clear hpat e1 hxs hjz
    go_enter Tryd.func10, Tryd.ntmps10
    go_wp2_with fail
    refine (hnr _).mono ?_
    rintro e w3 ⟨u, rfl, ho, b3⟩
    obtain ⟨o, cp, rfl⟩ : ∃ o c, u = .slice o xs.length c := by
      rcases ho.2 with ⟨rfl, h0⟩ | ⟨g, cap, cur, rfl, _⟩
      · exact ⟨none, 0, by rw [h0]⟩
      · exact ⟨_, _, rfl⟩
    go_wp2_with fail
    go_loopw [6] (fun x wr => ∃ k : Nat, x = .int .i64 k ∧ k ≤ xs.length + 1 ∧ wr.ownsRow w.heap.size 9 1 (.slice o xs.length cp) xs.length (strs xs) ∧ Below w.heap.size w wr ∧ ((List.range k).any fun i => takeP ps (xs.take i)) = false) (fun x _ => xs.length + 1 - (intOf x).toNat)
    case atStart => exact ⟨0, rfl, by omega, ho, b3, rfl⟩
    case round =>
      obtain ⟨k, rfl, hk, ho2, b4, hno⟩ := hrel
      have HN : Hid _ := hno
      clear hno
      by_cases hlt : k ≤ xs.length
      · have HO : Hid _ := ho2
        have hd1 : decide ((k : Int) ≤ (xs.length : Int)) = true := by simp; omega
        have hmk := HM.out k hlt
        cases ht : takeP ps (xs.take k)
        · rw [ht] at hmk
          have HT : Hid _ := ht
          clear ht
          go_wp2_with fail
          refine (joined_p xs w.heap.size _ 0 k _ HO.out (by omega) hlt (by omega)).mono ?_
          rintro e w5 ⟨rfl, rfl⟩
          go_wp2_with fail
          refine (hmk _).mono ?_
          rintro e w6 ⟨rfl, b6⟩
          go_wp2_with fail
          go_roundw
          case rel => exact ⟨k + 1, by go_num, by omega, own_below HO.out b6, below_join2 b4 b6, by rw [any_succ, HN.out, HT.out]; rfl⟩
          case measure => simp [intOf]; omega
        · rw [ht] at hmk
          have HT : Hid _ := ht
          clear ht
          go_wp2_with fail
          refine (joined_p xs w.heap.size _ 0 k _ HO.out (by omega) hlt (by omega)).mono ?_
          rintro e w5 ⟨rfl, rfl⟩
          go_wp2_with fail
          refine (hmk _).mono ?_
          rintro e w6 ⟨rfl, b6⟩
          go_wp2_with fail
          go_ret
          refine ⟨?_, below_join2 b4 b6⟩
          have ha : ((List.range (xs.length + 1)).any fun i => takeP ps (xs.take i)) = true := List.any_eq_true.2 ⟨k, by simp; omega, HT.out⟩
          rw [HV.out, ha]; rfl
      · have hd1 : ¬ (k : Int) ≤ (xs.length : Int) := by omega
        have hke : k = xs.length + 1 := by omega
        go_wp2_with fail
        go_ret
        refine ⟨?_, b4⟩
        have ha := HN.out
        rw [hke] at ha
        rw [HV.out, ha]; rfl
end Go.Proofs.YtmgoknlpimfmnaaDoor
