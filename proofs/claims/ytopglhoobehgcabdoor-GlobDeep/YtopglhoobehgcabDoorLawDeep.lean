/- GlobDeep, walked: what two stars with a slash ahead of a pattern, or behind it, take. -/
import Derived.Test.YtopglhoobehgcabDoorHead
import Derived.Test.YtopglhoobehgcabDoorJoined
import Derived.Test.YtopglhoobehgcabDoorWorks2
namespace Go.Proofs.YtopglhoobehgcabDoor
open Go Go.RowKit

theorem bool_iff {a b : Bool} (h : a = true ↔ b = true) : a = b := by cases a <;> cases b <;> simp_all
theorem ahead_eq (ps : List Pc) (xs : List ByteArray) : takeP (none :: ps) xs = (List.range (xs.length + 1)).any fun i => takeP ps (xs.drop i) :=
  bool_iff (by rw [takeP_ahead]; simp [Nat.lt_succ_iff])
theorem behind_eq (ps : List Pc) (xs : List ByteArray) : takeP (ps ++ [none]) xs = (List.range (xs.length + 1)).any fun i => takeP ps (xs.take i) :=
  bool_iff (by rw [takeP_behind]; simp [Nat.lt_succ_iff])
theorem any_succ (f : Nat → Bool) (k : Nat) : (List.range (k + 1)).any f = ((List.range k).any f || f k) := by simp [List.range_succ]
theorem match_join {pat : ByteArray} {ps : List Pc} (h : patOf pat = some ps) (xs : List ByteArray) (hx : ∀ x ∈ xs, GoodB x) : matchB pat (bs (joinL xs)) = takeP ps xs := by
  unfold matchB; rw [h]; simp only []; rw [namesB_join xs hx]

set_option maxRecDepth 100000 in
set_option maxHeartbeats 8000000 in
theorem deep_law (pt p : ByteArray) (w : World) (hg : ErrType w) (_hp : pt.size ≤ 140737488351232) (_hq : p.size ≤ 140737488351232) :
    Calls Tryd.prog 3 #[.string pt, .string p] w fun e w' => e = .returned (.bool true) ∧ Below w.heap.size w w' := by
  have z1 := headB_size pt 1000
  have z2 := headB_size p 400
  have hh1 := fun W => head_p pt 1000 W (by decide) (by decide)
  have hh2 := fun W => head_p p 400 W (by decide) (by decide)
  obtain ⟨a, ha⟩ : ∃ a, headB pt 1000 = a := ⟨_, rfl⟩
  obtain ⟨b, hb⟩ : ∃ b, headB p 400 = b := ⟨_, rfl⟩
  rw [ha] at z1 hh1
  rw [hb] at z2 hh2
  clear ha hb
  have hm1 := fun W => match_p a b W (by omega) (by omega)
  cases hpat : patOf a with
  | none =>
    have e1 : perr a = .iface 43 (.int .i64 24) := perr_bad (by rw [hpat]; rfl)
    rw [e1] at hm1
    clear hpat e1
    go_enter Tryd.func3, Tryd.ntmps3
    go_wp2_with fail
    refine (hh1 _).mono ?_
    rintro e w1 ⟨rfl, rfl⟩
    go_wp2_with fail
    refine (hh2 _).mono ?_
    rintro e w1 ⟨rfl, rfl⟩
    go_wp2_with fail
    refine (hm1 _).mono ?_
    rintro e w1 ⟨rfl, b1⟩
    go_wp2_with fail
    refine (plain_some 24 (by decide) (by decide) _ (hg.below b1)).mono ?_
    rintro e w2 ⟨rfl, b2⟩
    replace b2 := below_join2 b1 b2
    clear b1
    go_wp2_with fail
    refine (works2_p _ (hg.below b2)).mono ?_
    rintro e w3 ⟨rfl, b3⟩
    replace b3 := below_join2 b2 b3
    go_wp2_with fail
    go_ret
    exact ⟨rfl, b3⟩
  | some ps =>
    have e1 : perr a = .nilIface := perr_ok (by rw [hpat]; rfl)
    rw [e1] at hm1
    obtain ⟨xs, hxs⟩ : ∃ xs, namesB b = xs := ⟨_, rfl⟩
    have hw := wt_names b
    rw [hxs] at hw
    have hlx := length_wt xs
    have HG : Hid (∀ x ∈ xs, GoodB x) := fun x hx => namesB_good b x (by rw [hxs]; exact hx)
    have hjz : ∀ l : List ByteArray, wt l ≤ 401 → (bs (joinL l)).size ≤ 401 := fun l hl => by rw [size_bs]; exact Nat.le_trans (joinL_length l) hl
    have HM1 : Hid (∀ k, k ≤ xs.length → ∀ W, Calls Tryd.prog 6 #[.string a, .string (bs (joinL ((xs.take xs.length).drop k)))] W fun e w' => e = .returned (.tuple #[.bool (takeP ps (xs.drop k)), .nilIface]) ∧ Below W.heap.size W w') := fun k hk W => by
      have h := match_p a (bs (joinL ((xs.take xs.length).drop k))) W (by omega) (by have := hjz ((xs.take xs.length).drop k) (by have := wt_take xs xs.length k; omega); omega)
      rw [e1, match_join hpat _ (fun x hx => HG.out x (List.mem_of_mem_take (List.mem_of_mem_drop hx)))] at h
      rw [List.take_length] at h ⊢
      exact h
    have HM2 : Hid (∀ k, k ≤ xs.length → ∀ W, Calls Tryd.prog 6 #[.string a, .string (bs (joinL ((xs.take k).drop 0)))] W fun e w' => e = .returned (.tuple #[.bool (takeP ps (xs.take k)), .nilIface]) ∧ Below W.heap.size W w') := fun k hk W => by
      have h := match_p a (bs (joinL ((xs.take k).drop 0))) W (by omega) (by have := hjz ((xs.take k).drop 0) (by have := wt_take xs k 0; omega); omega)
      rw [e1, match_join hpat _ (fun x hx => HG.out x (List.mem_of_mem_take (List.mem_of_mem_drop hx)))] at h
      rw [List.drop_zero] at h ⊢
      exact h
    have sz1 : ((⟨#[42, 42, 47]⟩ : ByteArray) ++ a).size = 3 + a.size := by rw [ByteArray.size_append]; rfl
    have sz2 : (a ++ (⟨#[47, 42, 42]⟩ : ByteArray)).size = a.size + 3 := by rw [ByteArray.size_append]; rfl
    have HF1 : Hid (∀ W, Calls Tryd.prog 6 #[.string (⟨#[42, 42, 47]⟩ ++ a), .string b] W fun e w' => e = .returned (.tuple #[.bool ((List.range (xs.length + 1)).any fun i => takeP ps (xs.drop i)), .nilIface]) ∧ Below W.heap.size W w') := fun W => by
      have h := match_p (⟨#[42, 42, 47]⟩ ++ a) b W (by omega) (by omega)
      have hp2 := pat_ahead a ps z1 hpat
      rw [perr_ok (by rw [hp2]; rfl)] at h
      have e2 : matchB (⟨#[42, 42, 47]⟩ ++ a) b = takeP (none :: ps) xs := by unfold matchB; rw [hp2, hxs]
      rw [e2, ahead_eq] at h; exact h
    have HF2 : Hid (∀ W, Calls Tryd.prog 6 #[.string (a ++ ⟨#[47, 42, 42]⟩), .string b] W fun e w' => e = .returned (.tuple #[.bool ((List.range (xs.length + 1)).any fun i => takeP ps (xs.take i)), .nilIface]) ∧ Below W.heap.size W w') := fun W => by
      have h := match_p (a ++ ⟨#[47, 42, 42]⟩) b W (by omega) (by omega)
      have hp2 := pat_behind a ps z1 hpat
      rw [perr_ok (by rw [hp2]; rfl)] at h
      have e2 : matchB (a ++ ⟨#[47, 42, 42]⟩) b = takeP (ps ++ [none]) xs := by unfold matchB; rw [hp2, hxs]
      rw [e2, behind_eq] at h; exact h
    have hnr := fun W => names_r b W (by omega)
    rw [hxs] at hnr
    clear hpat e1 hxs hjz
    go_enter Tryd.func3, Tryd.ntmps3
    go_wp2_with fail
    refine (hh1 _).mono ?_
    rintro e w1 ⟨rfl, rfl⟩
    go_wp2_with fail
    refine (hh2 _).mono ?_
    rintro e w1 ⟨rfl, rfl⟩
    go_wp2_with fail
    refine (hm1 _).mono ?_
    rintro e w1 ⟨rfl, b1⟩
    go_wp2_with fail
    refine (hnr _).mono ?_
    rintro e w3 ⟨u, rfl, ho, b3⟩
    replace b3 := below_join2 b1 b3
    clear b1
    obtain ⟨o, cp, rfl⟩ : ∃ o c, u = .slice o xs.length c := by
      rcases ho.2 with ⟨rfl, h0⟩ | ⟨g, cap, cur, rfl, _⟩
      · exact ⟨none, 0, by rw [h0]⟩
      · exact ⟨_, _, rfl⟩
    have Ho : Hid (w3.ownsRow w1.heap.size 9 1 (.slice o xs.length cp) xs.length (strs xs)) := ho
    clear ho hm1 hnr hh1 hh2
    go_wp2_with fail
    go_loopw [8, 9, 10] (fun s8 s9 s10 wr => ∃ (k : Nat), s10 = .int .i64 k ∧ k ≤ xs.length + 1 ∧ s8 = .bool ((List.range k).any fun i => takeP ps (xs.drop i)) ∧ s9 = .bool ((List.range k).any fun i => takeP ps (xs.take i)) ∧ Below w3.heap.size w3 wr) (fun _ _ i _ => xs.length + 1 - (intOf i).toNat)
    case atStart => exact ⟨0, rfl, by omega, rfl, rfl, Below.refl _ _⟩
    case round =>
      obtain ⟨k, rfl, hk, rfl, rfl, hB⟩ := hrel
      by_cases hlt : k ≤ xs.length
      · have ha1 := any_succ (fun i => takeP ps (xs.drop i)) k
        have ha2 := any_succ (fun i => takeP ps (xs.take i)) k
        have hown := own_below Ho.out hB
        have hc1 := joined_p xs _ _ k xs.length wr hown hlt (Nat.le_refl _) (by omega)
        have hc2 := HM1.out k hlt
        have hc4 := HM2.out k hlt
        have hc3 := fun W (hb : Below wr.heap.size wr W) => joined_p xs _ _ 0 k W (own_below hown hb) (Nat.zero_le _) hlt (by omega)
        obtain ⟨A, hA⟩ : ∃ A, ((List.range k).any fun i => takeP ps (xs.drop i)) = A := ⟨_, rfl⟩
        obtain ⟨B, hBB⟩ : ∃ B, ((List.range k).any fun i => takeP ps (xs.take i)) = B := ⟨_, rfl⟩
        obtain ⟨s1, hs1⟩ : ∃ s1, bs (joinL ((xs.take xs.length).drop k)) = s1 := ⟨_, rfl⟩
        obtain ⟨s2, hs2⟩ : ∃ s2, bs (joinL ((xs.take k).drop 0)) = s2 := ⟨_, rfl⟩
        obtain ⟨m1, hm1⟩ : ∃ m1, takeP ps (xs.drop k) = m1 := ⟨_, rfl⟩
        obtain ⟨m2, hm2⟩ : ∃ m2, takeP ps (xs.take k) = m2 := ⟨_, rfl⟩
        rw [hA, hm1] at ha1
        rw [hBB, hm2] at ha2
        rw [hs1] at hc1 hc2
        rw [hs2] at hc3 hc4
        rw [hm1] at hc2
        rw [hm2] at hc4
        rw [hA, hBB]
        have H1 : Hid _ := ha1
        have H2 : Hid _ := ha2
        clear ha1 ha2 hA hBB hs1 hs2 hm1 hm2 hown
        cases A <;> cases B
        all_goals go_wp2_with fail
        all_goals refine hc1.mono ?_
        all_goals rintro e w4 ⟨rfl, rfl⟩
        all_goals go_wp2_with fail
        all_goals refine (hc2 _).mono ?_
        all_goals rintro e w5 ⟨rfl, b5⟩
        all_goals go_wp2_with fail
        all_goals refine (hc3 _ b5).mono ?_
        all_goals rintro e w6 ⟨rfl, rfl⟩
        all_goals go_wp2_with fail
        all_goals refine (hc4 _).mono ?_
        all_goals rintro e w7 ⟨rfl, b7⟩
        all_goals have hB7 : Below w3.heap.size w3 w7 := (hB.trans (b5.mono hB.size)).trans (b7.mono (hB.trans (b5.mono hB.size)).size)
        all_goals go_wp2_with fail
        all_goals exact ⟨⟨k + 1, by go_num, by omega, by rw [H1.out]; rfl, by rw [H2.out]; rfl, hB7⟩, by simp [intOf]; omega⟩
      · obtain rfl : k = xs.length + 1 := by omega
        have hf1 := HF1.out
        have hf2 := HF2.out
        obtain ⟨A, hA⟩ : ∃ A, ((List.range (xs.length + 1)).any fun i => takeP ps (xs.drop i)) = A := ⟨_, rfl⟩
        obtain ⟨B, hBB⟩ : ∃ B, ((List.range (xs.length + 1)).any fun i => takeP ps (xs.take i)) = B := ⟨_, rfl⟩
        obtain ⟨s1, hs1⟩ : ∃ s1, (⟨#[42, 42, 47]⟩ : ByteArray) ++ a = s1 := ⟨_, rfl⟩
        obtain ⟨s2, hs2⟩ : ∃ s2, a ++ (⟨#[47, 42, 42]⟩ : ByteArray) = s2 := ⟨_, rfl⟩
        rw [hA, hs1] at hf1
        rw [hBB, hs2] at hf2
        rw [hA, hBB]
        have hAA : (A == A) = true := by simp
        have hB2 : (B == B) = true := by simp
        have d1 : ¬ ((xs.length + 1 : Nat) : Int) ≤ (xs.length : Int) := by omega
        clear hA hBB sz1 sz2
        go_wp2_with fail
        refine (hf1 _).mono ?_
        rintro e w4 ⟨rfl, b4⟩
        go_wp2_with fail
        refine (hf2 _).mono ?_
        rintro e w5 ⟨rfl, b5⟩
        have hB5 := below_join2 (below_join2 (below_join2 b3 hB) b4) b5
        go_wp2_with fail
        refine (works2_p _ (hg.below hB5)).mono ?_
        rintro e w6 ⟨rfl, b6⟩
        replace b6 := below_join2 hB5 b6
        go_wp2_with fail
        go_ret
        exact ⟨rfl, b6⟩
end Go.Proofs.YtopglhoobehgcabDoor
