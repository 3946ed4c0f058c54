/- GlobQuoted, walked: a quoted text matches just the texts with the same names. -/
import Derived.Test.YtopglhoobehgcaaDoorQuot
import Derived.Test.YtopglhoobehgcaaDoorWorks2
namespace Go.Proofs.YtopglhoobehgcaaDoor
open Go.RowKit

theorem names_len (s : ByteArray) : (namesB s).length = 0 ↔ namesB s = [] := List.length_eq_zero_iff

set_option maxHeartbeats 2000000 in
theorem quoted_law (p q : ByteArray) (w : World) (hg : ErrType w) (_hp : p.size ≤ 140737488351232) (_hq : q.size ≤ 140737488351232) :
    Calls Tryd.prog 5 #[.string p, .string q] w fun e w' => e = .returned (.bool true) ∧ Below w.heap.size w w' := by
  have z1 := headB_size p 510
  have z2 := headB_size q 2000
  have hh1 := fun W => head_p p 510 W (by decide) (by decide)
  have hh2 := fun W => head_p q 2000 W (by decide) (by decide)
  obtain ⟨a, ha⟩ : ∃ a, headB p 510 = a := ⟨_, rfl⟩
  obtain ⟨b, hb⟩ : ∃ b, headB q 2000 = b := ⟨_, rfl⟩
  rw [ha] at z1 hh1
  rw [hb] at z2 hh2
  clear ha hb
  have z3 : (bs (quoteL (un a))).size ≤ 1020 := by rw [size_bs]; have := quoteL_length (un a); rw [un_length] at this; omega
  obtain ⟨c, hc⟩ : ∃ c, bs (quoteL (un a)) = c := ⟨_, rfl⟩
  have hquo := fun W => quoted_p a W (by omega)
  have hm1 := fun W => match_p c a W (by rw [← hc]; omega) (by omega)
  have hm2 := fun W => match_p c b W (by rw [← hc]; omega) (by omega)
  rw [hc] at hquo
  cases hn : decide (namesB a = [])
  · have hne := of_decide_eq_false hn
    have e1 : perr c = .nilIface := perr_ok (by rw [← hc, pat_quote a z1, if_neg hne]; rfl)
    have e2 : matchB c a = true := by rw [← hc, match_quote a a z1 hne]; simp
    have e3 : matchB c b = (namesL (un a) == namesL (un b)) := by rw [← hc, match_quote a b z1 hne]; exact Bool.beq_comm
    rw [e1, e2] at hm1
    rw [e1, e3] at hm2
    have hl : (((namesB a).length : Nat) : Int) ≠ 0 := by
      intro e; exact hne ((names_len a).1 (by omega))
    have hlb : (((namesB a).length : Int) == 0) = false := by simpa using hl
    have hbb : ((namesL (un a) == namesL (un b)) == (namesL (un a) == namesL (un b))) = true := by simp
    clear hc hn e1 e2 e3 hne z3
    go_enter Tryd.func5, Tryd.ntmps5
    go_wp2_with fail
    refine (hh1 _).mono ?_
    rintro e w1 ⟨rfl, rfl⟩
    go_wp2_with fail
    refine (hh2 _).mono ?_
    rintro e w1 ⟨rfl, rfl⟩
    go_wp2_with fail
    refine (hquo _).mono ?_
    rintro e w1 ⟨rfl, rfl⟩
    go_wp2_with fail
    refine (hm1 _).mono ?_
    rintro e w1 ⟨rfl, b1⟩
    go_wp2_with fail
    refine (hm2 _).mono ?_
    rintro e w2 ⟨rfl, b2⟩
    replace b2 := below_join2 b1 b2
    clear b1
    go_wp2_with fail
    refine (names_r a _ (by omega)).mono ?_
    rintro e w3 ⟨v, rfl, ho, b3⟩
    replace b3 := below_join2 b2 b3
    clear b2
    obtain ⟨o, cp, rfl⟩ : ∃ o c, v = .slice o (namesB a).length c := by
      rcases ho.2 with ⟨rfl, h0⟩ | ⟨g, cap, cur, rfl, _⟩
      · exact ⟨none, 0, by rw [h0]⟩
      · exact ⟨_, _, rfl⟩
    clear ho
    go_wp2_with fail
    refine (sameNames_p a b _ (by omega) (by omega)).mono ?_
    rintro e w4 ⟨rfl, b4⟩
    replace b4 := below_join2 b3 b4
    clear b3
    go_wp2_with fail
    go_ret
    first | exact ⟨rfl, b4⟩ | exact ⟨by rw [hbb]; rfl, b4⟩
  · have hne := of_decide_eq_true hn
    have e1 : perr c = .iface 37 (.int .i64 24) := perr_bad (by rw [← hc, pat_quote a z1, if_pos hne]; rfl)
    have e2 : matchB c a = false := by unfold matchB; rw [← hc, pat_quote a z1, if_pos hne]
    have e3 : matchB c b = false := by unfold matchB; rw [← hc, pat_quote a z1, if_pos hne]
    rw [e1, e2] at hm1
    rw [e1, e3] at hm2
    have hlb : (((namesB a).length : Int) == 0) = true := by rw [hne]; rfl
    clear hc hn e1 e2 e3 hne z3
    go_enter Tryd.func5, Tryd.ntmps5
    go_wp2_with fail
    refine (hh1 _).mono ?_
    rintro e w1 ⟨rfl, rfl⟩
    go_wp2_with fail
    refine (hh2 _).mono ?_
    rintro e w1 ⟨rfl, rfl⟩
    go_wp2_with fail
    refine (hquo _).mono ?_
    rintro e w1 ⟨rfl, rfl⟩
    go_wp2_with fail
    refine (hm1 _).mono ?_
    rintro e w1 ⟨rfl, b1⟩
    go_wp2_with fail
    refine (hm2 _).mono ?_
    rintro e w2 ⟨rfl, b2⟩
    replace b2 := below_join2 b1 b2
    clear b1
    go_wp2_with fail
    refine (names_r a _ (by omega)).mono ?_
    rintro e w3 ⟨v, rfl, ho, b3⟩
    replace b3 := below_join2 b2 b3
    clear b2
    obtain ⟨o, cp, rfl⟩ : ∃ o c, v = .slice o (namesB a).length c := by
      rcases ho.2 with ⟨rfl, h0⟩ | ⟨g, cap, cur, rfl, _⟩
      · exact ⟨none, 0, by rw [h0]⟩
      · exact ⟨_, _, rfl⟩
    clear ho
    go_wp2_with fail
    refine (plain_some 24 (by decide) (by decide) _ (hg.below b3)).mono ?_
    rintro e w4 ⟨rfl, b4⟩
    replace b4 := below_join2 b3 b4
    clear b3
    go_wp2_with fail
    refine (works2_p _ (hg.below b4)).mono ?_
    rintro e w5 ⟨rfl, b5⟩
    replace b5 := below_join2 b4 b5
    go_wp2_with fail
    go_ret
    exact ⟨rfl, b5⟩
end Go.Proofs.YtopglhoobehgcaaDoor
