/- The document's Names: namesL, for every text. -/
import Derived.Test.YtjmekcakiacdfabGreatDoorDcL
import Derived.Test.YtjmekcakiacdfabGreatDoorNmuW
import Derived.Deep.Cut
namespace Go.Proofs.YtjmekcakiacdfabGreatDoor
open Go Go.RowKit

set_option maxHeartbeats 4000000 in
set_option maxRecDepth 100000 in
theorem names_d (s : ByteArray) (e : UInt8) (W : World) (hs : s.size ≤ 1099511627776) : Calls Tryz.prog 25 #[.string s, .int .u8 e.toNat] W fun x w' => ∃ v, x = .returned v ∧ w'.ownsRow W.heap.size 9 1 v (namesL e (un s)).length (nsC (namesL e (un s))) ∧ Below W.heap.size W w' := by
  have hsl := un_length s
  have hd0 : DR (W.alloc (.cells #[.string s, .int .i64 0, .int .u8 e.toNat, .int .i64 0, .slice none 0 0] 79)) W.heap.size W.heap.size s e 0 0 (.slice none 0 0) [] := ⟨Lies.new W _ _, World.ownsRow_nil _ _ _ _⟩
  have hp := plain0_r _ W.heap.size W.heap.size s e (.slice none 0 0) hd0 (by rw [World.size_alloc]; omega) hs
  have b0 : Below W.heap.size W (W.alloc (.cells #[.string s, .int .i64 0, .int .u8 e.toNat, .int .i64 0, .slice none 0 0] 79)) := (Below.refl _ W).alloc (Nat.le_refl _) _
  clear hd0
  go_enter Tryz.func25, Tryz.ntmps25
  go_upto_region 2 with fail
  generalize (W.alloc (.cells #[.string s, .int .i64 0, .int .u8 e.toNat, .int .i64 0, .slice none 0 0] 79)) = W1 at *
  go_upto_region 3 with (go_at_call 35; refine hp.mono ?_; rintro x w2 ⟨lv, ts, us, k2, no2, v2, ns2, rfl, hd, _, hr, _, _, hok, hbad⟩)
  have hb : Below W.heap.size W w2 := b0.trans (hr.below b0.size (fun j hj => by
    rcases hj with rfl | hj
    · exact Nat.le_refl _
    · cases hj))
  obtain ⟨va, vc, g, rfl, _⟩ := own_form hd.own
  have c3 := hd.lies.cell (i := 3) rfl
  have c4 := hd.lies.cell (i := 4) rfl
  have HO : Hid _ := hd.own
  have HB : Hid _ := hb
  clear hr hd hb hp b0
  by_cases h0 : no2 = 0
  · have q : ((no2 : Int) != 0) = false := by subst h0; rfl
    obtain ⟨q1, q2, q3, q4, q5⟩ := hok h0
    have HN : Hid (namesL e (un s) = ns2) := by
      rw [show (un s).drop k2 = [] from List.drop_of_length_le (by rw [hsl]; omega), List.drop_zero] at q2
      obtain ⟨h1, h2⟩ := whole_ok (m := 0) (by omega) q2
      unfold Hid namesL
      rw [if_neg (by omega), q3]
      exact h2.2 []
    clear hok hbad h0 q1 q2 q3 q4 q5
    go_wp2
    go_ret
    exact ⟨_, rfl, by rw [HN.out]; exact HO.out, HB.out⟩
  · have q : ((no2 : Int) != 0) = true := by unfold bne; rw [show ((no2 : Int) == 0) = false by rw [beq_eq_false_iff_ne]; omega]; rfl
    have HN : Hid (namesL e (un s) = []) := by
      have h1 := (hbad h0).2
      rw [List.drop_zero] at h1
      unfold Hid namesL
      rw [if_pos (by rw [h1.1]; exact h0)]
    clear hok hbad h0
    go_wp2
    go_ret
    exact ⟨_, rfl, by rw [HN.out]; exact World.ownsRow_nil _ _ _ _, HB.out⟩
end Go.Proofs.YtjmekcakiacdfabGreatDoor
