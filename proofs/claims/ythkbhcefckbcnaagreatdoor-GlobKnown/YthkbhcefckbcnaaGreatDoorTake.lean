/- Package glob's take: takers, one behind the other, are tried at things; whoever tells it what a taker takes. -/
import Derived.Test.YthkbhcefckbcnaaGreatDoorProg
import Derived.Test.YthkbhcefckbcnaaGreatDoorTakeM
import Derived.WalkKit
import Derived.LoopN
import Derived.Deep.LoopGhost
import Derived.WalkMore
namespace Go.Proofs.YthkbhcefckbcnaaGreatDoor
open Go Go.RowKit

/-- The function fm over lm answers m, and ft over lt answers t, in every world that has grown out of w. -/
structure Tells (w : World) (n T : Nat) (m : Nat → Bool) (t : Nat → Nat → Bool) (fm ft : Nat) (lm lt : Array Value) : Prop where
  em : ∀ args W, (callFunc fm args).run Tryz.prog W = .ok (.enter fm args) W
  et : ∀ args W, (callFunc ft args).run Tryz.prog W = .ok (.enter ft args) W
  hm : ∀ (i : Nat) (W : World), i < n → Below w.heap.size w W → Calls Tryz.prog fm (#[.int .i64 i] ++ lm) W fun e W2 => e = .returned (.bool (m i)) ∧ Below W.heap.size W W2
  ht : ∀ (i k : Nat) (W : World), i < n → k < T → m i = false → Below w.heap.size w W → Calls Tryz.prog ft (#[.int .i64 i, .int .i64 k] ++ lt) W fun e W2 => e = .returned (.bool (t i k)) ∧ Below W.heap.size W W2

set_option maxRecDepth 100000 in
set_option maxHeartbeats 4000000 in
theorem take_p (w : World) (n T : Nat) (m : Nat → Bool) (t : Nat → Nat → Bool) (fm ft : Nat) (lm lt : Array Value) (hn : n ≤ 1099511627776) (hT : T ≤ 1099511627776) (hc : Tells w n T m t fm ft lm lt) :
    Calls Tryz.prog 75 #[.int .i64 n, .int .i64 T, .func (.func fm) #[] lm, .func (.func ft) #[] lt] w fun e w' => e = .returned (.bool (takenB m t n T)) ∧ Below w.heap.size w w' := by
  have em := hc.em
  have et := hc.et
  go_enter Tryz.func75, Tryz.ntmps75
  go_wp2
  go_step3
  go_wp2
  go_step3
  go_wp2
  go_loopg [9, 10, 11] (n * (T + 3) + (T + 2)) (fun gk a b c wr => ∃ (first frm : Nat) (free : Bool), a = .int .i64 first ∧ b = .int .i64 frm ∧ c = .bool free ∧ Aside (first ≤ n ∧ (free = false → frm ≤ T) ∧ frm ≤ T + 1 ∧ (n - first) * (T + 3) + (T + 2 - frm) ≤ gk ∧ Keeps m t n T first frm free) ∧ Below w.heap.size w wr)
  case atStart => exact ⟨0, 0, false, rfl, rfl, rfl, ⟨Nat.zero_le _, fun _ => Nat.zero_le _, by omega, by simp, Keeps.start⟩, Below.refl _ _⟩
  case round =>
    obtain ⟨first, frm, free, rfl, rfl, rfl, HA, hB⟩ := hrel
    by_cases hle : frm ≤ T
    · have hfn := HA.out.1
      go_wp2
      go_loopg [9, 10, 11, 12, 13] (n - first) (fun gi s9 s10 s11 a b wx => ∃ (i at0 : Nat), s9 = .int .i64 first ∧ s10 = .int .i64 (frm + 1) ∧ s11 = .bool free ∧ a = .int .i64 at0 ∧ b = .int .i64 i ∧ first ≤ i ∧ i ≤ n ∧ at0 ≤ T ∧ Aside (n - i ≤ gi ∧ at0 = frm + (i - first) ∧ Run m t first i frm) ∧ Below w.heap.size w wx)
      case atStart => exact ⟨first, frm, rfl, rfl, rfl, rfl, rfl, Nat.le_refl _, hfn, hle, ⟨Nat.le_refl _, by omega, Run.nil _ _⟩, hB⟩
      case round =>
        clear hB
        obtain ⟨i, at0, rfl, rfl, rfl, rfl, rfl, hfi, hin, hatT, HI, hB⟩ := hrel
        obtain ⟨hgi, hat0, hrun⟩ : n - i ≤ gk ∧ at0 = frm + (i - first) ∧ Run m t first i frm := HI.out
        have HR : Aside (Run m t first i frm ∧ at0 = frm + (i - first) ∧ n - i ≤ gk) := ⟨hrun, hat0, hgi⟩
        clear HI hgi hat0 hrun
        by_cases hlt : i < n
        · cases hmi : m i
          · have Hm : Aside (m i = false) := hmi
            have hcall := hc.hm i _ hlt hB
            rw [hmi] at hcall
            by_cases hat : at0 < T
            · have hcall2 := fun W hW => hc.ht i at0 W hlt hat hmi hW
              cases hti : t i at0
              · have Hs : Aside (¬ Rest m t n T first frm) := by
                  obtain ⟨hr, he, _⟩ := HR.out
                  subst he
                  exact hr.stuck hlt hatT hmi (fun h => by rw [hti] at h; cases h.2)
                rw [hti] at hcall2
                clear hmi hti
                cases free
                · go_wp2_with fail
                  refine hcall.mono ?_
                  rintro e w2 ⟨rfl, b2⟩
                  go_wp2_with fail
                  refine (hcall2 _ (hB.trans (b2.mono hB.size))).mono ?_
                  rintro e w3 ⟨rfl, b3⟩
                  go_wp2_with fail
                  try rw [Exit.noGoto_ret]
                  go_ret
                  exact ⟨by rw [takenB_no (HA.out.2.2.2.2.no Hs.out)]; rfl, (hB.trans (b2.mono hB.size)).trans (b3.mono (hB.trans (b2.mono hB.size)).size)⟩
                · go_wp2_with fail
                  refine hcall.mono ?_
                  rintro e w2 ⟨rfl, b2⟩
                  go_wp2_with fail
                  refine (hcall2 _ (hB.trans (b2.mono hB.size))).mono ?_
                  rintro e w3 ⟨rfl, b3⟩
                  go_wp2_with fail
                  go_roundg ((n - first) * (T + 3) + (T + 2 - (frm + 1)))
                  case rel => exact ⟨first, frm + 1, true, rfl, rfl, rfl, ⟨HA.out.1, (fun h => by cases h), by omega, Nat.le_refl _, HA.out.2.2.2.2.on Hs.out⟩, (hB.trans (b2.mono hB.size)).trans (b3.mono (hB.trans (b2.mono hB.size)).size)⟩
                  case measure => have := HA.out.2.2.2.1; omega
              · have Hr : Aside (Run m t first (i + 1) frm) := by
                  obtain ⟨hr, he, _⟩ := HR.out
                  exact hr.snoc hmi (by rw [← he]; exact hti)
                rw [hti] at hcall2
                clear hmi hti
                go_wp2_with fail
                refine hcall.mono ?_
                rintro e w2 ⟨rfl, b2⟩
                go_wp2_with fail
                refine (hcall2 _ (hB.trans (b2.mono hB.size))).mono ?_
                rintro e w3 ⟨rfl, b3⟩
                go_wp2_with fail
                go_roundg (n - (i + 1))
                case rel => exact ⟨i + 1, at0 + 1, rfl, rfl, rfl, rfl, rfl, by omega, by omega, by omega, ⟨Nat.le_refl _, by have := HR.out.2.1; omega, Hr.out⟩, (hB.trans (b2.mono hB.size)).trans (b3.mono (hB.trans (b2.mono hB.size)).size)⟩
                case measure => have := HR.out.2.2; omega
            · have Hs : Aside (¬ Rest m t n T first frm) := by
                obtain ⟨hr, he, _⟩ := HR.out
                subst he
                exact hr.stuck hlt hatT hmi (fun h => hat h.1)
              clear hmi
              cases free
              · go_wp2_with fail
                refine hcall.mono ?_
                rintro e w2 ⟨rfl, b2⟩
                go_wp2_with fail
                try rw [Exit.noGoto_ret]
                go_ret
                exact ⟨by rw [takenB_no (HA.out.2.2.2.2.no Hs.out)]; rfl, hB.trans (b2.mono hB.size)⟩
              · go_wp2_with fail
                refine hcall.mono ?_
                rintro e w2 ⟨rfl, b2⟩
                go_wp2_with fail
                go_roundg ((n - first) * (T + 3) + (T + 2 - (frm + 1)))
                case rel => exact ⟨first, frm + 1, true, rfl, rfl, rfl, ⟨HA.out.1, (fun h => by cases h), by omega, Nat.le_refl _, HA.out.2.2.2.2.on Hs.out⟩, hB.trans (b2.mono hB.size)⟩
                case measure => have := HA.out.2.2.2.1; omega
          · have Hm : Aside (m i = true) := hmi
            have hcall := hc.hm i _ hlt hB
            rw [hmi] at hcall
            clear hmi
            go_wp2_with fail
            refine hcall.mono ?_
            rintro e w2 ⟨rfl, b2⟩
            go_wp2
            go_roundg ((n - (i + 1)) * (T + 3) + (T + 2 - at0))
            case rel =>
              refine ⟨i + 1, at0, true, rfl, rfl, rfl, ⟨by omega, fun h => (by cases h), by omega, Nat.le_refl _, ?_⟩, hB.trans (b2.mono hB.size)⟩
              obtain ⟨hr, he, _⟩ := HR.out
              subst he
              exact HA.out.2.2.2.2.many hr hlt hatT Hm.out
            case measure =>
              have h1 := HA.out.2.2.2.1
              have h2 : at0 = frm + (i - first) := HR.out.2.1
              have h3 : n - first = (n - (i + 1)) + (i + 1 - first) := by omega
              rw [h3, Nat.add_mul] at h1
              have h4 : T + 3 ≤ (i + 1 - first) * (T + 3) := Nat.le_mul_of_pos_left _ (by omega)
              omega
        · obtain rfl : i = n := by omega
          have Hw : Aside (Rest m t i T first frm ↔ at0 = T) := by
            obtain ⟨hr, he, _⟩ := HR.out
            subst he
            exact hr.whole hatT
          by_cases hat : at0 = T
          · have Hy : Aside (Rest m t i T first frm) := Hw.out.2 hat
            have hb : ((at0 : Int) == (T : Int)) = true := by simp; omega
            clear Hw
            go_wp2_with fail
            try rw [Exit.noGoto_ret]
            go_ret
            exact ⟨by rw [takenB_yes (HA.out.2.2.2.2.yes Hy.out)]; rfl, hB⟩
          · have hb : ((at0 : Int) == (T : Int)) = false := by simp; omega
            cases free
            · go_wp2_with fail
              try rw [Exit.noGoto_ret]
              go_ret
              exact ⟨by rw [takenB_no (HA.out.2.2.2.2.no (fun h => hat (Hw.out.1 h)))]; rfl, hB⟩
            · go_wp2_with fail
              go_roundg ((i - first) * (T + 3) + (T + 2 - (frm + 1)))
              case rel => exact ⟨first, frm + 1, true, rfl, rfl, rfl, ⟨HA.out.1, (fun h => by cases h), by omega, Nat.le_refl _, HA.out.2.2.2.2.on (fun h => hat (Hw.out.1 h))⟩, hB⟩
              case measure => have := HA.out.2.2.2.1; omega
    · have hfree : free = true := by
        cases free
        · have := HA.out.2.1 rfl; omega
        · rfl
      subst hfree
      have hle2 := HA.out.2.2.1
      go_wp2
      try rw [Exit.noGoto_ret]
      go_ret
      exact ⟨by rw [takenB_no (HA.out.2.2.2.2.over (by omega))]; rfl, hB⟩
end Go.Proofs.YthkbhcefckbcnaaGreatDoor
