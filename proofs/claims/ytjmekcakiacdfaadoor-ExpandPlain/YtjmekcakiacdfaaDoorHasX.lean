/- The statement's has: does a text have one of these bytes? -/
import Derived.Test.YtjmekcakiacdfaaDoorExE
import Derived.Test.YtjmekcakiacdfaaDoorNmuW
import Derived.Test.YtjmekcakiacdfaaDoorPlain
import Derived.Lib.Walk
namespace Go.Proofs.YtjmekcakiacdfaaDoor
open Go Go.RowKit Go.Maps

def hasB (cs : List UInt8) (b : UInt8) : Bool := cs.any fun c => b == c
def hasL (l cs : List UInt8) : Bool := l.any (hasB cs)
theorem any_take_succ {α : Type} (p : α → Bool) (l : List α) (k : Nat) (x : α) (h : l[k]? = some x) : (l.take (k + 1)).any p = ((l.take k).any p || p x) := by
  rw [List.take_add_one, h, List.any_append]; simp
theorem beq_bytes (b c : UInt8) : ((b.toNat : Int) == (c.toNat : Int)) = (b == c) := by
  rw [Bool.eq_iff_iff, beq_iff_eq, beq_iff_eq]
  constructor
  · intro h; apply UInt8.toNat_inj.1; omega
  · intro h; rw [h]
set_option maxHeartbeats 4000000 in
set_option maxRecDepth 100000 in
theorem has_p (s : ByteArray) (cs : List UInt8) (g : Nat) (W : World) (hs : s.size ≤ 1099511627776) (hn : cs.length ≤ 16) (hg : ∀ j c, cs[j]? = some c → W.cell? ⟨g, j, none⟩ = some (.int .u8 c.toNat)) : Calls Tryd.prog 7 #[.string s, .slice (some ⟨g, 0, none⟩) cs.length cs.length] W fun x w' => x = .returned (.bool (hasL (un s) cs)) ∧ ∃ d, w' = W.drewN d := by
  have hsl := un_length s
  have HG : Hid _ := hg
  clear hg
  go_enter Tryd.func7, Tryd.ntmps7
  go_wp2
  go_loopw [5, 6] (fun i _ wr => ∃ k : Nat, k ≤ s.size ∧ i = .int .i64 k ∧ Hid (((un s).take k).any (hasB cs) = false) ∧ ∃ d, wr = W.drewN d) (fun i _ _ => s.size - (intOf i).toNat)
  case atStart => exact ⟨0, Nat.zero_le _, rfl, by simp [Hid], 0, rfl⟩
  case round =>
    obtain ⟨k, hk, rfl, HA, d, rfl⟩ := hrel
    by_cases hlt : k < s.size
    · have hget := un_getElem? s k hlt
      have k0 : (0 : Int) ≤ (k : Int) := by omega
      have k1 : (k : Int) < (s.size : Int) := by omega
      have HGET : Hid ((un s)[k]? = some s[k]) := hget
      clear hget
      go_wp2
      go_loopw [6] (fun j wr => ∃ n : Nat, n ≤ cs.length ∧ j = .int .i64 n ∧ Hid ((cs.take n).any (fun c => s[k] == c) = false) ∧ ∃ d, wr = W.drewN d) (fun j _ => cs.length - (intOf j).toNat)
      case atStart => exact ⟨0, Nat.zero_le _, rfl, by simp [Hid], d, rfl⟩
      case round =>
        obtain ⟨n, hnl, rfl, HN, d2, rfl⟩ := hrel
        by_cases hlt2 : n < cs.length
        · obtain ⟨c, hc⟩ : ∃ c, cs[n]? = some c := ⟨_, List.getElem?_eq_getElem hlt2⟩
          have hcell := HG.out n c hc
          have n0 : (0 : Int) ≤ (n : Int) := by omega
          have n1 : (n : Int) < (cs.length : Int) := by omega
          have hq := beq_bytes s[k] c
          have HS : Hid ((cs.take (n + 1)).any (fun c => s[k] == c) = ((cs.take n).any (fun c => s[k] == c) || s[k] == c)) := any_take_succ _ _ _ _ hc
          have HC : Hid (cs[n]? = some c) := hc
          cases hr : (s[k] == c) with
          | true =>
            rw [hr] at hq
            have HF : Hid (hasL (un s) cs = true) := by
              unfold Hid hasL
              rw [List.any_eq_true]
              refine ⟨s[k], List.mem_of_getElem? HGET.out, ?_⟩
              unfold hasB
              rw [List.any_eq_true]
              exact ⟨c, List.mem_of_getElem? hc, hr⟩
            clear hc hr
            go_wp2
            go_quiet (fail)
            go_wp2
            go_ret
            exact ⟨by rw [HF.out]; rfl, _, World.drewN_drewN _ _ _⟩
          | false =>
            rw [hr] at hq
            have HS2 : Hid ((cs.take (n + 1)).any (fun c => s[k] == c) = false) := by unfold Hid; rw [HS.out, HN.out, hr]; rfl
            clear hc hr
            go_wp2
            go_quiet (fail)
            go_wp2
            go_roundw
            case rel => exact ⟨n + 1, by omega, by go_num, HS2, _, rfl⟩
            case measure => simp [intOf]; omega
        · obtain rfl : n = cs.length := by omega
          have hge : ¬ ((cs.length : Nat) : Int) < (cs.length : Int) := by omega
          have HA2 : Hid (((un s).take (k + 1)).any (hasB cs) = false) := by
            unfold Hid
            rw [any_take_succ _ _ _ _ HGET.out, HA.out]
            have := HN.out
            rw [List.take_length] at this
            exact this
          go_wp2
          go_roundw
          case rel => exact ⟨k + 1, by omega, by go_num, HA2, _, rfl⟩
          case measure => simp [intOf]; omega
    · obtain rfl : k = s.size := by omega
      have hge : ¬ ((s.size : Nat) : Int) < (s.size : Int) := by omega
      have HE : Hid (hasL (un s) cs = false) := by
        have := HA.out
        rw [← hsl, List.take_length] at this
        exact this
      go_wp2
      go_ret
      exact ⟨by rw [HE.out]; rfl, _, rfl⟩
end Go.Proofs.YtjmekcakiacdfaaDoor
