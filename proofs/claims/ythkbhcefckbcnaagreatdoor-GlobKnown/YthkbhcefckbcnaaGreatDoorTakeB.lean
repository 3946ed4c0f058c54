/- Package glob's takeBytes: whether parts take a name. -/
import Derived.Test.YthkbhcefckbcnaaGreatDoorPattern
import Derived.Test.YthkbhcefckbcnaaGreatDoorTake
import Derived.Shelf.Abstract
namespace Go.Proofs.YthkbhcefckbcnaaGreatDoor
open Go Go.RowKit Go.Shelf

/-- What stands in a row of parts, cell by cell. -/
theorem PartsIn.cells {W : World} {v : Value} {ps : List (Taker UInt8)} (h : PartsIn W v ps) {i : Nat} {p : Taker UInt8} (hi : ps[i]? = some p) :
    ∃ g cap, v = .slice (some ⟨g, 0, none⟩) ps.length cap ∧ g < W.heap.size ∧ ∃ (x : Nat → Nat), Words x ∧ W.cell? ⟨g, i * 5, none⟩ = some (.bool p.isNone) ∧ (∀ j, j < 4 → W.cell? ⟨g, i * 5 + 1 + j, none⟩ = some (.int .u64 (x j))) ∧ ∀ st, p = some st → bitOf x = st := by
  obtain ⟨cs, hr, ho⟩ := h
  rcases ho.2 with ⟨rfl, h0⟩ | ⟨g, cap, cur, rfl, _, hgb, _, _, _, htk⟩
  · have : i < ps.length := (List.getElem?_eq_some_iff.1 hi).1
    omega
  · obtain ⟨a, ha, hj⟩ := hr.at hi
    obtain ⟨m, x, rfl, hw, rfl, hb⟩ := ha.five
    have hc : ∀ (j : Nat) u, cs[j]? = some u → W.cell? ⟨g, j, none⟩ = some u := fun j u hu => by
      have : cur[j]? = some u := by
        rw [← htk] at hu
        rw [List.getElem?_take] at hu
        split at hu
        · simpa using hu
        · cases hu
      simp [World.cell?, hgb, this]
    refine ⟨g, cap, rfl, (Array.getElem?_eq_some_iff.1 hgb).1, x, hw, hc _ _ (by rw [show i * 5 = 5 * i + 0 by omega, hj 0 (by omega)]; rfl), fun j hj4 => hc _ _ ?_, hb⟩
    rw [show i * 5 + 1 + j = 5 * i + (j + 1) by omega, hj (j + 1) (by omega)]
    rcases j with _ | _ | _ | _ | j
    · rfl
    · rfl
    · rfl
    · rfl
    · omega

set_option maxHeartbeats 1000000 in
theorem takeBytes1_p (g cap i n B : Nat) (b : Bool) (w : World) (hB : w.cell? ⟨B, 0, none⟩ = some (.slice (some ⟨g, 0, none⟩) n cap)) (hi : i < n) (hc : w.cell? ⟨g, i * 5, none⟩ = some (.bool b)) :
    Calls Tryz.prog 107 #[.int .i64 i, .pointer (some ⟨B, 0, none⟩)] w fun e w' => e = .returned (.bool b) ∧ w' = w := by
  have d1 : (0 : Int) ≤ (i : Int) := by omega
  have d2 : (i : Int) < (n : Int) := by omega
  go_enter Tryz.func107, Tryz.ntmps107
  go_wp2
  go_ret
  exact ⟨rfl, rfl⟩

set_option maxHeartbeats 4000000 in
theorem takeBytes2_p (g cap i k n B C : Nat) (x : Nat → Nat) (name : ByteArray) (w : World) (hB : w.cell? ⟨B, 0, none⟩ = some (.slice (some ⟨g, 0, none⟩) n cap)) (hC : w.cell? ⟨C, 0, none⟩ = some (.string name)) (hi : i < n) (hk : k < name.size) (hx : Words x) (hc : ∀ j, j < 4 → w.cell? ⟨g, i * 5 + 1 + j, none⟩ = some (.int .u64 (x j))) :
    Calls Tryz.prog 108 #[.int .i64 i, .int .i64 k, .pointer (some ⟨B, 0, none⟩), .pointer (some ⟨C, 0, none⟩)] w fun e w' => e = .returned (.bool (bitOf x name[k])) ∧ ∃ q, w' = w.drewN q := by
  have d1 : (0 : Int) ≤ (i : Int) := by omega
  have d2 : (i : Int) < (n : Int) := by omega
  have d3 : (0 : Int) ≤ (k : Int) := by omega
  have d4 : (k : Int) < (name.size : Int) := by omega
  have hcall := fun q => has_p g (i * 5 + 1) x name[k] (w.drewN q) hx hc
  go_enter Tryz.func108, Tryz.ntmps108
  go_wp2
  go_quiet (first | (go_at_call 109; refine Calls.quiet_of_same (hcall _)))
  go_wp2
  go_ret
  exact ⟨rfl, _, rfl⟩

theorem has_at {ps : List (Taker UInt8)} {i : Nat} {p : Taker UInt8} (h : ps[i]? = some p) : isMany ps i = p.isNone := by
  unfold isMany; rw [h]; cases p <;> rfl

set_option maxHeartbeats 4000000 in
theorem takeBytes_p (ps : List (Taker UInt8)) (v : Value) (name : ByteArray) (w : World) (hp : PartsIn w v ps) (hn : ps.length ≤ 1099511627776) (hz : name.size ≤ 1099511627776) :
    Calls Tryz.prog 74 #[v, .string name] w fun e w' => e = .returned (.bool (takeI ps (un name))) ∧ Below w.heap.size w w' := by
  obtain ⟨W0, hW0⟩ : ∃ W0, ((w.alloc (.cells #[v] 108)).alloc (.cells #[.string name] 9)) = W0 := ⟨_, rfl⟩
  have hB0 : Below w.heap.size w W0 := by rw [← hW0]; exact ((Below.refl _ w).alloc (Nat.le_refl _) _).alloc (by simp) _
  have c0 : Boxed W0 w.heap.size 108 v := by rw [← hW0]; exact (Boxed.new w _ _).alloc _
  have c1 : Boxed W0 (w.heap.size + 1) 9 (.string name) := by
    have h := Boxed.new (w.alloc (.cells #[v] 108)) 9 (.string name); rw [World.size_alloc] at h; rw [← hW0]; exact h
  have hp0 : PartsIn W0 v ps := hp.turn (grown_of_below hB0) (NoParts.none _)
  have ht : Tells W0 ps.length name.size (isMany ps) (isTaken ps (un name)) 107 108 #[.pointer (some ⟨w.heap.size, 0, none⟩)] #[.pointer (some ⟨w.heap.size, 0, none⟩), .pointer (some ⟨w.heap.size + 1, 0, none⟩)] := by
    refine ⟨enters_of Tryz.func107 (by kernel_rfl) rfl, enters_of Tryz.func108 (by kernel_rfl) rfl, ?_, ?_⟩
    · intro i W hi hb
      obtain ⟨p, hpi⟩ : ∃ p, ps[i]? = some p := ⟨_, List.getElem?_eq_getElem hi⟩
      obtain ⟨g, cap, rfl, _, x, _, hc, _⟩ := (hp0.turn (grown_of_below hb) (NoParts.none _)).cells hpi
      rw [has_at hpi]
      refine (takeBytes1_p g cap i ps.length w.heap.size p.isNone W (boxed_below c0 hb).cell hi hc).mono ?_
      rintro e W2 ⟨rfl, rfl⟩
      exact ⟨rfl, Below.refl _ _⟩
    · intro i k W hi hk hmi hb
      obtain ⟨p, hpi⟩ : ∃ p, ps[i]? = some p := ⟨_, List.getElem?_eq_getElem hi⟩
      obtain ⟨g, cap, rfl, _, x, hw, _, hc, hst⟩ := (hp0.turn (grown_of_below hb) (NoParts.none _)).cells hpi
      have hv : isTaken ps (un name) i k = bitOf x name[k] := by
        unfold isTaken
        rw [hpi, un_getElem? name k hk]
        rw [has_at hpi] at hmi
        cases p with
        | none => cases hmi
        | some st => simp only []; rw [hst st rfl]
      rw [hv]
      refine (takeBytes2_p g cap i k ps.length w.heap.size (w.heap.size + 1) x name W (boxed_below c0 hb).cell (boxed_below c1 hb).cell hi hk hw hc).mono ?_
      rintro e W2 ⟨rfl, q, rfl⟩
      exact ⟨rfl, below_drewN q (Below.refl _ _)⟩
  have hlen : ∃ o c, v = .slice o ps.length c := by
    obtain ⟨cs, _, ho⟩ := hp
    rcases ho.2 with ⟨rfl, h0⟩ | ⟨g, cap, cur, rfl, _⟩
    · exact ⟨none, 0, by rw [h0]⟩
    · exact ⟨_, _, rfl⟩
  obtain ⟨o, c, rfl⟩ := hlen
  have hcall := take_p W0 ps.length name.size (isMany ps) (isTaken ps (un name)) _ _ _ _ hn hz ht
  have d0 := c0.cell
  have d1 := c1.cell
  have Ht : Hid (takenB (isMany ps) (isTaken ps (un name)) ps.length name.size = takeI ps (un name)) := by unfold Hid takeI; rw [un_length]
  clear hp hp0 ht c0 c1
  go_enter Tryz.func74, Tryz.ntmps74
  go_wp2_with fail
  refine hcall.mono ?_
  rintro e w2 ⟨rfl, b2⟩
  go_wp2_with fail
  go_ret
  exact ⟨by rw [← Ht.out]; rfl, hB0.trans (b2.mono hB0.size)⟩
end Go.Proofs.YthkbhcefckbcnaaGreatDoor
