/- The document's met: a name that a variable has. -/
import Derived.Test.YtjmekcakiacdfabGreatDoorDcB
namespace Go.Proofs.YtjmekcakiacdfabGreatDoor
open Go Go.RowKit

def metN (n : List UInt8) (ms : List (List UInt8)) : List (List UInt8) := if n ∈ ms then ms else ms ++ [n]
theorem own_form {W : World} {B ty : Nat} {v : Value} {n : Nat} {xs : List Value} (h : W.ownsRow B ty 1 v n xs) : ∃ va vc g, v = .slice va n vc ∧ (n ≠ 0 → va = some ⟨g, 0, none⟩) := by
  rcases h.2 with ⟨rfl, h0⟩ | ⟨g, cap, cur, rfl, _⟩
  · exact ⟨none, 0, 0, by rw [h0], fun h => (h h0).elim⟩
  · exact ⟨_, _, g, rfl, fun _ => rfl⟩
set_option maxHeartbeats 4000000 in
set_option maxRecDepth 100000 in
theorem met_r (x : ByteArray) (W : World) (B R : Nat) (s : ByteArray) (e : UInt8) (k no : Nat) (v : Value) (ns : List (List UInt8)) (h : DR W B R s e k no v ns) (hB : B ≤ W.heap.size) (hnl : ns.length ≤ 1099511627776) : Calls Tryz.prog 72 #[.pointer (some ⟨R, 0, none⟩), .string x] W fun y w' => y = .returned (.tuple #[]) ∧ ∃ v', DR w' B R s e k no v' (metN (un x) ns) ∧ Rnd (rdS R v) (rdS R v') W w' := by
  obtain ⟨i0, hi, z0, z1, z2⟩ := info_parts info_str
  obtain ⟨va, vc, g, rfl, hva⟩ := own_form h.own
  have f4 := h.lies.cell (i := 4) rfl
  have fr := h.lies.frozen 4
  have HR : Hid (DR W B R s e k no (.slice va ns.length vc) ns) := h
  have hown := h.own
  have hne := h.ne
  have hRW := h.lies.lt
  have HVA : Hid (ns.length ≠ 0 → va = some ⟨g, 0, none⟩) := hva
  clear h hva
  go_enter Tryz.func72, Tryz.ntmps72
  go_wp2
  go_loop [4] (fun i => ∃ j : Nat, j ≤ ns.length ∧ i = .int .i64 j ∧ Hid (un x ∉ ns.take j)) (fun i => ns.length - (intOf i).toNat)
  case atStart => exact ⟨0, Nat.zero_le _, rfl, by simp [Hid]⟩
  case round =>
    obtain ⟨j, hj, rfl, HN⟩ := hrel
    by_cases hlt : j < ns.length
    · obtain rfl := HVA.out (by omega)
      have k0 : (0 : Int) ≤ (j : Int) := by omega
      have k1 : (j : Int) < (ns.length : Int) := by omega
      have hc := hown.cellAt j (by omega)
      have hget : ns[j]? = some ns[j] := List.getElem?_eq_getElem hlt
      have hc2 : W.cell? ⟨g, j, none⟩ = some (.string (bs ns[j])) := by rw [hc]; simp [nsC, hget]
      have hq : ((bs ns[j]).toList == x.toList) = decide (ns[j] = un x) := by
        rw [Bool.eq_iff_iff, beq_iff_eq, decide_eq_true_iff, toList_un, toList_un, un_bs]
      have HS : Hid ((ns[j] = un x → un x ∈ ns) ∧ (ns[j] ≠ un x → un x ∉ ns.take (j + 1))) := by
        refine ⟨fun h => h ▸ List.getElem_mem hlt, fun h hm => ?_⟩
        rw [List.take_add_one, hget, List.mem_append] at hm
        rcases hm with hm | hm
        · exact HN.out hm
        · simp at hm; exact h hm.symm
      clear hc hget hown
      obtain ⟨z, hz⟩ : ∃ z, decide (ns[j] = un x) = z := ⟨_, rfl⟩
      rw [hz] at hq
      cases z with
      | true =>
        have HM : Hid (metN (un x) ns = ns) := by unfold Hid metN; rw [if_pos (HS.out.1 (of_decide_eq_true hz))]
        clear hz HS
        generalize bs ns[j] = b at *
        go_wp2
        refine bodyPost_ret (results_none rfl _ _ _) rfl ?_
        exact ⟨rfl, _, by rw [HM.out]; exact HR.out, Rnd.refl _ W⟩
      | false =>
        have HT : Hid (un x ∉ ns.take (j + 1)) := HS.out.2 (of_decide_eq_false hz)
        clear hz HS
        generalize bs ns[j] = b at *
        go_wp2
        first
          | exact ⟨⟨j + 1, by omega, by go_num, HT⟩, by simp [intOf]; omega⟩
          | (go_round
             case rel => exact ⟨j + 1, by omega, by go_num, HT⟩
             case measure => simp [intOf]; omega)
    · obtain rfl : j = ns.length := by omega
      have HM : Hid (metN (un x) ns = ns ++ [un x]) := by
        unfold Hid metN
        rw [if_neg (by have := HN.out; rwa [List.take_length] at this)]
      clear HN
      go_wp2_with (at_builtin; refine wpList_append_own_at _ rfl _ _ 36 rfl B 9 i0 (.string ⟨#[]⟩) 1 16 Tryz.underlying36 hi z0 z1 z2 rfl (by decide) (.slice va ns.length vc) ns.length (nsC ns) rfl (hown.alloc _) ⟨W.heap.size, 0, none⟩ 1 1 [.string x] rfl rfl (cell_one_new _ _ _) (by intro u hu; simp at hu; subst hu; rfl) (by unfold maxLen; omega) (by omega) (by rw [World.size_alloc]; omega) ?_; intro v1 w1 hown1 hgrow1 _ hat; obtain ⟨g1, cap1, rfl, _, hg1⟩ := hown1.form (by omega); have hR1 : Lies w1 R 79 #[.string s, .int .i64 k, .int .u8 e.toNat, .int .i64 no, .slice va ns.length vc] := (hgrow1.block R (by simp; omega) (fun e => hne e.symm)).trans ((HR.out.lies).alloc _); have k4 := hR1.cell (i := 4) rfl; have kf := hR1.frozen 4)
      have hne1 : g1 ≠ R := by
        rcases hat with h1 | h1
        · exact fun e => hne (by rw [← h1, ← e]; rfl)
        · have h1 : g1 = (W.alloc (.cells #[.string x] 9)).heap.size := by simpa [Value.ownBlock] using h1
          rw [World.size_alloc] at h1; omega
      go_end0
      refine ⟨rfl, .slice (some ⟨g1, 0, none⟩) (ns.length + 1) cap1, ⟨?_, ?_⟩, ?_⟩
      · exact hR1.set (i := 4) _
      · rw [HM.out, show (ns ++ [un x]).length = ns.length + 1 by simp, show nsC (ns ++ [un x]) = nsC ns ++ [.string x] by simp [nsC, bs_un]]
        exact own_keepN hown1 (fun j hj => Below.heap_setCell _ _ _ _ (fun e => hne1 (by have : g1 = j := by simpa [Value.ownBlock] using hj
                                                                                         rw [this]; exact e)))
      · have r1 := ((Rnd.refl (rdS R (.slice va ns.length vc)) W).alloc (.cells #[.string x] 9)).grown hgrow1 (fun j hj => .inr hj)
        have r2 := r1.set (b := R) (i := 4) (.inl rfl) (.slice (some ⟨g1, 0, none⟩) (ns.length + 1) cap1)
        refine r2.to (fun j hj => ?_)
        rcases hj with hj | hj
        · exact .inl (.inl hj)
        · rcases hat with h1 | h1
          · exact .inl (.inr (by rw [← h1]; exact hj))
          · right
            have hj : g1 = j := by simpa [Value.ownBlock] using hj
            have h1 : g1 = (W.alloc (.cells #[.string x] 9)).heap.size := by simpa [Value.ownBlock] using h1
            rw [World.size_alloc] at h1
            exact ⟨by omega, by simp [World.setCell]; omega⟩
end Go.Proofs.YtjmekcakiacdfabGreatDoor
