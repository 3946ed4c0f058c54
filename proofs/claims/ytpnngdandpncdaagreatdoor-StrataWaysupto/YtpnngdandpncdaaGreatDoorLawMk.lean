/- ResolveMakes: what Make and Place leave behind. -/
import Derived.Test.YtpnngdandpncdaaGreatDoorMkN
import Derived.Test.YtpnngdandpncdaaGreatDoorSpec
import Derived.Test.YtpnngdandpncdaaGreatDoorProg
import Derived.WalkKit
import Derived.WalkSpells
import Derived.Deep.DeepCutAuto

namespace Go.Proofs.YtpnngdandpncdaaGreatDoor
open Go Go.RowKit

/-- A list of entries that lies beside a tree. -/
def FreeE (W : World) (v : Value) (L : List Ent) (M : Nat → Prop) : Prop :=
  ∃ (a : Option Addr) (cap b o : Nat), v = .slice a L.length cap ∧ (L ≠ [] → a = some ⟨b, o, none⟩) ∧ L.length ≤ cap ∧ (∀ i e, L[i]? = some e → EntC W b (o + i * 5) e) ∧ (L ≠ [] → ¬ M b ∧ b < W.heap.size)
theorem FreeE.ents {W : World} {v : Value} {L : List Ent} {M : Nat → Prop} (h : FreeE W v L M) : EntsAt W v L := by
  obtain ⟨a, cap, b, o, h1, h2, h3, h4, _⟩ := h
  exact ⟨a, cap, b, o, h1, h2, h3, h4⟩
theorem list_ne {L : List Ent} {i : Nat} {e : Ent} (h : L[i]? = some e) : L ≠ [] := fun h0 => by rw [h0] at h; simp at h
theorem FreeE.rnd {W W' : World} {v : Value} {L : List Ent} {M M' : Nat → Prop} (h : FreeE W v L M) (hr : Rnd M M' W W') : FreeE W' v L M' := by
  obtain ⟨a, cap, b, o, h1, h2, h3, h4, h5⟩ := h
  refine ⟨a, cap, b, o, h1, h2, h3, fun i e he => ?_, fun hL => ?_⟩
  · obtain ⟨q0, q1, q2, q3, q4⟩ := h4 i e he
    obtain ⟨n1, n2⟩ := h5 (list_ne he)
    exact ⟨cell_kept hr n2 n1 q0, cell_kept hr n2 n1 q1, cell_kept hr n2 n1 q2, cell_kept hr n2 n1 q3, cell_kept hr n2 n1 q4⟩
  · obtain ⟨n1, n2⟩ := h5 hL
    have := hr.size
    refine ⟨fun hm => ?_, by omega⟩
    rcases hr.more b hm with h6 | h6
    · exact n1 h6
    · omega
theorem FreeE.below {W W' : World} {v : Value} {L : List Ent} {M : Nat → Prop} (h : FreeE W v L M) (hb : Below W.heap.size W W') : FreeE W' v L M := h.rnd (Rnd.of_below hb)
theorem free_nil (W : World) (M : Nat → Prop) : FreeE W (.slice none 0 0) [] M := ⟨none, 0, 0, 0, rfl, fun h => absurd rfl h, Nat.le_refl _, fun i e h => by simp at h, fun h => absurd rfl h⟩
theorem free_of_owns {W : World} {base : Nat} {v : Value} {L : List Ent} {M : Nat → Prop} (h : W.ownsRow base 51 5 v L.length (ecells L)) (hM : ∀ k, base ≤ k → ¬ M k) : FreeE W v L M := by
  have he := ents_of_owns h
  rcases h.2 with ⟨rfl, h0⟩ | ⟨g, cap, cur, rfl, hg, hgb, hcap, _⟩
  · have : L = [] := List.eq_nil_of_length_eq_zero h0
    subst this
    exact free_nil W M
  · obtain ⟨a2, cap2, b2, o2, hv2, ha2, hcp2, hc2⟩ := he
    refine ⟨some ⟨g, 0, none⟩, cap, g, 0, rfl, fun _ => rfl, hcap, fun i e hi => ?_, fun _ => ⟨hM g hg, (Array.getElem?_eq_some_iff.1 hgb).1⟩⟩
    have h1 := ha2 (list_ne hi)
    subst h1
    simp at hv2
    obtain ⟨⟨rfl, rfl⟩, _⟩ := hv2
    exact hc2 i e hi
/-- Two trees that lie beside each other and beside all that was there. -/
structure Two (w : World) (tb tbase : Nat) (F : Pic) (L : List Ent) (ub ubase : Nat) (G : Pic) (M : List Ent) (W : World) : Prop where
  b : Below w.heap.size w W
  t : TreeOf W tb tbase F L
  u : TreeOf W ub ubase G M
  ap : ∀ k, MineT tb F k → ¬ MineT ub G k
  gt : ∀ k, MineT tb F k → w.heap.size ≤ k
  gu : ∀ k, MineT ub G k → w.heap.size ≤ k
variable {w W W' : World} {tb tbase ub ubase : Nat} {F F' G G' : Pic} {L L' M M' : List Ent}
theorem Two.below (h : Two w tb tbase F L ub ubase G M W) (hb : Below W.heap.size W W') : Two w tb tbase F L ub ubase G M W' :=
  ⟨below_join h.b hb, h.t.below hb, h.u.below hb, h.ap, h.gt, h.gu⟩
theorem Two.first (h : Two w tb tbase F L ub ubase G M W) (ht : TreeOf W' tb tbase F' L') (hr : Rnd (MineT tb F) (MineT tb F') W W') : Two w tb tbase F' L' ub ubase G M W' := by
  have hs := h.b.size
  refine ⟨h.b.trans (hr.below hs h.gt), ht, h.u.keep (fun k hk => hr.same k (h.u.mine_lt hk) (fun hm => h.ap k hm hk)), fun k hm hk => ?_, hr.from' hs h.gt, h.gu⟩
  rcases hr.more k hm with h1 | h1
  · exact h.ap k h1 hk
  · have := h.u.mine_lt hk; omega
theorem Two.second (h : Two w tb tbase F L ub ubase G M W) (ht : TreeOf W' ub ubase G' M') (hr : Rnd (MineT ub G) (MineT ub G') W W') : Two w tb tbase F L ub ubase G' M' W' := by
  have hs := h.b.size
  refine ⟨h.b.trans (hr.below hs h.gu), h.t.keep (fun k hk => hr.same k (h.t.mine_lt hk) (fun hm => h.ap k hk hm)), ht, fun k hk hm => ?_, h.gt, hr.from' hs h.gu⟩
  rcases hr.more k hm with h1 | h1
  · exact h.ap k hk h1
  · have := h.t.mine_lt hk; omega
theorem two_start {w1 w2 : World} (hb1 : Below w.heap.size w w1) (h1 : w.heap.size ≤ tbase) (ht : TreeOf w1 tb tbase F L) (hb2 : Below w1.heap.size w1 w2) (h2 : w1.heap.size ≤ ubase) (hu : TreeOf w2 ub ubase G M) : Two w tb tbase F L ub ubase G M w2 := by
  have hs := hb1.size
  refine ⟨below_join hb1 hb2, ht.below hb2, hu, fun k hk hm => ?_, fun k hk => ?_, fun k hk => ?_⟩
  · have a1 := ht.mine_lt hk
    have a2 := hu.mine_ge k hm
    omega
  · have := ht.mine_ge k hk; omega
  · have := hu.mine_ge k hk; omega
end Go.Proofs.YtpnngdandpncdaaGreatDoor

namespace Go.Proofs.YtpnngdandpncdaaGreatDoor
open Go Go.RowKit

variable {tb tbase : Nat} {F : Pic}
theorem kp_cons {L L0 : List Ent} {k j : Nat} {x : Ent} (hx : L[k]? = some x) (h : kpB (L.drop k) (L0.drop j) = true) : (j < L0.length ∧ ∃ y, L0[j]? = some y ∧ ((eqE x y = true ∧ kpB (L.drop (k + 1)) (L0.drop (j + 1)) = true) ∨ (eqE x y = false ∧ dir493 x = true ∧ kpB (L.drop (k + 1)) (L0.drop j) = true))) ∨ (¬ j < L0.length ∧ dir493 x = true ∧ kpB (L.drop (k + 1)) (L0.drop j) = true) := by
  have hk := (List.getElem?_eq_some_iff.1 hx).1
  have e1 : L.drop k = x :: L.drop (k + 1) := by
    rw [List.drop_eq_getElem_cons hk]
    rw [List.getElem?_eq_getElem hk] at hx
    rw [Option.some.inj hx]
  rw [e1] at h
  by_cases hj : j < L0.length
  · left
    refine ⟨hj, L0[j], List.getElem?_eq_getElem hj, ?_⟩
    rw [List.drop_eq_getElem_cons hj] at h ⊢
    unfold kpB at h
    by_cases hq : eqE x L0[j] = true
    · rw [if_pos hq] at h; exact .inl ⟨hq, h⟩
    · rw [if_neg hq, Bool.and_eq_true] at h; exact .inr ⟨by simpa using hq, h⟩
  · right
    have e2 : L0.drop j = [] := List.drop_eq_nil_of_le (by omega)
    rw [e2] at h ⊢
    unfold kpB at h
    rw [Bool.and_eq_true] at h
    exact ⟨hj, h⟩
set_option maxRecDepth 100000 in
set_option maxHeartbeats 4000000 in
theorem rkept_p (v : Value) (L L0 : List Ent) (w : World) (hT : TreeOf w tb tbase F L) (hv : EntsAt w v L0) (hl : L0.length ≤ 1073741824) (hk : kpB L L0 = true) :
    Calls Tryz.prog 17 #[.pointer (some ⟨tb, 0, none⟩), v] w fun e w' => e = .returned (.bool true) ∧ Below w.heap.size w w' := by
  have hfew := hT.few
  have hv1 := fun W hb => hv.below (W2 := W) hb
  obtain ⟨a2, cap2, b2, o2, rfl, ha2, hcap2, hc2'⟩ := hv
  go_enter Tryz.func17, Tryz.ntmps17
  go_wp2_with (go_at_call 13; refine (list_p tb tbase F L _ hT).mono ?_; rintro e w1 ⟨u, rfl, hu, hb1⟩)
  have hU := ents_of_owns hu
  have hc2 : ∀ i e, L0[i]? = some e → EntC w1 b2 (o2 + i * 5) e := fun i e he => (hc2' i e he).below hb1
  obtain ⟨a, cap, b, o, rfl, ha, hcap, hc⟩ := hU
  clear hu hT hv1 hc2'
  go_wp2
  go_loopw [6, 7] (fun j i wr => ∃ k j' q : Nat, i = .int .i64 k ∧ j = .int .i64 j' ∧ k ≤ L.length ∧ j' ≤ L0.length ∧ kpB (L.drop k) (L0.drop j') = true ∧ wr = w1.drewN q) (fun _ i _ => L.length - (intOf i).toNat)
  case atStart => exact ⟨0, 0, 0, rfl, rfl, Nat.zero_le _, Nat.zero_le _, hk, rfl⟩
  case round =>
    obtain ⟨k, j, q, rfl, rfl, hkl, hjl, hkp, rfl⟩ := hrel
    by_cases hlt : k < L.length
    · have hlt' : (k : Int) < (L.length : Int) := by omega
      have hk0 : (0 : Int) ≤ (k : Int) := by omega
      have hj0 : (0 : Int) ≤ (j : Int) := by omega
      obtain ⟨x, hx⟩ : ∃ x, L[k]? = some x := ⟨_, List.getElem?_eq_getElem hlt⟩
      obtain rfl := ha (fun e => by rw [e] at hlt; simp at hlt)
      obtain ⟨c0, c1, c2, c3, c4⟩ := hc k x hx
      have hcase := kp_cons hx hkp
      rcases hcase with ⟨hj, y, hy, ⟨hq, hn⟩ | ⟨hq, hd, hn⟩⟩ | ⟨hj, hd, hn⟩
      · have hj' : (j : Int) < (L0.length : Int) := by omega
        have hjd : decide ((j : Int) < (L0.length : Int)) = true := by simp; omega
        have hjn : decide (j < L0.length) = true := by simp; omega
        obtain rfl := ha2 (fun e => by rw [e] at hj; simp at hj)
        obtain ⟨d0, d1, d2, d3, d4⟩ := hc2 j y hy
        have heq := fun W => eq_ent x y W
        rw [hq] at heq
        unfold eva at heq
        clear hx hy hc ha hc2 ha2 hkp hq hk
        go_wp2
        go_quiet (fail)
        go_wp2
        go_roundw
        case rel => exact ⟨k + 1, j + 1, _, by go_num, by go_num, by omega, by omega, hn, rfl⟩
        case measure => simp [intOf]; omega
      · have hj' : (j : Int) < (L0.length : Int) := by omega
        have hjd : decide ((j : Int) < (L0.length : Int)) = true := by simp; omega
        have hjn : decide (j < L0.length) = true := by simp; omega
        obtain rfl := ha2 (fun e => by rw [e] at hj; simp at hj)
        obtain ⟨d0, d1, d2, d3, d4⟩ := hc2 j y hy
        have heq := fun W => eq_ent x y W
        rw [hq] at heq
        unfold eva at heq
        unfold dir493 at hd
        rw [Bool.and_eq_true] at hd
        obtain ⟨hd1', hd2'⟩ := hd
        have hd1 : (x.kind != 1) = false := by rw [bne, hd1']; rfl
        have hd2 : (x.mode != 493) = false := by rw [bne, hd2']; rfl
        clear hd1' hd2'
        clear hx hy hc ha hc2 ha2 hkp hq hk
        go_wp2
        go_quiet (fail)
        go_wp2
        go_roundw
        case rel => exact ⟨k + 1, j, _, by go_num, rfl, by omega, by omega, hn, rfl⟩
        case measure => simp [intOf]; omega
      · have hj' : ¬ (j : Int) < (L0.length : Int) := by omega
        have hjd : decide ((j : Int) < (L0.length : Int)) = false := by simp; omega
        have hjn : decide (j < L0.length) = false := by simp; omega
        unfold dir493 at hd
        rw [Bool.and_eq_true] at hd
        obtain ⟨hd1', hd2'⟩ := hd
        have hd1 : (x.kind != 1) = false := by rw [bne, hd1']; rfl
        have hd2 : (x.mode != 493) = false := by rw [bne, hd2']; rfl
        clear hd1' hd2'
        clear hx hc ha hc2 ha2 hkp hk
        go_wp2
        go_quiet (fail)
        go_wp2
        go_roundw
        case rel => exact ⟨k + 1, j, _, by go_num, rfl, by omega, by omega, hn, rfl⟩
        case measure => simp [intOf]; omega
    · have hge : ¬ (k : Int) < (L.length : Int) := by omega
      have hj : j = L0.length := by
        rw [List.drop_eq_nil_of_le (by omega)] at hkp
        unfold kpB at hkp
        have := List.isEmpty_iff.1 hkp
        rw [List.drop_eq_nil_iff] at this
        omega
      have hjj : ((j : Int) == (L0.length : Int)) = true := by rw [beq_iff_eq]; omega
      clear hj hkp hk
      go_wp2
      go_ret
      exact ⟨by first | rfl | simp [hjj], below_join hb1 ⟨rfl, rfl, rfl, Nat.le_refl _, fun _ _ => rfl⟩⟩
end Go.Proofs.YtpnngdandpncdaaGreatDoor

namespace Go.Proofs.YtpnngdandpncdaaGreatDoor
open Go.RowKit

theorem lastIdx_succ (s : ByteArray) (k : Nat) (h : k < s.size) : Lib.lastIdx s 47 (k + 1) = if s[k].toNat = 47 then (k : Int) else Lib.lastIdx s 47 k := by
  have e : s.data[k]! = s[k] := by
    have h2 : k < s.data.size := h
    exact getElem!_pos s.data k h2
  simp only [Lib.lastIdx, e]
  by_cases hc : s[k].toNat = 47
  · rw [if_pos (by omega), if_pos hc]
  · rw [if_neg (by omega), if_neg hc]

set_option maxHeartbeats 400000 in
theorem slash_r (s : ByteArray) (w : World) (hs : s.size ≤ 9223372036854775806) : Calls Tryz.prog 40 #[.string s] w fun e w' => e = .returned (.int .i64 (Lib.lastIndexByte s 47)) ∧ w' = w := by
  go_enter Tryz.func40, Tryz.ntmps40
  go_wp2
  go_loop [3, 4] (fun a i => ∃ k : Nat, k ≤ s.size ∧ i = .int .i64 k ∧ a = .int .i64 (Lib.lastIdx s 47 k)) (fun _ i => s.size - (intOf i).toNat)
  case atStart => exact ⟨0, Nat.zero_le _, rfl, rfl⟩
  case round =>
    obtain ⟨k, hk, rfl, rfl⟩ := hrel
    by_cases hlt : k < s.size
    · have hsn : Hid _ := lastIdx_succ s k hlt
      by_cases hc : s[k].toNat = 47
      · go_wp2
        all_goals
          go_round
          case rel => exact ⟨k + 1, by omega, by go_num, by rw [hsn.out, if_pos hc]⟩
          case measure => simp [intOf]; omega
      · go_wp2
        all_goals
          go_round
          case rel => exact ⟨k + 1, by omega, by go_num, by rw [hsn.out, if_neg hc]⟩
          case measure => simp [intOf]; omega
    · go_wp2
      go_ret
      obtain rfl : k = s.size := by omega
      exact ⟨rfl, rfl⟩

theorem join_r (a b : ByteArray) (w : World) (hs : a.size + 1 + b.size ≤ 9223372036854775807) : Calls Tryz.prog 47 #[.string a, .string b] w fun e w' => e = .returned (.string (joinB a b)) ∧ w' = w := by
  cases h : a.toList.isEmpty
  · go_enter Tryz.func47, Tryz.ntmps47
    go_wp2
    go_ret
    exact ⟨by simp [joinB, h], rfl⟩
  · go_enter Tryz.func47, Tryz.ntmps47
    go_wp2
    go_ret
    exact ⟨by simp [joinB, h], rfl⟩
theorem parent_r (a : ByteArray) (w : World) (hs : a.size < 4611686018427387904) : Calls Tryz.prog 19 #[.string a] w fun e w' => e = .returned (.string (parentB a)) ∧ w' = w := by
  have hr := lastIndexByte_range a 47
  by_cases h : Lib.lastIndexByte a 47 < 0
  · go_enter Tryz.func19, Tryz.ntmps19
    go_wp2_with (go_at_call 40; refine (slash_r _ _ (by omega)).mono ?_; rintro e w' ⟨rfl, rfl⟩)
    go_ret
    exact ⟨by simp [parentB, h], rfl⟩
  · go_enter Tryz.func19, Tryz.ntmps19
    go_wp2_with (go_at_call 40; refine (slash_r _ _ (by omega)).mono ?_; rintro e w' ⟨rfl, rfl⟩)
    go_ret
    exact ⟨by unfold parentB; rw [if_neg (by omega)]; rfl, rfl⟩
theorem last_r (a : ByteArray) (w : World) (hs : a.size < 4611686018427387904) : Calls Tryz.prog 122 #[.string a] w fun e w' => e = .returned (.string (lastB a)) ∧ w' = w := by
  have hr := lastIndexByte_range a 47
  go_enter Tryz.func122, Tryz.ntmps122
  go_wp2_with (go_at_call 40; refine (slash_r _ _ (by omega)).mono ?_; rintro e w' ⟨rfl, rfl⟩)
  go_ret
  exact ⟨by simp [lastB], rfl⟩
end Go.Proofs.YtpnngdandpncdaaGreatDoor

namespace Go.Proofs.YtpnngdandpncdaaGreatDoor
open Go Go.RowKit

theorem tree_of4 {v : Value} {es : List Ent} {w : World} (hg : ErrType w) (hv : EntsAt w v es) (hl : es.length ≤ 1073741824) (hp : ∀ e ∈ es, e.path.size < 1152921504606846976) (hc : (checkGo [] es).1 = 0) : ∃ W tb tbase F, TreeOf W tb tbase F es := by
  obtain ⟨e, w', fr, ⟨_, tb, F, _, hT⟩, _⟩ := of_t v es w hg hv (by omega) hp hc []
  exact ⟨w', tb, _, F, hT⟩
theorem tree_make {L : List Ent} (h : ∃ W tb tbase F, TreeOf W tb tbase F L) (way : ByteArray) (hw : way.size ≤ 1099511627776) : ∃ W tb tbase F, TreeOf W tb tbase F (treeB L (makeR L way)) := by
  obtain ⟨W, tb, tbase, F, hT⟩ := h
  obtain ⟨e, w', fr, ⟨_, F', hT', _⟩, _⟩ := make_w way L W hT hw []
  exact ⟨w', tb, tbase, F', hT'⟩
theorem tree_place {L : List Ent} (h : ∃ W tb tbase F, TreeOf W tb tbase F L) (way : ByteArray) (hw : way.size ≤ 1099511627776) : ∃ W tb tbase F, TreeOf W tb tbase F (treeB L (placeR L way)) := by
  obtain ⟨W, tb, tbase, F, hT⟩ := h
  obtain ⟨e, w', fr, ⟨_, F', hT', _⟩, _⟩ := place_w way L W hT hw []
  exact ⟨w', tb, tbase, F', hT'⟩
/-- What Make comes to, where it goes well. -/
structure MakeAns (es : List Ent) (way p : ByteArray) (L1 : List Ent) : Prop where
  find : ansB (findR L1 way true) = p ∧ (findR L1 way true).1 = 0
  again : ansB (makeR L1 way) = p ∧ (makeR L1 way).1 = 0 ∧ treeB L1 (makeR L1 way) = L1
  kind : p.size ≠ 0 → kindN L1 p = 1
  kept : kpB L1 es = true
  small : p.size ≤ 255
structure PlaceAns (es : List Ent) (way p : ByteArray) (L1 : List Ent) : Prop where
  kept : kpB L1 es = true
  small : p.size ≤ 255
  up : (parentB p).size ≠ 0 → kindN L1 (parentB p) = 1
  room : p.size ≠ 0 → kindN L1 p = 0 → L1.length < 4096 → putAll L1 (fileE p) = 0 ∧ ansB (findR (laidL L1 (fileE p)) way true) = p ∧ (findR (laidL L1 (fileE p)) way true).1 = 0
theorem parent_small {p : ByteArray} (h : p.size ≤ 255) : (parentB p).size ≤ 255 := Nat.le_trans (parentB_size p) h
theorem errE_nil : errE 0 = .nilIface := rfl
set_option maxRecDepth 100000 in
set_option maxHeartbeats 4000000 in
theorem rmk_no (v : Value) (es : List Ent) (way : ByteArray) (w : World) (hg : ErrType w) (hv : EntsAt w v es) (hl : es.length ≤ 1073741824) (hp : ∀ e ∈ es, e.path.size < 1152921504606846976) (hc : (checkGo [] es).1 ≠ 0) :
    Calls Tryz.prog 4 #[v, .string way] w fun e w' => e = .returned (.bool true) ∧ Below w.heap.size w w' := by
  have hO := ofl_no v es w hg hv hl hp hc
  have hO2 := fun W hb => ofl_no v es W (hg.below (w' := W) hb) (hv.below hb) hl hp hc
  clear hc
  go_enter Tryz.func4, Tryz.ntmps4
  go_wp2_with fail
  refine hO.mono ?_
  rintro e w1 ⟨hb1, rfl⟩
  go_wp2_with fail
  refine (hO2 w1 hb1).mono ?_
  rintro e w2 ⟨hb2', rfl⟩
  have hb2 := below_join hb1 hb2'
  go_wp2_with (go_at_call 7; refine (works_r _ (hg.below hb2)).mono ?_; rintro e w3 ⟨rfl, hb3⟩)
  go_ret
  exact ⟨rfl, below_join hb2 hb3⟩
set_option maxRecDepth 100000 in
set_option maxHeartbeats 16000000 in
theorem rmk_ok (v : Value) (es : List Ent) (way : ByteArray) (w : World) (hg : ErrType w) (hv : EntsAt w v es) (hl : es.length ≤ 1073741824) (hp : ∀ e ∈ es, e.path.size < 1152921504606846976) (hw : way.size ≤ 1073741824) (hc : (checkGo [] es).1 = 0)
    (p : ByteArray) (n : Int) (L1 : List Ent) (hM0 : ansB (makeR es way) = p ∧ (makeR es way).1 = n ∧ treeB es (makeR es way) = L1) (hM1 : (n ≠ 0 ∧ p = ⟨#[]⟩ ∧ L1 = es) ∨ (n = 0 ∧ MakeAns es way p L1))
    (q : ByteArray) (m : Int) (L2 : List Ent) (hP0 : ansB (placeR es way) = q ∧ (placeR es way).1 = m ∧ treeB es (placeR es way) = L2) (hP1 : (m ≠ 0 ∧ q = ⟨#[]⟩ ∧ L2 = es) ∨ (m = 0 ∧ PlaceAns es way q L2)) :
    Calls Tryz.prog 4 #[v, .string way] w fun e w' => e = .returned (.bool true) ∧ Below w.heap.size w w' := by
  have HV : Hid (∀ W, Below w.heap.size w W → EntsAt W v es) := fun W hb => hv.below hb
  have HG : Hid (∀ W, Below w.heap.size w W → ErrType W) := fun W hb => hg.below hb
  have HM0 : Hid (ansB (makeR es way) = p ∧ (makeR es way).1 = n ∧ treeB es (makeR es way) = L1) := hM0
  have HP0 : Hid (ansB (placeR es way) = q ∧ (placeR es way).1 = m ∧ treeB es (placeR es way) = L2) := hP0
  have HM1 : Hid ((n ≠ 0 ∧ p = ⟨#[]⟩ ∧ L1 = es) ∨ (n = 0 ∧ MakeAns es way p L1)) := hM1
  have HP1 : Hid ((m ≠ 0 ∧ q = ⟨#[]⟩ ∧ L2 = es) ∨ (m = 0 ∧ PlaceAns es way q L2)) := hP1
  have hO := ofl_ok v es w hg hv hl hp hc
  have hO2 := fun W hb => ofl_ok v es W (hg.below (w' := W) hb) (hv.below hb) hl hp hc
  clear hc hv hg hM0 hP0 hM1 hP1
  go_enter Tryz.func4, Tryz.ntmps4
  go_wp2_with fail
  refine hO.mono ?_
  rintro e w1 ⟨hb1, tb, tbase, F, rfl, hq1, hT1⟩
  clear hO
  go_wp2_with fail
  refine (hO2 w1 hb1).mono ?_
  rintro e w2 ⟨hb2, ub, ubase, G, rfl, hq2, hU2⟩
  have T2 := two_start hb1 hq1 hT1 hb2 hq2 hU2
  clear hO2 hb1 hb2 hq1 hq2 hT1 hU2
  go_wp2_with fail
  have hM := make_w way es w2 T2.t (by omega)
  rw [HM0.out.1, HM0.out.2.1, HM0.out.2.2] at hM
  with_reducible refine hM.mono ?_
  rintro e w3 ⟨rfl, F3, hT3, hr3⟩
  have T3 := T2.first hT3 hr3
  clear hM T2 hT3 hr3 HM0
  generalize hen : errE n = en
  go_upto_region 6 with fail
  go_cut [55] (fun s wx => s = .bool false ∧ Two w tb tbase F3 L1 ub ubase G es wx)
  case first =>
    rcases HM1.out with ⟨h1, rfl, rfl⟩ | ⟨rfl, _⟩
    · rw [errE_some h1] at hen
      subst hen
      go_wp2_with fail
      with_reducible refine (list_p tb tbase F3 L1 _ T3.t).mono ?_
      rintro e w4 ⟨u4, rfl, hu4, hb4⟩
      have T4 := T3.below hb4
      have HU : Hid (EntsAt w4 u4 L1) := ents_of_owns hu4
      clear T3 hb4 hu4
      go_wp2_with fail
      with_reducible refine (same_p u4 _ L1 _ HU.out (HV.out _ T4.b) (by omega)).mono ?_
      rintro e w5 ⟨rfl, hb5⟩
      have T5 := T4.below hb5
      clear T4 hb5 HU
      go_wp2
      go_meet
      exact ⟨rfl, T5⟩
    · rw [errE_nil] at hen
      subst hen
      go_wp2
      go_meet
      exact ⟨rfl, T3⟩
  case rest =>
    obtain ⟨rfl, T4⟩ := hcut
    clear T3
    go_upto_region 8 with fail
    go_cut [57] (fun s wx => s = .bool (decide (n = 0)) ∧ wx = wc)
    case first =>
      rcases HM1.out with ⟨h1, _⟩ | ⟨h1, _⟩
      · rw [errE_some h1] at hen
        subst hen
        go_wp2
        go_meet
        exact ⟨by simp [h1], rfl⟩
      · subst h1
        rw [errE_nil] at hen
        subst hen
        go_wp2
        go_meet
        exact ⟨rfl, rfl⟩
    case rest =>
    obtain ⟨rfl, rfl⟩ := hcut
    go_upto_if 57 with fail
    go_cut [] (fun wx => ∃ F6, Two w tb tbase F6 L1 ub ubase G es wx)
    case first =>
      rcases HM1.out with ⟨h1, rfl, rfl⟩ | ⟨rfl, HA⟩
      · rw [errE_some h1] at hen
        subst hen
        go_wp2
        go_meet
        exact ⟨F3, T4⟩
      · rw [errE_nil] at hen
        subst hen
        have HA : Hid (MakeAns es way p L1) := HA
        go_wp2_with fail
        have hF := find_p true way L1 _ T4.t (by omega)
        rw [HA.out.find.1, HA.out.find.2] at hF
        with_reducible refine hF.mono ?_
        rintro e w5 ⟨rfl, hb5⟩
        have T5 := T4.below hb5
        clear T4 hb5 hF
        rw [errE_nil]
        go_wp2_with fail
        with_reducible refine (list_p tb tbase F3 L1 _ T5.t).mono ?_
        rintro e w6 ⟨u6, rfl, hu6, hb6⟩
        have HU6 : Hid (FreeE w6 u6 L1 (MineT tb F3)) := free_of_owns hu6 (fun k hk => T5.t.not_mine hk)
        have T6 := T5.below hb6
        clear T5 hb6 hu6
        go_wp2_with fail
        have hM2 := make_w way L1 w6 T6.t (by omega)
        rw [HA.out.again.1, HA.out.again.2.1, HA.out.again.2.2] at hM2
        with_reducible refine hM2.mono ?_
        rintro e w7 ⟨rfl, F7, hT7, hr7⟩
        have T7 := T6.first hT7 hr7
        have HU7 : Hid (FreeE w7 u6 L1 (MineT tb F7)) := HU6.out.rnd hr7
        clear hM2 T6 hT7 hr7 HU6
        rw [errE_nil]
        by_cases hpz : p.size = 0
        · have hpe : p.toList.isEmpty = true := (isEmpty_iff p).2 hpz
          clear hpz
          go_wp2_with fail
          with_reducible refine (rkept_p v L1 es _ T7.t (HV.out _ T7.b) hl HA.out.kept).mono ?_
          rintro e w9 ⟨rfl, hb9⟩
          have T9 := T7.below hb9
          have HU9 : Hid (FreeE w9 u6 L1 (MineT tb F7)) := HU7.out.below hb9
          clear T7 hb9 HU7
          go_wp2_with fail
          with_reducible refine (list_p tb tbase F7 L1 _ T9.t).mono ?_
          rintro e w10 ⟨u10, rfl, hu10, hb10⟩
          have HU10 : Hid (EntsAt w10 u10 L1) := ents_of_owns hu10
          have HU610 : Hid (EntsAt w10 u6 L1) := (HU9.out.below hb10).ents
          have T10 := T9.below hb10
          have hfew := T10.t.few
          clear T9 hb10 hu10 HU9
          go_wp2_with fail
          with_reducible refine (same_p u10 u6 L1 _ HU10.out HU610.out (by omega)).mono ?_
          rintro e w11 ⟨rfl, hb11⟩
          have T11 := T10.below hb11
          clear T10 hb11 HU10 HU610
          go_wp2
          go_meet
          exact ⟨F7, T11⟩
        · have hpe : p.toList.isEmpty = false := (isEmpty_false p).2 (by omega)
          have HK : Hid (kindN L1 p = 1) := HA.out.kind hpz
          clear hpz
          go_wp2_with fail
          have hK := kind_p p L1 w7 T7.t (by have := HA.out.small; omega)
          rw [HK.out] at hK
          with_reducible refine hK.mono ?_
          rintro e w8 ⟨rfl, hb8⟩
          have T8 := T7.below hb8
          have HU8 : Hid (FreeE w8 u6 L1 (MineT tb F7)) := HU7.out.below hb8
          clear T7 hb8 hK HU7
          go_wp2_with fail
          with_reducible refine (rkept_p v L1 es _ T8.t (HV.out _ T8.b) hl HA.out.kept).mono ?_
          rintro e w9 ⟨rfl, hb9⟩
          have T9 := T8.below hb9
          have HU9 : Hid (FreeE w9 u6 L1 (MineT tb F7)) := HU8.out.below hb9
          clear T8 hb9 HU8
          go_wp2_with fail
          with_reducible refine (list_p tb tbase F7 L1 _ T9.t).mono ?_
          rintro e w10 ⟨u10, rfl, hu10, hb10⟩
          have HU10 : Hid (EntsAt w10 u10 L1) := ents_of_owns hu10
          have HU610 : Hid (EntsAt w10 u6 L1) := (HU9.out.below hb10).ents
          have T10 := T9.below hb10
          have hfew := T10.t.few
          clear T9 hb10 hu10 HU9
          go_wp2_with fail
          with_reducible refine (same_p u10 u6 L1 _ HU10.out HU610.out (by omega)).mono ?_
          rintro e w11 ⟨rfl, hb11⟩
          have T11 := T10.below hb11
          clear T10 hb11 HU10 HU610
          go_wp2
          go_meet
          exact ⟨F7, T11⟩
    case rest =>
      obtain ⟨F6, T6⟩ := hcut
      clear T4
      go_wp2_with fail
      have hP := place_w way es _ T6.u (by omega)
      rw [HP0.out.1, HP0.out.2.1, HP0.out.2.2] at hP
      with_reducible refine hP.mono ?_
      rintro e w11 ⟨rfl, G11, hU11, hr11⟩
      have T11 := T6.second hU11 hr11
      clear hP T6 hU11 hr11 HP0
      rcases HP1.out with ⟨h1, rfl, rfl⟩ | ⟨rfl, HA⟩
      · rw [errE_some h1]
        go_wp2_with fail
        with_reducible refine (list_p ub ubase G11 L2 _ T11.u).mono ?_
        rintro e w12 ⟨u12, rfl, hu12, hb12⟩
        have T12 := T11.below hb12
        have HU12 : Hid (EntsAt w12 u12 L2) := ents_of_owns hu12
        clear T11 hb12 hu12
        go_wp2_with fail
        with_reducible refine (same_p u12 _ L2 _ HU12.out (HV.out _ T12.b) (by omega)).mono ?_
        rintro e w13 ⟨rfl, hb13⟩
        have T13 := T12.below hb13
        clear T12 hb13 HU12
        go_wp2_with (go_at_call 7; refine (works_r _ (HG.out _ T13.b)).mono ?_; rintro e w20 ⟨rfl, hb20⟩)
        go_ret
        exact ⟨rfl, (T13.below hb20).b⟩
      · rw [errE_nil]
        have HA : Hid (PlaceAns es way q L2) := HA
        have HQS : Hid (q.size ≤ 255) := HA.out.small
        go_wp2_with fail
        refine (parent_r q _ (by have := HQS.out; omega)).mono ?_
        rintro e w11' ⟨rfl, hw11⟩
        subst hw11
        go_upto_region 18 with fail
        go_cut [145] (fun s wx => s = .bool false ∧ Two w tb tbase F6 L1 ub ubase G11 L2 wx)
        case first =>
          go_wp2_with fail
          with_reducible refine (rkept_p v L2 es _ T11.u (HV.out _ T11.b) hl HA.out.kept).mono ?_
          rintro e w12 ⟨rfl, hb12⟩
          have T12 := T11.below hb12
          clear T11 hb12
          by_cases hrz : (parentB q).size = 0
          · have hre : (parentB q).toList.isEmpty = true := (isEmpty_iff _).2 hrz
            clear hrz
            go_wp2
            go_meet
            exact ⟨rfl, T12⟩
          · have hre : (parentB q).toList.isEmpty = false := (isEmpty_false _).2 (by omega)
            have HK : Hid (kindN L2 (parentB q) = 1) := HA.out.up hrz
            clear hrz
            go_wp2_with fail
            have hK := kind_p (parentB q) L2 _ T12.u (by have := parent_small HQS.out; omega)
            rw [HK.out] at hK
            with_reducible refine hK.mono ?_
            rintro e w13 ⟨rfl, hb13⟩
            have T13 := T12.below hb13
            clear T12 hb13 hK
            go_wp2
            go_meet
            exact ⟨rfl, T13⟩
        case rest =>
          obtain ⟨rfl, T13⟩ := hcut
          clear T11
          by_cases hqz : q.size = 0
          · have hqe : q.toList.isEmpty = true := (isEmpty_iff q).2 hqz
            clear hqz
            go_wp2_with (go_at_call 7; refine (works_r _ (HG.out _ T13.b)).mono ?_; rintro e w20 ⟨rfl, hb20⟩)
            go_ret
            exact ⟨rfl, (T13.below hb20).b⟩
          · have hqe : q.toList.isEmpty = false := (isEmpty_false q).2 (by omega)
            have hRoom := HA.out.room hqz
            clear hqz
            go_wp2_with fail
            have hK := kind_p q L2 _ T13.u (by have := HQS.out; omega)
            generalize hkn : kindN L2 q = kn at hK hRoom
            with_reducible refine hK.mono ?_
            rintro e w14 ⟨rfl, hb14⟩
            have T14 := T13.below hb14
            clear T13 hb14 hK
            by_cases hkz : kn = 0
            · have hR1 := hRoom hkz
              subst hkz
              clear hRoom
              go_wp2_with fail
              with_reducible refine (list_p ub ubase G11 L2 _ T14.u).mono ?_
              rintro e w15 ⟨u15, rfl, hu15, hb15⟩
              obtain ⟨a15, cap15, b15, o15, rfl, _⟩ := ents_of_owns hu15
              have T15 := T14.below hb15
              clear T14 hb15 hu15
              have hfew := T15.u.few
              by_cases hfl : L2.length < 4096
              · have HR : Hid (putAll L2 (fileE q) = 0 ∧ ansB (findR (laidL L2 (fileE q)) way true) = q ∧ (findR (laidL L2 (fileE q)) way true).1 = 0) := hR1 hfl
                have hfi : ¬ (4096 : Int) ≤ (L2.length : Int) := by omega
                clear hR1
                go_wp2_with fail
                have hPut := put_p ub ubase G11 L2 (fileE q) (by have := HQS.out; show q.size < _; omega) _ T15.u (by have h1 := T15.u.mine_lt (k := ub) (.inl rfl); have h2 := T15.u.mine_ge ub (.inl rfl); omega)
                rw [HR.out.1] at hPut
                refine hPut.mono ?_
                rintro e w16 ⟨rfl, _, hx16⟩
                obtain ⟨_, G16, hU16, hr16⟩ := hx16.resolve_left (fun h => h.1 rfl)
                have T16 := T15.second hU16 hr16
                clear hPut T15 hU16 hr16 hx16
                rw [errE_nil]
                go_wp2_with fail
                have hF := find_p true way (laidL L2 (fileE q)) w16 T16.u (by omega)
                rw [HR.out.2.1, HR.out.2.2] at hF
                with_reducible refine hF.mono ?_
                rintro e w17 ⟨rfl, hb17⟩
                have T17 := T16.below hb17
                clear T16 hb17 hF
                rw [errE_nil]
                go_wp2_with (go_at_call 7; refine (works_r _ (HG.out _ T17.b)).mono ?_; rintro e w20 ⟨rfl, hb20⟩)
                go_ret
                exact ⟨rfl, (T17.below hb20).b⟩
              · have hfi : (4096 : Int) ≤ (L2.length : Int) := by omega
                clear hR1
                go_wp2_with (go_at_call 7; refine (works_r _ (HG.out _ T15.b)).mono ?_; rintro e w20 ⟨rfl, hb20⟩)
                go_ret
                exact ⟨rfl, (T15.below hb20).b⟩
            · have hkb : (kn == 0) = false := by simpa using hkz
              clear hRoom
              go_wp2_with (go_at_call 7; refine (works_r _ (HG.out _ T14.b)).mono ?_; rintro e w20 ⟨rfl, hb20⟩)
              go_ret
              exact ⟨rfl, (T14.below hb20).b⟩
theorem resolvemakes_law (v : Value) (es : List Ent) (way : ByteArray) (w : World) (hg : ErrType w) (hv : EntsAt w v es) (hl : es.length ≤ 1073741824) (hp : ∀ e ∈ es, e.path.size < 1152921504606846976) (hw : way.size ≤ 1073741824) :
    Calls Tryz.prog 4 #[v, .string way] w fun e w' => e = .returned (.bool true) ∧ Below w.heap.size w w' := by
  by_cases hc : (checkGo [] es).1 = 0
  · have hT0 := tree_of4 hg hv hl hp hc
    obtain ⟨W1, tb1, ba1, F1, hT1⟩ := tree_make hT0 way (by omega)
    obtain ⟨W2, tb2, ba2, F2, hT2⟩ := tree_place hT0 way (by omega)
    obtain ⟨W0, tb0, ba0, F0, hT0⟩ := hT0
    have ho := hT0.says.order
    have hkn : ∀ {L : List Ent} {p : ByteArray} {e : Ent}, getE L p = some e → kindN L p = e.kind := fun h => by unfold kindN; rw [h]
    refine rmk_ok v es way w hg hv hl hp hw hc _ _ _ ⟨rfl, rfl, rfl⟩ ?_ _ _ _ ⟨rfl, rfl, rfl⟩ ?_
    · by_cases h0 : (makeR es way).1 = 0
      · right
        obtain ⟨_, ⟨a1, a2⟩, b1, b2, b3⟩ := make_again ho h0
        have hd := make_dir ho h0 hT1
        refine ⟨h0, ⟨⟨a2, a1⟩, ⟨b2, b1, b3⟩, fun hz => ?_, (make_kp ho h0).kept, ?_⟩⟩
        · rcases hd with hd | ⟨e, hd, hk⟩
          · rw [hd] at hz; exact absurd rfl hz
          · rw [hkn hd, hk]
        · rcases hd with hd | ⟨e, hd, hk⟩
          · rw [hd]; decide
          · obtain ⟨m1, m2, _⟩ := get_mem hd
            rw [← m2]; exact wrong_path (hT1.right e m1)
      · exact .inl ⟨h0, if_neg h0, if_neg h0⟩
    · by_cases h0 : (placeR es way).1 = 0
      · right
        have hd := place_end ho h0 hT2
        refine ⟨h0, ⟨(place_kp ho h0).kept, ?_, fun hz => ?_, fun hz hk hl2 => ?_⟩⟩
        · rcases hd with hd | ⟨e, hd, hk⟩ | ⟨_, hd, _⟩
          · rw [hd]; decide
          · obtain ⟨m1, m2, _⟩ := get_mem hd
            rw [← m2]; exact wrong_path (hT2.right e m1)
          · exact (check_facts hd).2.1
        · have hup : Up (treeB es (placeR es way)) (ansB (placeR es way)) := by
            rcases hd with hd | ⟨e, hd, hk⟩ | ⟨_, _, hd⟩
            · rw [hd, parent_root] at hz; exact absurd rfl hz
            · obtain ⟨m1, m2, _⟩ := get_mem hd
              have := tree_parent hT2 m1
              rw [m2] at this
              exact this
            · exact hd
          rcases hup with hup | ⟨u, hu, hpu, hk⟩
          · exact absurd hup hz
          · rw [← hpu, hkn (get_of_mem hT2 hu), hk]
        · rcases hd with hd | ⟨e, hd, _⟩ | ⟨d1, d2, d3⟩
          · rw [hd] at hz; exact absurd rfl hz
          · rw [hkn hd] at hk
            obtain ⟨m1, m2, _⟩ := get_mem hd
            have := kind_range (hT2.right e m1)
            omega
          · obtain ⟨f1, f2⟩ := place_find ho h0 hT2.says.order d1 hz
            exact ⟨put_room hT2 d2 d3 d1 hl2, f2, f1⟩
      · exact .inl ⟨h0, if_neg h0, if_neg h0⟩
  · exact rmk_no v es way w hg hv hl hp hc
end Go.Proofs.YtpnngdandpncdaaGreatDoor
