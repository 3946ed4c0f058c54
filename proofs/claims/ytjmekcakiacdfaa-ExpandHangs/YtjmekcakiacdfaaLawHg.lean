/- ExpandHangs' law. -/
import Derived.Test.YtjmekcakiacdfaaHngX
import Derived.Test.YtjmekcakiacdfaaNumK
import Derived.Deep.Cut
namespace Go.Proofs.Ytjmekcakiacdfaa
open Go Go.RowKit Go.Maps

theorem PrsAt.formH {W : World} {v : Value} {vs : List PrZ} (h : PrsAt W v vs) : ∃ a cap, v = .slice a vs.length cap := by
  obtain ⟨a, cap, b, o, h1, _⟩ := h
  exact ⟨a, cap, h1⟩
theorem few_h (s : ByteArray) (a : Option Addr) (n c : Nat) (W : World) : Calls Try.prog 11 #[.string s, .slice a n c] W fun x w' => x = .returned (.bool (decide (s.size ≤ 131072) && decide (n ≤ 4096))) ∧ w' = W := by
  by_cases h1 : s.size ≤ 131072
  · have h1' : (s.size : Int) ≤ 131072 := by omega
    by_cases h2 : n ≤ 4096
    · have h2' : (n : Int) ≤ 4096 := by omega
      rw [decide_eq_true h1, decide_eq_true h2]
      go_enter Try.func11, Try.ntmps11
      go_wp2
      go_ret
      exact ⟨rfl, rfl⟩
    · have h2' : ¬ (n : Int) ≤ 4096 := by omega
      rw [decide_eq_true h1, decide_eq_false h2]
      go_enter Try.func11, Try.ntmps11
      go_wp2
      go_ret
      exact ⟨rfl, rfl⟩
  · have h1' : ¬ (s.size : Int) ≤ 131072 := by omega
    rw [decide_eq_false h1]
    go_enter Try.func11, Try.ntmps11
    go_wp2
    go_ret
    exact ⟨rfl, rfl⟩
theorem val_mem (n : List UInt8) : ∀ L : PL, valL L n = [] ∨ ∃ x ∈ L, x.2 = valL L n
  | [] => .inl rfl
  | (k, v) :: L => by
    rw [val_cons]
    split
    · rcases val_mem n L with h | ⟨x, hx, h⟩
      · exact .inl h
      · exact .inr ⟨x, List.mem_cons_of_mem _ hx, h⟩
    · split
      · exact .inr ⟨(k, v), List.mem_cons_self .., rfl⟩
      · exact .inl rfl
def ownP (vs : List PrZ) (ns : List (List UInt8)) : List PrZ := ns.map fun n => ⟨bs n, bs (valL (prL vs) n)⟩
theorem prL_own (vs : List PrZ) (ns : List (List UInt8)) : prL (ownP vs ns) = ns.map fun n => (n, valL (prL vs) n) := by
  simp [prL, ownP, un_bs]
theorem prL_append (a b : List PrZ) : prL (a ++ b) = prL a ++ prL b := by simp [prL]
theorem num_er (n : Nat) (h : n ≤ 18) (W : World) : Calls Try.prog 14 #[erV n] W fun x w' => x = .returned (.int .i64 (n : Int)) ∧ w' = W := by
  by_cases h0 : n = 0
  · subst h0; exact num_nil W
  · unfold erV; rw [if_neg h0]
    exact num_some (n : Int) (by omega) (by omega) W
theorem beq_u8s (x y : ByteArray) : (x.toList == y.toList) = decide (un x = un y) := by
  rw [toList_un, toList_un, Bool.eq_iff_iff, beq_iff_eq, decide_eq_true_iff]
set_option maxHeartbeats 16000000 in
set_option maxRecDepth 100000 in
theorem expandhangs_law (s : ByteArray) (e : UInt8) (v : Value) (vs : List PrZ) (u : Value) (us : List PrZ) (W : World) (hv : PrsAt W v vs) (_hl : vs.length ≤ 4398046511104) (hx : ∀ x ∈ vs, x.key.size ≤ 140737488355328 ∧ x.val.size ≤ 140737488355328) (hu : PrsAt W u us) (_hl2 : us.length ≤ 4398046511104) (hx2 : ∀ x ∈ us, x.key.size ≤ 140737488355328 ∧ x.val.size ≤ 140737488355328) (_hs : s.size ≤ 140737488351232) : Calls Try.prog 4 #[.string s, .int .u8 e.toNat, v, u] W fun x w' => x = .returned (.bool true) ∧ Below W.heap.size W w' := by
  obtain ⟨i0, hi, z0, z1, z2⟩ := info_parts info_pr
  obtain ⟨va, cap, b, o, rfl, hva, hcap, hvc⟩ := id hv
  have HVA : Hid (vs ≠ [] → va = some ⟨b, o, none⟩) := hva
  have HVC : Hid (∀ W2, Below W.heap.size W W2 → ∀ (i : Nat) (x : PrZ), vs[i]? = some x → PrC W2 b (o + i * 2) x) := fun W2 hb i x hx => (hvc i x hx).below hb
  clear hva hvc
  obtain ⟨ua, ucap, rfl⟩ := hu.formH
  have hfa := fun W => few_h s va vs.length cap W
  have hww := works_x
  have b0 : Below W.heap.size W W := Below.refl _ _
  cases h1 : (decide (s.size ≤ 131072) && decide (vs.length ≤ 4096)) with
  | false =>
    rw [h1] at hfa
    clear hv hu h1
    go_enter Try.func4, Try.ntmps4
    go_wp2_with (go_at_call 11; refine (hfa _).mono ?_; rintro x w2 ⟨rfl, hw⟩; replace hw := hw.symm; subst hw)
    go_ret
    exact ⟨rfl, b0⟩
  | true =>
  rw [h1] at hfa
  by_cases h2 : us.length ≤ 4096
  rotate_left
  · have h2' : (4096 : Int) < (us.length : Int) := by omega
    clear hv hu h1
    go_enter Try.func4, Try.ntmps4
    go_wp2_with (go_at_call 11; refine (hfa _).mono ?_; rintro x w2 ⟨rfl, hw⟩; replace hw := hw.symm; subst hw)
    go_ret
    exact ⟨rfl, b0⟩
  have h2' : ¬ (4096 : Int) < (us.length : Int) := by omega
  simp only [Bool.and_eq_true, decide_eq_true_eq] at h1
  have hN := names_p s e W (by omega)
  have hnl : (namesL e (un s)).length ≤ 131072 := by
    have hsl := un_length s
    unfold namesL
    split
    · simp
    · have h3 := metL_len (eachL e [0] (un s)).1 []
      have h4 := each_len e (un s).length [0] (un s)
      rw [List.length_nil] at h3
      have h5 : (eachL e [0] (un s)).1.length ≤ (un s).length := h4
      omega
  have hnn : ∀ n ∈ namesL e (un s), n.length ≤ 131072 := by
    have hsl := un_length s
    have key : ∀ (ps : List Pc) (ms : List (List UInt8)), (∀ p ∈ ps, szP p ≤ 131072) → (∀ n ∈ ms, n.length ≤ 131072) → ∀ n ∈ metL ps ms, n.length ≤ 131072 := by
      intro ps
      induction ps with
      | nil => intro ms _ h; exact h
      | cons p ps ih =>
        intro ms hp hm
        refine ih _ (fun q hq => hp q (List.mem_cons_of_mem _ hq)) ?_
        split
        · exact hm
        · intro n hn
          rcases List.mem_append.1 hn with hn | hn
          · exact hm n hn
          · rw [List.mem_singleton] at hn; subst hn
            have h9 : (askP p).length ≤ szP p := by cases p <;> simp [askP, szP]
            have := hp p (List.mem_cons_self ..)
            omega
    intro n hn
    unfold namesL at hn
    split at hn
    · cases hn
    · exact key _ [] (fun p hp => by have := each_small e _ _ _ p hp; omega) (fun n hn => by cases hn) n hn
  have HNN : Hid _ := hnn
  have HX : Hid (∀ x ∈ vs, x.key.size ≤ 140737488355328 ∧ x.val.size ≤ 140737488355328) := hx
  have HX2 : Hid (∀ x ∈ us, x.key.size ≤ 140737488355328 ∧ x.val.size ≤ 140737488355328) := hx2
  have HV : Hid (PrsAt W (.slice va vs.length cap) vs) := hv
  have HU : Hid (PrsAt W (.slice ua us.length ucap) us) := hu
  have HNS : Hid (∀ ws : PL, (∀ n ∈ namesL e (un s), valL (prL vs) n = valL ws n) → wordL e (prL vs) (un s) = wordL e ws (un s)) := fun ws h => word_hangs e (prL vs) ws (un s) h
  clear hv hu hx hx2 hnn
  generalize namesL e (un s) = NS at *
  go_enter Try.func4, Try.ntmps4
  go_wp2_with (first
    | (go_at_call 11; refine (hfa _).mono ?_; rintro x w2 ⟨rfl, hw⟩; replace hw := hw.symm; subst hw)
    | (go_at_call 7; refine hN.mono ?_; rintro x w3 ⟨nv, rfl, hown, b3⟩; obtain ⟨no, nc, hno⟩ := own_sliceN hown; subst hno))
  have HNC : Hid (∀ (k : Nat) (n : List UInt8), NS[k]? = some n → ∃ g, no = some ⟨g, 0, none⟩ ∧ ∀ W2, Below w3.heap.size w3 W2 → W2.cell? ⟨g, k, none⟩ = some (.string (bs n))) := fun k n hk => by
    have hkl := (List.getElem?_eq_some_iff.1 hk).1
    obtain ⟨g, cap9, he, _, hgl⟩ := hown.form (by omega)
    injection he with e1 e2 e3
    refine ⟨g, e1, fun W2 hb => ?_⟩
    subst e1
    have := hown.cellAt k (by omega)
    rw [(hb.cell (p := ⟨g, k, none⟩) hgl).trans this]
    simp [nsC, hk]
  have h3s := b3.size
  clear hown hN
  go_loopw [10, 11, 12, 13] (fun v i _ _ wr => ∃ k : Nat, i = .int .i64 k ∧ k ≤ NS.length ∧ wr.ownsRow w3.heap.size 32 2 v (ownP vs (NS.take k)).length (prCs (ownP vs (NS.take k))) ∧ Below w3.heap.size w3 wr) (fun _ i _ _ _ => NS.length - (intOf i).toNat)
  case atStart => exact ⟨0, rfl, Nat.zero_le _, World.ownsRow_nil _ _ _ _, Below.refl _ _⟩
  case round =>
    obtain ⟨k, rfl, hk, hown, hB⟩ := hrel
    have hsz := hB.size
    by_cases hlt : k < NS.length
    · obtain ⟨n, hn⟩ : ∃ n, NS[k]? = some n := ⟨_, List.getElem?_eq_getElem hlt⟩
      obtain ⟨g, rfl, hcell⟩ := HNC.out k n hn
      have k0 : (0 : Int) ≤ (k : Int) := by omega
      have k1 : (k : Int) < (NS.length : Int) := by omega
      have HCELL : Hid (∀ W2, Below w3.heap.size w3 W2 → W2.cell? ⟨g, k, none⟩ = some (.string (bs n))) := hcell
      have cn := hcell wr hB
      have HO : Hid (NS.take (k + 1) = NS.take k ++ [n]) := by unfold Hid; rw [List.take_add_one, hn]; rfl
      have HBW : Hid (Below W.heap.size W wr) := b3.trans (hB.mono h3s)
      have hol : (ownP vs (NS.take k)).length ≤ 131072 := by unfold ownP; rw [List.length_map, List.length_take]; omega
      have HOWN : Hid _ := hown
      clear hn hcell hown
      go_wp2
      go_loopw [12, 13] (fun x j wr2 => ∃ (m : Nat) (y : ByteArray) (d : Nat), j = .int .i64 m ∧ m ≤ vs.length ∧ x = .string y ∧ Hid (un y = valL (prL (vs.take m)) n) ∧ wr2 = wr.drewN d) (fun _ j _ => vs.length - (intOf j).toNat)
      case atStart => exact ⟨0, ⟨#[]⟩, 0, rfl, Nat.zero_le _, rfl, rfl, rfl⟩
      case round =>
        obtain ⟨m, y, d, rfl, hm, rfl, HY, rfl⟩ := hrel
        by_cases hlt2 : m < vs.length
        · obtain ⟨x, hx⟩ : ∃ x, vs[m]? = some x := ⟨_, List.getElem?_eq_getElem hlt2⟩
          obtain rfl := HVA.out (fun e => by rw [e] at hlt2; simp at hlt2)
          obtain ⟨c0, c1⟩ := HVC.out wr HBW.out m x hx
          have m0 : (0 : Int) ≤ (m : Int) := by omega
          have m1 : (m : Int) < (vs.length : Int) := by omega
          have HS : Hid (valL (prL (vs.take (m + 1))) n = if un x.key = n then un x.val else valL (prL (vs.take m)) n) := by
            have : vs.take (m + 1) = vs.take m ++ [x] := by rw [List.take_add_one, hx]; rfl
            unfold Hid
            rw [this, prL_append]
            exact val_snoc _ _ _ _
          have hq := beq_u8s x.key (bs n)
          rw [un_bs] at hq
          by_cases hkn : un x.key = n
          · rw [decide_eq_true hkn] at hq
            have HS2 : Hid (un x.val = valL (prL (vs.take (m + 1))) n) := by unfold Hid; rw [HS.out, if_pos hkn]
            clear hx hkn
            go_wp2
            go_quiet (fail)
            go_wp2
            go_roundw
            case rel => exact ⟨m + 1, x.val, _, by go_num, by omega, rfl, HS2, rfl⟩
            case measure => simp [intOf]; omega
          · rw [decide_eq_false hkn] at hq
            have HS2 : Hid (un y = valL (prL (vs.take (m + 1))) n) := by unfold Hid; rw [HS.out, if_neg hkn]; exact HY.out
            clear hx hkn
            go_wp2
            go_quiet (fail)
            go_wp2
            go_roundw
            case rel => exact ⟨m + 1, y, _, by go_num, by omega, rfl, HS2, rfl⟩
            case measure => simp [intOf]; omega
        · obtain rfl : m = vs.length := by omega
          have hge : ¬ ((vs.length : Nat) : Int) < (vs.length : Int) := by omega
          have hyv : y = bs (valL (prL vs) n) := by
            have := HY.out
            rw [List.take_length] at this
            exact un_inj (by rw [un_bs]; exact this)
          have HYV : Hid _ := hyv
          have hownd := own_upG HOWN.out (below_drawn (Below.refl wr.heap.size wr) d)
          have HBD : Hid (Below w3.heap.size w3 (wr.drewN d)) := below_drawn hB d
          have cn2 := HCELL.out (wr.drewN d) (below_drawn hB d)
          have hsd : w3.heap.size ≤ (wr.drewN d).heap.size := hsz
          clear hyv HY cn
          generalize wr.drewN d = w4 at *
          go_wp2_with (at_builtin; refine wpList_append_own _ rfl _ _ 29 rfl w3.heap.size 32 i0 (.agg #[.string ⟨#[]⟩, .string ⟨#[]⟩]) 2 32 Try.underlying29 hi z0 z1 z2 rfl (by decide) _ _ _ rfl (hownd.alloc _) ⟨w4.heap.size, 0, none⟩ 1 1 [.string (bs n), .string y] rfl rfl (new_pr _ _ _) (by intro u hu; simp at hu; rcases hu with rfl | rfl <;> rfl) (by unfold maxLen; omega) (by omega) (by simp; omega) ?_; intro v1 w1 hown1 hgrow1 _)
          have hb1 : Below w3.heap.size w3 w1 := (HBD.out.alloc hsd _).grown hgrow1 (by simp; omega) (fun j hj => own_geG hownd j hj.symm)
          go_roundw
          case rel =>
            refine ⟨k + 1, by go_num, by omega, ?_, hb1⟩
            have e9 : ownP vs (NS.take (k + 1)) = ownP vs (NS.take k) ++ [⟨bs n, y⟩] := by rw [HO.out, HYV.out]; simp [ownP]
            rw [e9, prCs_append, List.length_append]; exact hown1
          case measure => simp [intOf]; omega
    · obtain rfl : k = NS.length := by omega
      have hge : ¬ ((NS.length : Nat) : Int) < (NS.length : Int) := by omega
      rw [List.take_length] at hown
      obtain ⟨oo, oc, ho⟩ := own_sliceN hown
      subst ho
      have hsW : W.heap.size ≤ wr.heap.size := Nat.le_trans h3s hB.size
      have HBWr : Below W.heap.size W wr := b3.trans (hB.mono h3s)
      have hopl : (ownP vs NS).length ≤ 131072 := by unfold ownP; rw [List.length_map]; omega
      have hfo : ∀ x ∈ ownP vs NS, x.key.size ≤ 140737488355328 ∧ x.val.size ≤ 140737488355328 := by
        intro x hx
        obtain ⟨n, hn, rfl⟩ := List.mem_map.1 hx
        refine ⟨by show (bs n).size ≤ _; rw [size_bs]; have := HNN.out n hn; omega, ?_⟩
        show (bs (valL (prL vs) n)).size ≤ _
        rw [size_bs]
        rcases val_mem n (prL vs) with h | ⟨y, hy, h⟩
        · rw [h]; simp
        · rw [← h]
          obtain ⟨z, hz, rfl⟩ := List.mem_map.1 hy
          show (un z.val).length ≤ _
          rw [un_length]; exact (HX.out z hz).2
      have hans1 : wordL e (prL vs) (un s) = wordL e (prL (ownP vs NS)) (un s) := HNS.out _ (fun n hn => by rw [prL_own, val_fun hn])
      have hans2 : wordL e (prL vs) (un s) = wordL e (prL (us ++ ownP vs NS)) (un s) := HNS.out _ (fun n hn => by rw [prL_append, prL_own, val_app _ (any_fun hn), val_fun hn])
      have hwv : ∀ W2, Below W.heap.size W W2 → Calls Try.prog 12 #[.string s, .int .u8 e.toNat, .slice va vs.length cap] W2 fun x w' => x = .returned (.tuple #[.string (bs (wordL e (prL vs) (un s)).2), erV (wordL e (prL vs) (un s)).1]) ∧ Below W2.heap.size W2 w' := fun W2 hb => word_p s e vs _ W2 (HV.out.below hb) (FewQ.of ⟨by omega, HX.out⟩) (by omega)
      have hwo : ∀ W2, Below wr.heap.size wr W2 → Calls Try.prog 12 #[.string s, .int .u8 e.toNat, .slice oo (ownP vs NS).length oc] W2 fun x w' => x = .returned (.tuple #[.string (bs (wordL e (prL vs) (un s)).2), erV (wordL e (prL vs) (un s)).1]) ∧ Below W2.heap.size W2 w' := fun W2 hb => by
        rw [hans1]; exact word_p s e (ownP vs NS) _ W2 ((prs_of_owns hown).below hb) (FewQ.of ⟨by omega, hfo⟩) (by omega)
      have hwc : ∀ W2 v8, PrsAt W2 v8 (us ++ ownP vs NS) → Calls Try.prog 12 #[.string s, .int .u8 e.toNat, v8] W2 fun x w' => x = .returned (.tuple #[.string (bs (wordL e (prL vs) (un s)).2), erV (wordL e (prL vs) (un s)).1]) ∧ Below W2.heap.size W2 w' := fun W2 v8 hp => by
        rw [hans2]; exact word_p s e (us ++ ownP vs NS) _ W2 hp (FewQ.of ⟨by rw [List.length_append]; omega, fun x hx => by
          rcases List.mem_append.1 hx with hx | hx
          · exact HX2.out x hx
          · exact hfo x hx⟩) (by omega)
      have hcp : ∀ W2, Below W.heap.size W W2 → Calls Try.prog 13 #[.slice ua us.length ucap] W2 fun x w' => ∃ u, x = .returned u ∧ w'.ownsRow W2.heap.size 32 2 u us.length (prCs us) ∧ Below W2.heap.size W2 w' := fun W2 hb => copy_p us _ W2 (HU.out.below hb) (by omega)
      have hno := word_no e (prL vs) (un s)
      have hnum := fun W2 => num_er (wordL e (prL vs) (un s)).1 hno W2
      have hsm := word_some (e := e) (vs := prL vs) (l := un s)
      have HSM : Hid ((wordL e (prL vs) (un s)).1 = 0 ∨ ((wordL e (prL vs) (un s)).1 ≠ 0 ∧ bs (wordL e (prL vs) (un s)).2 = ⟨#[]⟩)) := by
        unfold Hid
        by_cases h : (wordL e (prL vs) (un s)).1 = 0
        · exact .inl h
        · exact .inr ⟨h, by rw [hsm h]; rfl⟩
      have HOW : Hid (wr.ownsRow w3.heap.size 32 2 (.slice oo (ownP vs NS).length oc) (ownP vs NS).length (prCs (ownP vs NS))) := hown
      have HOP0 : Hid (oo = none → ownP vs NS = []) := fun h => by
        rcases hown.2 with ⟨_, h0⟩ | ⟨g, c9, cur, he, _⟩
        · exact List.eq_nil_of_length_eq_zero h0
        · rw [h] at he; cases he
      have HOP1 : Hid (oo = none → oc = 0) := fun h => by
        rcases hown.2 with ⟨he, _⟩ | ⟨g, c9, cur, he, _⟩
        · injection he
        · rw [h] at he; cases he
      have HOS : Hid (∀ ad, oo = some ad → ∃ g, ad = ⟨g, 0, none⟩ ∧ g < wr.heap.size) := fun ad h => by
        rcases hown.2 with ⟨he, _⟩ | ⟨g, c9, cur, he, _, hg, _⟩
        · rw [h] at he; cases he
        · injection he with he _ _
          rw [h] at he; injection he with he
          exact ⟨g, he, (Array.getElem?_eq_some_iff.1 hg).1⟩
      clear hown hans1 hans2 hsm hfo h1 hnl hno
      generalize wordL e (prL vs) (un s) = wa at *
      generalize ownP vs NS = OP at *
      obtain ⟨na, sa⟩ := wa
      simp only at hwv hwo hwc hnum
      have heq : ((bs sa).toList == (bs sa).toList) = true := by simp
      have HSM2 : Hid (na = 0 ∨ (na ≠ 0 ∧ bs sa = ⟨#[]⟩)) := HSM.out
      clear HSM
      generalize bs sa = SA at *
      have hq : ((na : Int) == 0) = decide (na = 0) := by rw [Bool.eq_iff_iff, beq_iff_eq, decide_eq_true_iff]; omega
      obtain ⟨zb, hzb⟩ : ∃ zb, decide (na = 0) = zb := ⟨_, rfl⟩
      rw [hzb] at hq
      have hes : zb = false → SA.toList.isEmpty = true := fun h => by
        rcases HSM2.out with h8 | ⟨_, h8⟩
        · rw [h] at hzb; simp [h8] at hzb
        · rw [h8, isEmpty_iff]; rfl
      have HES : Hid _ := hes
      clear hzb hes HSM2
      generalize erV na = EA at *
      cases oo with
      | none =>
        obtain rfl := HOP0.out rfl
        obtain rfl := HOP1.out rfl
        simp only [List.append_nil, List.length_nil] at hwc hwo hopl
        clear HOP0 HOP1 HOS HOW HNN HNC HNS HX HX2 HV HU HVA HVC hcap
        cases zb
        all_goals first | have hem := HES.out rfl | skip
        all_goals
          go_wp2_with (first
        | (go_at_call 12; first | (with_reducible refine (hwv _ HBWr).mono ?_; rintro x w5 ⟨rfl, b5⟩) | (with_reducible refine (hwo _ b5).mono ?_; rintro x w6 ⟨rfl, b6⟩) | (with_reducible refine (hwc _ _ hp8).mono ?_; rintro x w9 ⟨rfl, b9⟩))
        | (go_at_call 13; refine (hcp _ (HBWr.trans ((b5.mono hsW).trans (b6.mono (Nat.le_trans hsW b5.size))))).mono ?_; rintro x w7 ⟨cu, rfl, hcu, b7⟩)
        | (at_builtin; refine wpList_append_own_none rfl _ _ 29 rfl w6.heap.size 32 i0 2 Try.underlying29 hi cu us.length (prCs us) rfl hcu rfl ?_; have hp8 : PrsAt w7 cu us := prs_of_owns hcu)
        | (go_at_call 14; refine (hnum _).mono ?_; rintro x w10 ⟨rfl, hw⟩; replace hw := hw.symm; subst hw)
        | (go_at_call 10; refine (hww _).mono ?_; rintro x w11 ⟨rfl, b11⟩))
          go_ret
          exact ⟨rfl, HBWr.trans ((b5.mono hsW).trans ((b6.mono (Nat.le_trans hsW b5.size)).trans ((b7.mono (Nat.le_trans hsW (Nat.le_trans b5.size b6.size))).trans ((b9.mono (Nat.le_trans hsW (Nat.le_trans b5.size (Nat.le_trans b6.size b7.size)))).trans (b11.mono (Nat.le_trans hsW (Nat.le_trans b5.size (Nat.le_trans b6.size (Nat.le_trans b7.size b9.size)))))))))⟩
      | some ad =>
        obtain ⟨g9, rfl, hg9⟩ := HOS.out ad rfl
        have hlen9 : OP.length * 2 = (prCs OP).length := (prCs_length OP).symm
        have HOWU : Hid (∀ W2, Below wr.heap.size wr W2 → ∀ (j : Nat) (q : Value), (prCs OP)[j]? = some q → W2.cell? ((⟨g9, 0, none⟩ : Addr).add j) = some q) := fun W2 hb j q hq9 => (own_upG HOW.out hb).cells (g := g9) rfl j q hq9
        clear HOP0 HOP1 HOS HOW HNN HNC HNS HX HX2 HV HU HVA HVC hcap
        cases zb
        all_goals first | have hem := HES.out rfl | skip
        all_goals
          go_wp2_with (first
        | (go_at_call 12; first | (with_reducible refine (hwv _ HBWr).mono ?_; rintro x w5 ⟨rfl, b5⟩) | (with_reducible refine (hwo _ b5).mono ?_; rintro x w6 ⟨rfl, b6⟩) | (with_reducible refine (hwc _ _ hp8).mono ?_; rintro x w9 ⟨rfl, b9⟩))
        | (go_at_call 13; refine (hcp _ (HBWr.trans ((b5.mono hsW).trans (b6.mono (Nat.le_trans hsW b5.size))))).mono ?_; rintro x w7 ⟨cu, rfl, hcu, b7⟩)
        | (at_builtin; refine wpList_append_own _ rfl _ _ 29 rfl w6.heap.size 32 i0 (.agg #[.string ⟨#[]⟩, .string ⟨#[]⟩]) 2 32 Try.underlying29 hi z0 z1 z2 rfl (by decide) cu us.length (prCs us) rfl hcu ⟨g9, 0, none⟩ OP.length oc (prCs OP) rfl hlen9.symm (HOWU.out _ (b5.trans ((b6.mono b5.size).trans (b7.mono (Nat.le_trans b5.size b6.size))))) (fun u hu => by obtain ⟨z, _, hz⟩ := List.mem_flatMap.1 hu; simp at hz; rcases hz with rfl | rfl <;> rfl) (by unfold maxLen; omega) (by omega) b7.size ?_; intro v8 w8 hown8 hgrow8 _; have hp8 : PrsAt w8 v8 (us ++ OP) := prs_of_owns (by rw [prCs_append, List.length_append]; exact hown8); have b8 : Below w6.heap.size w6 w8 := b7.grown hgrow8 b7.size (fun j hj => own_geG hcu j hj.symm))
        | (go_at_call 14; refine (hnum _).mono ?_; rintro x w10 ⟨rfl, hw⟩; replace hw := hw.symm; subst hw)
        | (go_at_call 10; refine (hww _).mono ?_; rintro x w11 ⟨rfl, b11⟩))
          go_ret
          exact ⟨rfl, HBWr.trans ((b5.mono hsW).trans ((b6.mono (Nat.le_trans hsW b5.size)).trans ((b8.mono (Nat.le_trans hsW (Nat.le_trans b5.size b6.size))).trans ((b9.mono (Nat.le_trans hsW (Nat.le_trans b5.size (Nat.le_trans b6.size b8.size)))).trans (b11.mono (Nat.le_trans hsW (Nat.le_trans b5.size (Nat.le_trans b6.size (Nat.le_trans b8.size b9.size)))))))))⟩
end Go.Proofs.Ytjmekcakiacdfaa
