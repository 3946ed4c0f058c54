/- Texts cut short, quoted, held against each other by their names. -/
import Derived.Test.YtopglhoobehgcaaDoorRefNames
import Derived.Deep.QuietTactic
import Derived.BigQuiet
import Derived.LoopN
namespace Go.Proofs.YtopglhoobehgcaaDoor
open Go Go.RowKit

def headB (s : ByteArray) (n : Nat) : ByteArray := if s.size ≤ n then s else s.extract 0 n
theorem headB_size (s : ByteArray) (n : Nat) : (headB s n).size ≤ n := by
  unfold headB; split
  · assumption
  · rw [size_extract' _ _ _ (by omega)]; omega
theorem head_p (s : ByteArray) (n : Nat) (w : World) (h1 : 1 ≤ n) (h2 : n ≤ 1099511627776) : Calls Tryd.prog 19 #[.string s, .int .i64 n] w fun e w' => e = .returned (.string (headB s n)) ∧ w' = w := by
  have d1 : ¬ (n : Int) < 1 := by omega
  by_cases h : s.size ≤ n
  · have d2 : (s.size : Int) ≤ (n : Int) := by omega
    go_enter Tryd.func19, Tryd.ntmps19
    go_wp2
    go_ret
    exact ⟨by unfold headB; rw [if_pos h]; rfl, rfl⟩
  · have d2 : ¬ (s.size : Int) ≤ (n : Int) := by omega
    have d3 : (0 : Int) ≤ (n : Int) := by omega
    go_enter Tryd.func19, Tryd.ntmps19
    go_wp2
    go_ret
    exact ⟨by unfold headB; rw [if_neg h]; rfl, rfl⟩

theorem quote_step (s : ByteArray) (k : Nat) (hk : k < s.size) : quoteL ((un s).take (k + 1)) = quoteL ((un s).take k) ++ (if s[k] == 47 then [47] else [92, s[k]]) := by
  rw [List.take_add_one, un_getElem? s k hk]; exact quoteL_snoc _ _
theorem un_one (s : ByteArray) (k : Nat) (hk : k < s.size) : un (s.extract k (k + 1)) = [s[k]] := by
  have hl : k < (un s).length := by rw [un_length]; exact hk
  have h1 := un_getElem? s k hk
  rw [List.getElem?_eq_getElem hl] at h1
  rw [un_extract, List.drop_take, show k + 1 - k = 1 by omega, List.drop_eq_getElem_cons hl, Option.some.inj h1]; rfl

set_option maxHeartbeats 2000000 in
theorem quoted_p (s : ByteArray) (w : World) (hs : s.size ≤ 1099511627776) : Calls Tryd.prog 20 #[.string s] w fun e w' => e = .returned (.string (bs (quoteL (un s)))) ∧ w' = w := by
  go_enter Tryd.func20, Tryd.ntmps20
  go_wp2
  go_loop [3, 4] (fun a i => ∃ k : Nat, k ≤ s.size ∧ i = .int .i64 k ∧ a = .string (bs (quoteL ((un s).take k)))) (fun _ i => s.size - (intOf i).toNat)
  case atStart => exact ⟨0, Nat.zero_le _, rfl, rfl⟩
  case round =>
    obtain ⟨k, hk, rfl, rfl⟩ := hrel
    have hz : (bs (quoteL ((un s).take k))).size ≤ 2199023255552 := by
      rw [size_bs]; have := quoteL_length ((un s).take k); rw [List.length_take] at this; omega
    by_cases hlt : k < s.size
    · have H1 : Hid (un (s.extract k (k + 1)) = [s[k]]) := un_one s k hlt
      have hz2 : (s.extract k (k + 1)).size = 1 := by rw [size_extract' _ _ _ (by omega)]; omega
      have H2 : Hid _ := quote_step s k hlt
      have d1 : (0 : Int) ≤ (k : Int) := by omega
      have d2 : (k : Int) < (s.size : Int) := by omega
      have d3 : (k : Int) + 1 ≤ (s.size : Int) := by omega
      obtain ⟨a, ha⟩ : ∃ a, bs (quoteL ((un s).take k)) = a := ⟨_, rfl⟩
      have Ha : Hid (un a = quoteL ((un s).take k)) := by unfold Hid; rw [← ha, un_bs]
      rw [ha] at hz ⊢
      clear ha
      by_cases hc : s[k].toNat = 47
      · have H3 : Hid (a ++ s.extract k (k + 1) = bs (quoteL ((un s).take (k + 1)))) := un_inj (by rw [un_append, Ha.out, H1.out, un_bs, H2.out, show s[k] = 47 from UInt8.toNat_inj.1 hc]; rfl)
        go_wp2
        go_round
        case rel => exact ⟨k + 1, by omega, by go_num, by rw [← H3.out]⟩
        case measure => simp [intOf]; omega
      · have hcb : ((s[k].toNat : Int) == 47) = false := by simp; omega
        have H3 : Hid (a ++ ⟨#[92]⟩ ++ s.extract k (k + 1) = bs (quoteL ((un s).take (k + 1)))) := un_inj (by
          rw [un_append, un_append, Ha.out, H1.out, un_bs, H2.out, if_neg (fun e => hc (by rw [beq_iff_eq.1 e]; rfl)), List.append_assoc]; rfl)
        have hz3 : (a ++ (⟨#[92]⟩ : ByteArray)).size = a.size + 1 := by rw [ByteArray.size_append]; rfl
        go_wp2
        go_round
        case rel => exact ⟨k + 1, by omega, by go_num, by rw [← H3.out]⟩
        case measure => simp [intOf]; omega
    · obtain rfl : k = s.size := by omega
      go_wp2
      go_ret
      exact ⟨by rw [List.take_of_length_le (by rw [un_length]; omega)]; rfl, rfl⟩

set_option maxHeartbeats 2000000 in
theorem sameTexts_p (xs ys : List ByteArray) (b1 b2 : Nat) (u v : Value) (w : World) (hu : w.ownsRow b1 9 1 u xs.length (strs xs)) (hv : w.ownsRow b2 9 1 v ys.length (strs ys)) (h1 : xs.length ≤ 1099511627777) (h2 : ys.length ≤ 1099511627777) :
    Calls Tryd.prog 41 #[u, v] w fun e w' => e = .returned (.bool (xs.map un == ys.map un)) ∧ ∃ q, w' = w.drewN q := by
  have hlu : ∃ o c, u = .slice o xs.length c := by
    rcases hu.2 with ⟨rfl, h0⟩ | ⟨g, cap, cur, rfl, _⟩
    · exact ⟨none, 0, by rw [h0]⟩
    · exact ⟨_, _, rfl⟩
  have hlv : ∃ o c, v = .slice o ys.length c := by
    rcases hv.2 with ⟨rfl, h0⟩ | ⟨g, cap, cur, rfl, _⟩
    · exact ⟨none, 0, by rw [h0]⟩
    · exact ⟨_, _, rfl⟩
  by_cases hne : xs.length = ys.length
  rotate_left
  · obtain ⟨o, c, rfl⟩ := hlu
    obtain ⟨o2, c2, rfl⟩ := hlv
    have d1 : ((xs.length : Int) == (ys.length : Int)) = false := by simp; omega
    have Hr : Hid ((xs.map un == ys.map un) = false) := beq_false_of_ne fun e => hne (by have := congrArg List.length e; simpa using this)
    clear hu hv
    go_enter Tryd.func41, Tryd.ntmps41
    go_wp2
    go_ret
    exact ⟨by rw [Hr.out]; rfl, 0, rfl⟩
  · cases hxs : xs with
    | nil =>
      subst hxs
      obtain rfl : ys = [] := List.eq_nil_of_length_eq_zero hne.symm
      obtain ⟨o, c, rfl⟩ := hlu
      obtain ⟨o2, c2, rfl⟩ := hlv
      clear hu hv
      go_enter Tryd.func41, Tryd.ntmps41
      go_wp2
      refine wp_loop_rounds 1 ?_
      rw [rounds_succ]
      go_wp2
      go_ret
      exact ⟨rfl, 0, rfl⟩
    | cons x0 xs0 =>
      have hpos : 0 < xs.length := by rw [hxs]; simp
      rw [← hxs]
      clear hxs
      obtain ⟨g, cap, rfl⟩ : ∃ g cap, u = .slice (some ⟨g, 0, none⟩) xs.length cap := by
        rcases hu.2 with ⟨rfl, h0⟩ | ⟨g, cap, cur, rfl, _⟩
        · omega
        · exact ⟨_, _, rfl⟩
      obtain ⟨h, cap2, rfl⟩ : ∃ g cap, v = .slice (some ⟨g, 0, none⟩) ys.length cap := by
        rcases hv.2 with ⟨rfl, h0⟩ | ⟨g, cap, cur, rfl, _⟩
        · omega
        · exact ⟨_, _, rfl⟩
      have HU : Hid (∀ (j : Nat) x, xs[j]? = some x → w.cell? ⟨g, j, none⟩ = some (.string x)) := fun j x hx => row_cell hu j _ (by simp [strs, hx])
      have HV : Hid (∀ (j : Nat) x, ys[j]? = some x → w.cell? ⟨h, j, none⟩ = some (.string x)) := fun j x hx => row_cell hv j _ (by simp [strs, hx])
      have d1 : ((xs.length : Int) == (ys.length : Int)) = true := by simp; omega
      clear hu hv hlu hlv
      go_enter Tryd.func41, Tryd.ntmps41
      go_wp2
      go_loopw [5] (fun i wr => ∃ (k q : Nat), i = .int .i64 k ∧ k ≤ xs.length ∧ wr = w.drewN q ∧ (xs.take k).map un = (ys.take k).map un) (fun i _ => xs.length - (intOf i).toNat)
      case atStart => exact ⟨0, 0, rfl, Nat.zero_le _, rfl, rfl⟩
      case round =>
        obtain ⟨k, q, rfl, hk, rfl, he⟩ := hrel
        by_cases hlt : k < xs.length
        · obtain ⟨x, hx⟩ : ∃ x, xs[k]? = some x := ⟨_, List.getElem?_eq_getElem hlt⟩
          obtain ⟨y, hy⟩ : ∃ y, ys[k]? = some y := ⟨_, List.getElem?_eq_getElem (by omega)⟩
          have c1 : w.cell? ⟨g, k, none⟩ = some (.string x) := HU.out k x hx
          have c2 : w.cell? ⟨h, k, none⟩ = some (.string y) := HV.out k y hy
          have e1 : (0 : Int) ≤ (k : Int) := by omega
          have e2 : (k : Int) < (xs.length : Int) := by omega
          have e3 : (k : Int) < (ys.length : Int) := by omega
          cases hxy : (x.toList == y.toList)
          · have Hr : Hid ((xs.map un == ys.map un) = false) := beq_false_of_ne fun e => by
              have h3 := congrArg (fun l : List (List UInt8) => l[k]?) e
              simp only [List.getElem?_map, hx, hy, Option.map_some, Option.some.injEq] at h3
              rw [toList_un, toList_un, h3] at hxy; simp at hxy
            clear he hx hy
            go_wp2
            go_quiet (fail)
            go_wp2
            go_ret
            exact ⟨by rw [Hr.out]; rfl, _, World.drewN_drewN _ _ _⟩
          · have He : Hid ((xs.take (k + 1)).map un = (ys.take (k + 1)).map un) := by
              unfold Hid
              rw [List.take_add_one, List.take_add_one, hx, hy, List.map_append, List.map_append, he]
              have : un x = un y := by rw [← toList_un, ← toList_un]; exact beq_iff_eq.1 hxy
              simp [this]
            clear he hx hy
            go_wp2
            go_quiet (fail)
            go_wp2
            go_roundw
            case rel => exact ⟨k + 1, _, by go_num, by omega, rfl, He.out⟩
            case measure => simp [intOf]; omega
        · have Hr : Hid ((xs.map un == ys.map un) = true) := by
            unfold Hid
            rw [List.take_of_length_le (by omega), List.take_of_length_le (by omega)] at he
            rw [he]; simp
          clear he
          go_wp2
          go_ret
          exact ⟨by rw [Hr.out]; rfl, _, rfl⟩

set_option maxHeartbeats 1000000 in
theorem sameNames_p (a b : ByteArray) (w : World) (ha : a.size ≤ 1099511627776) (hb : b.size ≤ 1099511627776) :
    Calls Tryd.prog 22 #[.string a, .string b] w fun e w' => e = .returned (.bool (namesL (un a) == namesL (un b))) ∧ Below w.heap.size w w' := by
  have l1 : (namesB a).length ≤ 1099511627777 := Nat.le_trans (length_wt _) (Nat.le_trans (wt_names a) (by omega))
  have l2 : (namesB b).length ≤ 1099511627777 := Nat.le_trans (length_wt _) (Nat.le_trans (wt_names b) (by omega))
  go_enter Tryd.func22, Tryd.ntmps22
  go_wp2_with fail
  refine (names_r a _ ha).mono ?_
  rintro e w1 ⟨u, rfl, hu, b1⟩
  go_wp2_with fail
  refine (names_r b _ hb).mono ?_
  rintro e w2 ⟨v, rfl, hv, b2⟩
  have hcall := sameTexts_p (namesB a) (namesB b) _ _ u v w2 (own_below hu b2) hv l1 l2
  clear hu hv
  go_wp2_with fail
  refine hcall.mono ?_
  rintro e w3 ⟨rfl, q, rfl⟩
  go_wp2_with fail
  go_ret
  exact ⟨by rw [un_names, un_names]; rfl, below_drewN q (b1.trans (b2.mono b1.size))⟩
end Go.Proofs.YtopglhoobehgcaaDoor
