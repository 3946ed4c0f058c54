/- StrataWays: what Find, Make and Place answer lies in the tree's directories; what was there stays. -/
import Derived.Test.YtpnngdandpncdaaGreatDoorMkN
import Derived.Test.YtpnngdandpncdaaGreatDoorLawMk

namespace Go.Proofs.YtpnngdandpncdaaGreatDoor
open Go Go.RowKit

/-- What stands at a path; the root is a directory. -/
def kindT (L : List Ent) (p : ByteArray) : Int := if p.size = 0 then 1 else match L.find? (pathIs p) with | none => 0 | some e => e.kind
theorem kindT_get {L : List Ent} {p : ByteArray} {e : Ent} (h : getE L p = some e) : kindT L p = e.kind := by
  unfold getE at h
  split at h
  · cases h
  · rename_i h0
    unfold kindT
    rw [if_neg h0, h]
theorem kindT_none {L : List Ent} {p : ByteArray} (h : getE L p = none) (hz : p.size ≠ 0) : kindT L p = 0 := by
  unfold getE at h
  rw [if_neg hz] at h
  unfold kindT
  rw [if_neg hz, h]
theorem kindT_root {L : List Ent} {p : ByteArray} (hz : p.size = 0) : kindT L p = 1 := by
  unfold kindT
  rw [if_pos hz]
/-- Each directory above a path is there, and a directory; the path begins with no slash. -/
def StrB (L : List Ent) (p : ByteArray) : Prop := (∀ i, (un p)[i]? = some 47 → kindT L (p.extract 0 i) = 1) ∧ (un p)[0]? ≠ some 47
theorem first_ok {p : ByteArray} (hc : checkN p = 0) : (un p)[0]? ≠ some 47 := by
  have h := (check_facts hc).2.2
  intro h0
  rcases hu : un p with _ | ⟨c, l⟩
  · rw [hu] at h0; simp at h0
  · rw [hu] at h0
    simp at h0
    subst h0
    have : (⟨#[]⟩ : ByteArray) ∈ piecesB p := by
      unfold piecesB
      rw [hu, cutL_cons]
      simp [bs]
    exact name_full (h _ this) rfl
variable {W : World} {tb base : Nat} {F : Pic} {L : List Ent}
theorem str_path (h : TreeOf W tb base F L) : ∀ (n : Nat) (p : ByteArray), p.size ≤ n → Up L p → ∀ i, (un p)[i]? = some 47 → kindT L (p.extract 0 i) = 1
  | 0, p, hn, _, i, hi => by
    have h1 := (List.getElem?_eq_some_iff.1 hi).1
    rw [un_length] at h1
    omega
  | n + 1, p, hn, hu, i, hi => by
    rcases last_split p with ⟨hno, _⟩ | ⟨hs, hl⟩
    · exact absurd (List.mem_of_getElem? hi) hno
    · have hlen : p.size = (parentB p).size + 1 + (lastB p).size := by
        have := congrArg List.length hs
        simp only [un_length, List.length_append, List.length_cons] at this
        omega
      by_cases h1 : i < (un (parentB p)).length
      · have hi2 : (un (parentB p))[i]? = some 47 := by
          rw [hs, List.getElem?_append_left h1] at hi
          exact hi
        rw [un_length] at h1
        rcases hu with hu | ⟨u, hu, hp, hk⟩
        · omega
        · have hup : Up L (parentB p) := by
            have := tree_parent h hu
            rw [hp] at this
            exact this
          have := str_path h n (parentB p) (by omega) hup i hi2
          have he : p.extract 0 i = (parentB p).extract 0 i := un_inj (by
            rw [un_extract, un_extract, hs, List.take_append_of_le_length (by rw [un_length]; omega)])
          rw [he]; exact this
      · by_cases h2 : i = (un (parentB p)).length
        · have he : p.extract 0 i = parentB p := un_inj (by
            rw [un_extract, hs, h2, List.take_left]; rfl)
          rw [he]
          rcases hu with hu | ⟨u, hu, hp, hk⟩
          · exact kindT_root hu
          · rw [← hp, kindT_get (get_of_mem h hu), hk]
        · exfalso
          rw [hs, List.getElem?_append_right (by omega)] at hi
          obtain ⟨j, hj⟩ : ∃ j, i - (un (parentB p)).length = j + 1 := ⟨i - (un (parentB p)).length - 1, by omega⟩
          rw [hj, List.getElem?_cons_succ] at hi
          exact hl (List.mem_of_getElem? hi)
theorem str_of (h : TreeOf W tb base F L) {p : ByteArray} (hc : checkN p = 0) (hu : Up L p) : StrB L p := ⟨str_path h p.size p (Nat.le_refl _) hu, first_ok hc⟩
theorem str_root (L : List Ent) : StrB L ⟨#[]⟩ := ⟨fun i hi => by simp [un] at hi, by simp [un]⟩
theorem str_get (h : TreeOf W tb base F L) {p : ByteArray} {e : Ent} (hg : getE L p = some e) : StrB L p := by
  obtain ⟨m1, m2, _⟩ := get_mem hg
  subst m2
  exact str_of h (wrong_check (h.right e m1)) (tree_parent h m1)
/-- What Find answers. -/
theorem find_end (h : TreeOf W tb base F L) {way : ByteArray} {last : Bool} (h0 : (findR L way last).1 = 0) : ansB (findR L way last) = ⟨#[]⟩ ∨ ∃ e, getE L (ansB (findR L way last)) = some e ∧ (e.kind = 3 → last = false) := by
  have ha : ansB (findR L way last) = (goF ⟨0, false, !last⟩ (msr (start L way) + 1) (start L way)).2.1.here := if_pos h0
  rw [ha]
  have hi := inv_go h (m := ⟨0, false, !last⟩) rfl (msr (start L way) + 1) (start L way) ⟨rfl, .inl rfl⟩ h0
  rcases hi.2 with h1 | ⟨e, h1, _, h2⟩
  · exact .inl h1
  · refine .inr ⟨e, h1, fun hk => ?_⟩
    have := h2 hk
    simpa using this
/-- A walk that finds all goes the same way over a list that has more. -/
theorem fx_step {m : Mn} (hm : m.ab = 0) {st : St} {c : ByteArray} {rest : List ByteArray} {L' : List Ent} (h0 : (stepN m st c rest).1 = 0) (hx : Ext st.L L') :
    stepN m { st with L := L' } c rest = (0, { (stepN m st c rest).2 with L := L' }) ∧ (stepN m st c rest).2.L = st.L := by
  unfold stepN at h0 ⊢
  by_cases h1 : c = dotB
  · simp only [if_pos h1]; exact ⟨trivial, trivial⟩
  · simp only [if_neg h1] at h0 ⊢
    by_cases h2 : c = ddB
    · simp only [if_pos h2]; exact ⟨trivial, trivial⟩
    · simp only [if_neg h2] at h0 ⊢
      cases hg : getE st.L (joinB st.here c) with
      | none =>
        rw [hg] at h0
        simp only [absN, hm] at h0
        exact absurd h0 (by decide)
      | some e =>
        rw [hg] at h0
        rw [hx _ _ hg]
        simp only at h0 ⊢
        unfold thereN at h0 ⊢
        by_cases h3 : isFile m e rest = true
        · rw [if_pos h3] at h0; simp at h0
        · rw [if_neg h3] at h0
          simp only [if_neg h3]
          by_cases h4 : isLink m e rest = true
          · rw [if_pos h4] at h0
            simp only [if_pos h4]
            unfold linkS at h0 ⊢
            by_cases h5 : st.hops = 40
            · rw [if_pos h5] at h0; simp at h0
            · simp only [if_neg h5]; exact ⟨trivial, trivial⟩
          · simp only [if_neg h4]; exact ⟨trivial, trivial⟩
theorem fx_go {m : Mn} (hm : m.ab = 0) {L' : List Ent} : ∀ (f : Nat) (st : St), (goF m f st).1 = 0 → Ext st.L L' → (goF m f { st with L := L' }).1 = 0 ∧ (goF m f { st with L := L' }).2.1.here = (goF m f st).2.1.here
  | 0, st, _, _ => ⟨rfl, rfl⟩
  | f + 1, st, h0, hx => by
    by_cases hl : st.left = []
    · rw [goF_nil (m := m) (f := f + 1) (st := { st with L := L' }) hl, goF_nil (m := m) (f := f + 1) hl]
      exact ⟨rfl, rfl⟩
    · obtain ⟨c, rest, hl⟩ := List.exists_cons_of_ne_nil hl
      by_cases h1 : (stepN m st c rest).1 = 0
      · rw [goF_ok hl h1] at h0 ⊢
        have hs := fx_step hm h1 hx
        have hs1 : (stepN m { st with L := L' } c rest).1 = 0 := by rw [hs.1]
        rw [goF_ok (st := { st with L := L' }) hl hs1, hs.1]
        exact fx_go hm f _ h0 (by rw [hs.2]; exact hx)
      · rw [goF_err hl h1] at h0
        exact absurd h0 h1
/-- Where Find of a way goes well, Make of it answers the same. -/
theorem find_make {way : ByteArray} (ho : L.Pairwise ltE) (h0 : (findR L way true).1 = 0) (h1 : (makeR L way).1 = 0) : ansB (findR L way true) = ansB (makeR L way) := by
  obtain ⟨hx, ⟨a1, a2⟩, _⟩ := make_again ho h1
  rw [← a2]
  obtain ⟨f1, f2⟩ := fx_go (m := ⟨0, false, false⟩) rfl (msr (start L way) + 1) (start L way) h0 hx
  have e1 : ansB (findR L way true) = (goF ⟨0, false, false⟩ (msr (start L way) + 1) (start L way)).2.1.here := if_pos h0
  have e2 : ansB (findR (treeB L (makeR L way)) way true) = (goF ⟨0, false, false⟩ (msr (start L way) + 1) { start L way with L := treeB L (makeR L way) }).2.1.here := if_pos a1
  rw [e1, e2, f2]
theorem eqE_eq {a b : Ent} (h : eqE a b = true) : a = b := by
  have hp := eqE_path h
  unfold eqE at h
  simp only [Bool.and_eq_true, beq_iff_eq, toList_un, and_true] at h
  obtain ⟨_, h2, h3, h4, h5⟩ := h
  have h4' := un_inj h4
  have h5' := un_inj h5
  cases a; cases b
  simp at hp h2 h3 h4' h5'
  subst hp h2 h3 h4' h5'
  rfl
theorem eqE_ne {a b : Ent} (h : a ≠ b) : eqE a b = false := by
  cases hq : eqE a b with
  | false => rfl
  | true => exact absurd (eqE_eq hq) h
theorem kp_sub : ∀ (L L0 : List Ent), kpB L L0 = true → L0.Sublist L
  | [], l, h => by
    unfold kpB at h
    rw [List.isEmpty_iff.1 h]
    exact List.nil_sublist _
  | n :: now, [], _ => List.nil_sublist _
  | n :: now, e :: l, h => by
    unfold kpB at h
    by_cases hq : eqE n e = true
    · rw [if_pos hq] at h
      rw [← eqE_eq hq]
      exact (kp_sub now l h).cons_cons n
    · rw [if_neg hq, Bool.and_eq_true] at h
      exact (kp_sub now (e :: l) h.2).cons n
theorem sub_skip {x y : Ent} {xs ys : List Ent} (h : (x :: xs).Sublist (y :: ys)) (hn : y ≠ x) : (x :: xs).Sublist ys := by
  cases h with
  | cons _ h => exact h
  | cons_cons _ _ => exact absurd rfl hn
end Go.Proofs.YtpnngdandpncdaaGreatDoor

namespace Go.Proofs.YtpnngdandpncdaaGreatDoor
open Go Go.RowKit

theorem find_take_none {L : List Ent} {p : ByteArray} {k : Nat} {x : Ent} (hx : L[k]? = some x) (h : (L.take k).find? (pathIs p) = none) (hp : pathIs p x = false) : (L.take (k + 1)).find? (pathIs p) = none := by
  rw [List.take_add_one, hx, List.find?_append, h]
  simp [hp]
theorem find_take_some {L : List Ent} {p : ByteArray} {k : Nat} {x : Ent} (hx : L[k]? = some x) (h : (L.take k).find? (pathIs p) = none) (hp : pathIs p x = true) : L.find? (pathIs p) = some x := by
  have hk := (List.getElem?_eq_some_iff.1 hx).1
  have e : L = L.take k ++ x :: L.drop (k + 1) := by
    rw [List.getElem?_eq_getElem hk] at hx
    have h1 := List.take_append_drop k L
    rw [List.drop_eq_getElem_cons hk, Option.some.inj hx] at h1
    exact h1.symm
  rw [e, List.find?_append, h]
  simp [List.find?, hp]
set_option maxRecDepth 100000 in
set_option maxHeartbeats 2000000 in
theorem kindt_p (v : Value) (L : List Ent) (p : ByteArray) (w : World) (hv : EntsAt w v L) (hl : L.length ≤ 1073741824) :
    Calls Tryz.prog 25 #[v, .string p] w fun e w' => e = .returned (.int .i64 (kindT L p)) ∧ w' = w := by
  obtain ⟨a, cap, b, o, rfl, ha, hcap, hc⟩ := hv
  by_cases hz : p.size = 0
  · have hpe : p.toList.isEmpty = true := (isEmpty_iff p).2 hz
    have hK : kindT L p = 1 := kindT_root hz
    rw [hK]
    clear hz hK
    go_enter Tryz.func25, Tryz.ntmps25
    go_wp2
    go_ret
    exact ⟨rfl, rfl⟩
  · have hpe : p.toList.isEmpty = false := (isEmpty_false p).2 (by omega)
    have HK : Hid (∀ x, L.find? (pathIs p) = some x → kindT L p = x.kind) := fun x hx => by unfold kindT; rw [if_neg hz, hx]
    have HK0 : Hid (L.find? (pathIs p) = none → kindT L p = 0) := fun hx => by unfold kindT; rw [if_neg hz, hx]
    clear hz
    go_enter Tryz.func25, Tryz.ntmps25
    go_wp2
    go_loopw [5] (fun i wr => ∃ k : Nat, i = .int .i64 k ∧ k ≤ L.length ∧ (L.take k).find? (pathIs p) = none ∧ wr = w) (fun i _ => L.length - (intOf i).toNat)
    case atStart => exact ⟨0, rfl, Nat.zero_le _, rfl, rfl⟩
    case round =>
      obtain ⟨k, rfl, hk, hn, rfl⟩ := hrel
      by_cases hlt : k < L.length
      · have hlt' : (k : Int) < (L.length : Int) := by omega
        have hk0 : (0 : Int) ≤ (k : Int) := by omega
        obtain ⟨x, hx⟩ : ∃ x, L[k]? = some x := ⟨_, List.getElem?_eq_getElem hlt⟩
        obtain rfl := ha (fun e => by rw [e] at hlt; simp at hlt)
        obtain ⟨c0, c1, c2, c3, c4⟩ := hc k x hx
        cases hq : (x.path.toList == p.toList) with
        | true =>
          have hf := find_take_some hx hn (by unfold pathIs; rw [← toList_un, ← toList_un]; exact hq)
          have HKX : Hid (kindT L p = x.kind) := HK.out x hf
          clear hx hc ha hn hf
          go_wp2
          go_ret
          exact ⟨by rw [HKX.out]; rfl, rfl⟩
        | false =>
          have hf := find_take_none hx hn (by unfold pathIs; rw [← toList_un, ← toList_un]; exact hq)
          clear hx hc ha hn
          go_wp2
          go_roundw
          case rel => exact ⟨k + 1, by go_num, by omega, hf, by first | rfl | trivial⟩
          case measure => simp [intOf]; omega
      · have hge : ¬ (k : Int) < (L.length : Int) := by omega
        rw [List.take_of_length_le (by omega)] at hn
        have HKX : Hid (kindT L p = 0) := HK0.out hn
        clear hn
        go_wp2
        go_ret
        exact ⟨by rw [HKX.out]; rfl, rfl⟩
set_option maxRecDepth 100000 in
set_option maxHeartbeats 2000000 in
theorem straight_p (v : Value) (L : List Ent) (p : ByteArray) (w : World) (hv : EntsAt w v L) (hl : L.length ≤ 1073741824) (hp : p.size ≤ 1073741824) (hs : StrB L p) :
    Calls Tryz.prog 24 #[v, .string p] w fun e w' => e = .returned (.bool true) ∧ w' = w := by
  have HK : Hid (∀ q : ByteArray, Calls Tryz.prog 25 #[v, .string q] w fun e w' => e = .returned (.int .i64 (kindT L q)) ∧ w' = w) := fun q => kindt_p v L q w hv hl
  have HS : Hid (StrB L p) := hs
  clear hv hs
  go_enter Tryz.func24, Tryz.ntmps24
  go_wp2
  go_loopw [5] (fun i wr => ∃ k : Nat, i = .int .i64 k ∧ k ≤ p.size ∧ wr = w) (fun i _ => p.size - (intOf i).toNat)
  case atStart => exact ⟨0, rfl, Nat.zero_le _, rfl⟩
  case round =>
    obtain ⟨k, rfl, hk, rfl⟩ := hrel
    by_cases hlt : k < p.size
    · have hlt' : (k : Int) < (p.size : Int) := by omega
      have hk0 : (0 : Int) ≤ (k : Int) := by omega
      have hget := un_getElem? p k hlt
      by_cases hc : p[k] = 47
      · have hK := HS.out.1 k (by rw [hget, hc])
        have hb : (p[k].toNat : Int) = 47 := by rw [hc]; rfl
        have hC := HK.out (p.extract 0 k)
        rw [hK] at hC
        clear hget hK hc
        go_wp2_with (go_at_call 25; refine hC.mono ?_; rintro e w1 ⟨rfl, rfl⟩)
        go_roundw
        case rel => exact ⟨k + 1, by go_num, by omega, by first | rfl | trivial⟩
        case measure => simp [intOf]; omega
      · have hb : ¬ (p[k].toNat : Int) = 47 := fun h => hc (UInt8.toNat_inj.1 (by show p[k].toNat = 47; omega))
        clear hget hc
        go_wp2
        go_roundw
        case rel => exact ⟨k + 1, by go_num, by omega, by first | rfl | trivial⟩
        case measure => simp [intOf]; omega
    · have hge : ¬ (k : Int) < (p.size : Int) := by omega
      by_cases hz : p.size = 0
      · have hz' : ((p.size : Int) == 0) = true := by rw [beq_iff_eq]; omega
        clear hz
        go_wp2
        go_ret
        exact ⟨rfl, rfl⟩
      · have hz' : ((p.size : Int) == 0) = false := by rw [beq_eq_false_iff_ne]; omega
        have hz0 : (0 : Int) < (p.size : Int) := by omega
        have hz1 : 0 < p.size := by omega
        have hf := HS.out.2
        rw [un_getElem? p 0 hz1] at hf
        have hb' : ¬ (p[0].toNat : Int) = 47 := fun h => hf (by rw [show p[0] = 47 from UInt8.toNat_inj.1 (by show p[0].toNat = 47; omega)])
        have hb : ((p[0].toNat : Int) != 47) = true := by simpa using hb'
        clear hf hz hb'
        go_wp2
        go_ret
        exact ⟨rfl, rfl⟩
theorem num_top (n : Int) (h1 : 1 ≤ n) (h2 : n ≤ 32) (w : World) : Calls Tryz.prog 43 #[.iface 61 (.int .i64 n)] w fun e w' => e = .returned (.int .i64 n) ∧ w' = w := by
  go_enter Tryz.func43, Tryz.ntmps43
  go_wp2_with (go_at_call 31; refine (num_some n h1 h2 _).mono ?_; rintro e w1 ⟨rfl, hw⟩; replace hw := hw.symm; subst hw)
  go_ret
  exact ⟨rfl, rfl⟩
end Go.Proofs.YtpnngdandpncdaaGreatDoor

namespace Go.Proofs.YtpnngdandpncdaaGreatDoor
open Go Go.RowKit

theorem drop_some {L : List Ent} {k : Nat} {x : Ent} (hx : L[k]? = some x) : L.drop k = x :: L.drop (k + 1) := by
  have hk := (List.getElem?_eq_some_iff.1 hx).1
  rw [List.getElem?_eq_getElem hk] at hx
  rw [List.drop_eq_getElem_cons hk, Option.some.inj hx]
set_option maxRecDepth 100000 in
set_option maxHeartbeats 4000000 in
theorem holds_p (u v : Value) (L P : List Ent) (w : World) (hu : EntsAt w u L) (hv : EntsAt w v P) (hl : L.length ≤ 1073741824) (hlp : P.length ≤ 1073741824) (hs : P.Sublist L) :
    Calls Tryz.prog 26 #[u, v] w fun e w' => e = .returned (.bool true) ∧ Below w.heap.size w w' := by
  obtain ⟨a, cap, b, o, rfl, ha, hcap, hc⟩ := hu
  obtain ⟨a2, cap2, b2, o2, rfl, ha2, hcap2, hc2⟩ := hv
  go_enter Tryz.func26, Tryz.ntmps26
  go_wp2
  go_loopw [5, 6] (fun t i wr => ∃ k j q : Nat, i = .int .i64 k ∧ t = .int .i64 j ∧ k ≤ P.length ∧ j ≤ L.length ∧ (P.drop k).Sublist (L.drop j) ∧ wr = w.drewN q) (fun _ i _ => P.length - (intOf i).toNat)
  case atStart => exact ⟨0, 0, 0, rfl, rfl, Nat.zero_le _, Nat.zero_le _, hs, rfl⟩
  case round =>
    obtain ⟨k, j, q, rfl, rfl, hk, hj, hsub, rfl⟩ := hrel
    by_cases hlt : k < P.length
    · have hlt' : (k : Int) < (P.length : Int) := by omega
      have hk0 : (0 : Int) ≤ (k : Int) := by omega
      obtain ⟨x, hx⟩ : ∃ x, P[k]? = some x := ⟨_, List.getElem?_eq_getElem hlt⟩
      obtain rfl := ha2 (fun e => by rw [e] at hlt; simp at hlt)
      obtain ⟨d0, d1, d2, d3, d4⟩ := hc2 k x hx
      have hdk := drop_some hx
      clear hx hc2 ha2
      go_wp2
      go_loopw [5] (fun t wr => ∃ j q : Nat, t = .int .i64 j ∧ j ≤ L.length ∧ (P.drop k).Sublist (L.drop j) ∧ wr = w.drewN q) (fun t _ => L.length - (intOf t).toNat)
      case atStart => exact ⟨j, q, rfl, hj, hsub, rfl⟩
      case round =>
        obtain ⟨j, q, rfl, hj, hsub, rfl⟩ := hrel
        have hjl : j < L.length := by
          by_cases h : j < L.length
          · exact h
          · have e : L.drop j = [] := List.drop_eq_nil_of_le (by omega)
            rw [e, hdk] at hsub
            cases hsub
        have hjl' : (j : Int) < (L.length : Int) := by omega
        have hj0 : (0 : Int) ≤ (j : Int) := by omega
        have hjd : decide ((j : Int) < (L.length : Int)) = true := by simp; omega
        have hjn : decide (j < L.length) = true := by simp; omega
        have hje : ((j : Int) == (L.length : Int)) = false := by rw [beq_eq_false_iff_ne]; omega
        obtain ⟨y, hy⟩ : ∃ y, L[j]? = some y := ⟨_, List.getElem?_eq_getElem hjl⟩
        obtain rfl := ha (fun e => by rw [e] at hjl; simp at hjl)
        obtain ⟨c0, c1, c2, c3, c4⟩ := hc j y hy
        by_cases hq : y = x
        · have heq := fun W => eq_ent y x W
          rw [show eqE y x = true by rw [hq]; exact eqE_self x] at heq
          unfold eva at heq
          have hnext : (P.drop (k + 1)).Sublist (L.drop j) := by
            rw [hdk] at hsub
            exact (List.sublist_cons_self _ _).trans hsub
          clear hy hc ha hsub hdk hq
          go_wp2
          go_quiet (fail)
          go_wp2
          go_roundw
          case rel => exact ⟨k + 1, j, _, by go_num, by go_num, by omega, by omega, hnext, rfl⟩
          case measure => simp [intOf]; omega
        · have heq := fun W => eq_ent y x W
          rw [eqE_ne hq] at heq
          unfold eva at heq
          have hnext : (P.drop k).Sublist (L.drop (j + 1)) := by
            rw [hdk] at hsub ⊢
            rw [drop_some hy] at hsub
            exact sub_skip hsub hq
          clear hy hc ha hsub hdk hq
          go_wp2
          go_quiet (fail)
          go_wp2
          go_roundw
          case rel => exact ⟨j + 1, _, by go_num, by omega, hnext, rfl⟩
          case measure => simp [intOf]; omega
    · have hge : ¬ (k : Int) < (P.length : Int) := by omega
      go_wp2
      go_ret
      exact ⟨rfl, ⟨rfl, rfl, rfl, Nat.le_refl _, fun _ _ => rfl⟩⟩
end Go.Proofs.YtpnngdandpncdaaGreatDoor

namespace Go.Proofs.YtpnngdandpncdaaGreatDoor
open Go Go.RowKit

def addK (L : List Ent) (e : Ent) (t : Nat) : Nat → List Ent
  | 0 => []
  | k + 1 => addK L e t k ++ (if k = t then [e] else []) ++ (L[k]?).toList
theorem addK_len (L : List Ent) (e : Ent) (t : Nat) : ∀ k, (addK L e t k).length ≤ k + (if t < k then 1 else 0)
  | 0 => by simp [addK]
  | k + 1 => by
    have := addK_len L e t k
    have h2 : ((L[k]?).toList).length ≤ 1 := by cases L[k]? <;> simp
    unfold addK
    simp only [List.length_append]
    by_cases h : k = t
    · subst h
      simp at this ⊢
      omega
    · simp only [if_neg h, List.length_nil]
      split at this
      · rw [if_pos (by omega)]; omega
      · split <;> omega
set_option maxRecDepth 100000 in
set_option maxHeartbeats 4000000 in
theorem add_p (v : Value) (L : List Ent) (x : Ent) (t : Nat) (w : World) (hv : EntsAt w v L) (hl : L.length ≤ 1073741823) (ht : t ≤ 1073741824) :
    Calls Tryz.prog 44 #[v, .agg #[.string x.path, .int .i64 x.kind, .int .i64 x.mode, .string x.data, .string x.link], .int .i64 t] w fun e w' => ∃ u, e = .returned u ∧ EntsAt w' u (addK L x t L.length) ∧ Below w.heap.size w w' := by
  obtain ⟨i0, hi, hz0, hz1, hz2⟩ := info_parts info_ent
  have hbx : Below w.heap.size w (w.alloc (.cells #[.string x.path, .int .i64 x.kind, .int .i64 x.mode, .string x.data, .string x.link] 51)) := (Below.refl _ w).alloc (Nat.le_refl _) _
  have HX : Hid (EntC (w.alloc (.cells #[.string x.path, .int .i64 x.kind, .int .i64 x.mode, .string x.data, .string x.link] 51)) w.heap.size 0 x) := ent_new w _ x
  have hsz0 : (w.alloc (.cells #[.string x.path, .int .i64 x.kind, .int .i64 x.mode, .string x.data, .string x.link] 51)).heap.size = w.heap.size + 1 := by simp
  have hv0 := hv.below hbx
  obtain ⟨a, cap, b, o, rfl, ha, hcap, hc⟩ := hv0
  clear hv
  go_enter Tryz.func44, Tryz.ntmps44
  go_wp2
  generalize hw0 : w.alloc (.cells #[.string x.path, .int .i64 x.kind, .int .i64 x.mode, .string x.data, .string x.link] 51) = w0 at *
  go_loopw [7, 8] (fun v i wr => ∃ k : Nat, i = .int .i64 k ∧ k ≤ L.length ∧ wr.ownsRow w0.heap.size 51 5 v (addK L x t k).length (ecells (addK L x t k)) ∧ Below w0.heap.size w0 wr) (fun _ i _ => L.length - (intOf i).toNat)
  case atStart => exact ⟨0, rfl, Nat.zero_le _, World.ownsRow_nil _ _ _ _, Below.refl _ _⟩
  case round =>
    obtain ⟨k, rfl, hk, hown, hB⟩ := hrel
    have hsz := hB.size
    by_cases hlt : k < L.length
    · have hlt' : (k : Int) < (L.length : Int) := by omega
      have hk0 : (0 : Int) ≤ (k : Int) := by omega
      obtain ⟨y, hy⟩ : ∃ y, L[k]? = some y := ⟨_, List.getElem?_eq_getElem hlt⟩
      obtain rfl := ha (fun e => by rw [e] at hlt; simp at hlt)
      obtain ⟨c0, c1, c2, c3, c4⟩ := (hc k y hy).below hB
      have hlk := addK_len L x t k
      have hlk2 : (addK L x t k).length ≤ 1073741824 := by split at hlk <;> omega
      by_cases hkt : k = t
      · have hkb : ((k : Int) == (t : Int)) = true := by rw [beq_iff_eq]; omega
        have HX1 : Hid (addK L x t (k + 1) = addK L x t k ++ [x] ++ [y]) := by unfold Hid; rw [addK, if_pos hkt, hy]; rfl
        have hlk3 : (addK L x t k).length ≤ L.length := by rw [if_neg (by omega)] at hlk; omega
        obtain ⟨d0, d1, d2, d3, d4⟩ := HX.out.below hB
        have HY : Hid (∀ W, Below w0.heap.size w0 W → EntC W b (o + k * 5) y) := fun W hb => (hc k y hy).below hb
        clear hy hc ha hkt hlk
        go_wp2_with (first | (at_builtin; refine wpList_append_own _ rfl _ _ 22 rfl w0.heap.size 51 i0 (.agg #[.string ⟨#[]⟩, .int .i64 0, .int .i64 0, .string ⟨#[]⟩, .string ⟨#[]⟩]) 5 64 Tryz.underlying22 hi hz0 hz1 hz2 rfl (by decide) _ _ _ rfl (hown.alloc _) ⟨wr.heap.size, 0, none⟩ 1 1 (ecs x) rfl rfl (ent_cells (ent_new wr _ x)) (ent_one x) (by unfold maxLen; omega) (by omega) (by simp; omega) ?_; intro v1 w1 hown1 hgrow1 _; have hb1 : Below w0.heap.size w0 w1 := (hB.alloc hsz _).grown hgrow1 (by simp; omega) (fun j hj => (own_ge hown j hj.symm).1); have hsz1 := hb1.size; obtain ⟨f0, f1, f2, f3, f4⟩ := HY.out w1 hb1) | (at_builtin; refine wpList_append_own _ rfl _ _ 22 rfl w0.heap.size 51 i0 (.agg #[.string ⟨#[]⟩, .int .i64 0, .int .i64 0, .string ⟨#[]⟩, .string ⟨#[]⟩]) 5 64 Tryz.underlying22 hi hz0 hz1 hz2 rfl (by decide) _ _ _ rfl (hown1.alloc _) ⟨w1.heap.size, 0, none⟩ 1 1 (ecs y) rfl rfl (ent_cells (ent_new w1 _ y)) (ent_one y) (by unfold maxLen; omega) (by omega) (by simp; omega) ?_; intro v2 w2 hown2 hgrow2 _))
        have hb2 : Below w0.heap.size w0 w2 := (hb1.alloc hsz1 _).grown hgrow2 (by simp; omega) (fun j hj => (own_ge hown1 j hj.symm).1)
        have hown3 : w2.ownsRow w0.heap.size 51 5 v2 (addK L x t (k + 1)).length (ecells (addK L x t (k + 1))) := by
          rw [HX1.out, ecells_append, ecells_append, List.length_append, List.length_append]; simpa [ecells] using hown2
        clear hown1 hgrow1 hown hown2 hgrow2
        go_roundw
        case rel => exact ⟨k + 1, by go_num, by omega, hown3, hb2⟩
        case measure => simp [intOf]; omega
      · have hkb : ((k : Int) == (t : Int)) = false := by rw [beq_eq_false_iff_ne]; omega
        have HX1 : Hid (addK L x t (k + 1) = addK L x t k ++ [y]) := by unfold Hid; rw [addK, if_neg hkt, hy]; simp
        clear hy hc ha hkt hlk
        go_wp2_with (at_builtin; refine wpList_append_own _ rfl _ _ 22 rfl w0.heap.size 51 i0 (.agg #[.string ⟨#[]⟩, .int .i64 0, .int .i64 0, .string ⟨#[]⟩, .string ⟨#[]⟩]) 5 64 Tryz.underlying22 hi hz0 hz1 hz2 rfl (by decide) _ _ _ rfl (hown.alloc _) ⟨wr.heap.size, 0, none⟩ 1 1 (ecs y) rfl rfl (ent_cells (ent_new wr _ y)) (ent_one y) (by unfold maxLen; omega) (by omega) (by simp; omega) ?_; intro v1 w1 hown1 hgrow1 _)
        have hb1 : Below w0.heap.size w0 w1 := (hB.alloc hsz _).grown hgrow1 (by simp; omega) (fun j hj => (own_ge hown j hj.symm).1)
        have hown2 : w1.ownsRow w0.heap.size 51 5 v1 (addK L x t (k + 1)).length (ecells (addK L x t (k + 1))) := by
          rw [HX1.out, ecells_append, List.length_append]; simpa [ecells] using hown1
        clear hown1 hgrow1 hown
        go_roundw
        case rel => exact ⟨k + 1, by go_num, by omega, hown2, hb1⟩
        case measure => simp [intOf]; omega
    · have hge : ¬ (k : Int) < (L.length : Int) := by omega
      have hkl : k = L.length := by omega
      rw [hkl] at hown
      clear hkl
      go_wp2
      go_ret
      exact ⟨_, rfl, ents_of_owns hown, hbx.trans (hB.mono hbx.size)⟩
end Go.Proofs.YtpnngdandpncdaaGreatDoor

namespace Go.Proofs.YtpnngdandpncdaaGreatDoor
open Go Go.RowKit

structure EntL where
  path : List UInt8
  kind : Int
  mode : Int
  data : List UInt8
  link : List UInt8
def EntL.e (x : EntL) : Ent := ⟨bs x.path, x.kind, x.mode, bs x.data, bs x.link⟩
structure StL where
  L : List EntL
  here : List UInt8
  left : List (List UInt8)
  hops : Nat
  made : List (List UInt8)
def StL.s (x : StL) : St := ⟨x.L.map EntL.e, bs x.here, x.left.map bs, x.hops, x.made.map bs⟩
def joinL (a b : List UInt8) : List UInt8 := if a.isEmpty then b else a ++ 47 :: b
theorem join_l (a b : List UInt8) : joinB (bs a) (bs b) = bs (joinL a b) := by
  unfold joinB joinL
  rw [toList_un, un_bs]
  split
  · rfl
  · exact un_inj (by rw [un_append, un_append, un_bs, un_bs, un_bs]; simp [un])
def parentL (l : List UInt8) : List UInt8 := ((l.reverse.dropWhile (· != 47)).drop 1).reverse
theorem drop_all {l : List UInt8} (h : (47 : UInt8) ∉ l) (r : List UInt8) : (l ++ r).dropWhile (· != 47) = r.dropWhile (· != 47) := by
  induction l with
  | nil => rfl
  | cons c l ih =>
    have h1 : (c != 47) = true := by
      have : c ≠ 47 := fun e => h (by simp [e])
      simpa using this
    rw [List.cons_append, List.dropWhile_cons, if_pos h1]
    exact ih (fun hm => h (by simp [hm]))
theorem parent_l (l : List UInt8) : parentB (bs l) = bs (parentL l) := by
  rcases last_split (bs l) with ⟨h1, h2, _⟩ | ⟨h1, h2⟩
  · rw [h2]
    rw [un_bs] at h1
    have : l.reverse.dropWhile (· != 47) = [] := by
      have := drop_all (l := l.reverse) (by simpa using h1) []
      simpa using this
    unfold parentL
    rw [this]; rfl
  · rw [un_bs] at h1
    have key : ∀ a b : List UInt8, (47 : UInt8) ∉ b → parentL (a ++ 47 :: b) = a := fun a b hb => by
      unfold parentL
      rw [List.reverse_append, List.reverse_cons, List.append_assoc, drop_all (by simpa using hb)]
      simp
    refine un_inj ?_
    rw [un_bs]
    conv => rhs; rw [h1]
    rw [key _ _ h2]
def namesL (l : List UInt8) : List (List UInt8) := (cutL l).filter (fun x => !x.isEmpty)
theorem names_l (l : List UInt8) : namesB (bs l) = (namesL l).map bs := by
  unfold namesB namesL piecesB
  rw [un_bs, List.filter_map]
  congr 1
  refine List.filter_congr (fun x _ => ?_)
  simp only [Function.comp, full, toList_un, un_bs]
def findL (L : List EntL) (p : List UInt8) : Option EntL := L.find? (fun x => x.path == p)
theorem find_l (L : List EntL) (p : List UInt8) : (L.map EntL.e).find? (pathIs (bs p)) = (findL L p).map EntL.e := by
  unfold findL
  rw [List.find?_map]
  have : (pathIs (bs p) ∘ EntL.e) = fun x => x.path == p := by
    funext x
    simp only [Function.comp, pathIs, EntL.e, un_bs]
  rw [this]
def getL (L : List EntL) (p : List UInt8) : Option EntL := if p.isEmpty then none else findL L p
theorem get_l (L : List EntL) (p : List UInt8) : getE (L.map EntL.e) (bs p) = (getL L p).map EntL.e := by
  unfold getE getL
  rw [size_bs]
  cases p with
  | nil => rfl
  | cons c p => rw [if_neg (by simp)]; simp only [List.isEmpty_cons, Bool.false_eq_true, if_false]; exact find_l L _
def cmpLL : List (List UInt8) → List (List UInt8) → Int
  | [], [] => 0
  | [], _ :: _ => -1
  | _ :: _, [] => 1
  | x :: xs, y :: ys => if Lib.compareBytes x y = 0 then cmpLL xs ys else Lib.compareBytes x y
theorem cmp_ll : ∀ xs ys : List (List UInt8), compareP (xs.map bs) (ys.map bs) = cmpLL xs ys
  | [], [] => rfl
  | [], _ :: _ => rfl
  | _ :: _, [] => rfl
  | x :: xs, y :: ys => by
    simp only [List.map_cons, compareP, cmpLL, cmpB, un_bs]
    rw [cmp_ll xs ys]
def cmpL (a b : List UInt8) : Int := cmpLL (cutL a) (cutL b)
theorem cmp_l (a b : List UInt8) : compareN (bs a) (bs b) = cmpL a b := by
  unfold compareN piecesB cmpL
  rw [un_bs, un_bs, cmp_ll]
def laidLL (L : List EntL) (e : EntL) : List EntL := L.filter (fun x => decide (cmpL x.path e.path < 0)) ++ e :: L.filter (fun x => decide (0 < cmpL x.path e.path))
theorem laid_l (L : List EntL) (e : EntL) : laidL (L.map EntL.e) e.e = (laidLL L e).map EntL.e := by
  unfold laidL laidLL
  rw [List.map_append, List.map_cons, List.filter_map, List.filter_map]
  have h : ∀ x : EntL, compareN x.e.path e.e.path = cmpL x.path e.path := fun x => cmp_l _ _
  congr 2
  · refine List.filter_congr (fun x _ => ?_)
    simp only [Function.comp, h]
  · congr 1
    refine List.filter_congr (fun x _ => ?_)
    simp only [Function.comp, h]
def dirL (p : List UInt8) : EntL := ⟨p, 1, 493, [], []⟩
theorem dir_l (p : List UInt8) : dirE (bs p) = (dirL p).e := rfl
def nameL (s : List UInt8) : Int :=
  if s.isEmpty then 8 else if 96 < s.length then 8 else if Lib.containsAny s [0, 47] then 8 else if s == [46] then 8 else if s == [46, 46] then 8 else if Lib.hasPrefix s [46, 119, 104, 46] then 8 else 0
theorem name_l (s : List UInt8) : nameN (bs s) = nameL s := by
  unfold nameN nameL
  simp only [toList_un, un_bs, size_bs]
/-- What is wrong with a short path; 99: it is none. -/
def checkL (p : List UInt8) : Int := if 96 < p.length then 99 else if p.isEmpty then 15 else if (cutL p).any (fun x => nameL x != 0) then 8 else if 32 < (cutL p).length then 9 else 0
theorem white_small (l : List UInt8) (h : l.length ≤ 96) : (whiteoutB (bs l)).size ≤ 100 := by
  unfold whiteoutB joinB
  rcases last_split (bs l) with ⟨_, h2, h3⟩ | ⟨h1, _⟩
  · rw [h2, h3, if_pos (by rw [toList_un]; rfl), ByteArray.size_append, size_bs]
    have : (⟨#[46, 119, 104, 46]⟩ : ByteArray).size = 4 := rfl
    omega
  · have hl := congrArg List.length h1
    rw [un_bs] at hl
    simp only [List.length_append, List.length_cons, un_length] at hl
    have e1 : (⟨#[46, 119, 104, 46]⟩ : ByteArray).size = 4 := rfl
    have e2 : (⟨#[47]⟩ : ByteArray).size = 1 := rfl
    split
    · rw [ByteArray.size_append]; omega
    · rw [ByteArray.size_append, ByteArray.size_append, ByteArray.size_append]; omega
theorem check_l (p : List UInt8) (h : checkL p ≠ 99) : checkN (bs p) = checkL p := by
  unfold checkL at h ⊢
  by_cases h0 : 96 < p.length
  · rw [if_pos h0] at h; exact absurd rfl h
  · rw [if_neg h0]
    unfold checkN
    have hs : splitP (whiteoutB (bs p)) = (⟨#[]⟩, whiteoutB (bs p), 0) := by
      unfold splitP
      rw [if_pos (white_small p (by omega))]
    rw [hs, toList_un, un_bs, size_bs]
    have h1 : (piecesB (bs p)).any (fun x => nameN x != 0) = (cutL p).any (fun x => nameL x != 0) := by
      unfold piecesB
      rw [un_bs, List.any_map]
      congr 1
      funext x
      simp only [Function.comp, name_l]
    have h2 : (piecesB (bs p)).length = (cutL p).length := by unfold piecesB; rw [un_bs, List.length_map]
    rw [h1, h2]
    split
    · rfl
    · split
      · rfl
      · split
        · rfl
        · rw [if_neg (by omega)]
def upL (L : List EntL) (p : List UInt8) : Int := if (parentL p).isEmpty then 0 else match findL L (parentL p) with | none => 10 | some e => if e.kind ≠ 1 then 13 else 0
theorem up_l (L : List EntL) (p : List UInt8) : upN (L.map EntL.e) (bs p) = upL L p := by
  unfold upN upL
  rw [parent_l, find_l, size_bs]
  cases hp : parentL p with
  | nil => rfl
  | cons c q =>
    rw [if_neg (by simp)]
    simp only [List.isEmpty_cons, Bool.false_eq_true, if_false]
    cases findL L (c :: q) with
    | none => rfl
    | some e => rfl
def bytesLL (L : List EntL) : Nat := (L.map fun e => e.data.length).sum
theorem bytes_l (L : List EntL) : bytesL (L.map EntL.e) = bytesLL L := by
  unfold bytesL bytesLL
  rw [List.map_map]
  have : ((fun e : Ent => e.data.size) ∘ EntL.e) = fun e : EntL => e.data.length := by
    funext x
    simp only [Function.comp, EntL.e, size_bs]
  rw [this]
/-- Putting an entry where nothing is, or 99. -/
def putL (L : List EntL) (e : EntL) : Int := if upL L e.path ≠ 0 then upL L e.path else match findL L e.path with
  | none => if 4096 < L.length + 1 ∨ (16777216 : Int) < (bytesLL L : Int) + e.data.length then 5 else 0
  | some _ => 99
theorem put_l (L : List EntL) (e : EntL) (h : putL L e ≠ 99) : putN (L.map EntL.e) e.e = putL L e := by
  unfold putL at h ⊢
  unfold putN
  rw [show e.e.path = bs e.path from rfl, up_l]
  split
  · rfl
  · rename_i h1
    rw [if_neg h1] at h
    unfold manyN
    rw [show e.e.path = bs e.path from rfl, find_l, bytes_l, List.length_map, show e.e.data = bs e.data from rfl, size_bs]
    cases hf : findL L e.path with
    | none => rfl
    | some x => rw [hf] at h; exact absurd rfl h
def targL (s : List UInt8) : Bool := !s.isEmpty && decide (s.length ≤ 100) && decide (Lib.indexByte s 0 < 0)
def wrongL (e : EntL) : Int :=
  if e.kind ≠ 1 ∧ e.kind ≠ 2 ∧ e.kind ≠ 3 then 14
  else if checkL e.path ≠ 0 then checkL e.path
  else if e.mode < 0 ∨ 4095 < e.mode ∨ (e.kind = 3 ∧ e.mode ≠ 511) then 16
  else if e.kind = 3 ∧ targL e.link = false then 17
  else if e.kind = 2 ∧ 1048576 < e.data.length then 5
  else if (e.kind ≠ 2 ∧ e.data.isEmpty = false) ∨ (e.kind ≠ 3 ∧ e.link.isEmpty = false) then 4
  else 0
theorem wrong_l (e : EntL) (h : wrongL e ≠ 99) : wrongN e.e = wrongL e := by
  by_cases hc : checkL e.path = 99
  · unfold wrongL at h ⊢
    unfold wrongN
    rw [show e.e.kind = e.kind from rfl]
    by_cases hk : e.kind ≠ 1 ∧ e.kind ≠ 2 ∧ e.kind ≠ 3
    · rw [if_pos hk, if_pos hk]
    · rw [if_neg hk, hc, if_pos (by decide)] at h
      exact absurd rfl h
  · have h1 := check_l e.path hc
    unfold wrongN wrongL targB targL
    simp only [EntL.e, h1, toList_un, un_bs, size_bs]
def lastL (L : List EntL) : List UInt8 := match L.getLast? with | some d => d.path | none => []
theorem last_l (L : List EntL) : lastP (L.map EntL.e) = bs (lastL L) := by
  unfold lastP lastL
  rw [List.getLast?_map]
  cases L.getLast? <;> rfl
def ooL (a b : List UInt8) : Int := if cmpL a b = 0 then 11 else if 0 < cmpL a b then 1 else 0
def oneL (L : List EntL) (e : EntL) : Int := if wrongL e ≠ 0 then wrongL e else if ooL (lastL L) e.path ≠ 0 then ooL (lastL L) e.path else putL L e
def treeL (L : List EntL) : List EntL → Bool
  | [] => true
  | e :: r => (oneL L e == 0) && treeL (L ++ [e]) r
theorem tree_l : ∀ (r L : List EntL), treeL L r = true → (checkGo (L.map EntL.e) (r.map EntL.e)).1 = 0
  | [], L, _ => rfl
  | e :: r, L, h => by
    unfold treeL at h
    rw [Bool.and_eq_true, beq_iff_eq] at h
    obtain ⟨h1, h2⟩ := h
    have ho : oneN (L.map EntL.e) e.e = 0 := by
      unfold oneL at h1
      split at h1
      · rename_i hw; exact absurd h1 hw
      · rename_i hw
        have hw0 : wrongL e = 0 := by simpa using hw
        split at h1
        · rename_i hoo; exact absurd h1 hoo
        · rename_i hoo
          unfold oneN
          rw [wrong_l e (by rw [hw0]; decide), hw0]
          have h3 : ooN (lastP (L.map EntL.e)) e.e.path = ooL (lastL L) e.path := by
            unfold ooN ooL
            rw [last_l, show e.e.path = bs e.path from rfl, cmp_l]
          rw [h3, put_l L e (by rw [h1]; decide), h1]
          have h4 : ooL (lastL L) e.path = 0 := by simpa using hoo
          rw [h4]
          decide
    rw [List.map_cons]
    unfold checkGo
    rw [if_neg (by rw [ho]; simp)]
    have := tree_l r (L ++ [e]) h2
    rw [List.map_append] at this
    exact this
def slashL (l : List UInt8) : Bool := Lib.hasPrefix l [47]
/-- A step; 99: it is not reckoned here. -/
def layL (st : StL) (p : List UInt8) (rest : List (List UInt8)) : Int × StL :=
  (if checkL p ≠ 0 then checkL p else putL st.L (dirL p), { st with L := laidLL st.L (dirL p), here := p, left := rest, made := st.made ++ [p] })
theorem lay_l (st : StL) (p : List UInt8) (rest : List (List UInt8)) (h : (layL st p rest).1 ≠ 99) : layS st.s (bs p) (rest.map bs) = ((layL st p rest).1, (layL st p rest).2.s) := by
  unfold layL at h ⊢
  unfold layS
  simp only at h ⊢
  have hc : checkL p ≠ 99 := by
    intro hc
    rw [hc, if_pos (by decide)] at h
    exact h rfl
  have hw : wrongN (dirE (bs p)) = checkL p := by
    have e1 : (dirE (bs p)).path = bs p := rfl
    unfold wrongN
    rw [e1, check_l p hc]
    simp only [dirE, toList_un]
    by_cases h0 : checkL p = 0
    · rw [h0]; decide
    · rw [if_neg (by decide), if_pos h0]
  refine Prod.ext ?_ ?_
  · show putAll _ _ = _
    unfold putAll
    rw [hw]
    split
    · rfl
    · rename_i h1
      rw [if_neg h1] at h
      exact put_l st.L (dirL p) h
  · show (⟨_, _, _, _, _⟩ : St) = ⟨_, _, _, _, _⟩
    simp only [StL.s, St.mk.injEq]
    exact ⟨laid_l st.L (dirL p), trivial, trivial, trivial, by simp⟩
def absL (m : Mn) (st : StL) (p : List UInt8) (rest : List (List UInt8)) : Int × StL :=
  match m.ab with
  | 0 => (10, st)
  | 1 => layL st p rest
  | _ => if rest.isEmpty then (checkL p, { st with here := p, left := rest }) else layL st p rest
def isFileL (m : Mn) (e : EntL) (rest : List (List UInt8)) : Bool := (e.kind == 2) && (m.dirs || !rest.isEmpty)
def isLinkL (m : Mn) (e : EntL) (rest : List (List UInt8)) : Bool := (e.kind == 3) && !(m.stay && rest.isEmpty)
def linkL (st : StL) (e : EntL) (rest : List (List UInt8)) : Int × StL :=
  if st.hops = 40 then (12, st) else (0, { st with here := if slashL e.link then [] else st.here, left := namesL e.link ++ rest, hops := st.hops + 1 })
def thereL (m : Mn) (st : StL) (p : List UInt8) (rest : List (List UInt8)) (e : EntL) : Int × StL :=
  if isFileL m e rest then (13, st) else if isLinkL m e rest then linkL st e rest else (0, { st with here := p, left := rest })
def stepL (m : Mn) (st : StL) (c : List UInt8) (rest : List (List UInt8)) : Int × StL :=
  if c = [46] then (0, { st with left := rest })
  else if c = [46, 46] then (0, { st with here := parentL st.here, left := rest })
  else match getL st.L (joinL st.here c) with
    | none => absL m st (joinL st.here c) rest
    | some e => thereL m st (joinL st.here c) rest e
theorem bs_inj {a b : List UInt8} : bs a = bs b ↔ a = b := ⟨fun h => by rw [← un_bs a, h, un_bs], fun h => by rw [h]⟩
theorem step_l (m : Mn) (st : StL) (c : List UInt8) (rest : List (List UInt8)) (h : (stepL m st c rest).1 ≠ 99) : stepN m st.s (bs c) (rest.map bs) = ((stepL m st c rest).1, (stepL m st c rest).2.s) := by
  unfold stepL at h ⊢
  unfold stepN
  have hd : bs c = dotB ↔ c = [46] := bs_inj (b := [46])
  have hdd : bs c = ddB ↔ c = [46, 46] := bs_inj (b := [46, 46])
  by_cases h1 : c = [46]
  · rw [if_pos (hd.2 h1), if_pos h1]; rfl
  · rw [if_neg h1] at h ⊢
    rw [if_neg (fun h => h1 (hd.1 h))]
    by_cases h2 : c = [46, 46]
    · rw [if_pos (hdd.2 h2), if_pos h2]
      simp only [StL.s, parent_l]
    · rw [if_neg h2] at h ⊢
      rw [if_neg (fun h => h2 (hdd.1 h))]
      have hj : joinB st.s.here (bs c) = bs (joinL st.here c) := join_l _ _
      have hg := get_l st.L (joinL st.here c)
      rw [hj, show st.s.L = st.L.map EntL.e from rfl, hg]
      cases hgl : getL st.L (joinL st.here c) with
      | none =>
        rw [hgl] at h
        simp only [Option.map_none] at h ⊢
        unfold absN absL at *
        rcases hab : m.ab with _ | _ | k
        · rfl
        · rw [hab] at h; exact lay_l _ _ _ h
        · rw [hab] at h
          simp only at h ⊢
          cases rest with
          | nil =>
            simp only [List.isEmpty_nil, if_true] at h ⊢
            rw [check_l _ h]
            simp [StL.s]
          | cons a b =>
            simp only [List.isEmpty_cons, Bool.false_eq_true, if_false] at h ⊢
            rw [if_neg (by simp)]
            exact lay_l _ _ _ h
      | some e =>
        rw [hgl] at h
        simp only [Option.map_some] at h ⊢
        unfold thereN thereL
        have f1 : isFile m e.e (rest.map bs) = isFileL m e rest := by unfold isFile isFileL; cases rest <;> rfl
        have f2 : isLink m e.e (rest.map bs) = isLinkL m e rest := by unfold isLink isLinkL; cases rest <;> rfl
        rw [f1, f2]
        split
        · rfl
        · split
          · unfold linkS linkL
            rw [show st.s.hops = st.hops from rfl]
            split
            · rfl
            · have s1 : slashed e.e.link = slashL e.link := by unfold slashed slashL EntL.e; rw [un_bs]
              rw [s1, show e.e.link = bs e.link from rfl, names_l]
              simp only [StL.s, List.map_append]
              split <;> rfl
          · rfl
def goL (m : Mn) : Nat → StL → Int × StL
  | 0, st => (0, st)
  | f + 1, st => match st.left with
    | [] => (0, st)
    | c :: rest => if (stepL m st c rest).1 = 0 then goL m f (stepL m st c rest).2 else ((stepL m st c rest).1, st)
theorem go_l (m : Mn) : ∀ (f : Nat) (st : StL), (goL m f st).1 ≠ 99 → (goF m f st.s).1 = (goL m f st).1 ∧ (goF m f st.s).2.1 = (goL m f st).2.s
  | 0, st, _ => ⟨rfl, rfl⟩
  | f + 1, st, h => by
    cases hl : st.left with
    | nil =>
      have h1 : goF m (f + 1) st.s = (0, st.s, []) := goF_nil (by show st.left.map bs = []; rw [hl]; rfl)
      have h2 : goL m (f + 1) st = (0, st) := by unfold goL; rw [hl]
      rw [h1, h2]; exact ⟨rfl, rfl⟩
    | cons c rest =>
      have hl2 : st.s.left = bs c :: rest.map bs := by show st.left.map bs = _; rw [hl]; rfl
      by_cases h0 : (stepL m st c rest).1 = 0
      · have h2 : goL m (f + 1) st = goL m f (stepL m st c rest).2 := by
          conv => lhs; unfold goL
          rw [hl]; simp only; rw [if_pos h0]
        rw [h2] at h ⊢
        have hs := step_l m st c rest (by rw [h0]; decide)
        have hs1 : (stepN m st.s (bs c) (rest.map bs)).1 = 0 := by rw [hs]; exact h0
        rw [goF_ok hl2 hs1, hs]
        exact go_l m f _ h
      · have h2 : goL m (f + 1) st = ((stepL m st c rest).1, st) := by
          conv => lhs; unfold goL
          rw [hl]; simp only; rw [if_neg h0]
        rw [h2] at h ⊢
        have hs := step_l m st c rest h
        have hs1 : ¬ (stepN m st.s (bs c) (rest.map bs)).1 = 0 := by rw [hs]; exact h0
        rw [goF_err hl2 hs1, hs]
        exact ⟨rfl, rfl⟩
/-- The whole walk over a known list. -/
def runL (m : Mn) (L : List EntL) (way : List UInt8) : Int × StL := goL m ((namesL way).length + 8001) ⟨L, [], namesL way, 0, []⟩
theorem run_l (m : Mn) (L : List EntL) (way : List UInt8) (h : (runL m L way).1 ≠ 99) : (goN m (start (L.map EntL.e) (bs way))).1 = (runL m L way).1 ∧ (goN m (start (L.map EntL.e) (bs way))).2.1 = (runL m L way).2.s := by
  have hst : start (L.map EntL.e) (bs way) = (⟨L, [], namesL way, 0, []⟩ : StL).s := by
    unfold start StL.s
    rw [names_l]
    rfl
  have hm : msr (start (L.map EntL.e) (bs way)) + 1 = (namesL way).length + 8001 := by
    unfold msr start
    rw [names_l]
    simp
  unfold goN
  rw [hm, hst]
  exact go_l m _ _ h
/-- What a known walk answers, and the list behind it. -/
theorem run_ans {m : Mn} {L : List EntL} {way : List UInt8} {n : Int} {p : List UInt8} {L' : List EntL} (h : (runL m L way).1 = n) (hn : n ≠ 99) (hp : (runL m L way).2.here = p) (hL : (runL m L way).2.L = L') :
    (goN m (start (L.map EntL.e) (bs way))).1 = n ∧ ansB (goN m (start (L.map EntL.e) (bs way))) = (if n = 0 then bs p else ⟨#[]⟩) ∧ treeB (L.map EntL.e) (goN m (start (L.map EntL.e) (bs way))) = (if n = 0 then L'.map EntL.e else L.map EntL.e) := by
  obtain ⟨h1, h2⟩ := run_l m L way (by rw [h]; exact hn)
  rw [h] at h1
  refine ⟨h1, ?_, ?_⟩
  · unfold ansB
    rw [h1, h2]
    split
    · rw [← hp]; rfl
    · rfl
  · unfold treeB
    rw [h1, h2]
    split
    · rw [← hL]; rfl
    · rfl
end Go.Proofs.YtpnngdandpncdaaGreatDoor

namespace Go.Proofs.YtpnngdandpncdaaGreatDoor
open Go Go.RowKit

def wD : EntL := ⟨[100], 1, 493, [], []⟩
def wB : EntL := ⟨[100, 47, 98, 97, 99, 107], 3, 511, [], [46, 46, 47, 46, 46, 47, 46, 46, 47, 100]⟩
def wF : EntL := ⟨[100, 47, 102], 2, 420, [], []⟩
def wS : EntL := ⟨[115, 101, 108, 102], 3, 511, [], [47, 115, 101, 108, 102]⟩
def wN : EntL := ⟨[100, 47, 110], 1, 493, [], []⟩
def wL : List EntL := [wD, wB, wF, wS]
def wM : List EntL := [wD, wB, wF, wN, wS]
theorem w_tree : (checkGo [] (wL.map EntL.e)).1 = 0 := tree_l wL [] (by decide +kernel)
theorem w_find1 : (findR (wL.map EntL.e) ⟨#[100, 47, 98, 97, 99, 107, 47, 98, 97, 99, 107, 47, 102]⟩ true).1 = 0 ∧ ansB (findR (wL.map EntL.e) ⟨#[100, 47, 98, 97, 99, 107, 47, 98, 97, 99, 107, 47, 102]⟩ true) = ⟨#[100, 47, 102]⟩ := by
  have h := run_ans (m := ⟨0, false, false⟩) (L := wL) (way := [100, 47, 98, 97, 99, 107, 47, 98, 97, 99, 107, 47, 102]) (n := 0) (p := [100, 47, 102]) (by decide +kernel) (by decide) (by decide +kernel) rfl
  exact ⟨h.1, h.2.1⟩
theorem w_find2 : (findR (wL.map EntL.e) ⟨#[115, 101, 108, 102]⟩ true).1 = 12 := by
  have h := run_ans (m := ⟨0, false, false⟩) (L := wL) (way := [115, 101, 108, 102]) (n := 12) (by decide +kernel) (by decide) rfl rfl
  exact h.1
theorem w_make : (makeR (wL.map EntL.e) ⟨#[100, 47, 98, 97, 99, 107, 47, 110, 47, 46, 46]⟩).1 = 0 ∧ ansB (makeR (wL.map EntL.e) ⟨#[100, 47, 98, 97, 99, 107, 47, 110, 47, 46, 46]⟩) = ⟨#[100]⟩ ∧ treeB (wL.map EntL.e) (makeR (wL.map EntL.e) ⟨#[100, 47, 98, 97, 99, 107, 47, 110, 47, 46, 46]⟩) = wM.map EntL.e := by
  have h := run_ans (m := ⟨1, true, false⟩) (L := wL) (way := [100, 47, 98, 97, 99, 107, 47, 110, 47, 46, 46]) (n := 0) (p := [100]) (L' := wM) (by decide +kernel) (by decide) (by decide +kernel) (by kernel_rfl)
  exact ⟨h.1, h.2.1, h.2.2⟩
theorem w_place : (placeR (wM.map EntL.e) ⟨#[46, 46, 47, 100, 47, 110, 101, 119]⟩).1 = 0 ∧ ansB (placeR (wM.map EntL.e) ⟨#[46, 46, 47, 100, 47, 110, 101, 119]⟩) = ⟨#[100, 47, 110, 101, 119]⟩ ∧ treeB (wM.map EntL.e) (placeR (wM.map EntL.e) ⟨#[46, 46, 47, 100, 47, 110, 101, 119]⟩) = wM.map EntL.e := by
  have h := run_ans (m := ⟨2, false, false⟩) (L := wM) (way := [46, 46, 47, 100, 47, 110, 101, 119]) (n := 0) (p := [100, 47, 110, 101, 119]) (L' := wM) (by decide +kernel) (by decide) (by decide +kernel) (by kernel_rfl)
  exact ⟨h.1, h.2.1, h.2.2⟩
end Go.Proofs.YtpnngdandpncdaaGreatDoor

namespace Go.Proofs.YtpnngdandpncdaaGreatDoor
open Go Go.RowKit

theorem ents_block (W : World) (es : List Ent) : EntsAt (W.alloc (.cells (ecells es).toArray 51)) (.slice (some ⟨W.heap.size, 0, none⟩) es.length es.length) es := by
  refine ⟨some ⟨W.heap.size, 0, none⟩, es.length, W.heap.size, 0, rfl, fun _ => rfl, Nat.le_refl _, fun i e he => ?_⟩
  have h : ∀ (j : Nat) (v : Value), (ecs e)[j]? = some v → (W.alloc (.cells (ecells es).toArray 51)).cell? ⟨W.heap.size, 0 + i * 5 + j, none⟩ = some v := fun j v hv => by
    unfold World.cell?
    rw [World.alloc_heap_new]
    have := ecells_get es i e he j v hv
    simpa using this
  exact ⟨h 0 _ rfl, h 1 _ rfl, h 2 _ rfl, h 3 _ rfl, h 4 _ rfl⟩
/-- A tree that lies beside all that was there. -/
structure One (w : World) (tb tbase : Nat) (F : Pic) (L : List Ent) (W : World) : Prop where
  b : Below w.heap.size w W
  t : TreeOf W tb tbase F L
  g : ∀ k, MineT tb F k → w.heap.size ≤ k
variable {w W W' : World} {tb tbase : Nat} {F F' : Pic} {L L' : List Ent}
theorem One.below (h : One w tb tbase F L W) (hb : Below W.heap.size W W') : One w tb tbase F L W' := ⟨below_join h.b hb, h.t.below hb, h.g⟩
theorem One.rnd (h : One w tb tbase F L W) (ht : TreeOf W' tb tbase F' L') (hr : Rnd (MineT tb F) (MineT tb F') W W') : One w tb tbase F' L' W' :=
  ⟨h.b.trans (hr.below h.b.size h.g), ht, hr.from' h.b.size h.g⟩
theorem one_start (hb : Below w.heap.size w W) (hW : Below W.heap.size W W') (ht : TreeOf W' tb W.heap.size F L) : One w tb W.heap.size F L W' :=
  ⟨below_join hb hW, ht, fun k hk => Nat.le_trans hb.size (ht.mine_ge k hk)⟩
theorem errE_12 : errE 12 = .iface 61 (.int .i64 12) := rfl
theorem errE_0 : errE 0 = .nilIface := rfl
set_option maxRecDepth 100000 in
set_option maxHeartbeats 8000000 in
theorem walks_p (w : World) (hg : ErrType w) : Calls Tryz.prog 21 #[] w fun e w' => e = .returned (.bool true) ∧ Below w.heap.size w w' := by
  have HB0 : Hid (Below w.heap.size w (w.alloc (.cells (ecells (wL.map EntL.e)).toArray 51))) := (Below.refl _ w).alloc (Nat.le_refl _) _
  have HE : Hid (EntsAt (w.alloc (.cells (ecells (wL.map EntL.e)).toArray 51)) (.slice (some ⟨w.heap.size, 0, none⟩) 4 4) (wL.map EntL.e)) := ents_block w (wL.map EntL.e)
  go_enter Tryz.func21, Tryz.ntmps21
  go_wp2_with fail
  refine (of_t _ (wL.map EntL.e) _ (hg.below HB0.out) HE.out (by decide) (by decide) w_tree).mono ?_
  rintro e w1 ⟨hb1, tb, F, rfl, hT1⟩
  generalize hw0 : w.alloc (.cells (ecells (wL.map EntL.e)).toArray 51) = w0 at *
  have O1 := one_start (Below.refl _ _) hb1 hT1
  clear hb1 hT1
  go_wp2_with fail
  have h1 := find_p true ⟨#[100, 47, 98, 97, 99, 107, 47, 98, 97, 99, 107, 47, 102]⟩ (wL.map EntL.e) _ O1.t (by decide)
  rw [w_find1.2, w_find1.1, errE_0] at h1
  with_reducible refine h1.mono ?_
  rintro e w2 ⟨rfl, hb2⟩
  have O2 := O1.below hb2
  clear h1 hb2 O1
  go_wp2_with fail
  have h1 := find_p true ⟨#[115, 101, 108, 102]⟩ (wL.map EntL.e) _ O2.t (by decide)
  rw [w_find2, errE_12] at h1
  generalize ansB (findR (wL.map EntL.e) ⟨#[115, 101, 108, 102]⟩ true) = an at h1
  with_reducible refine h1.mono ?_
  rintro e w3 ⟨rfl, hb3⟩
  have O3 := O2.below hb3
  clear h1 hb3 O2
  go_wp2_with fail
  have h1 := make_w ⟨#[100, 47, 98, 97, 99, 107, 47, 110, 47, 46, 46]⟩ (wL.map EntL.e) _ O3.t (by decide)
  rw [w_make.2.1, w_make.1, w_make.2.2, errE_0] at h1
  with_reducible refine h1.mono ?_
  rintro e w4 ⟨rfl, F4, hT4, hr4⟩
  have O4 := O3.rnd hT4 hr4
  clear h1 hT4 hr4 O3
  go_wp2_with fail
  have h1 := place_w ⟨#[46, 46, 47, 100, 47, 110, 101, 119]⟩ (wM.map EntL.e) _ O4.t (by decide)
  rw [w_place.2.1, w_place.1, w_place.2.2, errE_0] at h1
  with_reducible refine h1.mono ?_
  rintro e w5 ⟨rfl, F5, hT5, hr5⟩
  have O5 := O4.rnd hT5 hr5
  clear h1 hT5 hr5 O4
  go_wp2_with fail
  refine (num_top 12 (by decide) (by decide) _).mono ?_
  rintro e w6 ⟨rfl, hw6⟩
  subst hw6
  go_wp2_with fail
  with_reducible refine (list_p tb _ F5 (wM.map EntL.e) _ O5.t).mono ?_
  rintro e w7 ⟨u7, rfl, hu7, hb7⟩
  have HU7 : Hid (EntsAt w7 u7 (wM.map EntL.e)) := ents_of_owns hu7
  have O7 := O5.below hb7
  clear O5 hb7 hu7
  go_wp2_with fail
  refine (add_p _ (wL.map EntL.e) wN.e 3 _ (HE.out.below O7.b) (by decide) (by decide)).mono ?_
  rintro e w8 ⟨u8, rfl, hu8, hb8⟩
  have HU78 : Hid (EntsAt w8 u7 (wM.map EntL.e)) := HU7.out.below hb8
  have HU8 : Hid (EntsAt w8 u8 (wM.map EntL.e)) := hu8
  have O8 := O7.below hb8
  clear O7 hb8 hu8 HU7
  go_wp2_with fail
  with_reducible refine (same_p u7 u8 (wM.map EntL.e) _ HU78.out HU8.out (by decide)).mono ?_
  rintro e w9 ⟨rfl, hb9⟩
  go_wp2
  go_ret
  exact ⟨rfl, below_join (below_join HB0.out O8.b) hb9⟩
end Go.Proofs.YtpnngdandpncdaaGreatDoor

namespace Go.Proofs.YtpnngdandpncdaaGreatDoor
open Go Go.RowKit

def chkV (es : List Ent) : Value := if (checkGo [] es).1 = 0 then .nilIface else fltA (checkGo [] es).1 (checkGo [] es).2
set_option maxRecDepth 100000 in
theorem check_t (v : Value) (es : List Ent) (w : World) (hg : ErrType w) (hv : EntsAt w v es) (hl : es.length ≤ 4611686018427387904) (hp : ∀ e ∈ es, e.path.size < 1152921504606846976) :
    Calls Tryz.prog 23 #[v] w fun e w' => e = .returned (chkV es) ∧ Below w.heap.size w w' := by
  have hG := grow_p v es w hg hv hl hp
  by_cases hc : (checkGo [] es).1 = 0
  · have HV : Hid (chkV es = .nilIface) := if_pos hc
    have HC : Hid ((checkGo [] es).1 = 0) := hc
    clear hc
    go_enter Tryz.func23, Tryz.ntmps23
    go_wp2_with (go_at_call 45; refine hG.mono ?_; rintro e w1 ⟨hb, h1⟩; obtain ⟨_, tb, F, rfl, hT⟩ := h1.resolve_right (fun h => h.1 HC.out))
    go_ret
    exact ⟨congrArg Ending.returned HV.out.symm, hb⟩
  · have HV : Hid (chkV es = fltA (checkGo [] es).1 (checkGo [] es).2) := if_neg hc
    have HC : Hid ((checkGo [] es).1 ≠ 0) := hc
    clear hc
    go_enter Tryz.func23, Tryz.ntmps23
    go_wp2_with (go_at_call 45; refine hG.mono ?_; rintro e w1 ⟨hb, h1⟩; obtain ⟨_, rfl⟩ := h1.resolve_left (fun h => HC.out h.1))
    go_ret
    exact ⟨congrArg Ending.returned HV.out.symm, hb⟩
theorem beq_no {a b : Int} (h : a ≠ b) : (a == b) = false := by simpa using h
set_option maxRecDepth 100000 in
set_option maxHeartbeats 4000000 in
theorem ways_no (v : Value) (es : List Ent) (way : ByteArray) (w : World) (hg : ErrType w) (hv : EntsAt w v es) (hl : es.length ≤ 1073741824) (hp : ∀ e ∈ es, e.path.size < 1152921504606846976) (hc : (checkGo [] es).1 ≠ 0) :
    Calls Tryz.prog 5 #[v, .string way] w fun e w' => e = .returned (.bool true) ∧ Below w.heap.size w w' := by
  have hO := fun W hb => of_e v es W (hg.below (w' := W) hb) (hv.below hb) (by omega) hp hc
  have hC := fun W hb => check_t v es W (hg.below (w' := W) hb) (hv.below hb) (by omega) hp
  rw [show chkV es = fltA (checkGo [] es).1 (checkGo [] es).2 from if_neg hc] at hC
  unfold fltA at hC hO
  clear hc
  go_enter Tryz.func5, Tryz.ntmps5
  go_wp2_with fail
  refine (walks_p w hg).mono ?_
  rintro e w1 ⟨rfl, hb1⟩
  go_wp2_with fail
  refine (hO w1 hb1).mono ?_
  rintro e w2 ⟨hb2', rfl⟩
  have hb2 := below_join hb1 hb2'
  go_wp2_with (go_at_call 23; refine (hC w2 hb2).mono ?_; rintro e w3 ⟨rfl, hb3⟩)
  go_ret
  exact ⟨rfl, below_join hb2 hb3⟩
/-- What the four calls come to. -/
def Found (L : List Ent) (p : ByteArray) (n : Int) (followed : Bool) : Prop := n ≠ 0 ∨ (n = 0 ∧ StrB L p ∧ kindT L p ≠ 0 ∧ (followed = true → kindT L p ≠ 3) ∧ p.size ≤ 255)
def Placed (es : List Ent) (q : ByteArray) (m : Int) (L2 : List Ent) : Prop := (m ≠ 0 ∧ L2 = es) ∨ (m = 0 ∧ StrB L2 q ∧ kindT L2 q ≠ 3 ∧ es.Sublist L2 ∧ q.size ≤ 255)
def Made (es : List Ent) (way p : ByteArray) (n : Int) (q : ByteArray) (m : Int) (L2 : List Ent) : Prop := (m ≠ 0 ∧ L2 = es) ∨ (m = 0 ∧ StrB L2 q ∧ kindT L2 q = 1 ∧ es.Sublist L2 ∧ q.size ≤ 255 ∧ (ansB (findR L2 way true) = q ∧ (findR L2 way true).1 = 0) ∧ (n = 0 → p = q))
set_option maxRecDepth 100000 in
set_option maxHeartbeats 16000000 in
theorem ways_ok (v : Value) (es : List Ent) (way : ByteArray) (w : World) (hg : ErrType w) (hv : EntsAt w v es) (hl : es.length ≤ 1073741824) (hp : ∀ e ∈ es, e.path.size < 1152921504606846976) (hw : way.size ≤ 1073741824) (hc : (checkGo [] es).1 = 0)
    (p : ByteArray) (n : Int) (hF0 : ansB (findR es way true) = p ∧ (findR es way true).1 = n) (hF1 : Found es p n true)
    (q : ByteArray) (k : Int) (hS0 : ansB (findR es way false) = q ∧ (findR es way false).1 = k) (hS1 : Found es q k false)
    (at' : ByteArray) (m : Int) (L2 : List Ent) (hP0 : ansB (placeR es way) = at' ∧ (placeR es way).1 = m ∧ treeB es (placeR es way) = L2) (hP1 : Placed es at' m L2)
    (made : ByteArray) (j : Int) (L1 : List Ent) (hM0 : ansB (makeR es way) = made ∧ (makeR es way).1 = j ∧ treeB es (makeR es way) = L1) (hM1 : Made es way p n made j L1) :
    Calls Tryz.prog 5 #[v, .string way] w fun e w' => e = .returned (.bool true) ∧ Below w.heap.size w w' := by
  have HV : Hid (∀ W, Below w.heap.size w W → EntsAt W v es) := fun W hb => hv.below hb
  have HO : Hid (∀ W, Below w.heap.size w W → Calls Tryz.prog 22 #[v] W fun e w' => Below W.heap.size W w' ∧ ∃ tb F, e = .returned (.tuple #[.pointer (some ⟨tb, 0, none⟩), .nilIface]) ∧ TreeOf w' tb W.heap.size F es) := fun W hb => of_t v es W (hg.below (w' := W) hb) (hv.below hb) (by omega) hp hc
  have HF0 : Hid (ansB (findR es way true) = p ∧ (findR es way true).1 = n) := hF0
  have HS0 : Hid (ansB (findR es way false) = q ∧ (findR es way false).1 = k) := hS0
  have HP0 : Hid (ansB (placeR es way) = at' ∧ (placeR es way).1 = m ∧ treeB es (placeR es way) = L2) := hP0
  have HM0 : Hid (ansB (makeR es way) = made ∧ (makeR es way).1 = j ∧ treeB es (makeR es way) = L1) := hM0
  have HF1 : Hid (Found es p n true) := hF1
  have HS1 : Hid (Found es q k false) := hS1
  have HP1 : Hid (Placed es at' m L2) := hP1
  have HM1 : Hid (Made es way p n made j L1) := hM1
  have HW := walks_p w hg
  clear hc hv hg hF0 hS0 hP0 hM0 hF1 hS1 hP1 hM1
  go_enter Tryz.func5, Tryz.ntmps5
  go_wp2_with fail
  refine HW.mono ?_
  rintro e w1 ⟨rfl, hb1⟩
  clear HW
  go_wp2_with fail
  refine (HO.out w1 hb1).mono ?_
  rintro e w2 ⟨hb2, tb, F, rfl, hT2⟩
  have O2 := one_start hb1 hb2 hT2
  clear hb1 hb2 hT2
  go_wp2_with fail
  have h1 := find_p true way es w2 O2.t (by omega)
  rw [HF0.out.1, HF0.out.2] at h1
  with_reducible refine h1.mono ?_
  rintro e w3 ⟨rfl, hb3⟩
  have O3 := O2.below hb3
  clear h1 hb3 O2 HF0
  generalize hen : errE n = en
  go_wp2_with fail
  have h1 := find_p false way es w3 O3.t (by omega)
  rw [HS0.out.1, HS0.out.2] at h1
  with_reducible refine h1.mono ?_
  rintro e w4 ⟨rfl, hb4⟩
  have O4 := O3.below hb4
  clear h1 hb4 O3 HS0
  generalize hek : errE k = ek
  go_upto_region 8 with fail
  go_cut [64] (fun s wx => s = .bool false ∧ wx = w4)
  case first =>
    rcases HF1.out with h1 | ⟨h1, h2, h3, h4, h5⟩
    · rw [errE_some h1] at hen
      subst hen
      go_wp2
      go_meet
      exact ⟨rfl, rfl⟩
    · subst h1
      rw [errE_0] at hen
      subst hen
      have HS : Hid (StrB es p) := h2
      have HK := kindt_p v es p w4 (HV.out _ O4.b) hl
      have h4' := h4 rfl
      generalize kindT es p = kp at HK h3 h4'
      have h3b := beq_no h3
      have h4b := beq_no h4'
      clear h2 h4
      go_wp2_with fail
      with_reducible refine (straight_p v es p w4 (HV.out _ O4.b) hl (by omega) HS.out).mono ?_
      rintro e w5 ⟨rfl, hw5⟩
      subst hw5
      go_wp2_with fail
      with_reducible refine HK.mono ?_
      rintro e w5 ⟨rfl, hw5⟩
      subst hw5
      go_wp2_with fail
      with_reducible refine HK.mono ?_
      rintro e w5 ⟨rfl, hw5⟩
      subst hw5
      go_wp2
      go_meet
      exact ⟨rfl, rfl⟩
  case rest =>
    obtain ⟨rfl, rfl⟩ := hcut
    go_upto_region 10 with fail
    go_cut [78] (fun s wx => s = .bool false ∧ wx = wc)
    case first =>
      rcases HS1.out with h1 | ⟨h1, h2, h3, h4, h5⟩
      · rw [errE_some h1] at hek
        subst hek
        go_wp2
        go_meet
        exact ⟨rfl, rfl⟩
      · subst h1
        rw [errE_0] at hek
        subst hek
        have HS : Hid (StrB es q) := h2
        have HK := kindt_p v es q wc (HV.out _ O4.b) hl
        generalize kindT es q = kp at HK h3 h4
        have h3b := beq_no h3
        clear h2 h4
        go_wp2_with fail
        with_reducible refine (straight_p v es q wc (HV.out _ O4.b) hl (by omega) HS.out).mono ?_
        rintro e w5 ⟨rfl, hw5⟩
        subst hw5
        go_wp2_with fail
        with_reducible refine HK.mono ?_
        rintro e w5 ⟨rfl, hw5⟩
        subst hw5
        go_wp2
        go_meet
        exact ⟨rfl, rfl⟩
    case rest =>
      obtain ⟨rfl, rfl⟩ := hcut
      clear hek
      go_wp2_with fail
      with_reducible refine (list_p tb _ F es _ O4.t).mono ?_
      rintro e w5 ⟨u5, rfl, hu5, hb5⟩
      have O5 := O4.below hb5
      have HU5 : Hid (EntsAt w5 u5 es) := ents_of_owns hu5
      clear O4 hb5 hu5
      go_wp2_with fail
      with_reducible refine (same_p u5 _ es _ HU5.out (HV.out _ O5.b) hl).mono ?_
      rintro e w6 ⟨rfl, hb6⟩
      have O6 := O5.below hb6
      clear O5 hb6 HU5
      go_wp2_with fail
      have h1 := place_w way es w6 O6.t (by omega)
      rw [HP0.out.1, HP0.out.2.1, HP0.out.2.2] at h1
      with_reducible refine h1.mono ?_
      rintro e w7 ⟨rfl, F7, hT7, hr7⟩
      have O7 := O6.rnd hT7 hr7
      clear h1 hT7 hr7 O6 HP0
      generalize hem : errE m = em
      go_wp2_with fail
      with_reducible refine (list_p tb _ F7 L2 _ O7.t).mono ?_
      rintro e w8 ⟨u8, rfl, hu8, hb8⟩
      have O8 := O7.below hb8
      have HU8 : Hid (EntsAt w8 u8 L2) := ents_of_owns hu8
      have hf8 := O8.t.few
      clear O7 hb8 hu8
      go_upto_region 16 with fail
      go_cut [121] (fun s wx => s = .bool false ∧ Below w8.heap.size w8 wx)
      case first =>
        rcases HP1.out with ⟨h1, rfl⟩ | ⟨h1, h2, h3, h4, h5⟩
        · rw [errE_some h1] at hem
          subst hem
          go_wp2_with fail
          with_reducible refine (same_p u8 _ L2 _ HU8.out (HV.out _ O8.b) hl).mono ?_
          rintro e w9 ⟨rfl, hb9⟩
          go_wp2
          go_meet
          exact ⟨rfl, hb9⟩
        · subst h1
          rw [errE_0] at hem
          subst hem
          have HS : Hid (StrB L2 at') := h2
          have HSub : Hid (es.Sublist L2) := h4
          have HK := kindt_p u8 L2 at' w8 HU8.out (by omega)
          generalize kindT L2 at' = kp at HK h3
          have h3b := beq_no h3
          clear h2 h4
          go_wp2_with fail
          with_reducible refine (straight_p u8 L2 at' w8 HU8.out (by omega) (by omega) HS.out).mono ?_
          rintro e w9 ⟨rfl, hw9⟩
          subst hw9
          go_wp2_with fail
          with_reducible refine HK.mono ?_
          rintro e w9 ⟨rfl, hw9⟩
          subst hw9
          go_wp2_with fail
          with_reducible refine (holds_p u8 v L2 es _ HU8.out (HV.out _ O8.b) (by omega) hl HSub.out).mono ?_
          rintro e w9 ⟨rfl, hb9⟩
          go_wp2
          go_meet
          exact ⟨rfl, hb9⟩
      case rest =>
        obtain ⟨rfl, hb9⟩ := hcut
        have O9 := O8.below hb9
        have hbw := O9.b
        clear hb9 O8 O9 HU8 hem hf8
        go_wp2_with fail
        refine (HO.out _ hbw).mono ?_
        rintro e w10 ⟨hb10, ub, G, rfl, hT10⟩
        have O10 := one_start hbw hb10 hT10
        clear hb10 hT10 hbw
        go_wp2_with fail
        have h1 := make_w way es w10 O10.t (by omega)
        rw [HM0.out.1, HM0.out.2.1, HM0.out.2.2] at h1
        with_reducible refine h1.mono ?_
        rintro e w11 ⟨rfl, F11, hT11, hr11⟩
        have O11 := O10.rnd hT11 hr11
        clear h1 hT11 hr11 O10 HM0
        generalize hej : errE j = ej
        go_wp2_with fail
        with_reducible refine (list_p ub _ F11 L1 _ O11.t).mono ?_
        rintro e w12 ⟨u12, rfl, hu12, hb12⟩
        have O12 := O11.below hb12
        have HU12 : Hid (EntsAt w12 u12 L1) := ents_of_owns hu12
        have hf12 := O12.t.few
        clear O11 hb12 hu12
        rcases HM1.out with ⟨h1, rfl⟩ | ⟨h1, h2, h3, h4, h5, h6, h7⟩
        · rw [errE_some h1] at hej
          subst hej
          go_wp2_with fail
          with_reducible refine (same_p u12 _ L1 _ HU12.out (HV.out _ O12.b) hl).mono ?_
          rintro e w13 ⟨rfl, hb13⟩
          go_wp2
          go_ret
          exact ⟨rfl, below_join O12.b hb13⟩
        · subst h1
          rw [errE_0] at hej
          subst hej
          have HS : Hid (StrB L1 made) := h2
          have HSub : Hid (es.Sublist L1) := h4
          have HFD : Hid (ansB (findR L1 way true) = made ∧ (findR L1 way true).1 = 0) := h6
          have HK := kindt_p u12 L1 made w12 HU12.out (by omega)
          rw [h3] at HK
          clear h2 h3 h4 h6
          go_wp2_with fail
          with_reducible refine (straight_p u12 L1 made w12 HU12.out (by omega) (by omega) HS.out).mono ?_
          rintro e w13 ⟨rfl, hw13⟩
          subst hw13
          go_wp2_with fail
          with_reducible refine HK.mono ?_
          rintro e w13 ⟨rfl, hw13⟩
          subst hw13
          go_wp2_with fail
          with_reducible refine (holds_p u12 v L1 es _ HU12.out (HV.out _ O12.b) (by omega) hl HSub.out).mono ?_
          rintro e w13 ⟨rfl, hb13⟩
          have O13 := O12.below hb13
          clear O12 hb13 HU12 HK
          go_wp2_with fail
          have hFd := find_p true way L1 w13 O13.t (by omega)
          rw [HFD.out.1, HFD.out.2, errE_0] at hFd
          with_reducible refine hFd.mono ?_
          rintro e w14 ⟨rfl, hb14⟩
          have hbe := below_join O13.b hb14
          clear O13 hb14 hFd
          by_cases hn : n = 0
          · have h8 := h7 hn
            subst hn
            subst h8
            rw [errE_0] at hen
            subst hen
            go_wp2
            go_ret
            exact ⟨rfl, hbe⟩
          · rw [errE_some hn] at hen
            subst hen
            go_wp2
            go_ret
            exact ⟨rfl, hbe⟩
theorem path_small {W : World} {tb base : Nat} {F : Pic} {L : List Ent} (h : TreeOf W tb base F L) {p : ByteArray} {e : Ent} (hg : getE L p = some e) : p.size ≤ 255 ∧ kindT L p = e.kind ∧ (e.kind = 1 ∨ e.kind = 2 ∨ e.kind = 3) := by
  obtain ⟨m1, m2, _⟩ := get_mem hg
  refine ⟨?_, kindT_get hg, kind_range (h.right e m1)⟩
  rw [← m2]; exact wrong_path (h.right e m1)
theorem found_of {W : World} {tb base : Nat} {F : Pic} {L : List Ent} (h : TreeOf W tb base F L) (way : ByteArray) (last : Bool) : Found L (ansB (findR L way last)) (findR L way last).1 last := by
  by_cases h0 : (findR L way last).1 = 0
  · right
    refine ⟨h0, ?_⟩
    rcases find_end h h0 with h1 | ⟨e, h1, h2⟩
    · rw [h1]
      refine ⟨str_root L, ?_, fun _ => ?_, by decide⟩
      · rw [kindT_root rfl]; decide
      · rw [kindT_root rfl]; decide
    · obtain ⟨a1, a2, a3⟩ := path_small h h1
      refine ⟨str_get h h1, ?_, fun hl hk => ?_, a1⟩
      · rw [a2]; omega
      · rw [a2] at hk
        have := h2 hk
        rw [hl] at this; cases this
  · exact .inl h0
theorem stratways_law (v : Value) (es : List Ent) (way : ByteArray) (w : World) (hg : ErrType w) (hv : EntsAt w v es) (hl : es.length ≤ 1073741824) (hp : ∀ e ∈ es, e.path.size < 1152921504606846976) (hw : way.size ≤ 1073741824) :
    Calls Tryz.prog 5 #[v, .string way] w fun e w' => e = .returned (.bool true) ∧ Below w.heap.size w w' := by
  by_cases hc : (checkGo [] es).1 = 0
  · have hT0 := tree_of4 hg hv hl hp hc
    obtain ⟨W1, tb1, ba1, F1, hT1⟩ := tree_make hT0 way (by omega)
    obtain ⟨W2, tb2, ba2, F2, hT2⟩ := tree_place hT0 way (by omega)
    obtain ⟨W0, tb0, ba0, F0, hT0⟩ := hT0
    have ho := hT0.says.order
    refine ways_ok v es way w hg hv hl hp hw hc _ _ ⟨rfl, rfl⟩ (found_of hT0 way true) _ _ ⟨rfl, rfl⟩ (found_of hT0 way false) _ _ _ ⟨rfl, rfl, rfl⟩ ?_ _ _ _ ⟨rfl, rfl, rfl⟩ ?_
    · by_cases h0 : (placeR es way).1 = 0
      · right
        have hs := kp_sub _ _ (place_kp ho h0).kept
        refine ⟨h0, ?_⟩
        rcases place_end ho h0 hT2 with h1 | ⟨e, h1, h2⟩ | ⟨h1, h2, h3⟩
        · rw [h1]
          exact ⟨str_root _, by rw [kindT_root rfl]; decide, hs, by decide⟩
        · obtain ⟨a1, a2, a3⟩ := path_small hT2 h1
          exact ⟨str_get hT2 h1, by rw [a2]; exact h2, hs, a1⟩
        · exact ⟨str_of hT2 h2 h3, by rw [kindT_none h1 (check_facts h2).1]; decide, hs, (check_facts h2).2.1⟩
      · exact .inl ⟨h0, if_neg h0⟩
    · by_cases h0 : (makeR es way).1 = 0
      · right
        have hs := kp_sub _ _ (make_kp ho h0).kept
        obtain ⟨_, ⟨a1, a2⟩, _⟩ := make_again ho h0
        have h7 : (findR es way true).1 = 0 → ansB (findR es way true) = ansB (makeR es way) := fun hf => find_make ho hf h0
        refine ⟨h0, ?_⟩
        rcases make_dir ho h0 hT1 with h1 | ⟨e, h1, h2⟩
        · refine ⟨?_, ?_, hs, ?_, ⟨a2, a1⟩, h7⟩
          · rw [h1]; exact str_root _
          · rw [h1, kindT_root rfl]
          · rw [h1]; decide
        · obtain ⟨b1, b2, b3⟩ := path_small hT1 h1
          exact ⟨str_get hT1 h1, by rw [b2, h2], hs, b1, ⟨a2, a1⟩, h7⟩
      · exact .inl ⟨h0, if_neg h0⟩
  · exact ways_no v es way w hg hv hl hp hc
end Go.Proofs.YtpnngdandpncdaaGreatDoor
