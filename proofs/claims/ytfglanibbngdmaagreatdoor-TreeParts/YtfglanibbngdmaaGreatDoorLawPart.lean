/- TreeParts: what lies below a directory, as a tree of its own. -/
import Derived.Test.YtfglanibbngdmaaGreatDoorTakeX
import Derived.Test.YtfglanibbngdmaaGreatDoorCut
import Derived.Test.YtfglanibbngdmaaGreatDoorBelM
import Derived.Test.YtfglanibbngdmaaGreatDoorStr
import Derived.Test.YtfglanibbngdmaaGreatDoorWorksT
import Derived.Deep.RegionHeld3

namespace Go.Proofs.YtfglanibbngdmaaGreatDoor
open Go Go.RowKit

theorem TreeOf.one {W : World} {tb base : Nat} {F : Pic} {L : List Ent} (h : TreeOf W tb base F L) {pre r : List Ent} {e : Ent} (hL : L = pre ++ e :: r) : oneN pre e = 0 := by
  have heL : e ∈ L := by rw [hL]; simp
  have hpre : ∀ x ∈ pre, x ∈ L := fun x hx => by rw [hL]; simp [hx]
  have ho := h.says.order
  rw [hL] at ho
  obtain ⟨ho1, ho2, ho3⟩ := List.pairwise_append.1 ho
  have hlt : ∀ x ∈ pre, ltE x e := fun x hx => ho3 x hx e (by simp)
  have hw := h.right e heL
  have hck := wrong_check hw
  have hoo : ooN (lastP pre) e.path = 0 := by
    rcases List.eq_nil_or_concat pre with rfl | ⟨l, d, rfl⟩
    · exact oo_start hck
    · have hd : lastP (l.concat d) = d.path := by simp [lastP]
      have hde := hlt d (by simp)
      unfold ltE at hde
      rw [hd]
      unfold ooN
      rw [if_neg (by omega), if_neg (by omega)]
  have hup : upN pre e.path = 0 := by
    unfold upN
    by_cases hz : (parentB e.path).size = 0
    · rw [if_pos hz]
    · rw [if_neg hz]
      obtain ⟨x, hx, _⟩ := h.says.at' e heL
      have hsp := names_split hck
      obtain ⟨u, hu⟩ : ∃ u, F (namesP (parentB e.path)) = some u := by
        cases hq : F (namesP (parentB e.path)) with
        | some u => exact ⟨u, rfl⟩
        | none =>
          have := h.says.gone _ (un (lastB e.path)) hq
          rw [hsp, hx] at this; cases this
      have huk : u.e.kind = 1 := by
        by_cases hk : u.e.kind = 1
        · exact hk
        · have hm := (h.at'.kinds _ u hu).2 hk
          have := h.at'.tree.leaf _ u (un (lastB e.path)) hu hm
          rw [hsp, hx] at this; cases this
      obtain ⟨hu1, hu2⟩ := h.says.of' _ u (names_ne hz) hu
      have hup : u.e.path = parentB e.path := names_inj (h.says.full _ hu1) hz hu2
      have hlu : ltE u.e e := lt_below (y := un (lastB e.path)) (t := []) (h.says.full _ hu1) (h.says.full _ heL) (by rw [hu2, ← hsp])
      have hin : u.e ∈ pre := by
        rw [hL] at hu1
        rcases List.mem_append.1 hu1 with h1 | h1
        · exact h1
        · rcases List.mem_cons.1 h1 with h1 | h1
          · rw [h1] at hlu; exact absurd hlu (ltE_self _)
          · exact absurd ((List.pairwise_cons.1 ho2).1 _ h1) (ltE_asymm hlu)
      cases hf : pre.find? (pathIs (parentB e.path)) with
      | none => exact absurd (pathIs_iff.2 hup) (by simpa using List.find?_eq_none.1 hf _ hin)
      | some y =>
        have hy1 := List.mem_of_find?_eq_some hf
        have hy2 : y.path = parentB e.path := pathIs_iff.1 (List.find?_some hf)
        obtain ⟨z, hz1, hz2⟩ := h.says.at' y (hpre y hy1)
        rw [hy2, hu] at hz1
        cases hz1
        simp [← hz2, huk]
  have hmany : manyN pre e = 0 := by
    unfold manyN
    rw [put_end hlt]
    have h1 := h.few
    have h2 := h.light
    rw [hL] at h1 h2
    have h3 : bytesL (pre ++ e :: r) = bytesL pre + (e.data.size + bytesL r) := by simp [bytesL]
    rw [h3] at h2
    simp at h1
    simp only
    rw [if_neg (by omega)]
  unfold oneN putN
  rw [if_neg (show ¬ (wrongN e ≠ 0) by simpa using hw), if_neg (show ¬ (ooN (lastP pre) e.path ≠ 0) by simpa using hoo), if_neg (show ¬ (upN pre e.path ≠ 0) by simpa using hup), hmany]
theorem TreeOf.check {W : World} {tb base : Nat} {F : Pic} {L : List Ent} (h : TreeOf W tb base F L) : (checkGo [] L).1 = 0 := by
  have main : ∀ r pre, L = pre ++ r → (checkGo pre r).1 = 0 := by
    intro r
    induction r with
    | nil => intro pre _; rfl
    | cons e r ih =>
      intro pre hL
      unfold checkGo
      rw [if_neg (show ¬ (oneN pre e ≠ 0) by simpa using h.one hL)]
      exact ih _ (by rw [hL]; simp)
  exact main L [] rfl
def notP (p : ByteArray) (e : Ent) : Bool := !pathIs p e
theorem but_laid {L : List Ent} (h : L.Pairwise ltE) (e : Ent) : (laidL L e).filter (notP e.path) = L.filter (notP e.path) := by
  refine srt_ext _ _ ((laid_order h e).sublist List.filter_sublist) (h.sublist List.filter_sublist) (fun x => ?_)
  have hn : notP e.path x = true ↔ x.path ≠ e.path := by
    unfold notP
    rw [Bool.not_eq_true', ← Bool.not_eq_true, pathIs_iff]
  rw [List.mem_filter, List.mem_filter, laid_mem, hn]
  constructor
  · rintro ⟨rfl | ⟨h1, h2⟩, h3⟩
    · exact absurd rfl h3
    · exact ⟨h1, h3⟩
  · rintro ⟨h1, h2⟩
    exact ⟨.inr ⟨h1, h2⟩, h2⟩
theorem find_laid {L : List Ent} {e : Ent} : (laidL L e).find? (pathIs e.path) = some e := by
  unfold laidL
  rw [List.find?_append, List.find?_eq_none.2 (fun x hx => by
    have h1 := (List.mem_filter.1 hx).2
    simp at h1
    intro hp
    rw [pathIs_iff.1 hp, order_self] at h1; omega)]
  have : pathIs e.path e = true := pathIs_iff.2 rfl
  simp [List.find?, this]
/-- What stays, by the statement's words. -/
def keptB (p : ByteArray) (e : Ent) : Bool := !pathIs p e && !belowB p e.path
theorem prefix_below {p q : ByteArray} (hp : p.size ≠ 0) (hq : q.size ≠ 0) : (namesP p).isPrefixOf (namesP q) = (un q == un p || belowB p q) := by
  have hpe : p.toList.isEmpty = false := (isEmpty_false p).2 (by omega)
  rw [Bool.eq_iff_iff, List.isPrefixOf_iff_prefix, Bool.or_eq_true, beq_iff_eq]
  constructor
  · rintro ⟨t, ht⟩
    cases t with
    | nil => left; rw [List.append_nil] at ht; rw [names_inj hp hq ht]
    | cons y t =>
      right
      refine pieces_below hpe (u := (y :: t).map bs) (by simp) ?_
      rw [pieces_names hp, pieces_names hq, ← ht, List.map_append]
  · rintro (h | h)
    · rw [un_inj h]; exact List.prefix_refl _
    · obtain ⟨t, ht⟩ := (below_iff hpe).1 h
      unfold namesP
      rw [if_neg hp, if_neg hq, ht, cut_append]
      exact List.prefix_append _ _
theorem kept_gone {F : Pic} {L : List Ent} (h : Says F L) {p : ByteArray} (hp : p.size ≠ 0) : L.filter (keptB p) = goneL L (namesP p) := by
  unfold goneL
  refine List.filter_congr (fun e he => ?_)
  unfold keptB pathIs
  rw [prefix_below hp (h.full e he)]
  simp
end Go.Proofs.YtfglanibbngdmaaGreatDoor

namespace Go.Proofs.YtfglanibbngdmaaGreatDoor
open Go.RowKit

theorem below_p (a b : ByteArray) (w : World) : Calls Tryz.prog 34 #[.string a, .string b] w fun e w' => e = .returned (.bool (belowB a b)) ∧ w' = w := by
  cases h1 : a.toList.isEmpty
  · cases h2 : Lib.hasPrefix (un b) (un a)
    all_goals
      have H2 : Hid _ := h2
      clear h2
      go_enter Tryz.func34, Tryz.ntmps34
      go_wp2_with (first | (go_at_call 71; refine (Tryz.strings_CutPrefix _ _ _).mono ?_; rintro e w2 ⟨rfl, rfl⟩; rw [show Lib.hasPrefix b.data.toList a.data.toList = _ from H2.out]) | (go_at_call 72; refine (Tryz.strings_HasPrefix _ _ _).mono ?_; rintro e w2 ⟨rfl, rfl⟩))
      go_ret
      exact ⟨by simp [belowB, h1, H2.out]; try rfl, rfl⟩
  · go_enter Tryz.func34, Tryz.ntmps34
    go_wp2
    go_ret
    exact ⟨by simp [belowB, h1]; try rfl, rfl⟩
end Go.Proofs.YtfglanibbngdmaaGreatDoor

namespace Go.Proofs.YtfglanibbngdmaaGreatDoor
open Go Go.RowKit

/-- A list of entries that lies beside a tree. -/
def FreeE (W : World) (v : Value) (L : List Ent) (M : Nat → Prop) : Prop :=
  ∃ (a : Option Addr) (cap b o : Nat), v = .slice a L.length cap ∧ (L ≠ [] → a = some ⟨b, o, none⟩) ∧ L.length ≤ cap ∧ (∀ i e, L[i]? = some e → EntC W b (o + i * 5) e) ∧ (L ≠ [] → ¬ M b ∧ b < W.heap.size)
theorem FreeE.ents {W : World} {v : Value} {L : List Ent} {M : Nat → Prop} (h : FreeE W v L M) : EntsAt W v L := by
  obtain ⟨a, cap, b, o, h1, h2, h3, h4, _⟩ := h
  exact ⟨a, cap, b, o, h1, h2, h3, h4⟩
theorem list_ne {L : List Ent} {i : Nat} {e : Ent} (h : L[i]? = some e) : L ≠ [] := fun h0 => by rw [h0] at h; simp at h
theorem FreeE.rnd {W W' : World} {v : Value} {L : List Ent} {M M' : Nat → Prop} (h : FreeE W v L M) (hr : Rnd M M' W W') : FreeE W' v L M' := by
  obtain ⟨a, cap, b, o, h1, h2, h3, h4, h5⟩ := h
  refine ⟨a, cap, b, o, h1, h2, h3, fun i e he => ?_, fun hL => ?_⟩
  · obtain ⟨q0, q1, q2, q3, q4⟩ := h4 i e he
    obtain ⟨n1, n2⟩ := h5 (list_ne he)
    exact ⟨cell_kept hr n2 n1 q0, cell_kept hr n2 n1 q1, cell_kept hr n2 n1 q2, cell_kept hr n2 n1 q3, cell_kept hr n2 n1 q4⟩
  · obtain ⟨n1, n2⟩ := h5 hL
    have := hr.size
    refine ⟨fun hm => ?_, by omega⟩
    rcases hr.more b hm with h6 | h6
    · exact n1 h6
    · omega
theorem FreeE.below {W W' : World} {v : Value} {L : List Ent} {M : Nat → Prop} (h : FreeE W v L M) (hb : Below W.heap.size W W') : FreeE W' v L M := h.rnd (Rnd.of_below hb)
theorem free_nil (W : World) (M : Nat → Prop) : FreeE W (.slice none 0 0) [] M := ⟨none, 0, 0, 0, rfl, fun h => absurd rfl h, Nat.le_refl _, fun i e h => by simp at h, fun h => absurd rfl h⟩
theorem free_of_owns {W : World} {base : Nat} {v : Value} {L : List Ent} {M : Nat → Prop} (h : W.ownsRow base 52 5 v L.length (ecells L)) (hM : ∀ k, base ≤ k → ¬ M k) : FreeE W v L M := by
  have he := ents_of_owns h
  rcases h.2 with ⟨rfl, h0⟩ | ⟨g, cap, cur, rfl, hg, hgb, hcap, _⟩
  · have : L = [] := List.eq_nil_of_length_eq_zero h0
    subst this
    exact free_nil W M
  · obtain ⟨a2, cap2, b2, o2, hv2, ha2, hcp2, hc2⟩ := he
    refine ⟨some ⟨g, 0, none⟩, cap, g, 0, rfl, fun _ => rfl, hcap, fun i e hi => ?_, fun _ => ⟨hM g hg, (Array.getElem?_eq_some_iff.1 hgb).1⟩⟩
    have h1 := ha2 (list_ne hi)
    subst h1
    simp at hv2
    obtain ⟨⟨rfl, rfl⟩, _⟩ := hv2
    exact hc2 i e hi
set_option maxRecDepth 100000 in
set_option maxHeartbeats 2000000 in
theorem bytes_p (v : Value) (L : List Ent) (w : World) (hv : EntsAt w v L) (hl : L.length ≤ 4096) (hb : bytesL L ≤ 16777216) : Calls Tryz.prog 30 #[v] w fun e w' => e = .returned (.int .i64 (bytesL L : Nat)) ∧ w' = w := by
  obtain ⟨a, cap, b, o, rfl, ha, hcap, hc⟩ := hv
  have HBT : Hid (∀ k, bytesL (L.take k) ≤ bytesL L) := fun k => bytes_sub (List.take_sublist k L)
  go_enter Tryz.func30, Tryz.ntmps30
  go_wp2
  go_loop [3, 4] (fun q i => ∃ k : Nat, k ≤ L.length ∧ i = .int .i64 k ∧ q = .int .i64 (bytesL (L.take k) : Nat)) (fun _ i => L.length - (intOf i).toNat)
  case atStart => exact ⟨0, Nat.zero_le _, rfl, by simp [bytesL]⟩
  case round =>
    obtain ⟨k, hk, rfl, rfl⟩ := hrel
    by_cases hlt : k < L.length
    · have hlt' : (k : Int) < (L.length : Int) := by omega
      have hk0 : (0 : Int) ≤ (k : Int) := by omega
      obtain ⟨x, hx⟩ : ∃ x, L[k]? = some x := ⟨_, List.getElem?_eq_getElem hlt⟩
      obtain rfl := ha (fun e => by rw [e] at hlt; simp at hlt)
      have c3 := (hc k x hx).c3
      have HX : Hid (bytesL (L.take (k + 1)) = bytesL (L.take k) + x.data.size) := by unfold Hid; rw [List.take_add_one, hx]; simp [bytesL]
      have h1 := HBT.out (k + 1)
      have h2 := HX.out
      have hwr : wrap64 ((bytesL (L.take k) : Int) + (x.data.size : Int)) = (bytesL (L.take k) : Int) + (x.data.size : Int) := wrap_small (by omega) (by omega)
      clear hx hc ha h1 h2
      go_wp2
      go_round
      case rel => exact ⟨k + 1, by omega, by go_num, by rw [HX.out]; simp [hwr]⟩
      case measure => simp [intOf]; omega
    · have hge : ¬ (k : Int) < (L.length : Int) := by omega
      have HALL : Hid (L.take k = L) := List.take_of_length_le (by omega)
      go_wp2
      go_ret
      exact ⟨by rw [HALL.out]; rfl, rfl⟩
set_option maxRecDepth 100000 in
set_option maxHeartbeats 2000000 in
theorem but_p (v : Value) (L : List Ent) (p : ByteArray) (w : World) (hv : EntsAt w v L) (hl : L.length ≤ 1073741824) : Calls Tryz.prog 32 #[v, .string p] w fun e w' => ∃ u, e = .returned u ∧ w'.ownsRow w.heap.size 52 5 u (L.filter (notP p)).length (ecells (L.filter (notP p))) ∧ Below w.heap.size w w' := by
  obtain ⟨i0, hi, hz0, hz1, hz2⟩ := info_parts info_ent
  obtain ⟨a, cap, b, o, rfl, ha, hcap, hc⟩ := hv
  go_enter Tryz.func32, Tryz.ntmps32
  go_wp2
  go_loopw [5, 6] (fun v i wr => ∃ k : Nat, i = .int .i64 k ∧ k ≤ L.length ∧ wr.ownsRow w.heap.size 52 5 v ((L.take k).filter (notP p)).length (ecells ((L.take k).filter (notP p))) ∧ Below w.heap.size w wr) (fun _ i _ => L.length - (intOf i).toNat)
  case atStart => exact ⟨0, rfl, Nat.zero_le _, World.ownsRow_nil _ _ _ _, Below.refl _ _⟩
  case round =>
    obtain ⟨k, rfl, hk, hown, hB⟩ := hrel
    have hsz := hB.size
    by_cases hlt : k < L.length
    · have hlt' : (k : Int) < (L.length : Int) := by omega
      have hk0 : (0 : Int) ≤ (k : Int) := by omega
      obtain ⟨x, hx⟩ : ∃ x, L[k]? = some x := ⟨_, List.getElem?_eq_getElem hlt⟩
      obtain rfl := ha (fun e => by rw [e] at hlt; simp at hlt)
      obtain ⟨c0, c1, c2, c3, c4⟩ := (hc k x hx).below hB
      have hlk : ((L.take k).filter (notP p)).length ≤ L.length := Nat.le_trans (List.length_filter_le _ _) (by rw [List.length_take]; omega)
      have hpi : pathIs p x = (x.path.toList == p.toList) := by unfold pathIs; rw [toList_un, toList_un]
      cases hq : pathIs p x with
      | true =>
        rw [hq] at hpi
        have hpb : (x.path.toList == p.toList) = true := hpi.symm
        have HX : Hid ((L.take (k + 1)).filter (notP p) = (L.take k).filter (notP p)) := by unfold Hid; rw [List.take_add_one, hx, List.filter_append]; simp [notP, hq]
        clear hx hc ha hpi hq
        go_wp2
        go_roundw
        case rel => exact ⟨k + 1, by go_num, by omega, by rw [HX.out]; exact hown, hB⟩
        case measure => simp [intOf]; omega
      | false =>
        rw [hq] at hpi
        have hpb : (x.path.toList == p.toList) = false := hpi.symm
        have HX : Hid ((L.take (k + 1)).filter (notP p) = (L.take k).filter (notP p) ++ [x]) := by unfold Hid; rw [List.take_add_one, hx, List.filter_append]; simp [notP, hq]
        clear hx hc ha hpi hq
        go_wp2_with (at_builtin; refine wpList_append_own _ rfl _ _ 22 rfl w.heap.size 52 i0 (.agg #[.string ⟨#[]⟩, .int .i64 0, .int .i64 0, .string ⟨#[]⟩, .string ⟨#[]⟩]) 5 64 Tryz.underlying22 hi hz0 hz1 hz2 rfl (by decide) _ _ _ rfl (hown.alloc _) ⟨wr.heap.size, 0, none⟩ 1 1 (ecs x) rfl rfl (ent_cells (ent_new wr _ x)) (ent_one x) (by unfold maxLen; omega) (by omega) (by simp; omega) ?_; intro v1 w1 hown1 hgrow1 _)
        have hb1 : Below w.heap.size w w1 := (hB.alloc hsz _).grown hgrow1 (by simp; omega) (fun j hj => (own_ge hown j hj.symm).1)
        have hown2 : w1.ownsRow w.heap.size 52 5 v1 ((L.take (k + 1)).filter (notP p)).length (ecells ((L.take (k + 1)).filter (notP p))) := by
          rw [HX.out, ecells_append, List.length_append]; simpa [ecells] using hown1
        clear hown1 hgrow1 hown
        go_roundw
        case rel => exact ⟨k + 1, by go_num, by omega, hown2, hb1⟩
        case measure => simp [intOf]; omega
    · have hge : ¬ (k : Int) < (L.length : Int) := by omega
      have hall : L.take k = L := List.take_of_length_le (by omega)
      rw [hall] at hown
      go_wp2
      go_ret
      exact ⟨_, rfl, hown, hB⟩
set_option maxRecDepth 100000 in
set_option maxHeartbeats 2000000 in
theorem kept_p (v : Value) (L : List Ent) (p : ByteArray) (w : World) (hv : EntsAt w v L) (hl : L.length ≤ 1073741824) : Calls Tryz.prog 33 #[v, .string p] w fun e w' => ∃ u, e = .returned u ∧ w'.ownsRow w.heap.size 52 5 u (L.filter (keptB p)).length (ecells (L.filter (keptB p))) ∧ Below w.heap.size w w' := by
  obtain ⟨i0, hi, hz0, hz1, hz2⟩ := info_parts info_ent
  obtain ⟨a, cap, b, o, rfl, ha, hcap, hc⟩ := hv
  go_enter Tryz.func33, Tryz.ntmps33
  go_wp2
  go_loopw [5, 6] (fun v i wr => ∃ k : Nat, i = .int .i64 k ∧ k ≤ L.length ∧ wr.ownsRow w.heap.size 52 5 v ((L.take k).filter (keptB p)).length (ecells ((L.take k).filter (keptB p))) ∧ Below w.heap.size w wr) (fun _ i _ => L.length - (intOf i).toNat)
  case atStart => exact ⟨0, rfl, Nat.zero_le _, World.ownsRow_nil _ _ _ _, Below.refl _ _⟩
  case round =>
    obtain ⟨k, rfl, hk, hown, hB⟩ := hrel
    have hsz := hB.size
    by_cases hlt : k < L.length
    · have hlt' : (k : Int) < (L.length : Int) := by omega
      have hk0 : (0 : Int) ≤ (k : Int) := by omega
      obtain ⟨x, hx⟩ : ∃ x, L[k]? = some x := ⟨_, List.getElem?_eq_getElem hlt⟩
      obtain rfl := ha (fun e => by rw [e] at hlt; simp at hlt)
      obtain ⟨c0, c1, c2, c3, c4⟩ := (hc k x hx).below hB
      have hlk : ((L.take k).filter (keptB p)).length ≤ L.length := Nat.le_trans (List.length_filter_le _ _) (by rw [List.length_take]; omega)
      have hpi : pathIs p x = (x.path.toList == p.toList) := by unfold pathIs; rw [toList_un, toList_un]
      cases hq : pathIs p x with
      | true =>
        rw [hq] at hpi
        have hpb : (x.path.toList == p.toList) = true := hpi.symm
        have HX : Hid ((L.take (k + 1)).filter (keptB p) = (L.take k).filter (keptB p)) := by unfold Hid; rw [List.take_add_one, hx, List.filter_append]; simp [keptB, hq]
        clear hx hc ha hpi hq
        go_wp2
        go_roundw
        case rel => exact ⟨k + 1, by go_num, by omega, by rw [HX.out]; exact hown, hB⟩
        case measure => simp [intOf]; omega
      | false =>
        rw [hq] at hpi
        have hpb : (x.path.toList == p.toList) = false := hpi.symm
        cases hbl : belowB p x.path with
        | true =>
          have HX : Hid ((L.take (k + 1)).filter (keptB p) = (L.take k).filter (keptB p)) := by unfold Hid; rw [List.take_add_one, hx, List.filter_append]; simp [keptB, hbl]
          have HBL : Hid (belowB p x.path = true) := hbl
          clear hx hc ha hpi hq hbl
          go_wp2_with (go_at_call 34; refine (below_p _ _ _).mono ?_; rintro e w2 ⟨rfl, hw2⟩; replace hw2 := hw2.symm; subst hw2; rw [HBL.out])
          go_roundw
          case rel => exact ⟨k + 1, by go_num, by omega, by rw [HX.out]; exact hown, hB⟩
          case measure => simp [intOf]; omega
        | false =>
          have HX : Hid ((L.take (k + 1)).filter (keptB p) = (L.take k).filter (keptB p) ++ [x]) := by unfold Hid; rw [List.take_add_one, hx, List.filter_append]; simp [keptB, hq, hbl]
          have HBL : Hid (belowB p x.path = false) := hbl
          clear hx hc ha hpi hq hbl
          go_wp2_with (first | (go_at_call 34; refine (below_p _ _ _).mono ?_; rintro e w2 ⟨rfl, hw2⟩; replace hw2 := hw2.symm; subst hw2; rw [HBL.out]) | (at_builtin; refine wpList_append_own _ rfl _ _ 22 rfl w.heap.size 52 i0 (.agg #[.string ⟨#[]⟩, .int .i64 0, .int .i64 0, .string ⟨#[]⟩, .string ⟨#[]⟩]) 5 64 Tryz.underlying22 hi hz0 hz1 hz2 rfl (by decide) _ _ _ rfl (hown.alloc _) ⟨wr.heap.size, 0, none⟩ 1 1 (ecs x) rfl rfl (ent_cells (ent_new wr _ x)) (ent_one x) (by unfold maxLen; omega) (by omega) (by simp; omega) ?_; intro v1 w1 hown1 hgrow1 _))
          have hb1 : Below w.heap.size w w1 := (hB.alloc hsz _).grown hgrow1 (by simp; omega) (fun j hj => (own_ge hown j hj.symm).1)
          have hown2 : w1.ownsRow w.heap.size 52 5 v1 ((L.take (k + 1)).filter (keptB p)).length (ecells ((L.take (k + 1)).filter (keptB p))) := by
            rw [HX.out, ecells_append, List.length_append]; simpa [ecells] using hown1
          clear hown1 hgrow1 hown
          go_roundw
          case rel => exact ⟨k + 1, by go_num, by omega, hown2, hb1⟩
          case measure => simp [intOf]; omega
    · have hge : ¬ (k : Int) < (L.length : Int) := by omega
      have hall : L.take k = L := List.take_of_length_le (by omega)
      rw [hall] at hown
      go_wp2
      go_ret
      exact ⟨_, rfl, hown, hB⟩
end Go.Proofs.YtfglanibbngdmaaGreatDoor

namespace Go.Proofs.YtfglanibbngdmaaGreatDoor
open Go Go.RowKit

/-- How much of a path stands ahead of what lies below a directory. -/
def aheadN (p : ByteArray) : Nat := (joinB p ⟨#[]⟩).size
theorem ahead_eq (p : ByteArray) : aheadN p = if p.size = 0 then 0 else p.size + 1 := by
  unfold aheadN joinB
  by_cases h : p.size = 0
  · rw [if_pos h, if_pos ((isEmpty_iff p).2 h)]; rfl
  · rw [if_neg h, if_neg (by rw [(isEmpty_false p).2 (by omega)]; simp), ByteArray.size_append, ByteArray.size_append]; rfl
theorem ahead_le (p : ByteArray) : aheadN p ≤ p.size + 1 := by rw [ahead_eq]; split <;> omega
def cutE (n : Nat) (e : Ent) : Ent := ⟨e.path.extract n e.path.size, e.kind, e.mode, e.data, e.link⟩
def subL (p : ByteArray) (L : List Ent) : List Ent := (underL L (namesP p)).map (cutE (aheadN p))
def IsTree (L : List Ent) : Prop := ∃ W tb base F, TreeOf W tb base F L
theorem slash_one {a c b d : List UInt8} (hb : (47 : UInt8) ∉ b) (hd : (47 : UInt8) ∉ d) (h : a ++ 47 :: b = c ++ 47 :: d) : a = c ∧ b = d := by
  rcases List.append_eq_append_iff.1 h with ⟨u, h1, h2⟩ | ⟨u, h1, h2⟩
  · cases u with
    | nil => simp at h1 h2; exact ⟨h1.symm, h2⟩
    | cons x u => simp at h2; exact absurd (by rw [h2.2]; simp) hb
  · cases u with
    | nil => simp at h1 h2; exact ⟨h1, h2.symm⟩
    | cons x u => simp at h2; exact absurd (by rw [h2.2]; simp) hd
theorem last_cut {p t q : ByteArray} (hq : un q = un p ++ 47 :: un t) : (parentB q = p ∧ lastB q = t ∧ (47 : UInt8) ∉ un t ∧ parentB t = ⟨#[]⟩ ∧ lastB t = t) ∨ (un (parentB q) = un p ++ 47 :: un (parentB t) ∧ lastB q = lastB t ∧ un t = un (parentB t) ++ 47 :: un (lastB t)) := by
  rcases last_split q with ⟨h1, _⟩ | ⟨h1, h2⟩
  · exact absurd (by rw [hq]; simp) h1
  · rcases last_split t with ⟨t1, t2, t3⟩ | ⟨t1, t2⟩
    · obtain ⟨e1, e2⟩ := slash_one h2 t1 (h1.symm.trans hq)
      exact .inl ⟨un_inj e1, un_inj e2, t1, t2, t3⟩
    · have h3 : un q = (un p ++ 47 :: un (parentB t)) ++ 47 :: un (lastB t) := (hq.trans (congrArg (fun l => un p ++ 47 :: l) t1)).trans (by simp)
      obtain ⟨e1, e2⟩ := slash_one h2 t2 (h1.symm.trans h3)
      exact .inr ⟨e1, un_inj e2, t1⟩
theorem un_join {a b : ByteArray} (h : a.size ≠ 0) : un (joinB a b) = un a ++ 47 :: un b := by
  unfold joinB
  rw [if_neg (by rw [(isEmpty_false a).2 (by omega)]; simp), un_append, un_append]
  show un a ++ [47] ++ un b = _
  simp
theorem join_nil (b : ByteArray) : joinB ⟨#[]⟩ b = b := by unfold joinB; rw [if_pos ((isEmpty_iff _).2 rfl)]
theorem size_un0 {s : ByteArray} (h : s.size = 0) : un s = [] := by rw [← List.length_eq_zero_iff, un_length]; exact h
theorem white_cut {p t q : ByteArray} (hp : p.size ≠ 0) (ht : (un t)[0]? ≠ some 47) (hq : un q = un p ++ 47 :: un t) : un (whiteoutB q) = un p ++ 47 :: un (whiteoutB t) ∧ (un (whiteoutB t))[0]? ≠ some 47 := by
  unfold whiteoutB
  rcases last_cut hq with ⟨h1, h2, h3, h4, h5⟩ | ⟨h1, h2, h3⟩
  · rw [h1, h2, h4, h5, un_join hp, join_nil, un_append]
    refine ⟨rfl, ?_⟩
    show ([46, 119, 104, 46] ++ un t)[0]? ≠ some 47
    simp
  · have hpt : (parentB t).size ≠ 0 := fun h0 => ht (by rw [h3, size_un0 h0]; rfl)
    have hpq : (parentB q).size ≠ 0 := fun h0 => by rw [size_un0 h0] at h1; simp at h1
    rw [h2, un_join hpt, un_join hpq, h1]
    refine ⟨by simp, ?_⟩
    rw [h3] at ht
    have hl : 0 < (un (parentB t)).length := by rw [un_length]; omega
    rw [List.getElem?_append_left hl] at ht ⊢
    exact ht
theorem split_small (q : ByteArray) (h : q.size ≤ 100) : splitP q = (⟨#[]⟩, q, 0) := by unfold splitP; rw [if_pos h]
theorem split_fits (q : ByteArray) (h : 100 < q.size) (h0 : (un q)[0]? ≠ some 47) (i : Nat) (hi : good q i) (h155 : i ≤ 155) :
    ∃ j, 1 ≤ j ∧ j ≤ 155 ∧ good q j ∧ splitP q = (q.extract 0 j, q.extract (j + 1) q.size, 0) := by
  rcases split_cases q h with ⟨_, e⟩ | ⟨k, hg, hk, e⟩
  · exact absurd hi (e i)
  · have h1 : k ≤ i := by
      rcases Nat.lt_or_ge i k with h2 | h2
      · exact absurd hi (hk i h2)
      · exact h2
    have h2 : 1 ≤ k := by
      rcases Nat.eq_zero_or_pos k with h3 | h3
      · subst h3; exact absurd hg.1 h0
      · exact h3
    rw [if_neg (by omega)] at e
    exact ⟨k, h2, by omega, hg, e⟩
theorem fits_of_ok (q : ByteArray) (h : (splitP q).2.2 = 0) : q.size ≤ 100 ∨ ∃ i, good q i ∧ i ≤ 155 := by
  rcases Nat.lt_or_ge 100 q.size with h1 | h1
  · rcases split_cases q h1 with ⟨e, _⟩ | ⟨k, hg, _, e⟩
    · rw [e] at h; cases h
    · by_cases c : k < 1 ∨ 155 < k
      · rw [if_pos c] at e; rw [e] at h; cases h
      · exact .inr ⟨k, hg, by omega⟩
  · exact .inl h1
theorem check_parts {p : ByteArray} (h : checkN p = 0) : p.toList.isEmpty = false ∧ (∀ x ∈ piecesB p, nameN x = 0) ∧ (piecesB p).length ≤ 32 ∧ p.size ≤ 255 ∧ (splitP (whiteoutB p)).2.2 = 0 := by
  unfold checkN at h
  by_cases c1 : p.toList.isEmpty = true
  · rw [if_pos c1] at h; omega
  · rw [if_neg c1] at h
    by_cases c2 : (piecesB p).any (fun x => nameN x != 0) = true
    · rw [if_pos c2] at h; omega
    · rw [if_neg c2] at h
      by_cases c3 : 32 < (piecesB p).length
      · rw [if_pos c3] at h; omega
      · rw [if_neg c3] at h
        by_cases c4 : 255 < p.size
        · rw [if_pos c4] at h; omega
        · rw [if_neg c4] at h
          refine ⟨by simpa using c1, fun x hx => ?_, by omega, by omega, h⟩
          have c5 : (piecesB p).any (fun x => nameN x != 0) = false := by simpa using c2
          have := List.any_eq_false.1 c5 x hx
          simpa using this
theorem noslash_first {p : ByteArray} (h : ∀ x ∈ piecesB p, nameN x = 0) : (un p)[0]? ≠ some 47 := by
  intro h0
  cases hu : un p with
  | nil => rw [hu] at h0; cases h0
  | cons c r =>
    rw [hu] at h0
    obtain rfl : c = 47 := by simpa using h0
    have hm : bs [] ∈ piecesB p := by unfold piecesB; rw [hu, cutL_cons]; simp
    exact name_full (h _ hm) rfl
theorem check_cut {p t q : ByteArray} (hp : p.size ≠ 0) (hq : un q = un p ++ 47 :: un t) (hc : checkN q = 0) : checkN t = 0 := by
  obtain ⟨_, c2, c3, c4, c5⟩ := check_parts hc
  have hpc : piecesB q = piecesB p ++ piecesB t := by unfold piecesB; rw [hq, cut_append, List.map_append]
  have hn : ∀ x ∈ piecesB t, nameN x = 0 := fun x hx => c2 x (by rw [hpc]; simp [hx])
  have h0 : t.size ≠ 0 := fun h0 => by
    have hm : bs [] ∈ piecesB t := by unfold piecesB; rw [size_un0 h0]; simp [cutL]
    exact name_full (hn _ hm) rfl
  have hlen : q.size = p.size + 1 + t.size := by
    have := congrArg List.length hq
    rw [un_length, List.length_append, List.length_cons, un_length, un_length] at this; omega
  obtain ⟨hw, hw0⟩ := white_cut hp (noslash_first hn) hq
  have hwl : (whiteoutB q).size = p.size + 1 + (whiteoutB t).size := by
    have := congrArg List.length hw
    rw [un_length, List.length_append, List.length_cons, un_length, un_length] at this; omega
  unfold checkN
  rw [if_neg (by rw [(isEmpty_false t).2 (by omega)]; simp), if_neg, if_neg, if_neg (by omega)]
  · rcases Nat.lt_or_ge 100 (whiteoutB t).size with h1 | h1
    · rcases fits_of_ok _ c5 with h2 | ⟨i, ⟨g1, g2, g3⟩, h2⟩
      · omega
      · have hi : p.size + 1 ≤ i := by omega
        obtain ⟨j, rfl⟩ : ∃ j, i = p.size + 1 + j := ⟨i - (p.size + 1), by omega⟩
        have g4 : good (whiteoutB t) j := by
          refine ⟨?_, by omega, by omega⟩
          rw [hw, List.getElem?_append_right (by rw [un_length]; omega), un_length, show p.size + 1 + j - p.size = j + 1 by omega] at g1
          simpa using g1
        obtain ⟨_, _, _, _, e⟩ := split_fits _ h1 hw0 j g4 (by omega)
        rw [e]
    · rw [split_small _ h1]
  · rw [hpc, List.length_append] at c3; omega
  · intro h
    obtain ⟨x, hx, h2⟩ := List.any_eq_true.1 h
    rw [hn x hx] at h2; simp at h2
theorem under_below {F : Pic} {L : List Ent} (h : Says F L) (p : ByteArray) : underL L (namesP p) = L.filter (fun e => belowB p e.path) := by
  unfold underL
  refine List.filter_congr (fun e he => ?_)
  have hq := h.full e he
  by_cases h0 : p.size = 0
  · have e1 : namesP p = [] := if_pos h0
    have e2 : belowB p e.path = true := by unfold belowB; rw [if_pos ((isEmpty_iff p).2 h0), (isEmpty_false _).2 (by omega)]; rfl
    rw [e1, e2, subN_iff]
    cases hn : namesP e.path with
    | nil => exact absurd hn (names_ne hq)
    | cons y t => exact ⟨y, t, rfl⟩
  · have hpe : p.toList.isEmpty = false := (isEmpty_false p).2 (by omega)
    rw [Bool.eq_iff_iff, subN_iff]
    constructor
    · rintro ⟨y, t, ht⟩
      refine pieces_below hpe (u := (y :: t).map bs) (by simp) ?_
      rw [pieces_names h0, pieces_names hq, ht, List.map_append]
    · intro hb
      obtain ⟨t, ht⟩ := (below_iff hpe).1 hb
      have hnt := cutL_ne t
      unfold namesP
      rw [if_neg h0, if_neg hq, ht, cut_append]
      cases hc : cutL t with
      | nil => exact absurd hc hnt
      | cons y u => exact ⟨y, u, rfl⟩
theorem cut_path {p : ByteArray} {e : Ent} (hp : p.size ≠ 0) (hb : belowB p e.path = true) : un e.path = un p ++ 47 :: un (cutE (aheadN p) e).path := by
  obtain ⟨t, ht⟩ := (below_iff ((isEmpty_false p).2 (by omega))).1 hb
  have e1 : un (cutE (aheadN p) e).path = t := by
    show un (e.path.extract (aheadN p) e.path.size) = t
    rw [un_extract, List.take_of_length_le (by rw [un_length]; omega), ahead_eq, if_neg hp, ht, ← un_length, List.drop_append, List.drop_of_length_le (by omega)]
    simp
  rw [e1]; exact ht
theorem cut_nil {p : ByteArray} (hp : p.size = 0) (e : Ent) : cutE (aheadN p) e = e := by
  have e1 : e.path.extract (aheadN p) e.path.size = e.path := un_inj (by rw [un_extract, List.take_of_length_le (by rw [un_length]; omega), ahead_eq, if_pos hp]; rfl)
  unfold cutE; rw [e1]
theorem join_cut {p : ByteArray} {e : Ent} (hb : belowB p e.path = true) : joinB p (cutE (aheadN p) e).path = e.path := by
  by_cases hp : p.size = 0
  · rw [cut_nil hp]
    unfold joinB; rw [if_pos ((isEmpty_iff p).2 hp)]
  · exact un_inj (by rw [un_join hp, ← cut_path hp hb])
theorem under_ahead {L : List Ent} {F : Pic} (h : Says F L) {p : ByteArray} {e : Ent} (he : e ∈ underL L (namesP p)) : aheadN p ≤ e.path.size := by
  rw [under_below h] at he
  by_cases hp : p.size = 0
  · rw [ahead_eq, if_pos hp]; omega
  · have := congrArg List.length (cut_path hp (List.mem_filter.1 he).2)
    rw [un_length, List.length_append, List.length_cons, un_length] at this
    rw [ahead_eq, if_neg hp]; omega
theorem wrong_cut {p : ByteArray} {e : Ent} (hp : p.size ≠ 0) (hb : belowB p e.path = true) (hw : wrongN e = 0) : wrongN (cutE (aheadN p) e) = 0 := by
  have hc := wrong_check hw
  have hct := check_cut hp (cut_path hp hb) hc
  unfold wrongN at hw ⊢
  rw [hc] at hw
  rw [hct]
  exact hw
theorem lt_cut {p : ByteArray} {a b : Ent} (hp : p.size ≠ 0) (ha : belowB p a.path = true) (hb : belowB p b.path = true) (h : ltE a b) : ltE (cutE (aheadN p) a) (cutE (aheadN p) b) := by
  have hs : ∀ e : Ent, belowB p e.path = true → piecesB e.path = piecesB p ++ piecesB (cutE (aheadN p) e).path := fun e he => by unfold piecesB; rw [cut_path hp he, cut_append, List.map_append]
  unfold ltE compareN at h ⊢
  rw [hs a ha, hs b hb, compareP_same] at h
  exact h
theorem bytes_map (n : Nat) (L : List Ent) : bytesL (L.map (cutE n)) = bytesL L := by unfold bytesL; rw [List.map_map]; rfl
theorem sub_one {W : World} {tb base : Nat} {F : Pic} {L : List Ent} (h : TreeOf W tb base F L) {p : ByteArray} (hp : p.size ≠ 0) {pre r : List Ent} {e : Ent} (hU : underL L (namesP p) = pre ++ e :: r) : oneN (pre.map (cutE (aheadN p))) (cutE (aheadN p) e) = 0 := by
  have hin : ∀ x ∈ underL L (namesP p), x ∈ L ∧ belowB p x.path = true := fun x hx => by rw [under_below h.says] at hx; exact List.mem_filter.1 hx
  have heU : e ∈ underL L (namesP p) := by rw [hU]; simp
  have hpU : ∀ x ∈ pre, x ∈ underL L (namesP p) := fun x hx => by rw [hU]; simp [hx]
  obtain ⟨heL, heb⟩ := hin e heU
  have hoU : (pre ++ e :: r).Pairwise ltE := by rw [← hU]; exact h.says.order.sublist List.filter_sublist
  obtain ⟨ho1, ho2, ho3⟩ := List.pairwise_append.1 hoU
  have hw := wrong_cut hp heb (h.right e heL)
  have hck := wrong_check hw
  have hlt : ∀ x ∈ pre.map (cutE (aheadN p)), ltE x (cutE (aheadN p) e) := fun x hx => by
    obtain ⟨y, hy, rfl⟩ := List.mem_map.1 hx
    exact lt_cut hp (hin y (hpU y hy)).2 heb (ho3 y hy e (by simp))
  have hoo : ooN (lastP (pre.map (cutE (aheadN p)))) (cutE (aheadN p) e).path = 0 := by
    generalize pre.map (cutE (aheadN p)) = M at hlt
    rcases List.eq_nil_or_concat M with rfl | ⟨l, d, rfl⟩
    · exact oo_start hck
    · have hd : lastP (l.concat d) = d.path := by simp [lastP]
      have hde := hlt d (by simp)
      unfold ltE at hde
      rw [hd]
      unfold ooN
      rw [if_neg (by omega), if_neg (by omega)]
  have hup : upN (pre.map (cutE (aheadN p))) (cutE (aheadN p) e).path = 0 := by
    unfold upN
    by_cases hz : (parentB (cutE (aheadN p) e).path).size = 0
    · rw [if_pos hz]
    · rw [if_neg hz]
      rcases last_cut (cut_path hp heb) with ⟨_, _, _, h4, _⟩ | ⟨h1, _, _⟩
      · rw [h4] at hz; exact absurd rfl hz
      · obtain ⟨s, t, hL⟩ := List.append_of_mem heL
        have h1n := h.one hL
        have hzq : (parentB e.path).size ≠ 0 := fun h0 => by rw [size_un0 h0] at h1; simp at h1
        have hus : upN s e.path = 0 := by
          by_cases hu : upN s e.path = 0
          · exact hu
          · unfold oneN putN at h1n
            rw [if_neg (show ¬ (wrongN e ≠ 0) by simpa using h.right e heL), if_pos hu] at h1n
            by_cases ho : ooN (lastP s) e.path ≠ 0
            · rw [if_pos ho] at h1n; exact absurd h1n ho
            · rw [if_neg ho] at h1n; exact h1n
        unfold upN at hus
        rw [if_neg hzq] at hus
        cases hf : s.find? (pathIs (parentB e.path)) with
        | none => rw [hf] at hus; simp at hus
        | some y =>
          rw [hf] at hus
          simp only at hus
          have hyk : y.kind = 1 := by
            by_cases hk : y.kind = 1
            · exact hk
            · rw [if_pos hk] at hus; omega
          have hys := List.mem_of_find?_eq_some hf
          have hyp : y.path = parentB e.path := pathIs_iff.1 (List.find?_some hf)
          have hyL : y ∈ L := by rw [hL]; simp [hys]
          have hye : ltE y e := by
            have ho := h.says.order
            rw [hL] at ho
            exact (List.pairwise_append.1 ho).2.2 y hys e (by simp)
          have hyb : belowB p y.path = true := (below_iff ((isEmpty_false p).2 (by omega))).2 ⟨_, by rw [hyp]; exact h1⟩
          have hyU : y ∈ underL L (namesP p) := by rw [under_below h.says]; exact List.mem_filter.2 ⟨hyL, hyb⟩
          have hypre : y ∈ pre := by
            rw [hU] at hyU
            rcases List.mem_append.1 hyU with g | g
            · exact g
            · rcases List.mem_cons.1 g with g | g
              · rw [g] at hye; exact absurd hye (ltE_self _)
              · exact absurd ((List.pairwise_cons.1 ho2).1 _ g) (ltE_asymm hye)
          have hcy : (cutE (aheadN p) y).path = parentB (cutE (aheadN p) e).path := by
            have g := cut_path hp hyb
            rw [hyp, h1] at g
            exact un_inj (by simpa using g.symm)
          cases hf2 : (pre.map (cutE (aheadN p))).find? (pathIs (parentB (cutE (aheadN p) e).path)) with
          | none => exact absurd (pathIs_iff.2 hcy) (by simpa using List.find?_eq_none.1 hf2 _ (List.mem_map_of_mem hypre))
          | some z =>
            obtain ⟨z0, hz0, rfl⟩ := List.mem_map.1 (List.mem_of_find?_eq_some hf2)
            have hzp : (cutE (aheadN p) z0).path = parentB (cutE (aheadN p) e).path := pathIs_iff.1 (List.find?_some hf2)
            obtain ⟨hzL, hzb⟩ := hin z0 (hpU z0 hz0)
            have hpp : z0.path = y.path := by rw [← join_cut hzb, ← join_cut hyb, hzp, hcy]
            obtain ⟨a1, a2, a3⟩ := h.says.at' z0 hzL
            obtain ⟨b1, b2, b3⟩ := h.says.at' y hyL
            rw [hpp, b2] at a2
            cases a2
            have : z0 = y := a3.symm.trans b3
            subst this
            show (if z0.kind ≠ 1 then (13 : Int) else 0) = 0
            rw [if_neg (by simpa using hyk)]
  have hmany : manyN (pre.map (cutE (aheadN p))) (cutE (aheadN p) e) = 0 := by
    unfold manyN
    rw [put_end hlt]
    have h1 := Nat.le_trans (under_le L (namesP p)) h.few
    have h2 := Nat.le_trans (bytes_sub (List.filter_sublist (l := L) (p := fun e => subN (namesP p) (namesP e.path)))) h.light
    rw [hU] at h1
    rw [show L.filter (fun e => subN (namesP p) (namesP e.path)) = pre ++ e :: r from hU] at h2
    have h3 : bytesL (pre ++ e :: r) = bytesL pre + (e.data.size + bytesL r) := by simp [bytesL]
    rw [h3] at h2
    simp at h1
    simp only
    rw [bytes_map, List.length_map, if_neg (by show ¬ (_ ∨ _ < _ + ((e.data.size : Nat) : Int)); omega)]
  unfold oneN putN
  rw [if_neg (show ¬ (wrongN _ ≠ 0) by simpa using hw), if_neg (show ¬ (ooN _ _ ≠ 0) by simpa using hoo), if_neg (show ¬ (upN _ _ ≠ 0) by simpa using hup), hmany]
theorem sub_check {L : List Ent} (hT : IsTree L) (p : ByteArray) : (checkGo [] (subL p L)).1 = 0 := by
  obtain ⟨W, tb, base, F, h⟩ := hT
  by_cases hp : p.size = 0
  · have e1 : subL p L = L := by
      unfold subL
      rw [show namesP p = [] from if_pos hp, h.says.all, show cutE (aheadN p) = id from funext (cut_nil hp), List.map_id]
    rw [e1]; exact h.check
  · have main : ∀ r pre, underL L (namesP p) = pre ++ r → (checkGo (pre.map (cutE (aheadN p))) (r.map (cutE (aheadN p)))).1 = 0 := by
      intro r
      induction r with
      | nil => intro pre _; rfl
      | cons e r ih =>
        intro pre hU
        rw [List.map_cons]
        unfold checkGo
        rw [if_neg (show ¬ (oneN _ _ ≠ 0) by simpa using sub_one h hp hU)]
        have := ih (pre ++ [e]) (by rw [hU]; simp)
        rw [List.map_append] at this
        exact this
    exact main _ [] rfl
end Go.Proofs.YtfglanibbngdmaaGreatDoor

namespace Go.Proofs.YtfglanibbngdmaaGreatDoor
open Go Go.RowKit Go.Shelf
attribute [local go_sem] Oper.semAt_some

def SubAt (bx b10 n base : Nat) (f : Ent → Ent) (pre : List Ent) (S : Nat → Prop) (W : World) : Prop :=
  ∃ S', Gath bx base f pre S' W ∧ Boxed W b10 3 (.int .i64 (n : Nat)) ∧ ¬ S' b10 ∧ b10 < base ∧ S = fun k => S' k ∨ k = b10
theorem sub_local (bx b10 n base : Nat) (f : Ent → Ent) : LocalE (SubAt bx b10 n base f) := by
  refine ⟨?_, ?_⟩
  · rintro pre S A B ⟨S', h1, h2, h3, h4, rfl⟩ hs hk
    exact ⟨S', (gath_local bx base f).keep _ _ _ _ h1 hs (fun k h => hk k (.inl h)), (hk b10 (.inr rfl)).trans h2, h3, h4, rfl⟩
  · rintro pre S A ⟨S', h1, h2, h3, h4, rfl⟩ k hk
    rcases hk with hk | rfl
    · exact (gath_local bx base f).there _ _ _ h1 k hk
    · exact h2.lt
set_option maxRecDepth 100000 in
theorem sub_10 (v : Value) (es : List Ent) (p : ByteArray) (w : World) (hg : ErrType w) (hv : EntsAt w v es) (hl : es.length ≤ 4611686018427387904) (hp : ∀ e ∈ es, e.path.size < 1152921504606846976) (hps : p.size ≤ 9223372036854775807) (hck : (checkGo [] es).1 = 0) (h0 : p.size ≠ 0) (hf : es.find? (pathIs p) = none) :
    Calls Tryz.prog 16 #[v, .string p] w fun e w' => e = .returned (.tuple #[.slice none 0 0, errE 10]) ∧ Below w.heap.size w w' ∧ IsTree es := by
  have hG := grow_p v es w hg hv hl hp
  have HCK : Hid ((checkGo [] es).1 = 0) := hck
  have HF : Hid (es.find? (pathIs p) = none) := hf
  have HAT : Hid (∀ (W : World) tb base F, TreeOf W tb base F es → Calls Tryz.prog 54 #[.pointer (some ⟨tb, 0, none⟩), .string p] W fun e w' => ∃ k, e = .returned (.pointer none) ∧ w' = W.drewN k) := fun W tb base F h => by
    obtain ⟨rt, rm, hrt, hrm, hhead⟩ := h.at'.root
    have hA := at_p tb base 4096 F rt p W hps hrt (head_cells hhead).1 h.at'.tree
    rcases h.says.at_text h0 with ⟨h1, _⟩ | ⟨x, _, h2⟩
    · rw [h1] at hA; exact hA
    · rw [h2] at hf; cases hf
  clear hck hf
  go_enter Tryz.func16, Tryz.ntmps16
  go_wp2_with (first | (go_at_call 48; refine hG.mono ?_; rintro e w1 ⟨hb1, ⟨-, tb, F, rfl, ht⟩ | ⟨hq, -⟩⟩; rotate_left; exact absurd HCK.out hq) | (go_at_call 54; refine (HAT.out _ _ _ _ ht).mono ?_; rintro e w2 ⟨k, rfl, rfl⟩))
  go_ret2
  exact ⟨rfl, below_drewN hb1 k, _, _, _, _, ht⟩
set_option maxRecDepth 100000 in
theorem sub_13 (v : Value) (es : List Ent) (p : ByteArray) (d : Ent) (w : World) (hg : ErrType w) (hv : EntsAt w v es) (hl : es.length ≤ 4611686018427387904) (hp : ∀ e ∈ es, e.path.size < 1152921504606846976) (hps : p.size ≤ 9223372036854775807) (hck : (checkGo [] es).1 = 0) (h0 : p.size ≠ 0) (hf : es.find? (pathIs p) = some d) (hd : d.kind ≠ 1) :
    Calls Tryz.prog 16 #[v, .string p] w fun e w' => e = .returned (.tuple #[.slice none 0 0, errE 13]) ∧ Below w.heap.size w w' ∧ IsTree es := by
  have hG := grow_p v es w hg hv hl hp
  have HCK : Hid ((checkGo [] es).1 = 0) := hck
  have HAT : Hid (∀ (W : World) tb base F, TreeOf W tb base F es → Calls Tryz.prog 54 #[.pointer (some ⟨tb, 0, none⟩), .string p] W fun e w' => ∃ k b, e = .returned (.pointer (some ⟨b, 0, none⟩)) ∧ w' = W.drewN k ∧ (W.drewN k).cell? ⟨b, 1, none⟩ = some (.int .i64 d.kind)) := fun W tb base F h => by
    obtain ⟨rt, rm, hrt, hrm, hhead⟩ := h.at'.root
    have hA := at_p tb base 4096 F rt p W hps hrt (head_cells hhead).1 h.at'.tree
    rcases h.says.at_text h0 with ⟨h1, h2⟩ | ⟨x, h1, h2⟩
    · rw [h2] at hf; cases hf
    · rw [h2] at hf; cases hf
      rw [h1] at hA
      refine hA.mono ?_
      rintro e w2 ⟨k, rfl, rfl⟩
      exact ⟨k, _, rfl, rfl, node_cell (W := W.drewN k) (h.at'.tree.node _ x h1).2 rfl⟩
  clear hck hf
  go_enter Tryz.func16, Tryz.ntmps16
  go_wp2_with (first | (go_at_call 48; refine hG.mono ?_; rintro e w1 ⟨hb1, ⟨-, tb, F, rfl, ht⟩ | ⟨hq, -⟩⟩; rotate_left; exact absurd HCK.out hq) | (go_at_call 54; refine (HAT.out _ _ _ _ ht).mono ?_; rintro e w2 ⟨k, b, rfl, rfl, hc1⟩))
  go_ret2
  exact ⟨rfl, below_drewN hb1 k, _, _, _, _, ht⟩
set_option maxRecDepth 100000 in
set_option maxHeartbeats 4000000 in
theorem sub_0 (v : Value) (es : List Ent) (p : ByteArray) (w : World) (hg : ErrType w) (hv : EntsAt w v es) (hl : es.length ≤ 4611686018427387904) (hp : ∀ e ∈ es, e.path.size < 1152921504606846976) (hck : (checkGo [] es).1 = 0) (hd : p.size = 0 ∨ ∃ d, es.find? (pathIs p) = some d ∧ d.kind = 1) :
    Calls Tryz.prog 16 #[v, .string p] w fun e w' => ∃ u, e = .returned (.tuple #[u, .nilIface]) ∧ w'.ownsRow w.heap.size 52 5 u (subL p es).length (ecells (subL p es)) ∧ Below w.heap.size w w' ∧ IsTree es := by
  obtain ⟨i0, hi, hz0, hz1, hz2⟩ := info_parts info_ent
  have hG := grow_p v es w hg hv hl hp
  have HCK : Hid ((checkGo [] es).1 = 0) := hck
  have hps : p.size < 1152921504606846976 := by
    rcases hd with h | ⟨d, h1, _⟩
    · omega
    · have := hp d (List.mem_of_find?_eq_some h1)
      rw [pathIs_iff.1 (List.find?_some h1)] at this; exact this
  have HAT : Hid (∀ (W : World) tb base F, TreeOf W tb base F es → ∃ x : Nd, F (namesP p) = some x ∧ Calls Tryz.prog 54 #[.pointer (some ⟨tb, 0, none⟩), .string p] W fun e w' => ∃ k, e = .returned (.pointer (some ⟨x.b, 0, none⟩)) ∧ w' = W.drewN k ∧ (W.drewN k).cell? ⟨x.b, 1, none⟩ = some (.int .i64 1)) := fun W tb base F h => by
    obtain ⟨rt, rm, hrt, hrm, hhead⟩ := h.at'.root
    have hA := at_p tb base 4096 F rt p W (by omega) hrt (head_cells hhead).1 h.at'.tree
    have hx : ∃ x : Nd, F (namesP p) = some x ∧ x.e.kind = 1 := by
      by_cases h0 : p.size = 0
      · obtain ⟨r2, g1, g2, _⟩ := h.says.root
        exact ⟨r2, by unfold namesP; rw [if_pos h0]; exact g1, g2⟩
      · rcases hd with h3 | ⟨d, h3, h4⟩
        · exact absurd h3 h0
        · rcases h.says.at_text h0 with ⟨h1, h2⟩ | ⟨x, h1, h2⟩
          · rw [h2] at h3; cases h3
          · rw [h2] at h3; cases h3
            exact ⟨x, h1, h4⟩
    obtain ⟨x, h1, h2⟩ := hx
    refine ⟨x, h1, ?_⟩
    rw [h1] at hA
    refine hA.mono ?_
    rintro e w2 ⟨k, rfl, rfl⟩
    exact ⟨k, rfl, rfl, by rw [← h2]; exact node_cell (W := W.drewN k) (h.at'.tree.node _ x h1).2 rfl⟩
  have hjs : aheadN p ≤ p.size + 1 := ahead_le p
  have hJ := fun w => join_p p ⟨#[]⟩ w (show p.size + 1 + 0 ≤ _ by omega)
  clear hck hd
  refine (callsIn_wide (n := 5)).1 ?_
  refine callsIn_of_wp_marks Tryz.func16 rfl trivial ?_ rfl
  simp only [Tryz.ntmps16, List.size_toArray, List.length_cons, List.length_nil, Nat.reduceAdd, Nat.reduceSub, Array.replicate_succ, Array.replicate_zero, List.push_toArray, List.append_toArray, List.nil_append, List.cons_append]
  refine wpIn_wide.2 ?_
  go_upto_region 9 with (first | (go_at_call 48; refine hG.mono ?_; rintro e w1 ⟨hb1, ⟨-, tb, F, rfl, ht⟩ | ⟨hq, -⟩⟩; rotate_left; exact absurd HCK.out hq) | (go_at_call 54; obtain ⟨x, hx, hat⟩ := HAT.out _ _ _ _ ht; refine hat.mono ?_; rintro e w2 ⟨k, rfl, rfl, hc1⟩))
  have HX : Hid (F (namesP p) = some x) := hx
  have HB : Hid (Below w.heap.size w (w1.drewN k)) := below_drewN hb1 k
  have HT : Hid (TreeOf (w1.drewN k) tb w.heap.size F es) := ht.below (below_drewN (Below.refl _ _) k)
  clear hx hb1 ht hc1 hG HAT HCK hat
  generalize w1.drewN k = V at *
  go_upto_region 10 with fail
  have HB2 : Hid (Below w.heap.size w (V.alloc (.cells #[.slice none 0 0] 22))) := below_join HB.out ((Below.refl _ _).alloc (Nat.le_refl _) _)
  have HT2 : Hid (TreeOf (V.alloc (.cells #[.slice none 0 0] 22)) tb w.heap.size F es) := HT.out.below ((Below.refl _ _).alloc (Nat.le_refl _) _)
  have hbox : Boxed (V.alloc (.cells #[.slice none 0 0] 22)) V.heap.size 22 (.slice none 0 0) := Boxed.new V _ _
  have HIN := HT.out.inB
  have hV2 : (V.alloc (.cells #[.slice none 0 0] 22)).heap.size = V.heap.size + 1 := by simp
  have HV2 : Hid (Below V.heap.size V (V.alloc (.cells #[.slice none 0 0] 22))) := (Below.refl _ _).alloc (Nat.le_refl _) _
  generalize V.alloc (.cells #[.slice none 0 0] 22) = V2 at *
  go_wp2_with (first | (go_at_call 35; refine (hJ _).mono ?_; rintro e w2 ⟨rfl, hw2⟩; replace hw2 := hw2.symm; subst hw2))
  rw [show (joinB p ⟨#[]⟩).size = aheadN p from rfl]
  have b1 : Below V2.heap.size V2 (V2.alloc (.cells #[.int .i64 (aheadN p : Nat)] 3)) := (Below.refl _ _).alloc (Nat.le_refl _) _
  have HB3 : Hid (Below w.heap.size w (V2.alloc (.cells #[.int .i64 (aheadN p : Nat)] 3))) := below_join HB2.out b1
  have HT3 : Hid (TreeOf (V2.alloc (.cells #[.int .i64 (aheadN p : Nat)] 3)) tb w.heap.size F es) := HT2.out.below b1
  have HV3 : Hid (Below V.heap.size V (V2.alloc (.cells #[.int .i64 (aheadN p : Nat)] 3))) := below_join HV2.out b1
  have hbox3 : Boxed (V2.alloc (.cells #[.int .i64 (aheadN p : Nat)] 3)) V.heap.size 22 (.slice none 0 0) := hbox.alloc _
  have hbox4 : Boxed (V2.alloc (.cells #[.int .i64 (aheadN p : Nat)] 3)) (V.heap.size + 1) 3 (.int .i64 (aheadN p : Nat)) := by rw [← hV2]; exact Boxed.new V2 _ _
  have hV3 : (V2.alloc (.cells #[.int .i64 (aheadN p : Nat)] 3)).heap.size = V.heap.size + 2 := by simp; omega
  clear b1 hbox hJ HT2 HV2 HB2 hV2
  generalize V2.alloc (.cells #[.int .i64 (aheadN p : Nat)] 3) = V3 at *
  have HG := HT3.out.givesN HIN (by omega) HX.out
  rw [hV3] at HG
  have hbA : Below V3.heap.size V3 (V3.alloc (.cells #[.pointer (some ⟨x.b, 0, none⟩)] 90)) := (Below.refl _ _).alloc (Nat.le_refl _) _
  refine (below_c _ _).mono ?_
  rintro e w2 ⟨rfl, rfl⟩
  go_wp2
  have HB4 : Hid (Below w.heap.size w (V3.alloc (.cells #[.pointer (some ⟨x.b, 0, none⟩)] 90))) := below_join HB3.out hbA
  have HV4 : Hid (Below V.heap.size V (V3.alloc (.cells #[.pointer (some ⟨x.b, 0, none⟩)] 90))) := below_join HV3.out hbA
  have hbox5 : Boxed (V3.alloc (.cells #[.pointer (some ⟨x.b, 0, none⟩)] 90)) V.heap.size 22 (.slice none 0 0) := hbox3.alloc _
  have hbox6 : Boxed (V3.alloc (.cells #[.pointer (some ⟨x.b, 0, none⟩)] 90)) (V.heap.size + 1) 3 (.int .i64 (aheadN p : Nat)) := hbox4.alloc _
  have hWA : (V3.alloc (.cells #[.pointer (some ⟨x.b, 0, none⟩)] 90)).heap.size = V.heap.size + 3 := by simp; omega
  have HIT : Hid (IsTree es) := ⟨_, _, _, _, HT3.out⟩
  have HAH : Hid (∀ y ∈ underL es (namesP p), aheadN p ≤ y.path.size) := fun y hy => under_ahead HT3.out.says hy
  have HLN : Hid ((underL es (namesP p)).length ≤ 4096) := Nat.le_trans (under_le _ _) HT3.out.few
  have hwV : w.heap.size ≤ V.heap.size := HB.out.size
  have HPS : Hid (∀ y ∈ underL es (namesP p), y.path.size < 1152921504606846976) := fun y hy => hp y (mem_under.1 hy).1
  clear hbA hbox3 hbox4 HT3 HV3 HB3 hV3
  generalize V3.alloc (.cells #[.pointer (some ⟨x.b, 0, none⟩)] 90) = WA at *
  refine wpIn_wide.1 (range_lawF (n := 5) (xs := underL es (namesP p)) (n₀ := V.heap.size) rfl eg_below HG (by omega) (Below.refl _ _) (SubAt V.heap.size (V.heap.size + 1) (aheadN p) (V.heap.size + 2) (cutE (aheadN p))) (fun k => (k = V.heap.size ∨ (Value.slice none 0 0).ownBlock = some k) ∨ k = V.heap.size + 1) (sub_local _ _ _ _ _) (fun k hk => ?s0) ⟨_, ⟨.slice none 0 0, hbox5, World.ownsRow_nil _ _ _ _, by omega, rfl⟩, hbox6, ?n0, by omega, rfl⟩ 52 11 ?assign ?body ?done)
  case s0 =>
    rcases hk with (rfl | hk) | rfl
    · omega
    · simp [Value.ownBlock] at hk
    · omega
  case n0 =>
    rintro (h | h)
    · omega
    · simp [Value.ownBlock] at h
  case assign =>
    intro m l x2 W K hK
    simp only [List.setIfInBounds_toArray, List.set_cons_succ, List.set_cons_zero] at hK ⊢
    unfold entV at hK ⊢
    gi_wp2
    exact hK
  case body =>
    rintro m l pre x2 S b W ⟨S', ⟨y, hy, hrow, hbb, hS'⟩, h10, hn10, hlt10, hS⟩ hpx hb hSb hbs
    have hmem : x2 ∈ underL es (namesP p) := hpx.subset (by simp)
    have hah := HAH.out x2 hmem
    have hxs := HPS.out x2 hmem
    have hlen : pre.length < 4096 := by have h1 := hpx.length_le; have h2 := HLN.out; rw [List.length_append] at h1; simp only [List.length_singleton] at h1; omega
    have HS : Hid (S = fun k => S' k ∨ k = V.heap.size + 1) := hS
    have HS' : Hid (S' = fun k => k = V.heap.size ∨ y.ownBlock = some k) := hS'
    have hec : ∀ (j : Nat) (u : Value), (#[.string x2.path, .int .i64 x2.kind, .int .i64 x2.mode, .string x2.data, .string x2.link] : Array Value)[j]? = some u → W.cell? ⟨b, j, none⟩ = some u := fun j u hu => by
      unfold World.cell?
      simp only [hb]; exact hu
    have c0 := hec 0 _ rfl
    have c1 := hec 1 _ rfl
    have c2 := hec 2 _ rfl
    have c3 := hec 3 _ rfl
    have c4 := hec 4 _ rfl
    have hyc := hy.cell
    have h10c := h10.cell
    have hfb : W.frozen? ⟨b, 0, none⟩ = false := by simp [World.frozen?, hb]
    have n1 : V.heap.size ≠ b := fun e => hSb (by rw [HS.out]; exact .inl (by rw [HS'.out]; exact .inl e.symm))
    have n2 : b ≠ V.heap.size + 1 := fun e => hSb (by rw [HS.out]; exact .inr e)
    have n3 : ∀ k, y.ownBlock = some k → k ≠ b := fun k hk e => hSb (by rw [HS.out]; exact .inl (by rw [HS'.out]; exact .inr (e ▸ hk)))
    have HR' : Hid ((W.setCell ⟨b, 0, none⟩ (.string (x2.path.extract (aheadN p) x2.path.size))).ownsRow (V.heap.size + 2) 52 5 y pre.length (ecells (pre.map (cutE (aheadN p))))) := row_local hrow (fun k hk => Below.heap_setCell _ _ _ _ (n3 k hk))
    have HY' : Hid (Boxed (W.setCell ⟨b, 0, none⟩ (.string (x2.path.extract (aheadN p) x2.path.size))) V.heap.size 22 y) := Boxed.other hy n1 _
    have H10' : Hid (Boxed (W.setCell ⟨b, 0, none⟩ (.string (x2.path.extract (aheadN p) x2.path.size))) (V.heap.size + 1) 3 (.int .i64 (aheadN p : Nat))) := Boxed.other h10 (Ne.symm n2) _
    have hWs : (W.setCell ⟨b, 0, none⟩ (.string (x2.path.extract (aheadN p) x2.path.size))).heap.size = W.heap.size := by simp [World.setCell]
    have HEN := ent_cells (ent_new (W.setCell ⟨b, 0, none⟩ (.string (x2.path.extract (aheadN p) x2.path.size))) 52 (cutE (aheadN p) x2))
    rw [hWs] at HEN
    have hblt : b < W.heap.size := (Array.getElem?_eq_some_iff.1 hb).1
    have hN10 : Hid (¬ S' (V.heap.size + 1)) := hn10
    clear hS hS' hpx hbox5 hbox6 hec hn10 hy hrow n3 hb
    simp only [List.setIfInBounds_toArray, List.set_cons_succ, List.set_cons_zero]
    unfold entV
    gi_wp2_with (gi_at_builtin; refine wpListIn_append_at _ rfl _ _ 22 rfl (V.heap.size + 2) 52 i0 (.agg #[.string ⟨#[]⟩, .int .i64 0, .int .i64 0, .string ⟨#[]⟩, .string ⟨#[]⟩]) 5 64 Tryz.underlying22 hi hz0 hz1 hz2 rfl (by decide) _ _ _ rfl (HR'.out.alloc _) ⟨W.heap.size, 0, none⟩ 1 1 (ecs (cutE (aheadN p) x2)) rfl rfl HEN (ent_one _) (by unfold maxLen; omega) (by omega) (by simp [World.setCell]; omega) ?_; intro v1 w1 hown1 hgrow1 hat1; obtain ⟨g1, cap1, rfl⟩ := row_shape hown1; obtain ⟨hv1, S2, hg2, hr2⟩ := gath_step (b := b) HY'.out HR'.out hbb HS'.out hown1 hgrow1 hat1; have hvc1 := hv1.cell; have hvf1 := hv1.frozen)
    have hsz := hr2.size
    rw [hWs] at hsz
    refine ⟨fun k => S2 k ∨ k = V.heap.size + 1, ⟨S2, hg2, (hr2.same _ (by omega) (fun h => h.elim hN10.out (fun e => n2 e.symm))).trans H10'.out, fun h => ?_, hlt10, rfl⟩, ⟨hr2.os, hr2.tape, hr2.output, hsz, fun k hk hn => ?_, fun k hk => ?_⟩⟩
    · rcases hr2.more _ h with (h1 | h1) | h1
      · exact hN10.out h1
      · exact n2 h1.symm
      · omega
    · refine (hr2.same k (by omega) (fun h => hn ?_)).trans (Below.heap_setCell _ _ _ _ (fun e => hn (.inr e)))
      rcases h with h | h
      · exact .inl (by rw [HS.out]; exact .inl h)
      · exact .inr h
    · rcases hk with hk | rfl
      · rcases hr2.more _ hk with (h1 | h1) | h1
        · exact .inl (.inl (by rw [HS.out]; exact .inl h1))
        · exact .inl (.inr h1)
        · rw [hWs] at h1; exact .inr h1
      · exact .inl (.inl (by rw [HS.out]; exact .inr rfl))
  case done =>
    rintro D S W hD ⟨S', ⟨y, hy, hrow, hbb, hS'⟩, h10, hn10, hlt10, hS⟩ hr hSD hK
    have hyc := hy.cell
    have HS : Hid (S = fun k => S' k ∨ k = V.heap.size + 1) := hS
    have HS' : Hid (S' = fun k => k = V.heap.size ∨ y.ownBlock = some k) := hS'
    have hBW : Hid (Below w.heap.size w W) := HB4.out.trans (hr.below (by omega) (fun k hk => by
      rcases hk with (rfl | hk) | rfl
      · exact hwV
      · simp [Value.ownBlock] at hk
      · omega))
    clear hS hS' hr hbox5 hbox6
    go_wp2
    refine ⟨by simp, .inl ⟨_, _, rfl, run_takeDeferred hK, ?_⟩⟩
    refine ⟨.tuple #[y, .nilIface], by simp [results, Tryz.f16, go_sem], y, rfl, ?_, hBW.out.trans (putLoop_below _ hK (by omega)), HIT.out⟩
    have hrow2 : (W.putObj D (.deferred none)).ownsRow (V.heap.size + 2) 52 5 y (underL es (namesP p)).length (ecells ((underL es (namesP p)).map (cutE (aheadN p)))) := row_local hrow (fun k hk => World.putObj_heap_other (fun e => hSD (by rw [HS.out]; exact .inl (by rw [HS'.out]; exact .inr (e ▸ hk)))))
    unfold subL
    rw [List.length_map]
    refine ⟨hrow2.1, ?_⟩
    rcases hrow2.2 with hn | ⟨g2, cap, cur, e1, e2, rest⟩
    · exact .inl hn
    · exact .inr ⟨g2, cap, cur, e1, by omega, rest⟩
end Go.Proofs.YtfglanibbngdmaaGreatDoor

namespace Go.Proofs.YtfglanibbngdmaaGreatDoor
open Go Go.RowKit

set_option maxRecDepth 100000 in
set_option maxHeartbeats 4000000 in
theorem parts_bad (v : Value) (es : List Ent) (p : ByteArray) (w : World) (hg : ErrType w) (hv : EntsAt w v es) (hl : es.length ≤ 4611686018427387904) (hp : ∀ e ∈ es, e.path.size < 1152921504606846976) (hck : (checkGo [] es).1 ≠ 0) :
    Calls Tryz.prog 7 #[v, .string p] w fun e w' => e = .returned (.bool true) ∧ Below w.heap.size w w' := by
  have hC := check_t v es w hg hv hl hp
  rw [show chkV es = fltA (checkGo [] es).1 (checkGo [] es).2 from if_neg hck] at hC
  unfold fltA at hC
  clear hck
  go_enter Tryz.func7, Tryz.ntmps7
  go_wp2_with (first | (go_at_call 12; refine hC.mono ?_; rintro e w1 ⟨rfl, hb1⟩) | (go_at_call 14; refine (works_t _ (hg.below hb1)).mono ?_; rintro e w2 ⟨rfl, hb2⟩))
  go_ret
  exact ⟨rfl, below_join hb1 hb2⟩
set_option maxRecDepth 100000 in
set_option maxHeartbeats 4000000 in
theorem parts_err (v : Value) (es : List Ent) (p : ByteArray) (n : Int) (w : World) (hg : ErrType w) (hv : EntsAt w v es) (hl : es.length ≤ 4611686018427387904) (hp : ∀ e ∈ es, e.path.size < 1152921504606846976) (hck : (checkGo [] es).1 = 0) (h0 : p.size ≠ 0)
    (hS : ∀ W, ErrType W → EntsAt W v es → Calls Tryz.prog 16 #[v, .string p] W fun e w' => e = .returned (.tuple #[.slice none 0 0, .iface 92 (.int .i64 n)]) ∧ Below W.heap.size W w' ∧ IsTree es)
    (hk : IsTree es → ∀ x ∈ es, x.path = p → x.kind ≠ 1) :
    Calls Tryz.prog 7 #[v, .string p] w fun e w' => e = .returned (.bool true) ∧ Below w.heap.size w w' := by
  have hC := check_t v es w hg hv hl hp
  rw [show chkV es = .nilIface from if_pos hck] at hC
  have hpe : p.toList.isEmpty = false := (isEmpty_false p).2 (by omega)
  obtain ⟨a, cap, b, o, rfl, ha, hcap, hc⟩ := hv
  have HV : Hid (∀ W, Below w.heap.size w W → EntsAt W (.slice a es.length cap) es) := fun W hb => ⟨a, cap, b, o, rfl, ha, hcap, fun i e he => (hc i e he).below hb⟩
  clear hck h0
  go_enter Tryz.func7, Tryz.ntmps7
  go_wp2_with (first | (go_at_call 12; refine hC.mono ?_; rintro e w1 ⟨rfl, hb1⟩) | (go_at_call 16; refine (hS _ (hg.below hb1) (HV.out _ hb1)).mono ?_; rintro e w2 ⟨rfl, hb2', hT⟩; have hb2 := below_join hb1 hb2'; have hk2 := hk hT; clear hT))
  go_loopw [7] (fun i wr => ∃ k : Nat, i = .int .i64 k ∧ k ≤ es.length ∧ Below w.heap.size w wr) (fun i _ => es.length - (intOf i).toNat)
  case atStart => exact ⟨0, rfl, Nat.zero_le _, hb2⟩
  case round =>
    obtain ⟨k, rfl, hkl, hB⟩ := hrel
    by_cases hlt : k < es.length
    · have hlt' : (k : Int) < (es.length : Int) := by omega
      have hk0 : (0 : Int) ≤ (k : Int) := by omega
      obtain ⟨x, hx⟩ : ∃ x, es[k]? = some x := ⟨_, List.getElem?_eq_getElem hlt⟩
      obtain rfl := ha (fun e => by rw [e] at hlt; simp at hlt)
      obtain ⟨c0, c1, c2, c3, c4⟩ := (hc k x hx).below hB
      have hkx := hk2 x (List.mem_of_getElem? hx)
      cases hq : (x.path.toList == p.toList) with
      | true =>
        have hk1 : (x.kind == 1) = false := by
          rw [beq_iff_eq, toList_un, toList_un] at hq
          simpa using hkx (un_inj hq)
        clear hx hc ha hkx hk hk2
        go_wp2
        go_roundw
        case rel => exact ⟨k + 1, by go_num, by omega, hB⟩
        case measure => simp [intOf]; omega
      | false =>
        clear hx hc ha hkx hk hk2
        go_wp2
        go_roundw
        case rel => exact ⟨k + 1, by go_num, by omega, hB⟩
        case measure => simp [intOf]; omega
    · have hge : ¬ (k : Int) < (es.length : Int) := by omega
      go_wp2_with (go_at_call 14; refine (works_t _ (hg.below hB)).mono ?_; rintro e w4 ⟨rfl, hb4⟩)
      go_ret
      exact ⟨rfl, below_join hB hb4⟩
/-- The entry that comes next among those below. -/
theorem filter_nth {α : Type} (q : α → Bool) : ∀ (l : List α) (k : Nat) (x : α), l[k]? = some x → q x = true → (l.filter q)[((l.take k).filter q).length]? = some x
  | [], k, x, h, _ => by simp at h
  | y :: l, 0, x, h, hq => by
    obtain rfl : y = x := by simpa using h
    simp [hq]
  | y :: l, k + 1, x, h, hq => by
    have ih := filter_nth q l k x (by simpa using h) hq
    rw [List.take_succ_cons]
    by_cases hy : q y = true
    · rw [List.filter_cons_of_pos hy, List.filter_cons_of_pos hy]
      simpa using ih
    · rw [List.filter_cons_of_neg hy, List.filter_cons_of_neg hy]
      exact ih
def bel (p : ByteArray) (e : Ent) : Bool := belowB p e.path
set_option maxRecDepth 100000 in
set_option maxHeartbeats 4000000 in
theorem parts_ok (v : Value) (es : List Ent) (p : ByteArray) (w : World) (hg : ErrType w) (hv : EntsAt w v es) (hl : es.length ≤ 4611686018427387904) (hp : ∀ e ∈ es, e.path.size < 1152921504606846976) (hck : (checkGo [] es).1 = 0) (hps : p.size ≤ 140737488351232) (hd : p.size = 0 ∨ ∃ d, es.find? (pathIs p) = some d ∧ d.kind = 1) :
    Calls Tryz.prog 7 #[v, .string p] w fun e w' => e = .returned (.bool true) ∧ Below w.heap.size w w' := by
  have hC := check_t v es w hg hv hl hp
  rw [show chkV es = .nilIface from if_pos hck] at hC
  have hS := fun W hg hv => sub_0 v es p W hg hv hl hp hck hd
  obtain ⟨a, cap, b, o, rfl, ha, hcap, hc⟩ := hv
  have HV : Hid (∀ W, Below w.heap.size w W → EntsAt W (.slice a es.length cap) es) := fun W hb => ⟨a, cap, b, o, rfl, ha, hcap, fun i e he => (hc i e he).below hb⟩
  clear hck hd
  go_enter Tryz.func7, Tryz.ntmps7
  go_wp2_with (first | (go_at_call 12; refine hC.mono ?_; rintro e w1 ⟨rfl, hb1⟩) | (go_at_call 16; refine (hS _ (hg.below hb1) (HV.out _ hb1)).mono ?_; rintro e w2 ⟨u, rfl, hu, hb2', hT⟩; have hb2 := below_join hb1 hb2'; have hul : (subL p es).length = (subL p es).length := rfl; obtain ⟨a2, cap2, b2, o2, rfl, ha2, hcap2, hc2⟩ := ents_of_owns hu))
  have HUB : Hid (underL es (namesP p) = es.filter (bel p)) := by obtain ⟨_, _, _, F, h⟩ := hT; exact under_below h.says p
  have HFW : Hid (es.length ≤ 4096) := by obtain ⟨_, _, _, F, h⟩ := hT; exact h.few
  have hfw := HFW.out
  have HCK : Hid ((checkGo [] (subL p es)).1 = 0) := sub_check hT p
  have HSL : Hid ((subL p es).length = (es.filter (bel p)).length) := by unfold Hid subL; rw [List.length_map, HUB.out]
  have hsl : (subL p es).length ≤ 4096 := by rw [HSL.out]; exact Nat.le_trans (List.length_filter_le _ _) hfw
  have HUP : Hid (∀ e ∈ subL p es, e.path.size < 1152921504606846976) := fun e he => by
    obtain ⟨y, hy, rfl⟩ := List.mem_map.1 he
    have := hp y (mem_under.1 hy).1
    show (y.path.extract (aheadN p) y.path.size).size < _
    rw [size_extract' _ _ _ (Nat.le_refl _)]; omega
  have HU : Hid (∀ W, Below w2.heap.size w2 W → EntsAt W (.slice a2 (subL p es).length cap2) (subL p es)) := fun W hb => (ents_of_owns hu).below hb
  clear hu hT hul
  go_loopw [8, 9, 10] (fun kk i _ wr => ∃ k : Nat, i = .int .i64 k ∧ k ≤ es.length ∧ kk = .int .i64 (((es.take k).filter (bel p)).length : Nat) ∧ Below w2.heap.size w2 wr) (fun _ i _ _ => es.length - (intOf i).toNat)
  case atStart => exact ⟨0, rfl, Nat.zero_le _, rfl, Below.refl _ _⟩
  case round =>
    obtain ⟨k, rfl, hkl, rfl, hB2⟩ := hrel
    have hB := below_join hb2 hB2
    by_cases hlt : k < es.length
    · have hlt' : (k : Int) < (es.length : Int) := by omega
      have hk0 : (0 : Int) ≤ (k : Int) := by omega
      obtain ⟨x, hx⟩ : ∃ x, es[k]? = some x := ⟨_, List.getElem?_eq_getElem hlt⟩
      obtain rfl := ha (fun e => by rw [e] at hlt; simp at hlt)
      have hC1 := (hc k x hx).below hB
      have hC1' := hC1
      obtain ⟨c0, c1, c2, c3, c4⟩ := hC1
      cases hbl : belowB p x.path with
      | false =>
        have HX : Hid ((es.take (k + 1)).filter (bel p) = (es.take k).filter (bel p)) := by unfold Hid; rw [List.take_add_one, hx, List.filter_append]; simp [bel, hbl]
        have HBL : Hid (belowB p x.path = false) := hbl
        clear hx hc ha hbl hc2 ha2
        go_wp2_with (go_at_call 34; refine (below_p _ _ _).mono ?_; rintro e w4 ⟨rfl, hw4⟩; replace hw4 := hw4.symm; subst hw4; rw [HBL.out])
        go_roundw
        case rel => exact ⟨k + 1, by go_num, by omega, by rw [HX.out], hB2⟩
        case measure => simp [intOf]; omega
      | true =>
        have HX : Hid (((es.take (k + 1)).filter (bel p)).length = ((es.take k).filter (bel p)).length + 1) := by unfold Hid; rw [List.take_add_one, hx, List.filter_append]; simp [bel, hbl]
        have HBL : Hid (belowB p x.path = true) := hbl
        have hfa := filter_nth (bel p) es k x hx hbl
        have hy : (subL p es)[((es.take k).filter (bel p)).length]? = some (cutE (aheadN p) x) := by
          unfold subL
          rw [List.getElem?_map, HUB.out, hfa]; rfl
        have HJ : Hid (joinB p (cutE (aheadN p) x).path = x.path) := join_cut hbl
        have hqlt := (List.getElem?_eq_some_iff.1 hy).1
        have hjz : (cutE (aheadN p) x).path.size ≤ x.path.size := by
          show (x.path.extract (aheadN p) x.path.size).size ≤ _
          rw [size_extract' _ _ _ (Nat.le_refl _)]; omega
        have hxz := hp x (List.mem_of_getElem? hx)
        obtain rfl := ha2 (fun e => by rw [e] at hqlt; simp at hqlt)
        have hC2 := (hc2 _ _ hy).below hB2
        obtain ⟨d0, d1, d2, d3, d4⟩ := hC2
        have hJ := fun W => join_p p (cutE (aheadN p) x).path W (by omega)
        rw [HJ.out] at hJ
        clear hx hc ha hbl hc2 ha2 hy hfa
        generalize ((es.take k).filter (bel p)).length = q at *
        have hq' : (q : Int) < ((subL p es).length : Int) := by omega
        have hq0 : (0 : Int) ≤ (q : Int) := by omega
        have hqN : decide ((subL p es).length ≤ q) = false := by simp; omega
        have hqI : decide (((subL p es).length : Int) ≤ (q : Int)) = false := by simp; omega
        have heq := fun W => eq_self x W
        go_wp2_with (go_at_call 34; refine (below_p _ _ _).mono ?_; rintro e w4 ⟨rfl, hw4⟩; replace hw4 := hw4.symm; subst hw4; rw [HBL.out])
        have dd0 : wr.drew.cell? ⟨b2, o2 + q * 5, none⟩ = some (.string (cutE (aheadN p) x).path) := d0
        have cc0 : wr.drew.cell? ⟨b, o + k * 5, none⟩ = some (.string x.path) := c0
        have HS0 : Hid (wr.drew.cell? ⟨b2, o2 + q * 5, none⟩ = some (.string (cutE (aheadN p) x).path) ∧ wr.drew.cell? ⟨b, o + k * 5, none⟩ = some (.string x.path)) := ⟨dd0, cc0⟩
        go_region_held3 (fun w' => w'.cell? ⟨b2, o2 + q * 5, none⟩ = some (.string (cutE (aheadN p) x).path) ∧ w'.cell? ⟨b, o + k * 5, none⟩ = some (.string x.path))
          (first | exact HS0.out | assumption | (go_split_ands; exact ⟨by assumption, by assumption⟩))
          (first | (go_at_call 35; with_reducible refine (hJ _).mono ?_; rintro e w4 ⟨rfl, rfl⟩))
        have HB5 : Hid (Below w2.heap.size w2 wr.drew) := below_drawn hB2 1
        have e0 : wr.drew.cell? ⟨b, o + k * 5, none⟩ = some (.string x.path) := c0
        have e1 : wr.drew.cell? ⟨b, o + k * 5 + 1, none⟩ = some (.int .i64 x.kind) := c1
        have e2 : wr.drew.cell? ⟨b, o + k * 5 + 2, none⟩ = some (.int .i64 x.mode) := c2
        have e3 : wr.drew.cell? ⟨b, o + k * 5 + 3, none⟩ = some (.string x.data) := c3
        have e4 : wr.drew.cell? ⟨b, o + k * 5 + 4, none⟩ = some (.string x.link) := c4
        have g0 : wr.drew.cell? ⟨b2, o2 + q * 5, none⟩ = some (.string (cutE (aheadN p) x).path) := d0
        have g1 : wr.drew.cell? ⟨b2, o2 + q * 5 + 1, none⟩ = some (.int .i64 x.kind) := d1
        have g2 : wr.drew.cell? ⟨b2, o2 + q * 5 + 2, none⟩ = some (.int .i64 x.mode) := d2
        have g3 : wr.drew.cell? ⟨b2, o2 + q * 5 + 3, none⟩ = some (.string x.data) := d3
        have g4 : wr.drew.cell? ⟨b2, o2 + q * 5 + 4, none⟩ = some (.string x.link) := d4
        have hblt : b < wr.heap.size := World.block_lt_of_cell? wr _ c0
        clear c0 c1 c2 c3 c4 d0 d1 d2 d3 d4 dd0 cc0 HS0 hJ hC1' hB
        have hWs : wr.drew.heap.size = wr.heap.size := rfl
        generalize wr.drew = W5 at *
        go_wp2
        have hen := ent_new W5 52 x
        rw [hWs] at hen
        obtain ⟨n0, n1, n2, n3, n4⟩ := hen
        have HB6 : Hid (Below w2.heap.size w2 (W5.alloc (.cells #[.string x.path, .int .i64 x.kind, .int .i64 x.mode, .string x.data, .string x.link] 52))) := below_join HB5.out ((Below.refl _ _).alloc (Nat.le_refl _) _)
        have f0 : (W5.alloc (.cells #[.string x.path, .int .i64 x.kind, .int .i64 x.mode, .string x.data, .string x.link] 52)).cell? ⟨b, o + k * 5, none⟩ = some (.string x.path) := (World.cell?_alloc_lt _ _ ⟨b, o + k * 5, none⟩ (show b < W5.heap.size by omega)).trans e0
        have f1 : (W5.alloc (.cells #[.string x.path, .int .i64 x.kind, .int .i64 x.mode, .string x.data, .string x.link] 52)).cell? ⟨b, o + k * 5 + 1, none⟩ = some (.int .i64 x.kind) := (World.cell?_alloc_lt _ _ ⟨b, o + k * 5 + 1, none⟩ (show b < W5.heap.size by omega)).trans e1
        have f2 : (W5.alloc (.cells #[.string x.path, .int .i64 x.kind, .int .i64 x.mode, .string x.data, .string x.link] 52)).cell? ⟨b, o + k * 5 + 2, none⟩ = some (.int .i64 x.mode) := (World.cell?_alloc_lt _ _ ⟨b, o + k * 5 + 2, none⟩ (show b < W5.heap.size by omega)).trans e2
        have f3 : (W5.alloc (.cells #[.string x.path, .int .i64 x.kind, .int .i64 x.mode, .string x.data, .string x.link] 52)).cell? ⟨b, o + k * 5 + 3, none⟩ = some (.string x.data) := (World.cell?_alloc_lt _ _ ⟨b, o + k * 5 + 3, none⟩ (show b < W5.heap.size by omega)).trans e3
        have f4 : (W5.alloc (.cells #[.string x.path, .int .i64 x.kind, .int .i64 x.mode, .string x.data, .string x.link] 52)).cell? ⟨b, o + k * 5 + 4, none⟩ = some (.string x.link) := (World.cell?_alloc_lt _ _ ⟨b, o + k * 5 + 4, none⟩ (show b < W5.heap.size by omega)).trans e4
        clear e0 e1 e2 e3 e4 g0 g1 g2 g3 g4 HB5
        generalize W5.alloc (.cells #[.string x.path, .int .i64 x.kind, .int .i64 x.mode, .string x.data, .string x.link] 52) = W6 at *
        go_quiet (fail)
        go_wp2
        go_roundw
        case rel => exact ⟨k + 1, by go_num, by omega, by rw [HX.out]; go_num, by first | exact HB6.out | exact below_drawn HB6.out _⟩
        case measure => simp [intOf]; omega
    · have hge : ¬ (k : Int) < (es.length : Int) := by omega
      have HALL : Hid (((es.take k).filter (bel p)).length = (subL p es).length) := by unfold Hid; rw [List.take_of_length_le (by omega), HSL.out]
      have hCk := check_t _ (subL p es) wr (hg.below hB) (HU.out wr hB2) (by omega) HUP.out
      rw [show chkV (subL p es) = .nilIface from if_pos HCK.out] at hCk
      rw [HALL.out]
      have hde : decide (((subL p es).length : Int) = ((subL p es).length : Int)) = true := by simp
      go_wp2_with (first | (go_at_call 12; refine hCk.mono ?_; rintro e w4 ⟨rfl, hb4'⟩; have hb4 := below_join hB hb4') | (go_at_call 14; refine (works_t _ (hg.below hb4)).mono ?_; rintro e w5 ⟨rfl, hb5⟩))
      go_ret
      exact ⟨rfl, below_join hb4 hb5⟩
theorem treeparts_law (v : Value) (es : List Ent) (p : ByteArray) (w : World) (hg : ErrType w) (hv : EntsAt w v es) (hl : es.length ≤ 4611686018427387904) (hp : ∀ e ∈ es, e.path.size < 1152921504606846976) (hps : p.size ≤ 140737488351232) :
    Calls Tryz.prog 7 #[v, .string p] w fun e w' => e = .returned (.bool true) ∧ Below w.heap.size w w' := by
  by_cases hck : (checkGo [] es).1 = 0
  · by_cases h0 : p.size = 0
    · exact parts_ok v es p w hg hv hl hp hck hps (.inl h0)
    · cases hf : es.find? (pathIs p) with
      | none =>
        refine parts_err v es p 10 w hg hv hl hp hck h0 (fun W g h => sub_10 v es p W g h hl hp (by omega) hck h0 hf) (fun _ x hx hxp => ?_)
        exact absurd (pathIs_iff.2 hxp) (by simpa using List.find?_eq_none.1 hf x hx)
      | some d =>
        by_cases hd : d.kind = 1
        · exact parts_ok v es p w hg hv hl hp hck hps (.inr ⟨d, hf, hd⟩)
        · refine parts_err v es p 13 w hg hv hl hp hck h0 (fun W g h => sub_13 v es p d W g h hl hp (by omega) hck h0 hf hd) (fun hT x hx hxp => ?_)
          obtain ⟨_, _, _, F, h⟩ := hT
          obtain ⟨a1, a2, a3⟩ := h.says.at' x hx
          obtain ⟨b1, b2, b3⟩ := h.says.at' d (List.mem_of_find?_eq_some hf)
          rw [pathIs_iff.1 (List.find?_some hf)] at b2
          rw [hxp, b2] at a2
          cases a2
          rw [← a3, b3]; exact hd
  · exact parts_bad v es p w hg hv hl hp hck
end Go.Proofs.YtfglanibbngdmaaGreatDoor
