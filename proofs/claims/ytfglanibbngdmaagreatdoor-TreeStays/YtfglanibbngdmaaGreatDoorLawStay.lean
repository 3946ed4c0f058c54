/- TreeStays: whatever is put and taken away, what there is stays a tree. -/
import Derived.Test.YtfglanibbngdmaaGreatDoorTakeX
import Derived.Test.YtfglanibbngdmaaGreatDoorCut
import Derived.Test.YtfglanibbngdmaaGreatDoorBelM
import Derived.Test.YtfglanibbngdmaaGreatDoorWorksT
import Derived.Deep.CutRange
import Derived.Deep.CutBlock

namespace Go.Proofs.YtfglanibbngdmaaGreatDoor
open Go Go.RowKit

theorem TreeOf.one {W : World} {tb base : Nat} {F : Pic} {L : List Ent} (h : TreeOf W tb base F L) {pre r : List Ent} {e : Ent} (hL : L = pre ++ e :: r) : oneN pre e = 0 := by
  have heL : e ∈ L := by rw [hL]; simp
  have hpre : ∀ x ∈ pre, x ∈ L := fun x hx => by rw [hL]; simp [hx]
  have ho := h.says.order
  rw [hL] at ho
  obtain ⟨ho1, ho2, ho3⟩ := List.pairwise_append.1 ho
  have hlt : ∀ x ∈ pre, ltE x e := fun x hx => ho3 x hx e (by simp)
  have hw := h.right e heL
  have hck := wrong_check hw
  have hoo : ooN (lastP pre) e.path = 0 := by
    rcases List.eq_nil_or_concat pre with rfl | ⟨l, d, rfl⟩
    · exact oo_start hck
    · have hd : lastP (l.concat d) = d.path := by simp [lastP]
      have hde := hlt d (by simp)
      unfold ltE at hde
      rw [hd]
      unfold ooN
      rw [if_neg (by omega), if_neg (by omega)]
  have hup : upN pre e.path = 0 := by
    unfold upN
    by_cases hz : (parentB e.path).size = 0
    · rw [if_pos hz]
    · rw [if_neg hz]
      obtain ⟨x, hx, _⟩ := h.says.at' e heL
      have hsp := names_split hck
      obtain ⟨u, hu⟩ : ∃ u, F (namesP (parentB e.path)) = some u := by
        cases hq : F (namesP (parentB e.path)) with
        | some u => exact ⟨u, rfl⟩
        | none =>
          have := h.says.gone _ (un (lastB e.path)) hq
          rw [hsp, hx] at this; cases this
      have huk : u.e.kind = 1 := by
        by_cases hk : u.e.kind = 1
        · exact hk
        · have hm := (h.at'.kinds _ u hu).2 hk
          have := h.at'.tree.leaf _ u (un (lastB e.path)) hu hm
          rw [hsp, hx] at this; cases this
      obtain ⟨hu1, hu2⟩ := h.says.of' _ u (names_ne hz) hu
      have hup : u.e.path = parentB e.path := names_inj (h.says.full _ hu1) hz hu2
      have hlu : ltE u.e e := lt_below (y := un (lastB e.path)) (t := []) (h.says.full _ hu1) (h.says.full _ heL) (by rw [hu2, ← hsp])
      have hin : u.e ∈ pre := by
        rw [hL] at hu1
        rcases List.mem_append.1 hu1 with h1 | h1
        · exact h1
        · rcases List.mem_cons.1 h1 with h1 | h1
          · rw [h1] at hlu; exact absurd hlu (ltE_self _)
          · exact absurd ((List.pairwise_cons.1 ho2).1 _ h1) (ltE_asymm hlu)
      cases hf : pre.find? (pathIs (parentB e.path)) with
      | none => exact absurd (pathIs_iff.2 hup) (by simpa using List.find?_eq_none.1 hf _ hin)
      | some y =>
        have hy1 := List.mem_of_find?_eq_some hf
        have hy2 : y.path = parentB e.path := pathIs_iff.1 (List.find?_some hf)
        obtain ⟨z, hz1, hz2⟩ := h.says.at' y (hpre y hy1)
        rw [hy2, hu] at hz1
        cases hz1
        simp [← hz2, huk]
  have hmany : manyN pre e = 0 := by
    unfold manyN
    rw [put_end hlt]
    have h1 := h.few
    have h2 := h.light
    rw [hL] at h1 h2
    have h3 : bytesL (pre ++ e :: r) = bytesL pre + (e.data.size + bytesL r) := by simp [bytesL]
    rw [h3] at h2
    simp at h1
    simp only
    rw [if_neg (by omega)]
  unfold oneN putN
  rw [if_neg (show ¬ (wrongN e ≠ 0) by simpa using hw), if_neg (show ¬ (ooN (lastP pre) e.path ≠ 0) by simpa using hoo), if_neg (show ¬ (upN pre e.path ≠ 0) by simpa using hup), hmany]
theorem TreeOf.check {W : World} {tb base : Nat} {F : Pic} {L : List Ent} (h : TreeOf W tb base F L) : (checkGo [] L).1 = 0 := by
  have main : ∀ r pre, L = pre ++ r → (checkGo pre r).1 = 0 := by
    intro r
    induction r with
    | nil => intro pre _; rfl
    | cons e r ih =>
      intro pre hL
      unfold checkGo
      rw [if_neg (show ¬ (oneN pre e ≠ 0) by simpa using h.one hL)]
      exact ih _ (by rw [hL]; simp)
  exact main L [] rfl
def notP (p : ByteArray) (e : Ent) : Bool := !pathIs p e
theorem but_laid {L : List Ent} (h : L.Pairwise ltE) (e : Ent) : (laidL L e).filter (notP e.path) = L.filter (notP e.path) := by
  refine srt_ext _ _ ((laid_order h e).sublist List.filter_sublist) (h.sublist List.filter_sublist) (fun x => ?_)
  have hn : notP e.path x = true ↔ x.path ≠ e.path := by
    unfold notP
    rw [Bool.not_eq_true', ← Bool.not_eq_true, pathIs_iff]
  rw [List.mem_filter, List.mem_filter, laid_mem, hn]
  constructor
  · rintro ⟨rfl | ⟨h1, h2⟩, h3⟩
    · exact absurd rfl h3
    · exact ⟨h1, h3⟩
  · rintro ⟨h1, h2⟩
    exact ⟨.inr ⟨h1, h2⟩, h2⟩
theorem find_laid {L : List Ent} {e : Ent} : (laidL L e).find? (pathIs e.path) = some e := by
  unfold laidL
  rw [List.find?_append, List.find?_eq_none.2 (fun x hx => by
    have h1 := (List.mem_filter.1 hx).2
    simp at h1
    intro hp
    rw [pathIs_iff.1 hp, order_self] at h1; omega)]
  have : pathIs e.path e = true := pathIs_iff.2 rfl
  simp [List.find?, this]
/-- What stays, by the statement's words. -/
def keptB (p : ByteArray) (e : Ent) : Bool := !pathIs p e && !belowB p e.path
theorem prefix_below {p q : ByteArray} (hp : p.size ≠ 0) (hq : q.size ≠ 0) : (namesP p).isPrefixOf (namesP q) = (un q == un p || belowB p q) := by
  have hpe : p.toList.isEmpty = false := (isEmpty_false p).2 (by omega)
  rw [Bool.eq_iff_iff, List.isPrefixOf_iff_prefix, Bool.or_eq_true, beq_iff_eq]
  constructor
  · rintro ⟨t, ht⟩
    cases t with
    | nil => left; rw [List.append_nil] at ht; rw [names_inj hp hq ht]
    | cons y t =>
      right
      refine pieces_below hpe (u := (y :: t).map bs) (by simp) ?_
      rw [pieces_names hp, pieces_names hq, ← ht, List.map_append]
  · rintro (h | h)
    · rw [un_inj h]; exact List.prefix_refl _
    · obtain ⟨t, ht⟩ := (below_iff hpe).1 h
      unfold namesP
      rw [if_neg hp, if_neg hq, ht, cut_append]
      exact List.prefix_append _ _
theorem kept_gone {F : Pic} {L : List Ent} (h : Says F L) {p : ByteArray} (hp : p.size ≠ 0) : L.filter (keptB p) = goneL L (namesP p) := by
  unfold goneL
  refine List.filter_congr (fun e he => ?_)
  unfold keptB pathIs
  rw [prefix_below hp (h.full e he)]
  simp
end Go.Proofs.YtfglanibbngdmaaGreatDoor

namespace Go.Proofs.YtfglanibbngdmaaGreatDoor
open Go.RowKit

theorem below_p (a b : ByteArray) (w : World) : Calls Tryz.prog 34 #[.string a, .string b] w fun e w' => e = .returned (.bool (belowB a b)) ∧ w' = w := by
  cases h1 : a.toList.isEmpty
  · cases h2 : Lib.hasPrefix (un b) (un a)
    all_goals
      have H2 : Hid _ := h2
      clear h2
      go_enter Tryz.func34, Tryz.ntmps34
      go_wp2_with (first | (go_at_call 71; refine (Tryz.strings_CutPrefix _ _ _).mono ?_; rintro e w2 ⟨rfl, rfl⟩; rw [show Lib.hasPrefix b.data.toList a.data.toList = _ from H2.out]) | (go_at_call 72; refine (Tryz.strings_HasPrefix _ _ _).mono ?_; rintro e w2 ⟨rfl, rfl⟩))
      go_ret
      exact ⟨by simp [belowB, h1, H2.out]; try rfl, rfl⟩
  · go_enter Tryz.func34, Tryz.ntmps34
    go_wp2
    go_ret
    exact ⟨by simp [belowB, h1]; try rfl, rfl⟩
end Go.Proofs.YtfglanibbngdmaaGreatDoor

namespace Go.Proofs.YtfglanibbngdmaaGreatDoor
open Go Go.RowKit

/-- A list of entries that lies beside a tree. -/
def FreeE (W : World) (v : Value) (L : List Ent) (M : Nat → Prop) : Prop :=
  ∃ (a : Option Addr) (cap b o : Nat), v = .slice a L.length cap ∧ (L ≠ [] → a = some ⟨b, o, none⟩) ∧ L.length ≤ cap ∧ (∀ i e, L[i]? = some e → EntC W b (o + i * 5) e) ∧ (L ≠ [] → ¬ M b ∧ b < W.heap.size)
theorem FreeE.ents {W : World} {v : Value} {L : List Ent} {M : Nat → Prop} (h : FreeE W v L M) : EntsAt W v L := by
  obtain ⟨a, cap, b, o, h1, h2, h3, h4, _⟩ := h
  exact ⟨a, cap, b, o, h1, h2, h3, h4⟩
theorem list_ne {L : List Ent} {i : Nat} {e : Ent} (h : L[i]? = some e) : L ≠ [] := fun h0 => by rw [h0] at h; simp at h
theorem FreeE.rnd {W W' : World} {v : Value} {L : List Ent} {M M' : Nat → Prop} (h : FreeE W v L M) (hr : Rnd M M' W W') : FreeE W' v L M' := by
  obtain ⟨a, cap, b, o, h1, h2, h3, h4, h5⟩ := h
  refine ⟨a, cap, b, o, h1, h2, h3, fun i e he => ?_, fun hL => ?_⟩
  · obtain ⟨q0, q1, q2, q3, q4⟩ := h4 i e he
    obtain ⟨n1, n2⟩ := h5 (list_ne he)
    exact ⟨cell_kept hr n2 n1 q0, cell_kept hr n2 n1 q1, cell_kept hr n2 n1 q2, cell_kept hr n2 n1 q3, cell_kept hr n2 n1 q4⟩
  · obtain ⟨n1, n2⟩ := h5 hL
    have := hr.size
    refine ⟨fun hm => ?_, by omega⟩
    rcases hr.more b hm with h6 | h6
    · exact n1 h6
    · omega
theorem FreeE.below {W W' : World} {v : Value} {L : List Ent} {M : Nat → Prop} (h : FreeE W v L M) (hb : Below W.heap.size W W') : FreeE W' v L M := h.rnd (Rnd.of_below hb)
theorem free_nil (W : World) (M : Nat → Prop) : FreeE W (.slice none 0 0) [] M := ⟨none, 0, 0, 0, rfl, fun h => absurd rfl h, Nat.le_refl _, fun i e h => by simp at h, fun h => absurd rfl h⟩
theorem free_of_owns {W : World} {base : Nat} {v : Value} {L : List Ent} {M : Nat → Prop} (h : W.ownsRow base 52 5 v L.length (ecells L)) (hM : ∀ k, base ≤ k → ¬ M k) : FreeE W v L M := by
  have he := ents_of_owns h
  rcases h.2 with ⟨rfl, h0⟩ | ⟨g, cap, cur, rfl, hg, hgb, hcap, _⟩
  · have : L = [] := List.eq_nil_of_length_eq_zero h0
    subst this
    exact free_nil W M
  · obtain ⟨a2, cap2, b2, o2, hv2, ha2, hcp2, hc2⟩ := he
    refine ⟨some ⟨g, 0, none⟩, cap, g, 0, rfl, fun _ => rfl, hcap, fun i e hi => ?_, fun _ => ⟨hM g hg, (Array.getElem?_eq_some_iff.1 hgb).1⟩⟩
    have h1 := ha2 (list_ne hi)
    subst h1
    simp at hv2
    obtain ⟨⟨rfl, rfl⟩, _⟩ := hv2
    exact hc2 i e hi
set_option maxRecDepth 100000 in
set_option maxHeartbeats 2000000 in
theorem bytes_p (v : Value) (L : List Ent) (w : World) (hv : EntsAt w v L) (hl : L.length ≤ 4096) (hb : bytesL L ≤ 16777216) : Calls Tryz.prog 30 #[v] w fun e w' => e = .returned (.int .i64 (bytesL L : Nat)) ∧ w' = w := by
  obtain ⟨a, cap, b, o, rfl, ha, hcap, hc⟩ := hv
  have HBT : Hid (∀ k, bytesL (L.take k) ≤ bytesL L) := fun k => bytes_sub (List.take_sublist k L)
  go_enter Tryz.func30, Tryz.ntmps30
  go_wp2
  go_loop [3, 4] (fun q i => ∃ k : Nat, k ≤ L.length ∧ i = .int .i64 k ∧ q = .int .i64 (bytesL (L.take k) : Nat)) (fun _ i => L.length - (intOf i).toNat)
  case atStart => exact ⟨0, Nat.zero_le _, rfl, by simp [bytesL]⟩
  case round =>
    obtain ⟨k, hk, rfl, rfl⟩ := hrel
    by_cases hlt : k < L.length
    · have hlt' : (k : Int) < (L.length : Int) := by omega
      have hk0 : (0 : Int) ≤ (k : Int) := by omega
      obtain ⟨x, hx⟩ : ∃ x, L[k]? = some x := ⟨_, List.getElem?_eq_getElem hlt⟩
      obtain rfl := ha (fun e => by rw [e] at hlt; simp at hlt)
      have c3 := (hc k x hx).c3
      have HX : Hid (bytesL (L.take (k + 1)) = bytesL (L.take k) + x.data.size) := by unfold Hid; rw [List.take_add_one, hx]; simp [bytesL]
      have h1 := HBT.out (k + 1)
      have h2 := HX.out
      have hwr : wrap64 ((bytesL (L.take k) : Int) + (x.data.size : Int)) = (bytesL (L.take k) : Int) + (x.data.size : Int) := wrap_small (by omega) (by omega)
      clear hx hc ha h1 h2
      go_wp2
      go_round
      case rel => exact ⟨k + 1, by omega, by go_num, by rw [HX.out]; simp [hwr]⟩
      case measure => simp [intOf]; omega
    · have hge : ¬ (k : Int) < (L.length : Int) := by omega
      have HALL : Hid (L.take k = L) := List.take_of_length_le (by omega)
      go_wp2
      go_ret
      exact ⟨by rw [HALL.out]; rfl, rfl⟩
set_option maxRecDepth 100000 in
set_option maxHeartbeats 2000000 in
theorem but_p (v : Value) (L : List Ent) (p : ByteArray) (w : World) (hv : EntsAt w v L) (hl : L.length ≤ 1073741824) : Calls Tryz.prog 32 #[v, .string p] w fun e w' => ∃ u, e = .returned u ∧ w'.ownsRow w.heap.size 52 5 u (L.filter (notP p)).length (ecells (L.filter (notP p))) ∧ Below w.heap.size w w' := by
  obtain ⟨i0, hi, hz0, hz1, hz2⟩ := info_parts info_ent
  obtain ⟨a, cap, b, o, rfl, ha, hcap, hc⟩ := hv
  go_enter Tryz.func32, Tryz.ntmps32
  go_wp2
  go_loopw [5, 6] (fun v i wr => ∃ k : Nat, i = .int .i64 k ∧ k ≤ L.length ∧ wr.ownsRow w.heap.size 52 5 v ((L.take k).filter (notP p)).length (ecells ((L.take k).filter (notP p))) ∧ Below w.heap.size w wr) (fun _ i _ => L.length - (intOf i).toNat)
  case atStart => exact ⟨0, rfl, Nat.zero_le _, World.ownsRow_nil _ _ _ _, Below.refl _ _⟩
  case round =>
    obtain ⟨k, rfl, hk, hown, hB⟩ := hrel
    have hsz := hB.size
    by_cases hlt : k < L.length
    · have hlt' : (k : Int) < (L.length : Int) := by omega
      have hk0 : (0 : Int) ≤ (k : Int) := by omega
      obtain ⟨x, hx⟩ : ∃ x, L[k]? = some x := ⟨_, List.getElem?_eq_getElem hlt⟩
      obtain rfl := ha (fun e => by rw [e] at hlt; simp at hlt)
      obtain ⟨c0, c1, c2, c3, c4⟩ := (hc k x hx).below hB
      have hlk : ((L.take k).filter (notP p)).length ≤ L.length := Nat.le_trans (List.length_filter_le _ _) (by rw [List.length_take]; omega)
      have hpi : pathIs p x = (x.path.toList == p.toList) := by unfold pathIs; rw [toList_un, toList_un]
      cases hq : pathIs p x with
      | true =>
        rw [hq] at hpi
        have hpb : (x.path.toList == p.toList) = true := hpi.symm
        have HX : Hid ((L.take (k + 1)).filter (notP p) = (L.take k).filter (notP p)) := by unfold Hid; rw [List.take_add_one, hx, List.filter_append]; simp [notP, hq]
        clear hx hc ha hpi hq
        go_wp2
        go_roundw
        case rel => exact ⟨k + 1, by go_num, by omega, by rw [HX.out]; exact hown, hB⟩
        case measure => simp [intOf]; omega
      | false =>
        rw [hq] at hpi
        have hpb : (x.path.toList == p.toList) = false := hpi.symm
        have HX : Hid ((L.take (k + 1)).filter (notP p) = (L.take k).filter (notP p) ++ [x]) := by unfold Hid; rw [List.take_add_one, hx, List.filter_append]; simp [notP, hq]
        clear hx hc ha hpi hq
        go_wp2_with (at_builtin; refine wpList_append_own _ rfl _ _ 22 rfl w.heap.size 52 i0 (.agg #[.string ⟨#[]⟩, .int .i64 0, .int .i64 0, .string ⟨#[]⟩, .string ⟨#[]⟩]) 5 64 Tryz.underlying22 hi hz0 hz1 hz2 rfl (by decide) _ _ _ rfl (hown.alloc _) ⟨wr.heap.size, 0, none⟩ 1 1 (ecs x) rfl rfl (ent_cells (ent_new wr _ x)) (ent_one x) (by unfold maxLen; omega) (by omega) (by simp; omega) ?_; intro v1 w1 hown1 hgrow1 _)
        have hb1 : Below w.heap.size w w1 := (hB.alloc hsz _).grown hgrow1 (by simp; omega) (fun j hj => (own_ge hown j hj.symm).1)
        have hown2 : w1.ownsRow w.heap.size 52 5 v1 ((L.take (k + 1)).filter (notP p)).length (ecells ((L.take (k + 1)).filter (notP p))) := by
          rw [HX.out, ecells_append, List.length_append]; simpa [ecells] using hown1
        clear hown1 hgrow1 hown
        go_roundw
        case rel => exact ⟨k + 1, by go_num, by omega, hown2, hb1⟩
        case measure => simp [intOf]; omega
    · have hge : ¬ (k : Int) < (L.length : Int) := by omega
      have hall : L.take k = L := List.take_of_length_le (by omega)
      rw [hall] at hown
      go_wp2
      go_ret
      exact ⟨_, rfl, hown, hB⟩
set_option maxRecDepth 100000 in
set_option maxHeartbeats 2000000 in
theorem kept_p (v : Value) (L : List Ent) (p : ByteArray) (w : World) (hv : EntsAt w v L) (hl : L.length ≤ 1073741824) : Calls Tryz.prog 33 #[v, .string p] w fun e w' => ∃ u, e = .returned u ∧ w'.ownsRow w.heap.size 52 5 u (L.filter (keptB p)).length (ecells (L.filter (keptB p))) ∧ Below w.heap.size w w' := by
  obtain ⟨i0, hi, hz0, hz1, hz2⟩ := info_parts info_ent
  obtain ⟨a, cap, b, o, rfl, ha, hcap, hc⟩ := hv
  go_enter Tryz.func33, Tryz.ntmps33
  go_wp2
  go_loopw [5, 6] (fun v i wr => ∃ k : Nat, i = .int .i64 k ∧ k ≤ L.length ∧ wr.ownsRow w.heap.size 52 5 v ((L.take k).filter (keptB p)).length (ecells ((L.take k).filter (keptB p))) ∧ Below w.heap.size w wr) (fun _ i _ => L.length - (intOf i).toNat)
  case atStart => exact ⟨0, rfl, Nat.zero_le _, World.ownsRow_nil _ _ _ _, Below.refl _ _⟩
  case round =>
    obtain ⟨k, rfl, hk, hown, hB⟩ := hrel
    have hsz := hB.size
    by_cases hlt : k < L.length
    · have hlt' : (k : Int) < (L.length : Int) := by omega
      have hk0 : (0 : Int) ≤ (k : Int) := by omega
      obtain ⟨x, hx⟩ : ∃ x, L[k]? = some x := ⟨_, List.getElem?_eq_getElem hlt⟩
      obtain rfl := ha (fun e => by rw [e] at hlt; simp at hlt)
      obtain ⟨c0, c1, c2, c3, c4⟩ := (hc k x hx).below hB
      have hlk : ((L.take k).filter (keptB p)).length ≤ L.length := Nat.le_trans (List.length_filter_le _ _) (by rw [List.length_take]; omega)
      have hpi : pathIs p x = (x.path.toList == p.toList) := by unfold pathIs; rw [toList_un, toList_un]
      cases hq : pathIs p x with
      | true =>
        rw [hq] at hpi
        have hpb : (x.path.toList == p.toList) = true := hpi.symm
        have HX : Hid ((L.take (k + 1)).filter (keptB p) = (L.take k).filter (keptB p)) := by unfold Hid; rw [List.take_add_one, hx, List.filter_append]; simp [keptB, hq]
        clear hx hc ha hpi hq
        go_wp2
        go_roundw
        case rel => exact ⟨k + 1, by go_num, by omega, by rw [HX.out]; exact hown, hB⟩
        case measure => simp [intOf]; omega
      | false =>
        rw [hq] at hpi
        have hpb : (x.path.toList == p.toList) = false := hpi.symm
        cases hbl : belowB p x.path with
        | true =>
          have HX : Hid ((L.take (k + 1)).filter (keptB p) = (L.take k).filter (keptB p)) := by unfold Hid; rw [List.take_add_one, hx, List.filter_append]; simp [keptB, hbl]
          have HBL : Hid (belowB p x.path = true) := hbl
          clear hx hc ha hpi hq hbl
          go_wp2_with (go_at_call 34; refine (below_p _ _ _).mono ?_; rintro e w2 ⟨rfl, hw2⟩; replace hw2 := hw2.symm; subst hw2; rw [HBL.out])
          go_roundw
          case rel => exact ⟨k + 1, by go_num, by omega, by rw [HX.out]; exact hown, hB⟩
          case measure => simp [intOf]; omega
        | false =>
          have HX : Hid ((L.take (k + 1)).filter (keptB p) = (L.take k).filter (keptB p) ++ [x]) := by unfold Hid; rw [List.take_add_one, hx, List.filter_append]; simp [keptB, hq, hbl]
          have HBL : Hid (belowB p x.path = false) := hbl
          clear hx hc ha hpi hq hbl
          go_wp2_with (first | (go_at_call 34; refine (below_p _ _ _).mono ?_; rintro e w2 ⟨rfl, hw2⟩; replace hw2 := hw2.symm; subst hw2; rw [HBL.out]) | (at_builtin; refine wpList_append_own _ rfl _ _ 22 rfl w.heap.size 52 i0 (.agg #[.string ⟨#[]⟩, .int .i64 0, .int .i64 0, .string ⟨#[]⟩, .string ⟨#[]⟩]) 5 64 Tryz.underlying22 hi hz0 hz1 hz2 rfl (by decide) _ _ _ rfl (hown.alloc _) ⟨wr.heap.size, 0, none⟩ 1 1 (ecs x) rfl rfl (ent_cells (ent_new wr _ x)) (ent_one x) (by unfold maxLen; omega) (by omega) (by simp; omega) ?_; intro v1 w1 hown1 hgrow1 _))
          have hb1 : Below w.heap.size w w1 := (hB.alloc hsz _).grown hgrow1 (by simp; omega) (fun j hj => (own_ge hown j hj.symm).1)
          have hown2 : w1.ownsRow w.heap.size 52 5 v1 ((L.take (k + 1)).filter (keptB p)).length (ecells ((L.take (k + 1)).filter (keptB p))) := by
            rw [HX.out, ecells_append, List.length_append]; simpa [ecells] using hown1
          clear hown1 hgrow1 hown
          go_roundw
          case rel => exact ⟨k + 1, by go_num, by omega, hown2, hb1⟩
          case measure => simp [intOf]; omega
    · have hge : ¬ (k : Int) < (L.length : Int) := by omega
      have hall : L.take k = L := List.take_of_length_le (by omega)
      rw [hall] at hown
      go_wp2
      go_ret
      exact ⟨_, rfl, hown, hB⟩
end Go.Proofs.YtfglanibbngdmaaGreatDoor

namespace Go.Proofs.YtfglanibbngdmaaGreatDoor
open Go Go.RowKit

/-- A step. -/
structure Stp where
  act : Int
  who : Int
  e : Ent
  path : ByteArray
  num : Int
structure StpC (W : World) (b q : Nat) (s : Stp) : Prop where
  c0 : W.cell? ⟨b, q, none⟩ = some (.int .i64 s.act)
  c1 : W.cell? ⟨b, q + 1, none⟩ = some (.int .i64 s.who)
  c2 : W.cell? ⟨b, q + 2, none⟩ = some (.string s.e.path)
  c3 : W.cell? ⟨b, q + 3, none⟩ = some (.int .i64 s.e.kind)
  c4 : W.cell? ⟨b, q + 4, none⟩ = some (.int .i64 s.e.mode)
  c5 : W.cell? ⟨b, q + 5, none⟩ = some (.string s.e.data)
  c6 : W.cell? ⟨b, q + 6, none⟩ = some (.string s.e.link)
  c7 : W.cell? ⟨b, q + 7, none⟩ = some (.string s.path)
  c8 : W.cell? ⟨b, q + 8, none⟩ = some (.int .i64 s.num)
theorem StpC.rnd {W W' : World} {b q : Nat} {s : Stp} {M M' : Nat → Prop} (h : StpC W b q s) (hr : Rnd M M' W W') (hn : ¬ M b) : StpC W' b q s := by
  have hl := World.block_lt_of_cell? W _ h.c0
  exact ⟨cell_kept hr hl hn h.c0, cell_kept hr hl hn h.c1, cell_kept hr hl hn h.c2, cell_kept hr hl hn h.c3, cell_kept hr hl hn h.c4, cell_kept hr hl hn h.c5, cell_kept hr hl hn h.c6, cell_kept hr hl hn h.c7, cell_kept hr hl hn h.c8⟩
theorem StpC.below {W W' : World} {b q : Nat} {s : Stp} (h : StpC W b q s) (hb : Below W.heap.size W W') : StpC W' b q s := h.rnd (M := fun _ => False) (M' := fun _ => False) (Rnd.of_below hb) (fun h => h)
/-- A list of steps. -/
def StepsAt (W : World) (v : Value) (ss : List Stp) : Prop :=
  ∃ (a : Option Addr) (cap b o : Nat), v = .slice a ss.length cap ∧ (ss ≠ [] → a = some ⟨b, o, none⟩) ∧ ss.length ≤ cap ∧ ∀ i s, ss[i]? = some s → StpC W b (o + i * 9) s
def stpA (s : Stp) : Array Value := #[.int .i64 s.act, .int .i64 s.who, .string s.e.path, .int .i64 s.e.kind, .int .i64 s.e.mode, .string s.e.data, .string s.e.link, .string s.path, .int .i64 s.num]
theorem stp_new (W : World) (t : TypeId) (s : Stp) : StpC (W.alloc (.cells #[.int .i64 s.act, .int .i64 s.who, .string s.e.path, .int .i64 s.e.kind, .int .i64 s.e.mode, .string s.e.data, .string s.e.link, .string s.path, .int .i64 s.num] t)) W.heap.size 0 s := by
  have h : ∀ (j : Nat) (v : Value), (#[.int .i64 s.act, .int .i64 s.who, .string s.e.path, .int .i64 s.e.kind, .int .i64 s.e.mode, .string s.e.data, .string s.e.link, .string s.path, .int .i64 s.num] : Array Value)[j]? = some v → (W.alloc (.cells #[.int .i64 s.act, .int .i64 s.who, .string s.e.path, .int .i64 s.e.kind, .int .i64 s.e.mode, .string s.e.data, .string s.e.link, .string s.path, .int .i64 s.num] t)).cell? ⟨W.heap.size, j, none⟩ = some v := fun j v hv => by
    unfold World.cell?
    rw [World.alloc_heap_new]
    exact hv
  exact ⟨h 0 _ rfl, h 1 _ rfl, h 2 _ rfl, h 3 _ rfl, h 4 _ rfl, h 5 _ rfl, h 6 _ rfl, h 7 _ rfl, h 8 _ rfl⟩
/-- What a step came to. -/
def Came (tb : Nat) (w : World) (Bs : Nat) (s : Stp) (was : Value) (L : List Ent) (s7 s8 : Value) (wx : World) : Prop :=
  ∃ (F' : Pic) (L' : List Ent), TreeOf wx tb w.heap.size F' L' ∧ FreeE wx was L (MineT tb F') ∧ Below w.heap.size w wx ∧ StpC wx Bs 0 s ∧ ¬ MineT tb F' Bs ∧
    ((L' = L ∧ s7 = .int .i64 0 ∧ ∃ n : Int, n ≠ 0 ∧ s8 = .iface 92 (.int .i64 n)) ∨
     ((s.act = 0 ∨ s.act = 5) ∧ L' = laidL L s.e ∧ wrongN s.e = 0 ∧ L.Pairwise ltE ∧ L.length ≤ 4096 ∧ s7 = .int .i64 0 ∧ s8 = .nilIface) ∨
     (s.act ≠ 0 ∧ s.act ≠ 5 ∧ L' = goneL L (namesP s.path) ∧ s.path.size ≠ 0 ∧ L'.length < L.length ∧ L.length ≤ 4096 ∧ (∃ F, Says F L) ∧ s7 = .int .i64 ((L.length : Int) - (L'.length : Int)) ∧ s8 = .nilIface))
set_option maxRecDepth 100000 in
set_option maxHeartbeats 16000000 in
theorem treestays_law (v : Value) (ss : List Stp) (w : World) (hg : ErrType w) (hv : StepsAt w v ss) (hl : ss.length ≤ 4611686018427387904) (hz : ∀ s ∈ ss, s.e.path.size < 1152921504606846976 ∧ s.path.size ≤ 9223372036854775807) :
    Calls Tryz.prog 6 #[v] w fun e w' => e = .returned (.bool true) ∧ Below w.heap.size w w' := by
  obtain ⟨a, cap, b, o, rfl, ha, hcap, hc⟩ := hv
  have HC : Hid (∀ i s, ss[i]? = some s → StpC w b (o + i * 9) s) := hc
  have HZ : Hid (∀ s ∈ ss, s.e.path.size < 1152921504606846976 ∧ s.path.size ≤ 9223372036854775807) := hz
  clear hc hz
  go_enter Tryz.func6, Tryz.ntmps6
  go_wp2_with fail
  refine (make_p w).mono ?_
  rintro e w1 ⟨tb, z, rfl, hz, hb1, hT1⟩
  have HT1 : Hid (TreeOf w1 tb w.heap.size (rootPic z) []) := ⟨by
    have hs := says_root hz
    exact ⟨hT1.from', hT1.root, hT1.tree.tight Tryz.underlying9 hs (by simp), hT1.kinds⟩, says_root hz, by simp, by simp, by simp [bytesL]⟩
  have HB1 : Hid (Below w.heap.size w w1) := hb1
  clear hb1 hT1 hz
  go_wp2_with fail
  refine (works_t w1 (hg.below HB1.out)).mono ?_
  rintro e w2 ⟨rfl, hb2⟩
  have HT2 : Hid (TreeOf w2 tb w.heap.size (rootPic z) []) := HT1.out.below hb2
  have HB2 : Hid (Below w.heap.size w w2) := below_join HB1.out hb2
  clear hb2 HT1 HB1
  go_wp2_with fail
  go_loopw [4, 5] (fun u0 i wr => ∃ (k : Nat) (F : Pic) (L : List Ent) (u : Value), i = .int .i64 k ∧ k ≤ ss.length ∧ u0 = u ∧ TreeOf wr tb w.heap.size F L ∧ FreeE wr u L (MineT tb F) ∧ Below w.heap.size w wr) (fun _ i _ => ss.length - (intOf i).toNat)
  case atStart => exact ⟨0, rootPic z, [], _, rfl, Nat.zero_le _, rfl, HT2.out, free_nil _ _, HB2.out⟩
  case round =>
    obtain ⟨k, F, L, u, rfl, hk, hu0, hT, hF, hB⟩ := hrel
    replace hu0 := hu0.symm
    subst hu0
    have HT : Hid (TreeOf wr tb w.heap.size F L) := hT
    have HF : Hid (FreeE wr u L (MineT tb F)) := hF
    have HB : Hid (Below w.heap.size w wr) := hB
    have hszr := hB.size
    clear hT hF hB
    by_cases hlt : k < ss.length
    · have hlt' : (k : Int) < (ss.length : Int) := by omega
      have hk0 : (0 : Int) ≤ (k : Int) := by omega
      obtain ⟨s, hs⟩ : ∃ s, ss[k]? = some s := ⟨_, List.getElem?_eq_getElem hlt⟩
      obtain rfl := ha (fun e => by rw [e] at hlt; simp at hlt)
      obtain ⟨c0, c1, c2, c3, c4, c5, c6, c7, c8⟩ := (HC.out k s hs).below HB.out
      obtain ⟨hz1, hz2⟩ := HZ.out s (List.mem_of_getElem? hs)
      have hbA : Below wr.heap.size wr (wr.alloc (.cells #[.int .i64 s.act, .int .i64 s.who, .string s.e.path, .int .i64 s.e.kind, .int .i64 s.e.mode, .string s.e.data, .string s.e.link, .string s.path, .int .i64 s.num] 54)) := (Below.refl _ _).alloc (Nat.le_refl _) _
      have HSA := stp_new wr 54 s
      have HNM : Hid (¬ MineT tb F wr.heap.size) := HT.out.not_mine (Nat.le_refl _)
      have HTA : Hid (TreeOf _ tb w.heap.size F L) := HT.out.below hbA
      have HFA : Hid (FreeE _ u L (MineT tb F)) := HF.out.below hbA
      have HBA : Hid (Below w.heap.size w _) := below_join HB.out hbA
      have HSA' : Hid (StpC _ wr.heap.size 0 s) := HSA
      have HLB : Hid (wr.heap.size < (wr.alloc (.cells #[.int .i64 s.act, .int .i64 s.who, .string s.e.path, .int .i64 s.e.kind, .int .i64 s.e.mode, .string s.e.data, .string s.e.link, .string s.path, .int .i64 s.num] 54)).heap.size) := by unfold Hid; simp
      clear hs ha hbA
      go_upto_block 2 with fail
      go_cut [7, 8] from 36 to 49 (fun s7 s8 wx => Came tb w wr.heap.size s u L s7 s8 wx)
      case first =>
        by_cases hd : s.act = 0 ∨ s.act = 5
        · have HACT : Hid (s.act = 0 ∨ s.act = 5) := hd
          by_cases hpa : putAll L s.e = 0
          · have HPE : Hid (errE (putAll L s.e) = .nilIface) := by unfold Hid; rw [hpa]; rfl
            have HWN : Hid (wrongN s.e = 0) := by
              unfold Hid
              by_cases hw : wrongN s.e = 0
              · exact hw
              · have : putAll L s.e = wrongN s.e := if_pos hw
                rw [this] at hpa; exact absurd hpa hw
            by_cases h0 : s.act = 0
            · have h0b : (s.act == 0) = true := by simpa using h0
              clear hd h0
              go_wp2_with (go_at_call 28; refine (put_p tb w.heap.size F L s.e hz1 _ HTA.out (HBA.out.size)).mono ?_; rintro e w4 ⟨rfl, hb4, hr4⟩; rw [HPE.out])
              go_meet
              obtain ⟨_, F4, hT4, hR4⟩ := hr4.resolve_left (fun h => h.1 hpa)
              exact ⟨F4, _, hT4, HFA.out.rnd hR4, HBA.out.trans hb4, HSA'.out.rnd hR4 HNM.out, fun hm => by
                rcases hR4.more _ hm with h1 | h1
                · exact HNM.out h1
                · exact absurd h1.1 (Nat.not_le_of_lt HLB.out), .inr (.inl ⟨HACT.out, rfl, HWN.out, HT.out.says.order, HT.out.few, rfl, rfl⟩)⟩
            · have h0b : (s.act == 0) = false := by simpa using h0
              have h5b : (s.act == 5) = true := by simpa using hd.resolve_left h0
              clear hd h0
              go_wp2_with (go_at_call 28; refine (put_p tb w.heap.size F L s.e hz1 _ HTA.out (HBA.out.size)).mono ?_; rintro e w4 ⟨rfl, hb4, hr4⟩; rw [HPE.out])
              go_meet
              obtain ⟨_, F4, hT4, hR4⟩ := hr4.resolve_left (fun h => h.1 hpa)
              exact ⟨F4, _, hT4, HFA.out.rnd hR4, HBA.out.trans hb4, HSA'.out.rnd hR4 HNM.out, fun hm => by
                rcases hR4.more _ hm with h1 | h1
                · exact HNM.out h1
                · exact absurd h1.1 (Nat.not_le_of_lt HLB.out), .inr (.inl ⟨HACT.out, rfl, HWN.out, HT.out.says.order, HT.out.few, rfl, rfl⟩)⟩
          · have HPE : Hid (errE (putAll L s.e) = .iface 92 (.int .i64 (putAll L s.e))) := errE_some hpa
            by_cases h0 : s.act = 0
            · have h0b : (s.act == 0) = true := by simpa using h0
              clear hd h0
              go_wp2_with (go_at_call 28; refine (put_p tb w.heap.size F L s.e hz1 _ HTA.out (HBA.out.size)).mono ?_; rintro e w4 ⟨rfl, hb4, hr4⟩; rw [HPE.out])
              go_meet
              obtain ⟨_, hb5⟩ := hr4.resolve_right (fun h => hpa h.1)
              exact ⟨F, L, HTA.out.below hb5, HFA.out.below hb5, below_join HBA.out hb5, HSA'.out.below hb5, HNM.out, .inl ⟨rfl, rfl, _, hpa, rfl⟩⟩
            · have h0b : (s.act == 0) = false := by simpa using h0
              have h5b : (s.act == 5) = true := by simpa using hd.resolve_left h0
              clear hd h0
              go_wp2_with (go_at_call 28; refine (put_p tb w.heap.size F L s.e hz1 _ HTA.out (HBA.out.size)).mono ?_; rintro e w4 ⟨rfl, hb4, hr4⟩; rw [HPE.out])
              go_meet
              obtain ⟨_, hb5⟩ := hr4.resolve_right (fun h => hpa h.1)
              exact ⟨F, L, HTA.out.below hb5, HFA.out.below hb5, below_join HBA.out hb5, HSA'.out.below hb5, HNM.out, .inl ⟨rfl, rfl, _, hpa, rfl⟩⟩
        · have h0b : (s.act == 0) = false := by
            cases hq : (s.act == 0) with
            | false => rfl
            | true => exact absurd (.inl (by simpa using hq)) hd
          have h5b : (s.act == 5) = false := by
            cases hq : (s.act == 5) with
            | false => rfl
            | true => exact absurd (.inr (by simpa using hq)) hd
          have HACT : Hid (s.act ≠ 0 ∧ s.act ≠ 5) := ⟨fun h => hd (.inl h), fun h => hd (.inr h)⟩
          clear hd
          by_cases hp0 : s.path.size = 0
          · go_wp2_with (go_at_call 29; refine (take_15 tb s.path hp0 _).mono ?_; rintro e w4 ⟨rfl, hb4⟩; rw [errE_some (show (15 : Int) ≠ 0 by decide)])
            go_meet
            exact ⟨F, L, HTA.out.below hb4, HFA.out.below hb4, below_join HBA.out hb4, HSA'.out.below hb4, HNM.out, .inl ⟨rfl, rfl, 15, by decide, rfl⟩⟩
          · rcases HT.out.says.at_text hp0 with ⟨hf1, hf2⟩ | ⟨x, hf1, hf2⟩
            · go_wp2_with (go_at_call 29; refine (take_10 tb w.heap.size F L s.path hz2 hp0 _ HTA.out hf2).mono ?_; rintro e w4 ⟨rfl, hb4⟩; rw [errE_some (show (10 : Int) ≠ 0 by decide)])
              go_meet
              exact ⟨F, L, HTA.out.below hb4, HFA.out.below hb4, below_join HBA.out hb4, HSA'.out.below hb4, HNM.out, .inl ⟨rfl, rfl, 10, by decide, rfl⟩⟩
            · have HPL : Hid (L.length = (goneL L (namesP s.path)).length + (1 + (underL L (namesP s.path)).length)) := (part_len HT.out.says (names_ne hp0) hf1).1
              have HX : Hid (F (namesP s.path) = some x) := hf1
              clear hf1 hf2
              go_wp2_with (go_at_call 29; refine (take_0 tb w.heap.size F L s.path hp0 _ HTA.out x HX.out).mono ?_; rintro e w4 ⟨rfl, hb4, F4, hT4, hR4⟩)
              go_meet
              exact ⟨F4, _, hT4, HFA.out.rnd hR4, HBA.out.trans hb4, HSA'.out.rnd hR4 HNM.out, fun hm => by
                rcases hR4.more _ hm with h1 | h1
                · exact HNM.out h1
                · exact absurd h1.1 (Nat.not_le_of_lt HLB.out), .inr (.inr ⟨HACT.out.1, HACT.out.2, rfl, hp0, by have := HPL.out; omega, HT.out.few, ⟨F, HT.out.says⟩, rfl, rfl⟩)⟩
      case rest =>
        obtain ⟨F', L', hT', hF', hB', hS', hN', hcase⟩ := hcut
        have HT4 : Hid (TreeOf wc tb w.heap.size F' L') := hT'
        have HF4 : Hid (FreeE wc u L (MineT tb F')) := hF'
        have HB4 : Hid (Below w.heap.size w wc) := hB'
        have HS4 : Hid (StpC wc wr.heap.size 0 s ∧ ¬ MineT tb F' wr.heap.size) := ⟨hS', hN'⟩
        have hfew := hT'.few
        have hlig := hT'.light
        have hszc := hB'.size
        clear hT' hF' hB' hS' hN' HTA HFA HBA HSA HSA' HNM HT HF HB c0 c1 c2 c3 c4 c5 c6 c7 c8
        go_wp2_with fail
        refine (list_p tb w.heap.size F' L' wc HT4.out).mono ?_
        rintro e w5 ⟨l5, rfl, hrow5, hb5⟩
        have HL5 : Hid (FreeE w5 l5 L' (MineT tb F')) := free_of_owns hrow5 (fun k hk => HT4.out.not_mine hk)
        have HT5 : Hid (TreeOf w5 tb w.heap.size F' L') := HT4.out.below hb5
        have HF5 : Hid (FreeE w5 u L (MineT tb F')) := HF4.out.below hb5
        have HB5 : Hid (Below w.heap.size w w5) := below_join HB4.out hb5
        have HS5 : Hid (StpC w5 wr.heap.size 0 s) := HS4.out.1.below hb5
        clear hrow5 hb5 HT4 HF4 HB4
        obtain ⟨a5, cap5, b5, o5, rfl, _⟩ := HL5.out
        go_wp2_with fail
        refine (size_p tb w.heap.size F' L' w5 HT5.out).mono ?_
        rintro e w6 ⟨rfl, hb6⟩
        have HL6 : Hid (FreeE w6 (.slice a5 L'.length cap5) L' (MineT tb F')) := HL5.out.below hb6
        have HT6 : Hid (TreeOf w6 tb w.heap.size F' L') := HT5.out.below hb6
        have HF6 : Hid (FreeE w6 u L (MineT tb F')) := HF5.out.below hb6
        have HB6 : Hid (Below w.heap.size w w6) := below_join HB5.out hb6
        have HS6 : Hid (StpC w6 wr.heap.size 0 s) := HS5.out.below hb6
        clear hb6 HL5 HT5 HF5 HB5 HS5
        go_wp2_with fail
        refine (check_t _ L' w6 (hg.below HB6.out) HL6.out.ents (by omega) (fun e he => by have := (check_facts (wrong_check (HT6.out.right e he))).2.1; omega)).mono ?_
        rintro e w7 ⟨rfl, hb7⟩
        rw [show chkV L' = .nilIface from if_pos HT6.out.check]
        have HL7 : Hid (FreeE w7 (.slice a5 L'.length cap5) L' (MineT tb F')) := HL6.out.below hb7
        have HT7 : Hid (TreeOf w7 tb w.heap.size F' L') := HT6.out.below hb7
        have HF7 : Hid (FreeE w7 u L (MineT tb F')) := HF6.out.below hb7
        have HB7 : Hid (Below w.heap.size w w7) := below_join HB6.out hb7
        have HS7 : Hid (StpC w7 wr.heap.size 0 s) := HS6.out.below hb7
        clear hb7 HL6 HT6 HF6 HB6 HS6
        go_wp2_with fail
        refine (bytes_p _ L' w7 HL7.out.ents hfew hlig).mono ?_
        rintro e w8 ⟨rfl, hw8⟩
        replace hw8 := hw8.symm
        subst hw8
        rcases hcase with ⟨rfl, rfl, n, hn, rfl⟩ | ⟨hact, rfl, hwn, hord, hl4, rfl, rfl⟩ | ⟨hact0, hact5, rfl, hps, hll, hl4, ⟨F0, hsay⟩, rfl, rfl⟩
        · go_wp2_with fail
          refine (same_p _ _ L' w7 HL7.out.ents HF7.out.ents (by omega)).mono ?_
          rintro e w9 ⟨rfl, hb9⟩
          go_wp2
          go_roundw
          case rel => exact ⟨k + 1, F', L', u, by go_num, by omega, rfl, HT7.out.below hb9, HF7.out.below hb9, below_join HB7.out hb9⟩
          case measure => simp [intOf]; omega
        · have HACT : Hid (s.act = 0 ∨ s.act = 5) := hact
          have HGET : Hid (getE (laidL L s.e) s.e.path = some s.e) := by
            unfold Hid getE
            rw [if_neg (check_facts (wrong_check hwn)).1]; exact find_laid
          have HORD : Hid (L.Pairwise ltE) := hord
          have e0 := HS7.out.c0
          have e2 := HS7.out.c2
          clear hact hord
          by_cases h0 : s.act = 0
          · have h0b : (s.act == 0) = true := by simpa using h0
            clear h0
            go_wp2_with fail
            refine (get_p tb w.heap.size F' (laidL L s.e) s.e.path (by omega) w7 HT7.out).mono ?_
            rintro e w8 ⟨rfl, hb8⟩
            rw [HGET.out]
            simp only [getV]
            have hb9 : Below w7.heap.size w7 (w8.alloc (.cells #[.string s.e.path, .int .i64 s.e.kind, .int .i64 s.e.mode, .string s.e.data, .string s.e.link] 52)) := below_by hb8 ((Below.refl _ w8).alloc (Nat.le_refl _) _) (Nat.le_refl _)
            have HQ := ent_new w8 52 s.e
            go_upto_region 25 with fail
            have HL9 := HL7.out.below hb9
            have HF9 := HF7.out.below hb9
            have HT9 : Hid (TreeOf _ tb w.heap.size F' (laidL L s.e)) := HT7.out.below hb9
            have HB9 : Hid (Below w.heap.size w _) := below_join HB7.out hb9
            have HS9 := HS7.out.below hb9
            clear hb8 hb9 e0 e2
            generalize w8.alloc (.cells #[.string s.e.path, .int .i64 s.e.kind, .int .i64 s.e.mode, .string s.e.data, .string s.e.link] 52) = V at *
            have HALL : Hid (∀ W, Below V.heap.size V W → W.cell? ⟨w8.heap.size, 0, none⟩ = some (.string s.e.path) ∧ W.cell? ⟨w8.heap.size, 1, none⟩ = some (.int .i64 s.e.kind) ∧ W.cell? ⟨w8.heap.size, 2, none⟩ = some (.int .i64 s.e.mode) ∧ W.cell? ⟨w8.heap.size, 3, none⟩ = some (.string s.e.data) ∧ W.cell? ⟨w8.heap.size, 4, none⟩ = some (.string s.e.link) ∧ W.cell? ⟨wr.heap.size, 2, none⟩ = some (.string s.e.path) ∧ W.cell? ⟨wr.heap.size, 3, none⟩ = some (.int .i64 s.e.kind) ∧ W.cell? ⟨wr.heap.size, 4, none⟩ = some (.int .i64 s.e.mode) ∧ W.cell? ⟨wr.heap.size, 5, none⟩ = some (.string s.e.data) ∧ W.cell? ⟨wr.heap.size, 6, none⟩ = some (.string s.e.link) ∧ Below V.heap.size V W) := fun W hb => by
              obtain ⟨q0, q1, q2, q3, q4⟩ := HQ.below hb
              have hs := HS9.below hb
              exact ⟨q0, q1, q2, q3, q4, hs.c2, hs.c3, hs.c4, hs.c5, hs.c6, hb⟩
            have hb0 : Below V.heap.size V V.drew := ⟨rfl, rfl, rfl, Nat.le_refl _, fun _ _ => rfl⟩
            have HS0 := HALL.out V.drew hb0
            have heq := fun W => eq_self s.e W
            have hBA := fun W (hb : Below V.heap.size V W) => but_p (.slice a5 (laidL L s.e).length cap5) (laidL L s.e) s.e.path W (HL9.ents.below hb) (by omega)
            have hBB := fun W (hb : Below V.heap.size V W) => but_p u L s.e.path W (HF9.ents.below hb) (by omega)
            have HLF : Hid ((L.filter (notP s.e.path)).length ≤ 1073741824) := Nat.le_trans (List.length_filter_le _ _) (by omega)
            have HBL : Hid ((laidL L s.e).filter (notP s.e.path) = L.filter (notP s.e.path)) := but_laid HORD.out s.e
            clear HQ HS9
            go_region_held3 (fun W => W.cell? ⟨w8.heap.size, 0, none⟩ = some (.string s.e.path) ∧ W.cell? ⟨w8.heap.size, 1, none⟩ = some (.int .i64 s.e.kind) ∧ W.cell? ⟨w8.heap.size, 2, none⟩ = some (.int .i64 s.e.mode) ∧ W.cell? ⟨w8.heap.size, 3, none⟩ = some (.string s.e.data) ∧ W.cell? ⟨w8.heap.size, 4, none⟩ = some (.string s.e.link) ∧ W.cell? ⟨wr.heap.size, 2, none⟩ = some (.string s.e.path) ∧ W.cell? ⟨wr.heap.size, 3, none⟩ = some (.int .i64 s.e.kind) ∧ W.cell? ⟨wr.heap.size, 4, none⟩ = some (.int .i64 s.e.mode) ∧ W.cell? ⟨wr.heap.size, 5, none⟩ = some (.string s.e.data) ∧ W.cell? ⟨wr.heap.size, 6, none⟩ = some (.string s.e.link) ∧ Below V.heap.size V W)
              (first | exact HS0 | exact HALL.out _ (below_join hb0 bA) | exact HALL.out _ (below_join (below_join hb0 bA) bB) | exact HALL.out _ (below_join (below_join (below_join hb0 bA) bB) bC))
              (first
                | (go_at_call 32; with_reducible refine (hBA _ hb0).mono ?_; rintro e wA ⟨uA, rfl, rA, bA⟩; rw [HBL.out] at rA)
                | (go_at_call 32; with_reducible refine (hBB _ (below_join hb0 bA)).mono ?_; rintro e wB ⟨uB, rfl, rB, bB⟩)
                | (go_at_call 18; with_reducible refine (same_p uA uB (L.filter (notP s.e.path)) _ ((ents_of_owns rA).below bB) (ents_of_owns rB) HLF.out).mono ?_; rintro e wC ⟨rfl, bC⟩))
            go_wp2
            go_roundw
            case rel => exact ⟨k + 1, F', laidL L s.e, _, by go_num, by omega, rfl, HT9.out.below (below_join (below_join (below_join hb0 bA) bB) bC), HL9.below (below_join (below_join (below_join hb0 bA) bB) bC), below_join HB9.out (below_join (below_join (below_join hb0 bA) bB) bC)⟩
            case measure => simp [intOf]; omega
          · have h0b : (s.act == 0) = false := by simpa using h0
            have h5b : (s.act == 5) = true := by simpa using HACT.out.resolve_left h0
            clear h0
            go_wp2_with fail
            refine (get_p tb w.heap.size F' (laidL L s.e) s.e.path (by omega) w7 HT7.out).mono ?_
            rintro e w8 ⟨rfl, hb8⟩
            rw [HGET.out]
            simp only [getV]
            have hb9 : Below w7.heap.size w7 (w8.alloc (.cells #[.string s.e.path, .int .i64 s.e.kind, .int .i64 s.e.mode, .string s.e.data, .string s.e.link] 52)) := below_by hb8 ((Below.refl _ w8).alloc (Nat.le_refl _) _) (Nat.le_refl _)
            have HQ := ent_new w8 52 s.e
            go_upto_region 25 with fail
            have HL9 := HL7.out.below hb9
            have HF9 := HF7.out.below hb9
            have HT9 : Hid (TreeOf _ tb w.heap.size F' (laidL L s.e)) := HT7.out.below hb9
            have HB9 : Hid (Below w.heap.size w _) := below_join HB7.out hb9
            have HS9 := HS7.out.below hb9
            clear hb8 hb9 e0 e2
            generalize w8.alloc (.cells #[.string s.e.path, .int .i64 s.e.kind, .int .i64 s.e.mode, .string s.e.data, .string s.e.link] 52) = V at *
            have HALL : Hid (∀ W, Below V.heap.size V W → W.cell? ⟨w8.heap.size, 0, none⟩ = some (.string s.e.path) ∧ W.cell? ⟨w8.heap.size, 1, none⟩ = some (.int .i64 s.e.kind) ∧ W.cell? ⟨w8.heap.size, 2, none⟩ = some (.int .i64 s.e.mode) ∧ W.cell? ⟨w8.heap.size, 3, none⟩ = some (.string s.e.data) ∧ W.cell? ⟨w8.heap.size, 4, none⟩ = some (.string s.e.link) ∧ W.cell? ⟨wr.heap.size, 2, none⟩ = some (.string s.e.path) ∧ W.cell? ⟨wr.heap.size, 3, none⟩ = some (.int .i64 s.e.kind) ∧ W.cell? ⟨wr.heap.size, 4, none⟩ = some (.int .i64 s.e.mode) ∧ W.cell? ⟨wr.heap.size, 5, none⟩ = some (.string s.e.data) ∧ W.cell? ⟨wr.heap.size, 6, none⟩ = some (.string s.e.link) ∧ Below V.heap.size V W) := fun W hb => by
              obtain ⟨q0, q1, q2, q3, q4⟩ := HQ.below hb
              have hs := HS9.below hb
              exact ⟨q0, q1, q2, q3, q4, hs.c2, hs.c3, hs.c4, hs.c5, hs.c6, hb⟩
            have hb0 : Below V.heap.size V V.drew := ⟨rfl, rfl, rfl, Nat.le_refl _, fun _ _ => rfl⟩
            have HS0 := HALL.out V.drew hb0
            have heq := fun W => eq_self s.e W
            have hBA := fun W (hb : Below V.heap.size V W) => but_p (.slice a5 (laidL L s.e).length cap5) (laidL L s.e) s.e.path W (HL9.ents.below hb) (by omega)
            have hBB := fun W (hb : Below V.heap.size V W) => but_p u L s.e.path W (HF9.ents.below hb) (by omega)
            have HLF : Hid ((L.filter (notP s.e.path)).length ≤ 1073741824) := Nat.le_trans (List.length_filter_le _ _) (by omega)
            have HBL : Hid ((laidL L s.e).filter (notP s.e.path) = L.filter (notP s.e.path)) := but_laid HORD.out s.e
            clear HQ HS9
            go_region_held3 (fun W => W.cell? ⟨w8.heap.size, 0, none⟩ = some (.string s.e.path) ∧ W.cell? ⟨w8.heap.size, 1, none⟩ = some (.int .i64 s.e.kind) ∧ W.cell? ⟨w8.heap.size, 2, none⟩ = some (.int .i64 s.e.mode) ∧ W.cell? ⟨w8.heap.size, 3, none⟩ = some (.string s.e.data) ∧ W.cell? ⟨w8.heap.size, 4, none⟩ = some (.string s.e.link) ∧ W.cell? ⟨wr.heap.size, 2, none⟩ = some (.string s.e.path) ∧ W.cell? ⟨wr.heap.size, 3, none⟩ = some (.int .i64 s.e.kind) ∧ W.cell? ⟨wr.heap.size, 4, none⟩ = some (.int .i64 s.e.mode) ∧ W.cell? ⟨wr.heap.size, 5, none⟩ = some (.string s.e.data) ∧ W.cell? ⟨wr.heap.size, 6, none⟩ = some (.string s.e.link) ∧ Below V.heap.size V W)
              (first | exact HS0 | exact HALL.out _ (below_join hb0 bA) | exact HALL.out _ (below_join (below_join hb0 bA) bB) | exact HALL.out _ (below_join (below_join (below_join hb0 bA) bB) bC))
              (first
                | (go_at_call 32; with_reducible refine (hBA _ hb0).mono ?_; rintro e wA ⟨uA, rfl, rA, bA⟩; rw [HBL.out] at rA)
                | (go_at_call 32; with_reducible refine (hBB _ (below_join hb0 bA)).mono ?_; rintro e wB ⟨uB, rfl, rB, bB⟩)
                | (go_at_call 18; with_reducible refine (same_p uA uB (L.filter (notP s.e.path)) _ ((ents_of_owns rA).below bB) (ents_of_owns rB) HLF.out).mono ?_; rintro e wC ⟨rfl, bC⟩))
            go_wp2
            go_roundw
            case rel => exact ⟨k + 1, F', laidL L s.e, _, by go_num, by omega, rfl, HT9.out.below (below_join (below_join (below_join hb0 bA) bB) bC), HL9.below (below_join (below_join (below_join hb0 bA) bB) bC), below_join HB9.out (below_join (below_join (below_join hb0 bA) bB) bC)⟩
            case measure => simp [intOf]; omega
        · have h0b : (s.act == 0) = false := by simpa using hact0
          have h5b : (s.act == 5) = false := by simpa using hact5
          have e0 := HS7.out.c0
          have e7 := HS7.out.c7
          have HKG : Hid (L.filter (keptB s.path) = goneL L (namesP s.path)) := kept_gone hsay hps
          clear hact0 hact5
          go_wp2_with fail
          refine (kept_p u L s.path w7 HF7.out.ents (by omega)).mono ?_
          rintro e w9 ⟨k9, rfl, hrow9, hb9⟩
          rw [HKG.out] at hrow9
          have HK9 : Hid (FreeE w9 k9 (goneL L (namesP s.path)) (MineT tb F')) := free_of_owns hrow9 (fun k hk => HT7.out.not_mine hk)
          have HL9 : Hid (FreeE w9 (.slice a5 (goneL L (namesP s.path)).length cap5) (goneL L (namesP s.path)) (MineT tb F')) := HL7.out.below hb9
          have HF9 := HF7.out.below hb9
          have HT9 := HT7.out.below hb9
          have HB9 := below_join HB7.out hb9
          clear hrow9 hb9 e0 e7
          obtain ⟨a9, cap9, b9, o9, rfl, _⟩ := HK9.out
          obtain ⟨au, capu, bu, ou, rfl, _⟩ := HF9
          go_wp2_with fail
          refine (same_p _ _ (goneL L (namesP s.path)) w9 HL9.out.ents HK9.out.ents (by omega)).mono ?_
          rintro e w10 ⟨rfl, hb10⟩
          have hwr : wrap64 ((L.length : Int) - ((goneL L (namesP s.path)).length : Int)) = (L.length : Int) - ((goneL L (namesP s.path)).length : Int) := wrap_small (by omega) (by omega)
          have hl1 : decide ((L.length : Int) - ((goneL L (namesP s.path)).length : Int) < 1) = false := by simp; omega
          go_wp2
          go_roundw
          case rel => exact ⟨k + 1, F', goneL L (namesP s.path), _, by go_num, by omega, rfl, HT9.below hb10, HL9.out.below hb10, below_join HB9 hb10⟩
          case measure => simp [intOf]; omega
    · have hge : ¬ (k : Int) < (ss.length : Int) := by omega
      have hfew := HT.out.few
      go_wp2_with fail
      refine (of_t u L wr (hg.below HB.out) HF.out.ents (by omega) (fun e he => by have := (check_facts (wrong_check (HT.out.right e he))).2.1; omega) HT.out.check).mono ?_
      rintro e w3 ⟨hb3, tb3, F3, rfl, hT3⟩
      have HB3 := below_join HB.out hb3
      have HF3 := HF.out.below hb3
      go_wp2_with fail
      refine (list_p tb3 wr.heap.size F3 L w3 hT3).mono ?_
      rintro e w4 ⟨l4, rfl, hrow4, hb4⟩
      have HB4 := below_join HB3 hb4
      have HF4 := HF3.below hb4
      go_wp2_with fail
      refine (same_p l4 u L w4 (ents_of_owns hrow4) HF4.ents (by omega)).mono ?_
      rintro e w5 ⟨rfl, hb5⟩
      go_wp2
      go_ret
      exact ⟨rfl, below_join HB4 hb5⟩
end Go.Proofs.YtfglanibbngdmaaGreatDoor
