/- (*node).hand: it hands on all that lies below a node, in order. -/
import Derived.Test.YtcefgnjgcnboeaaGreatDoorKeyW
import Derived.Test.YtcefgnjgcnboeaaGreatDoorEvery
namespace Go.Proofs.YtcefgnjgcnboeaaGreatDoor
open Go Go.RowKit Go.Shelf
attribute [local go_sem] Oper.semAt_some

theorem TreeW.belowN {W W' : World} {P : Program} {k T : TypeId} {base N : Nat} {F : Pic} (h : TreeW W P k T base N F) {n₀ : Nat} (hIn : ∀ ns x, F ns = some x → x.b < n₀ ∧ ∀ m, x.m = some m → m < n₀) (hb : Below n₀ W W') : TreeW W' P k T base N F :=
  ⟨fun ns x hx => ⟨(h.node ns x hx).1, (hb.block _ (hIn ns x hx).1).trans (h.node ns x hx).2⟩, fun ns x m hx hm => ⟨(h.kids ns x m hx hm).1, (h.kids ns x m hx hm).2.below hb ((hIn ns x hx).2 m hm)⟩, h.leaf, h.gone, h.apart⟩

/-- What hand owes at some names. -/
def HandAt (base N n₀ : Nat) (F : Pic) (L : List Ent) (ns : List (List UInt8)) (nd : Nd) : Prop :=
  ∀ (n l : Nat) (xs : List Ent) (J : List Ent → (Nat → Prop) → World → Prop) (pre : List Ent) (S : Nat → Prop) (W : World), TreeW W Tryz.prog 9 130 base N F → n₀ ≤ W.heap.size → (∀ k, S k → n₀ ≤ k) → LocalE J → RoundE Tryz.prog l xs J → J pre S W → pre ++ underL L ns <+: xs →
    CallsIn Fence.wide n Tryz.prog 45 #[.pointer (some ⟨nd.b, 0, none⟩), .func (.yield l) #[] #[]] W fun e W2 => e = .returned (.bool true) ∧ ∃ S2, J (pre ++ underL L ns) S2 W2 ∧ Rnd S S2 W W2

/-- Where the names lie. -/
theorem row_names {W : World} {b0 : Nat} {v : Value} {ys : List (List UInt8)} (h : W.ownsRow b0 9 1 v ys.length (ys.map encStr)) :
    ∃ (a : Option Addr) (cap g : Nat), v = .slice a ys.length cap ∧ (ys ≠ [] → a = some ⟨g, 0, none⟩) ∧ (ys ≠ [] → b0 ≤ g ∧ g < W.heap.size) ∧ ∀ i y, ys[i]? = some y → W.cell? ⟨g, i, none⟩ = some (.string (bs y)) := by
  rcases h.2 with ⟨rfl, h0⟩ | ⟨g, cap, cur, rfl, hg, hgb, hcap, _⟩
  · have : ys = [] := List.eq_nil_of_length_eq_zero h0
    subst this
    exact ⟨none, 0, 0, rfl, fun h => absurd rfl h, fun h => absurd rfl h, fun i y hy => by simp at hy⟩
  · refine ⟨some ⟨g, 0, none⟩, cap, g, rfl, fun _ => rfl, fun _ => ⟨hg, (Array.getElem?_eq_some_iff.1 hgb).1⟩, fun i y hy => ?_⟩
    have hi := (List.getElem?_eq_some_iff.1 hy).1
    have := h.cellAt i (by omega)
    rw [this, List.getElem?_map, hy]; rfl
set_option maxRecDepth 100000 in
set_option maxHeartbeats 4000000 in
theorem hand_step (base N n₀ : Nat) (F : Pic) (L : List Ent) (hSay : Says F L) (hN : N ≤ 1073741824) (hIn : ∀ ns x, F ns = some x → x.b < n₀ ∧ ∀ m, x.m = some m → m < n₀) (ns : List (List UInt8)) (nd : Nd) (hnd : F ns = some nd)
    (IH : ∀ y x, F (ns ++ [y]) = some x → HandAt base N n₀ F L (ns ++ [y]) x) : HandAt base N n₀ F L ns nd := by
  intro n l xs J pre S W hT hn₀ hS hJ hR hj hxs
  have hnS := hJ.there _ _ _ hj
  have hc5 : W.cell? ⟨nd.b, 5, none⟩ = some (.map nd.m) := node_cell (hT.node ns nd hnd).2 rfl
  have HT : Hid (TreeW W Tryz.prog 9 130 base N F) := hT
  have HS : Hid ((∀ k, S k → n₀ ≤ k) ∧ (∀ k, S k → k < W.heap.size)) := ⟨hS, hnS⟩
  have HX : Hid (pre ++ underL L ns <+: xs) := hxs
  have HK : Hid (∀ m, nd.m = some m → KidsAt W Tryz.prog 9 m N (kidsOf F ns)) := fun m hm => (hT.kids ns nd m hnd hm).2
  have HK0 : Hid (nd.m = none → ∀ y, kidsOf F ns y = none) := fun h0 y => by simp [kidsOf, hT.leaf ns nd y hnd h0]
  have HJ0 : Hid (J pre S W) := hj
  have hbA : Below W.heap.size W (W.alloc (.cells #[.map nd.m] 128)) := (Below.refl _ _).alloc (Nat.le_refl _) _
  clear hT hS hnS hxs hj
  refine callsIn_of_wp Tryz.func45 rfl trivial ?_ rfl
  simp only [Tryz.ntmps45, List.size_toArray, List.length_cons, List.length_nil, Nat.reduceAdd, Nat.reduceSub, Array.replicate_succ, Array.replicate_zero, List.push_toArray, List.append_toArray, List.nil_append, List.cons_append]
  gi_wp2_with (first
    | (refine ⟨trivial, wd _, ?_⟩; gi_at_call 66; refine (keys_c _ nd.m W).mono ?_; rintro e w' ⟨rfl, rfl⟩)
    | (refine ⟨trivial, wd _, ?_⟩; gi_at_call 65; refine (sorted_c _ nd.m N (kidsOf F ns) W HK.out HK0.out hN).mono ?_; rintro e W0 ⟨v, ys, rfl, hys, hrow, hyl, hb0⟩; obtain ⟨a, cap, g, rfl, ha, hg, hcell⟩ := row_names hrow))
  have HB0 : Hid (Below W.heap.size W W0) := hbA.trans (hb0.mono (by simp))
  have hsz0 := HB0.out.size
  have HG : Hid (ys ≠ [] → W.heap.size < g ∧ g < W0.heap.size) := fun h => ⟨by have := (hg h).1; simp at this; omega, (hg h).2⟩
  have HC : Hid (∀ i y, ys[i]? = some y → W0.cell? ⟨g, i, none⟩ = some (.string (bs y))) := hcell
  have HF : Hid (underL L ns = ys.flatMap fun y => entAt F (ns ++ [y]) :: underL L (ns ++ [y])) := hSay.flat ns ys hys.1 (fun y => by rw [hys.2.1 y]; simp [kidsOf])
  have HY : Hid (∀ y ∈ ys, (∃ x, F (ns ++ [y]) = some x) ∧ y.length ≤ maxLen) := fun y hy => ⟨by
    have h1 := (hys.2.1 y).1 hy
    cases hx : F (ns ++ [y]) with
    | none => simp [kidsOf, hx] at h1
    | some x => exact ⟨x, rfl⟩, hys.2.2 y hy⟩
  have HND : Hid (F ns = some nd) := hnd
  have HIN : Hid (∀ ns x, F ns = some x → x.b < n₀ ∧ ∀ m, x.m = some m → m < n₀) := hIn
  have HIH : Hid (∀ y x, F (ns ++ [y]) = some x → HandAt base N n₀ F L (ns ++ [y]) x) := IH
  have HJ : Hid (LocalE J) := hJ
  have HR : Hid (RoundE Tryz.prog l xs J) := hR
  clear hg hcell hys hrow hb0 hbA hSay hnd hIn IH hJ hR hc5 HK HK0
  gi_loopw [15] (fun i wr => ∃ (k : Nat) (S1 : Nat → Prop), i = .int .i64 k ∧ k ≤ ys.length ∧ J (pre ++ (ys.take k).flatMap fun y => entAt F (ns ++ [y]) :: underL L (ns ++ [y])) S1 wr ∧ Rnd S S1 W0 wr) (fun i _ => ys.length - (intOf i).toNat)
  case atStart => exact ⟨0, S, rfl, Nat.zero_le _, by simpa using HJ.out.below HJ0.out HB0.out, Rnd.refl _ _⟩
  case round =>
    obtain ⟨k, S1, rfl, hk, hj1, hr1⟩ := hrel
    have HJ1 : Hid (J (pre ++ (ys.take k).flatMap fun y => entAt F (ns ++ [y]) :: underL L (ns ++ [y])) S1 wr) := hj1
    have HR1 : Hid (Rnd S S1 W0 wr) := hr1
    have hszr := hr1.size
    clear hj1 hr1
    by_cases hlt : k < ys.length
    · have hlt' : (k : Int) < (ys.length : Int) := by omega
      have hk0 : (0 : Int) ≤ (k : Int) := by omega
      obtain ⟨y, hy⟩ : ∃ y, ys[k]? = some y := ⟨_, List.getElem?_eq_getElem hlt⟩
      have hyn : ys ≠ [] := fun e => by rw [e] at hlt; simp at hlt
      obtain rfl := ha hyn
      have hym : y ∈ ys := List.mem_of_getElem? hy
      obtain ⟨⟨x, hx⟩, hyl2⟩ := HY.out y hym
      have hgS : ¬ S1 g := fun h => by
        have hgg := HG.out hyn
        rcases HR1.out.more g h with h1 | h1
        · have := HS.out.2 g h1; omega
        · omega
      have hcg : wr.cell? ⟨g, k, none⟩ = some (.string (bs y)) := by
        have hgg := HG.out hyn
        have hb := HR1.out.same g hgg.2 (fun h => by have := HS.out.2 g h; omega)
        have := HC.out k y hy
        unfold World.cell? at this ⊢
        simp only [hb]; exact this
      have hTr : TreeW wr Tryz.prog 9 130 base N F := (HT.out.belowN HIN.out (HB0.out.mono hn₀)).belowN HIN.out (HR1.out.below (by omega) HS.out.1)
      have hcn : wr.cell? ⟨nd.b, 5, none⟩ = some (.map nd.m) := node_cell (hTr.node ns nd HND.out).2 rfl
      have hlook : (Instr.lookup 128 (.map nd.m) (.string (bs y)) false).run Tryz.prog wr = .ok (.pointer (some ⟨x.b, 0, none⟩)) wr := by
        have := hTr.look (t := 128) Tryz.underlying9 Tryz.underlying128 rfl HND.out (s := bs y) (by rw [← un_length, un_bs]; exact hyl2)
        rw [this]
        show Result.ok (toPtr ((F (ns ++ [un (bs y)])).map Nd.b)) _ = _
        rw [un_bs, hx]; rfl
      have e0 : wr.cell? ⟨x.b, 0, none⟩ = some (.string x.e.path) := node_cell (hTr.node _ x hx).2 rfl
      have e1 : wr.cell? ⟨x.b, 1, none⟩ = some (.int .i64 x.e.kind) := node_cell (hTr.node _ x hx).2 rfl
      have e2 : wr.cell? ⟨x.b, 2, none⟩ = some (.int .i64 x.e.mode) := node_cell (hTr.node _ x hx).2 rfl
      have e3 : wr.cell? ⟨x.b, 3, none⟩ = some (.string x.e.data) := node_cell (hTr.node _ x hx).2 rfl
      have e4 : wr.cell? ⟨x.b, 4, none⟩ = some (.string x.e.link) := node_cell (hTr.node _ x hx).2 rfl
      have HXE : Hid (entAt F (ns ++ [y]) = x.e ∧ F (ns ++ [y]) = some x) := ⟨by simp [entAt, hx], hx⟩
      have HTK : Hid (ys.take (k + 1) = ys.take k ++ [y]) := by unfold Hid; rw [List.take_add_one, hy]; rfl
      have HPX : Hid ((pre ++ (ys.take k).flatMap fun y => entAt F (ns ++ [y]) :: underL L (ns ++ [y])) ++ x.e :: underL L (ns ++ [y]) <+: xs) := by
        refine List.IsPrefix.trans ?_ HX.out
        rw [HF.out]
        have : ys = ys.take k ++ y :: ys.drop (k + 1) := by
          have h1 := List.take_append_drop k ys
          rw [List.drop_eq_getElem_cons hlt] at h1
          rw [List.getElem?_eq_getElem hlt] at hy
          rw [Option.some.inj hy] at h1
          exact h1.symm
        refine ⟨(ys.drop (k + 1)).flatMap fun y => entAt F (ns ++ [y]) :: underL L (ns ++ [y]), ?_⟩
        conv => rhs; rw [this]
        simp [HXE.out.1]
      have HTR : Hid (TreeW wr Tryz.prog 9 130 base N F) := hTr
      have hfrom : Hid (∀ k, S1 k → n₀ ≤ k) := HR1.out.from' (by omega) HS.out.1
      obtain ⟨fn, tmps, assign, body, hyi, hRd⟩ := HR.out (n - 1) _ x.e S1 wr HJ1.out (List.IsPrefix.trans ⟨underL L (ns ++ [y]), by simp⟩ HPX.out)
      unfold entV at hyi
      clear hy hx hym hgS hTr ha
      gi_wp2
      refine ⟨wd _, hRd.mono ?_⟩
      rintro e W3 ⟨rfl, S3, hj3, hr3⟩
      have HJ3 : Hid (J ((pre ++ (ys.take k).flatMap fun y => entAt F (ns ++ [y]) :: underL L (ns ++ [y])) ++ [x.e]) S3 W3) := hj3
      have HR3 : Hid (Rnd S1 S3 wr W3) := hr3
      have hsz3 := hr3.size
      clear hj3 hr3
      have HT3 : Hid (TreeW W3 Tryz.prog 9 130 base N F) := HTR.out.belowN HIN.out (HR3.out.below (by omega) hfrom.out)
      have hrec := fun m => HIH.out y x HXE.out.2 m l xs J _ S3 W3 HT3.out (by omega) (HR3.out.from' (by omega) hfrom.out) HJ.out HR.out HJ3.out (by simpa using HPX.out)
      gi_wp2_with (refine ⟨trivial, wd _, ?_⟩; gi_at_call 45; refine (hrec _).mono ?_; rintro e W4 ⟨rfl, S4, hj4, hr4⟩)
      go_roundw
      case rel =>
        refine ⟨k + 1, S4, by go_num, by omega, ?_, (HR1.out.trans HR3.out).trans hr4⟩
        rw [HTK.out]
        simpa [HXE.out.1] using hj4
      case measure => simp [intOf]; omega
    · have hge : ¬ (k : Int) < (ys.length : Int) := by omega
      have HALL : Hid (ys.take k = ys) := List.take_of_length_le (by omega)
      gi_wp2
      go_ret
      refine ⟨rfl, S1, ?_, ?_⟩
      · rw [HF.out]; have := HJ1.out; rw [HALL.out] at this; exact this
      · exact (Rnd.of_below HB0.out).trans HR1.out
theorem hand_p (base N n₀ : Nat) (F : Pic) (L : List Ent) (hSay : Says F L) (hN : N ≤ 1073741824) (hIn : ∀ ns x, F ns = some x → x.b < n₀ ∧ ∀ m, x.m = some m → m < n₀) (ns : List (List UInt8)) (nd : Nd) (hnd : F ns = some nd) : HandAt base N n₀ F L ns nd := by
  have hD : ∃ D, ∀ ns x, F ns = some x → ns.length ≤ D := by
    have : ∃ D, ∀ e ∈ L, (namesP e.path).length ≤ D := by
      clear hSay
      induction L with
      | nil => exact ⟨0, by simp⟩
      | cons a L ih =>
        obtain ⟨D, hD⟩ := ih
        refine ⟨D + (namesP a.path).length, fun e he => ?_⟩
        rcases List.mem_cons.1 he with rfl | he
        · omega
        · have := hD e he; omega
    obtain ⟨D, hD⟩ := this
    refine ⟨D, fun ns x hx => ?_⟩
    by_cases h0 : ns = []
    · subst h0; simp
    · obtain ⟨h1, h2⟩ := hSay.of' ns x h0 hx
      rw [← h2]; exact hD _ h1
  obtain ⟨D, hD⟩ := hD
  have main : ∀ d ns nd, F ns = some nd → D ≤ ns.length + d → HandAt base N n₀ F L ns nd := by
    intro d
    induction d with
    | zero =>
      intro ns nd hnd hd
      refine hand_step base N n₀ F L hSay hN hIn ns nd hnd (fun y x hx => ?_)
      have := hD _ x hx
      simp at this; omega
    | succ d ih =>
      intro ns nd hnd hd
      exact hand_step base N n₀ F L hSay hN hIn ns nd hnd (fun y x hx => ih _ x hx (by simp; omega))
  exact main D ns nd hnd (by omega)
end Go.Proofs.YtcefgnjgcnboeaaGreatDoor
