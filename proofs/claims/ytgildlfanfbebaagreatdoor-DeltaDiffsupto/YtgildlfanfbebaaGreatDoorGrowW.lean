/- tree.outOfOrder, placed, grow, Check, Of. -/
import Derived.Test.YtgildlfanfbebaaGreatDoorGrowM
import Derived.Test.YtgildlfanfbebaaGreatDoorPlain
import Derived.Test.YtgildlfanfbebaaGreatDoorAsE
import Derived.Test.YtgildlfanfbebaaGreatDoorBaseO
namespace Go.Proofs.YtgildlfanfbebaaGreatDoor
open Go Go.RowKit

set_option maxRecDepth 100000 in
theorem oo_p (a b : ByteArray) (w : World) (ha : a.size ≤ 9223372036854775807) (hb : b.size ≤ 9223372036854775807) :
    Calls Tryz.prog 86 #[.string a, .string b] w fun e w' => e = .returned (errE (ooN a b)) ∧ Below w.heap.size w w' := by
  have hr := order_range a b
  by_cases h1 : compareN a b = 0
  · have HR : Hid (compareN a b = 0) := h1
    clear h1 hr
    go_enter Tryz.func86, Tryz.ntmps86
    go_wp2_with (go_at_call 26; refine (compare_p a b _ ha hb).mono ?_; rintro e w1 ⟨rfl, hB⟩; rw [HR.out])
    go_ret
    exact ⟨by unfold ooN; rw [if_pos HR.out]; rfl, hB⟩
  · by_cases h2 : 0 < compareN a b
    · have HR : Hid (compareN a b = 1) := by unfold Hid; omega
      clear h1 h2 hr
      go_enter Tryz.func86, Tryz.ntmps86
      go_wp2_with (go_at_call 26; refine (compare_p a b _ ha hb).mono ?_; rintro e w1 ⟨rfl, hB⟩; rw [HR.out])
      go_ret
      exact ⟨by unfold ooN; rw [HR.out]; rfl, hB⟩
    · have HR : Hid (compareN a b = -1) := by unfold Hid; omega
      clear h1 h2 hr
      go_enter Tryz.func86, Tryz.ntmps86
      go_wp2_with (go_at_call 26; refine (compare_p a b _ ha hb).mono ?_; rintro e w1 ⟨rfl, hB⟩; rw [HR.out])
      go_ret
      exact ⟨by unfold ooN; rw [HR.out]; rfl, hB⟩
theorem as_hit2 (n : Int) (N : Nat) (w : World) (hg : ErrType w) (hb : Boxed w N 77 (.int .i64 0)) :
    Calls Tryz.prog 64 #[.iface 77 (.int .i64 n), .iface 118 (.pointer (some ⟨N, 0, none⟩))] w fun e w' => e = .returned (.bool true) ∧ Boxed w' N 77 (.int .i64 n) ∧ Below N w w' := by
  have hlt := hb.lt
  refine (as_hit n ⟨N, 0, none⟩ _ w hg hb.cell hb.frozen).mono ?_
  rintro e w' ⟨rfl, rfl⟩
  refine ⟨rfl, ?_, ?_⟩
  · unfold asW; exact Boxed.set _ ((((hb.alloc _).alloc _).alloc _).alloc _)
  · unfold asW
    exact Below.setCell (p := ⟨N, 0, none⟩) (((((Below.refl N w).alloc (by omega) _).alloc (by simp; omega) _).alloc (by simp; omega) _).alloc (by simp; omega) _) (Nat.le_refl _) _
/-- A fault at a place. -/
def fltA (no at' : Int) : Value := .iface 94 (.agg #[.int .i64 no, .int .i64 0, .int .i64 at'])
set_option maxRecDepth 100000 in
theorem placed_p (n k : Int) (hn : n ≠ 0) (w : World) (hg : ErrType w) : Calls Tryz.prog 88 #[errE n, .int .i64 k] w fun e w' => e = .returned (fltA n k) ∧ Below w.heap.size w w' := by
  rw [show errE n = .iface 77 (.int .i64 n) from if_neg hn]
  have hb0 : Boxed (w.alloc (.cells #[.int .i64 0] 77)) w.heap.size 77 (.int .i64 0) := Boxed.new w _ _
  have hg0 := hg.below ((Below.refl _ w).alloc (Nat.le_refl _) (.cells #[.int .i64 0] 77))
  go_enter Tryz.func88, Tryz.ntmps88
  go_wp2_with (go_at_call 64; refine (as_hit2 n _ _ hg0 hb0).mono ?_; rintro e w3 ⟨rfl, hb3, hB3⟩; have hc3 := hb3.cell)
  go_ret
  exact ⟨rfl, ((Below.refl _ w).alloc (Nat.le_refl _) _).trans hB3⟩
theorem oo_start {p : ByteArray} (h : checkN p = 0) : ooN ⟨#[]⟩ p = 0 := by
  obtain ⟨h0, _, hn⟩ := check_facts h
  have hp : compareN ⟨#[]⟩ p = -1 := by
    unfold compareN
    cases hq : piecesB p with
    | nil => exact absurd hq (piecesB_ne p)
    | cons x r =>
      have hx := name_full (hn x (by rw [hq]; simp))
      have e : piecesB ⟨#[]⟩ = [⟨#[]⟩] := rfl
      rw [e]
      have hc : cmpB ⟨#[]⟩ x = -1 := by
        unfold cmpB
        refine lt_compare ?_
        cases hu : un x with
        | nil => rw [← un_length, hu] at hx; exact absurd rfl hx
        | cons a l => exact List.Lex.nil
      simp [compareP, hc]
  unfold ooN; rw [hp]; rfl
theorem lastP_take {es : List Ent} {k : Nat} {e : Ent} (h : es[k]? = some e) : lastP (es.take (k + 1)) = e.path := by
  unfold lastP; rw [List.take_add_one, h]; simp
theorem lastP_mem (L : List Ent) : lastP L = ⟨#[]⟩ ∨ ∃ d ∈ L, lastP L = d.path := by
  unfold lastP
  cases h : L.getLast? with
  | none => exact .inl rfl
  | some d => exact .inr ⟨d, List.mem_of_getLast? h, rfl⟩
theorem checkGo_step {es : List Ent} {k : Nat} {e : Ent} (h : es[k]? = some e) : checkGo (es.take k) (es.drop k) = if oneN (es.take k) e ≠ 0 then (oneN (es.take k) e, (es.take k).length) else checkGo (es.take (k + 1)) (es.drop (k + 1)) := by
  have hlt := (List.getElem?_eq_some_iff.1 h).1
  rw [List.drop_eq_getElem_cons hlt]
  have he : es[k] = e := (List.getElem?_eq_some_iff.1 h).2
  rw [he, List.take_add_one, h]
  rfl
theorem errE_zero : errE 0 = .nilIface := rfl
theorem errE_some {n : Int} (h : n ≠ 0) : errE n = .iface 77 (.int .i64 n) := if_neg h
/-- What grow answers. -/
def GrowPost (es : List Ent) (w : World) (e : Ending) (w' : World) : Prop :=
  Below w.heap.size w w' ∧ (((checkGo [] es).1 = 0 ∧ ∃ tb F, e = .returned (.tuple #[.pointer (some ⟨tb, 0, none⟩), .nilIface]) ∧ TreeOf w' tb w.heap.size F es) ∨
    ((checkGo [] es).1 ≠ 0 ∧ e = .returned (.tuple #[.pointer none, fltA (checkGo [] es).1 (checkGo [] es).2])))
theorem says_root {z : Nd} (hz : z.e = rootE) : Says (rootPic z) [] :=
  ⟨⟨z, rfl, by rw [hz]; rfl, by rw [hz]; rfl⟩, fun ns x h hx => absurd (rootPic_some hx).1 h, fun e he => (List.not_mem_nil he).elim, fun e he => (List.not_mem_nil he).elim, List.Pairwise.nil, fun ns y h => rootPic_snoc _ _ _⟩
theorem below_mono2 {B B' : Nat} {w w' : World} (h : Below B w w') (hb : B' ≤ B) : Below B' w w' := h.mono hb

theorem TreeOf.data {W : World} {tb base : Nat} {F : Pic} {L : List Ent} (h : TreeOf W tb base F L) : ∀ ns o, F ns = some o → o.e.data.size ≤ 1073741824 := by
  intro ns o ho
  by_cases h0 : ns = []
  · subst h0
    obtain ⟨rt, h1, _, h3⟩ := h.says.root
    rw [h1] at ho; cases ho
    omega
  · have := wrong_data (h.right _ (h.says.of' ns o h0 ho).1)
    omega
theorem cell_kept {S S2 : Nat → Prop} {w w' : World} {b j : Nat} {v : Value} (h : Rnd S S2 w w') (hb : b < w.heap.size) (hn : ¬ S b) (hc : w.cell? ⟨b, j, none⟩ = some v) : w'.cell? ⟨b, j, none⟩ = some v := by
  have hbe := h.same b hb hn
  unfold World.cell? at hc ⊢
  simp only [hbe]
  exact hc
theorem TreeOf.not_mine {W : World} {tb base : Nat} {F : Pic} {L : List Ent} (h : TreeOf W tb base F L) {k : Nat} (hk : W.heap.size ≤ k) : ¬ MineT tb F k := by
  rintro (rfl | ⟨ns, x, hx, h1⟩)
  · have := h.at'.lt; omega
  · rcases h1 with rfl | h1
    · have := h.at'.tree.lt hx; omega
    · have := h.at'.tree.mlt hx h1; omega
theorem lay_t (tb base : Nat) (F : Pic) (L : List Ent) (x : Ent) (w : World) (h : TreeOf w tb base F L) (hw : wrongN x = 0) :
    Calls Tryz.prog 87 #[.pointer (some ⟨tb, 0, none⟩), .agg #[.string x.path, .int .i64 x.kind, .int .i64 x.mode, .string x.data, .string x.link]] w fun e w' => e = .returned (errE (putN L x)) ∧
      ((putN L x ≠ 0 ∧ Below w.heap.size w w') ∨ (putN L x = 0 ∧ Below base w w' ∧ ∃ F', TreeOf w' tb base F' (laidL L x) ∧ Rnd (MineT tb F) (MineT tb F') w w')) := by
  have hc := wrong_check hw
  have hd := wrong_data hw
  have hp := (check_facts hc).2.1
  have hf := h.few
  have hq := h.light
  have hn := layN_eq h.says hc
  refine (lay_p tb base 4096 F L.length (bytesL L) x w (by omega) (by omega) (by omega) (by omega) (by omega) h.data h.at').mono ?_
  rintro e w' ⟨rfl, hr⟩
  rw [hn] at hr ⊢
  refine ⟨rfl, ?_⟩
  rcases hr with ⟨h1, h2⟩ | ⟨h1, h2, z, hz, h3, h4⟩
  · exact .inl ⟨h1, h2⟩
  · rw [names_split hc] at h4
    exact .inr ⟨h1, h2, _, h.laid hw h1 hz h3, h4⟩
theorem placed_i (n k : Int) (hn : n ≠ 0) (w : World) (hg : ErrType w) : Calls Tryz.prog 88 #[.iface 77 (.int .i64 n), .int .i64 k] w fun e w' => e = .returned (fltA n k) ∧ Below w.heap.size w w' := by
  have := placed_p n k hn w hg
  rw [errE_some hn] at this; exact this
theorem below_by {w w1 w2 : World} {n : Nat} (h : Below n w w1) (k : Below w1.heap.size w1 w2) (hn : n ≤ w.heap.size) : Below n w w2 := h.trans (k.mono (Nat.le_trans hn h.size))
set_option maxRecDepth 100000 in
set_option maxHeartbeats 8000000 in
theorem grow_p (v : Value) (es : List Ent) (w : World) (hg : ErrType w) (hv : EntsAt w v es) (hl : es.length ≤ 4611686018427387904) (hp : ∀ e ∈ es, e.path.size < 1152921504606846976) :
    Calls Tryz.prog 53 #[v] w (GrowPost es w) := by
  obtain ⟨a, cap, b, o, rfl, ha, hcap, hc⟩ := hv
  go_enter Tryz.func53, Tryz.ntmps53
  go_wp2_with (go_at_call 84; refine (make_p w).mono ?_; rintro e w1 ⟨tb, z, rfl, hz, hb1, hT1⟩)
  have HB1 : Hid (Below w.heap.size w w1) := hb1
  have HT1 : Hid (TreeOf w1 tb w.heap.size (rootPic z) []) := ⟨by
    have hs := says_root hz
    exact ⟨hT1.from', hT1.root, hT1.tree.tight Tryz.underlying9 hs (by simp), hT1.kinds⟩, says_root hz, by simp, by simp, by simp [bytesL]⟩
  have HG : Hid (ErrType w) := hg
  have HP : Hid (∀ e ∈ es, e.path.size < 1152921504606846976) := hp
  have HC : Hid (∀ i e, es[i]? = some e → EntC w b (o + i * 5) e) := hc
  clear hb1 hT1 hz hg hp hc
  go_loopw [5, 12] (fun s i wr => ∃ (k : Nat) (F : Pic), i = .int .i64 k ∧ k ≤ es.length ∧ s = .string (lastP (es.take k)) ∧ TreeOf wr tb w.heap.size F (es.take k) ∧ checkGo [] es = checkGo (es.take k) (es.drop k) ∧ Below w.heap.size w wr) (fun _ i _ => es.length - (intOf i).toNat)
  case atStart => exact ⟨0, rootPic z, rfl, Nat.zero_le _, by simp [lastP], by simpa using HT1.out, by simp, HB1.out⟩
  case round =>
    obtain ⟨k, F, rfl, hk, rfl, hT, hcg, hB⟩ := hrel
    have HT : Hid (TreeOf wr tb w.heap.size F (es.take k)) := hT
    have HCG : Hid (checkGo [] es = checkGo (es.take k) (es.drop k)) := hcg
    have HB : Hid (Below w.heap.size w wr) := hB
    have hszr := hB.size
    have HL : Hid ((lastP (es.take k)).size ≤ 255) := by
      rcases lastP_mem (es.take k) with h | ⟨d, hd, h⟩
      · unfold Hid; rw [h]; decide
      · unfold Hid; rw [h]; exact (check_facts (wrong_check (hT.right d hd))).2.1
    clear hT hcg hB
    by_cases hlt : k < es.length
    · have hlt' : (k : Int) < (es.length : Int) := by omega
      have hk0 : (0 : Int) ≤ (k : Int) := by omega
      obtain ⟨x, hx⟩ : ∃ x, es[k]? = some x := ⟨_, List.getElem?_eq_getElem hlt⟩
      obtain rfl := ha (fun e => by rw [e] at hlt; simp at hlt)
      obtain ⟨c0, c1, c2, c3, c4⟩ := (HC.out k x hx).below (below_mono2 HB.out (Nat.le_refl _))
      have hpx : Hid (x.path.size < 1152921504606846976) := HP.out x (List.mem_of_getElem? hx)
      have HS : Hid (checkGo (es.take k) (es.drop k) = if oneN (es.take k) x ≠ 0 then (oneN (es.take k) x, (es.take k).length) else checkGo (es.take (k + 1)) (es.drop (k + 1))) := checkGo_step hx
      have HTK : Hid (es.take (k + 1) = es.take k ++ [x] ∧ lastP (es.take (k + 1)) = x.path ∧ (es.take k).length = k) := ⟨by rw [List.take_add_one, hx]; rfl, lastP_take hx, by rw [List.length_take]; omega⟩
      have hbA : Below wr.heap.size wr (wr.alloc (.cells #[.string x.path, .int .i64 x.kind, .int .i64 x.mode, .string x.data, .string x.link] 52)) := (Below.refl _ _).alloc (Nat.le_refl _) _
      have HA : Hid (Below wr.heap.size wr (wr.alloc (.cells #[.string x.path, .int .i64 x.kind, .int .i64 x.mode, .string x.data, .string x.link] 52))) := hbA
      have HE : Hid (EntC (wr.alloc (.cells #[.string x.path, .int .i64 x.kind, .int .i64 x.mode, .string x.data, .string x.link] 52)) wr.heap.size 0 x) := ent_new wr _ x
      clear hx ha hbA
      have HBA : Hid (Below w.heap.size w (wr.alloc (.cells #[.string x.path, .int .i64 x.kind, .int .i64 x.mode, .string x.data, .string x.link] 52))) := below_by HB.out HA.out (Nat.le_refl _)
      by_cases hw : wrongN x = 0
      · have HW : Hid (errE (wrongN x) = .nilIface) := by unfold Hid; rw [hw]; rfl
        by_cases ho : ooN (lastP (es.take k)) x.path = 0
        · have HO : Hid (errE (ooN (lastP (es.take k)) x.path) = .nilIface) := by unfold Hid; rw [ho]; rfl
          have HWD : Hid (wrongN x = 0 ∧ ooN (lastP (es.take k)) x.path = 0) := ⟨hw, ho⟩
          by_cases hq : putN (es.take k) x = 0
          · have HQ : Hid (putN (es.take k) x = 0) := hq
            have HQE : Hid (errE (putN (es.take k) x) = .nilIface) := by unfold Hid; rw [hq]; rfl
            have HEND : Hid (laidL (es.take k) x = es.take (k + 1)) := by unfold Hid; rw [HTK.out.1]; exact laid_end (oo_behind HT.out.says.order ho)
            clear hw ho hq
            go_wp2_with (first | (go_at_call 85; refine (wrong_p x _ hpx.out).mono ?_; rintro e w2 ⟨rfl, hb2⟩; rw [HW.out]; have HB2 := below_by HBA.out hb2 (Nat.le_refl _); obtain ⟨d0, d1, d2, d3, d4⟩ := HE.out.below hb2) | (go_at_call 86; refine (oo_p _ _ _ (by have := HL.out; omega) (by have := hpx.out; omega)).mono ?_; rintro e w3 ⟨rfl, hb3⟩; rw [HO.out]; have HB3 := below_by HB2 hb3 (Nat.le_refl _); have HT3 := (HT.out.below HA.out).below (below_join hb2 hb3); obtain ⟨f0, f1, f2, f3, f4⟩ := (HE.out.below hb2).below hb3) | (go_at_call 87; refine (lay_t tb w.heap.size F (es.take k) x _ HT3 HWD.out.1).mono ?_; rintro e w4 ⟨rfl, hr4⟩; rw [HQE.out]; obtain ⟨_, hb4, F4, hT4, hr4⟩ := hr4.resolve_left (fun h => h.1 HQ.out); have g0 := cell_kept hr4 (Nat.lt_of_lt_of_le (by simp) (below_join hb2 hb3).size) (TreeOf.not_mine HT.out (Nat.le_refl _)) f0))
            go_roundw
            case rel =>
              refine ⟨k + 1, F4, by go_num, by omega, by rw [HTK.out.2.1], by rw [← HEND.out]; exact hT4, ?_, HB3.trans hb4⟩
              have hone : oneN (es.take k) x = 0 := by unfold oneN; rw [if_neg (by simpa using HWD.out.1), if_neg (by simpa using HWD.out.2)]; exact HQ.out
              rw [HCG.out, HS.out, if_neg (by simpa using hone)]
            case measure => simp [intOf]; omega
          · have HN : Hid (putN (es.take k) x ≠ 0) := hq
            have HQE : Hid (errE (putN (es.take k) x) = .iface 77 (.int .i64 (putN (es.take k) x))) := errE_some hq
            clear hw ho hq
            go_wp2_with (first | (go_at_call 85; refine (wrong_p x _ hpx.out).mono ?_; rintro e w2 ⟨rfl, hb2⟩; rw [HW.out]; have HB2 := below_by HBA.out hb2 (Nat.le_refl _); obtain ⟨d0, d1, d2, d3, d4⟩ := HE.out.below hb2) | (go_at_call 86; refine (oo_p _ _ _ (by have := HL.out; omega) (by have := hpx.out; omega)).mono ?_; rintro e w3 ⟨rfl, hb3⟩; rw [HO.out]; have HB3 := below_by HB2 hb3 (Nat.le_refl _); have HT3 := (HT.out.below HA.out).below (below_join hb2 hb3); obtain ⟨f0, f1, f2, f3, f4⟩ := (HE.out.below hb2).below hb3) | (go_at_call 87; refine (lay_t tb w.heap.size F (es.take k) x _ HT3 HWD.out.1).mono ?_; rintro e w4 ⟨rfl, hr4⟩; rw [HQE.out]; have hb4 := (hr4.resolve_right (fun h => HN.out h.1)).2; have HB4 := below_by HB3 hb4 (Nat.le_refl _)) | (go_at_call 88; refine (placed_i _ _ HN.out _ (HG.out.below HB4)).mono ?_; rintro e w5 ⟨rfl, hb5⟩))
            go_ret2
            refine ⟨below_by HB4 hb5 (Nat.le_refl _), .inr ?_⟩
            have hone : oneN (es.take k) x = putN (es.take k) x := by unfold oneN; rw [if_neg (by simpa using HWD.out.1), if_neg (by simpa using HWD.out.2)]
            rw [HCG.out, HS.out, if_pos (by rw [hone]; exact HN.out), hone, HTK.out.2.2]
            exact ⟨HN.out, rfl⟩
        · have HO : Hid (errE (ooN (lastP (es.take k)) x.path) = .iface 77 (.int .i64 (ooN (lastP (es.take k)) x.path))) := errE_some ho
          have HN : Hid (ooN (lastP (es.take k)) x.path ≠ 0) := ho
          have HW0 : Hid (wrongN x = 0) := hw
          clear hw ho
          go_wp2_with (first | (go_at_call 85; refine (wrong_p x _ hpx.out).mono ?_; rintro e w2 ⟨rfl, hb2⟩; rw [HW.out]; have HB2 := below_by HBA.out hb2 (Nat.le_refl _); obtain ⟨d0, d1, d2, d3, d4⟩ := HE.out.below hb2) | (go_at_call 86; refine (oo_p _ _ _ (by have := HL.out; omega) (by have := hpx.out; omega)).mono ?_; rintro e w3 ⟨rfl, hb3⟩; rw [HO.out]; have HB3 := below_by HB2 hb3 (Nat.le_refl _); have HT3 := (HT.out.below HA.out).below (below_join hb2 hb3); obtain ⟨f0, f1, f2, f3, f4⟩ := (HE.out.below hb2).below hb3) | (go_at_call 88; refine (placed_i _ _ HN.out _ (HG.out.below HB3)).mono ?_; rintro e w5 ⟨rfl, hb5⟩))
          go_ret2
          refine ⟨below_by HB3 hb5 (Nat.le_refl _), .inr ?_⟩
          have hone : oneN (es.take k) x = ooN (lastP (es.take k)) x.path := by unfold oneN; rw [if_neg (by simpa using HW0.out), if_pos HN.out]
          rw [HCG.out, HS.out, if_pos (by rw [hone]; exact HN.out), hone, HTK.out.2.2]
          exact ⟨HN.out, rfl⟩
      · have HW : Hid (errE (wrongN x) = .iface 77 (.int .i64 (wrongN x))) := errE_some hw
        have HN : Hid (wrongN x ≠ 0) := hw
        clear hw
        go_wp2_with (first | (go_at_call 85; refine (wrong_p x _ hpx.out).mono ?_; rintro e w2 ⟨rfl, hb2⟩; rw [HW.out]; have HB2 := below_by HBA.out hb2 (Nat.le_refl _); obtain ⟨d0, d1, d2, d3, d4⟩ := HE.out.below hb2) | (go_at_call 88; refine (placed_i _ _ HN.out _ (HG.out.below HB2)).mono ?_; rintro e w5 ⟨rfl, hb5⟩))
        go_ret2
        refine ⟨below_by HB2 hb5 (Nat.le_refl _), .inr ?_⟩
        have hone : oneN (es.take k) x = wrongN x := by unfold oneN; rw [if_pos HN.out]
        rw [HCG.out, HS.out, if_pos (by rw [hone]; exact HN.out), hone, HTK.out.2.2]
        exact ⟨HN.out, rfl⟩
    · have hge : ¬ (k : Int) < (es.length : Int) := by omega
      have HALL : Hid (es.take k = es ∧ es.drop k = []) := ⟨List.take_of_length_le (by omega), List.drop_eq_nil_of_le (by omega)⟩
      go_wp2
      go_ret2
      refine ⟨HB.out, .inl ⟨?_, tb, F, rfl, ?_⟩⟩
      · rw [HCG.out, HALL.out.2]; rfl
      · have := HT.out; rw [HALL.out.1] at this; exact this
end Go.Proofs.YtgildlfanfbebaaGreatDoor
