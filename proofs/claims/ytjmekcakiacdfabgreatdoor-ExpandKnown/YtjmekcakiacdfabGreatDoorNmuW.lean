/- Package expand's Names, for every word. -/
import Derived.Test.YtjmekcakiacdfabGreatDoorNmtW
namespace Go.Proofs.YtjmekcakiacdfabGreatDoor
open Go Go.RowKit Go.Maps

theorem metL_snoc (pre : List Pc) (p : Pc) (ms : List (List UInt8)) : metL (pre ++ [p]) ms = addN p (metL pre ms) := by rw [metL_append]; rfl
theorem metL_len : ∀ (pre : List Pc) (ms : List (List UInt8)), (metL pre ms).length ≤ ms.length + pre.length
  | [], ms => Nat.le_refl _
  | p :: pre, ms => by
    have h := metL_len pre (addN p ms)
    have h2 : (addN p ms).length ≤ ms.length + 1 := by unfold addN; split <;> simp
    show (metL pre (addN p ms)).length ≤ _
    rw [List.length_cons]; omega
theorem do_n (p : Pc) (W : World) (B M L g m : Nat) (v : Value) (D : DataW Unit) (ns : List (List UInt8)) (hz : Nz W B M L g m v D ns) (hs : szP p ≤ 1099511627776) (hnl : ns.length ≤ 1099511627776) (hB : B ≤ W.heap.size) : Calls Tryz.prog 40 #[pcV p, .pointer (some ⟨M, 0, none⟩), .pointer (some ⟨L, 0, none⟩)] W fun x w' => NmP p W B M L g v ns x w' := by
  cases p with
  | lit l => exact names_lit l W B M L g m v D ns hz hnl hB
  | var n => exact names_var n W B M L g m v D ns hz hs hnl hB
  | ifE n => exact names_ifE n W B M L g m v D ns hz hs hnl hB
  | ifF n => exact names_ifF n W B M L g m v D ns hz hs hnl hB
  | fin => exact names_fin W B M L g m v D ns hz hnl hB
/-- What stands between the pieces. -/
def JN (W0 : World) (B M L g : Nat) (pre : List Pc) (S : Nat → Prop) (W : World) : Prop :=
  ∃ m v D, Nz W B M L g m v D (metL pre []) ∧ B ≤ W.heap.size ∧ (∀ j, j < B → W.heap[j]? = W0.heap[j]?) ∧ S = fun j => j < B ∨ nzS M L g v j
theorem JN.keep {W0 : World} {B M L g : Nat} : ∀ pre S A C, JN W0 B M L g pre S A → A.heap.size ≤ C.heap.size → (∀ k, S k → C.heap[k]? = A.heap[k]?) → JN W0 B M L g pre S C := by
  rintro pre S A C ⟨m, v, D, h1, h2, h3, rfl⟩ hs hk
  exact ⟨m, v, D, h1.keep (fun j hj => hk j (.inr hj)), by omega, fun j hj => (hk j (.inl hj)).trans (h3 j hj), rfl⟩
theorem JN.there {W0 : World} {B M L g : Nat} : ∀ pre S A, JN W0 B M L g pre S A → ∀ k, S k → k < A.heap.size := by
  rintro pre S A ⟨m, v, D, h1, h2, h3, rfl⟩ k hk
  rcases hk with hk | hk
  · omega
  · exact h1.there k hk
theorem each_len (e : UInt8) : ∀ (f : Nat) (st : List Nat) (l : List UInt8), (eachF e f st l).1.length ≤ l.length
  | 0, st, l => by simp [eachF]
  | f + 1, st, [] => by simp [eachF]
  | f + 1, st, b :: t => by
    unfold eachF
    cases hk : takeS e st b t with
    | bad n => simp
    | good q k st2 =>
      have h1 := each_len e f st2 ((b :: t).drop k)
      have h2 := takeS_pos e st b t q k st2 hk
      rw [List.length_drop, List.length_cons] at h1
      simp only [List.length_cons]; omega
set_option maxHeartbeats 4000000 in
set_option maxRecDepth 100000 in
theorem names_p (s : ByteArray) (e : UInt8) (W : World) (hs : s.size ≤ 1099511627774) : Calls Tryz.prog 26 #[.string s, .int .u8 e.toNat] W fun x w' => ∃ v, x = .returned v ∧ w'.ownsRow W.heap.size 9 1 v (namesL e (un s)).length (nsC (namesL e (un s))) ∧ Below W.heap.size W w' := by
  have hsl := un_length s
  obtain ⟨W2, hW2⟩ : ∃ W2, W2 = ((W.alloc (.cells #[.slice none 0 0] 36)).alloc (.map #[] 0)).alloc (.cells #[.map (some (W.heap.size + 1))] 84) := ⟨_, rfl⟩
  have b2 : Below W.heap.size W W2 := by rw [hW2]; exact (((Below.refl _ W).alloc (Nat.le_refl _) _).alloc (by simp) _).alloc (by simp; omega) _
  have sz2 : W2.heap.size = W.heap.size + 3 := by rw [hW2]; simp
  have LL : Lies W2 W.heap.size 36 #[.slice none 0 0] := by rw [hW2]; exact ((Lies.new W _ _).alloc _).alloc _
  have LM : Lies W2 (W.heap.size + 2) 84 #[.map (some (W.heap.size + 1))] := by
    have := Lies.new ((W.alloc (.cells #[.slice none 0 0] 36)).alloc (.map #[] 0)) 84 #[.map (some (W.heap.size + 1))]
    rw [World.size_alloc, World.size_alloc] at this; rw [hW2]; exact this
  have hmp : W2.ownsMap Tryz.prog 9 unitElem (W.heap.size + 1) 0 (.map [] : DataW Unit) := by
    have := World.ownsMap_made (W.alloc (.cells #[.slice none 0 0] 36)) Tryz.prog 9 (unitElem (H := Unit))
    rw [World.size_alloc] at this
    rw [hW2]
    exact own_mapU this (Below.heap_alloc _ _ _ (by simp))
  have hz0 : Nz W2 W.heap.size (W.heap.size + 2) W.heap.size (W.heap.size + 1) 0 (.slice none 0 0) (.map []) [] := ⟨LM, LL, World.ownsRow_nil _ _ _ _, hmp, metOK_start, Nat.le_refl _, by omega, by omega, by omega⟩
  have hmm := @run_makeMap Tryz.prog
  have hN := newReader_p s e 0 W2
  have hE := fun (W3 : World) (R : Nat) (v : Value) (h : Rd W3 R s e 0 v [0]) (hR : ∀ k, rdS R v k → W2.heap.size ≤ k) (hb : Below W2.heap.size W2 W3) => each_n #[.pointer (some ⟨W.heap.size + 2, 0, none⟩), .pointer (some ⟨W.heap.size, 0, none⟩)] (JN W2 W.heap.size (W.heap.size + 2) W.heap.size (W.heap.size + 1)) JN.keep JN.there W3 R s e v [0] (fun j => j < W.heap.size ∨ nzS (W.heap.size + 2) W.heap.size (W.heap.size + 1) (.slice none 0 0) j) (by
    intro pre p S W4 hpre hpl hJ
    obtain ⟨m, v4, D, h1, h2, h3, rfl⟩ := hJ
    have hmem : p ∈ (eachL e [0] (un s)).1 := hpre.subset (by simp)
    have hsm := each_small e _ _ _ _ hmem
    have hml := metL_len pre []
    rw [List.length_nil] at hml
    refine (do_n p W4 _ _ _ _ m v4 D _ h1 (by rw [hsl] at hsm; omega) (by omega) h2).mono ?_
    rintro x w5 ⟨rfl, m2, v2, D2, hz, hr⟩
    rw [← metL_snoc] at hz
    refine ⟨rfl, _, ⟨m2, v2, D2, hz, Nat.le_trans h2 hr.size, fun j hj => (hr.same j (by omega) (fun h9 => h1.ge j h9 hj)).trans (h3 j hj), rfl⟩, ⟨hr.os, hr.tape, hr.output, hr.size, fun k hk hn => hr.same k hk (fun h9 => hn (.inr h9)), fun k hk => ?_⟩⟩
    rcases hk with hk | hk
    · exact .inl (.inl hk)
    · rcases hr.more k hk with h9 | h9
      · exact .inl (.inr h9)
      · exact .inr h9) h (by decide) (Nat.le_refl _) ⟨0, _, _, hz0.keep (fun j hj => hb.block j (hz0.there j hj)), by have := hb.size; omega, fun j hj => hb.block j (by omega), rfl⟩ (fun k hk hn => by
    have h8 := hR k hk
    rcases hn with hn | hn
    · omega
    · have := hz0.there k hn; omega) hs
  obtain ⟨pcs, n, hres⟩ : ∃ pcs n, eachL e [0] (un s) = (pcs, n) := ⟨_, _, rfl⟩
  rw [hres] at hE
  have HA : Hid (namesL e (un s) = if n ≠ 0 then [] else metL pcs []) := by unfold Hid namesL; rw [hres]
  have HB2 : Hid (Below W.heap.size W W2 ∧ W.heap.size ≤ W2.heap.size) := ⟨b2, by omega⟩
  clear LL LM hmp hz0 hres b2 sz2 hsl
  generalize namesL e (un s) = NS at *
  rw [hW2] at hE HB2 hN
  clear hW2
  go_enter Tryz.func26, Tryz.ntmps26
  go_wp2_with (go_at_call 18; refine hN.mono ?_; rintro x w3 ⟨R, v, rfl, hr, hR, hb⟩)
  refine (hE w3 R v hr hR hb).mono ?_
  rintro x w4 ⟨rfl, S2, S3, ⟨m, v4, D, h1, h2, h3, rfl⟩, hr4, hS⟩
  have hbb : Below W.heap.size W w4 := (HB2.out.1.trans (hb.mono HB2.out.2)).trans ⟨hr4.os, hr4.tape, hr4.output, hr4.size, fun j hj => (h3 j hj).trans (hb.block j (Nat.lt_of_lt_of_le hj HB2.out.2)).symm⟩
  have HBB : Hid _ := hbb
  have l0 := h1.ll.cell (i := 0) rfl
  have HOW : Hid (w4.ownsRow W.heap.size 9 1 v4 (metL pcs []).length (nsC (metL pcs []))) := h1.own
  by_cases hn : n = 0
  · have e0 : erV n = .nilIface := by rw [hn]; rfl
    have HN : Hid (NS = metL pcs []) := by unfold Hid; rw [HA.out, if_neg (by simp [hn])]
    rw [e0]
    clear h1 h2 h3 hr4 hS hr hR hb hbb hE HA hn hN e0
    go_wp2
    go_ret
    exact ⟨v4, rfl, by rw [HN.out]; exact HOW.out, HBB.out⟩
  · have e0 : erV n = .iface 54 (.int .i64 n) := by unfold erV; rw [if_neg hn]
    have HN : Hid (NS = []) := by unfold Hid; rw [HA.out, if_pos hn]
    rw [e0]
    clear h1 h2 h3 hr4 hS hr hR hb hbb hE HA hn hN e0 l0
    go_wp2
    go_ret
    exact ⟨_, rfl, by rw [HN.out]; exact World.ownsRow_nil _ _ _ _, HBB.out⟩
end Go.Proofs.YtjmekcakiacdfabGreatDoor
