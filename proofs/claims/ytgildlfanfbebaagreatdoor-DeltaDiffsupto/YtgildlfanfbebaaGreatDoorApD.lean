/- delta.Apply. -/
import Derived.Test.YtgildlfanfbebaaGreatDoorIterS
import Derived.Test.YtgildlfanfbebaaGreatDoorRndW
import Derived.Test.YtgildlfanfbebaaGreatDoorTrD
import Derived.Maps.AppendAt
import Derived.Test.YtgildlfanfbebaaGreatDoorChgW

namespace Go.Proofs.YtgildlfanfbebaaGreatDoor
open Go Go.RowKit Go.Maps Go.Sort Go.Shelf

theorem sorts_c (m : Nat) : AnyZ.SortsIn Tryz.prog Tryz.sorted82_ren Fence.wide m :=
  ⟨fun blk off cap ss W hH hblk hsz => callsIn_wide.2 (AnyM.slices_Sort_string Tryz.sort113 blk off cap ss W hH hblk hsz),
   fun p cap W => callsIn_wide.2 (AnyM.slices_Sort_string_none Tryz.sort113 p cap W)⟩

theorem maps_keys_c (mb : Option Nat) (W : World) : CallsIn Fence.wide 5 Tryz.prog 83 #[.map mb] W fun e w' => e = .returned (.func (.func 114) #[] #[.pointer (some ⟨W.heap.size, 0, none⟩)]) ∧ w' = W.alloc (.cells #[.map mb] 111) :=
  AnyZ.keys_in Tryz.keys83 Fence.wide 5 trivial rfl mb W

set_option maxHeartbeats 1000000 in
theorem sorted_keys_c {H : Type} (b nn : Nat) (D0 : DataW H) (R : Value → Option (DataW H × List MemPlace)) (w : World) (hown : w.ownsMap Tryz.prog 9 R b nn D0) (hmax : Maps.size D0 ≤ maxLen) (hbytes : Maps.size D0 * 16 ≤ 140737488355328) :
    CallsIn Fence.wide 5 Tryz.prog 82 #[.func (.func 114) #[] #[.pointer (some ⟨w.heap.size, 0, none⟩)]] (w.alloc (.cells #[.map (some b)] 111)) fun e w' => ∃ (v : Value) (ss : List (List UInt8)), e = .returned v ∧ ss.Perm (strKeys D0) ∧
      w'.ownsRow (w.alloc (.cells #[.map (some b)] 111)).heap.size 9 1 v ss.length ((ss.mergeSort (fun x y => decide (x ≤ y))).map encStr) ∧ (v = .slice none 0 0 ↔ ss = []) ∧ Below (w.alloc (.cells #[.map (some b)] 111)).heap.size (w.alloc (.cells #[.map (some b)] 111)) w' := by
  have hbl := hown.lt
  have hseq : SeqGives Fence.wide 2 Tryz.prog 114 #[.pointer (some ⟨w.heap.size, 0, none⟩)] encStr (fun ss => ss.Perm (strKeys D0)) (Maps.size D0) (w.alloc (.cells #[.map (some b)] 111)) :=
    AnyZ.keys_gives (ρ := Tryz.keys83_ren) { Tryz.keys83 with } Fence.wide _ trivial rfl (by omega) w.heap.size b nn D0 _ (by simp) (by simp) (by
      obtain ⟨es, clock, hb, Ft, hs, hD⟩ := hown
      exact ⟨es, clock, (Below.heap_alloc _ _ b hbl).trans hb, Ft, hs, hD⟩)
  exact AnyZ.sorted_in Tryz.sorted82 Fence.wide 5 trivial trivial trivial trivial rfl (by omega) (sorts_c _) (enters_of Tryz.func113 (by kernel_rfl) rfl) 114 #[.pointer (some ⟨w.heap.size, 0, none⟩)] trivial (enters_of Tryz.func114 (by kernel_rfl) rfl) _ _ hmax hbytes _ hseq

set_option maxHeartbeats 1000000 in
theorem sorted_nil_c (w : World) :
    CallsIn Fence.wide 5 Tryz.prog 82 #[.func (.func 114) #[] #[.pointer (some ⟨w.heap.size, 0, none⟩)]] (w.alloc (.cells #[.map none] 111)) fun e w' => ∃ (v : Value) (ss : List (List UInt8)), e = .returned v ∧ ss = [] ∧
      w'.ownsRow (w.alloc (.cells #[.map none] 111)).heap.size 9 1 v ss.length ((ss.mergeSort (fun x y => decide (x ≤ y))).map encStr) ∧ (v = .slice none 0 0 ↔ ss = []) ∧ Below (w.alloc (.cells #[.map none] 111)).heap.size (w.alloc (.cells #[.map none] 111)) w' := by
  have hseq : SeqGives Fence.wide 2 Tryz.prog 114 #[.pointer (some ⟨w.heap.size, 0, none⟩)] encStr (fun ss : List (List UInt8) => ss = []) 0 (w.alloc (.cells #[.map none] 111)) :=
    AnyZ.keys_gives_nil (ρ := Tryz.keys83_ren) { Tryz.keys83 with } Fence.wide _ trivial rfl w.heap.size _ (by simp) (by simp)
  exact AnyZ.sorted_in Tryz.sorted82 Fence.wide 5 trivial trivial trivial trivial rfl (by omega) (sorts_c _) (enters_of Tryz.func113 (by kernel_rfl) rfl) 114 #[.pointer (some ⟨w.heap.size, 0, none⟩)] trivial (enters_of Tryz.func114 (by kernel_rfl) rfl) _ 0 (Nat.zero_le _) (by omega) _ hseq

theorem wide_any {n m : Nat} {P : Program} {f : Nat} {args : Array Value} {w : World} {R : Ending → World → Prop} (h : CallsIn Fence.wide n P f args w R) : CallsIn Fence.wide m P f args w R := callsIn_wide.2 (callsIn_wide.1 h)
theorem keys_c (n : Nat) (o : Option Nat) (W : World) : CallsIn Fence.wide n Tryz.prog 83 #[.map o] W fun e w' => e = .returned (.func (.func 114) #[] #[.pointer (some ⟨W.heap.size, 0, none⟩)]) ∧ w' = W.alloc (.cells #[.map o] 111) :=
  wide_any (maps_keys_c o W)
/-- The names in their order. -/
def Ordered (f : List UInt8 → Option Nat) (ys : List (List UInt8)) : Prop := ys.Pairwise (· < ·) ∧ (∀ y, y ∈ ys ↔ f y ≠ none) ∧ ∀ y ∈ ys, y.length ≤ maxLen
theorem ordered_of {f : List UInt8 → Option Nat} {ss : List (List UInt8)} (h1 : ss.Nodup) (h2 : ∀ s, s ∈ ss ↔ f s ≠ none) (h3 : ∀ s ∈ ss, s.length ≤ maxLen) : Ordered f (ss.mergeSort fun x y => decide (x ≤ y)) := by
  have hp := List.mergeSort_perm ss (fun x y => decide (x ≤ y))
  have hs := List.pairwise_mergeSort (le := fun x y : List UInt8 => decide (x ≤ y)) (fun a b c h1 h2 => decide_eq_true (List.le_trans (of_decide_eq_true h1) (of_decide_eq_true h2))) (fun a b => by
    rcases List.le_total a b with h | h
    · simp [h]
    · simp [h]) ss
  have hn : (ss.mergeSort fun x y => decide (x ≤ y)).Nodup := hp.nodup_iff.2 h1
  refine ⟨?_, fun y => by rw [hp.mem_iff]; exact h2 y, fun y hy => h3 y (hp.mem_iff.1 hy)⟩
  exact (hs.and hn).imp fun {a b} h => by
    have h4 : a ≤ b := of_decide_eq_true h.1
    by_cases h5 : a < b
    · exact h5
    · exact absurd (List.le_antisymm h4 (List.not_lt.1 h5)) h.2
theorem sorted_c (n : Nat) (o : Option Nat) (N : Nat) (f : List UInt8 → Option Nat) (W : World) (hk : ∀ m, o = some m → KidsAt W Tryz.prog 9 m N f) (h0 : o = none → ∀ y, f y = none) (hN : N ≤ 4398046511104) :
    CallsIn Fence.wide n Tryz.prog 82 #[.func (.func 114) #[] #[.pointer (some ⟨W.heap.size, 0, none⟩)]] (W.alloc (.cells #[.map o] 111)) fun e w' => ∃ (v : Value) (ys : List (List UInt8)), e = .returned v ∧ Ordered f ys ∧
      w'.ownsRow (W.alloc (.cells #[.map o] 111)).heap.size 9 1 v ys.length (ys.map encStr) ∧ ys.length ≤ 4398046511104 ∧ Below (W.alloc (.cells #[.map o] 111)).heap.size (W.alloc (.cells #[.map o] 111)) w' := by
  cases o with
  | none =>
    refine (wide_any (sorted_nil_c W)).mono ?_
    rintro e w' ⟨v, ss, rfl, rfl, h1, _, h2⟩
    exact ⟨v, [], rfl, ⟨List.Pairwise.nil, fun y => by simp [h0 rfl y], by simp⟩, by simpa using h1, by simp, h2⟩
  | some m =>
    have hkm := hk m rfl
    obtain ⟨D, h1, h2, h3⟩ := hkm.keys Tryz.underlying9
    refine (wide_any (sorted_keys_c m N D ptrElem W h1 (by unfold maxLen; omega) (by omega))).mono ?_
    rintro e w' ⟨v, ss, rfl, hp, h4, _, h5⟩
    obtain ⟨h6, h7⟩ := h3 ss hp
    have hl : (ss.mergeSort fun x y => decide (x ≤ y)).length = ss.length := by simp
    have hsl : ss.length ≤ N := by
      have e1 := hp.length_eq
      obtain ⟨es, clock, _, _, _, rfl⟩ := h1
      simp only [strKeys, List.length_map] at e1
      rw [e1]; exact h2
    refine ⟨v, _, rfl, ordered_of h6 h7 (fun s hs => strKeys_le h1 Tryz.underlying9 s (hp.mem_iff.1 hs)), ?_, by omega, h5⟩
    rw [hl]; exact h4
end Go.Proofs.YtgildlfanfbebaaGreatDoor

namespace Go.Proofs.YtgildlfanfbebaaGreatDoor
open Go Go.RowKit Go.Shelf

def rowS (v : Value) : Nat → Prop := fun k => v.ownBlock = some k
theorem row_local {A B : World} {base : Nat} {e : TypeId} {size n : Nat} {v : Value} {xs : List Value} (h : A.ownsRow base e size v n xs) (hk : ∀ k, v.ownBlock = some k → B.heap[k]? = A.heap[k]?) : B.ownsRow base e size v n xs := by
  refine ⟨h.1, ?_⟩
  rcases h.2 with hn | ⟨g, cap, cur, rfl, hg, hgg, rest⟩
  · exact .inl hn
  · exact .inr ⟨g, cap, cur, rfl, hg, (hk g rfl).trans hgg, rest⟩
theorem row_shape {A : World} {base : Nat} {e : TypeId} {size n : Nat} {v : Value} {xs : List Value} (h : A.ownsRow base e size v (n + 1) xs) : ∃ g cap, v = .slice (some ⟨g, 0, none⟩) (n + 1) cap := by
  rcases h.2 with ⟨_, h0⟩ | ⟨g, cap, cur, rfl, _⟩
  · omega
  · exact ⟨g, cap, rfl⟩
/-- What is appended to a row turns that row alone. -/
theorem rnd_append {W w1 : World} {o : Obj} {v v1 : Value} {base n : Nat} {e : TypeId} {size : Nat} {xs : List Value} (hown : w1.ownsRow base e size v1 n xs) (hg : (W.alloc o).grownBy w1 v.ownBlock) (hat : v1.ownBlock = v.ownBlock ∨ v1.ownBlock = some (W.alloc o).heap.size) : Rnd (rowS v) (rowS v1) W w1 := by
  have hsg := hg.size
  simp at hsg
  refine ⟨hg.os, hg.tape, hg.output, by omega, fun k hk hn => ?_, fun k hk => ?_⟩
  · exact (hg.block k (by simp; omega) (fun e => hn e.symm)).trans (Below.heap_alloc W o k hk)
  · rcases hat with h1 | h1
    · exact .inl (by unfold rowS at hk ⊢; rw [← h1]; exact hk)
    · have h2 := (hown.lt k hk).2
      unfold rowS at hk
      rw [h1] at hk
      simp at hk
      exact .inr ⟨by omega, h2⟩
theorem TreeW.rnd {W W' : World} {P : Program} {k T : TypeId} {base N : Nat} {F : Pic} (h : TreeW W P k T base N F) {S S2 : Nat → Prop} (hr : Rnd S S2 W W') (hS : ∀ k, MineD F k → ¬ S k) : TreeW W' P k T base N F := by
  refine ⟨fun ns x hx => ⟨(h.node ns x hx).1, (hr.same _ (h.lt hx) (hS _ ⟨ns, x, hx, .inl rfl⟩)).trans (h.node ns x hx).2⟩, fun ns x m hx hm => ⟨(h.kids ns x m hx hm).1, ?_⟩, h.leaf, h.gone, h.apart⟩
  obtain ⟨D, ⟨es, clock, h1, h2⟩, h3⟩ := (h.kids ns x m hx hm).2
  exact ⟨D, ⟨es, clock, (hr.same _ (h.mlt hx hm) (hS _ ⟨ns, x, hx, .inr hm⟩)).trans h1, h2⟩, h3⟩
/-- What collect owes at some names. -/
def CollAt (base N : Nat) (F : Pic) (L : List Ent) (ns : List (List UInt8)) (nd : Nd) : Prop :=
  ∀ (W : World) (v : Value) (pre : List Ent) (b0 : Nat), TreeW W Tryz.prog 9 113 base N F → W.ownsRow b0 52 5 v pre.length (ecells pre) → b0 ≤ W.heap.size → (∀ k, MineD F k → ¬ rowS v k) → pre.length + (underL L ns).length ≤ 2000000000000 →
    Calls Tryz.prog 49 #[.pointer (some ⟨nd.b, 0, none⟩), v] W fun e W2 => ∃ v2, e = .returned v2 ∧ W2.ownsRow b0 52 5 v2 (pre ++ underL L ns).length (ecells (pre ++ underL L ns)) ∧ Rnd (rowS v) (rowS v2) W W2
/-- Where the names lie. -/
theorem row_names {W : World} {b0 : Nat} {v : Value} {ys : List (List UInt8)} (h : W.ownsRow b0 9 1 v ys.length (ys.map encStr)) :
    ∃ (a : Option Addr) (cap g : Nat), v = .slice a ys.length cap ∧ (ys ≠ [] → a = some ⟨g, 0, none⟩) ∧ (ys ≠ [] → b0 ≤ g ∧ g < W.heap.size) ∧ ∀ i y, ys[i]? = some y → W.cell? ⟨g, i, none⟩ = some (.string (bs y)) := by
  rcases h.2 with ⟨rfl, h0⟩ | ⟨g, cap, cur, rfl, hg, hgb, hcap, _⟩
  · have : ys = [] := List.eq_nil_of_length_eq_zero h0
    subst this
    exact ⟨none, 0, 0, rfl, fun h => absurd rfl h, fun h => absurd rfl h, fun i y hy => by simp at hy⟩
  · refine ⟨some ⟨g, 0, none⟩, cap, g, rfl, fun _ => rfl, fun _ => ⟨hg, (Array.getElem?_eq_some_iff.1 hgb).1⟩, fun i y hy => ?_⟩
    have hi := (List.getElem?_eq_some_iff.1 hy).1
    have := h.cellAt i (by omega)
    rw [this, List.getElem?_map, hy]; rfl
/-- What is gathered when the first k names are done. -/
def gatL (F : Pic) (L : List Ent) (ns ys : List (List UInt8)) : List Ent := ys.flatMap fun y => entAt F (ns ++ [y]) :: underL L (ns ++ [y])
set_option maxRecDepth 100000 in
set_option maxHeartbeats 4000000 in
theorem coll_step (base N : Nat) (F : Pic) (L : List Ent) (hSay : Says F L) (hN : N ≤ 4398046511104) (ns : List (List UInt8)) (nd : Nd) (hnd : F ns = some nd)
    (IH : ∀ y x, F (ns ++ [y]) = some x → CollAt base N F L (ns ++ [y]) x) : CollAt base N F L ns nd := by
  intro W v pre b0 hT hrow hb0 hnm hlen
  obtain ⟨i0, hi, hz0, hz1, hz2⟩ := info_parts info_ent
  have hc5 : W.cell? ⟨nd.b, 5, none⟩ = some (.map nd.m) := node_cell (hT.node ns nd hnd).2 rfl
  have HT : Hid (TreeW W Tryz.prog 9 113 base N F) := hT
  have HROW : Hid (W.ownsRow b0 52 5 v pre.length (ecells pre)) := hrow
  have HNM : Hid (∀ k, MineD F k → ¬ rowS v k) := hnm
  have HVL : Hid (∀ k, rowS v k → b0 ≤ k ∧ k < W.heap.size) := fun k hk => hrow.lt k hk
  have HK : Hid (∀ m, nd.m = some m → KidsAt W Tryz.prog 9 m N (kidsOf F ns)) := fun m hm => (hT.kids ns nd m hnd hm).2
  have HK0 : Hid (nd.m = none → ∀ y, kidsOf F ns y = none) := fun h0 y => by simp [kidsOf, hT.leaf ns nd y hnd h0]
  have hbA : Below W.heap.size W (W.alloc (.cells #[.map nd.m] 111)) := (Below.refl _ _).alloc (Nat.le_refl _) _
  have HMIN : Hid (∀ k, MineD F k → k < W.heap.size) := fun k hk => by
    obtain ⟨ms, x, hx, rfl | hm⟩ := hk
    · exact hT.lt hx
    · exact hT.mlt hx hm
  clear hT hrow hnm
  go_enter Tryz.func49, Tryz.ntmps49
  go_wp2_with (first
    | (go_at_call 83; refine (callsIn_wide.1 (keys_c 5 nd.m W)).mono ?_; rintro e w' ⟨rfl, rfl⟩)
    | (go_at_call 82; refine (callsIn_wide.1 (sorted_c 5 nd.m N (kidsOf F ns) W HK.out HK0.out hN)).mono ?_; rintro e W0 ⟨u, ys, rfl, hys, hrow, hyl, hb9⟩; obtain ⟨a, cap, g, rfl, ha, hg, hcell⟩ := row_names hrow))
  have HB0 : Hid (Below W.heap.size W W0) := hbA.trans (hb9.mono (by simp))
  have hsz0 := HB0.out.size
  have HG : Hid (ys ≠ [] → W.heap.size < g ∧ g < W0.heap.size) := fun h => ⟨by have := (hg h).1; simp at this; omega, (hg h).2⟩
  have HC : Hid (∀ i y, ys[i]? = some y → W0.cell? ⟨g, i, none⟩ = some (.string (bs y))) := hcell
  have HF : Hid (underL L ns = gatL F L ns ys) := hSay.flat ns ys hys.1 (fun y => by rw [hys.2.1 y]; simp [kidsOf])
  have HY : Hid (∀ y ∈ ys, (∃ x, F (ns ++ [y]) = some x) ∧ y.length ≤ maxLen) := fun y hy => ⟨by
    have h1 := (hys.2.1 y).1 hy
    cases hx : F (ns ++ [y]) with
    | none => simp [kidsOf, hx] at h1
    | some x => exact ⟨x, rfl⟩, hys.2.2 y hy⟩
  have HND : Hid (F ns = some nd) := hnd
  have HIH : Hid (∀ y x, F (ns ++ [y]) = some x → CollAt base N F L (ns ++ [y]) x) := IH
  have HLEN : Hid (pre.length + (gatL F L ns ys).length ≤ 2000000000000) := by unfold Hid; rw [← HF.out]; exact hlen
  have HROW0 : Hid (W0.ownsRow b0 52 5 v pre.length (ecells pre)) := row_local HROW.out (fun k hk => HB0.out.block k (HVL.out k hk).2)
  clear hg hcell hys hrow hb9 hbA hSay hnd IH hc5 HK HK0 hlen HROW
  go_loopw [15, 1] (fun i l wr => ∃ (k : Nat) (v1 : Value), i = .int .i64 k ∧ v1 = l ∧ k ≤ ys.length ∧ wr.ownsRow b0 52 5 v1 (pre ++ gatL F L ns (ys.take k)).length (ecells (pre ++ gatL F L ns (ys.take k))) ∧ Rnd (rowS v) (rowS v1) W0 wr) (fun i _ _ => ys.length - (intOf i).toNat)
  case atStart => exact ⟨0, v, rfl, rfl, Nat.zero_le _, by simpa [gatL] using HROW0.out, Rnd.refl _ _⟩
  case round =>
    obtain ⟨k, v1, rfl, rfl, hk, hrow1, hr1⟩ := hrel
    have HR1 : Hid (Rnd (rowS v) (rowS v1) W0 wr) := hr1
    have HROW1 : Hid (wr.ownsRow b0 52 5 v1 (pre ++ gatL F L ns (ys.take k)).length (ecells (pre ++ gatL F L ns (ys.take k)))) := hrow1
    have hszr := hr1.size
    clear hrow1 hr1
    by_cases hlt : k < ys.length
    · have hlt' : (k : Int) < (ys.length : Int) := by omega
      have hk0 : (0 : Int) ≤ (k : Int) := by omega
      obtain ⟨y, hy⟩ : ∃ y, ys[k]? = some y := ⟨_, List.getElem?_eq_getElem hlt⟩
      have hyn : ys ≠ [] := fun e => by rw [e] at hlt; simp at hlt
      obtain rfl := ha hyn
      have hym : y ∈ ys := List.mem_of_getElem? hy
      obtain ⟨⟨x, hx⟩, hyl2⟩ := HY.out y hym
      have hgS : ¬ rowS v g := fun h => by
        have := (HVL.out g h).2
        have := (HG.out hyn).1
        omega
      have hcg : wr.cell? ⟨g, k, none⟩ = some (.string (bs y)) := by
        have hb := HR1.out.same g (HG.out hyn).2 hgS
        have := HC.out k y hy
        unfold World.cell? at this ⊢
        simp only [hb]; exact this
      have hTr : TreeW wr Tryz.prog 9 113 base N F := ((HT.out.below HB0.out).rnd HR1.out HNM.out)
      have hcn : wr.cell? ⟨nd.b, 5, none⟩ = some (.map nd.m) := node_cell (hTr.node ns nd HND.out).2 rfl
      have hlook : (Instr.lookup 111 (.map nd.m) (.string (bs y)) false).run Tryz.prog wr = .ok (.pointer (some ⟨x.b, 0, none⟩)) wr := by
        have := hTr.look (t := 111) Tryz.underlying9 Tryz.underlying111 rfl HND.out (s := bs y) (by rw [← un_length, un_bs]; exact hyl2)
        rw [this]
        show Result.ok (toPtr ((F (ns ++ [un (bs y)])).map Nd.b)) _ = _
        rw [un_bs, hx]; rfl
      have e0 : wr.cell? ⟨x.b, 0, none⟩ = some (.string x.e.path) := node_cell (hTr.node _ x hx).2 rfl
      have e1 : wr.cell? ⟨x.b, 1, none⟩ = some (.int .i64 x.e.kind) := node_cell (hTr.node _ x hx).2 rfl
      have e2 : wr.cell? ⟨x.b, 2, none⟩ = some (.int .i64 x.e.mode) := node_cell (hTr.node _ x hx).2 rfl
      have e3 : wr.cell? ⟨x.b, 3, none⟩ = some (.string x.e.data) := node_cell (hTr.node _ x hx).2 rfl
      have e4 : wr.cell? ⟨x.b, 4, none⟩ = some (.string x.e.link) := node_cell (hTr.node _ x hx).2 rfl
      have HTK : Hid (gatL F L ns (ys.take (k + 1)) = gatL F L ns (ys.take k) ++ x.e :: underL L (ns ++ [y])) := by
        unfold Hid gatL
        rw [List.take_add_one, hy]
        simp [entAt, hx]
      have hlenk : (pre ++ gatL F L ns (ys.take k)).length + 1 + (underL L (ns ++ [y])).length ≤ 2000000000000 := by
        have h1 := HLEN.out
        have h2 : gatL F L ns ys = gatL F L ns (ys.take (k + 1)) ++ gatL F L ns (ys.drop (k + 1)) := by
          unfold gatL
          rw [← List.flatMap_append, List.take_append_drop]
        rw [h2, HTK.out] at h1
        simp at h1 ⊢
        omega
      have HTR : Hid (TreeW wr Tryz.prog 9 113 base N F) := hTr
      have HX : Hid (F (ns ++ [y]) = some x) := hx
      have hb0r : b0 ≤ wr.heap.size := by omega
      have hSv1 : Hid (∀ k, MineD F k → ¬ rowS v1 k) := fun j hj h => by
        rcases HR1.out.more j h with h1 | h1
        · exact HNM.out j hj h1
        · have := HMIN.out j hj; omega
      have REC : ∀ v2 w1, w1.ownsRow b0 52 5 v2 ((pre ++ gatL F L ns (ys.take k)).length + 1) (ecells (pre ++ gatL F L ns (ys.take k)) ++ ecs x.e) → (wr.alloc (.cells #[.string x.e.path, .int .i64 x.e.kind, .int .i64 x.e.mode, .string x.e.data, .string x.e.link] 52)).grownBy w1 v1.ownBlock → (v2.ownBlock = v1.ownBlock ∨ v2.ownBlock = some (wr.alloc (.cells #[.string x.e.path, .int .i64 x.e.kind, .int .i64 x.e.mode, .string x.e.data, .string x.e.link] 52)).heap.size) →
          Rnd (rowS v1) (rowS v2) wr w1 ∧ Calls Tryz.prog 49 #[.pointer (some ⟨x.b, 0, none⟩), v2] w1 fun e W2 => ∃ v3, e = .returned v3 ∧ W2.ownsRow b0 52 5 v3 (pre ++ gatL F L ns (ys.take (k + 1))).length (ecells (pre ++ gatL F L ns (ys.take (k + 1)))) ∧ Rnd (rowS v2) (rowS v3) w1 W2 := by
        intro v2 w1 hown hgr hat
        have hr2 := rnd_append hown hgr hat
        refine ⟨hr2, ?_⟩
        have hS2 : ∀ k, MineD F k → ¬ rowS v2 k := fun j hj h => by
          rcases hr2.more j h with h1 | h1
          · exact hSv1.out j hj h1
          · have := HMIN.out j hj; omega
        have := HIH.out y x HX.out w1 v2 (pre ++ gatL F L ns (ys.take k) ++ [x.e]) b0 (HTR.out.rnd hr2 hSv1.out) (by
          rw [List.length_append, ecells_append]
          simpa [ecells] using hown) (by have := hr2.size; omega) hS2 (by simp at hlenk ⊢; omega)
        rw [HTK.out]
        simpa using this
      have hN1 : (pre ++ gatL F L ns (ys.take k)).length ≤ 2000000000000 := by omega
      clear hy hx hym hgS hTr ha hlenk
      have HROW2 := HROW1.out
      clear HROW1
      generalize pre ++ gatL F L ns (ys.take k) = G at *
      have HREC : Hid _ := REC
      clear REC HLEN HIH HY HC HG HT HNM HVL HND
      go_wp2_with (first
        | (at_builtin; refine wpList_append_own_at _ rfl _ _ 22 rfl b0 52 i0 (.agg #[.string ⟨#[]⟩, .int .i64 0, .int .i64 0, .string ⟨#[]⟩, .string ⟨#[]⟩]) 5 64 Tryz.underlying22 hi hz0 hz1 hz2 rfl (by decide) _ _ _ rfl (HROW2.alloc _) ⟨wr.heap.size, 0, none⟩ 1 1 (ecs x.e) rfl rfl (ent_cells (ent_new wr _ x.e)) (ent_one x.e) (by unfold maxLen; omega) (by omega) (by simp; omega) ?_; intro v2 w1 hown1 hgrow1 hcap1 hat1; obtain ⟨g1, cap1, rfl⟩ := row_shape hown1; obtain ⟨hr2, hC2⟩ := HREC.out _ w1 hown1 hgrow1 hat1)
        | (go_at_call 49; refine hC2.mono ?_; rintro e w2 ⟨v3, rfl, hrow3, hr3⟩))
      go_roundw
      case rel =>
        exact ⟨k + 1, v3, by go_num, rfl, by omega, hrow3, (HR1.out.trans hr2).trans hr3⟩
      case measure => simp [intOf]; omega
    · have hge : ¬ (k : Int) < (ys.length : Int) := by omega
      have HALL : Hid (ys.take k = ys) := List.take_of_length_le (by omega)
      go_wp2
      go_ret
      refine ⟨v1, rfl, ?_, (Rnd.of_below HB0.out).trans HR1.out⟩
      rw [HF.out, ← List.length_append]; have := HROW1.out; rw [HALL.out] at this; exact this
theorem coll_p (base N : Nat) (F : Pic) (L : List Ent) (hSay : Says F L) (hN : N ≤ 4398046511104) (ns : List (List UInt8)) (nd : Nd) (hnd : F ns = some nd) : CollAt base N F L ns nd := by
  have hD : ∃ D, ∀ ns x, F ns = some x → ns.length ≤ D := by
    have : ∃ D, ∀ e ∈ L, (namesP e.path).length ≤ D := by
      clear hSay
      induction L with
      | nil => exact ⟨0, by simp⟩
      | cons a L ih =>
        obtain ⟨D, hD⟩ := ih
        refine ⟨D + (namesP a.path).length, fun e he => ?_⟩
        rcases List.mem_cons.1 he with rfl | he
        · omega
        · have := hD e he; omega
    obtain ⟨D, hD⟩ := this
    refine ⟨D, fun ns x hx => ?_⟩
    by_cases h0 : ns = []
    · subst h0; simp
    · obtain ⟨h1, h2⟩ := hSay.of' ns x h0 hx
      rw [← h2]; exact hD _ h1
  obtain ⟨D, hD⟩ := hD
  have main : ∀ d ns nd, F ns = some nd → D ≤ ns.length + d → CollAt base N F L ns nd := by
    intro d
    induction d with
    | zero =>
      intro ns nd hnd hd
      refine coll_step base N F L hSay hN ns nd hnd (fun y x hx => ?_)
      have := hD _ x hx
      simp at this; omega
    | succ d ih =>
      intro ns nd hnd hd
      exact coll_step base N F L hSay hN ns nd hnd (fun y x hx => ih _ x hx (by simp; omega))
  exact main D ns nd hnd (by omega)
end Go.Proofs.YtgildlfanfbebaaGreatDoor

namespace Go.Proofs.YtgildlfanfbebaaGreatDoor
open Go Go.RowKit Go.Shelf

/-- What Check answers. -/
def chkV (es : List Ent) : Value := if (checkGo [] es).1 = 0 then .nilIface else fltA (checkGo [] es).1 (checkGo [] es).2
set_option maxRecDepth 100000 in
theorem check_t (v : Value) (es : List Ent) (w : World) (hg : ErrType w) (hv : EntsAt w v es) (hl : es.length ≤ 4611686018427387904) (hp : ∀ e ∈ es, e.path.size < 1152921504606846976) :
    Calls Tryz.prog 25 #[v] w fun e w' => e = .returned (chkV es) ∧ Below w.heap.size w w' := by
  have hG := grow_p v es w hg hv hl hp
  by_cases hc : (checkGo [] es).1 = 0
  · have HV : Hid (chkV es = .nilIface) := if_pos hc
    have HC : Hid ((checkGo [] es).1 = 0) := hc
    clear hc
    go_enter Tryz.func25, Tryz.ntmps25
    go_wp2_with (go_at_call 53; refine hG.mono ?_; rintro e w1 ⟨hb, h1⟩; obtain ⟨_, tb, F, rfl, hT⟩ := h1.resolve_right (fun h => h.1 HC.out))
    go_ret
    exact ⟨congrArg Ending.returned HV.out.symm, hb⟩
  · have HV : Hid (chkV es = fltA (checkGo [] es).1 (checkGo [] es).2) := if_neg hc
    have HC : Hid ((checkGo [] es).1 ≠ 0) := hc
    clear hc
    go_enter Tryz.func25, Tryz.ntmps25
    go_wp2_with (go_at_call 53; refine hG.mono ?_; rintro e w1 ⟨hb, h1⟩; obtain ⟨_, rfl⟩ := h1.resolve_left (fun h => HC.out h.1))
    go_ret
    exact ⟨congrArg Ending.returned HV.out.symm, hb⟩

/-- An error with its place: its number, line, at. -/
def errF (f : Int × Int × Int) : Value := if f.1 = 0 then .nilIface else fltL f.1 f.2.1 f.2.2
def applyGo : List Ent → List Chg → Nat → (Int × Int × Int) × List Ent
  | L, [], k => if overB L then ((5, 1, k), []) else ((0, 0, 0), L)
  | L, c :: r, k => if doN L c ≠ 0 then ((doN L c, 1, k), []) else applyGo (doL L c) r (k + 1)
/-- What Apply answers: the error, the entries. -/
def applyR (t : List Ent) (l : List Chg) : (Int × Int × Int) × List Ent := if (checkGo [] t).1 ≠ 0 then (((checkGo [] t).1, 0, (checkGo [] t).2), []) else applyGo t l 0
def ApplyPost (t : List Ent) (l : List Chg) (w : World) (e : Ending) (w' : World) : Prop :=
  ∃ u, e = .returned (.tuple #[u, errF (applyR t l).1]) ∧ w'.ownsRow w.heap.size 52 5 u (applyR t l).2.length (ecells (applyR t l).2) ∧ Below w.heap.size w w'
theorem doL_len (L : List Ent) (c : Chg) : (doL L c).length ≤ L.length + 1 := by
  unfold doL
  split
  · exact Nat.le_succ_of_le (List.length_filter_le _ _)
  · unfold laidL
    have key : ∀ L : List Ent, (L.filter (fun x => decide (compareN x.path c.e.path < 0))).length + (L.filter (fun x => decide (0 < compareN x.path c.e.path))).length ≤ L.length := by
      intro L
      induction L with
      | nil => simp
      | cons a L ih =>
        rw [List.filter_cons, List.filter_cons]
        split <;> split
        · rename_i h1 h2; simp at h1 h2; omega
        all_goals (simp only [List.length_cons]; omega)
    have := key L
    simp only [List.length_append, List.length_cons]
    omega
theorem tree_few {t : List Ent} (h : (checkGo [] t).1 = 0) : t.length ≤ 4096 ∧ bytesL t ≤ 16777216 := by
  rcases List.eq_nil_or_concat t with rfl | ⟨l, d, rfl⟩
  · simp [bytesL]
  · have hd : (l.concat d)[l.length]? = some d := by simp
    have hp := (tree_one h hd).2.2
    have hb := tree_behind h hd
    have ht : (l.concat d).take l.length = l := by simp
    rw [ht] at hp hb
    unfold putN at hp
    split at hp
    · rename_i h1; exact absurd hp h1
    · unfold manyN at hp
      rw [put_end hb] at hp
      simp only at hp
      split at hp
      · cases hp
      · rename_i h2
        have e1 : bytesL (l.concat d) = bytesL l + d.data.size := by simp [bytesL]
        rw [e1]
        simp only [List.concat_eq_append, List.length_append, List.length_singleton]
        omega
set_option maxRecDepth 100000 in
set_option maxHeartbeats 4000000 in
theorem apply_no (v cv : Value) (t : List Ent) (l : List Chg) (w : World) (hg : ErrType w) (hv : EntsAt w v t) (hl : t.length ≤ 4611686018427387904) (hp : ∀ e ∈ t, e.path.size < 1152921504606846976) (hc : (checkGo [] t).1 ≠ 0) :
    Calls Tryz.prog 19 #[v, cv] w (ApplyPost t l w) := by
  have hC := check_t v t w hg hv hl hp
  have HV : Hid (chkV t = fltA (checkGo [] t).1 (checkGo [] t).2) := if_neg hc
  have HR : Hid (applyR t l = (((checkGo [] t).1, (0 : Int), ((checkGo [] t).2 : Int)), ([] : List Ent)) ∧ (checkGo [] t).1 ≠ 0) := ⟨if_pos hc, hc⟩
  rw [HV.out] at hC
  unfold fltA at hC
  clear hv hp hc
  go_enter Tryz.func19, Tryz.ntmps19
  go_wp2_with (go_at_call 25; refine hC.mono ?_; rintro e w1 ⟨rfl, h1⟩)
  go_ret2
  refine ⟨.slice none 0 0, ?_, ?_, h1⟩
  · rw [HR.out.1]; unfold errF; rw [if_neg HR.out.2]; rfl
  · rw [HR.out.1]; exact World.ownsRow_nil _ _ _ _
set_option maxRecDepth 100000 in
set_option maxHeartbeats 4000000 in
theorem apply_ok (v cv : Value) (t : List Ent) (l : List Chg) (w : World) (hg : ErrType w) (hv : EntsAt w v t) (hcv : ChgsAt w cv l) (hl : l.length ≤ 1700000000000) (hp : ∀ e ∈ t, e.path.size < 1152921504606846976) (hcp : ∀ c ∈ l, c.path.size < 1152921504606846976 ∧ c.e.path.size < 1152921504606846976) (hc : (checkGo [] t).1 = 0) :
    Calls Tryz.prog 19 #[v, cv] w (ApplyPost t l w) := by
  have hfew := (tree_few hc).1
  have hC := check_t v t w hg hv (by omega) hp
  have HV : Hid (chkV t = .nilIface) := if_pos hc
  have HR : Hid (applyR t l = applyGo t l 0) := if_neg (by simpa using hc)
  rw [HV.out] at hC
  have hGR := fun W (hb : Below w.heap.size w W) => grown_d v t W (hv.below hb) hc (by omega)
  have HCV : Hid (ChgsAt w cv l) := hcv
  have HCP : Hid (∀ c ∈ l, c.path.size < 1152921504606846976 ∧ c.e.path.size < 1152921504606846976) := hcp
  have HG : Hid (ErrType w) := hg
  obtain ⟨ac, capc, bc, oc, rfl, hac, hcapc, hcc⟩ := hcv
  clear hv hp hc hcp hg hcc
  go_enter Tryz.func19, Tryz.ntmps19
  go_wp2_with (first
    | (go_at_call 25; refine hC.mono ?_; rintro e w1 ⟨rfl, h1⟩)
    | (go_at_call 46; refine (hGR _ h1).mono ?_; rintro e w2 ⟨b, F0, rfl, hT2, hb2⟩))
  have HB2 : Hid (Below w.heap.size w w2) := below_join h1 hb2
  have HBA : Hid (w.heap.size ≤ w1.heap.size ∧ w1.heap.size ≤ w2.heap.size) := ⟨h1.size, hb2.size⟩
  have HT2 : Hid (TreeD w2 b w1.heap.size t.length F0 t) := hT2
  clear hC hGR hT2 hb2 h1
  go_loopw [21] (fun i wr => ∃ (k : Nat) (F : Pic) (L : List Ent), i = .int .i64 k ∧ k ≤ l.length ∧ TreeD wr b w1.heap.size (t.length + k) F L ∧ applyGo t l 0 = applyGo L (l.drop k) k ∧ L.length ≤ t.length + k ∧ Below w.heap.size w wr) (fun i _ => l.length - (intOf i).toNat)
  case atStart => exact ⟨0, F0, t, rfl, Nat.zero_le _, HT2.out, by simp, Nat.le_refl _, HB2.out⟩
  case round =>
    obtain ⟨k, F, L, rfl, hk, hT, hap, hLl, hB⟩ := hrel
    have HT : Hid (TreeD wr b w1.heap.size (t.length + k) F L) := hT
    have HB : Hid (Below w.heap.size w wr) := hB
    by_cases hlt : k < l.length
    · have hlt' : (k : Int) < (l.length : Int) := by omega
      have hk0 : (0 : Int) ≤ (k : Int) := by omega
      obtain ⟨c, hc⟩ : ∃ c, l[k]? = some c := ⟨_, List.getElem?_eq_getElem hlt⟩
      have HDR : Hid (l.drop k = c :: l.drop (k + 1)) := by
        unfold Hid
        rw [List.drop_eq_getElem_cons hlt]
        rw [List.getElem?_eq_getElem hlt] at hc
        rw [Option.some.inj hc]
      have hcs := HCP.out c (List.mem_of_getElem? hc)
      obtain ⟨a2, cap2, b2, o2, e2, ha2, _, hc2⟩ := HCV.out.below hB
      cases e2
      obtain rfl := ha2 (fun e => by rw [e] at hlt; simp at hlt)
      obtain ⟨d0, d1, d2, d3, d4, d5, d6⟩ := hc2 k c hc
      have hDO := fun W (hb : Below wr.heap.size wr W) => do_d b w1.heap.size (t.length + k) F L c hcs.1 hcs.2 W (hT.below hb) (by omega)
      have hbA : Below wr.heap.size wr (wr.alloc (.cells #[.string c.path, .bool c.gone, .string c.e.path, .int .i64 c.e.kind, .int .i64 c.e.mode, .string c.e.data, .string c.e.link] 54)) := (Below.refl _ _).alloc (Nat.le_refl _) _
      have HAP : Hid (applyGo t l 0 = applyGo L (l.drop k) k) := hap
      have hEC : ChgC (wr.alloc (.cells #[.string c.path, .bool c.gone, .string c.e.path, .int .i64 c.e.kind, .int .i64 c.e.mode, .string c.e.data, .string c.e.link] 54)) wr.heap.size 0 c := chg_new wr _ c
      clear hc2 ha2 hac hT hB hap hc
      unfold chgV at hDO
      by_cases hz : doN L c = 0
      · have hDO2 : ∀ W, Below wr.heap.size wr W → Calls Tryz.prog 47 #[.pointer (some ⟨b, 0, none⟩), .agg #[.string c.path, .bool c.gone, .string c.e.path, .int .i64 c.e.kind, .int .i64 c.e.mode, .string c.e.data, .string c.e.link]] W fun e w' => e = .returned .nilIface ∧ ∃ F', TreeD w' b w1.heap.size (t.length + k + 1) F' (doL L c) ∧ Rnd (MineD F) (MineD F') W w' := fun W hb => (hDO W hb).mono (by
          rintro e w' ⟨rfl, hh⟩
          rw [hz] at hh ⊢
          rcases hh with ⟨h1, _⟩ | ⟨_, h2⟩
          · exact absurd rfl h1
          · exact ⟨rfl, h2⟩)
        have HZ : Hid (doN L c = 0) := hz
        clear hDO hz
        go_wp2_with (go_at_call 47; refine (hDO2 _ hbA).mono ?_; rintro e w3 ⟨rfl, F', hT3, hr3⟩)
        go_roundw
        case rel =>
          refine ⟨k + 1, F', doL L c, by go_num, by omega, hT3, ?_, ?_, ?_⟩
          · rw [HAP.out, HDR.out, applyGo, if_neg (by simpa using HZ.out)]
          · have := doL_len L c; omega
          · have hs := HBA.out.1
            have hbw : Below w.heap.size w (wr.alloc (.cells #[.string c.path, .bool c.gone, .string c.e.path, .int .i64 c.e.kind, .int .i64 c.e.mode, .string c.e.data, .string c.e.link] 54)) := below_join HB.out hbA
            exact hbw.trans (hr3.below hbw.size (fun j hj => by have := (HT.out.mine j hj).1; omega))
        case measure => simp [intOf]; omega
      · have hDO2 : ∀ W, Below wr.heap.size wr W → Calls Tryz.prog 47 #[.pointer (some ⟨b, 0, none⟩), .agg #[.string c.path, .bool c.gone, .string c.e.path, .int .i64 c.e.kind, .int .i64 c.e.mode, .string c.e.data, .string c.e.link]] W fun e w' => e = .returned (.iface 77 (.int .i64 (doN L c))) ∧ Below W.heap.size W w' := fun W hb => (hDO W hb).mono (by
          rintro e w' ⟨rfl, hh⟩
          rcases hh with ⟨_, h2⟩ | ⟨h1, _⟩
          · exact ⟨by rw [errE_some hz], h2⟩
          · exact absurd h1 hz)
        have HZ : Hid (applyR t l = ((doN L c, 1, (k : Int)), []) ∧ doN L c ≠ 0) := ⟨by rw [HR.out, HAP.out, HDR.out, applyGo, if_pos hz], hz⟩
        clear hDO hz
        generalize doN L c = n at *
        go_wp2_with (first
          | (go_at_call 47; refine (hDO2 _ hbA).mono ?_; rintro e w3 ⟨rfl, h3⟩; have hg3 := HG.out.below (below_join (below_join HB.out hbA) h3))
          | (go_at_call 48; refine (atChange_i n k _ hg3).mono ?_; rintro e w4 ⟨rfl, h4⟩))
        go_ret2
        refine ⟨.slice none 0 0, ?_, ?_, below_join (below_join (below_join HB.out hbA) h3) h4⟩
        · rw [HZ.out.1]; unfold errF; rw [if_neg HZ.out.2]; rfl
        · rw [HZ.out.1]; exact World.ownsRow_nil _ _ _ _
    · have hge : ¬ (k : Int) < (l.length : Int) := by omega
      have hkl : k = l.length := by omega
      obtain ⟨rt, rm, hrt, hrb, hrm⟩ := hT.root
      have hsz : w.heap.size ≤ wr.heap.size := hB.size
      have hCO := coll_p w1.heap.size (t.length + k) F L hT.says (by omega) [] rt hrt wr (.slice none 0 0) [] w.heap.size hT.tree (World.ownsRow_nil _ _ _ _) hsz (fun j _ h => by simp [rowS, Value.ownBlock] at h) (by rw [hT.says.all]; simp; omega)
      rw [hT.says.all, hrb] at hCO
      simp only [List.nil_append] at hCO
      have HLL : Hid (L.length ≤ 2000000000000 ∧ ∀ e ∈ L, e.data.size ≤ 1048576) := ⟨by omega, fun e he => wrong_data (hT.right e he)⟩
      have HEND : Hid (applyR t l = applyGo L [] l.length) := by
        unfold Hid
        rw [HR.out, hap, hkl, List.drop_length]
      clear hT hB hap hrt hrb hrm
      cases hov : overB L with
      | true =>
        have HRR : Hid (applyR t l = ((5, 1, (l.length : Int)), [])) := by unfold Hid; rw [HEND.out, applyGo, if_pos hov]
        have HOV : Hid (overB L = true) := hov
        clear hov
        go_wp2_with (first
          | (go_at_call 49; refine hCO.mono ?_; rintro e w3 ⟨u, rfl, hrow, hr3⟩; have hb3 : Below wr.heap.size wr w3 := hr3.below (Nat.le_refl _) (fun j h => by simp [rowS, Value.ownBlock] at h))
          | (go_at_call 50; refine (tooMuch_d u L _ (ents_of_owns hrow) HLL.out.1 HLL.out.2).mono ?_; rintro e w4 ⟨rfl, h4⟩; rw [HOV.out]; have hg4 := HG.out.below (below_join (below_join HB.out hb3) h4))
          | (go_at_call 48; refine (atChange_i 5 (l.length : Nat) _ hg4).mono ?_; rintro e w5 ⟨rfl, h5⟩))
        go_ret2
        refine ⟨.slice none 0 0, ?_, ?_, below_join (below_join (below_join HB.out hb3) h4) h5⟩
        · rw [HRR.out]; rfl
        · rw [HRR.out]; exact World.ownsRow_nil _ _ _ _
      | false =>
        have HRR : Hid (applyR t l = ((0, 0, 0), L)) := by unfold Hid; rw [HEND.out, applyGo, if_neg (by simp [hov])]
        have HOV : Hid (overB L = false) := hov
        clear hov
        go_wp2_with (first
          | (go_at_call 49; refine hCO.mono ?_; rintro e w3 ⟨u, rfl, hrow, hr3⟩; have hb3 : Below wr.heap.size wr w3 := hr3.below (Nat.le_refl _) (fun j h => by simp [rowS, Value.ownBlock] at h))
          | (go_at_call 50; refine (tooMuch_d u L _ (ents_of_owns hrow) HLL.out.1 HLL.out.2).mono ?_; rintro e w4 ⟨rfl, h4⟩; rw [HOV.out]))
        go_ret2
        refine ⟨u, ?_, ?_, below_join (below_join HB.out hb3) h4⟩
        · rw [HRR.out]; rfl
        · rw [HRR.out]; exact row_local hrow (fun j hj => h4.block j (hrow.lt j hj).2)
theorem apply_d (v cv : Value) (t : List Ent) (l : List Chg) (w : World) (hg : ErrType w) (hv : EntsAt w v t) (hcv : ChgsAt w cv l) (hlt : t.length ≤ 4611686018427387904) (hl : l.length ≤ 1700000000000) (hp : ∀ e ∈ t, e.path.size < 1152921504606846976) (hcp : ∀ c ∈ l, c.path.size < 1152921504606846976 ∧ c.e.path.size < 1152921504606846976) :
    Calls Tryz.prog 19 #[v, cv] w (ApplyPost t l w) := by
  by_cases hc : (checkGo [] t).1 = 0
  · exact apply_ok v cv t l w hg hv hcv hl hp hcp hc
  · exact apply_no v cv t l w hg hv hlt hp hc
end Go.Proofs.YtgildlfanfbebaaGreatDoor
