/- Where a line ends; the next line that says something. -/
import Derived.Test.YtjgijbeedgggdaaGreatDoorTrW
import Derived.Test.YtjgijbeedgggdaaGreatDoorByM
namespace Go.Proofs.YtjgijbeedgggdaaGreatDoor
open Go Go.RowKit

theorem take_last (x : Ln) (k : Nat) (hk : 0 < k) (hl : k ≤ x.length) : (bs (x.take k)).size = k ∧ (un (bs (x.take k)))[k - 1]? = x[k - 1]? := by
  refine ⟨by rw [size_bs, List.length_take]; omega, ?_⟩
  rw [un_bs, List.getElem?_take, if_pos (by omega)]
set_option maxRecDepth 100000 in
set_option maxHeartbeats 1000000 in
theorem end_p (n : Nat) (x : ByteArray) (ec : UInt8) (w : World) (hs : x.size ≤ 1099511627776) : Calls Tryz.prog 141 #[flV n x, .int .u8 ec.toNat] w fun e w' => e = .returned (.tuple #[.int .i64 (edN ec 0 (un x)), .bool (goesOn ec 0 (un x))]) ∧ Below w.heap.size w w' := by
  have hB : Below w.heap.size w (w.alloc (.cells #[.int .i64 n, .string x] 155)) := (Below.refl _ w).alloc (Nat.le_refl _) _
  have hL : Lies (w.alloc (.cells #[.int .i64 n, .string x] 155)) w.heap.size 155 #[.int .i64 n, .string x] := Lies.new w _ _
  have c1 := hL.cell (i := 1) rfl
  have hT := fun W => trimR_p x W (by omega)
  have hen := en_le (un x)
  rw [un_length] at hen
  have HG : Hid (goesOn ec 0 (un x) = (decide (0 < en (un x)) && (un x)[en (un x) - 1]? == some ec)) := rfl
  have HE : Hid (edN ec 0 (un x) = if goesOn ec 0 (un x) = true then en (un x) - 1 else x.size) := by unfold Hid edN; rw [un_length]
  unfold flV flC
  by_cases h0 : en (un x) = 0
  · rw [h0] at hT
    rw [HE.out, HG.out, h0]
    have e0 : (bs ((un x).take 0)) = ⟨#[]⟩ := rfl
    rw [e0] at hT
    go_enter Tryz.func141, Tryz.ntmps141
    go_wp2_with (go_at_call 133; refine (hT _).mono ?_)
    rintro e w1 ⟨rfl, b1⟩
    have l1 := (hL.below b1).cell (i := 1) rfl
    go_wp2
    go_ret2
    exact ⟨rfl, below_join hB b1⟩
  · obtain ⟨z1, z2⟩ := take_last (un x) (en (un x)) (by omega) (by rw [un_length]; omega)
    have hk : en (un x) - 1 < (un x).length := by rw [un_length]; omega
    have hb : (un x)[en (un x) - 1]? = some (un x)[en (un x) - 1] := List.getElem?_eq_getElem hk
    rw [hb] at z2
    generalize hbb : (un x)[en (un x) - 1] = b at *
    rw [hb] at HG
    have HG2 : Hid (goesOn ec 0 (un x) = decide (b = ec)) := by
      unfold Hid; rw [HG.out, decide_eq_true (by omega)]
      by_cases h : b = ec
      · subst h; simp
      · rw [decide_eq_false h]; simp [h]
    generalize hE : bs ((un x).take (en (un x))) = E at *
    generalize hN : en (un x) = N at *
    have n1 : E.toList.isEmpty = false := (isEmpty_false E).2 (by omega)
    have n2 : (E.toList == (⟨#[]⟩ : ByteArray).toList) = false := by
      cases hq : E.toList with
      | nil => rw [hq] at n1; cases n1
      | cons _ _ => rw [toList_un (⟨#[]⟩ : ByteArray)]; rfl
    have d1 : (0 : Int) ≤ (N : Int) - 1 := by omega
    have d2 : (N : Int) - 1 < (E.size : Int) := by omega
    have z3 : E[N - 1]'(by omega) = b := by
      have := un_getElem? E (N - 1) (by omega)
      rw [z2] at this; exact (Option.some.inj this).symm
    have z4 : (E.size : Int) = (N : Int) := by omega
    have hw : IntKind.i64.wrap ((N : Int) - 1) = ((N - 1 : Nat) : Int) := by rw [wrap_small _ (by omega) (by omega)]; omega
    have d3 : ((N - 1 : Nat) : Int) < (N : Int) := by omega
    have d4 : (0 : Int) ≤ ((N - 1 : Nat) : Int) := by omega
    have hbq := beq_b88 b ec
    by_cases hbe : b = ec
    · rw [decide_eq_true hbe] at hbq
      rw [HE.out, HG2.out, decide_eq_true hbe, if_pos rfl]
      go_enter Tryz.func141, Tryz.ntmps141
      go_wp2_with (go_at_call 133; refine (hT _).mono ?_; rintro e w1 ⟨rfl, b1⟩; have l1 := (hL.below b1).cell (i := 1) rfl)
      go_ret2
      exact ⟨rfl, below_join hB b1⟩
    · rw [decide_eq_false hbe] at hbq
      rw [HE.out, HG2.out, decide_eq_false hbe, if_neg (by decide)]
      go_enter Tryz.func141, Tryz.ntmps141
      go_wp2_with (go_at_call 133; refine (hT _).mono ?_; rintro e w1 ⟨rfl, b1⟩; have l1 := (hL.below b1).cell (i := 1) rfl)
      go_ret2
      exact ⟨rfl, below_join hB b1⟩

theorem Oth.row {B : Nat} {w W : World} (h : Oth B w W) {g : Nat} (hg : w.heap.size ≤ g) (cs : Array Value) : Oth B w (W.setRow g cs) :=
  ⟨h.os, h.tape, h.output, by simpa [World.setRow] using h.size, fun k h1 h2 => (setRow_other W g k cs (by omega)).trans (h.block k h1 h2)⟩
theorem Oth.alloc {B : Nat} {w W : World} (h : Oth B w W) (o : Obj) : Oth B w (W.alloc o) := h.on ((Below.refl _ _).alloc (Nat.le_refl _) _)
/-- The next line from the c-th on that says something: its number. -/
def nextS (f : List Ln) : Nat → Nat → Option Nat
  | 0, _ => none
  | fu + 1, c => match f[c]? with
    | none => none
    | some x => if noth x = true then nextS f fu (c + 1) else some c
theorem nextS_step {f : List Ln} {d : Nat} {x : Ln} (h : f[d]? = some x) (fu : Nat) : nextS f (fu + 1) d = if noth x = true then nextS f fu (d + 1) else some d := by
  rw [nextS, h]
theorem segs_len (acc s : Ln) : ∀ x ∈ segsG acc s, x.length ≤ acc.length + s.length := by
  induction s generalizing acc with
  | nil =>
    intro x hx
    rw [segsG] at hx
    split at hx
    · cases hx
    · rw [List.mem_singleton.1 hx]; omega
  | cons b s ih =>
    intro x hx
    rw [segsG] at hx
    split at hx
    · rcases List.mem_cons.1 hx with rfl | hx
      · omega
      · have := ih [] x hx; simp at this ⊢; omega
    · have := ih _ x hx; simp at this ⊢; omega
theorem cut_len (s : Ln) : ∀ x ∈ cutL s, x.length ≤ s.length := by
  intro x hx
  obtain ⟨y, hy, rfl⟩ := List.mem_map.1 hx
  have := segs_len [] s y hy
  have := trimR_le y
  simp at *; omega
set_option maxRecDepth 100000 in
set_option maxHeartbeats 1000000 in
theorem saying_p (B : Nat) (s : ByteArray) (p c : Nat) (w : World) (h : Rd w B s p c) (hA : Stands (un s) p c) (hs : s.size ≤ 1099511627776) (hc : (cutL (un s)).length ≤ 1099511627776) (hcl : c ≤ (cutL (un s)).length) :
    Calls Tryz.prog 91 #[ptr B] w fun e w' => ∃ q d, Rd w' B s q d ∧ Stands (un s) q d ∧ Oth B w w' ∧ c ≤ d ∧ d ≤ (cutL (un s)).length ∧
      ((nextS (cutL (un s)) ((cutL (un s)).length + 1) c = none ∧ (cutL (un s)).length ≤ d ∧ e = .returned (.tuple #[flV 0 ⟨#[]⟩, .bool false])) ∨
       (∃ j x, nextS (cutL (un s)) ((cutL (un s)).length + 1) c = some j ∧ (cutL (un s))[j]? = some x ∧ noth x = false ∧ d = j + 1 ∧ e = .returned (.tuple #[flV (j + 1) (bs x), .bool true]))) := by
  have hBw : B < w.heap.size := h.lt
  have hr := h.alloc (.cells #[.int .i64 0, .string ⟨#[]⟩] 155)
  have hL0 := Lies.new w 155 #[.int .i64 0, .string ⟨#[]⟩]
  have hO0 : Oth B w (w.alloc (.cells #[.int .i64 0, .string ⟨#[]⟩] 155)) := Oth.of ((Below.refl _ w).alloc (Nat.le_refl _) _)
  go_enter Tryz.func91, Tryz.ntmps91
  go_wp2
  go_loopw [3] (fun t wr => t = .bool false ∧ ∃ q d, Rd wr B s q d ∧ Stands (un s) q d ∧ Oth B w wr ∧ Lies wr w.heap.size 155 #[.int .i64 0, .string ⟨#[]⟩] ∧ c ≤ d ∧ d ≤ (cutL (un s)).length ∧ nextS (cutL (un s)) ((cutL (un s)).length + 1) c = nextS (cutL (un s)) ((cutL (un s)).length + 1 - (d - c)) d) (fun _ wr => (cutL (un s)).length + 1 - (intOf ((wr.cell? ⟨B, 2, none⟩).getD undef)).toNat)
  case atStart => exact ⟨rfl, p, c, hr, hA, hO0, hL0, Nat.le_refl _, by omega, by simp⟩
  case round =>
    obtain ⟨rfl, q, d, hr1, hA1, hO1, hL1, hcd, hdl, hN⟩ := hrel
    have hs1 := hO1.size
    cases hx : (cutL (un s))[d]? with
    | none =>
      have hT := take_no B s q d _ hr1 hA1 hx
      go_wp2_with fail
      refine hT.mono ?_
      rintro e w1 ⟨rfl, b1⟩
      have hr2 := Rd.below hr1 b1
      have hL2 := hL1.below b1
      have hO2 := hO1.on b1
      have hne : w.heap.size ≠ w1.heap.size := by have := hL2.lt; omega
      have hne2 : B ≠ w1.heap.size := by have := hO2.size; omega
      have hL3 := lies_setRow' (hL2.alloc (.cells #[.int .i64 0, .string ⟨#[]⟩] 155)) hne (flC 0 ⟨#[]⟩)
      have hr3 := lies_setRow' (Lies.alloc hr2 (.cells #[.int .i64 0, .string ⟨#[]⟩] 155)) hne2 (flC 0 ⟨#[]⟩)
      have hM3 := lies_setRow (Lies.new w1 155 #[.int .i64 0, .string ⟨#[]⟩]) (flC 0 ⟨#[]⟩)
      have hB3 : Below w1.heap.size w1 ((w1.alloc (.cells #[.int .i64 0, .string ⟨#[]⟩] 155)).setRow w1.heap.size (flC 0 ⟨#[]⟩)) := below_setRow' ((Below.refl _ _).alloc (Nat.le_refl _) _) (Nat.le_refl _) _
      have hO3 := hO2.on hB3
      have m0 := hM3.cell (i := 0) rfl
      have m1 := hM3.cell (i := 1) rfl
      go_wp2_with (first
        | (refine wpList_store_row rfl 155 (.tmp 4) (.tmp 9) rfl w1.heap.size (flC 0 ⟨#[]⟩) rfl rfl 155 _ (Lies.new w1 _ _) fl_info rfl (fl_one _ _) ?_)
        | (refine wpList_store_row rfl 155 (.tmp 2) (.tmp 17) rfl w.heap.size (flC 0 ⟨#[]⟩) rfl rfl 155 _ hL3 fl_info rfl (fl_one _ _) ?_))
      refine bodyPost_ret (results_row_tmp rfl _ _ w.heap.size 155 (flC 0 ⟨#[]⟩) (0, 0) _ rfl (lies_setRow hL3 _) Tryz.underlying155 rfl fl_info) rfl ?_
      refine ⟨q, d, lies_setRow' hr3 (by omega) _, hA1, hO3.row (Nat.le_refl _) _, hcd, hdl, .inl ⟨?_, List.getElem?_eq_none_iff.1 hx, rfl⟩⟩
      · rw [hN]
        cases hfu : (cutL (un s)).length + 1 - (d - c) with
        | zero => rfl
        | succ fu => rw [nextS, hx]
    | some x =>
      have hdl2 := (List.getElem?_eq_some_iff.1 hx).1
      have hT := take_at B s q d _ hr1 hA1 x hx hs (by omega)
      have hxl : (bs x).size ≤ 1099511627776 := by have := cut_len (un s) x (List.mem_of_getElem? hx); rw [un_length] at this; rw [size_bs]; omega
      have hS := fun W => says_p (d + 1) (bs x) W hxl
      rw [un_bs] at hS
      go_wp2_with fail
      refine hT.mono ?_
      rintro e w1 ⟨rfl, q2, hr2, hA2, hO⟩
      have hO2 := hO1.trans hO
      have hL2 := hO.lies hL1 (by omega)
      have hne : w.heap.size ≠ w1.heap.size := by have := hL2.lt; omega
      have hne2 : B ≠ w1.heap.size := by have := hO2.size; omega
      have hL3 := lies_setRow' (hL2.alloc (.cells #[.int .i64 0, .string ⟨#[]⟩] 155)) hne (flC (d + 1) (bs x))
      have hr3 := lies_setRow' (Lies.alloc hr2 (.cells #[.int .i64 0, .string ⟨#[]⟩] 155)) hne2 (flC (d + 1) (bs x))
      have hM3 := lies_setRow (Lies.new w1 155 #[.int .i64 0, .string ⟨#[]⟩]) (flC (d + 1) (bs x))
      have hO3 := (hO2.alloc (.cells #[.int .i64 0, .string ⟨#[]⟩] 155)).row hO2.size (flC (d + 1) (bs x))
      have hfuel : (cutL (un s)).length + 1 - (d - c) = (cutL (un s)).length + 1 - (d + 1 - c) + 1 := by omega
      rw [hfuel, nextS_step hx] at hN
      cases hno : noth x with
      | true =>
        rw [hno, Bool.not_true] at hS
        rw [hno, if_pos rfl] at hN
        go_wp2_with (first
          | (refine wpList_store_row rfl 155 (.tmp 4) (.tmp 9) rfl w1.heap.size (flC (d + 1) (bs x)) rfl rfl 155 _ (Lies.new w1 _ _) fl_info rfl (fl_one _ _) ?_)
          | (refine wpList_load_row_g (by rfl) 155 (.tmp 4) rfl w1.heap.size rfl 155 (flC (d + 1) (bs x)) (0, 0) _ hM3 Tryz.underlying155 rfl fl_info ?_)
          | (go_at_call 140; refine (hS _).mono ?_; rintro e w3 ⟨rfl, b3⟩))
        go_roundw
        case rel => exact ⟨rfl, q2, d + 1, Rd.below hr3 b3, hA2, hO3.on b3, hL3.below b3, by omega, by omega, hN⟩
        case measure =>
          have e1 := Lies.cell (Rd.below hr3 b3) (i := 2) rfl
          have e2 := Lies.cell hr1 (i := 2) rfl
          rw [e1, e2]; simp [intOf]; omega
      | false =>
        rw [hno, Bool.not_false] at hS
        rw [hno, if_neg (by decide)] at hN
        go_wp2_with (first
          | (refine wpList_store_row rfl 155 (.tmp 4) (.tmp 9) rfl w1.heap.size (flC (d + 1) (bs x)) rfl rfl 155 _ (Lies.new w1 _ _) fl_info rfl (fl_one _ _) ?_)
          | (refine wpList_load_row_g (by rfl) 155 (.tmp 4) rfl w1.heap.size rfl 155 (flC (d + 1) (bs x)) (0, 0) _ hM3 Tryz.underlying155 rfl fl_info ?_)
          | (go_at_call 140; refine (hS _).mono ?_; rintro e w3 ⟨rfl, b3⟩; have hL4 := hL3.below b3; have hM4 := hM3.below b3)
          | (refine wpList_load_row rfl 155 (.tmp 4) rfl w1.heap.size rfl 155 (flC (d + 1) (bs x)) (0, 0) _ hM4 Tryz.underlying155 rfl fl_info ?_)
          | (refine wpList_store_row rfl 155 (.tmp 2) (.tmp 17) rfl w.heap.size (flC (d + 1) (bs x)) rfl rfl 155 _ hL4 fl_info rfl (fl_one _ _) ?_))
        refine bodyPost_ret (results_row_tmp rfl _ _ w.heap.size 155 (flC (d + 1) (bs x)) (0, 0) _ rfl (lies_setRow hL4 _) Tryz.underlying155 rfl fl_info) rfl ?_
        exact ⟨q2, d + 1, lies_setRow' (Rd.below hr3 b3) (by omega) _, hA2, (hO3.on b3).row (Nat.le_refl _) _, by omega, by omega, .inr ⟨d, x, hN, hx, hno, rfl, rfl⟩⟩
end Go.Proofs.YtjgijbeedgggdaaGreatDoor
