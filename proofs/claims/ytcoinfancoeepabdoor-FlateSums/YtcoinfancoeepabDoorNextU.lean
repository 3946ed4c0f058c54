/- A code's next symbol. -/
import Derived.Test.YtcoinfancoeepabDoorNextM
import Derived.Test.YtcoinfancoeepabDoorFixU
import Derived.Test.YtcoinfancoeepabDoorBitU
import Derived.Deep.RegionHeld3
namespace Go.Proofs.YtcoinfancoeepabDoor
open Go Go.RowKit

def bitsF (gs gv : Nat) : Value := .func (.func 36) #[] #[.pointer (some ⟨gs, 0, none⟩), .pointer (some ⟨gv, 0, none⟩)]
theorem slice_counts (g n : Nat) (hn : n ≤ 15) (w : World) : (Instr.sliceAt 141 (.pointer (some ⟨g, 0, none⟩)) (some (.int .i64 1)) (some (.int .i64 ((n + 1 : Nat)))) none).run Tryd.prog w = .ok (.slice (some ⟨g, 1, none⟩) n 15) w := by
  have e1 : Tryd.prog.arrayLen 141 = 16 := by kernel_rfl
  have e2 : Tryd.prog.elem 141 = 3 := by kernel_rfl
  rw [run_sliceAt_array_lh (P := Tryd.prog) w 141 ⟨g, 0, none⟩ (by kernel_rfl) .i64 .i64 1 ((n + 1 : Nat) : Int) (by decide) (by omega) (by rw [e1]; omega), e1, e2, Tryd.sizeOf3]
  simp [slicedAt, Addr.add_mid]
theorem bits1_p (gs gv gi : Nat) (s : ByteArray) (a : Nat) (F OUT : Value) (most : Int) (L D : Value) (hs : s.size ≤ 140737488351232) (hn : a + 1 ≤ 8 * s.size) (w : World) (hI : InfAt w gs gv gi s a F OUT most L D) :
    Calls Tryd.prog 36 #[.int .i64 1, .pointer (some ⟨gs, 0, none⟩), .pointer (some ⟨gv, 0, none⟩)] w fun e w' => e = .returned (.tuple #[.int .i64 (bitN s a : Nat), .nilIface]) ∧ InfAt w' gs gv gi s (a + 1) F OUT most L D ∧ Turned gi w w' := by
  have h := bits_p 1 gs gv gi s a F OUT most L D hs hn (by omega) w hI
  have e : bitsN s a 1 = bitN s a := by simp [bitsN]
  rw [e] at h; exact h
set_option maxRecDepth 100000 in
set_option maxHeartbeats 4000000 in
theorem next_hit (g sy gs gv gi : Nat) (xs : List Nat) (s : ByteArray) (a j : Nat) (OUT : Value) (most : Int) (L D : Value) (hx : ∀ x ∈ xs, x ≤ 15) (h400 : xs.length ≤ 400) (hs : s.size ≤ 140737488351232)
    (hj : j < lngRun xs xs.length) (hno : ∀ i, i < j → nxF (counts xs) s a i ≤ nxV (counts xs) s a i) (hhit : nxV (counts xs) s a j < nxF (counts xs) s a j) (hf : (nx (counts xs) s a j).2.1 ≤ nxV (counts xs) s a j)
    (hP : (nx (counts xs) s a j).2.2 + nxV (counts xs) s a j - (nx (counts xs) s a j).2.1 < manyN xs) (SY : Nat) (hSY : (symRun xs xs.length).2.getD ((nx (counts xs) s a j).2.2 + nxV (counts xs) s a j - (nx (counts xs) s a j).2.1) 0 = SY) (hb : a + j + 1 ≤ 8 * s.size) (w : World) (hC : CodeAt w g sy xs) (hI : InfAt w gs gv gi s a (bitsF gs gv) OUT most L D) (n1 : g ≠ gi) (n2 : sy ≠ gi) :
    Calls Tryd.prog 66 #[.pointer (some ⟨g, 0, none⟩), bitsF gs gv] w fun e w' => e = .returned (.tuple #[.int .i64 SY, .nilIface]) ∧ InfAt w' gs gv gi s (a + j + 1) (bitsF gs gv) OUT most L D ∧ Turned gi w w' := by
  have hlng := lngRun_le xs hx xs.length
  have hcl := counts_length xs
  have hcc := counts_le xs
  obtain ⟨lng, hlg⟩ : ∃ l, lngRun xs xs.length = l := ⟨_, rfl⟩
  have c17 : w.cell? ⟨g, 17, none⟩ = some (.int .i64 lng) := by rw [← hlg]; exact hC.code.cell (codeC_lng _ _ _ hcl)
  rw [hlg] at hlng hj
  have HS0 : Hid (w.drew.cell? ⟨g, 17, none⟩ = some (.int .i64 lng)) := c17
  have hsl := fun W => slice_counts g lng hlng W
  have s1 : IntKind.i64.wrap ((lng : Int) + 1) = ((lng + 1 : Nat) : Int) := by rw [wrapZ _ (by omega)]; omega
  have hI0 : InfAt w.drew gs gv gi s a (bitsF gs gv) OUT most L D := hI.drew 1
  have hC0 : CodeAt w.drew g sy xs := ⟨hC.code, hC.syms⟩
  have hT0 : Turned gi w w.drew := Turned.drew gi w 1
  have HBF : Hid (bitsF gs gv = .func (.func 36) #[] #[.pointer (some ⟨gs, 0, none⟩), .pointer (some ⟨gv, 0, none⟩)]) := rfl
  have HHIT : Hid _ := hhit
  have HNO : Hid _ := hno
  have HF' : Hid _ := hf
  have HPP : Hid _ := hP
  have HSY : Hid _ := hSY
  clear hI hC c17 hhit hno hf hP hlg hSY
  obtain ⟨lng1, hl1⟩ : ∃ l, lng + 1 = l := ⟨_, rfl⟩
  rw [hl1] at s1 hsl
  go_enter Tryd.func66, Tryd.ntmps66
  go_wp2
  go_region_held3 (fun w' => w'.cell? ⟨g, 17, none⟩ = some (.int .i64 lng)) (first | exact HS0.out | assumption) (fail)
  go_wp2
  go_loopw [6, 7, 8, 23] (fun v f p i wr => ∃ k : Nat, k ≤ j ∧ i = .int .i64 k ∧ v = .int .i64 ((nx (counts xs) s a k).1 : Nat) ∧ f = .int .i64 ((nx (counts xs) s a k).2.1 : Nat) ∧ p = .int .i64 ((nx (counts xs) s a k).2.2 : Nat) ∧ InfAt wr gs gv gi s (a + k) (bitsF gs gv) OUT most L D ∧ CodeAt wr g sy xs ∧ Turned gi w wr) (fun _ _ _ i _ => j + 1 - (intOf i).toNat)
  case atStart => exact ⟨0, Nat.zero_le _, rfl, rfl, rfl, rfl, hI0, hC0, hT0⟩
  case round =>
    clear hI0 hC0 hT0 HS0 hsl
    obtain ⟨k, hk, rfl, rfl, rfl, rfl, hI, hC, hT⟩ := hrel
    have hlt' : (k : Int) < (lng : Int) := by omega
    have hk0 : (0 : Int) ≤ (k : Int) := by omega
    have c1 : wr.cell? ⟨g, 1 + k, none⟩ = some (.int .i64 ((counts xs).getD (k + 1) 0 : Nat)) := by
      rw [Nat.add_comm]; exact hC.code.cell (codeC_get _ _ _ _ hcl (by omega))
    have HB1 : Hid (Calls Tryd.prog 36 #[.int .i64 1, .pointer (some ⟨gs, 0, none⟩), .pointer (some ⟨gv, 0, none⟩)] wr fun e w' => e = .returned (.tuple #[.int .i64 (bitN s (a + k) : Nat), .nilIface]) ∧ InfAt w' gs gv gi s (a + k + 1) (bitsF gs gv) OUT most L D ∧ Turned gi wr w') := bits1_p gs gv gi s (a + k) (bitsF gs gv) OUT most L D hs (by omega) wr hI
    have hv := nx_v (counts xs) s a k
    have hff := nx_f (counts xs) s a xs.length hcc k
    have hpp := nx_p (counts xs) s a xs.length hcc k
    have hbl := bitN_lt s (a + k)
    have hcb := hcc (k + 1)
    have h2k : 2 ^ k ≤ 2 ^ 15 := Nat.pow_le_pow_right (by decide) (by omega)
    have hfb : (nx (counts xs) s a k).2.1 ≤ 26214400 := by
      have : 2 * xs.length * 2 ^ k ≤ 800 * 2 ^ 15 := Nat.mul_le_mul (by omega) h2k
      omega
    have hpb : (nx (counts xs) s a k).2.2 ≤ 6000 := by
      have : xs.length * k ≤ 400 * 15 := Nat.mul_le_mul h400 (by omega)
      omega
    have sh1 : IntKind.i64.wrap (((nx (counts xs) s a k).1 : Int) * 2) = ((2 * (nx (counts xs) s a k).1 : Nat) : Int) := by rw [wrapZ _ (by omega)]; omega
    have or1 : bits .or .i64 ((2 * (nx (counts xs) s a k).1 : Nat) : Int) (bitN s (a + k) : Int) = ((nxV (counts xs) s a k : Nat) : Int) := bor1 _ _ (by omega) hbl
    have ad1 : IntKind.i64.wrap (((nx (counts xs) s a k).2.1 : Int) + ((counts xs).getD (k + 1) 0 : Int)) = ((nxF (counts xs) s a k : Nat) : Int) := by
      rw [wrapZ _ (by omega)]; unfold nxF; omega
    have hVb : nxV (counts xs) s a k < 2 ^ 17 := by unfold nxV; omega
    have hFb : nxF (counts xs) s a k ≤ 30000000 := by unfold nxF; omega
    have HX1 : Hid ((nx (counts xs) s a (k + 1)).1 = nxV (counts xs) s a k ∧ (nx (counts xs) s a (k + 1)).2.1 = 2 * nxF (counts xs) s a k ∧ (nx (counts xs) s a (k + 1)).2.2 = (nx (counts xs) s a k).2.2 + (counts xs).getD (k + 1) 0) := ⟨rfl, rfl, rfl⟩
    by_cases hkj : k = j
    · subst hkj
      have hV2 : (nxV (counts xs) s a k : Int) < (nxF (counts xs) s a k : Int) := by have := HHIT.out; omega
      have hfv := HF'.out
      have hpm := HPP.out
      obtain ⟨Q, hQ⟩ : ∃ q, (nx (counts xs) s a k).2.2 + nxV (counts xs) s a k - (nx (counts xs) s a k).2.1 = q := ⟨_, rfl⟩
      rw [hQ] at hpm
      have hsy := HSY.out
      rw [hQ] at hsy
      have ad2 : IntKind.i64.wrap (((nx (counts xs) s a k).2.2 : Int) + (nxV (counts xs) s a k : Int)) = (((nx (counts xs) s a k).2.2 + nxV (counts xs) s a k : Nat) : Int) := by rw [wrapZ _ (by omega)]; omega
      have sb2 : IntKind.i64.wrap ((((nx (counts xs) s a k).2.2 + nxV (counts xs) s a k : Nat) : Int) - ((nx (counts xs) s a k).2.1 : Int)) = (Q : Int) := by rw [wrapZ _ (by omega)]; omega
      have q0 : (0 : Int) ≤ (Q : Int) := by omega
      have qm : (Q : Int) < (manyN xs : Int) := by omega
      have hsl2 := (symRun_len xs xs.length).2
      have HC16 : Hid (∀ W, Turned gi wr W → W.cell? ⟨g, 16, none⟩ = some (.slice (some ⟨sy, 0, none⟩) (manyN xs) (manyN xs)) ∧ W.cell? ⟨sy, Q, none⟩ = some (.int .i64 SY)) := fun W hW => ⟨(hC.turned hW n1 n2).code.cell (codeC_sym _ _ _ hcl), by rw [← hsy]; exact (hC.turned hW n1 n2).syms.cell (arr_get _ Q (by omega))⟩
      have HT' : Hid (Turned gi w wr) := hT
      clear hT hC hI HX1 hfv hpm hsl2 hv hff hpp hfb hpb hVb hFb hcb hbl h2k HHIT HNO HF' HPP HSY hsy hl1 s1
      obtain ⟨PV, hPV⟩ : ∃ q, (nx (counts xs) s a k).2.2 + nxV (counts xs) s a k = q := ⟨_, rfl⟩
      rw [hPV] at ad2 sb2
      clear hPV hQ
      obtain ⟨V0, hV0⟩ : ∃ q, 2 * (nx (counts xs) s a k).1 = q := ⟨_, rfl⟩
      rw [hV0] at sh1 or1
      clear hV0
      generalize nxV (counts xs) s a k = V2 at *
      generalize nxF (counts xs) s a k = F2 at *
      generalize (nx (counts xs) s a k).1 = V at *
      generalize (nx (counts xs) s a k).2.1 = Fi at *
      generalize (nx (counts xs) s a k).2.2 = P at *
      generalize (counts xs).getD (k + 1) 0 = C at *
      generalize bitN s (a + k) = B at *
      rw [HBF.out]
      go_wp2_with (go_at_call 36; refine HB1.out.mono ?_; rintro e w2 ⟨rfl, hI2, hT2⟩; obtain ⟨c16, cq⟩ := HC16.out w2 hT2)
      go_ret2
      exact ⟨rfl, hI2, HT'.out.trans hT2⟩
    · have hV2 : ¬ (nxV (counts xs) s a k : Int) < (nxF (counts xs) s a k : Int) := by have := HNO.out k (by omega); omega
      have ad3 : IntKind.i64.wrap (((nx (counts xs) s a k).2.2 : Int) + ((counts xs).getD (k + 1) 0 : Int)) = (((nx (counts xs) s a k).2.2 + (counts xs).getD (k + 1) 0 : Nat) : Int) := by rw [wrapZ _ (by omega)]; omega
      have sh2 : IntKind.i64.wrap ((nxF (counts xs) s a k : Int) * 2) = ((2 * nxF (counts xs) s a k : Nat) : Int) := by rw [wrapZ _ (by omega)]; omega
      have HC2 : Hid (∀ W, Turned gi wr W → CodeAt W g sy xs) := fun W hW => hC.turned hW n1 n2
      have HT' : Hid (Turned gi w wr) := hT
      obtain ⟨V0, hV0⟩ : ∃ q, 2 * (nx (counts xs) s a k).1 = q := ⟨_, rfl⟩
      rw [hV0] at sh1 or1
      obtain ⟨PC, hPC⟩ : ∃ q, (nx (counts xs) s a k).2.2 + (counts xs).getD (k + 1) 0 = q := ⟨_, rfl⟩
      obtain ⟨FF, hFF⟩ : ∃ q, 2 * nxF (counts xs) s a k = q := ⟨_, rfl⟩
      rw [hPC] at ad3
      rw [hFF] at sh2
      have HX2 : Hid ((nx (counts xs) s a (k + 1)).1 = nxV (counts xs) s a k ∧ (nx (counts xs) s a (k + 1)).2.1 = FF ∧ (nx (counts xs) s a (k + 1)).2.2 = PC) := ⟨HX1.out.1, HX1.out.2.1.trans hFF, HX1.out.2.2.trans hPC⟩
      clear hT hC hI HX1 hv hff hpp hfb hpb hVb hFb hcb hbl h2k HHIT HNO HF' HPP HSY hl1 s1 hV0 hPC hFF
      generalize nxV (counts xs) s a k = V2 at *
      generalize nxF (counts xs) s a k = F2 at *
      generalize (nx (counts xs) s a k).1 = V at *
      generalize (nx (counts xs) s a k).2.1 = Fi at *
      generalize (nx (counts xs) s a k).2.2 = P at *
      generalize (counts xs).getD (k + 1) 0 = C at *
      generalize bitN s (a + k) = B at *
      rw [HBF.out]
      go_wp2_with (go_at_call 36; refine HB1.out.mono ?_; rintro e w2 ⟨rfl, hI2, hT2⟩)
      obtain ⟨e1, e2, e3⟩ := HX2.out
      exact ⟨⟨k + 1, by omega, by go_num, by rw [e1], by rw [e2], by rw [e3], hI2, HC2.out w2 hT2, HT'.out.trans hT2⟩, by simp [intOf]; omega⟩
end Go.Proofs.YtcoinfancoeepabDoor
