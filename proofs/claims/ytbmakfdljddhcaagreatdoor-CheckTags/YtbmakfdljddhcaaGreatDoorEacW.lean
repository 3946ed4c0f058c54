/- The reader hands on all its pieces: to what is put into the text. -/
import Derived.Test.YtbmakfdljddhcaaGreatDoorTnW
namespace Go.Proofs.YtbmakfdljddhcaaGreatDoor
open Go Go.RowKit

set_option maxHeartbeats 8000000 in
set_option maxRecDepth 100000 in
theorem each_w (lb : Array Value) (J : List Pc → (Nat → Prop) → World → Prop)
    (hkeep : ∀ pre S A B, J pre S A → A.heap.size ≤ B.heap.size → (∀ k, S k → B.heap[k]? = A.heap[k]?) → J pre S B)
    (hthere : ∀ pre S A, J pre S A → ∀ k, S k → k < A.heap.size)
    (W : World) (R : Nat) (s : ByteArray) (e : UInt8) (v : Value) (st : List Nat) (S0 : Nat → Prop)
    (hdo : ∀ pre p S W1, pre ++ [p] <+: (eachL e st (un s)).1 → (pre.length ≤ s.size) → J pre S W1 → Calls Tryz.prog 99 (#[pcV p] ++ lb) W1 fun x W2 => x = .returned (.tuple #[]) ∧ ∃ S2, J (pre ++ [p]) S2 W2 ∧ Rnd S S2 W1 W2)
    (h : Rd W R s e 0 v st) (ho : okS st = true) (hst : st.length ≤ 1) (hJ : J [] S0 W) (hdis : ∀ k, rdS R v k → ¬ S0 k) (hs : s.size ≤ 1099511627774) :
    Calls Tryz.prog 98 #[.pointer (some ⟨R, 0, none⟩), .func (.func 99) #[] lb] W fun x w' => x = .returned (erV (eachL e st (un s)).2) ∧ ∃ S2 S3, J (eachL e st (un s)).1 S2 w' ∧ Rnd (fun j => S0 j ∨ rdS R v j) S3 W w' ∧ (∀ k, S2 k → S3 k) := by
  have hsl := un_length s
  have HR : Hid (eachL e st (un s) = (([] : List Pc) ++ (eachL e st ((un s).drop 0)).1, (eachL e st ((un s).drop 0)).2)) := by simp [Hid]
  have HDo : Hid _ := hdo
  obtain ⟨RES, hRES⟩ : ∃ RES, RES = eachL e st (un s) := ⟨_, rfl⟩
  rw [← hRES] at HR HDo ⊢
  have H0 : Hid (Rd W R s e 0 v st ∧ okS st = true ∧ J [] S0 W ∧ (∀ k, rdS R v k → ¬ S0 k)) := ⟨h, ho, hJ, hdis⟩
  clear h ho hJ hdis hdo hRES
  go_enter Tryz.func98, Tryz.ntmps98
  go_wp2
  go_loopw [] (fun wr => ∃ (k : Nat) (v1 : Value) (st1 : List Nat) (pre : List Pc) (S S3 : Nat → Prop), wr.cell? ⟨R, 2, none⟩ = some (.int .i64 k) ∧ k ≤ s.size ∧ pre.length ≤ k ∧ st1.length ≤ k + 1 ∧ okS st1 = true ∧ Rd wr R s e k v1 st1 ∧ J pre S wr ∧ (∀ j, rdS R v1 j → ¬ S j) ∧ Rnd (fun j => S0 j ∨ rdS R v j) S3 W wr ∧ (∀ j, S j ∨ rdS R v1 j → S3 j) ∧ RES = (pre ++ (eachL e st1 ((un s).drop k)).1, (eachL e st1 ((un s).drop k)).2)) (fun wr => s.size - (match wr.cell? ⟨R, 2, none⟩ with | some v => (intOf v).toNat | none => 0))
  case atStart => exact ⟨0, v, st, [], S0, _, H0.out.1.lies.cell (i := 2) rfl, Nat.zero_le _, Nat.le_refl _, by omega, H0.out.2.1, H0.out.1, H0.out.2.2.1, H0.out.2.2.2, Rnd.refl _ W, fun _ h => h, HR.out⟩
  case round =>
    obtain ⟨k, v1, st1, pre, S, S3, hc2, hk, hpl, hsl1, hok, hrd, hj, hdj, hR3, hS3, hres⟩ := hrel
    have f0 := hrd.lies.cell (i := 0) rfl
    have HRES : Hid _ := hres
    have HRD : Hid (Rd wr R s e k v1 st1) := hrd
    have HJJ : Hid (J pre S wr ∧ (∀ j, rdS R v1 j → ¬ S j) ∧ (∀ j, S j ∨ rdS R v1 j → S3 j)) := ⟨hj, hdj, hS3⟩
    have HR3 : Hid (Rnd (fun j => S0 j ∨ rdS R v j) S3 W wr) := hR3
    have HOK : Hid (okS st1 = true ∧ st1.length ≤ k + 1 ∧ pre.length ≤ k) := ⟨hok, hsl1, hpl⟩
    clear hres hj hdj hR3 hS3 hok hpl hsl1
    by_cases hlt : k < s.size
    · have d1 : (k : Int) < (s.size : Int) := by omega
      have htk := fun n => take_p (wr.drewN n) R s e k v1 st1 (HRD.out.drew n) HOK.out.1 hlt (by omega) (by have := HOK.out.2.1; omega)
      have HD : Hid ((un s).drop k = s[k] :: (un s).drop (k + 1)) := drop_get hlt
      clear hrd
      go_wp2
      go_quiet (fail)
      go_wp2_with fail
      refine (htk _).mono ?_
      rintro x w2 hpost
      rcases hpost with ⟨n, q1, q2, rfl, q4⟩ | ⟨y, rfl, p, n, st2, v2, q1, rfl, q3, q4⟩
      · have hE : erV n = .iface 32 (.int .i64 n) := by unfold erV; rw [if_neg q2]
        have HE : Hid (RES = (pre, n)) := by
          have := HRES.out
          rw [HD.out, eachL_bad q1, List.append_nil] at this
          exact this
        have HQ : Hid _ := q4
        rw [hE]
        clear q1 q2 q4 hc2 f0
        go_wp2
        go_ret
        rw [HE.out]
        obtain ⟨hj, hdj, hS3⟩ := HJJ.out
        have r4 := HQ.out
        refine ⟨by rw [hE]; rfl, S, S3, hkeep _ _ _ _ hj (by have := r4.size; exact this) (fun j hS => (r4.same j (hthere _ _ _ hj j hS) (fun hr => hdj j hr hS))), HR3.out.trans ?_, fun j hS => hS3 j (.inl hS)⟩
        exact ⟨r4.os, r4.tape, r4.output, r4.size, fun j hj2 hn => r4.same j hj2 (fun hr => hn (hS3 j (.inr hr))), fun j hj2 => .inl hj2⟩
      · obtain ⟨hn1, hn2, hok2, hst2⟩ := takeS_good q1 HOK.out.1
        have hdl : ((un s).drop (k + 1)).length = s.size - (k + 1) := by rw [List.length_drop, hsl]
        have hkn : k + n ≤ s.size := by omega
        have HE : Hid (RES = ((pre ++ [p]) ++ (eachL e st2 ((un s).drop (k + n))).1, (eachL e st2 ((un s).drop (k + n))).2)) := by
          have := HRES.out
          rw [HD.out, eachL_good q1] at this
          have e1 : (s[k] :: (un s).drop (k + 1)).drop n = (un s).drop (k + n) := by rw [← HD.out, List.drop_drop]
          rw [e1] at this
          unfold Hid; rw [this, List.append_assoc]; rfl
        obtain ⟨hj, hdj, hS3⟩ := HJJ.out
        have r4 := q4
        have hj2 : J pre S w2 := hkeep _ _ _ _ hj (by have := r4.size; exact this) (fun j hS => (r4.same j (hthere _ _ _ hj j hS) (fun hr => hdj j hr hS)))
        have hthr : ∀ j, S j → j < wr.heap.size := hthere _ _ _ hj
        have hpre : pre ++ [p] <+: RES.1 := by rw [HE.out]; exact List.prefix_append _ _
        have hdoo := HDo.out pre p S w2 hpre (by have := HOK.out.2.2; omega) hj2
        have HQ : Hid _ := q4
        have HQ3 : Hid (Rd w2 R s e (k + n) v2 st2) := q3
        have HK2 : Hid (okS st2 = true ∧ k + n ≤ s.size ∧ 1 ≤ n ∧ st2.length ≤ st1.length + 1) := ⟨hok2, hkn, hn1, hst2⟩
        have HTHR : Hid _ := hthr
        clear q1 q3 q4 r4 hn1 hn2 hok2 hst2 hkn hdl hj hdj hS3 hj2 hpre f0 hc2 hthr
        go_wp2_with fail
        refine hdoo.mono ?_
        rintro x w3 ⟨rfl, S2, hj3, r5⟩
        have h3 : Rd w3 R s e (k + n) v2 st2 := HQ3.out.keep (fun j hj => r5.same j (HQ3.out.there j hj) (fun hS => by
          obtain ⟨_, hdj, _⟩ := HJJ.out
          rcases HQ.out.more j hj with h9 | h9
          · exact hdj j h9 hS
          · have := HTHR.out j hS; have h8 : wr.heap.size ≤ j := h9.1; omega))
        have c3 := h3.lies.cell (i := 2) rfl
        have HC3 : Hid _ := c3
        have HJ3 : Hid _ := hj3
        have HR5 : Hid _ := r5
        have HH3 : Hid _ := h3
        have HC2 : Hid (wr.cell? ⟨R, 2, none⟩ = some (.int .i64 k)) := HRD.out.lies.cell (i := 2) rfl
        clear c3 hj3 r5 h3 hdoo htk
        go_wp2
        go_roundw
        case rel =>
          obtain ⟨hok2, hkn, hn1, hst2⟩ := HK2.out
          obtain ⟨hj, hdj, hS3⟩ := HJJ.out
          have r4 := HQ.out
          have r5 := HR5.out
          refine ⟨k + n, v2, st2, pre ++ [p], S2, fun j => S3 j ∨ S2 j ∨ rdS R v2 j, HC3.out, hkn, by have := HOK.out.2.2; rw [List.length_append, List.length_singleton]; omega, by have := HOK.out.2.1; omega, hok2, HH3.out, HJ3.out, fun j hj9 hS2 => ?_, ?_, fun j hj9 => .inr hj9, HE.out⟩
          · rcases r5.more j hS2 with h9 | h9
            · rcases r4.more j hj9 with h8 | h8
              · exact hdj j h8 h9
              · have := HTHR.out j h9; have h7 : wr.heap.size ≤ j := h8.1; omega
            · have := HQ3.out.there j hj9; omega
          · have a4 : Rnd S3 (fun j => S3 j ∨ rdS R v2 j) wr w2 := by
              refine ⟨r4.os, r4.tape, r4.output, r4.size, fun j hj2 hn => r4.same j hj2 (fun hr => hn (hS3 j (.inr hr))), fun j hj2 => ?_⟩
              rcases hj2 with hj2 | hj2
              · exact .inl hj2
              · rcases r4.more j hj2 with h9 | h9
                · exact .inl (hS3 j (.inr h9))
                · exact .inr h9
            have a5 : Rnd (fun j => S3 j ∨ rdS R v2 j) (fun j => S3 j ∨ S2 j ∨ rdS R v2 j) w2 w3 := by
              refine ⟨r5.os, r5.tape, r5.output, r5.size, fun j hj2 hn => r5.same j hj2 (fun hS => hn (.inl (hS3 j (.inl hS)))), fun j hj2 => ?_⟩
              rcases hj2 with hj2 | hj2 | hj2
              · exact .inl (.inl hj2)
              · rcases r5.more j hj2 with h9 | h9
                · exact .inl (.inl (hS3 j (.inl h9)))
                · exact .inr h9
              · exact .inl (.inr hj2)
            exact (HR3.out.trans a4).trans a5
        case measure =>
          obtain ⟨hok2, hkn, hn1, hst2⟩ := HK2.out
          rw [HC3.out, HC2.out]
          simp [intOf]
          omega
    · have d1 : ¬ (k : Int) < (s.size : Int) := by omega
      have hun := fun n => unclosed_p (wr.drewN n) R s e k v1 st1 (HRD.out.drew n) HOK.out.1 (by have := HOK.out.2.1; omega)
      have HE : Hid (RES = (pre, endS st1)) := by
        have := HRES.out
        rw [List.drop_of_length_le (by rw [hsl]; omega), eachL_nil, List.append_nil] at this
        exact this
      clear hrd
      go_wp2
      go_quiet (fail)
      go_wp2_with fail
      refine (hun _).mono ?_
      rintro x w2 ⟨rfl, d, rfl⟩
      clear hc2 f0 hun
      go_wp2
      go_ret
      rw [HE.out]
      obtain ⟨hj, hdj, hS3⟩ := HJJ.out
      exact ⟨rfl, S, S3, hkeep _ _ _ _ hj (Nat.le_refl _) (fun j hS => rfl), HR3.out.drewR _, fun j hS => hS3 j (.inl hS)⟩
end Go.Proofs.YtbmakfdljddhcaaGreatDoor
