/- Package check's looks at the statement's own right step: texts, pairs. -/
import Derived.Test.YtbmakfdljddhcaaGreatDoorStsC
namespace Go.Proofs.YtbmakfdljddhcaaGreatDoor
open Go Go.RowKit

def xA : ByteArray := ⟨#[65]⟩
def xQ : ByteArray := ⟨#[39, 120, 39]⟩
def pairC : Array Value := #[.string ⟨#[65]⟩, .string ⟨#[39, 120, 39]⟩]
theorem rd2_p (ln es : Int) (x y : ByteArray) (hx : Asc x) (hy : Asc y) (W : World) (g : Nat) (hg : g = W.heap.size) : Calls Tryz.prog 60 #[.agg #[.int .i64 ln, .int .u8 es], .slice (some ⟨g, 0, none⟩) 2 2] (W.alloc (.cells #[.string x, .string y] 9)) fun e w' => e = .returned (.tuple #[]) ∧ Below W.heap.size W w' := by
  subst hg
  refine (readable_p ln es _ [x, y] _ (texts_two W x y _ 2) (by simp) (fun z hz => ?_)).mono ?_
  · simp at hz
    rcases hz with rfl | rfl
    · exact hx
    · exact hy
  · rintro e w' ⟨he, hb⟩
    exact ⟨he, below_join (plc_below W _) hb⟩
theorem rd0_p (ln es : Int) (W : World) : Calls Tryz.prog 60 #[.agg #[.int .i64 ln, .int .u8 es], .slice none 0 0] W fun e w' => e = .returned (.tuple #[]) ∧ Below W.heap.size W w' :=
  readable_p ln es _ [] W (TextsAt.nil W) (by simp) (fun z hz => by cases hz)
theorem asc_e : Asc ⟨#[]⟩ := asc_of _ (by decide +kernel)
theorem asc_A : Asc ⟨#[65]⟩ := asc_of _ (by decide +kernel)
theorem asc_Q : Asc ⟨#[39, 120, 39]⟩ := asc_of _ (by decide +kernel)
theorem PS.pair {w W : World} {ln es : Int} {b : Nat} (h : PS w W ln es b) (hp : Lies w b 40 pairC) : Lies W b 40 pairC := (h.B.block b hp.lt).trans hp
set_option maxHeartbeats 8000000 in
set_option maxRecDepth 100000 in
theorem texts_p (ln es : Int) (b : Nat) (w : World) (hp : Lies w b 40 pairC) : Calls Tryz.prog 52 #[plcV ln es, stpV b] w fun e w' => e = .returned (.tuple #[]) ∧ Below w.heap.size w w' := by
  have hrf := fun no W => refuseIf_f ln es no W
  have hS := PS.new w ln es b
  unfold plcV stpV stpC at *
  go_enter Tryz.func52, Tryz.ntmps52
  go_upto_region 1 with fail
  generalize (w.alloc (.cells #[.int .i64 ln, .int .u8 es] 94)).alloc (.cells #[.int .i64 2, .int .i64 2, .string ⟨#[]⟩, .string ⟨#[]⟩, .bool false, .slice (some ⟨b, 0, none⟩) 1 1, .bool false, .slice none 0 0, .slice none 0 0, .slice none 0 0] 45) = W0 at *
  obtain ⟨c0, c1, c2, c3, c4, c5, c6, c7, c8, c9, c10⟩ := hS.cells
  go_wp2_with (go_at_call 60; with_reducible refine (rd2_p ln es _ _ asc_e asc_e _ _ (by simp)).mono ?_; rintro e wn ⟨rfl, bn⟩; have hSn := hS.below bn; clear c0 c1 c2 c3 c4 c5 c6 c7 c8 c9 c10 hS; have hS := hSn; obtain ⟨c0, c1, c2, c3, c4, c5, c6, c7, c8, c9, c10⟩ := hS.cells; clear hSn bn)
  go_loopw [5, 18] (fun _ i wr => ∃ k : Nat, k ≤ 1 ∧ i = .int .i64 k ∧ PS w wr ln es b) (fun _ i _ => 1 - (intOf i).toNat)
  case atStart => exact ⟨0, by omega, rfl, hS⟩
  case round =>
    clear hS c0 c1 c2 c3 c4 c5 c6 c7 c8 c9 c10
    obtain ⟨k, hk, rfl, hS⟩ := hrel
    obtain ⟨c0, c1, c2, c3, c4, c5, c6, c7, c8, c9, c10⟩ := hS.cells
    rcases Nat.lt_or_ge k 1 with hk1 | hk1
    · obtain rfl : k = 0 := by omega
      have hP := hS.pair hp
      have p0 : wr.cell? ⟨b, 0, none⟩ = some (.string ⟨#[65]⟩) := hP.cell (i := 0) rfl
      have p1 : wr.cell? ⟨b, 1, none⟩ = some (.string ⟨#[39, 120, 39]⟩) := hP.cell (i := 1) rfl
      go_upto_region 5 with fail
      have hF : Lies (wr.alloc (.cells #[.string ⟨#[65]⟩, .string ⟨#[39, 120, 39]⟩] 40)) wr.heap.size 40 #[.string ⟨#[65]⟩, .string ⟨#[39, 120, 39]⟩] := Lies.new wr _ _
      have hS1 := hS.alloc (.cells #[.string ⟨#[65]⟩, .string ⟨#[39, 120, 39]⟩] 40)
      generalize hW1 : wr.alloc (.cells #[.string ⟨#[65]⟩, .string ⟨#[39, 120, 39]⟩] 40) = W1 at *
      clear c0 c1 c2 c3 c4 c5 c6 c7 c8 c9 c10 hS p0 p1 hP hW1
      have hS := hS1
      obtain ⟨c0, c1, c2, c3, c4, c5, c6, c7, c8, c9, c10⟩ := hS.cells
      have d0 := hF.cell (i := 0) rfl
      have d1 := hF.cell (i := 1) rfl
      clear hS1 hF
      go_wp2_with (go_at_call 60; with_reducible refine (rd2_p ln es _ _ asc_A asc_Q _ _ (by simp)).mono ?_; rintro e wn ⟨rfl, bn⟩; have hSn := hS.below bn; clear c0 c1 c2 c3 c4 c5 c6 c7 c8 c9 c10 hS; have hS := hSn; obtain ⟨c0, c1, c2, c3, c4, c5, c6, c7, c8, c9, c10⟩ := hS.cells; clear hSn bn)
      first
        | exact ⟨⟨1, by omega, by go_num, hS⟩, by simp [intOf]⟩
        | (go_roundw
           case rel => exact ⟨1, by omega, by go_num, hS⟩
           case measure => simp [intOf])
    · obtain rfl : k = 1 := by omega
      go_wp2_with (go_at_call 60; with_reducible refine (rd0_p ln es _).mono ?_; rintro e wn ⟨rfl, bn⟩; have hSn := hS.below bn; clear c0 c1 c2 c3 c4 c5 c6 c7 c8 c9 c10 hS; have hS := hSn; obtain ⟨c0, c1, c2, c3, c4, c5, c6, c7, c8, c9, c10⟩ := hS.cells; clear hSn bn)
      go_loopw [37] (fun i wr => i = .int .i64 0 ∧ PS w wr ln es b) (fun _ _ => 0)
      case atStart => exact ⟨rfl, hS⟩
      case round =>
        clear hS c0 c1 c2 c3 c4 c5 c6 c7 c8 c9 c10
        obtain ⟨rfl, hS⟩ := hrel
        obtain ⟨c0, c1, c2, c3, c4, c5, c6, c7, c8, c9, c10⟩ := hS.cells
        go_wp2_with (go_at_call 60; with_reducible refine (rd0_p ln es _).mono ?_; rintro e wn ⟨rfl, bn⟩; have hSn := hS.below bn; clear c0 c1 c2 c3 c4 c5 c6 c7 c8 c9 c10 hS; have hS := hSn; obtain ⟨c0, c1, c2, c3, c4, c5, c6, c7, c8, c9, c10⟩ := hS.cells; clear hSn bn)
        go_end0
        exact ⟨rfl, hS.B⟩
set_option maxHeartbeats 2000000 in
theorem varA_p (w : World) : Calls Tryz.prog 76 #[.string ⟨#[65]⟩] w fun e w' => e = .returned (.bool true) ∧ w' = w := by
  have h1 : ∀ W, Calls Tryz.prog 40 #[.string ⟨#[65]⟩, .string ⟨#[97, 98, 99, 100, 101, 102, 103, 104, 105, 106, 107, 108, 109, 110, 111, 112, 113, 114, 115, 116, 117, 118, 119, 120, 121, 122, 65, 66, 67, 68, 69, 70, 71, 72, 73, 74, 75, 76, 77, 78, 79, 80, 81, 82, 83, 84, 85, 86, 87, 88, 89, 90, 95]⟩] W fun e w' => e = .returned (.bool true) ∧ w' = W := fun W => begins_p ⟨#[65]⟩ ⟨#[97, 98, 99, 100, 101, 102, 103, 104, 105, 106, 107, 108, 109, 110, 111, 112, 113, 114, 115, 116, 117, 118, 119, 120, 121, 122, 65, 66, 67, 68, 69, 70, 71, 72, 73, 74, 75, 76, 77, 78, 79, 80, 81, 82, 83, 84, 85, 86, 87, 88, 89, 90, 95]⟩ W
  have h2 : ∀ W, Calls Tryz.prog 41 #[.string ⟨#[65]⟩, .string ⟨#[97, 98, 99, 100, 101, 102, 103, 104, 105, 106, 107, 108, 109, 110, 111, 112, 113, 114, 115, 116, 117, 118, 119, 120, 121, 122, 65, 66, 67, 68, 69, 70, 71, 72, 73, 74, 75, 76, 77, 78, 79, 80, 81, 82, 83, 84, 85, 86, 87, 88, 89, 90, 48, 49, 50, 51, 52, 53, 54, 55, 56, 57, 95]⟩] W fun e w' => e = .returned (.bool true) ∧ w' = W := fun W => made_p ⟨#[65]⟩ ⟨#[97, 98, 99, 100, 101, 102, 103, 104, 105, 106, 107, 108, 109, 110, 111, 112, 113, 114, 115, 116, 117, 118, 119, 120, 121, 122, 65, 66, 67, 68, 69, 70, 71, 72, 73, 74, 75, 76, 77, 78, 79, 80, 81, 82, 83, 84, 85, 86, 87, 88, 89, 90, 48, 49, 50, 51, 52, 53, 54, 55, 56, 57, 95]⟩ W (by decide)
  go_enter Tryz.func76, Tryz.ntmps76
  go_wp2_with (first | (go_at_call 40; refine (h1 _).mono ?_; rintro e w1 ⟨rfl, hw⟩; replace hw := hw.symm; subst hw) | (go_at_call 41; refine (h2 _).mono ?_; rintro e w1 ⟨rfl, hw⟩; replace hw := hw.symm; subst hw))
  go_ret
  exact ⟨rfl, rfl⟩
theorem wordQ_p (ln : Int) (w : World) : Calls Tryz.prog 61 #[.agg #[.int .i64 ln, .int .u8 92], .string ⟨#[39, 120, 39]⟩] w fun e w' => e = .returned (.tuple #[]) ∧ Below w.heap.size w w' := word_ok ln ⟨#[39, 120, 39]⟩ w (by decide) (by decide +kernel)
set_option maxHeartbeats 8000000 in
set_option maxRecDepth 100000 in
theorem pairs_p (ln es : Int) (b : Nat) (w : World) (he : es = 92) (hp : Lies w b 40 pairC) : Calls Tryz.prog 57 #[plcV ln es, stpV b] w fun e w' => e = .returned (.tuple #[]) ∧ Below w.heap.size w w' := by
  have hrf := fun no W => refuseIf_f ln es no W
  subst he
  have hva := varA_p
  have hwq := fun W => wordQ_p ln W
  have hS := PS.new w ln 92 b
  unfold plcV stpV stpC at *
  go_enter Tryz.func57, Tryz.ntmps57
  go_upto_region 1 with fail
  generalize (w.alloc (.cells #[.int .i64 ln, .int .u8 92] 94)).alloc (.cells #[.int .i64 2, .int .i64 2, .string ⟨#[]⟩, .string ⟨#[]⟩, .bool false, .slice (some ⟨b, 0, none⟩) 1 1, .bool false, .slice none 0 0, .slice none 0 0, .slice none 0 0] 45) = W0 at *
  obtain ⟨c0, c1, c2, c3, c4, c5, c6, c7, c8, c9, c10⟩ := hS.cells
  go_wp2
  go_loopw [6, 13] (fun _ i wr => ∃ k : Nat, k ≤ 1 ∧ i = .int .i64 k ∧ PS w wr ln 92 b) (fun _ i _ => 1 - (intOf i).toNat)
  case atStart => exact ⟨0, by omega, rfl, hS⟩
  case round =>
    clear hS c0 c1 c2 c3 c4 c5 c6 c7 c8 c9 c10
    obtain ⟨k, hk, rfl, hS⟩ := hrel
    obtain ⟨c0, c1, c2, c3, c4, c5, c6, c7, c8, c9, c10⟩ := hS.cells
    rcases Nat.lt_or_ge k 1 with hk1 | hk1
    · obtain rfl : k = 0 := by omega
      have hP := hS.pair hp
      have p0 : wr.cell? ⟨b, 0, none⟩ = some (.string ⟨#[65]⟩) := hP.cell (i := 0) rfl
      have p1 : wr.cell? ⟨b, 1, none⟩ = some (.string ⟨#[39, 120, 39]⟩) := hP.cell (i := 1) rfl
      go_upto_region 7 with fail
      have hF : Lies (wr.alloc (.cells #[.string ⟨#[65]⟩, .string ⟨#[39, 120, 39]⟩] 40)) wr.heap.size 40 #[.string ⟨#[65]⟩, .string ⟨#[39, 120, 39]⟩] := Lies.new wr _ _
      have hS1 := hS.alloc (.cells #[.string ⟨#[65]⟩, .string ⟨#[39, 120, 39]⟩] 40)
      generalize hW1 : wr.alloc (.cells #[.string ⟨#[65]⟩, .string ⟨#[39, 120, 39]⟩] 40) = W1 at *
      clear c0 c1 c2 c3 c4 c5 c6 c7 c8 c9 c10 hS p0 p1 hP hW1
      have hS := hS1.drew
      replace hF : Lies W1.drew wr.heap.size 40 #[.string ⟨#[65]⟩, .string ⟨#[39, 120, 39]⟩] := hF
      clear hS1
      obtain ⟨c0, c1, c2, c3, c4, c5, c6, c7, c8, c9, c10⟩ := hS.cells
      have d0 := hF.cell (i := 0) rfl
      have d1 := hF.cell (i := 1) rfl
      go_region_held (fun W => W.cell? ⟨w.heap.size, 0, none⟩ = some (.int .i64 ln) ∧ W.cell? ⟨w.heap.size, 1, none⟩ = some (.int .u8 92) ∧ W.cell? ⟨wr.heap.size, 0, none⟩ = some (.string ⟨#[65]⟩)) (go_keep) (first | (go_at_call 76; with_reducible refine (hva _).mono ?_; rintro e wn ⟨rfl, hw⟩; replace hw := hw.symm; subst hw) | (go_at_call 42; with_reducible refine (hrf _ _).mono ?_; rintro e wn ⟨rfl, bn⟩; have hFn := Lies.below hF bn; clear d0 d1 hF; have hF := hFn; have d0 := hF.cell (i := 0) rfl; have d1 := hF.cell (i := 1) rfl; clear hFn; have hSn := hS.below bn; clear c0 c1 c2 c3 c4 c5 c6 c7 c8 c9 c10 hS; have hS := hSn; obtain ⟨c0, c1, c2, c3, c4, c5, c6, c7, c8, c9, c10⟩ := hS.cells; clear hSn bn))
      go_wp2_with (go_at_call 61; with_reducible refine (hwq _).mono ?_; rintro e wn ⟨rfl, bn⟩; have hFn := Lies.below hF bn; clear d0 d1 hF; have hF := hFn; have d0 := hF.cell (i := 0) rfl; have d1 := hF.cell (i := 1) rfl; clear hFn; have hSn := hS.below bn; clear c0 c1 c2 c3 c4 c5 c6 c7 c8 c9 c10 hS; have hS := hSn; obtain ⟨c0, c1, c2, c3, c4, c5, c6, c7, c8, c9, c10⟩ := hS.cells; clear hSn bn)
      first
        | exact ⟨⟨1, by omega, by go_num, hS⟩, by simp [intOf]⟩
        | (go_roundw
           case rel => exact ⟨1, by omega, by go_num, hS⟩
           case measure => simp [intOf])
    · obtain rfl : k = 1 := by omega
      go_wp2
      go_end0
      exact ⟨rfl, hS.B⟩
end Go.Proofs.YtbmakfdljddhcaaGreatDoor
