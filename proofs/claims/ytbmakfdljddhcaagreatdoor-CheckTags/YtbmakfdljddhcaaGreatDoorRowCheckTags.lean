/- CheckTags, for every text and every tag: a name that is a reference is one with a tag behind it, and no text with two colons or too long is one: from its walk to its row and its card. -/
import Derived.Test.YtbmakfdljddhcaaGreatDoorSttC
import Derived.Tactics
import Derived.Tactics2
import Derived.Defers
import Derived.Recover
import Derived.Laws.Pointers
import Derived.Deep.RegionHeld3
import Derived.Deep.Cut
import Derived.Test.YtbmakfdljddhcaaGreatDoorCards
import Derived.Test.YtbmakfdljddhcaaGreatDoorTie
import Derived.Test.YtbmakfdljddhcaaGreatDoorLaiC
import Derived.ProofKit
import Derived.OpenShut
import Derived.SizedLaws
import Derived.Deep.DeepHandedRow
import Derived.SevenTiedAt

namespace Go.Proofs.YtbmakfdljddhcaaGreatDoor
open Go Go.RowKit

theorem PS.line {w W : World} {ln es : Int} {b : Nat} (h : PS w W ln es b) : W.cell? ⟨w.heap.size + 1, 1, none⟩ = some (.int .i64 2) := h.ls.cell rfl
set_option maxHeartbeats 8000000 in
set_option maxRecDepth 100000 in
theorem step_p (ln : Int) (b : Nat) (w : World) (hp : Lies w b 40 pairC) : Calls Tryz.prog 44 #[.agg #[.int .i64 ln, .int .u8 92], .agg #[.int .i64 2, .int .i64 2, .string ⟨#[]⟩, .string ⟨#[]⟩, .bool false, .slice (some ⟨b, 0, none⟩) 1 1, .bool false, .slice none 0 0, .slice none 0 0, .slice none 0 0]] w fun e w' => e = .returned (.tuple #[]) ∧ Below w.heap.size w w' := by
  have hrf : ∀ no W, Calls Tryz.prog 42 #[.agg #[.int .i64 ln, .int .u8 92], .bool false, .int .i64 no] W fun e w' => e = .returned (.tuple #[]) ∧ Below W.heap.size W w' := fun no W => refuseIf_f ln 92 no W
  have h_texts : ∀ W, Lies W b 40 pairC → Calls Tryz.prog 52 #[.agg #[.int .i64 ln, .int .u8 92], .agg #[.int .i64 2, .int .i64 2, .string ⟨#[]⟩, .string ⟨#[]⟩, .bool false, .slice (some ⟨b, 0, none⟩) 1 1, .bool false, .slice none 0 0, .slice none 0 0, .slice none 0 0]] W fun e w' => e = .returned (.tuple #[]) ∧ Below W.heap.size W w' := fun W h => texts_p ln 92 b W h
  have h_flags : ∀ W, Lies W b 40 pairC → Calls Tryz.prog 53 #[.agg #[.int .i64 ln, .int .u8 92], .agg #[.int .i64 2, .int .i64 2, .string ⟨#[]⟩, .string ⟨#[]⟩, .bool false, .slice (some ⟨b, 0, none⟩) 1 1, .bool false, .slice none 0 0, .slice none 0 0, .slice none 0 0]] W fun e w' => e = .returned (.tuple #[]) ∧ Below W.heap.size W w' := fun W h => flags_p ln 92 b W
  have h_fields : ∀ W, Lies W b 40 pairC → Calls Tryz.prog 54 #[.agg #[.int .i64 ln, .int .u8 92], .agg #[.int .i64 2, .int .i64 2, .string ⟨#[]⟩, .string ⟨#[]⟩, .bool false, .slice (some ⟨b, 0, none⟩) 1 1, .bool false, .slice none 0 0, .slice none 0 0, .slice none 0 0]] W fun e w' => e = .returned (.tuple #[]) ∧ Below W.heap.size W w' := fun W h => fields_p ln 92 b W
  have h_counts : ∀ W, Lies W b 40 pairC → Calls Tryz.prog 55 #[.agg #[.int .i64 ln, .int .u8 92], .agg #[.int .i64 2, .int .i64 2, .string ⟨#[]⟩, .string ⟨#[]⟩, .bool false, .slice (some ⟨b, 0, none⟩) 1 1, .bool false, .slice none 0 0, .slice none 0 0, .slice none 0 0]] W fun e w' => e = .returned (.tuple #[]) ∧ Below W.heap.size W w' := fun W h => counts_p ln 92 b W
  have h_flagV : ∀ W, Lies W b 40 pairC → Calls Tryz.prog 56 #[.agg #[.int .i64 ln, .int .u8 92], .agg #[.int .i64 2, .int .i64 2, .string ⟨#[]⟩, .string ⟨#[]⟩, .bool false, .slice (some ⟨b, 0, none⟩) 1 1, .bool false, .slice none 0 0, .slice none 0 0, .slice none 0 0]] W fun e w' => e = .returned (.tuple #[]) ∧ Below W.heap.size W w' := fun W h => flagV_p ln 92 b W
  have h_pairs : ∀ W, Lies W b 40 pairC → Calls Tryz.prog 57 #[.agg #[.int .i64 ln, .int .u8 92], .agg #[.int .i64 2, .int .i64 2, .string ⟨#[]⟩, .string ⟨#[]⟩, .bool false, .slice (some ⟨b, 0, none⟩) 1 1, .bool false, .slice none 0 0, .slice none 0 0, .slice none 0 0]] W fun e w' => e = .returned (.tuple #[]) ∧ Below W.heap.size W w' := fun W h => pairs_p ln 92 b W rfl h
  have h_words : ∀ W, Lies W b 40 pairC → Calls Tryz.prog 58 #[.agg #[.int .i64 ln, .int .u8 92], .agg #[.int .i64 2, .int .i64 2, .string ⟨#[]⟩, .string ⟨#[]⟩, .bool false, .slice (some ⟨b, 0, none⟩) 1 1, .bool false, .slice none 0 0, .slice none 0 0, .slice none 0 0]] W fun e w' => e = .returned (.tuple #[]) ∧ Below W.heap.size W w' := fun W h => words_p ln 92 b W
  have h_docs : ∀ W, Lies W b 40 pairC → Calls Tryz.prog 59 #[.agg #[.int .i64 ln, .int .u8 92], .agg #[.int .i64 2, .int .i64 2, .string ⟨#[]⟩, .string ⟨#[]⟩, .bool false, .slice (some ⟨b, 0, none⟩) 1 1, .bool false, .slice none 0 0, .slice none 0 0, .slice none 0 0]] W fun e w' => e = .returned (.tuple #[]) ∧ Below W.heap.size W w' := fun W h => docs_p ln 92 b W
  have hS := PS.new w ln 92 b
  unfold stpC at hS
  go_enter Tryz.func44, Tryz.ntmps44
  go_upto_region 1 with fail
  generalize (w.alloc (.cells #[.int .i64 ln, .int .u8 92] 94)).alloc (.cells #[.int .i64 2, .int .i64 2, .string ⟨#[]⟩, .string ⟨#[]⟩, .bool false, .slice (some ⟨b, 0, none⟩) 1 1, .bool false, .slice none 0 0, .slice none 0 0, .slice none 0 0] 45) = W0 at *
  obtain ⟨c0, c1, c2, c3, c4, c5, c6, c7, c8, c9, c10⟩ := hS.cells
  have e1 := PS.line hS
  go_wp2_with (first | (go_at_call 52; with_reducible refine (h_texts _ (hS.pair hp)).mono ?_; rintro e wn ⟨rfl, bn⟩; have hSn := hS.below bn; clear c0 c1 c2 c3 c4 c5 c6 c7 c8 c9 c10 e1 hS; have hS := hSn; obtain ⟨c0, c1, c2, c3, c4, c5, c6, c7, c8, c9, c10⟩ := hS.cells; have e1 := PS.line hS; clear hSn bn) | (go_at_call 53; with_reducible refine (h_flags _ (hS.pair hp)).mono ?_; rintro e wn ⟨rfl, bn⟩; have hSn := hS.below bn; clear c0 c1 c2 c3 c4 c5 c6 c7 c8 c9 c10 e1 hS; have hS := hSn; obtain ⟨c0, c1, c2, c3, c4, c5, c6, c7, c8, c9, c10⟩ := hS.cells; have e1 := PS.line hS; clear hSn bn) | (go_at_call 54; with_reducible refine (h_fields _ (hS.pair hp)).mono ?_; rintro e wn ⟨rfl, bn⟩; have hSn := hS.below bn; clear c0 c1 c2 c3 c4 c5 c6 c7 c8 c9 c10 e1 hS; have hS := hSn; obtain ⟨c0, c1, c2, c3, c4, c5, c6, c7, c8, c9, c10⟩ := hS.cells; have e1 := PS.line hS; clear hSn bn) | (go_at_call 55; with_reducible refine (h_counts _ (hS.pair hp)).mono ?_; rintro e wn ⟨rfl, bn⟩; have hSn := hS.below bn; clear c0 c1 c2 c3 c4 c5 c6 c7 c8 c9 c10 e1 hS; have hS := hSn; obtain ⟨c0, c1, c2, c3, c4, c5, c6, c7, c8, c9, c10⟩ := hS.cells; have e1 := PS.line hS; clear hSn bn) | (go_at_call 56; with_reducible refine (h_flagV _ (hS.pair hp)).mono ?_; rintro e wn ⟨rfl, bn⟩; have hSn := hS.below bn; clear c0 c1 c2 c3 c4 c5 c6 c7 c8 c9 c10 e1 hS; have hS := hSn; obtain ⟨c0, c1, c2, c3, c4, c5, c6, c7, c8, c9, c10⟩ := hS.cells; have e1 := PS.line hS; clear hSn bn) | (go_at_call 57; with_reducible refine (h_pairs _ (hS.pair hp)).mono ?_; rintro e wn ⟨rfl, bn⟩; have hSn := hS.below bn; clear c0 c1 c2 c3 c4 c5 c6 c7 c8 c9 c10 e1 hS; have hS := hSn; obtain ⟨c0, c1, c2, c3, c4, c5, c6, c7, c8, c9, c10⟩ := hS.cells; have e1 := PS.line hS; clear hSn bn) | (go_at_call 58; with_reducible refine (h_words _ (hS.pair hp)).mono ?_; rintro e wn ⟨rfl, bn⟩; have hSn := hS.below bn; clear c0 c1 c2 c3 c4 c5 c6 c7 c8 c9 c10 e1 hS; have hS := hSn; obtain ⟨c0, c1, c2, c3, c4, c5, c6, c7, c8, c9, c10⟩ := hS.cells; have e1 := PS.line hS; clear hSn bn) | (go_at_call 59; with_reducible refine (h_docs _ (hS.pair hp)).mono ?_; rintro e wn ⟨rfl, bn⟩; have hSn := hS.below bn; clear c0 c1 c2 c3 c4 c5 c6 c7 c8 c9 c10 e1 hS; have hS := hSn; obtain ⟨c0, c1, c2, c3, c4, c5, c6, c7, c8, c9, c10⟩ := hS.cells; have e1 := PS.line hS; clear hSn bn) | (go_at_call 42; with_reducible refine (hrf _ _).mono ?_; rintro e wn ⟨rfl, bn⟩; have hSn := hS.below bn; clear c0 c1 c2 c3 c4 c5 c6 c7 c8 c9 c10 e1 hS; have hS := hSn; obtain ⟨c0, c1, c2, c3, c4, c5, c6, c7, c8, c9, c10⟩ := hS.cells; have e1 := PS.line hS; clear hSn bn))
  go_end0
  exact ⟨rfl, hS.B⟩
/-- The receiver's box and a stage's. -/
structure PG (w W : World) (ln : Int) (nm : ByteArray) (v : Value) : Prop where
  lp : Lies W w.heap.size 94 #[.int .i64 ln, .int .u8 92]
  ls : Lies W (w.heap.size + 1) 48 #[.int .i64 1, .string ⟨#[115, 99, 114, 97, 116, 99, 104]⟩, .string nm, v]
  B : Below w.heap.size w W
theorem PG.below {w W wn : World} {ln : Int} {nm : ByteArray} {v : Value} (h : PG w W ln nm v) (bn : Below W.heap.size W wn) : PG w wn ln nm v := ⟨h.lp.below bn, h.ls.below bn, h.B.trans (bn.mono h.B.size)⟩
theorem PG.drew {w W : World} {ln : Int} {nm : ByteArray} {v : Value} (h : PG w W ln nm v) : PG w W.drew ln nm v := ⟨h.lp, h.ls, below_drew h.B⟩
theorem PG.new (w : World) (ln : Int) (nm : ByteArray) (v : Value) : PG w ((w.alloc (.cells #[.int .i64 ln, .int .u8 92] 94)).alloc (.cells #[.int .i64 1, .string ⟨#[115, 99, 114, 97, 116, 99, 104]⟩, .string nm, v] 48)) ln nm v := by
  refine ⟨(Lies.new w _ _).alloc _, ?_, (plc_below w _).trans ((plc_below _ _).mono (by simp))⟩
  have h := Lies.new (w.alloc (.cells #[.int .i64 ln, .int .u8 92] 94)) 48 #[.int .i64 1, .string ⟨#[115, 99, 114, 97, 116, 99, 104]⟩, .string nm, v]
  rwa [World.size_alloc] at h
theorem PG.cells {w W : World} {ln : Int} {nm : ByteArray} {v : Value} (h : PG w W ln nm v) : W.cell? ⟨w.heap.size, 0, none⟩ = some (.int .i64 ln) ∧ W.cell? ⟨w.heap.size, 1, none⟩ = some (.int .u8 92) ∧ W.cell? ⟨w.heap.size + 1, 1, none⟩ = some (.string ⟨#[115, 99, 114, 97, 116, 99, 104]⟩) ∧ W.cell? ⟨w.heap.size + 1, 2, none⟩ = some (.string nm) :=
  ⟨h.lp.cell rfl, h.lp.cell rfl, h.ls.cell rfl, h.ls.cell rfl⟩
theorem asc_S : Asc ⟨#[115, 99, 114, 97, 116, 99, 104]⟩ := asc_of _ (by decide +kernel)
theorem wordS_p (ln : Int) (w : World) : Calls Tryz.prog 61 #[.agg #[.int .i64 ln, .int .u8 92], .string ⟨#[115, 99, 114, 97, 116, 99, 104]⟩] w fun e w' => e = .returned (.tuple #[]) ∧ Below w.heap.size w w' := word_ok ln ⟨#[115, 99, 114, 97, 116, 99, 104]⟩ w (by decide) (by decide +kernel)
theorem stageA_p (w : World) : Calls Tryz.prog 62 #[.string ⟨#[65]⟩] w fun e w' => e = .returned (.bool false) ∧ w' = w := by
  have h1 : ∀ W, Calls Tryz.prog 40 #[.string ⟨#[65]⟩, .string ⟨#[97, 98, 99, 100, 101, 102, 103, 104, 105, 106, 107, 108, 109, 110, 111, 112, 113, 114, 115, 116, 117, 118, 119, 120, 121, 122]⟩] W fun e w' => e = .returned (.bool false) ∧ w' = W := fun W => begins_p ⟨#[65]⟩ ⟨#[97, 98, 99, 100, 101, 102, 103, 104, 105, 106, 107, 108, 109, 110, 111, 112, 113, 114, 115, 116, 117, 118, 119, 120, 121, 122]⟩ W
  go_enter Tryz.func62, Tryz.ntmps62
  go_wp2_with (go_at_call 40; refine (h1 _).mono ?_; rintro e w1 ⟨rfl, hw⟩; replace hw := hw.symm; subst hw)
  go_ret
  exact ⟨rfl, rfl⟩
set_option maxHeartbeats 8000000 in
set_option maxRecDepth 100000 in
theorem stageR_p (ln : Int) (v u : Value) (w : World) : Calls Tryz.prog 45 #[.agg #[.int .i64 ln, .int .u8 92], .agg #[.int .i64 1, .string ⟨#[115, 99, 114, 97, 116, 99, 104]⟩, .string ⟨#[]⟩, v], u] w fun e w' => e = .returned (.tuple #[]) ∧ Below w.heap.size w w' := by
  have hrf : ∀ no W, Calls Tryz.prog 42 #[.agg #[.int .i64 ln, .int .u8 92], .bool false, .int .i64 no] W fun e w' => e = .returned (.tuple #[]) ∧ Below W.heap.size W w' := fun no W => refuseIf_f ln 92 no W
  have hS := PG.new w ln ⟨#[]⟩ v
  go_enter Tryz.func45, Tryz.ntmps45
  go_upto_region 1 with fail
  generalize (w.alloc (.cells #[.int .i64 ln, .int .u8 92] 94)).alloc (.cells #[.int .i64 1, .string ⟨#[115, 99, 114, 97, 116, 99, 104]⟩, .string ⟨#[]⟩, v] 48) = W0 at *
  obtain ⟨c0, c1, c2, c3⟩ := PG.cells hS
  go_wp2_with (first | (go_at_call 60; with_reducible refine (rd2_p ln 92 _ _ asc_S asc_e _ _ (by simp)).mono ?_; rintro e wn ⟨rfl, bn⟩; have hSn := PG.below hS bn; clear c0 c1 c2 c3 hS; have hS := hSn; obtain ⟨c0, c1, c2, c3⟩ := PG.cells hS; clear hSn bn) | (go_at_call 42; with_reducible refine (hrf _ _).mono ?_; rintro e wn ⟨rfl, bn⟩; have hSn := PG.below hS bn; clear c0 c1 c2 c3 hS; have hS := hSn; obtain ⟨c0, c1, c2, c3⟩ := PG.cells hS; clear hSn bn) | (go_at_call 61; with_reducible refine (wordS_p ln _).mono ?_; rintro e wn ⟨rfl, bn⟩; have hSn := PG.below hS bn; clear c0 c1 c2 c3 hS; have hS := hSn; obtain ⟨c0, c1, c2, c3⟩ := PG.cells hS; clear hSn bn))
  first | go_end0 | refine bodyPost_ret (results_none rfl _ _ _) rfl ?_
  exact ⟨rfl, hS.B⟩
set_option maxHeartbeats 8000000 in
set_option maxRecDepth 100000 in
theorem stageB_p (ln : Int) (v u : Value) (w : World) : Calls Tryz.prog 45 #[.agg #[.int .i64 ln, .int .u8 92], .agg #[.int .i64 1, .string ⟨#[115, 99, 114, 97, 116, 99, 104]⟩, .string ⟨#[65]⟩, v], u] w fun e w' => e = .panicked [{ v := fltV 8 ln 0, recovered := false }] ∧ Below w.heap.size w w' := by
  have hrf : ∀ no W, Calls Tryz.prog 42 #[.agg #[.int .i64 ln, .int .u8 92], .bool false, .int .i64 no] W fun e w' => e = .returned (.tuple #[]) ∧ Below W.heap.size W w' := fun no W => refuseIf_f ln 92 no W
  have hrt : ∀ no W, Calls Tryz.prog 42 #[.agg #[.int .i64 ln, .int .u8 92], .bool true, .int .i64 no] W fun e w' => e = .panicked [{ v := fltV no ln 0, recovered := false }] ∧ Below W.heap.size W w' := fun no W => refuseIf_t ln 92 no W
  have hS := PG.new w ln ⟨#[65]⟩ v
  go_enter Tryz.func45, Tryz.ntmps45
  go_upto_region 1 with fail
  generalize (w.alloc (.cells #[.int .i64 ln, .int .u8 92] 94)).alloc (.cells #[.int .i64 1, .string ⟨#[115, 99, 114, 97, 116, 99, 104]⟩, .string ⟨#[65]⟩, v] 48) = W0 at *
  obtain ⟨c0, c1, c2, c3⟩ := PG.cells hS
  go_upto_region 5 with (first | (go_at_call 60; with_reducible refine (rd2_p ln 92 _ _ asc_S asc_A _ _ (by simp)).mono ?_; rintro e wn ⟨rfl, bn⟩; have hSn := PG.below hS bn; clear c0 c1 c2 c3 hS; have hS := hSn; obtain ⟨c0, c1, c2, c3⟩ := PG.cells hS; clear hSn bn) | (go_at_call 42; with_reducible refine (hrf _ _).mono ?_; rintro e wn ⟨rfl, bn⟩; have hSn := PG.below hS bn; clear c0 c1 c2 c3 hS; have hS := hSn; obtain ⟨c0, c1, c2, c3⟩ := PG.cells hS; clear hSn bn) | (go_at_call 61; with_reducible refine (wordS_p ln _).mono ?_; rintro e wn ⟨rfl, bn⟩; have hSn := PG.below hS bn; clear c0 c1 c2 c3 hS; have hS := hSn; obtain ⟨c0, c1, c2, c3⟩ := PG.cells hS; clear hSn bn))
  clear c0 c1 c2 c3
  refine wp_region_held_drew (S := fun W => PG w W ln ⟨#[65]⟩ v) (by kernel_rfl) hS.drew (fun h0 => ?_)
  refine wpAnyH_take (i := 0) (v := .agg #[.int .i64 ln, .int .u8 92]) rfl (by kernel_rfl) (by kernel_rfl) (by kernel_rfl) (fun _ _ _ h => h) (Or.inl ⟨by rfl, fun W hSw => by obtain ⟨c0, c1, c2, c3⟩ := PG.cells hSw; clear hSw; go_simp⟩) h0 ?_
  try dsimp [Act.put]
  try simp only [List.setIfInBounds_toArray, List.set_cons_succ, List.set_cons_zero]
  refine wpAnyH_take (i := 1) (v := .pointer (some ⟨w.heap.size + 1, 2, none⟩)) rfl (by kernel_rfl) (by kernel_rfl) (by kernel_rfl) (fun _ _ _ h => h) (Or.inl ⟨by rfl, fun W hSw => by obtain ⟨c0, c1, c2, c3⟩ := PG.cells hSw; clear hSw; go_simp⟩) h0 ?_
  try dsimp [Act.put]
  try simp only [List.setIfInBounds_toArray, List.set_cons_succ, List.set_cons_zero]
  refine wpAnyH_take (i := 2) (v := .string ⟨#[65]⟩) rfl (by kernel_rfl) (by kernel_rfl) (by kernel_rfl) (fun _ _ _ h => h) (Or.inl ⟨by rfl, fun W hSw => by obtain ⟨c0, c1, c2, c3⟩ := PG.cells hSw; clear hSw; go_simp⟩) h0 ?_
  try dsimp [Act.put]
  try simp only [List.setIfInBounds_toArray, List.set_cons_succ, List.set_cons_zero]
  refine wpAnyH_ready (rs := [3]) (by kernel_rfl) (by simp) ?_
  refine AllReadyH.cons rfl ?_ AllReadyH.nil
  intro K' hK
  rw [if_pos (by rfl)]
  go_wp2_with fail
  refine (stageA_p _).mono ?_
  rintro e wz ⟨rfl, hw⟩
  replace hw := hw.symm
  subst hw
  go_wp2_with fail
  refine hK.out _ _ h0 (fun h0 => ?_)
  clear hK
  try dsimp [Act.put]
  try simp only [List.setIfInBounds_toArray, List.set_cons_succ, List.set_cons_zero]
  refine wpAnyH_take (i := 4) (v := .bool true) rfl (by kernel_rfl) (by kernel_rfl) (by kernel_rfl) (fun _ _ _ h => h) (Or.inl ⟨by rfl, fun W hSw => by obtain ⟨c0, c1, c2, c3⟩ := PG.cells hSw; clear hSw; go_simp⟩) h0 ?_
  try dsimp [Act.put]
  try simp only [List.setIfInBounds_toArray, List.set_cons_succ, List.set_cons_zero]
  refine wpAnyH_ready (rs := [5]) (by kernel_rfl) (by simp) ?_
  refine AllReadyH.cons rfl ?_ AllReadyH.nil
  intro K' hK
  rw [if_pos (by rfl)]
  go_wp2_with fail
  refine (hrt _ _).mono ?_
  rintro e wz ⟨rfl, bz⟩
  exact ⟨rfl, rfl, (PG.below h0 bz).B⟩
end Go.Proofs.YtbmakfdljddhcaaGreatDoor

namespace Go.Proofs.YtbmakfdljddhcaaGreatDoor
open Go Go.RowKit

/-- The file's box, the stage's block, and what lay ahead of the call. -/
structure CF (w W : World) (g : Nat) (nm : ByteArray) (sa : Option Addr) (m : Nat) : Prop where
  lf : Lies W w.heap.size 51 #[.int .u8 92, .slice none 0 0, .slice (some ⟨g, 0, none⟩) 1 1]
  lg : Lies W g 48 #[.int .i64 1, .string ⟨#[115, 99, 114, 97, 116, 99, 104]⟩, .string nm, .slice sa m m]
  B : Below w.heap.size w W
theorem CF.below {w W wn : World} {g : Nat} {nm : ByteArray} {sa : Option Addr} {m : Nat} (h : CF w W g nm sa m) (bn : Below W.heap.size W wn) : CF w wn g nm sa m := ⟨h.lf.below bn, h.lg.below bn, h.B.trans (bn.mono h.B.size)⟩
theorem CF.alloc {w W : World} {g : Nat} {nm : ByteArray} {sa : Option Addr} {m : Nat} (h : CF w W g nm sa m) (o : Obj) : CF w (W.alloc o) g nm sa m := h.below (plc_below W o)
theorem CF.drew {w W : World} {g : Nat} {nm : ByteArray} {sa : Option Addr} {m : Nat} (h : CF w W g nm sa m) : CF w W.drew g nm sa m := ⟨h.lf, h.lg, below_drew h.B⟩
theorem CF.new (w : World) (g : Nat) (nm : ByteArray) (sa : Option Addr) (m : Nat) (h : Lies w g 48 #[.int .i64 1, .string ⟨#[115, 99, 114, 97, 116, 99, 104]⟩, .string nm, .slice sa m m]) : CF w (w.alloc (.cells #[.int .u8 92, .slice none 0 0, .slice (some ⟨g, 0, none⟩) 1 1] 51)) g nm sa m := ⟨Lies.new w _ _, h.alloc _, plc_below w _⟩
theorem CF.cells {w W : World} {g : Nat} {nm : ByteArray} {sa : Option Addr} {m : Nat} (h : CF w W g nm sa m) : W.cell? ⟨w.heap.size, 0, none⟩ = some (.int .u8 92) ∧ W.cell? ⟨w.heap.size, 1, none⟩ = some (.slice none 0 0) ∧ W.cell? ⟨w.heap.size, 2, none⟩ = some (.slice (some ⟨g, 0, none⟩) 1 1) ∧
    W.cell? ⟨g, 0, none⟩ = some (.int .i64 1) ∧ W.cell? ⟨g, 1, none⟩ = some (.string ⟨#[115, 99, 114, 97, 116, 99, 104]⟩) ∧ W.cell? ⟨g, 2, none⟩ = some (.string nm) ∧ W.cell? ⟨g, 3, none⟩ = some (.slice sa m m) :=
  ⟨h.lf.cell rfl, h.lf.cell rfl, h.lf.cell rfl, h.lg.cell rfl, h.lg.cell rfl, h.lg.cell rfl, h.lg.cell rfl⟩
set_option maxHeartbeats 8000000 in
set_option maxRecDepth 100000 in
theorem count_p (g : Nat) (nm : ByteArray) (sa : Option Addr) (m : Nat) (hm : m ≤ 1) (w : World) (hg : Lies w g 48 #[.int .i64 1, .string ⟨#[115, 99, 114, 97, 116, 99, 104]⟩, .string nm, .slice sa m m]) : Calls Tryz.prog 43 #[.agg #[.int .u8 92, .slice none 0 0, .slice (some ⟨g, 0, none⟩) 1 1]] w fun e w' => e = .returned (.int .i64 m) ∧ Below w.heap.size w w' := by
  have hS := CF.new w g nm sa m hg
  go_enter Tryz.func43, Tryz.ntmps43
  go_upto_region 1 with fail
  generalize w.alloc (.cells #[.int .u8 92, .slice none 0 0, .slice (some ⟨g, 0, none⟩) 1 1] 51) = W0 at *
  obtain ⟨f0, f1, f2, g0, g1, g2, g3⟩ := CF.cells hS
  go_wp2
  go_loopw [3, 5, 12] (fun c _ i wr => ∃ k : Nat, k ≤ 1 ∧ i = .int .i64 k ∧ c = .int .i64 (k * m : Nat) ∧ CF w wr g nm sa m) (fun _ _ i _ => 1 - (intOf i).toNat)
  case atStart => exact ⟨0, by omega, rfl, by simp, hS⟩
  case round =>
    clear f0 f1 f2 g0 g1 g2 g3 hS
    obtain ⟨k, hk, rfl, rfl, hS⟩ := hrel
    obtain ⟨f0, f1, f2, g0, g1, g2, g3⟩ := CF.cells hS
    rcases Nat.lt_or_ge k 1 with hk1 | hk1
    · obtain rfl : k = 0 := by omega
      go_upto_region 5 with fail
      have hF := Lies.new wr 48 #[.int .i64 1, .string ⟨#[115, 99, 114, 97, 116, 99, 104]⟩, .string nm, .slice sa m m]
      have hS1 := hS.alloc (.cells #[.int .i64 1, .string ⟨#[115, 99, 114, 97, 116, 99, 104]⟩, .string nm, .slice sa m m] 48)
      generalize hW1 : wr.alloc (.cells #[.int .i64 1, .string ⟨#[115, 99, 114, 97, 116, 99, 104]⟩, .string nm, .slice sa m m] 48) = W1 at *
      clear f0 f1 f2 g0 g1 g2 g3 hS hW1
      have hS := hS1
      clear hS1
      obtain ⟨f0, f1, f2, g0, g1, g2, g3⟩ := CF.cells hS
      have d3 : W1.cell? ⟨wr.heap.size, 3, none⟩ = some (.slice sa m m) := hF.cell rfl
      clear hF
      go_wp2
      first
        | exact ⟨⟨1, by omega, by go_num, by go_num, hS⟩, by simp [intOf]⟩
        | (go_roundw
           case rel => exact ⟨1, by omega, by go_num, by go_num, hS⟩
           case measure => simp [intOf])
    · obtain rfl : k = 1 := by omega
      go_wp2
      go_ret
      exact ⟨by simp, hS.B⟩
end Go.Proofs.YtbmakfdljddhcaaGreatDoor

namespace Go.Proofs.YtbmakfdljddhcaaGreatDoor
open Go Go.RowKit

structure CW (w W : World) (g : Nat) (nm : ByteArray) (sa : Option Addr) (m : Nat) : Prop where
  cf : CF w W g nm sa m
  lp : Lies W (w.heap.size + 1) 94 #[.int .i64 0, .int .u8 92]
theorem CW.below {w W wn : World} {g : Nat} {nm : ByteArray} {sa : Option Addr} {m : Nat} (h : CW w W g nm sa m) (bn : Below W.heap.size W wn) : CW w wn g nm sa m := ⟨h.cf.below bn, h.lp.below bn⟩
theorem CW.alloc {w W : World} {g : Nat} {nm : ByteArray} {sa : Option Addr} {m : Nat} (h : CW w W g nm sa m) (o : Obj) : CW w (W.alloc o) g nm sa m := h.below (plc_below W o)
theorem CW.drew {w W : World} {g : Nat} {nm : ByteArray} {sa : Option Addr} {m : Nat} (h : CW w W g nm sa m) : CW w W.drew g nm sa m := ⟨h.cf.drew, h.lp⟩
theorem CW.new (w : World) (g : Nat) (nm : ByteArray) (sa : Option Addr) (m : Nat) (h : Lies w g 48 #[.int .i64 1, .string ⟨#[115, 99, 114, 97, 116, 99, 104]⟩, .string nm, .slice sa m m]) : CW w ((w.alloc (.cells #[.int .u8 92, .slice none 0 0, .slice (some ⟨g, 0, none⟩) 1 1] 51)).alloc (.cells #[.int .i64 0, .int .u8 92] 94)) g nm sa m := by
  refine ⟨(CF.new w g nm sa m h).alloc _, ?_⟩
  have h := Lies.new (w.alloc (.cells #[.int .u8 92, .slice none 0 0, .slice (some ⟨g, 0, none⟩) 1 1] 51)) 94 #[.int .i64 0, .int .u8 92]
  rwa [World.size_alloc] at h
theorem CW.cells {w W : World} {g : Nat} {nm : ByteArray} {sa : Option Addr} {m : Nat} (h : CW w W g nm sa m) : (W.cell? ⟨w.heap.size, 0, none⟩ = some (.int .u8 92) ∧ W.cell? ⟨w.heap.size, 1, none⟩ = some (.slice none 0 0) ∧ W.cell? ⟨w.heap.size, 2, none⟩ = some (.slice (some ⟨g, 0, none⟩) 1 1) ∧
    W.cell? ⟨g, 0, none⟩ = some (.int .i64 1) ∧ W.cell? ⟨g, 1, none⟩ = some (.string ⟨#[115, 99, 114, 97, 116, 99, 104]⟩) ∧ W.cell? ⟨g, 2, none⟩ = some (.string nm) ∧ W.cell? ⟨g, 3, none⟩ = some (.slice sa m m)) ∧ W.cell? ⟨w.heap.size + 1, 0, none⟩ = some (.int .i64 0) ∧ W.cell? ⟨w.heap.size + 1, 1, none⟩ = some (.int .u8 92) :=
  ⟨h.cf.cells, h.lp.cell rfl, h.lp.cell rfl⟩
set_option maxHeartbeats 16000000 in
set_option maxRecDepth 100000 in
theorem chkB_p (g : Nat) (w : World) (hg : Lies w g 48 #[.int .i64 1, .string ⟨#[115, 99, 114, 97, 116, 99, 104]⟩, .string ⟨#[65]⟩, .slice none 0 0]) : Calls Tryz.prog 28 #[.agg #[.int .u8 92, .slice none 0 0, .slice (some ⟨g, 0, none⟩) 1 1]] w fun e w' => e = .panicked [{ v := fltV 8 1 0, recovered := false }] ∧ Below w.heap.size w w' := by
  have hrf : ∀ no W, Calls Tryz.prog 42 #[.agg #[.int .i64 0, .int .u8 92], .bool false, .int .i64 no] W fun e w' => e = .returned (.tuple #[]) ∧ Below W.heap.size W w' := fun no W => refuseIf_f 0 92 no W
  have hct := fun W h => count_p g ⟨#[65]⟩ none 0 (by decide) W h
  have hS := CW.new w g ⟨#[65]⟩ none 0 hg
  go_enter Tryz.func28, Tryz.ntmps28
  go_upto_region 2 with fail
  generalize (w.alloc (.cells #[.int .u8 92, .slice none 0 0, .slice (some ⟨g, 0, none⟩) 1 1] 51)).alloc (.cells #[.int .i64 0, .int .u8 92] 94) = W0 at *
  obtain ⟨⟨f0, f1, f2, g0, g1, g2, g3⟩, p0, p1⟩ := CW.cells hS
  go_upto_region 4 with (go_at_call 42; with_reducible refine (hrf _ _).mono ?_; rintro e wn ⟨rfl, bn⟩; have hSn := CW.below hS bn; clear f0 f1 f2 g0 g1 g2 g3 p0 p1 hS; have hS := hSn; obtain ⟨⟨f0, f1, f2, g0, g1, g2, g3⟩, p0, p1⟩ := CW.cells hS; clear hSn bn)
  clear f0 f1 f2 g0 g1 g2 g3 p0 p1
  refine wp_region_noPanic ?_
  refine wp_region_held_drew (S := fun W => CW w W g ⟨#[65]⟩ none 0) (by kernel_rfl) hS.drew (fun h0 => ?_)
  refine wpAnyH_take (i := 0) (v := .agg #[.int .i64 0, .int .u8 92]) rfl (by kernel_rfl) (by kernel_rfl) (by kernel_rfl) (fun _ _ _ h => h) (Or.inl ⟨by rfl, fun W hSw => by obtain ⟨⟨f0, f1, f2, g0, g1, g2, g3⟩, p0, p1⟩ := CW.cells hSw; clear hSw; go_simp⟩) h0 ?_
  try dsimp [Act.put]
  try simp only [List.setIfInBounds_toArray, List.set_cons_succ, List.set_cons_zero]
  refine wpAnyH_take (i := 1) (v := .pointer (some ⟨w.heap.size, 2, none⟩)) rfl (by kernel_rfl) (by kernel_rfl) (by kernel_rfl) (fun _ _ _ h => h) (Or.inl ⟨by rfl, fun W hSw => by obtain ⟨⟨f0, f1, f2, g0, g1, g2, g3⟩, p0, p1⟩ := CW.cells hSw; clear hSw; go_simp⟩) h0 ?_
  try dsimp [Act.put]
  try simp only [List.setIfInBounds_toArray, List.set_cons_succ, List.set_cons_zero]
  refine wpAnyH_take (i := 2) (v := .slice (some ⟨g, 0, none⟩) 1 1) rfl (by kernel_rfl) (by kernel_rfl) (by kernel_rfl) (fun _ _ _ h => h) (Or.inl ⟨by rfl, fun W hSw => by obtain ⟨⟨f0, f1, f2, g0, g1, g2, g3⟩, p0, p1⟩ := CW.cells hSw; clear hSw; go_simp⟩) h0 ?_
  try dsimp [Act.put]
  try simp only [List.setIfInBounds_toArray, List.set_cons_succ, List.set_cons_zero]
  refine wpAnyH_take (i := 3) (v := .int .i64 1) rfl (by kernel_rfl) (by kernel_rfl) (by kernel_rfl) (fun _ _ _ h => h) (Or.inl ⟨by rfl, fun W hSw => by obtain ⟨⟨f0, f1, f2, g0, g1, g2, g3⟩, p0, p1⟩ := CW.cells hSw; clear hSw; go_simp⟩) h0 ?_
  try dsimp [Act.put]
  try simp only [List.setIfInBounds_toArray, List.set_cons_succ, List.set_cons_zero]
  refine wpAnyH_take (i := 4) (v := .bool false) rfl (by kernel_rfl) (by kernel_rfl) (by kernel_rfl) (fun _ _ _ h => h) (Or.inl ⟨by rfl, fun W hSw => by obtain ⟨⟨f0, f1, f2, g0, g1, g2, g3⟩, p0, p1⟩ := CW.cells hSw; clear hSw; go_simp⟩) h0 ?_
  try dsimp [Act.put]
  try simp only [List.setIfInBounds_toArray, List.set_cons_succ, List.set_cons_zero]
  refine wpAnyH_take (i := 5) (v := .bool false) rfl (by kernel_rfl) (by kernel_rfl) (by kernel_rfl) (fun _ _ _ h => h) (Or.inl ⟨by rfl, fun W hSw => by obtain ⟨⟨f0, f1, f2, g0, g1, g2, g3⟩, p0, p1⟩ := CW.cells hSw; clear hSw; go_simp⟩) h0 ?_
  try dsimp [Act.put]
  try simp only [List.setIfInBounds_toArray, List.set_cons_succ, List.set_cons_zero]
  refine wpAnyH_take (i := 6) (v := .agg #[.int .u8 92, .slice none 0 0, .slice (some ⟨g, 0, none⟩) 1 1]) rfl (by kernel_rfl) (by kernel_rfl) (by kernel_rfl) (fun _ _ _ h => h) (Or.inl ⟨by rfl, fun W hSw => by obtain ⟨⟨f0, f1, f2, g0, g1, g2, g3⟩, p0, p1⟩ := CW.cells hSw; clear hSw; go_simp⟩) h0 ?_
  try dsimp [Act.put]
  try simp only [List.setIfInBounds_toArray, List.set_cons_succ, List.set_cons_zero]
  refine wpAnyH_ready (rs := [7]) (by kernel_rfl) (by simp) ?_
  refine AllReadyH.cons rfl ?_ AllReadyH.nil
  intro K' hK
  rw [if_pos (by rfl)]
  go_wp2_with fail
  refine (hct _ h0.cf.lg).mono ?_
  rintro e wy ⟨rfl, by1⟩
  have h1 := CW.below h0 by1
  clear h0
  go_wp2_with fail
  refine hK.out _ _ h1 (fun h0 => ?_)
  clear hK
  try dsimp [Act.put]
  try simp only [List.setIfInBounds_toArray, List.set_cons_succ, List.set_cons_zero]
  refine wpAnyH_take (i := 8) (v := .bool false) rfl (by kernel_rfl) (by kernel_rfl) (by kernel_rfl) (fun _ _ _ h => h) (Or.inl ⟨by rfl, fun W hSw => by obtain ⟨⟨f0, f1, f2, g0, g1, g2, g3⟩, p0, p1⟩ := CW.cells hSw; clear hSw; go_simp⟩) h0 ?_
  try dsimp [Act.put]
  try simp only [List.setIfInBounds_toArray, List.set_cons_succ, List.set_cons_zero]
  refine wpAnyH_take (i := 9) (v := .bool false) rfl (by kernel_rfl) (by kernel_rfl) (by kernel_rfl) (fun _ _ _ h => h) (Or.inl ⟨by rfl, fun W hSw => by obtain ⟨⟨f0, f1, f2, g0, g1, g2, g3⟩, p0, p1⟩ := CW.cells hSw; clear hSw; go_simp⟩) h0 ?_
  try dsimp [Act.put]
  try simp only [List.setIfInBounds_toArray, List.set_cons_succ, List.set_cons_zero]
  refine wpAnyH_ready (rs := [10]) (by kernel_rfl) (by simp) ?_
  refine AllReadyH.cons rfl ?_ AllReadyH.nil
  intro K' hK
  rw [if_pos (by rfl)]
  go_wp2_with fail
  refine (hrf _ _).mono ?_
  rintro e wz ⟨rfl, bz⟩
  have h2 := CW.below h0 bz
  clear h0
  go_wp2_with fail
  refine hK.out _ _ h2 (fun h0 => ?_)
  clear hK
  try dsimp [Act.put]
  try simp only [List.setIfInBounds_toArray, List.set_cons_succ, List.set_cons_zero]
  refine wpAnyH_done (by kernel_rfl) ?_ _
  refine NoPanic.normal ?_
  clear hS
  have hS := h0
  clear h0
  obtain ⟨⟨f0, f1, f2, g0, g1, g2, g3⟩, p0, p1⟩ := CW.cells hS
  go_wp2
  go_loopw [43] (fun i wr => i = .int .i64 0 ∧ CW w wr g ⟨#[65]⟩ none 0) (fun _ _ => 0)
  case atStart => exact ⟨rfl, hS⟩
  case round =>
    clear f0 f1 f2 g0 g1 g2 g3 p0 p1 hS
    obtain ⟨rfl, hS⟩ := hrel
    obtain ⟨⟨f0, f1, f2, g0, g1, g2, g3⟩, p0, p1⟩ := CW.cells hS
    go_wp2
    go_loopw [64] (fun i wr => i = .int .i64 0 ∧ CW w wr g ⟨#[65]⟩ none 0) (fun i _ => 1 - (intOf i).toNat)
    case atStart => exact ⟨rfl, hS⟩
    case round =>
      clear f0 f1 f2 g0 g1 g2 g3 p0 p1 hS
      obtain ⟨rfl, hS⟩ := hrel
      obtain ⟨⟨f0, f1, f2, g0, g1, g2, g3⟩, p0, p1⟩ := CW.cells hS
      go_upto_region 15 with fail
      have hF := Lies.new wr 48 #[.int .i64 1, .string ⟨#[115, 99, 114, 97, 116, 99, 104]⟩, .string ⟨#[65]⟩, .slice none 0 0]
      have hS1 := hS.alloc (.cells #[.int .i64 1, .string ⟨#[115, 99, 114, 97, 116, 99, 104]⟩, .string ⟨#[65]⟩, .slice none 0 0] 48)
      generalize hW1 : wr.alloc (.cells #[.int .i64 1, .string ⟨#[115, 99, 114, 97, 116, 99, 104]⟩, .string ⟨#[65]⟩, .slice none 0 0] 48) = W1 at *
      clear f0 f1 f2 g0 g1 g2 g3 p0 p1 hS hW1
      have hS := hS1
      clear hS1
      refine wp_region_held_drew (S := fun W => CW w W g ⟨#[65]⟩ none 0 ∧ Lies W wr.heap.size 48 #[.int .i64 1, .string ⟨#[115, 99, 114, 97, 116, 99, 104]⟩, .string ⟨#[65]⟩, .slice none 0 0]) (by kernel_rfl) ⟨hS.drew, hF⟩ (fun h0 => ?_)
      refine wpAnyH_take (i := 0) (v := .pointer (some ⟨wr.heap.size, 0, none⟩)) rfl (by kernel_rfl) (by kernel_rfl) (by kernel_rfl) (fun _ _ _ h => h) (Or.inl ⟨by rfl, fun W hSw => by have hSw1 := CW.cells hSw.1; obtain ⟨⟨f0, f1, f2, g0, g1, g2, g3⟩, p0, p1⟩ := hSw1; have s0 := hSw.2.cell (i := 0) rfl; have s1 := hSw.2.cell (i := 1) rfl; have s2 := hSw.2.cell (i := 2) rfl; have s3 := hSw.2.cell (i := 3) rfl; simp only [List.getElem_toArray, List.getElem_cons_zero, List.getElem_cons_succ] at s0 s1 s2 s3; clear hSw; go_simp⟩) h0 ?_
      try dsimp [Act.put]
      try simp only [List.setIfInBounds_toArray, List.set_cons_succ, List.set_cons_zero]
      refine wpAnyH_take (i := 1) (v := .int .i64 1) rfl (by kernel_rfl) (by kernel_rfl) (by kernel_rfl) (fun _ _ _ h => h) (Or.inl ⟨by rfl, fun W hSw => by have hSw1 := CW.cells hSw.1; obtain ⟨⟨f0, f1, f2, g0, g1, g2, g3⟩, p0, p1⟩ := hSw1; have s0 := hSw.2.cell (i := 0) rfl; have s1 := hSw.2.cell (i := 1) rfl; have s2 := hSw.2.cell (i := 2) rfl; have s3 := hSw.2.cell (i := 3) rfl; simp only [List.getElem_toArray, List.getElem_cons_zero, List.getElem_cons_succ] at s0 s1 s2 s3; clear hSw; go_simp⟩) h0 ?_
      try dsimp [Act.put]
      try simp only [List.setIfInBounds_toArray, List.set_cons_succ, List.set_cons_zero]
      refine wpAnyH_take (i := 2) (v := .pointer (some ⟨w.heap.size, 0, none⟩)) rfl (by kernel_rfl) (by kernel_rfl) (by kernel_rfl) (fun _ _ _ h => h) (Or.inl ⟨by rfl, fun W hSw => by have hSw1 := CW.cells hSw.1; obtain ⟨⟨f0, f1, f2, g0, g1, g2, g3⟩, p0, p1⟩ := hSw1; have s0 := hSw.2.cell (i := 0) rfl; have s1 := hSw.2.cell (i := 1) rfl; have s2 := hSw.2.cell (i := 2) rfl; have s3 := hSw.2.cell (i := 3) rfl; simp only [List.getElem_toArray, List.getElem_cons_zero, List.getElem_cons_succ] at s0 s1 s2 s3; clear hSw; go_simp⟩) h0 ?_
      try dsimp [Act.put]
      try simp only [List.setIfInBounds_toArray, List.set_cons_succ, List.set_cons_zero]
      refine wpAnyH_take (i := 3) (v := .int .u8 92) rfl (by kernel_rfl) (by kernel_rfl) (by kernel_rfl) (fun _ _ _ h => h) (Or.inl ⟨by rfl, fun W hSw => by have hSw1 := CW.cells hSw.1; obtain ⟨⟨f0, f1, f2, g0, g1, g2, g3⟩, p0, p1⟩ := hSw1; have s0 := hSw.2.cell (i := 0) rfl; have s1 := hSw.2.cell (i := 1) rfl; have s2 := hSw.2.cell (i := 2) rfl; have s3 := hSw.2.cell (i := 3) rfl; simp only [List.getElem_toArray, List.getElem_cons_zero, List.getElem_cons_succ] at s0 s1 s2 s3; clear hSw; go_simp⟩) h0 ?_
      try dsimp [Act.put]
      try simp only [List.setIfInBounds_toArray, List.set_cons_succ, List.set_cons_zero]
      refine wpAnyH_take (i := 4) (v := .agg #[.int .i64 1, .int .u8 92]) rfl (by kernel_rfl) (by kernel_rfl) (by kernel_rfl) (fun _ _ _ h => h) (Or.inl ⟨by rfl, fun W hSw => by have hSw1 := CW.cells hSw.1; obtain ⟨⟨f0, f1, f2, g0, g1, g2, g3⟩, p0, p1⟩ := hSw1; have s0 := hSw.2.cell (i := 0) rfl; have s1 := hSw.2.cell (i := 1) rfl; have s2 := hSw.2.cell (i := 2) rfl; have s3 := hSw.2.cell (i := 3) rfl; simp only [List.getElem_toArray, List.getElem_cons_zero, List.getElem_cons_succ] at s0 s1 s2 s3; clear hSw; go_simp⟩) h0 ?_
      try dsimp [Act.put]
      try simp only [List.setIfInBounds_toArray, List.set_cons_succ, List.set_cons_zero]
      refine wpAnyH_take (i := 5) (v := .agg #[.int .i64 1, .string ⟨#[115, 99, 114, 97, 116, 99, 104]⟩, .string ⟨#[65]⟩, .slice none 0 0]) rfl (by kernel_rfl) (by kernel_rfl) (by kernel_rfl) (fun _ _ _ h => h) (Or.inl ⟨by rfl, fun W hSw => by have hSw1 := CW.cells hSw.1; obtain ⟨⟨f0, f1, f2, g0, g1, g2, g3⟩, p0, p1⟩ := hSw1; have s0 := hSw.2.cell (i := 0) rfl; have s1 := hSw.2.cell (i := 1) rfl; have s2 := hSw.2.cell (i := 2) rfl; have s3 := hSw.2.cell (i := 3) rfl; simp only [List.getElem_toArray, List.getElem_cons_zero, List.getElem_cons_succ] at s0 s1 s2 s3; clear hSw; go_simp⟩) h0 ?_
      try dsimp [Act.put]
      try simp only [List.setIfInBounds_toArray, List.set_cons_succ, List.set_cons_zero]
      refine wpAnyH_take (i := 6) (v := .pointer (some ⟨w.heap.size, 2, none⟩)) rfl (by kernel_rfl) (by kernel_rfl) (by kernel_rfl) (fun _ _ _ h => h) (Or.inl ⟨by rfl, fun W hSw => by have hSw1 := CW.cells hSw.1; obtain ⟨⟨f0, f1, f2, g0, g1, g2, g3⟩, p0, p1⟩ := hSw1; have s0 := hSw.2.cell (i := 0) rfl; have s1 := hSw.2.cell (i := 1) rfl; have s2 := hSw.2.cell (i := 2) rfl; have s3 := hSw.2.cell (i := 3) rfl; simp only [List.getElem_toArray, List.getElem_cons_zero, List.getElem_cons_succ] at s0 s1 s2 s3; clear hSw; go_simp⟩) h0 ?_
      try dsimp [Act.put]
      try simp only [List.setIfInBounds_toArray, List.set_cons_succ, List.set_cons_zero]
      refine wpAnyH_take (i := 7) (v := .slice (some ⟨g, 0, none⟩) 1 1) rfl (by kernel_rfl) (by kernel_rfl) (by kernel_rfl) (fun _ _ _ h => h) (Or.inl ⟨by rfl, fun W hSw => by have hSw1 := CW.cells hSw.1; obtain ⟨⟨f0, f1, f2, g0, g1, g2, g3⟩, p0, p1⟩ := hSw1; have s0 := hSw.2.cell (i := 0) rfl; have s1 := hSw.2.cell (i := 1) rfl; have s2 := hSw.2.cell (i := 2) rfl; have s3 := hSw.2.cell (i := 3) rfl; simp only [List.getElem_toArray, List.getElem_cons_zero, List.getElem_cons_succ] at s0 s1 s2 s3; clear hSw; go_simp⟩) h0 ?_
      try dsimp [Act.put]
      try simp only [List.setIfInBounds_toArray, List.set_cons_succ, List.set_cons_zero]
      refine wpAnyH_take (i := 8) (v := .int .i64 0) rfl (by kernel_rfl) (by kernel_rfl) (by kernel_rfl) (fun _ _ _ h => h) (Or.inl ⟨by rfl, fun W hSw => by have hSw1 := CW.cells hSw.1; obtain ⟨⟨f0, f1, f2, g0, g1, g2, g3⟩, p0, p1⟩ := hSw1; have s0 := hSw.2.cell (i := 0) rfl; have s1 := hSw.2.cell (i := 1) rfl; have s2 := hSw.2.cell (i := 2) rfl; have s3 := hSw.2.cell (i := 3) rfl; simp only [List.getElem_toArray, List.getElem_cons_zero, List.getElem_cons_succ] at s0 s1 s2 s3; clear hSw; go_simp⟩) h0 ?_
      try dsimp [Act.put]
      try simp only [List.setIfInBounds_toArray, List.set_cons_succ, List.set_cons_zero]
      refine wpAnyH_take (i := 9) (v := .slice (some ⟨g, 0, none⟩) 0 1) rfl (by kernel_rfl) (by kernel_rfl) (by kernel_rfl) (fun _ _ _ h => h) (Or.inl ⟨by rfl, fun W hSw => by have hSw1 := CW.cells hSw.1; obtain ⟨⟨f0, f1, f2, g0, g1, g2, g3⟩, p0, p1⟩ := hSw1; have s0 := hSw.2.cell (i := 0) rfl; have s1 := hSw.2.cell (i := 1) rfl; have s2 := hSw.2.cell (i := 2) rfl; have s3 := hSw.2.cell (i := 3) rfl; simp only [List.getElem_toArray, List.getElem_cons_zero, List.getElem_cons_succ] at s0 s1 s2 s3; clear hSw; go_simp⟩) h0 ?_
      try dsimp [Act.put]
      try simp only [List.setIfInBounds_toArray, List.set_cons_succ, List.set_cons_zero]
      refine wpAnyH_ready (rs := [10]) (by kernel_rfl) (by simp) ?_
      refine AllReadyH.cons rfl ?_ AllReadyH.nil
      intro K' hK
      rw [if_pos (by rfl)]
      go_wp2_with fail
      refine (stageB_p 1 _ _ _).mono ?_
      rintro e wz ⟨rfl, bz⟩
      exact ⟨rfl, rfl, (CW.below h0.1 bz).cf.B⟩
theorem step_cells {W : World} {s b : Nat} (h : Lies W s 45 (stpC b)) : W.cell? ⟨s, 0, none⟩ = some (.int .i64 2) ∧ W.cell? ⟨s, 1, none⟩ = some (.int .i64 2) ∧ W.cell? ⟨s, 2, none⟩ = some (.string ⟨#[]⟩) ∧ W.cell? ⟨s, 3, none⟩ = some (.string ⟨#[]⟩) ∧ W.cell? ⟨s, 4, none⟩ = some (.bool false) ∧ W.cell? ⟨s, 5, none⟩ = some (.slice (some ⟨b, 0, none⟩) 1 1) ∧ W.cell? ⟨s, 6, none⟩ = some (.bool false) ∧ W.cell? ⟨s, 7, none⟩ = some (.slice none 0 0) ∧ W.cell? ⟨s, 8, none⟩ = some (.slice none 0 0) ∧ W.cell? ⟨s, 9, none⟩ = some (.slice none 0 0) :=
  ⟨h.cell rfl, h.cell rfl, h.cell rfl, h.cell rfl, h.cell rfl, h.cell rfl, h.cell rfl, h.cell rfl, h.cell rfl, h.cell rfl⟩
set_option maxHeartbeats 16000000 in
set_option maxRecDepth 100000 in
theorem chkR_p (g : Nat) (sb b : Nat) (w : World) (hg : Lies w g 48 #[.int .i64 1, .string ⟨#[115, 99, 114, 97, 116, 99, 104]⟩, .string ⟨#[]⟩, .slice (some ⟨sb, 0, none⟩) 1 1]) (hs : Lies w sb 45 (stpC b)) (hp : Lies w b 40 pairC) : Calls Tryz.prog 28 #[.agg #[.int .u8 92, .slice none 0 0, .slice (some ⟨g, 0, none⟩) 1 1]] w fun e w' => e = .returned (.tuple #[]) ∧ Below w.heap.size w w' := by
  have hrf : ∀ no W, Calls Tryz.prog 42 #[.agg #[.int .i64 0, .int .u8 92], .bool false, .int .i64 no] W fun e w' => e = .returned (.tuple #[]) ∧ Below W.heap.size W w' := fun no W => refuseIf_f 0 92 no W
  have hct := fun W h => count_p g ⟨#[]⟩ (some ⟨sb, 0, none⟩) 1 (by decide) W h
  have hS := CW.new w g ⟨#[]⟩ (some ⟨sb, 0, none⟩) 1 hg
  go_enter Tryz.func28, Tryz.ntmps28
  go_upto_region 2 with fail
  generalize (w.alloc (.cells #[.int .u8 92, .slice none 0 0, .slice (some ⟨g, 0, none⟩) 1 1] 51)).alloc (.cells #[.int .i64 0, .int .u8 92] 94) = W0 at *
  obtain ⟨⟨f0, f1, f2, g0, g1, g2, g3⟩, p0, p1⟩ := CW.cells hS
  go_upto_region 4 with (go_at_call 42; with_reducible refine (hrf _ _).mono ?_; rintro e wn ⟨rfl, bn⟩; have hSn := CW.below hS bn; clear f0 f1 f2 g0 g1 g2 g3 p0 p1 hS; have hS := hSn; obtain ⟨⟨f0, f1, f2, g0, g1, g2, g3⟩, p0, p1⟩ := CW.cells hS; clear hSn bn)
  clear f0 f1 f2 g0 g1 g2 g3 p0 p1
  refine wp_region_noPanic ?_
  refine wp_region_held_drew (S := fun W => CW w W g ⟨#[]⟩ (some ⟨sb, 0, none⟩) 1) (by kernel_rfl) hS.drew (fun h0 => ?_)
  refine wpAnyH_take (i := 0) (v := .agg #[.int .i64 0, .int .u8 92]) rfl (by kernel_rfl) (by kernel_rfl) (by kernel_rfl) (fun _ _ _ h => h) (Or.inl ⟨by rfl, fun W hSw => by obtain ⟨⟨f0, f1, f2, g0, g1, g2, g3⟩, p0, p1⟩ := CW.cells hSw; clear hSw; go_simp⟩) h0 ?_
  try dsimp [Act.put]
  try simp only [List.setIfInBounds_toArray, List.set_cons_succ, List.set_cons_zero]
  refine wpAnyH_take (i := 1) (v := .pointer (some ⟨w.heap.size, 2, none⟩)) rfl (by kernel_rfl) (by kernel_rfl) (by kernel_rfl) (fun _ _ _ h => h) (Or.inl ⟨by rfl, fun W hSw => by obtain ⟨⟨f0, f1, f2, g0, g1, g2, g3⟩, p0, p1⟩ := CW.cells hSw; clear hSw; go_simp⟩) h0 ?_
  try dsimp [Act.put]
  try simp only [List.setIfInBounds_toArray, List.set_cons_succ, List.set_cons_zero]
  refine wpAnyH_take (i := 2) (v := .slice (some ⟨g, 0, none⟩) 1 1) rfl (by kernel_rfl) (by kernel_rfl) (by kernel_rfl) (fun _ _ _ h => h) (Or.inl ⟨by rfl, fun W hSw => by obtain ⟨⟨f0, f1, f2, g0, g1, g2, g3⟩, p0, p1⟩ := CW.cells hSw; clear hSw; go_simp⟩) h0 ?_
  try dsimp [Act.put]
  try simp only [List.setIfInBounds_toArray, List.set_cons_succ, List.set_cons_zero]
  refine wpAnyH_take (i := 3) (v := .int .i64 1) rfl (by kernel_rfl) (by kernel_rfl) (by kernel_rfl) (fun _ _ _ h => h) (Or.inl ⟨by rfl, fun W hSw => by obtain ⟨⟨f0, f1, f2, g0, g1, g2, g3⟩, p0, p1⟩ := CW.cells hSw; clear hSw; go_simp⟩) h0 ?_
  try dsimp [Act.put]
  try simp only [List.setIfInBounds_toArray, List.set_cons_succ, List.set_cons_zero]
  refine wpAnyH_take (i := 4) (v := .bool false) rfl (by kernel_rfl) (by kernel_rfl) (by kernel_rfl) (fun _ _ _ h => h) (Or.inl ⟨by rfl, fun W hSw => by obtain ⟨⟨f0, f1, f2, g0, g1, g2, g3⟩, p0, p1⟩ := CW.cells hSw; clear hSw; go_simp⟩) h0 ?_
  try dsimp [Act.put]
  try simp only [List.setIfInBounds_toArray, List.set_cons_succ, List.set_cons_zero]
  refine wpAnyH_take (i := 5) (v := .bool false) rfl (by kernel_rfl) (by kernel_rfl) (by kernel_rfl) (fun _ _ _ h => h) (Or.inl ⟨by rfl, fun W hSw => by obtain ⟨⟨f0, f1, f2, g0, g1, g2, g3⟩, p0, p1⟩ := CW.cells hSw; clear hSw; go_simp⟩) h0 ?_
  try dsimp [Act.put]
  try simp only [List.setIfInBounds_toArray, List.set_cons_succ, List.set_cons_zero]
  refine wpAnyH_take (i := 6) (v := .agg #[.int .u8 92, .slice none 0 0, .slice (some ⟨g, 0, none⟩) 1 1]) rfl (by kernel_rfl) (by kernel_rfl) (by kernel_rfl) (fun _ _ _ h => h) (Or.inl ⟨by rfl, fun W hSw => by obtain ⟨⟨f0, f1, f2, g0, g1, g2, g3⟩, p0, p1⟩ := CW.cells hSw; clear hSw; go_simp⟩) h0 ?_
  try dsimp [Act.put]
  try simp only [List.setIfInBounds_toArray, List.set_cons_succ, List.set_cons_zero]
  refine wpAnyH_ready (rs := [7]) (by kernel_rfl) (by simp) ?_
  refine AllReadyH.cons rfl ?_ AllReadyH.nil
  intro K' hK
  rw [if_pos (by rfl)]
  go_wp2_with fail
  refine (hct _ h0.cf.lg).mono ?_
  rintro e wy ⟨rfl, by1⟩
  have h1 := CW.below h0 by1
  clear h0
  go_wp2_with fail
  refine hK.out _ _ h1 (fun h0 => ?_)
  clear hK
  try dsimp [Act.put]
  try simp only [List.setIfInBounds_toArray, List.set_cons_succ, List.set_cons_zero]
  refine wpAnyH_take (i := 8) (v := .bool false) rfl (by kernel_rfl) (by kernel_rfl) (by kernel_rfl) (fun _ _ _ h => h) (Or.inl ⟨by rfl, fun W hSw => by obtain ⟨⟨f0, f1, f2, g0, g1, g2, g3⟩, p0, p1⟩ := CW.cells hSw; clear hSw; go_simp⟩) h0 ?_
  try dsimp [Act.put]
  try simp only [List.setIfInBounds_toArray, List.set_cons_succ, List.set_cons_zero]
  refine wpAnyH_take (i := 9) (v := .bool false) rfl (by kernel_rfl) (by kernel_rfl) (by kernel_rfl) (fun _ _ _ h => h) (Or.inl ⟨by rfl, fun W hSw => by obtain ⟨⟨f0, f1, f2, g0, g1, g2, g3⟩, p0, p1⟩ := CW.cells hSw; clear hSw; go_simp⟩) h0 ?_
  try dsimp [Act.put]
  try simp only [List.setIfInBounds_toArray, List.set_cons_succ, List.set_cons_zero]
  refine wpAnyH_ready (rs := [10]) (by kernel_rfl) (by simp) ?_
  refine AllReadyH.cons rfl ?_ AllReadyH.nil
  intro K' hK
  rw [if_pos (by rfl)]
  go_wp2_with fail
  refine (hrf _ _).mono ?_
  rintro e wz ⟨rfl, bz⟩
  have h2 := CW.below h0 bz
  clear h0
  go_wp2_with fail
  refine hK.out _ _ h2 (fun h0 => ?_)
  clear hK
  try dsimp [Act.put]
  try simp only [List.setIfInBounds_toArray, List.set_cons_succ, List.set_cons_zero]
  refine wpAnyH_done (by kernel_rfl) ?_ _
  refine NoPanic.normal ?_
  clear hS
  have hS := h0
  clear h0
  obtain ⟨⟨f0, f1, f2, g0, g1, g2, g3⟩, p0, p1⟩ := CW.cells hS
  go_wp2
  go_loopw [43] (fun i wr => i = .int .i64 0 ∧ CW w wr g ⟨#[]⟩ (some ⟨sb, 0, none⟩) 1) (fun _ _ => 0)
  case atStart => exact ⟨rfl, hS⟩
  case round =>
    clear f0 f1 f2 g0 g1 g2 g3 p0 p1 hS
    obtain ⟨rfl, hS⟩ := hrel
    obtain ⟨⟨f0, f1, f2, g0, g1, g2, g3⟩, p0, p1⟩ := CW.cells hS
    go_wp2
    go_loopw [64] (fun i wr => ∃ k : Nat, k ≤ 1 ∧ i = .int .i64 k ∧ CW w wr g ⟨#[]⟩ (some ⟨sb, 0, none⟩) 1) (fun i _ => 1 - (intOf i).toNat)
    case atStart => exact ⟨0, by omega, rfl, hS⟩
    case round =>
      clear f0 f1 f2 g0 g1 g2 g3 p0 p1 hS
      obtain ⟨k, hk, rfl, hS⟩ := hrel
      obtain ⟨⟨f0, f1, f2, g0, g1, g2, g3⟩, p0, p1⟩ := CW.cells hS
      rcases Nat.lt_or_ge k 1 with hk1 | hk1
      rotate_left
      · obtain rfl : k = 1 := by omega
        go_wp2
        go_end0
        exact ⟨rfl, hS.cf.B⟩
      obtain rfl : k = 0 := by omega
      go_upto_region 15 with fail
      have hF := Lies.new wr 48 #[.int .i64 1, .string ⟨#[115, 99, 114, 97, 116, 99, 104]⟩, .string ⟨#[]⟩, .slice (some ⟨sb, 0, none⟩) 1 1]
      have hS1 := hS.alloc (.cells #[.int .i64 1, .string ⟨#[115, 99, 114, 97, 116, 99, 104]⟩, .string ⟨#[]⟩, .slice (some ⟨sb, 0, none⟩) 1 1] 48)
      generalize hW1 : wr.alloc (.cells #[.int .i64 1, .string ⟨#[115, 99, 114, 97, 116, 99, 104]⟩, .string ⟨#[]⟩, .slice (some ⟨sb, 0, none⟩) 1 1] 48) = W1 at *
      clear f0 f1 f2 g0 g1 g2 g3 p0 p1 hS hW1
      have hS := hS1
      clear hS1
      refine wp_region_noPanic ?_
      refine wp_region_held_drew (S := fun W => CW w W g ⟨#[]⟩ (some ⟨sb, 0, none⟩) 1 ∧ Lies W wr.heap.size 48 #[.int .i64 1, .string ⟨#[115, 99, 114, 97, 116, 99, 104]⟩, .string ⟨#[]⟩, .slice (some ⟨sb, 0, none⟩) 1 1]) (by kernel_rfl) ⟨hS.drew, hF⟩ (fun h0 => ?_)
      refine wpAnyH_take (i := 0) (v := .pointer (some ⟨wr.heap.size, 0, none⟩)) rfl (by kernel_rfl) (by kernel_rfl) (by kernel_rfl) (fun _ _ _ h => h) (Or.inl ⟨by rfl, fun W hSw => by have hSw1 := CW.cells hSw.1; obtain ⟨⟨f0, f1, f2, g0, g1, g2, g3⟩, p0, p1⟩ := hSw1; have s0 := hSw.2.cell (i := 0) rfl; have s1 := hSw.2.cell (i := 1) rfl; have s2 := hSw.2.cell (i := 2) rfl; have s3 := hSw.2.cell (i := 3) rfl; simp only [List.getElem_toArray, List.getElem_cons_zero, List.getElem_cons_succ] at s0 s1 s2 s3; clear hSw; go_simp⟩) h0 ?_
      try dsimp [Act.put]
      try simp only [List.setIfInBounds_toArray, List.set_cons_succ, List.set_cons_zero]
      refine wpAnyH_take (i := 1) (v := .int .i64 1) rfl (by kernel_rfl) (by kernel_rfl) (by kernel_rfl) (fun _ _ _ h => h) (Or.inl ⟨by rfl, fun W hSw => by have hSw1 := CW.cells hSw.1; obtain ⟨⟨f0, f1, f2, g0, g1, g2, g3⟩, p0, p1⟩ := hSw1; have s0 := hSw.2.cell (i := 0) rfl; have s1 := hSw.2.cell (i := 1) rfl; have s2 := hSw.2.cell (i := 2) rfl; have s3 := hSw.2.cell (i := 3) rfl; simp only [List.getElem_toArray, List.getElem_cons_zero, List.getElem_cons_succ] at s0 s1 s2 s3; clear hSw; go_simp⟩) h0 ?_
      try dsimp [Act.put]
      try simp only [List.setIfInBounds_toArray, List.set_cons_succ, List.set_cons_zero]
      refine wpAnyH_take (i := 2) (v := .pointer (some ⟨w.heap.size, 0, none⟩)) rfl (by kernel_rfl) (by kernel_rfl) (by kernel_rfl) (fun _ _ _ h => h) (Or.inl ⟨by rfl, fun W hSw => by have hSw1 := CW.cells hSw.1; obtain ⟨⟨f0, f1, f2, g0, g1, g2, g3⟩, p0, p1⟩ := hSw1; have s0 := hSw.2.cell (i := 0) rfl; have s1 := hSw.2.cell (i := 1) rfl; have s2 := hSw.2.cell (i := 2) rfl; have s3 := hSw.2.cell (i := 3) rfl; simp only [List.getElem_toArray, List.getElem_cons_zero, List.getElem_cons_succ] at s0 s1 s2 s3; clear hSw; go_simp⟩) h0 ?_
      try dsimp [Act.put]
      try simp only [List.setIfInBounds_toArray, List.set_cons_succ, List.set_cons_zero]
      refine wpAnyH_take (i := 3) (v := .int .u8 92) rfl (by kernel_rfl) (by kernel_rfl) (by kernel_rfl) (fun _ _ _ h => h) (Or.inl ⟨by rfl, fun W hSw => by have hSw1 := CW.cells hSw.1; obtain ⟨⟨f0, f1, f2, g0, g1, g2, g3⟩, p0, p1⟩ := hSw1; have s0 := hSw.2.cell (i := 0) rfl; have s1 := hSw.2.cell (i := 1) rfl; have s2 := hSw.2.cell (i := 2) rfl; have s3 := hSw.2.cell (i := 3) rfl; simp only [List.getElem_toArray, List.getElem_cons_zero, List.getElem_cons_succ] at s0 s1 s2 s3; clear hSw; go_simp⟩) h0 ?_
      try dsimp [Act.put]
      try simp only [List.setIfInBounds_toArray, List.set_cons_succ, List.set_cons_zero]
      refine wpAnyH_take (i := 4) (v := .agg #[.int .i64 1, .int .u8 92]) rfl (by kernel_rfl) (by kernel_rfl) (by kernel_rfl) (fun _ _ _ h => h) (Or.inl ⟨by rfl, fun W hSw => by have hSw1 := CW.cells hSw.1; obtain ⟨⟨f0, f1, f2, g0, g1, g2, g3⟩, p0, p1⟩ := hSw1; have s0 := hSw.2.cell (i := 0) rfl; have s1 := hSw.2.cell (i := 1) rfl; have s2 := hSw.2.cell (i := 2) rfl; have s3 := hSw.2.cell (i := 3) rfl; simp only [List.getElem_toArray, List.getElem_cons_zero, List.getElem_cons_succ] at s0 s1 s2 s3; clear hSw; go_simp⟩) h0 ?_
      try dsimp [Act.put]
      try simp only [List.setIfInBounds_toArray, List.set_cons_succ, List.set_cons_zero]
      refine wpAnyH_take (i := 5) (v := .agg #[.int .i64 1, .string ⟨#[115, 99, 114, 97, 116, 99, 104]⟩, .string ⟨#[]⟩, .slice (some ⟨sb, 0, none⟩) 1 1]) rfl (by kernel_rfl) (by kernel_rfl) (by kernel_rfl) (fun _ _ _ h => h) (Or.inl ⟨by rfl, fun W hSw => by have hSw1 := CW.cells hSw.1; obtain ⟨⟨f0, f1, f2, g0, g1, g2, g3⟩, p0, p1⟩ := hSw1; have s0 := hSw.2.cell (i := 0) rfl; have s1 := hSw.2.cell (i := 1) rfl; have s2 := hSw.2.cell (i := 2) rfl; have s3 := hSw.2.cell (i := 3) rfl; simp only [List.getElem_toArray, List.getElem_cons_zero, List.getElem_cons_succ] at s0 s1 s2 s3; clear hSw; go_simp⟩) h0 ?_
      try dsimp [Act.put]
      try simp only [List.setIfInBounds_toArray, List.set_cons_succ, List.set_cons_zero]
      refine wpAnyH_take (i := 6) (v := .pointer (some ⟨w.heap.size, 2, none⟩)) rfl (by kernel_rfl) (by kernel_rfl) (by kernel_rfl) (fun _ _ _ h => h) (Or.inl ⟨by rfl, fun W hSw => by have hSw1 := CW.cells hSw.1; obtain ⟨⟨f0, f1, f2, g0, g1, g2, g3⟩, p0, p1⟩ := hSw1; have s0 := hSw.2.cell (i := 0) rfl; have s1 := hSw.2.cell (i := 1) rfl; have s2 := hSw.2.cell (i := 2) rfl; have s3 := hSw.2.cell (i := 3) rfl; simp only [List.getElem_toArray, List.getElem_cons_zero, List.getElem_cons_succ] at s0 s1 s2 s3; clear hSw; go_simp⟩) h0 ?_
      try dsimp [Act.put]
      try simp only [List.setIfInBounds_toArray, List.set_cons_succ, List.set_cons_zero]
      refine wpAnyH_take (i := 7) (v := .slice (some ⟨g, 0, none⟩) 1 1) rfl (by kernel_rfl) (by kernel_rfl) (by kernel_rfl) (fun _ _ _ h => h) (Or.inl ⟨by rfl, fun W hSw => by have hSw1 := CW.cells hSw.1; obtain ⟨⟨f0, f1, f2, g0, g1, g2, g3⟩, p0, p1⟩ := hSw1; have s0 := hSw.2.cell (i := 0) rfl; have s1 := hSw.2.cell (i := 1) rfl; have s2 := hSw.2.cell (i := 2) rfl; have s3 := hSw.2.cell (i := 3) rfl; simp only [List.getElem_toArray, List.getElem_cons_zero, List.getElem_cons_succ] at s0 s1 s2 s3; clear hSw; go_simp⟩) h0 ?_
      try dsimp [Act.put]
      try simp only [List.setIfInBounds_toArray, List.set_cons_succ, List.set_cons_zero]
      refine wpAnyH_take (i := 8) (v := .int .i64 0) rfl (by kernel_rfl) (by kernel_rfl) (by kernel_rfl) (fun _ _ _ h => h) (Or.inl ⟨by rfl, fun W hSw => by have hSw1 := CW.cells hSw.1; obtain ⟨⟨f0, f1, f2, g0, g1, g2, g3⟩, p0, p1⟩ := hSw1; have s0 := hSw.2.cell (i := 0) rfl; have s1 := hSw.2.cell (i := 1) rfl; have s2 := hSw.2.cell (i := 2) rfl; have s3 := hSw.2.cell (i := 3) rfl; simp only [List.getElem_toArray, List.getElem_cons_zero, List.getElem_cons_succ] at s0 s1 s2 s3; clear hSw; go_simp⟩) h0 ?_
      try dsimp [Act.put]
      try simp only [List.setIfInBounds_toArray, List.set_cons_succ, List.set_cons_zero]
      refine wpAnyH_take (i := 9) (v := .slice (some ⟨g, 0, none⟩) 0 1) rfl (by kernel_rfl) (by kernel_rfl) (by kernel_rfl) (fun _ _ _ h => h) (Or.inl ⟨by rfl, fun W hSw => by have hSw1 := CW.cells hSw.1; obtain ⟨⟨f0, f1, f2, g0, g1, g2, g3⟩, p0, p1⟩ := hSw1; have s0 := hSw.2.cell (i := 0) rfl; have s1 := hSw.2.cell (i := 1) rfl; have s2 := hSw.2.cell (i := 2) rfl; have s3 := hSw.2.cell (i := 3) rfl; simp only [List.getElem_toArray, List.getElem_cons_zero, List.getElem_cons_succ] at s0 s1 s2 s3; clear hSw; go_simp⟩) h0 ?_
      try dsimp [Act.put]
      try simp only [List.setIfInBounds_toArray, List.set_cons_succ, List.set_cons_zero]
      refine wpAnyH_ready (rs := [10]) (by kernel_rfl) (by simp) ?_
      refine AllReadyH.cons rfl ?_ AllReadyH.nil
      intro K' hK
      rw [if_pos (by rfl)]
      go_wp2_with fail
      refine (stageR_p 1 _ _ _).mono ?_
      rintro e wz ⟨rfl, bz⟩
      have h1 : CW w wz g ⟨#[]⟩ (some ⟨sb, 0, none⟩) 1 ∧ Lies wz wr.heap.size 48 #[.int .i64 1, .string ⟨#[115, 99, 114, 97, 116, 99, 104]⟩, .string ⟨#[]⟩, .slice (some ⟨sb, 0, none⟩) 1 1] := ⟨CW.below h0.1 bz, h0.2.below bz⟩
      clear h0
      go_wp2_with fail
      refine hK.out _ _ h1 (fun h0 => ?_)
      clear hK
      try dsimp [Act.put]
      try simp only [List.setIfInBounds_toArray, List.set_cons_succ, List.set_cons_zero]
      refine wpAnyH_done (by kernel_rfl) ?_ _
      refine NoPanic.normal ?_
      clear hS hF
      obtain ⟨hS, hF⟩ := h0
      obtain ⟨⟨f0, f1, f2, g0, g1, g2, g3⟩, p0, p1⟩ := CW.cells hS
      have d3 : wz.cell? ⟨wr.heap.size, 3, none⟩ = some (.slice (some ⟨sb, 0, none⟩) 1 1) := hF.cell rfl
      go_wp2
      go_loopw [83] (fun i wr2 => ∃ j : Nat, j ≤ 1 ∧ i = .int .i64 j ∧ CW w wr2 g ⟨#[]⟩ (some ⟨sb, 0, none⟩) 1) (fun i _ => 1 - (intOf i).toNat)
      case atStart => exact ⟨0, by omega, rfl, hS⟩
      case round =>
        clear f0 f1 f2 g0 g1 g2 g3 p0 p1 hS d3 hF
        obtain ⟨j, hj, rfl, hS⟩ := hrel
        obtain ⟨⟨f0, f1, f2, g0, g1, g2, g3⟩, p0, p1⟩ := CW.cells hS
        rcases Nat.lt_or_ge j 1 with hj1 | hj1
        · obtain rfl : j = 0 := by omega
          have hsW : Lies wr sb 45 (stpC b) := (hS.cf.B.block sb hs.lt).trans hs
          obtain ⟨t0, t1, t2, t3, t4, t5, t6, t7, t8, t9⟩ := step_cells hsW
          go_upto_region 19 with fail
          have hF2 : Lies (wr.alloc (.cells #[.int .i64 2, .int .i64 2, .string ⟨#[]⟩, .string ⟨#[]⟩, .bool false, .slice (some ⟨b, 0, none⟩) 1 1, .bool false, .slice none 0 0, .slice none 0 0, .slice none 0 0] 45)) wr.heap.size 45 (stpC b) := Lies.new wr _ _
          have hS1 := hS.alloc (.cells #[.int .i64 2, .int .i64 2, .string ⟨#[]⟩, .string ⟨#[]⟩, .bool false, .slice (some ⟨b, 0, none⟩) 1 1, .bool false, .slice none 0 0, .slice none 0 0, .slice none 0 0] 45)
          generalize hW2 : wr.alloc (.cells #[.int .i64 2, .int .i64 2, .string ⟨#[]⟩, .string ⟨#[]⟩, .bool false, .slice (some ⟨b, 0, none⟩) 1 1, .bool false, .slice none 0 0, .slice none 0 0, .slice none 0 0] 45) = W2 at *
          clear f0 f1 f2 g0 g1 g2 g3 p0 p1 hS hW2 hsW t0 t1 t2 t3 t4 t5 t6 t7 t8 t9
          have hS := hS1
          clear hS1
          obtain ⟨⟨f0, f1, f2, g0, g1, g2, g3⟩, p0, p1⟩ := CW.cells hS
          obtain ⟨u0, u1, u2, u3, u4, u5, u6, u7, u8, u9⟩ := step_cells hF2
          have hpW : Lies W2 b 40 pairC := (hS.cf.B.block b hp.lt).trans hp
          go_wp2_with (go_at_call 44; with_reducible refine (step_p 2 b _ hpW).mono ?_; rintro e wn ⟨rfl, bn⟩; have hSn := CW.below hS bn; clear f0 f1 f2 g0 g1 g2 g3 p0 p1 hS; have hS := hSn; obtain ⟨⟨f0, f1, f2, g0, g1, g2, g3⟩, p0, p1⟩ := CW.cells hS; clear hSn bn)
          first
            | exact ⟨⟨1, by omega, by go_num, hS⟩, by simp [intOf]⟩
            | (go_roundw
               case rel => exact ⟨1, by omega, by go_num, hS⟩
               case measure => simp [intOf])
        · obtain rfl : j = 1 := by omega
          go_wp2
          first
            | exact ⟨⟨1, by omega, by go_num, hS⟩, by simp [intOf]⟩
            | (go_roundw
               case rel => exact ⟨1, by omega, by go_num, hS⟩
               case measure => simp [intOf])
end Go.Proofs.YtbmakfdljddhcaaGreatDoor

namespace Go.Proofs.YtbmakfdljddhcaaGreatDoor
open Go Go.RowKit

set_option maxRecDepth 100000 in
set_option maxHeartbeats 4000000 in
theorem faultOf_p (no line : Int) (w : World) (he : ErrType w) : Calls Tryz.prog 27 #[fltV no line 0] w fun e w' => e = .returned (fltV no line 0) ∧ Below w.heap.size w w' := by
  have B0 : Below w.heap.size w (w.alloc (.cells (fltC 0 0 0) 34)) := (Below.refl _ w).alloc (Nat.le_refl _) _
  have L0 : Lies (w.alloc (.cells (fltC 0 0 0) 34)) w.heap.size 34 (fltC 0 0 0) := Lies.new _ _ _
  have hE := he.below B0
  have L1 := asWF_lies w.heap.size no line 0 _ _ L0
  have B1 := asWF_below w.heap.size w.heap.size no line 0 _ _ B0 (Nat.le_refl _) (by simp)
  have hA := as_hitF no line 0 w.heap.size (fltC 0 0 0) (w.alloc (.cells (fltC 0 0 0) 34)) hE L0 rfl
  go_enter Tryz.func27, Tryz.ntmps27
  go_wp2_with fail
  refine hA.mono ?_
  rintro e w1 ⟨rfl, hw1⟩
  rw [← hw1] at L1 B1
  clear hw1 hA L0 B0 hE
  have c0 : w1.cell? ⟨w.heap.size, 0, none⟩ = some (.int .i64 no) := L1.cell rfl
  have c1 : w1.cell? ⟨w.heap.size, 1, none⟩ = some (.int .i64 line) := L1.cell rfl
  have c2 : w1.cell? ⟨w.heap.size, 2, none⟩ = some (.int .i64 0) := L1.cell rfl
  go_wp2
  go_ret
  exact ⟨rfl, B1⟩
theorem isErr (v : Value) (xT : TypeId) (w : World) : (Instr.typeAssert (.iface 34 v) xT 25 true).run Tryz.prog w = .ok (.tuple #[.iface 34 v, .bool true]) w := run_typeAssert_hasB Tryz.underlying25 (by kernel_rfl) v xT w
set_option maxHeartbeats 4000000 in
theorem catch_panicking (no line : Int) (p : Addr) (u : Value) (older : List PanicEntry) (w : World) (he : ErrType w) (hc : ∀ w2, Below w.heap.size w w2 → w2.cell? p = some u) (hz : ∀ w2, Below w.heap.size w w2 → w2.frozen? p = false) :
    CallsD Tryz.prog 26 #[.pointer (some p)] (.panicking ({ v := fltV no line 0, recovered := false } :: older)) w fun e u' w' =>
      e = .returned (.tuple #[]) ∧ u' = .panicking ({ v := fltV no line 0, recovered := true } :: older) ∧ ∃ w2, Below w.heap.size w w2 ∧ w' = w2.setCell p (fltV no line 0) := by
  have hT := isErr
  have hF := faultOf_p no line w he
  unfold fltV at *
  refine callsD_of_wpS Tryz.func26 rfl fun c₀ cs hu => ?_
  apply wpS_seq
  apply wpS_region
  simp [wpOpsS, go_sem, recoverD, hu, Tryz.ntmps26, Exit.thenS, hT]
  refine wpS_of_wp ?_
  simp only [Array.replicate_succ, Array.replicate_zero, List.push_toArray, List.nil_append, List.cons_append, List.setIfInBounds_toArray, List.set_cons_succ, List.set_cons_zero, List.append_toArray]
  have HC : Hid (∀ w2, Below w.heap.size w w2 → w2.cell? p = some u) := hc
  have HZ : Hid (∀ w2, Below w.heap.size w w2 → w2.frozen? p = false) := hz
  clear hc hz
  go_wp2_with (go_at_call 27; with_reducible refine hF.mono ?_; rintro e wn ⟨rfl, bn⟩; have q1 := HC.out _ bn; have q2 := HZ.out _ bn)
  simp [bodyPostS, results, Tryz.results26]
  exact ⟨wn, bn, rfl⟩
theorem nilErr (xT : TypeId) (w : World) : (Instr.typeAssert .nilIface xT 25 true).run Tryz.prog w = .ok (.tuple #[.nilIface, .bool false]) w := by kernel_rfl
set_option maxRecDepth 100000 in
theorem catch_idle (p : Addr) (w : World) :
    CallsD Tryz.prog 26 #[.pointer (some p)] .returning w fun e u' w' => e = .returned (.tuple #[]) ∧ u' = .returning ∧ w' = w := by
  have hT := nilErr
  refine callsD_of_wpS Tryz.func26 rfl fun c₀ cs hu => ?_
  apply wpS_seq
  apply wpS_region
  simp [wpOpsS, go_sem, recoverD, hu, Tryz.ntmps26, Exit.thenS, hT]
  refine wpS_of_wp ?_
  simp only [Array.replicate_succ, Array.replicate_zero, List.push_toArray, List.nil_append, List.cons_append, List.setIfInBounds_toArray, List.set_cons_succ, List.set_cons_zero, List.append_toArray]
  go_wp2
  cases c₀
  simp_all [bodyPostS, results, Tryz.results26]
/-- The file's box and the named result's. -/
theorem file_box (w : World) (x0 x1 x2 v : Value) : Boxed ((w.alloc (.cells #[x0, x1, x2] 51)).alloc (.cells #[v] 25)) (w.heap.size + 1) 25 v ∧ Below w.heap.size w ((w.alloc (.cells #[x0, x1, x2] 51)).alloc (.cells #[v] 25)) := by
  refine ⟨?_, (plc_below w _).trans ((plc_below _ _).mono (by simp))⟩
  have h := Boxed.new (w.alloc (.cells #[x0, x1, x2] 51)) 25 v
  rwa [World.size_alloc] at h
set_option maxHeartbeats 4000000 in
set_option maxRecDepth 100000 in
theorem file_err (x0 x1 x2 : Value) (no line : Int) (w : World) (he : ErrType w) (hck : ∀ W, Below w.heap.size w W → Calls Tryz.prog 28 #[.agg #[x0, x1, x2]] W fun e w' => e = .panicked [{ v := fltV no line 0, recovered := false }] ∧ Below W.heap.size W w') :
    Calls Tryz.prog 13 #[.agg #[x0, x1, x2]] w fun e w' => e = .returned (fltV no line 0) ∧ Below w.heap.size w w' := by
  have hmf : ∀ (fn : Fn) (first cap : Array Value) (w : World), (Instr.makeFunc fn first cap).run Tryz.prog w = .ok (.func fn first cap) w := fun _ _ _ _ => rfl
  obtain ⟨hb, hB⟩ := file_box w x0 x1 x2 .nilIface
  have hck2 := hck _ hB
  go_enter_defers Tryz.func13, Tryz.ntmps13
  go_wp2_with (go_at_call 28; with_reducible refine hck2.mono ?_; rintro e wn ⟨rfl, bn⟩; have hbn := boxed_same hb (bn.block _ hb.lt))
  have hBn : Below w.heap.size w wn := hB.trans (bn.mono hB.size)
  refine leaves_cons (f := 26) (args := #[.pointer (some ⟨w.heap.size + 1, 0, none⟩)]) (by simp) (by simp [go_sem]) ?_
  refine (catch_panicking no line ⟨w.heap.size + 1, 0, none⟩ .nilIface [] wn (he.below hBn) (fun w2 b2 => (boxed_same hbn (b2.block _ hbn.lt)).cell) (fun w2 b2 => (boxed_same hbn (b2.block _ hbn.lt)).frozen)).mono ?_
  rintro e u' w'' ⟨rfl, rfl, w2, b2, rfl⟩
  have hc := (Boxed.set (fltV no line 0) (boxed_same hbn (b2.block _ hbn.lt))).cell
  simp [Leaves, settle, results, Tryz.results13, go_sem, hc]
  exact Below.setCell (p := ⟨w.heap.size + 1, 0, none⟩) (hBn.trans (b2.mono hBn.size)) (Nat.le_succ _) _
set_option maxHeartbeats 4000000 in
set_option maxRecDepth 100000 in
theorem file_ok (x0 x1 x2 : Value) (w : World) (hck : ∀ W, Below w.heap.size w W → Calls Tryz.prog 28 #[.agg #[x0, x1, x2]] W fun e w' => e = .returned (.tuple #[]) ∧ Below W.heap.size W w') :
    Calls Tryz.prog 13 #[.agg #[x0, x1, x2]] w fun e w' => e = .returned .nilIface ∧ Below w.heap.size w w' := by
  have hmf : ∀ (fn : Fn) (first cap : Array Value) (w : World), (Instr.makeFunc fn first cap).run Tryz.prog w = .ok (.func fn first cap) w := fun _ _ _ _ => rfl
  obtain ⟨hb, hB⟩ := file_box w x0 x1 x2 .nilIface
  have hck2 := hck _ hB
  go_enter_defers Tryz.func13, Tryz.ntmps13
  go_wp2_with (go_at_call 28; with_reducible refine hck2.mono ?_; rintro e wn ⟨rfl, bn⟩; have hbn := boxed_same hb (bn.block _ hb.lt); have hbc := hbn.cell; have hbf := hbn.frozen)
  have hBn : Below w.heap.size w wn := hB.trans (bn.mono hB.size)
  refine leaves_cons (f := 26) (args := #[.pointer (some ⟨w.heap.size + 1, 0, none⟩)]) (by simp) (by simp [go_sem]) ?_
  refine (catch_idle ⟨w.heap.size + 1, 0, none⟩ _).mono ?_
  rintro e u' w'' ⟨rfl, rfl, rfl⟩
  have hc := (Boxed.set .nilIface hbn).cell
  simp [Leaves, settle, results, Tryz.results13, go_sem, hc]
  exact Below.setCell (p := ⟨w.heap.size + 1, 0, none⟩) hBn (Nat.le_succ _) _
end Go.Proofs.YtbmakfdljddhcaaGreatDoor

namespace Go.Proofs.YtbmakfdljddhcaaGreatDoor
open Go Go.RowKit

set_option maxRecDepth 100000 in
set_option maxHeartbeats 4000000 in
theorem chkE_p (w : World) : Calls Tryz.prog 28 #[.agg #[.int .u8 92, .slice none 0 0, .slice none 0 0]] w fun e w' => e = .panicked [{ v := fltV 2 0 0, recovered := false }] ∧ Below w.heap.size w w' := by
  have hrf : ∀ no W, Calls Tryz.prog 42 #[.agg #[.int .i64 0, .int .u8 92], .bool false, .int .i64 no] W fun e w' => e = .returned (.tuple #[]) ∧ Below W.heap.size W w' := fun no W => refuseIf_f 0 92 no W
  have hrt : ∀ no W, Calls Tryz.prog 42 #[.agg #[.int .i64 0, .int .u8 92], .bool true, .int .i64 no] W fun e w' => e = .panicked [{ v := fltV no 0 0, recovered := false }] ∧ Below W.heap.size W w' := fun no W => refuseIf_t 0 92 no W
  have L1 : Lies ((w.alloc (.cells #[.int .u8 92, .slice none 0 0, .slice none 0 0] 51)).alloc (.cells #[.int .i64 0, .int .u8 92] 94)) w.heap.size 51 #[.int .u8 92, .slice none 0 0, .slice none 0 0] := (Lies.new w _ _).alloc _
  have L2 : Lies ((w.alloc (.cells #[.int .u8 92, .slice none 0 0, .slice none 0 0] 51)).alloc (.cells #[.int .i64 0, .int .u8 92] 94)) (w.heap.size + 1) 94 #[.int .i64 0, .int .u8 92] := by
    have h := Lies.new (w.alloc (.cells #[.int .u8 92, .slice none 0 0, .slice none 0 0] 51)) 94 #[.int .i64 0, .int .u8 92]
    rwa [World.size_alloc] at h
  have B : Below w.heap.size w ((w.alloc (.cells #[.int .u8 92, .slice none 0 0, .slice none 0 0] 51)).alloc (.cells #[.int .i64 0, .int .u8 92] 94)) := (plc_below w _).trans ((plc_below _ _).mono (by simp))
  go_enter Tryz.func28, Tryz.ntmps28
  go_upto_region 2 with fail
  generalize (w.alloc (.cells #[.int .u8 92, .slice none 0 0, .slice none 0 0] 51)).alloc (.cells #[.int .i64 0, .int .u8 92] 94) = W0 at *
  have c0 : W0.cell? ⟨w.heap.size, 0, none⟩ = some (.int .u8 92) := L1.cell rfl
  have c2 : W0.cell? ⟨w.heap.size, 2, none⟩ = some (.slice none 0 0) := L1.cell rfl
  have p0 : W0.cell? ⟨w.heap.size + 1, 0, none⟩ = some (.int .i64 0) := L2.cell rfl
  have p1 : W0.cell? ⟨w.heap.size + 1, 1, none⟩ = some (.int .u8 92) := L2.cell rfl
  go_wp2_with (first
    | (go_at_call 42; with_reducible refine (hrf _ _).mono ?_; rintro e wn ⟨rfl, bn⟩; have L1n := L1.below bn; have L2n := L2.below bn; have Bn := B.trans (bn.mono B.size); clear c0 c2 p0 p1 L1 L2 B; have L1 := L1n; have L2 := L2n; have B := Bn; have c0 : wn.cell? ⟨w.heap.size, 0, none⟩ = some (.int .u8 92) := L1.cell rfl; have c2 : wn.cell? ⟨w.heap.size, 2, none⟩ = some (.slice none 0 0) := L1.cell rfl; have p0 : wn.cell? ⟨w.heap.size + 1, 0, none⟩ = some (.int .i64 0) := L2.cell rfl; have p1 : wn.cell? ⟨w.heap.size + 1, 1, none⟩ = some (.int .u8 92) := L2.cell rfl; clear L1n L2n Bn bn)
    | (go_at_call 42; with_reducible refine (hrt _ _).mono ?_; rintro e wn ⟨rfl, bn⟩; have Bn := B.trans (bn.mono B.size)))
  exact ⟨rfl, rfl, Bn⟩
theorem told_p (no line : Int) (h1 : 1 ≤ no) (h2 : no ≤ 32) (w : World) (he : ErrType w) : Calls Tryz.prog 14 #[fltV no line 0, .int .i64 no, .int .i64 line] w fun e w' => e = .returned (.bool true) ∧ Below w.heap.size w w' := by
  have ha := at_p no line 0 h1 h2 w he
  go_enter Tryz.func14, Tryz.ntmps14
  go_wp2_with (go_at_call 29; with_reducible refine ha.mono ?_; rintro e wn ⟨rfl, bn⟩)
  go_ret
  exact ⟨rfl, bn⟩
/-- The statement's own files in memory. -/
structure WK (w W : World) : Prop where
  hp : Lies W (w.heap.size) 40 #[.string ⟨#[65]⟩, .string ⟨#[39, 120, 39]⟩]
  hs : Lies W (w.heap.size + 1) 45 #[.int .i64 2, .int .i64 2, .string ⟨#[]⟩, .string ⟨#[]⟩, .bool false, .slice (some ⟨w.heap.size, 0, none⟩) 1 1, .bool false, .slice none 0 0, .slice none 0 0, .slice none 0 0]
  hg : Lies W (w.heap.size + 1 + 1) 48 #[.int .i64 1, .string ⟨#[115, 99, 114, 97, 116, 99, 104]⟩, .string ⟨#[]⟩, .slice (some ⟨w.heap.size + 1, 0, none⟩) 1 1]
  hr : Lies W (w.heap.size + 1 + 1 + 1) 51 #[.int .u8 92, .slice none 0 0, .slice (some ⟨w.heap.size + 1 + 1, 0, none⟩) 1 1]
  hg2 : Lies W (w.heap.size + 1 + 1 + 1 + 1) 48 #[.int .i64 1, .string ⟨#[115, 99, 114, 97, 116, 99, 104]⟩, .string ⟨#[65]⟩, .slice none 0 0]
  hr2 : Lies W (w.heap.size + 1 + 1 + 1 + 1 + 1) 51 #[.int .u8 92, .slice none 0 0, .slice (some ⟨w.heap.size + 1 + 1 + 1 + 1, 0, none⟩) 1 1]
  B : Below w.heap.size w W
  E : ErrType W
theorem WK.below {w W wn : World} (h : WK w W) (bn : Below W.heap.size W wn) : WK w wn := ⟨h.hp.below bn, h.hs.below bn, h.hg.below bn, h.hr.below bn, h.hg2.below bn, h.hr2.below bn, h.B.trans (bn.mono h.B.size), h.E.below bn⟩
theorem lies_at {w : World} {n : Nat} {t : TypeId} {cs : Array Value} (h : n = w.heap.size) : Lies (w.alloc (.cells cs t)) n t cs := by subst h; exact Lies.new w _ _
theorem WK.new (w : World) (he : ErrType w) : WK w ((((((w.alloc (.cells #[.string ⟨#[65]⟩, .string ⟨#[39, 120, 39]⟩] 40)).alloc (.cells #[.int .i64 2, .int .i64 2, .string ⟨#[]⟩, .string ⟨#[]⟩, .bool false, .slice (some ⟨w.heap.size, 0, none⟩) 1 1, .bool false, .slice none 0 0, .slice none 0 0, .slice none 0 0] 45)).alloc (.cells #[.int .i64 1, .string ⟨#[115, 99, 114, 97, 116, 99, 104]⟩, .string ⟨#[]⟩, .slice (some ⟨w.heap.size + 1, 0, none⟩) 1 1] 48)).alloc (.cells #[.int .u8 92, .slice none 0 0, .slice (some ⟨w.heap.size + 1 + 1, 0, none⟩) 1 1] 51)).alloc (.cells #[.int .i64 1, .string ⟨#[115, 99, 114, 97, 116, 99, 104]⟩, .string ⟨#[65]⟩, .slice none 0 0] 48)).alloc (.cells #[.int .u8 92, .slice none 0 0, .slice (some ⟨w.heap.size + 1 + 1 + 1 + 1, 0, none⟩) 1 1] 51)) := by
  have hB : Below w.heap.size w ((((((w.alloc (.cells #[.string ⟨#[65]⟩, .string ⟨#[39, 120, 39]⟩] 40)).alloc (.cells #[.int .i64 2, .int .i64 2, .string ⟨#[]⟩, .string ⟨#[]⟩, .bool false, .slice (some ⟨w.heap.size, 0, none⟩) 1 1, .bool false, .slice none 0 0, .slice none 0 0, .slice none 0 0] 45)).alloc (.cells #[.int .i64 1, .string ⟨#[115, 99, 114, 97, 116, 99, 104]⟩, .string ⟨#[]⟩, .slice (some ⟨w.heap.size + 1, 0, none⟩) 1 1] 48)).alloc (.cells #[.int .u8 92, .slice none 0 0, .slice (some ⟨w.heap.size + 1 + 1, 0, none⟩) 1 1] 51)).alloc (.cells #[.int .i64 1, .string ⟨#[115, 99, 114, 97, 116, 99, 104]⟩, .string ⟨#[65]⟩, .slice none 0 0] 48)).alloc (.cells #[.int .u8 92, .slice none 0 0, .slice (some ⟨w.heap.size + 1 + 1 + 1 + 1, 0, none⟩) 1 1] 51)) := (((((((Below.refl _ w).alloc (by simp) _).alloc (by simp; try omega) _).alloc (by simp; try omega) _).alloc (by simp; try omega) _).alloc (by simp; try omega) _).alloc (by simp; try omega) _)
  exact ⟨(((((((lies_at rfl).alloc _).alloc _).alloc _).alloc _).alloc _)), ((((((lies_at (by simp)).alloc _).alloc _).alloc _).alloc _)), (((((lies_at (by simp)).alloc _).alloc _).alloc _)), ((((lies_at (by simp)).alloc _).alloc _)), (((lies_at (by simp)).alloc _)), ((lies_at (by simp))), hB, he.below hB⟩
theorem WK.cells {w W : World} (h : WK w W) : W.cell? ⟨w.heap.size + 1 + 1 + 1, 0, none⟩ = some (.int .u8 92) ∧ W.cell? ⟨w.heap.size + 1 + 1 + 1, 1, none⟩ = some (.slice none 0 0) ∧ W.cell? ⟨w.heap.size + 1 + 1 + 1, 2, none⟩ = some (.slice (some ⟨w.heap.size + 1 + 1, 0, none⟩) 1 1) ∧ W.cell? ⟨w.heap.size + 1 + 1 + 1 + 1 + 1, 0, none⟩ = some (.int .u8 92) ∧ W.cell? ⟨w.heap.size + 1 + 1 + 1 + 1 + 1, 1, none⟩ = some (.slice none 0 0) ∧ W.cell? ⟨w.heap.size + 1 + 1 + 1 + 1 + 1, 2, none⟩ = some (.slice (some ⟨w.heap.size + 1 + 1 + 1 + 1, 0, none⟩) 1 1) :=
  ⟨h.hr.cell rfl, h.hr.cell rfl, h.hr.cell rfl, h.hr2.cell rfl, h.hr2.cell rfl, h.hr2.cell rfl⟩
theorem fileR_p {w W : World} (h : WK w W) : Calls Tryz.prog 13 #[.agg #[.int .u8 92, .slice none 0 0, .slice (some ⟨w.heap.size + 1 + 1, 0, none⟩) 1 1]] W fun e w' => e = .returned .nilIface ∧ Below W.heap.size W w' :=
  file_ok _ _ _ W fun W2 b2 => chkR_p (w.heap.size + 1 + 1) (w.heap.size + 1) w.heap.size W2 (h.hg.below b2) (h.hs.below b2) (h.hp.below b2)
theorem fileB_p {w W : World} (h : WK w W) : Calls Tryz.prog 13 #[.agg #[.int .u8 92, .slice none 0 0, .slice (some ⟨w.heap.size + 1 + 1 + 1 + 1, 0, none⟩) 1 1]] W fun e w' => e = .returned (fltV 8 1 0) ∧ Below W.heap.size W w' :=
  file_err _ _ _ 8 1 W h.E fun W2 b2 => chkB_p (w.heap.size + 1 + 1 + 1 + 1) W2 (h.hg2.below b2)
theorem fileE_p {w W : World} (h : WK w W) : Calls Tryz.prog 13 #[.agg #[.int .u8 92, .slice none 0 0, .slice none 0 0]] W fun e w' => e = .returned (fltV 2 0 0) ∧ Below W.heap.size W w' :=
  file_err _ _ _ 2 0 W h.E fun W2 _ => chkE_p W2
theorem refG_p (W : World) : Calls Tryz.prog 7 #[.string ⟨#[97, 47, 98, 58, 99]⟩] W fun e w' => e = .returned .nilIface ∧ Below W.heap.size W w' := by
  have h := ref_p ⟨#[97, 47, 98, 58, 99]⟩ W (by decide)
  rw [show refE (un ⟨#[97, 47, 98, 58, 99]⟩) = .nilIface by unfold refE; rw [if_pos (by decide +kernel)]] at h
  exact h
theorem refA_p (W : World) : Calls Tryz.prog 7 #[.string ⟨#[65]⟩] W fun e w' => e = .returned (.iface 32 (.int .i64 31)) ∧ Below W.heap.size W w' := by
  have h := ref_p ⟨#[65]⟩ W (by decide)
  rw [show refE (un ⟨#[65]⟩) = .iface 32 (.int .i64 31) by unfold refE; rw [if_neg (by decide +kernel)]] at h
  exact h
set_option maxRecDepth 100000 in
set_option maxHeartbeats 8000000 in
theorem works_c (w : World) (he : ErrType w) : Calls Tryz.prog 8 #[] w fun e w' => e = .returned (.bool true) ∧ Below w.heap.size w w' := by
  have hK := WK.new w he
  go_enter Tryz.func8, Tryz.ntmps8
  go_upto_region 3 with fail
  generalize ((((((w.alloc (.cells #[.string ⟨#[65]⟩, .string ⟨#[39, 120, 39]⟩] 40)).alloc (.cells #[.int .i64 2, .int .i64 2, .string ⟨#[]⟩, .string ⟨#[]⟩, .bool false, .slice (some ⟨w.heap.size, 0, none⟩) 1 1, .bool false, .slice none 0 0, .slice none 0 0, .slice none 0 0] 45)).alloc (.cells #[.int .i64 1, .string ⟨#[115, 99, 114, 97, 116, 99, 104]⟩, .string ⟨#[]⟩, .slice (some ⟨w.heap.size + 1, 0, none⟩) 1 1] 48)).alloc (.cells #[.int .u8 92, .slice none 0 0, .slice (some ⟨w.heap.size + 1 + 1, 0, none⟩) 1 1] 51)).alloc (.cells #[.int .i64 1, .string ⟨#[115, 99, 114, 97, 116, 99, 104]⟩, .string ⟨#[65]⟩, .slice none 0 0] 48)).alloc (.cells #[.int .u8 92, .slice none 0 0, .slice (some ⟨w.heap.size + 1 + 1 + 1 + 1, 0, none⟩) 1 1] 51)) = W0 at *
  obtain ⟨c0, c1, c2, d0, d1, d2⟩ := hK.cells
  go_wp2_with (first | (go_at_call 13; with_reducible refine (fileR_p hK).mono ?_; rintro e wn ⟨rfl, bn⟩; have hKn := hK.below bn; clear c0 c1 c2 d0 d1 d2 hK; have hK := hKn; obtain ⟨c0, c1, c2, d0, d1, d2⟩ := hK.cells; clear hKn bn) | (go_at_call 13; with_reducible refine (fileB_p hK).mono ?_; rintro e wn ⟨rfl, bn⟩; have hKn := hK.below bn; clear c0 c1 c2 d0 d1 d2 hK; have hK := hKn; obtain ⟨c0, c1, c2, d0, d1, d2⟩ := hK.cells; clear hKn bn) | (go_at_call 13; with_reducible refine (fileE_p hK).mono ?_; rintro e wn ⟨rfl, bn⟩; have hKn := hK.below bn; clear c0 c1 c2 d0 d1 d2 hK; have hK := hKn; obtain ⟨c0, c1, c2, d0, d1, d2⟩ := hK.cells; clear hKn bn) | (go_at_call 14; with_reducible refine (told_p 8 1 (by decide) (by decide) _ hK.E).mono ?_; rintro e wn ⟨rfl, bn⟩; have hKn := hK.below bn; clear c0 c1 c2 d0 d1 d2 hK; have hK := hKn; obtain ⟨c0, c1, c2, d0, d1, d2⟩ := hK.cells; clear hKn bn) | (go_at_call 14; with_reducible refine (told_p 2 0 (by decide) (by decide) _ hK.E).mono ?_; rintro e wn ⟨rfl, bn⟩; have hKn := hK.below bn; clear c0 c1 c2 d0 d1 d2 hK; have hK := hKn; obtain ⟨c0, c1, c2, d0, d1, d2⟩ := hK.cells; clear hKn bn) | (go_at_call 7; with_reducible refine (refG_p _).mono ?_; rintro e wn ⟨rfl, bn⟩; have hKn := hK.below bn; clear c0 c1 c2 d0 d1 d2 hK; have hK := hKn; obtain ⟨c0, c1, c2, d0, d1, d2⟩ := hK.cells; clear hKn bn) | (go_at_call 7; with_reducible refine (refA_p _).mono ?_; rintro e wn ⟨rfl, bn⟩; have hKn := hK.below bn; clear c0 c1 c2 d0 d1 d2 hK; have hK := hKn; obtain ⟨c0, c1, c2, d0, d1, d2⟩ := hK.cells; clear hKn bn) | (go_at_call 6; with_reducible refine (plain_some 31 (by decide) (by decide) _ hK.E).mono ?_; rintro e wn ⟨rfl, bn⟩; have hKn := hK.below bn; clear c0 c1 c2 d0 d1 d2 hK; have hK := hKn; obtain ⟨c0, c1, c2, d0, d1, d2⟩ := hK.cells; clear hKn bn))
  go_ret
  exact ⟨rfl, hK.B⟩
end Go.Proofs.YtbmakfdljddhcaaGreatDoor

namespace Go.Proofs.YtbmakfdljddhcaaGreatDoor
open Go Go.RowKit

theorem works_at {w W : World} (he : ErrType w) (hB : Below w.heap.size w W) : Calls Tryz.prog 8 #[] W fun e w' => e = .returned (.bool true) ∧ Below W.heap.size W w' := works_c W (he.below hB)
set_option maxRecDepth 100000 in
set_option maxHeartbeats 8000000 in
theorem checkrefs_law (s : ByteArray) (w : World) (he : ErrType w) : Calls Tryz.prog 3 #[.string s] w fun e w' => e = .returned (.bool true) ∧ Below w.heap.size w w' := by
  by_cases hl : s.size ≤ 65536
  rotate_left
  · have k1 : (65536 : Int) < (s.size : Int) := by omega
    go_enter Tryz.func3, Tryz.ntmps3
    go_wp2
    go_ret
    exact ⟨rfl, Below.refl _ _⟩
  have k1 : ¬ (65536 : Int) < (s.size : Int) := by omega
  have hr := fun W => ref_p s W (by omega)
  have hd := fun W => dref_r s W
  have hw := fun W => works_c W
  have hB : Below w.heap.size w w := Below.refl _ _
  unfold refE at hr
  unfold refN at hd
  cases hb : refL (un s)
  · rw [hb] at hr hd
    clear hb
    have hp := fun W hE => plain_some 31 (by decide) (by decide) W hE
    replace hr : ∀ W, Calls Tryz.prog 7 #[.string s] W fun e w' => e = .returned (.iface 32 (.int .i64 31)) ∧ Below W.heap.size W w' := hr
    replace hd : ∀ W, Calls Tryz.prog 5 #[.string s] W fun e w' => e = .returned (.int .i64 31) ∧ Below W.heap.size W w' := hd
    go_enter Tryz.func3, Tryz.ntmps3
    go_wp2_with (first
      | (go_at_call 7; with_reducible refine (hr _).mono ?_; rintro e wn ⟨rfl, bn⟩; have hBn := hB.trans (bn.mono hB.size); clear hB bn; have hB := hBn; clear hBn)
      | (go_at_call 5; with_reducible refine (hd _).mono ?_; rintro e wn ⟨rfl, bn⟩; have hBn := hB.trans (bn.mono hB.size); clear hB bn; have hB := hBn; clear hBn)
      | (go_at_call 6; with_reducible refine (hp _ (he.below hB)).mono ?_; rintro e wn ⟨rfl, bn⟩; have hBn := hB.trans (bn.mono hB.size); clear hB bn; have hB := hBn; clear hBn)
      | (go_at_call 8; with_reducible refine (hw _ (he.below hB)).mono ?_; rintro e wn ⟨rfl, bn⟩; have hBn := hB.trans (bn.mono hB.size); clear hB bn; have hB := hBn; clear hBn))
    go_ret
    exact ⟨rfl, hB⟩
  · rw [hb] at hr hd
    clear hb
    have hp := fun W => plain_nil W
    replace hr : ∀ W, Calls Tryz.prog 7 #[.string s] W fun e w' => e = .returned .nilIface ∧ Below W.heap.size W w' := hr
    replace hd : ∀ W, Calls Tryz.prog 5 #[.string s] W fun e w' => e = .returned (.int .i64 0) ∧ Below W.heap.size W w' := hd
    go_enter Tryz.func3, Tryz.ntmps3
    go_wp2_with (first
      | (go_at_call 7; with_reducible refine (hr _).mono ?_; rintro e wn ⟨rfl, bn⟩; have hBn := hB.trans (bn.mono hB.size); clear hB bn; have hB := hBn; clear hBn)
      | (go_at_call 5; with_reducible refine (hd _).mono ?_; rintro e wn ⟨rfl, bn⟩; have hBn := hB.trans (bn.mono hB.size); clear hB bn; have hB := hBn; clear hBn)
      | (go_at_call 6; with_reducible refine (hp _).mono ?_; rintro e wn ⟨rfl, bn⟩; have hBn := hB.trans (bn.mono hB.size); clear hB bn; have hB := hBn; clear hBn)
      | (go_at_call 8; with_reducible refine (hw _ (he.below hB)).mono ?_; rintro e wn ⟨rfl, bn⟩; have hBn := hB.trans (bn.mono hB.size); clear hB bn; have hB := hBn; clear hBn))
    go_ret
    exact ⟨rfl, hB⟩
end Go.Proofs.YtbmakfdljddhcaaGreatDoor

namespace Go.Proofs.YtbmakfdljddhcaaGreatDoor
open Go Go.RowKit

theorem ixb_append_hit (c : UInt8) : ∀ (l m : List UInt8), 0 ≤ Lib.indexByte l c → Lib.indexByte (l ++ m) c = Lib.indexByte l c
  | [], m, h => by simp [Lib.indexByte] at h
  | b :: l, m, h => by
    have hr := indexByte_range c l
    rw [List.cons_append]
    unfold Lib.indexByte at h ⊢
    by_cases hb : (b == c) = true
    · rw [if_pos hb, if_pos hb]
    · rw [if_neg hb] at h
      rw [if_neg hb, if_neg hb]
      by_cases h2 : (Lib.indexByte l c == -1) = true
      · rw [if_pos h2] at h; omega
      · have : Lib.indexByte l c ≠ -1 := by simpa using h2
        rw [ixb_append_hit c l m (by omega)]
theorem ixb_append_miss (c : UInt8) : ∀ (l m : List UInt8) (k : Nat), Lib.indexByte l c < 0 → Lib.indexByte m c = k → Lib.indexByte (l ++ m) c = ((l.length + k : Nat) : Int)
  | [], m, k, _, h => by simpa using h
  | b :: l, m, k, h, hm => by
    have hr := indexByte_range c l
    rw [List.cons_append]
    unfold Lib.indexByte at h ⊢
    by_cases hb : (b == c) = true
    · rw [if_pos hb] at h; omega
    · rw [if_neg hb] at h
      rw [if_neg hb]
      have hl : Lib.indexByte l c < 0 := by
        by_cases h2 : (Lib.indexByte l c == -1) = true
        · have : Lib.indexByte l c = -1 := by simpa using h2
          omega
        · rw [if_neg h2] at h; omega
      rw [ixb_append_miss c l m k hl hm]
      rw [if_neg (by simp; omega)]
      simp; omega
theorem refL_at (l x : List UInt8) (h : Lib.indexByte l 58 < 0) : refL (l ++ 58 :: x) = refP l x := by
  have hi := ixb_append_miss 58 l (58 :: x) 0 h (by unfold Lib.indexByte; rw [if_pos (by decide)]; rfl)
  rw [Nat.add_zero] at hi
  unfold refL
  rw [if_neg (by omega), hi, Int.toNat_natCast, List.take_left, show l.length + 1 = l.length + 1 from rfl, ← List.drop_drop, List.drop_left]
  rfl
theorem refL_two (l x : List UInt8) (h : 0 ≤ Lib.indexByte l 58) : refL (l ++ 58 :: x) = false := by
  have hr := indexByte_range 58 l
  have hi := ixb_append_hit 58 l (58 :: x) h
  obtain ⟨i, h2⟩ : ∃ i : Nat, Lib.indexByte l 58 = i := ⟨(Lib.indexByte l 58).toNat, by omega⟩
  unfold refL
  rw [if_neg (by omega), hi, h2, Int.toNat_natCast]
  have hd : (l ++ 58 :: x).drop (i + 1) = l.drop (i + 1) ++ 58 :: x := List.drop_append_of_le_length (by omega)
  have ht : tagL ((l ++ 58 :: x).drop (i + 1)) = false := by
    rw [Bool.eq_false_iff]
    intro ht
    have h3 := tag_colon _ ht
    rw [hd] at h3
    rcases Int.lt_or_le (Lib.indexByte (l.drop (i + 1)) 58) 0 with h4 | h4
    · rw [ixb_append_miss 58 _ (58 :: x) 0 h4 (by unfold Lib.indexByte; rw [if_pos (by decide)]; rfl)] at h3
      omega
    · rw [ixb_append_hit 58 _ _ h4] at h3; omega
  unfold refP
  rw [ht, Bool.and_false, Bool.and_false]
theorem ixb_take (c : UInt8) (l : List UInt8) (k : Nat) (b : UInt8) (h : Lib.indexByte (l.take k) c < 0) (hb : l[k]? = some b) (hne : b ≠ c) : Lib.indexByte (l.take (k + 1)) c < 0 := by
  have hr := indexByte_range c (l.take (k + 1))
  rcases Int.lt_or_le (Lib.indexByte (l.take (k + 1)) c) 0 with h1 | h1
  · exact h1
  · exfalso
    have : ∀ m : List UInt8, 0 ≤ Lib.indexByte m c → c ∈ m := by
      intro m
      induction m with
      | nil => simp [Lib.indexByte]
      | cons a m ih =>
        intro hm
        unfold Lib.indexByte at hm
        by_cases ha : a = c
        · simp [ha]
        · rw [if_neg (by simp [ha])] at hm
          have hrm := indexByte_range c m
          by_cases h2 : (Lib.indexByte m c == -1) = true
          · rw [if_pos h2] at hm; omega
          · have h3 : Lib.indexByte m c ≠ -1 := by simpa using h2
            exact List.mem_cons_of_mem _ (ih (by omega))
    have hmem := this _ h1
    rw [List.take_add_one, hb, List.mem_append] at hmem
    rcases hmem with h2 | h2
    · have : ∀ m : List UInt8, c ∈ m → 0 ≤ Lib.indexByte m c := by
        intro m
        induction m with
        | nil => simp
        | cons a m ih =>
          intro hm
          unfold Lib.indexByte
          by_cases ha : a = c
          · rw [if_pos (by simp [ha])]; omega
          · rw [if_neg (by simp [ha])]
            have h3 := ih (by rcases List.mem_cons.1 hm with h | h; exact absurd h.symm ha; exact h)
            rw [if_neg (by simp; omega)]; omega
      have := this _ h2
      omega
    · simp at h2; exact hne h2.symm
theorem ixb_found (c : UInt8) (l : List UInt8) (k : Nat) (h : l[k]? = some c) : 0 ≤ Lib.indexByte l c := by
  have hm : c ∈ l := List.mem_of_getElem? h
  clear h
  induction l with
  | nil => simp at hm
  | cons a m ih =>
    unfold Lib.indexByte
    by_cases ha : a = c
    · rw [if_pos (by simp [ha])]; omega
    · rw [if_neg (by simp [ha])]
      have h3 := ih (by rcases List.mem_cons.1 hm with h | h; exact absurd h.symm ha; exact h)
      rw [if_neg (by simp; omega)]; omega
theorem name_a : nameL [97] = true := by decide +kernel
/-- What the statement asks of a text without a colon and a tag. -/
theorem tags_pure (s t : List UInt8) (h : Lib.indexByte s 58 < 0) : refL (s ++ 58 :: latC) = refL s ∧ (refL s = true → s.length ≤ 96) ∧ (refL s = true → refL (97 :: 58 :: t) = true → t.length ≤ 6 → refL (s ++ 58 :: t) = true) := by
  have e1 : refL s = refP s latC := by unfold refL; rw [if_pos h]
  refine ⟨by rw [refL_at s _ h, e1], refL_le s, fun h1 h2 h3 => ?_⟩
  have e2 : refL (97 :: 58 :: t) = refP [97] t := refL_at [97] t (by decide +kernel)
  rw [refL_at s t h]
  rw [e1] at h1
  rw [e2] at h2
  unfold refP at *
  simp only [Bool.and_eq_true, decide_eq_true_eq] at *
  have : latC.length = 6 := rfl
  exact ⟨by omega, h1.2.1, h2.2.2⟩
end Go.Proofs.YtbmakfdljddhcaaGreatDoor

namespace Go.Proofs.YtbmakfdljddhcaaGreatDoor
open Go Go.RowKit

theorem un_lat (s : ByteArray) : un (s ++ ⟨#[58, 108, 97, 116, 101, 115, 116]⟩) = un s ++ 58 :: latC := by rw [un_append]; rfl
theorem un_a (t : ByteArray) : un (⟨#[97, 58]⟩ ++ t) = 97 :: 58 :: un t := by rw [un_append]; rfl
theorem un_tag (s t : ByteArray) : un (s ++ ⟨#[58]⟩ ++ t) = un s ++ 58 :: un t := by rw [un_append, un_append, List.append_assoc]; rfl
theorem refV (s : ByteArray) (b : Bool) (h : refL (un s) = b) (hs : s.size ≤ 1048576) (W : World) : Calls Tryz.prog 7 #[.string s] W fun e w' => e = .returned (if b then .nilIface else .iface 32 (.int .i64 31)) ∧ Below W.heap.size W w' := by
  have hr := ref_p s W hs
  unfold refE at hr
  rw [h] at hr
  exact hr
set_option maxRecDepth 100000 in
set_option maxHeartbeats 16000000 in
theorem checktags_law (s tag : ByteArray) (w : World) (he : ErrType w) : Calls Tryz.prog 4 #[.string s, .string tag] w fun e w' => e = .returned (.bool true) ∧ Below w.heap.size w w' := by
  have hB : Below w.heap.size w w := Below.refl _ _
  by_cases hl : s.size ≤ 65536
  rotate_left
  · have d1 : decide ((65536 : Int) < (s.size : Int)) = true := decide_eq_true (by omega)
    have k1 : (65536 : Int) < (s.size : Int) := by omega
    go_enter Tryz.func4, Tryz.ntmps4
    go_wp2
    go_ret
    exact ⟨rfl, hB⟩
  have k1 : ¬ (65536 : Int) < (s.size : Int) := by omega
  by_cases ht : tag.size ≤ 65536
  rotate_left
  · have k2 : (65536 : Int) < (tag.size : Int) := by omega
    go_enter Tryz.func4, Tryz.ntmps4
    go_wp2
    go_ret
    exact ⟨rfl, hB⟩
  have k2 : ¬ (65536 : Int) < (tag.size : Int) := by omega
  have hw := fun W => works_c W
  have hsl := un_length s
  have z1 : (s ++ ⟨#[58, 108, 97, 116, 101, 115, 116]⟩).size = s.size + 7 := by rw [ByteArray.size_append]; rfl
  have z2 : (ByteArray.mk #[97, 58] ++ tag).size = tag.size + 2 := by rw [ByteArray.size_append, show (ByteArray.mk #[97, 58]).size = 2 from rfl]; omega
  have z3 : (s ++ ⟨#[58]⟩).size = s.size + 1 := by rw [ByteArray.size_append]; rfl
  have z4 : (s ++ ⟨#[58]⟩ ++ tag).size = s.size + 1 + tag.size := by rw [ByteArray.size_append, z3]
  have y1 : s.size + (ByteArray.mk #[58, 108, 97, 116, 101, 115, 116]).size ≤ 9223372036854775807 := by rw [show (ByteArray.mk #[58, 108, 97, 116, 101, 115, 116]).size = 7 from rfl]; omega
  have y2 : (ByteArray.mk #[97, 58]).size + tag.size ≤ 9223372036854775807 := by rw [show (ByteArray.mk #[97, 58]).size = 2 from rfl]; omega
  have y3 : s.size + (ByteArray.mk #[58]).size ≤ 9223372036854775807 := by rw [show (ByteArray.mk #[58]).size = 1 from rfl]; omega
  have y4 : (s ++ ⟨#[58]⟩).size + tag.size ≤ 9223372036854775807 := by omega
  have hp := fun W hE => plain_some 31 (by decide) (by decide) W hE
  cases hb : refL (un s)
  · have hr1 : ∀ W, Calls Tryz.prog 7 #[.string s] W fun e w' => e = .returned (.iface 32 (.int .i64 31)) ∧ Below W.heap.size W w' := fun W => refV s false hb (by omega) W
    go_enter Tryz.func4, Tryz.ntmps4
    go_upto_region 4 with (go_at_call 7; with_reducible refine (hr1 _).mono ?_; rintro e wn ⟨rfl, bn⟩; have hBn := hB.trans (bn.mono hB.size); clear hB bn; have hB := hBn; clear hBn)
    go_wp2
    go_loop [6] (fun i => ∃ k : Nat, k ≤ s.size ∧ i = .int .i64 k ∧ Hid (Lib.indexByte ((un s).take k) 58 < 0)) (fun i => s.size - (intOf i).toNat)
    case atStart => exact ⟨0, Nat.zero_le _, rfl, by simp [Hid, Lib.indexByte]⟩
    case round =>
      obtain ⟨k, hk, rfl, HN⟩ := hrel
      have k0 : (0 : Int) ≤ (k : Int) := by omega
      by_cases hlt : k < s.size
      · have hget := un_getElem? s k hlt
        have kk : (k : Int) < (s.size : Int) := by omega
        by_cases hc : s[k] = 58
        · have q1 : ((s[k].toNat : Int) == 58) = true := by rw [hc]; rfl
          have hF : refL (un (s ++ ⟨#[58, 108, 97, 116, 101, 115, 116]⟩)) = false := by rw [un_lat]; exact refL_two _ _ (ixb_found 58 (un s) k (by rw [hget, hc]))
          have hr2 : ∀ W, Calls Tryz.prog 7 #[.string (s ++ ⟨#[58, 108, 97, 116, 101, 115, 116]⟩)] W fun e w' => e = .returned (.iface 32 (.int .i64 31)) ∧ Below W.heap.size W w' := fun W => refV _ false hF (by omega) W
          clear hget hc hF HN hb
          go_wp2_with (first | (go_at_call 7; with_reducible refine (hr2 _).mono ?_; rintro e wn ⟨rfl, bn⟩; have hBn := hB.trans (bn.mono hB.size); clear hB bn; have hB := hBn; clear hBn) | (go_at_call 6; with_reducible refine (hp _ (he.below hB)).mono ?_; rintro e wn ⟨rfl, bn⟩; have hBn := hB.trans (bn.mono hB.size); clear hB bn; have hB := hBn; clear hBn) | (go_at_call 8; with_reducible refine (hw _ (he.below hB)).mono ?_; rintro e wn ⟨rfl, bn⟩; have hBn := hB.trans (bn.mono hB.size); clear hB bn; have hB := hBn; clear hBn))
          go_ret
          exact ⟨rfl, hB⟩
        · have q1 : ((s[k].toNat : Int) == 58) = false := by
            rw [beq_eq_false_iff_ne]
            intro h
            exact hc (UInt8.toNat_inj.1 (by have : (58 : UInt8).toNat = 58 := rfl; omega))
          have HN2 : Hid (Lib.indexByte ((un s).take (k + 1)) 58 < 0) := ixb_take 58 (un s) k s[k] HN.out hget hc
          clear hget hc
          go_wp2
          first
            | exact ⟨⟨k + 1, by omega, by go_num, HN2⟩, by simp [intOf]; omega⟩
            | (go_round
               case rel => exact ⟨k + 1, by omega, by go_num, HN2⟩
               case measure => simp [intOf]; omega)
      · obtain rfl : k = s.size := by omega
        have kk : ¬ (s.size : Int) < (s.size : Int) := by omega
        have hno : Lib.indexByte (un s) 58 < 0 := by have := HN.out; rwa [← hsl, List.take_length] at this
        obtain ⟨hq1, hq2, hq3⟩ := tags_pure (un s) (un tag) hno
        have hr2 : ∀ W, Calls Tryz.prog 7 #[.string (s ++ ⟨#[58, 108, 97, 116, 101, 115, 116]⟩)] W fun e w' => e = .returned (.iface 32 (.int .i64 31)) ∧ Below W.heap.size W w' := fun W => refV _ false (by rw [un_lat, hq1, hb]) (by omega) W
        cases hb2 : refL (97 :: 58 :: un tag)
        · have hr3 : ∀ W, Calls Tryz.prog 7 #[.string (⟨#[97, 58]⟩ ++ tag)] W fun e w' => e = .returned (.iface 32 (.int .i64 31)) ∧ Below W.heap.size W w' := fun W => refV _ false (by rw [un_a, hb2]) (by omega) W
          by_cases h9 : s.size ≤ 96
          · have h96 : (s.size : Int) ≤ 96 := by omega
            clear hq1 hq2 hq3 hno HN hb hb2
            go_upto_region 11 with (first | (go_at_call 7; with_reducible refine (hr2 _).mono ?_; rintro e wn ⟨rfl, bn⟩; have hBn := hB.trans (bn.mono hB.size); clear hB bn; have hB := hBn; clear hBn) | (go_at_call 7; with_reducible refine (hr3 _).mono ?_; rintro e wn ⟨rfl, bn⟩; have hBn := hB.trans (bn.mono hB.size); clear hB bn; have hB := hBn; clear hBn))
            refine wp_region_noPanic ?_
            refine wp_region_held_drew (S := fun W => Below w.heap.size w W) (by kernel_rfl) (below_drew hB) (fun h0 => ?_)
            refine wpAnyH_take (i := 0) (v := .iface 32 (.int .i64 31)) rfl (by kernel_rfl) (by kernel_rfl) (by kernel_rfl) (fun _ _ _ h => h) (Or.inl ⟨by rfl, fun W hSw => by clear hSw; go_simp⟩) h0 ?_
            try dsimp [Act.put]
            try simp only [List.setIfInBounds_toArray, List.set_cons_succ, List.set_cons_zero]
            refine wpAnyH_take (i := 1) (v := .bool false) rfl (by kernel_rfl) (by kernel_rfl) (by kernel_rfl) (fun _ _ _ h => h) (Or.inl ⟨by rfl, fun W hSw => by clear hSw; go_simp⟩) h0 ?_
            try dsimp [Act.put]
            try simp only [List.setIfInBounds_toArray, List.set_cons_succ, List.set_cons_zero]
            refine wpAnyH_take (i := 2) (v := .iface 32 (.int .i64 31)) rfl (by kernel_rfl) (by kernel_rfl) (by kernel_rfl) (fun _ _ _ h => h) (Or.inl ⟨by rfl, fun W hSw => by clear hSw; go_simp⟩) h0 ?_
            try dsimp [Act.put]
            try simp only [List.setIfInBounds_toArray, List.set_cons_succ, List.set_cons_zero]
            refine wpAnyH_take (i := 3) (v := .bool false) rfl (by kernel_rfl) (by kernel_rfl) (by kernel_rfl) (fun _ _ _ h => h) (Or.inl ⟨by rfl, fun W hSw => by clear hSw; go_simp⟩) h0 ?_
            try dsimp [Act.put]
            try simp only [List.setIfInBounds_toArray, List.set_cons_succ, List.set_cons_zero]
            refine wpAnyH_take (i := 4) (v := .bool false) rfl (by kernel_rfl) (by kernel_rfl) (by kernel_rfl) (fun _ _ _ h => h) (Or.inl ⟨by rfl, fun W hSw => by clear hSw; go_simp⟩) h0 ?_
            try dsimp [Act.put]
            try simp only [List.setIfInBounds_toArray, List.set_cons_succ, List.set_cons_zero]
            refine wpAnyH_take (i := 5) (v := .bool false) rfl (by kernel_rfl) (by kernel_rfl) (by kernel_rfl) (fun _ _ _ h => h) (Or.inl ⟨by rfl, fun W hSw => by clear hSw; go_simp⟩) h0 ?_
            try dsimp [Act.put]
            try simp only [List.setIfInBounds_toArray, List.set_cons_succ, List.set_cons_zero]
            refine wpAnyH_take (i := 6) (v := .iface 32 (.int .i64 31)) rfl (by kernel_rfl) (by kernel_rfl) (by kernel_rfl) (fun _ _ _ h => h) (Or.inl ⟨by rfl, fun W hSw => by clear hSw; go_simp⟩) h0 ?_
            try dsimp [Act.put]
            try simp only [List.setIfInBounds_toArray, List.set_cons_succ, List.set_cons_zero]
            refine wpAnyH_take (i := 7) (v := .bool true) rfl (by kernel_rfl) (by kernel_rfl) (by kernel_rfl) (fun _ _ _ h => h) (Or.inl ⟨by rfl, fun W hSw => by clear hSw; go_simp⟩) h0 ?_
            try dsimp [Act.put]
            try simp only [List.setIfInBounds_toArray, List.set_cons_succ, List.set_cons_zero]
            refine wpAnyH_take (i := 8) (v := .bool true) rfl (by kernel_rfl) (by kernel_rfl) (by kernel_rfl) (fun _ _ _ h => h) (Or.inl ⟨by rfl, fun W hSw => by clear hSw; go_simp⟩) h0 ?_
            try dsimp [Act.put]
            try simp only [List.setIfInBounds_toArray, List.set_cons_succ, List.set_cons_zero]
            refine wpAnyH_take (i := 9) (v := .iface 32 (.int .i64 31)) rfl (by kernel_rfl) (by kernel_rfl) (by kernel_rfl) (fun _ _ _ h => h) (Or.inl ⟨by rfl, fun W hSw => by clear hSw; go_simp⟩) h0 ?_
            try dsimp [Act.put]
            try simp only [List.setIfInBounds_toArray, List.set_cons_succ, List.set_cons_zero]
            refine wpAnyH_ready (rs := [10]) (by kernel_rfl) (by simp) ?_
            refine AllReadyH.cons rfl ?_ AllReadyH.nil
            intro K' hK
            rw [if_pos (by rfl)]
            go_wp2_with fail
            refine (hp _ (he.below h0)).mono ?_
            rintro e wz ⟨rfl, bz⟩
            have h1 := h0.trans (bz.mono h0.size)
            clear h0
            go_wp2_with fail
            refine hK.out _ _ h1 (fun h0 => ?_)
            clear hK
            try dsimp [Act.put]
            try simp only [List.setIfInBounds_toArray, List.set_cons_succ, List.set_cons_zero]
            refine wpAnyH_take (i := 11) (v := .bool false) rfl (by kernel_rfl) (by kernel_rfl) (by kernel_rfl) (fun _ _ _ h => h) (Or.inl ⟨by rfl, fun W hSw => by clear hSw; go_simp⟩) h0 ?_
            try dsimp [Act.put]
            try simp only [List.setIfInBounds_toArray, List.set_cons_succ, List.set_cons_zero]
            refine wpAnyH_take (i := 12) (v := .bool false) rfl (by kernel_rfl) (by kernel_rfl) (by kernel_rfl) (fun _ _ _ h => h) (Or.inl ⟨by rfl, fun W hSw => by clear hSw; go_simp⟩) h0 ?_
            try dsimp [Act.put]
            try simp only [List.setIfInBounds_toArray, List.set_cons_succ, List.set_cons_zero]
            refine wpAnyH_take (i := 13) (v := .bool false) rfl (by kernel_rfl) (by kernel_rfl) (by kernel_rfl) (fun _ _ _ h => h) (Or.inl ⟨by rfl, fun W hSw => by clear hSw; go_simp⟩) h0 ?_
            try dsimp [Act.put]
            try simp only [List.setIfInBounds_toArray, List.set_cons_succ, List.set_cons_zero]
            refine wpAnyH_done (by kernel_rfl) ?_ _
            refine NoPanic.normal ?_
            clear hB
            have hB := h0
            clear h0
            go_wp2_with (first | (go_at_call 8; with_reducible refine (hw _ (he.below hB)).mono ?_; rintro e wn ⟨rfl, bn⟩; have hBn := hB.trans (bn.mono hB.size); clear hB bn; have hB := hBn; clear hBn))
            go_ret
            exact ⟨rfl, hB⟩
          · have h96 : ¬ (s.size : Int) ≤ 96 := by omega
            clear hq1 hq2 hq3 hno HN hb hb2
            go_upto_region 11 with (first | (go_at_call 7; with_reducible refine (hr2 _).mono ?_; rintro e wn ⟨rfl, bn⟩; have hBn := hB.trans (bn.mono hB.size); clear hB bn; have hB := hBn; clear hBn) | (go_at_call 7; with_reducible refine (hr3 _).mono ?_; rintro e wn ⟨rfl, bn⟩; have hBn := hB.trans (bn.mono hB.size); clear hB bn; have hB := hBn; clear hBn))
            refine wp_region_noPanic ?_
            refine wp_region_held_drew (S := fun W => Below w.heap.size w W) (by kernel_rfl) (below_drew hB) (fun h0 => ?_)
            refine wpAnyH_take (i := 0) (v := .iface 32 (.int .i64 31)) rfl (by kernel_rfl) (by kernel_rfl) (by kernel_rfl) (fun _ _ _ h => h) (Or.inl ⟨by rfl, fun W hSw => by clear hSw; go_simp⟩) h0 ?_
            try dsimp [Act.put]
            try simp only [List.setIfInBounds_toArray, List.set_cons_succ, List.set_cons_zero]
            refine wpAnyH_take (i := 1) (v := .bool false) rfl (by kernel_rfl) (by kernel_rfl) (by kernel_rfl) (fun _ _ _ h => h) (Or.inl ⟨by rfl, fun W hSw => by clear hSw; go_simp⟩) h0 ?_
            try dsimp [Act.put]
            try simp only [List.setIfInBounds_toArray, List.set_cons_succ, List.set_cons_zero]
            refine wpAnyH_take (i := 2) (v := .iface 32 (.int .i64 31)) rfl (by kernel_rfl) (by kernel_rfl) (by kernel_rfl) (fun _ _ _ h => h) (Or.inl ⟨by rfl, fun W hSw => by clear hSw; go_simp⟩) h0 ?_
            try dsimp [Act.put]
            try simp only [List.setIfInBounds_toArray, List.set_cons_succ, List.set_cons_zero]
            refine wpAnyH_take (i := 3) (v := .bool false) rfl (by kernel_rfl) (by kernel_rfl) (by kernel_rfl) (fun _ _ _ h => h) (Or.inl ⟨by rfl, fun W hSw => by clear hSw; go_simp⟩) h0 ?_
            try dsimp [Act.put]
            try simp only [List.setIfInBounds_toArray, List.set_cons_succ, List.set_cons_zero]
            refine wpAnyH_take (i := 4) (v := .bool false) rfl (by kernel_rfl) (by kernel_rfl) (by kernel_rfl) (fun _ _ _ h => h) (Or.inl ⟨by rfl, fun W hSw => by clear hSw; go_simp⟩) h0 ?_
            try dsimp [Act.put]
            try simp only [List.setIfInBounds_toArray, List.set_cons_succ, List.set_cons_zero]
            refine wpAnyH_take (i := 5) (v := .bool false) rfl (by kernel_rfl) (by kernel_rfl) (by kernel_rfl) (fun _ _ _ h => h) (Or.inl ⟨by rfl, fun W hSw => by clear hSw; go_simp⟩) h0 ?_
            try dsimp [Act.put]
            try simp only [List.setIfInBounds_toArray, List.set_cons_succ, List.set_cons_zero]
            refine wpAnyH_take (i := 6) (v := .iface 32 (.int .i64 31)) rfl (by kernel_rfl) (by kernel_rfl) (by kernel_rfl) (fun _ _ _ h => h) (Or.inl ⟨by rfl, fun W hSw => by clear hSw; go_simp⟩) h0 ?_
            try dsimp [Act.put]
            try simp only [List.setIfInBounds_toArray, List.set_cons_succ, List.set_cons_zero]
            refine wpAnyH_take (i := 7) (v := .bool true) rfl (by kernel_rfl) (by kernel_rfl) (by kernel_rfl) (fun _ _ _ h => h) (Or.inl ⟨by rfl, fun W hSw => by clear hSw; go_simp⟩) h0 ?_
            try dsimp [Act.put]
            try simp only [List.setIfInBounds_toArray, List.set_cons_succ, List.set_cons_zero]
            refine wpAnyH_take (i := 8) (v := .bool true) rfl (by kernel_rfl) (by kernel_rfl) (by kernel_rfl) (fun _ _ _ h => h) (Or.inl ⟨by rfl, fun W hSw => by clear hSw; go_simp⟩) h0 ?_
            try dsimp [Act.put]
            try simp only [List.setIfInBounds_toArray, List.set_cons_succ, List.set_cons_zero]
            refine wpAnyH_take (i := 9) (v := .iface 32 (.int .i64 31)) rfl (by kernel_rfl) (by kernel_rfl) (by kernel_rfl) (fun _ _ _ h => h) (Or.inl ⟨by rfl, fun W hSw => by clear hSw; go_simp⟩) h0 ?_
            try dsimp [Act.put]
            try simp only [List.setIfInBounds_toArray, List.set_cons_succ, List.set_cons_zero]
            refine wpAnyH_ready (rs := [10]) (by kernel_rfl) (by simp) ?_
            refine AllReadyH.cons rfl ?_ AllReadyH.nil
            intro K' hK
            rw [if_pos (by rfl)]
            go_wp2_with fail
            refine (hp _ (he.below h0)).mono ?_
            rintro e wz ⟨rfl, bz⟩
            have h1 := h0.trans (bz.mono h0.size)
            clear h0
            go_wp2_with fail
            refine hK.out _ _ h1 (fun h0 => ?_)
            clear hK
            try dsimp [Act.put]
            try simp only [List.setIfInBounds_toArray, List.set_cons_succ, List.set_cons_zero]
            refine wpAnyH_take (i := 11) (v := .bool false) rfl (by kernel_rfl) (by kernel_rfl) (by kernel_rfl) (fun _ _ _ h => h) (Or.inl ⟨by rfl, fun W hSw => by clear hSw; go_simp⟩) h0 ?_
            try dsimp [Act.put]
            try simp only [List.setIfInBounds_toArray, List.set_cons_succ, List.set_cons_zero]
            refine wpAnyH_take (i := 12) (v := .bool false) rfl (by kernel_rfl) (by kernel_rfl) (by kernel_rfl) (fun _ _ _ h => h) (Or.inl ⟨by rfl, fun W hSw => by clear hSw; go_simp⟩) h0 ?_
            try dsimp [Act.put]
            try simp only [List.setIfInBounds_toArray, List.set_cons_succ, List.set_cons_zero]
            refine wpAnyH_take (i := 13) (v := .bool false) rfl (by kernel_rfl) (by kernel_rfl) (by kernel_rfl) (fun _ _ _ h => h) (Or.inl ⟨by rfl, fun W hSw => by clear hSw; go_simp⟩) h0 ?_
            try dsimp [Act.put]
            try simp only [List.setIfInBounds_toArray, List.set_cons_succ, List.set_cons_zero]
            refine wpAnyH_done (by kernel_rfl) ?_ _
            refine NoPanic.normal ?_
            clear hB
            have hB := h0
            clear h0
            go_wp2_with (first | (go_at_call 8; with_reducible refine (hw _ (he.below hB)).mono ?_; rintro e wn ⟨rfl, bn⟩; have hBn := hB.trans (bn.mono hB.size); clear hB bn; have hB := hBn; clear hBn))
            go_ret
            exact ⟨rfl, hB⟩
        · have hr3 : ∀ W, Calls Tryz.prog 7 #[.string (⟨#[97, 58]⟩ ++ tag)] W fun e w' => e = .returned (.nilIface) ∧ Below W.heap.size W w' := fun W => refV _ true (by rw [un_a, hb2]) (by omega) W
          by_cases h9 : s.size ≤ 96
          · have h96 : (s.size : Int) ≤ 96 := by omega
            clear hq1 hq2 hq3 hno HN hb hb2
            go_upto_region 11 with (first | (go_at_call 7; with_reducible refine (hr2 _).mono ?_; rintro e wn ⟨rfl, bn⟩; have hBn := hB.trans (bn.mono hB.size); clear hB bn; have hB := hBn; clear hBn) | (go_at_call 7; with_reducible refine (hr3 _).mono ?_; rintro e wn ⟨rfl, bn⟩; have hBn := hB.trans (bn.mono hB.size); clear hB bn; have hB := hBn; clear hBn))
            refine wp_region_noPanic ?_
            refine wp_region_held_drew (S := fun W => Below w.heap.size w W) (by kernel_rfl) (below_drew hB) (fun h0 => ?_)
            refine wpAnyH_take (i := 0) (v := .iface 32 (.int .i64 31)) rfl (by kernel_rfl) (by kernel_rfl) (by kernel_rfl) (fun _ _ _ h => h) (Or.inl ⟨by rfl, fun W hSw => by clear hSw; go_simp⟩) h0 ?_
            try dsimp [Act.put]
            try simp only [List.setIfInBounds_toArray, List.set_cons_succ, List.set_cons_zero]
            refine wpAnyH_take (i := 1) (v := .bool false) rfl (by kernel_rfl) (by kernel_rfl) (by kernel_rfl) (fun _ _ _ h => h) (Or.inl ⟨by rfl, fun W hSw => by clear hSw; go_simp⟩) h0 ?_
            try dsimp [Act.put]
            try simp only [List.setIfInBounds_toArray, List.set_cons_succ, List.set_cons_zero]
            refine wpAnyH_take (i := 2) (v := .iface 32 (.int .i64 31)) rfl (by kernel_rfl) (by kernel_rfl) (by kernel_rfl) (fun _ _ _ h => h) (Or.inl ⟨by rfl, fun W hSw => by clear hSw; go_simp⟩) h0 ?_
            try dsimp [Act.put]
            try simp only [List.setIfInBounds_toArray, List.set_cons_succ, List.set_cons_zero]
            refine wpAnyH_take (i := 3) (v := .bool false) rfl (by kernel_rfl) (by kernel_rfl) (by kernel_rfl) (fun _ _ _ h => h) (Or.inl ⟨by rfl, fun W hSw => by clear hSw; go_simp⟩) h0 ?_
            try dsimp [Act.put]
            try simp only [List.setIfInBounds_toArray, List.set_cons_succ, List.set_cons_zero]
            refine wpAnyH_take (i := 4) (v := .bool false) rfl (by kernel_rfl) (by kernel_rfl) (by kernel_rfl) (fun _ _ _ h => h) (Or.inl ⟨by rfl, fun W hSw => by clear hSw; go_simp⟩) h0 ?_
            try dsimp [Act.put]
            try simp only [List.setIfInBounds_toArray, List.set_cons_succ, List.set_cons_zero]
            refine wpAnyH_take (i := 5) (v := .bool false) rfl (by kernel_rfl) (by kernel_rfl) (by kernel_rfl) (fun _ _ _ h => h) (Or.inl ⟨by rfl, fun W hSw => by clear hSw; go_simp⟩) h0 ?_
            try dsimp [Act.put]
            try simp only [List.setIfInBounds_toArray, List.set_cons_succ, List.set_cons_zero]
            refine wpAnyH_take (i := 6) (v := .iface 32 (.int .i64 31)) rfl (by kernel_rfl) (by kernel_rfl) (by kernel_rfl) (fun _ _ _ h => h) (Or.inl ⟨by rfl, fun W hSw => by clear hSw; go_simp⟩) h0 ?_
            try dsimp [Act.put]
            try simp only [List.setIfInBounds_toArray, List.set_cons_succ, List.set_cons_zero]
            refine wpAnyH_take (i := 7) (v := .bool true) rfl (by kernel_rfl) (by kernel_rfl) (by kernel_rfl) (fun _ _ _ h => h) (Or.inl ⟨by rfl, fun W hSw => by clear hSw; go_simp⟩) h0 ?_
            try dsimp [Act.put]
            try simp only [List.setIfInBounds_toArray, List.set_cons_succ, List.set_cons_zero]
            refine wpAnyH_take (i := 8) (v := .bool true) rfl (by kernel_rfl) (by kernel_rfl) (by kernel_rfl) (fun _ _ _ h => h) (Or.inl ⟨by rfl, fun W hSw => by clear hSw; go_simp⟩) h0 ?_
            try dsimp [Act.put]
            try simp only [List.setIfInBounds_toArray, List.set_cons_succ, List.set_cons_zero]
            refine wpAnyH_take (i := 9) (v := .iface 32 (.int .i64 31)) rfl (by kernel_rfl) (by kernel_rfl) (by kernel_rfl) (fun _ _ _ h => h) (Or.inl ⟨by rfl, fun W hSw => by clear hSw; go_simp⟩) h0 ?_
            try dsimp [Act.put]
            try simp only [List.setIfInBounds_toArray, List.set_cons_succ, List.set_cons_zero]
            refine wpAnyH_ready (rs := [10]) (by kernel_rfl) (by simp) ?_
            refine AllReadyH.cons rfl ?_ AllReadyH.nil
            intro K' hK
            rw [if_pos (by rfl)]
            go_wp2_with fail
            refine (hp _ (he.below h0)).mono ?_
            rintro e wz ⟨rfl, bz⟩
            have h1 := h0.trans (bz.mono h0.size)
            clear h0
            go_wp2_with fail
            refine hK.out _ _ h1 (fun h0 => ?_)
            clear hK
            try dsimp [Act.put]
            try simp only [List.setIfInBounds_toArray, List.set_cons_succ, List.set_cons_zero]
            refine wpAnyH_take (i := 11) (v := .bool false) rfl (by kernel_rfl) (by kernel_rfl) (by kernel_rfl) (fun _ _ _ h => h) (Or.inl ⟨by rfl, fun W hSw => by clear hSw; go_simp⟩) h0 ?_
            try dsimp [Act.put]
            try simp only [List.setIfInBounds_toArray, List.set_cons_succ, List.set_cons_zero]
            refine wpAnyH_take (i := 12) (v := .bool false) rfl (by kernel_rfl) (by kernel_rfl) (by kernel_rfl) (fun _ _ _ h => h) (Or.inl ⟨by rfl, fun W hSw => by clear hSw; go_simp⟩) h0 ?_
            try dsimp [Act.put]
            try simp only [List.setIfInBounds_toArray, List.set_cons_succ, List.set_cons_zero]
            refine wpAnyH_take (i := 13) (v := .bool false) rfl (by kernel_rfl) (by kernel_rfl) (by kernel_rfl) (fun _ _ _ h => h) (Or.inl ⟨by rfl, fun W hSw => by clear hSw; go_simp⟩) h0 ?_
            try dsimp [Act.put]
            try simp only [List.setIfInBounds_toArray, List.set_cons_succ, List.set_cons_zero]
            refine wpAnyH_done (by kernel_rfl) ?_ _
            refine NoPanic.normal ?_
            clear hB
            have hB := h0
            clear h0
            go_wp2_with (first | (go_at_call 8; with_reducible refine (hw _ (he.below hB)).mono ?_; rintro e wn ⟨rfl, bn⟩; have hBn := hB.trans (bn.mono hB.size); clear hB bn; have hB := hBn; clear hBn))
            go_ret
            exact ⟨rfl, hB⟩
          · have h96 : ¬ (s.size : Int) ≤ 96 := by omega
            clear hq1 hq2 hq3 hno HN hb hb2
            go_upto_region 11 with (first | (go_at_call 7; with_reducible refine (hr2 _).mono ?_; rintro e wn ⟨rfl, bn⟩; have hBn := hB.trans (bn.mono hB.size); clear hB bn; have hB := hBn; clear hBn) | (go_at_call 7; with_reducible refine (hr3 _).mono ?_; rintro e wn ⟨rfl, bn⟩; have hBn := hB.trans (bn.mono hB.size); clear hB bn; have hB := hBn; clear hBn))
            refine wp_region_noPanic ?_
            refine wp_region_held_drew (S := fun W => Below w.heap.size w W) (by kernel_rfl) (below_drew hB) (fun h0 => ?_)
            refine wpAnyH_take (i := 0) (v := .iface 32 (.int .i64 31)) rfl (by kernel_rfl) (by kernel_rfl) (by kernel_rfl) (fun _ _ _ h => h) (Or.inl ⟨by rfl, fun W hSw => by clear hSw; go_simp⟩) h0 ?_
            try dsimp [Act.put]
            try simp only [List.setIfInBounds_toArray, List.set_cons_succ, List.set_cons_zero]
            refine wpAnyH_take (i := 1) (v := .bool false) rfl (by kernel_rfl) (by kernel_rfl) (by kernel_rfl) (fun _ _ _ h => h) (Or.inl ⟨by rfl, fun W hSw => by clear hSw; go_simp⟩) h0 ?_
            try dsimp [Act.put]
            try simp only [List.setIfInBounds_toArray, List.set_cons_succ, List.set_cons_zero]
            refine wpAnyH_take (i := 2) (v := .iface 32 (.int .i64 31)) rfl (by kernel_rfl) (by kernel_rfl) (by kernel_rfl) (fun _ _ _ h => h) (Or.inl ⟨by rfl, fun W hSw => by clear hSw; go_simp⟩) h0 ?_
            try dsimp [Act.put]
            try simp only [List.setIfInBounds_toArray, List.set_cons_succ, List.set_cons_zero]
            refine wpAnyH_take (i := 3) (v := .bool false) rfl (by kernel_rfl) (by kernel_rfl) (by kernel_rfl) (fun _ _ _ h => h) (Or.inl ⟨by rfl, fun W hSw => by clear hSw; go_simp⟩) h0 ?_
            try dsimp [Act.put]
            try simp only [List.setIfInBounds_toArray, List.set_cons_succ, List.set_cons_zero]
            refine wpAnyH_take (i := 4) (v := .bool false) rfl (by kernel_rfl) (by kernel_rfl) (by kernel_rfl) (fun _ _ _ h => h) (Or.inl ⟨by rfl, fun W hSw => by clear hSw; go_simp⟩) h0 ?_
            try dsimp [Act.put]
            try simp only [List.setIfInBounds_toArray, List.set_cons_succ, List.set_cons_zero]
            refine wpAnyH_take (i := 5) (v := .bool false) rfl (by kernel_rfl) (by kernel_rfl) (by kernel_rfl) (fun _ _ _ h => h) (Or.inl ⟨by rfl, fun W hSw => by clear hSw; go_simp⟩) h0 ?_
            try dsimp [Act.put]
            try simp only [List.setIfInBounds_toArray, List.set_cons_succ, List.set_cons_zero]
            refine wpAnyH_take (i := 6) (v := .iface 32 (.int .i64 31)) rfl (by kernel_rfl) (by kernel_rfl) (by kernel_rfl) (fun _ _ _ h => h) (Or.inl ⟨by rfl, fun W hSw => by clear hSw; go_simp⟩) h0 ?_
            try dsimp [Act.put]
            try simp only [List.setIfInBounds_toArray, List.set_cons_succ, List.set_cons_zero]
            refine wpAnyH_take (i := 7) (v := .bool true) rfl (by kernel_rfl) (by kernel_rfl) (by kernel_rfl) (fun _ _ _ h => h) (Or.inl ⟨by rfl, fun W hSw => by clear hSw; go_simp⟩) h0 ?_
            try dsimp [Act.put]
            try simp only [List.setIfInBounds_toArray, List.set_cons_succ, List.set_cons_zero]
            refine wpAnyH_take (i := 8) (v := .bool true) rfl (by kernel_rfl) (by kernel_rfl) (by kernel_rfl) (fun _ _ _ h => h) (Or.inl ⟨by rfl, fun W hSw => by clear hSw; go_simp⟩) h0 ?_
            try dsimp [Act.put]
            try simp only [List.setIfInBounds_toArray, List.set_cons_succ, List.set_cons_zero]
            refine wpAnyH_take (i := 9) (v := .iface 32 (.int .i64 31)) rfl (by kernel_rfl) (by kernel_rfl) (by kernel_rfl) (fun _ _ _ h => h) (Or.inl ⟨by rfl, fun W hSw => by clear hSw; go_simp⟩) h0 ?_
            try dsimp [Act.put]
            try simp only [List.setIfInBounds_toArray, List.set_cons_succ, List.set_cons_zero]
            refine wpAnyH_ready (rs := [10]) (by kernel_rfl) (by simp) ?_
            refine AllReadyH.cons rfl ?_ AllReadyH.nil
            intro K' hK
            rw [if_pos (by rfl)]
            go_wp2_with fail
            refine (hp _ (he.below h0)).mono ?_
            rintro e wz ⟨rfl, bz⟩
            have h1 := h0.trans (bz.mono h0.size)
            clear h0
            go_wp2_with fail
            refine hK.out _ _ h1 (fun h0 => ?_)
            clear hK
            try dsimp [Act.put]
            try simp only [List.setIfInBounds_toArray, List.set_cons_succ, List.set_cons_zero]
            refine wpAnyH_take (i := 11) (v := .bool false) rfl (by kernel_rfl) (by kernel_rfl) (by kernel_rfl) (fun _ _ _ h => h) (Or.inl ⟨by rfl, fun W hSw => by clear hSw; go_simp⟩) h0 ?_
            try dsimp [Act.put]
            try simp only [List.setIfInBounds_toArray, List.set_cons_succ, List.set_cons_zero]
            refine wpAnyH_take (i := 12) (v := .bool false) rfl (by kernel_rfl) (by kernel_rfl) (by kernel_rfl) (fun _ _ _ h => h) (Or.inl ⟨by rfl, fun W hSw => by clear hSw; go_simp⟩) h0 ?_
            try dsimp [Act.put]
            try simp only [List.setIfInBounds_toArray, List.set_cons_succ, List.set_cons_zero]
            refine wpAnyH_take (i := 13) (v := .bool false) rfl (by kernel_rfl) (by kernel_rfl) (by kernel_rfl) (fun _ _ _ h => h) (Or.inl ⟨by rfl, fun W hSw => by clear hSw; go_simp⟩) h0 ?_
            try dsimp [Act.put]
            try simp only [List.setIfInBounds_toArray, List.set_cons_succ, List.set_cons_zero]
            refine wpAnyH_done (by kernel_rfl) ?_ _
            refine NoPanic.normal ?_
            clear hB
            have hB := h0
            clear h0
            go_wp2_with (first | (go_at_call 8; with_reducible refine (hw _ (he.below hB)).mono ?_; rintro e wn ⟨rfl, bn⟩; have hBn := hB.trans (bn.mono hB.size); clear hB bn; have hB := hBn; clear hBn))
            go_ret
            exact ⟨rfl, hB⟩
  · have hr1 : ∀ W, Calls Tryz.prog 7 #[.string s] W fun e w' => e = .returned (.nilIface) ∧ Below W.heap.size W w' := fun W => refV s true hb (by omega) W
    go_enter Tryz.func4, Tryz.ntmps4
    go_upto_region 4 with (go_at_call 7; with_reducible refine (hr1 _).mono ?_; rintro e wn ⟨rfl, bn⟩; have hBn := hB.trans (bn.mono hB.size); clear hB bn; have hB := hBn; clear hBn)
    go_wp2
    go_loop [6] (fun i => ∃ k : Nat, k ≤ s.size ∧ i = .int .i64 k ∧ Hid (Lib.indexByte ((un s).take k) 58 < 0)) (fun i => s.size - (intOf i).toNat)
    case atStart => exact ⟨0, Nat.zero_le _, rfl, by simp [Hid, Lib.indexByte]⟩
    case round =>
      obtain ⟨k, hk, rfl, HN⟩ := hrel
      have k0 : (0 : Int) ≤ (k : Int) := by omega
      by_cases hlt : k < s.size
      · have hget := un_getElem? s k hlt
        have kk : (k : Int) < (s.size : Int) := by omega
        by_cases hc : s[k] = 58
        · have q1 : ((s[k].toNat : Int) == 58) = true := by rw [hc]; rfl
          have hF : refL (un (s ++ ⟨#[58, 108, 97, 116, 101, 115, 116]⟩)) = false := by rw [un_lat]; exact refL_two _ _ (ixb_found 58 (un s) k (by rw [hget, hc]))
          have hr2 : ∀ W, Calls Tryz.prog 7 #[.string (s ++ ⟨#[58, 108, 97, 116, 101, 115, 116]⟩)] W fun e w' => e = .returned (.iface 32 (.int .i64 31)) ∧ Below W.heap.size W w' := fun W => refV _ false hF (by omega) W
          clear hget hc hF HN hb
          go_wp2_with (first | (go_at_call 7; with_reducible refine (hr2 _).mono ?_; rintro e wn ⟨rfl, bn⟩; have hBn := hB.trans (bn.mono hB.size); clear hB bn; have hB := hBn; clear hBn) | (go_at_call 6; with_reducible refine (hp _ (he.below hB)).mono ?_; rintro e wn ⟨rfl, bn⟩; have hBn := hB.trans (bn.mono hB.size); clear hB bn; have hB := hBn; clear hBn) | (go_at_call 8; with_reducible refine (hw _ (he.below hB)).mono ?_; rintro e wn ⟨rfl, bn⟩; have hBn := hB.trans (bn.mono hB.size); clear hB bn; have hB := hBn; clear hBn))
          go_ret
          exact ⟨rfl, hB⟩
        · have q1 : ((s[k].toNat : Int) == 58) = false := by
            rw [beq_eq_false_iff_ne]
            intro h
            exact hc (UInt8.toNat_inj.1 (by have : (58 : UInt8).toNat = 58 := rfl; omega))
          have HN2 : Hid (Lib.indexByte ((un s).take (k + 1)) 58 < 0) := ixb_take 58 (un s) k s[k] HN.out hget hc
          clear hget hc
          go_wp2
          first
            | exact ⟨⟨k + 1, by omega, by go_num, HN2⟩, by simp [intOf]; omega⟩
            | (go_round
               case rel => exact ⟨k + 1, by omega, by go_num, HN2⟩
               case measure => simp [intOf]; omega)
      · obtain rfl : k = s.size := by omega
        have kk : ¬ (s.size : Int) < (s.size : Int) := by omega
        have hno : Lib.indexByte (un s) 58 < 0 := by have := HN.out; rwa [← hsl, List.take_length] at this
        obtain ⟨hq1, hq2, hq3⟩ := tags_pure (un s) (un tag) hno
        have hr2 : ∀ W, Calls Tryz.prog 7 #[.string (s ++ ⟨#[58, 108, 97, 116, 101, 115, 116]⟩)] W fun e w' => e = .returned (.nilIface) ∧ Below W.heap.size W w' := fun W => refV _ true (by rw [un_lat, hq1, hb]) (by omega) W
        cases hb2 : refL (97 :: 58 :: un tag)
        · have hr3 : ∀ W, Calls Tryz.prog 7 #[.string (⟨#[97, 58]⟩ ++ tag)] W fun e w' => e = .returned (.iface 32 (.int .i64 31)) ∧ Below W.heap.size W w' := fun W => refV _ false (by rw [un_a, hb2]) (by omega) W
          have h96 : ((s.size : Int) ≤ 96) := by have := hq2 hb; rw [hsl] at this; omega
          clear hq1 hq2 hq3 hno HN hb hb2
          go_upto_region 11 with (first | (go_at_call 7; with_reducible refine (hr2 _).mono ?_; rintro e wn ⟨rfl, bn⟩; have hBn := hB.trans (bn.mono hB.size); clear hB bn; have hB := hBn; clear hBn) | (go_at_call 7; with_reducible refine (hr3 _).mono ?_; rintro e wn ⟨rfl, bn⟩; have hBn := hB.trans (bn.mono hB.size); clear hB bn; have hB := hBn; clear hBn))
          refine wp_region_noPanic ?_
          refine wp_region_held_drew (S := fun W => Below w.heap.size w W) (by kernel_rfl) (below_drew hB) (fun h0 => ?_)
          refine wpAnyH_take (i := 0) (v := .nilIface) rfl (by kernel_rfl) (by kernel_rfl) (by kernel_rfl) (fun _ _ _ h => h) (Or.inl ⟨by rfl, fun W hSw => by clear hSw; go_simp⟩) h0 ?_
          try dsimp [Act.put]
          try simp only [List.setIfInBounds_toArray, List.set_cons_succ, List.set_cons_zero]
          refine wpAnyH_take (i := 1) (v := .bool true) rfl (by kernel_rfl) (by kernel_rfl) (by kernel_rfl) (fun _ _ _ h => h) (Or.inl ⟨by rfl, fun W hSw => by clear hSw; go_simp⟩) h0 ?_
          try dsimp [Act.put]
          try simp only [List.setIfInBounds_toArray, List.set_cons_succ, List.set_cons_zero]
          refine wpAnyH_take (i := 2) (v := .nilIface) rfl (by kernel_rfl) (by kernel_rfl) (by kernel_rfl) (fun _ _ _ h => h) (Or.inl ⟨by rfl, fun W hSw => by clear hSw; go_simp⟩) h0 ?_
          try dsimp [Act.put]
          try simp only [List.setIfInBounds_toArray, List.set_cons_succ, List.set_cons_zero]
          refine wpAnyH_take (i := 3) (v := .bool true) rfl (by kernel_rfl) (by kernel_rfl) (by kernel_rfl) (fun _ _ _ h => h) (Or.inl ⟨by rfl, fun W hSw => by clear hSw; go_simp⟩) h0 ?_
          try dsimp [Act.put]
          try simp only [List.setIfInBounds_toArray, List.set_cons_succ, List.set_cons_zero]
          refine wpAnyH_take (i := 4) (v := .bool false) rfl (by kernel_rfl) (by kernel_rfl) (by kernel_rfl) (fun _ _ _ h => h) (Or.inl ⟨by rfl, fun W hSw => by clear hSw; go_simp⟩) h0 ?_
          try dsimp [Act.put]
          try simp only [List.setIfInBounds_toArray, List.set_cons_succ, List.set_cons_zero]
          refine wpAnyH_take (i := 5) (v := .bool false) rfl (by kernel_rfl) (by kernel_rfl) (by kernel_rfl) (fun _ _ _ h => h) (Or.inl ⟨by rfl, fun W hSw => by clear hSw; go_simp⟩) h0 ?_
          try dsimp [Act.put]
          try simp only [List.setIfInBounds_toArray, List.set_cons_succ, List.set_cons_zero]
          refine wpAnyH_take (i := 6) (v := .nilIface) rfl (by kernel_rfl) (by kernel_rfl) (by kernel_rfl) (fun _ _ _ h => h) (Or.inl ⟨by rfl, fun W hSw => by clear hSw; go_simp⟩) h0 ?_
          try dsimp [Act.put]
          try simp only [List.setIfInBounds_toArray, List.set_cons_succ, List.set_cons_zero]
          refine wpAnyH_take (i := 7) (v := .bool false) rfl (by kernel_rfl) (by kernel_rfl) (by kernel_rfl) (fun _ _ _ h => h) (Or.inl ⟨by rfl, fun W hSw => by clear hSw; go_simp⟩) h0 ?_
          try dsimp [Act.put]
          try simp only [List.setIfInBounds_toArray, List.set_cons_succ, List.set_cons_zero]
          refine wpAnyH_take (i := 8) (v := .bool false) rfl (by kernel_rfl) (by kernel_rfl) (by kernel_rfl) (fun _ _ _ h => h) (Or.inl ⟨by rfl, fun W hSw => by clear hSw; go_simp⟩) h0 ?_
          try dsimp [Act.put]
          try simp only [List.setIfInBounds_toArray, List.set_cons_succ, List.set_cons_zero]
          refine wpAnyH_take (i := 9) (v := undef) rfl (by kernel_rfl) (by kernel_rfl) (by kernel_rfl) (fun _ _ _ h => h) (Or.inr ⟨by rfl, rfl⟩) h0 ?_
          try dsimp [Act.put]
          try simp only [List.setIfInBounds_toArray, List.set_cons_succ, List.set_cons_zero]
          refine wpAnyH_take (i := 10) (v := undef) rfl (by kernel_rfl) (by kernel_rfl) (by kernel_rfl) (fun _ _ _ h => h) (Or.inr ⟨by rfl, rfl⟩) h0 ?_
          try dsimp [Act.put]
          try simp only [List.setIfInBounds_toArray, List.set_cons_succ, List.set_cons_zero]
          refine wpAnyH_take (i := 11) (v := undef) rfl (by kernel_rfl) (by kernel_rfl) (by kernel_rfl) (fun _ _ _ h => h) (Or.inr ⟨by rfl, rfl⟩) h0 ?_
          try dsimp [Act.put]
          try simp only [List.setIfInBounds_toArray, List.set_cons_succ, List.set_cons_zero]
          refine wpAnyH_take (i := 12) (v := .bool false) rfl (by kernel_rfl) (by kernel_rfl) (by kernel_rfl) (fun _ _ _ h => h) (Or.inl ⟨by rfl, fun W hSw => by clear hSw; go_simp⟩) h0 ?_
          try dsimp [Act.put]
          try simp only [List.setIfInBounds_toArray, List.set_cons_succ, List.set_cons_zero]
          refine wpAnyH_take (i := 13) (v := .bool false) rfl (by kernel_rfl) (by kernel_rfl) (by kernel_rfl) (fun _ _ _ h => h) (Or.inl ⟨by rfl, fun W hSw => by clear hSw; go_simp⟩) h0 ?_
          try dsimp [Act.put]
          try simp only [List.setIfInBounds_toArray, List.set_cons_succ, List.set_cons_zero]
          refine wpAnyH_done (by kernel_rfl) ?_ _
          refine NoPanic.normal ?_
          clear hB
          have hB := h0
          clear h0
          go_wp2_with (first | (go_at_call 8; with_reducible refine (hw _ (he.below hB)).mono ?_; rintro e wn ⟨rfl, bn⟩; have hBn := hB.trans (bn.mono hB.size); clear hB bn; have hB := hBn; clear hBn))
          go_ret
          exact ⟨rfl, hB⟩
        · have hr3 : ∀ W, Calls Tryz.prog 7 #[.string (⟨#[97, 58]⟩ ++ tag)] W fun e w' => e = .returned (.nilIface) ∧ Below W.heap.size W w' := fun W => refV _ true (by rw [un_a, hb2]) (by omega) W
          have h96 : ((s.size : Int) ≤ 96) := by have := hq2 hb; rw [hsl] at this; omega
          by_cases h6 : tag.size ≤ 6
          · have h6i : (tag.size : Int) ≤ 6 := by omega
            have hr4 : ∀ W, Calls Tryz.prog 7 #[.string (s ++ ⟨#[58]⟩ ++ tag)] W fun e w' => e = .returned (.nilIface) ∧ Below W.heap.size W w' := fun W => refV _ true (by rw [un_tag]; exact hq3 hb hb2 (by rw [un_length]; exact h6)) (by omega) W
            clear hq1 hq2 hq3 hno HN hb hb2
            go_upto_region 11 with (first | (go_at_call 7; with_reducible refine (hr2 _).mono ?_; rintro e wn ⟨rfl, bn⟩; have hBn := hB.trans (bn.mono hB.size); clear hB bn; have hB := hBn; clear hBn) | (go_at_call 7; with_reducible refine (hr3 _).mono ?_; rintro e wn ⟨rfl, bn⟩; have hBn := hB.trans (bn.mono hB.size); clear hB bn; have hB := hBn; clear hBn))
            refine wp_region_noPanic ?_
            refine wp_region_held_drew (S := fun W => Below w.heap.size w W) (by kernel_rfl) (below_drew hB) (fun h0 => ?_)
            refine wpAnyH_take (i := 0) (v := .nilIface) rfl (by kernel_rfl) (by kernel_rfl) (by kernel_rfl) (fun _ _ _ h => h) (Or.inl ⟨by rfl, fun W hSw => by clear hSw; go_simp⟩) h0 ?_
            try dsimp [Act.put]
            try simp only [List.setIfInBounds_toArray, List.set_cons_succ, List.set_cons_zero]
            refine wpAnyH_take (i := 1) (v := .bool true) rfl (by kernel_rfl) (by kernel_rfl) (by kernel_rfl) (fun _ _ _ h => h) (Or.inl ⟨by rfl, fun W hSw => by clear hSw; go_simp⟩) h0 ?_
            try dsimp [Act.put]
            try simp only [List.setIfInBounds_toArray, List.set_cons_succ, List.set_cons_zero]
            refine wpAnyH_take (i := 2) (v := .nilIface) rfl (by kernel_rfl) (by kernel_rfl) (by kernel_rfl) (fun _ _ _ h => h) (Or.inl ⟨by rfl, fun W hSw => by clear hSw; go_simp⟩) h0 ?_
            try dsimp [Act.put]
            try simp only [List.setIfInBounds_toArray, List.set_cons_succ, List.set_cons_zero]
            refine wpAnyH_take (i := 3) (v := .bool true) rfl (by kernel_rfl) (by kernel_rfl) (by kernel_rfl) (fun _ _ _ h => h) (Or.inl ⟨by rfl, fun W hSw => by clear hSw; go_simp⟩) h0 ?_
            try dsimp [Act.put]
            try simp only [List.setIfInBounds_toArray, List.set_cons_succ, List.set_cons_zero]
            refine wpAnyH_take (i := 4) (v := .bool false) rfl (by kernel_rfl) (by kernel_rfl) (by kernel_rfl) (fun _ _ _ h => h) (Or.inl ⟨by rfl, fun W hSw => by clear hSw; go_simp⟩) h0 ?_
            try dsimp [Act.put]
            try simp only [List.setIfInBounds_toArray, List.set_cons_succ, List.set_cons_zero]
            refine wpAnyH_take (i := 5) (v := .bool false) rfl (by kernel_rfl) (by kernel_rfl) (by kernel_rfl) (fun _ _ _ h => h) (Or.inl ⟨by rfl, fun W hSw => by clear hSw; go_simp⟩) h0 ?_
            try dsimp [Act.put]
            try simp only [List.setIfInBounds_toArray, List.set_cons_succ, List.set_cons_zero]
            refine wpAnyH_take (i := 6) (v := .nilIface) rfl (by kernel_rfl) (by kernel_rfl) (by kernel_rfl) (fun _ _ _ h => h) (Or.inl ⟨by rfl, fun W hSw => by clear hSw; go_simp⟩) h0 ?_
            try dsimp [Act.put]
            try simp only [List.setIfInBounds_toArray, List.set_cons_succ, List.set_cons_zero]
            refine wpAnyH_take (i := 7) (v := .bool false) rfl (by kernel_rfl) (by kernel_rfl) (by kernel_rfl) (fun _ _ _ h => h) (Or.inl ⟨by rfl, fun W hSw => by clear hSw; go_simp⟩) h0 ?_
            try dsimp [Act.put]
            try simp only [List.setIfInBounds_toArray, List.set_cons_succ, List.set_cons_zero]
            refine wpAnyH_take (i := 8) (v := .bool false) rfl (by kernel_rfl) (by kernel_rfl) (by kernel_rfl) (fun _ _ _ h => h) (Or.inl ⟨by rfl, fun W hSw => by clear hSw; go_simp⟩) h0 ?_
            try dsimp [Act.put]
            try simp only [List.setIfInBounds_toArray, List.set_cons_succ, List.set_cons_zero]
            refine wpAnyH_take (i := 9) (v := undef) rfl (by kernel_rfl) (by kernel_rfl) (by kernel_rfl) (fun _ _ _ h => h) (Or.inr ⟨by rfl, rfl⟩) h0 ?_
            try dsimp [Act.put]
            try simp only [List.setIfInBounds_toArray, List.set_cons_succ, List.set_cons_zero]
            refine wpAnyH_take (i := 10) (v := undef) rfl (by kernel_rfl) (by kernel_rfl) (by kernel_rfl) (fun _ _ _ h => h) (Or.inr ⟨by rfl, rfl⟩) h0 ?_
            try dsimp [Act.put]
            try simp only [List.setIfInBounds_toArray, List.set_cons_succ, List.set_cons_zero]
            refine wpAnyH_take (i := 11) (v := undef) rfl (by kernel_rfl) (by kernel_rfl) (by kernel_rfl) (fun _ _ _ h => h) (Or.inr ⟨by rfl, rfl⟩) h0 ?_
            try dsimp [Act.put]
            try simp only [List.setIfInBounds_toArray, List.set_cons_succ, List.set_cons_zero]
            refine wpAnyH_take (i := 12) (v := .bool false) rfl (by kernel_rfl) (by kernel_rfl) (by kernel_rfl) (fun _ _ _ h => h) (Or.inl ⟨by rfl, fun W hSw => by clear hSw; go_simp⟩) h0 ?_
            try dsimp [Act.put]
            try simp only [List.setIfInBounds_toArray, List.set_cons_succ, List.set_cons_zero]
            refine wpAnyH_take (i := 13) (v := .bool false) rfl (by kernel_rfl) (by kernel_rfl) (by kernel_rfl) (fun _ _ _ h => h) (Or.inl ⟨by rfl, fun W hSw => by clear hSw; go_simp⟩) h0 ?_
            try dsimp [Act.put]
            try simp only [List.setIfInBounds_toArray, List.set_cons_succ, List.set_cons_zero]
            refine wpAnyH_done (by kernel_rfl) ?_ _
            refine NoPanic.normal ?_
            clear hB
            have hB := h0
            clear h0
            go_wp2_with (first | (go_at_call 7; with_reducible refine (hr4 _).mono ?_; rintro e wn ⟨rfl, bn⟩; have hBn := hB.trans (bn.mono hB.size); clear hB bn; have hB := hBn; clear hBn) | (go_at_call 8; with_reducible refine (hw _ (he.below hB)).mono ?_; rintro e wn ⟨rfl, bn⟩; have hBn := hB.trans (bn.mono hB.size); clear hB bn; have hB := hBn; clear hBn))
            go_ret
            exact ⟨rfl, hB⟩
          · have h6i : ¬ (tag.size : Int) ≤ 6 := by omega
            clear hq1 hq2 hq3 hno HN hb hb2
            go_upto_region 11 with (first | (go_at_call 7; with_reducible refine (hr2 _).mono ?_; rintro e wn ⟨rfl, bn⟩; have hBn := hB.trans (bn.mono hB.size); clear hB bn; have hB := hBn; clear hBn) | (go_at_call 7; with_reducible refine (hr3 _).mono ?_; rintro e wn ⟨rfl, bn⟩; have hBn := hB.trans (bn.mono hB.size); clear hB bn; have hB := hBn; clear hBn))
            refine wp_region_noPanic ?_
            refine wp_region_held_drew (S := fun W => Below w.heap.size w W) (by kernel_rfl) (below_drew hB) (fun h0 => ?_)
            refine wpAnyH_take (i := 0) (v := .nilIface) rfl (by kernel_rfl) (by kernel_rfl) (by kernel_rfl) (fun _ _ _ h => h) (Or.inl ⟨by rfl, fun W hSw => by clear hSw; go_simp⟩) h0 ?_
            try dsimp [Act.put]
            try simp only [List.setIfInBounds_toArray, List.set_cons_succ, List.set_cons_zero]
            refine wpAnyH_take (i := 1) (v := .bool true) rfl (by kernel_rfl) (by kernel_rfl) (by kernel_rfl) (fun _ _ _ h => h) (Or.inl ⟨by rfl, fun W hSw => by clear hSw; go_simp⟩) h0 ?_
            try dsimp [Act.put]
            try simp only [List.setIfInBounds_toArray, List.set_cons_succ, List.set_cons_zero]
            refine wpAnyH_take (i := 2) (v := .nilIface) rfl (by kernel_rfl) (by kernel_rfl) (by kernel_rfl) (fun _ _ _ h => h) (Or.inl ⟨by rfl, fun W hSw => by clear hSw; go_simp⟩) h0 ?_
            try dsimp [Act.put]
            try simp only [List.setIfInBounds_toArray, List.set_cons_succ, List.set_cons_zero]
            refine wpAnyH_take (i := 3) (v := .bool true) rfl (by kernel_rfl) (by kernel_rfl) (by kernel_rfl) (fun _ _ _ h => h) (Or.inl ⟨by rfl, fun W hSw => by clear hSw; go_simp⟩) h0 ?_
            try dsimp [Act.put]
            try simp only [List.setIfInBounds_toArray, List.set_cons_succ, List.set_cons_zero]
            refine wpAnyH_take (i := 4) (v := .bool false) rfl (by kernel_rfl) (by kernel_rfl) (by kernel_rfl) (fun _ _ _ h => h) (Or.inl ⟨by rfl, fun W hSw => by clear hSw; go_simp⟩) h0 ?_
            try dsimp [Act.put]
            try simp only [List.setIfInBounds_toArray, List.set_cons_succ, List.set_cons_zero]
            refine wpAnyH_take (i := 5) (v := .bool false) rfl (by kernel_rfl) (by kernel_rfl) (by kernel_rfl) (fun _ _ _ h => h) (Or.inl ⟨by rfl, fun W hSw => by clear hSw; go_simp⟩) h0 ?_
            try dsimp [Act.put]
            try simp only [List.setIfInBounds_toArray, List.set_cons_succ, List.set_cons_zero]
            refine wpAnyH_take (i := 6) (v := .nilIface) rfl (by kernel_rfl) (by kernel_rfl) (by kernel_rfl) (fun _ _ _ h => h) (Or.inl ⟨by rfl, fun W hSw => by clear hSw; go_simp⟩) h0 ?_
            try dsimp [Act.put]
            try simp only [List.setIfInBounds_toArray, List.set_cons_succ, List.set_cons_zero]
            refine wpAnyH_take (i := 7) (v := .bool false) rfl (by kernel_rfl) (by kernel_rfl) (by kernel_rfl) (fun _ _ _ h => h) (Or.inl ⟨by rfl, fun W hSw => by clear hSw; go_simp⟩) h0 ?_
            try dsimp [Act.put]
            try simp only [List.setIfInBounds_toArray, List.set_cons_succ, List.set_cons_zero]
            refine wpAnyH_take (i := 8) (v := .bool false) rfl (by kernel_rfl) (by kernel_rfl) (by kernel_rfl) (fun _ _ _ h => h) (Or.inl ⟨by rfl, fun W hSw => by clear hSw; go_simp⟩) h0 ?_
            try dsimp [Act.put]
            try simp only [List.setIfInBounds_toArray, List.set_cons_succ, List.set_cons_zero]
            refine wpAnyH_take (i := 9) (v := undef) rfl (by kernel_rfl) (by kernel_rfl) (by kernel_rfl) (fun _ _ _ h => h) (Or.inr ⟨by rfl, rfl⟩) h0 ?_
            try dsimp [Act.put]
            try simp only [List.setIfInBounds_toArray, List.set_cons_succ, List.set_cons_zero]
            refine wpAnyH_take (i := 10) (v := undef) rfl (by kernel_rfl) (by kernel_rfl) (by kernel_rfl) (fun _ _ _ h => h) (Or.inr ⟨by rfl, rfl⟩) h0 ?_
            try dsimp [Act.put]
            try simp only [List.setIfInBounds_toArray, List.set_cons_succ, List.set_cons_zero]
            refine wpAnyH_take (i := 11) (v := undef) rfl (by kernel_rfl) (by kernel_rfl) (by kernel_rfl) (fun _ _ _ h => h) (Or.inr ⟨by rfl, rfl⟩) h0 ?_
            try dsimp [Act.put]
            try simp only [List.setIfInBounds_toArray, List.set_cons_succ, List.set_cons_zero]
            refine wpAnyH_take (i := 12) (v := .bool false) rfl (by kernel_rfl) (by kernel_rfl) (by kernel_rfl) (fun _ _ _ h => h) (Or.inl ⟨by rfl, fun W hSw => by clear hSw; go_simp⟩) h0 ?_
            try dsimp [Act.put]
            try simp only [List.setIfInBounds_toArray, List.set_cons_succ, List.set_cons_zero]
            refine wpAnyH_take (i := 13) (v := .bool false) rfl (by kernel_rfl) (by kernel_rfl) (by kernel_rfl) (fun _ _ _ h => h) (Or.inl ⟨by rfl, fun W hSw => by clear hSw; go_simp⟩) h0 ?_
            try dsimp [Act.put]
            try simp only [List.setIfInBounds_toArray, List.set_cons_succ, List.set_cons_zero]
            refine wpAnyH_done (by kernel_rfl) ?_ _
            refine NoPanic.normal ?_
            clear hB
            have hB := h0
            clear h0
            go_wp2_with (first | (go_at_call 8; with_reducible refine (hw _ (he.below hB)).mono ?_; rintro e wn ⟨rfl, bn⟩; have hBn := hB.trans (bn.mono hB.size); clear hB bn; have hB := hBn; clear hBn))
            go_ret
            exact ⟨rfl, hB⟩
end Go.Proofs.YtbmakfdljddhcaaGreatDoor

namespace Go.Proofs.YtbmakfdljddhcaaGreatDoor.fnCheckTags
open Go.ChangeShapes Go.WideShapes Go.ChangeAt Go.RowKit
open Go.WideMaps Go.WideElems
open Go.ChangeMaps (open_string shut_string)

abbrev listed : List (String × DataW Unit) := listedC
set_option maxRecDepth 100000 in
theorem contract (H : Type) (enc : TypeId × Value → H) (W : World) (base : Nat) (args : Array Value) (ds gs : List (DataW H)) (before : List MemPlace)
    (hval : ∀ (j : Nat) t v, Tryz.f4.params[j]? = some t → args[j]? = some v → Value.okWide Tryz.prog W .any base t v)
    (hW : DataW.Whole enc Tryz.prog Tryz.f4.params.toList Rows.checkTagsSpec.vars false W args.toList ds gs before)
    (hz : (DataW.weightsEach Tryz.prog (Tryz.f4.params.toList ++ (OpenSpec.ofChange Rows.checkTagsSpec).bare.plain.varTypes Tryz.prog) (ds ++ gs)).all (· ≤ reachBytes) = true)
    (hL : laidMetH Tryz.prog listed W) :
    Calls Tryz.prog 4 args W fun e W' => ∃ v, e = .returned v ∧ Rows.checkTagsSpec.post enc Tryz.prog Tryz.f4 false true false false W args v W' := by
  have hW' := hW
  obtain ⟨p, q, hA0, hV, rfl, hfz, hnd⟩ := hW
  have hA : DataW.TrodAll enc Tryz.prog W 0 (fun _ => true) true Tryz.f4.params.toList args.toList ds p := hA0
  rw [Tryz.params4] at hA hval
  obtain ⟨v0, vs0, d0, ds0, p0, q0, hargs, rfl, rfl, h0, r0⟩ := trodAll_cons hA
  obtain ⟨v1, vs1, d1, ds1, p1, q1, rfl, rfl, rfl, h1, r1⟩ := trodAll_cons r0
  obtain ⟨rfl, rfl, rfl⟩ := trodAll_nil r1
  obtain rfl : args = #[v0, v1] := by cases args; simp_all
  obtain ⟨rfl, rfl⟩ := trodVars_none hV
  clear hA0
  simp only [List.append_nil] at hW'
  have k0 := fun (W' : World) (hg : Below W.heap.size W W') => Below.trod (by kernel_rfl) (by kernel_rfl) (of_decide_eq_true (by kernel_rfl)) h0 hg (by obtain ⟨fu, hf⟩ := h0; exact DataW.trod_lt _ _ _ _ hf)
  obtain ⟨s0, rfl, rfl, rfl, hs0⟩ := open_string Tryz.underlying9 (hval 0 9 v0 rfl rfl) h0
  have k1 := fun (W' : World) (hg : Below W.heap.size W W') => Below.trod (by kernel_rfl) (by kernel_rfl) (of_decide_eq_true (by kernel_rfl)) h1 hg (by obtain ⟨fu, hf⟩ := h1; exact DataW.trod_lt _ _ _ _ hf)
  obtain ⟨s1, rfl, rfl, rfl, hs1⟩ := open_string Tryz.underlying9 (hval 1 9 v1 rfl rfl) h1
  have z0 : s0.size ≤ 140737488351232 := by have e := Lib.size_eq s0; have h := sized_string (j := 0) (t := 9) (bytes := s0.data.toList) hz rfl rfl; have e2 : reachBytes = 140737488351232 := rfl; omega
  have z1 : s1.size ≤ 140737488351232 := by have e := Lib.size_eq s1; have h := sized_string (j := 1) (t := 9) (bytes := s1.data.toList) hz rfl rfl; have e2 : reachBytes = 140737488351232 := rfl; omega
  refine (checktags_law s0 s1 W (handle_of_laidC hL)).mono fun e W' ⟨he, hg⟩ => ?_
  subst he
  have e1 : Rows.checkTagsSpec.fn H ([.lit (.string s0.data.toList), .lit (.string s1.data.toList)] ++ []) = { results := [.lit (.bool true)], args := [.lit (.string s0.data.toList), .lit (.string s1.data.toList)] } := by simp [Rows.checkTagsSpec]
  refine ⟨_, rfl, _, _, _, [], [] ++ ([] ++ []), [], hW', ?_, ?_, ?_, hg.frame _, fun h => by cases h⟩
  · rw [e1]; exact trodAll_mk1 (shut_bool Tryz.underlying4 true)
  · rw [e1]; exact trodAll_cons_mk (k0 W' hg) (trodAll_cons_mk (k1 W' hg) trodAll_mk0)
  · rw [e1]; rfl

set_option maxRecDepth 100000 in
theorem met (os : Os) (args : Array Value) : laidMetH Tryz.prog listed ((laidWorldC os).forCall (fun _ _ => 0) ⟨#[], args, []⟩).memory :=
  metC os args
theorem reads (os : Os) {H : Type} (enc : TypeId × Value → H) : ∃ places, DataW.whole enc Tryz.prog ((laidWorldC os).forCall (fun _ _ => 0) ⟨#[], #[.string ⟨#[]⟩, .string ⟨#[]⟩], []⟩).memory Tryz.f4.params.toList Rows.checkTagsSpec.vars false #[Value.string ⟨#[]⟩, Value.string ⟨#[]⟩].toList 8 = some ([.lit (.string []), .lit (.string [])], [], places) :=
  ⟨[], by kernel_rfl⟩

set_option maxRecDepth 100000 in
theorem lifted (os : Os) (started : os.Started) (H : Type) (enc : TypeId × Value → H) (F : Stop.Interp) :
    ReturnsInHanded {} Tryz.checked os 4 .any ((OpenSpec.ofChange Rows.checkTagsSpec).preRow enc Tryz.prog Tryz.f4 Rows.checkTagsRow.domain false Rows.checkTagsRow.laid) (((OpenSpec.ofChange Rows.checkTagsSpec).at F).post enc Tryz.prog Tryz.f4 false true false false) := by
  obtain ⟨places, hx⟩ := reads os enc
  refine returnsInHanded_of_row (C := Tryz.checked) (s := OpenSpec.ofChange Rows.checkTagsSpec) own started (by kernel_rfl) Tryz.func4
    (witness_row_at (enc := enc) (C := Tryz.checked) false (laidWorldC os) #[.string ⟨#[]⟩, .string ⟨#[]⟩] rfl (by kernel_rfl) (by kernel_rfl) (by kernel_rfl)
      (OpenSpec.preRow_of_cond 8 hx (by kernel_rfl) (fun k hk => by cases hk) (by kernel_rfl) (met os _))) ?_
  intro W base args ds gs before hval hW _ _ hz hL _ _
  exact contract H enc W base args ds gs before hval hW hz hL

theorem said : Rows.CheckTagsSaid :=
  OpenClaim.holds_of_cond 4 Tryz.f4 rfl rfl rfl rfl rfl rfl rfl ⟨rfl, rfl, rfl, rfl, rfl⟩ rfl rfl rfl rfl rfl (by kernel_rfl) Tryz.func4 (by kernel_rfl)
    (of_decide_eq_true (by kernel_rfl)) (by unfold Func.isWrapper; rw [if_neg (of_decide_eq_false (by kernel_rfl))]; exact ⟨rfl, rfl⟩)
    (fun os started H enc _ F => by rw [OpenClaim.pre_eq_preRow]; exact lifted os started H enc F)

theorem plainly (f : FuncId) (fn : Func) (hf : Tryz.pinned.checked.prog.funcNamed "strata/stratalaw18.CheckTags" = some f) (hfn : Tryz.pinned.checked.prog.funcs[f]? = some fn) :
    true = Tryz.pinned.checked.prog.looks [] ∧ ∀ (j : Nat) t, fn.params[j]? = some t → Tryz.pinned.checked.prog.wantsStandIn t = false := by
  obtain rfl : f = 4 := Option.some.inj ((show Tryz.prog.funcNamed "strata/stratalaw18.CheckTags" = some 4 by kernel_rfl).symm.trans hf) |>.symm
  obtain rfl : fn = Tryz.f4 := (Option.some.inj (Tryz.func4.symm.trans hfn)).symm
  refine ⟨by kernel_rfl, fun j t ht => ?_⟩
  rw [Tryz.params4] at ht
  have hm : t ∈ [9, 9] := by simpa using Array.mem_of_getElem? ht
  have hall : ([9, 9].all fun u => !Tryz.prog.wantsStandIn u) = true := by kernel_rfl
  exact (show Tryz.prog.wantsStandIn t = false by simpa using List.all_eq_true.1 hall t hm)

theorem card : Rows.CheckTagsCardSaid :=
  Claim7.holds_tied_plain_at .later [] _ _ _ _ said (fun _ h => by cases h) (by kernel_rfl) (fun _ h => by cases h) checkTags_row_tie rfl ⟨rfl, rfl⟩ (by kernel_rfl) rfl plainly (by kernel_rfl)
end Go.Proofs.YtbmakfdljddhcaaGreatDoor.fnCheckTags
namespace Go.Proofs.YtbmakfdljddhcaaGreatDoor
theorem checkTags_card : Rows.CheckTagsCardSaid := fnCheckTags.card
end Go.Proofs.YtbmakfdljddhcaaGreatDoor
