/- UstarTrees, walked: an entry that a tree can have is written, and so is its whiteout. (Made by wip/gen_lawtree.py.) -/
import Derived.Test.YtjgdeblmgmojcaaGreatDoorWorksU
import Derived.Test.YtjgdeblmgmojcaaGreatDoorTreeM
import Derived.Test.YtjgdeblmgmojcaaGreatDoorRefE
import Derived.Deep.RegionHeld3
namespace Go.Proofs.YtjgdeblmgmojcaaGreatDoor
open Go Go.RowKit

theorem entry_cells {W : World} {b : Nat} {e : En} (h : Lies W b 24 (ecs e)) : W.cell? ⟨b, 0, none⟩ = some (.string e.path) ∧ W.cell? ⟨b, 1, none⟩ = some (.int .i64 e.kind) ∧ W.cell? ⟨b, 2, none⟩ = some (.int .i64 e.mode) ∧ W.cell? ⟨b, 3, none⟩ = some (.string e.data) ∧ W.cell? ⟨b, 4, none⟩ = some (.string e.link) :=
  ⟨h.cell rfl, h.cell rfl, h.cell rfl, h.cell rfl, h.cell rfl⟩
theorem noZ_all {s : ByteArray} (h : ∀ j : Nat, j < s.size → (un s)[j]? ≠ some 0) : noZ s = true := noZ_of (fun hm => by
  obtain ⟨j, hj, he⟩ := List.getElem_of_mem hm
  exact h j (by rw [un_length] at hj; exact hj) (by rw [List.getElem?_eq_getElem hj, he]))
set_option maxRecDepth 100000 in
set_option maxHeartbeats 4000000 in
theorem trees_law (e : En) (hs : e.path.size ≤ 1099511627776) (hl : e.link.size ≤ 140737488351232) (hd : e.data.size ≤ 140737488351232) (w : World) (hE : Env w) (hg : ErrType w) :
    Calls Tryz.prog 3 #[.agg (ecs e)] w fun r w' => r = .returned (.bool true) ∧ Below w.heap.size w w' := by
  have L0 := Lies.new w 24 (ecs e)
  have B0 := (Below.refl _ w).alloc (Nat.le_refl _) (.cells (ecs e) 24)
  have E0 := hE.below B0
  have G0 := hg.below B0
  have HCK : Hid (∀ W, Calls Tryz.prog 4 #[.string e.path] W fun r w' => r = .returned (.int .i64 (checkN e.path)) ∧ Below W.heap.size W w') := fun W => check_r e.path W hs
  have HW : Hid (∀ W, Env W → ErrType W → Calls Tryz.prog 5 #[] W fun e w' => e = .returned (.bool true) ∧ Below W.heap.size W w') := fun W h1 h2 => works_p W h1 h2
  have HN1 : Hid (∀ W, Below (w.alloc (.cells (ecs e) 24)).heap.size (w.alloc (.cells (ecs e) 24)) W → Lies W w.heap.size 24 (ecs e) ∧ Below w.heap.size w W ∧ Env W ∧ ErrType W ∧ W.cell? ⟨w.heap.size, 0, none⟩ = some (.string e.path) ∧ W.cell? ⟨w.heap.size, 1, none⟩ = some (.int .i64 e.kind) ∧ W.cell? ⟨w.heap.size, 2, none⟩ = some (.int .i64 e.mode) ∧ W.cell? ⟨w.heap.size, 3, none⟩ = some (.string e.data) ∧ W.cell? ⟨w.heap.size, 4, none⟩ = some (.string e.link)) := fun W b => ⟨L0.below b, below_join B0 b, E0.below b, G0.below b, entry_cells (L0.below b)⟩
  have c0' : (w.alloc (.cells (ecs e) 24)).cell? ⟨w.heap.size, 0, none⟩ = some (.string e.path) := L0.cell rfl
  have HC : Hid (ecs e = #[.string e.path, .int .i64 e.kind, .int .i64 e.mode, .string e.data, .string e.link]) := rfl
  clear L0 B0 E0 G0
  by_cases k0 : checkN e.path = 0
  rotate_left
  · have k0b : (checkN e.path == 0) = false := beq_eq_false_iff_ne.2 k0
    clear hs hl hd
    go_enter Tryz.func3, Tryz.ntmps3
    go_wp2_with (first | (go_at_call 4; refine (HCK.out _).mono ?_; rintro r w1 ⟨rfl, b1⟩; obtain ⟨L1, B1, E1, G1, c0, c1, c2, c3, c4⟩ := HN1.out _ b1) | (go_at_call 5; refine (HW.out _ E1 G1).mono ?_; rintro r w2 ⟨rfl, b2⟩))
    go_ret
    exact ⟨rfl, below_join B1 b2⟩
  have k0b : (checkN e.path == 0) = true := beq_iff_eq.2 k0
  by_cases k1 : e.kind < 1
  · clear hs hl hd
    go_enter Tryz.func3, Tryz.ntmps3
    go_wp2_with (first | (go_at_call 4; refine (HCK.out _).mono ?_; rintro r w1 ⟨rfl, b1⟩; obtain ⟨L1, B1, E1, G1, c0, c1, c2, c3, c4⟩ := HN1.out _ b1) | (go_at_call 5; refine (HW.out _ E1 G1).mono ?_; rintro r w2 ⟨rfl, b2⟩))
    go_ret
    exact ⟨rfl, below_join B1 b2⟩
  by_cases k2 : 3 < e.kind
  · clear hs hl hd
    go_enter Tryz.func3, Tryz.ntmps3
    go_wp2_with (first | (go_at_call 4; refine (HCK.out _).mono ?_; rintro r w1 ⟨rfl, b1⟩; obtain ⟨L1, B1, E1, G1, c0, c1, c2, c3, c4⟩ := HN1.out _ b1) | (go_at_call 5; refine (HW.out _ E1 G1).mono ?_; rintro r w2 ⟨rfl, b2⟩))
    go_ret
    exact ⟨rfl, below_join B1 b2⟩
  by_cases k3 : e.mode < 0
  · clear hs hl hd
    go_enter Tryz.func3, Tryz.ntmps3
    go_wp2_with (first | (go_at_call 4; refine (HCK.out _).mono ?_; rintro r w1 ⟨rfl, b1⟩; obtain ⟨L1, B1, E1, G1, c0, c1, c2, c3, c4⟩ := HN1.out _ b1) | (go_at_call 5; refine (HW.out _ E1 G1).mono ?_; rintro r w2 ⟨rfl, b2⟩))
    go_ret
    exact ⟨rfl, below_join B1 b2⟩
  by_cases k4 : 4095 < e.mode
  · clear hs hl hd
    go_enter Tryz.func3, Tryz.ntmps3
    go_wp2_with (first | (go_at_call 4; refine (HCK.out _).mono ?_; rintro r w1 ⟨rfl, b1⟩; obtain ⟨L1, B1, E1, G1, c0, c1, c2, c3, c4⟩ := HN1.out _ b1) | (go_at_call 5; refine (HW.out _ E1 G1).mono ?_; rintro r w2 ⟨rfl, b2⟩))
    go_ret
    exact ⟨rfl, below_join B1 b2⟩
  by_cases k5 : (100 : Int) < (e.link.size : Int)
  · clear hs hl hd
    go_enter Tryz.func3, Tryz.ntmps3
    go_wp2_with (first | (go_at_call 4; refine (HCK.out _).mono ?_; rintro r w1 ⟨rfl, b1⟩; obtain ⟨L1, B1, E1, G1, c0, c1, c2, c3, c4⟩ := HN1.out _ b1) | (go_at_call 5; refine (HW.out _ E1 G1).mono ?_; rintro r w2 ⟨rfl, b2⟩))
    go_ret
    exact ⟨rfl, below_join B1 b2⟩
  by_cases k6 : (1048576 : Int) < (e.data.size : Int)
  · clear hs hl hd
    go_enter Tryz.func3, Tryz.ntmps3
    go_wp2_with (first | (go_at_call 4; refine (HCK.out _).mono ?_; rintro r w1 ⟨rfl, b1⟩; obtain ⟨L1, B1, E1, G1, c0, c1, c2, c3, c4⟩ := HN1.out _ b1) | (go_at_call 5; refine (HW.out _ E1 G1).mono ?_; rintro r w2 ⟨rfl, b2⟩))
    go_ret
    exact ⟨rfl, below_join B1 b2⟩
  have HG : Hid (noZ e.link = true → Good (ofP e) ∧ (ofP e).path = e.path) := fun hz => tree_good k0 (by omega) (by omega) (by omega) (by omega) hz
  have HWG : Hid (Good ⟨whiteoutB e.path, 0, 0, 0, 0, 0, 48, ⟨#[]⟩, ⟨#[]⟩, ⟨#[]⟩, 0, 0⟩) := white_good k0
  have hps : e.path.size ≤ 255 := (tree_facts k0).2.2.1
  go_enter Tryz.func3, Tryz.ntmps3
  go_wp2_with (first | (go_at_call 4; refine (HCK.out _).mono ?_; rintro r w1 ⟨rfl, b1⟩; obtain ⟨L1, B1, E1, G1, c0, c1, c2, c3, c4⟩ := HN1.out _ b1) | (go_at_call 5; refine (HW.out _ E1 G1).mono ?_; rintro r w2 ⟨rfl, b2⟩))
  go_loop [3] (fun i => ∃ k : Nat, k ≤ e.link.size ∧ i = .int .i64 k ∧ ∀ j : Nat, j < k → (un e.link)[j]? ≠ some 0) (fun i => e.link.size - (intOf i).toNat)
  case atStart => exact ⟨0, Nat.zero_le _, rfl, fun j hj => by omega⟩
  case round =>
    obtain ⟨k, hk, rfl, hn⟩ := hrel
    have HN : Hid _ := hn
    clear hn
    by_cases hlt : k < e.link.size
    · have hget : Hid _ := un_getElem? e.link k hlt
      by_cases z : e.link[k].toNat = 0
      · have z' : ((e.link[k].toNat : Int) == 0) = true := by rw [z]; rfl
        clear z
        go_wp2_with (go_at_call 5; refine (HW.out _ E1 G1).mono ?_; rintro r w2 ⟨rfl, b2⟩)
        go_ret
        exact ⟨rfl, below_join B1 b2⟩
      · have HN2 : Hid (∀ j : Nat, j < k + 1 → (un e.link)[j]? ≠ some 0) := fun j hj => by
          rcases Nat.lt_succ_iff_lt_or_eq.1 hj with h1 | h1
          · exact HN.out j h1
          · rw [h1, hget.out]; intro he; exact z (by rw [Option.some.inj he]; rfl)
        have z' : ((e.link[k].toNat : Int) == 0) = false := by simpa using z
        clear z
        go_wp2
        go_round
        case rel => exact ⟨k + 1, by omega, by go_num, HN2.out⟩
        case measure => simp [intOf]; omega
    · obtain rfl : k = e.link.size := by omega
      have hz := noZ_all (fun j hj => HN.out j hj)
      obtain ⟨good, hpath⟩ := HG.out hz
      clear HN HG HCK HN1 c0' k0 k0b k1 k2 k3 k4 k5 k6 hz hs hl hd hlt hk
      have hie : (Tryz.prog.info? 24).map (·.size) = some (ecs e).size := by kernel_rfl
      have hi : (Tryz.prog.info? 32).map (·.size) = some (hcs (ofP e)).size := info_hd
      have ho : (hcs (ofP e)).all (·.oneCell') = true := hcs_one _
      have hzs : (hcs zeroHd).size = (hcs (ofP e)).size := rfl
      have hcp : (hcs (ofP e))[0]? = some (.string e.path) := by rw [← hpath]; rfl
      have HOF : Hid (∀ W, Calls Tryz.prog 7 #[.agg (ecs e)] W fun r w' => r = .returned (.agg (hcs (ofP e))) ∧ Below W.heap.size W w') := fun W => of_p e W
      have hsp : (ofP e).path.size < 4611686018427387904 := by rw [hpath]; omega
      have HEN : Hid (∀ W, Env W → Calls Tryz.prog 6 #[.agg (hcs (ofP e))] W fun r w' => r = .returned (.tuple #[.string (bs (encL (ofP e))), .nilIface]) ∧ Below W.heap.size W w') := fun W hW => by
        have := encode_p shelf5 (ofP e) W hsp hW
        rw [good.enc, errV_zero] at this; exact this
      have HDE : Hid (∀ W, Env W → Calls Tryz.prog 11 #[.string (bs (encL (ofP e)))] W fun r w' => r = .returned (.tuple #[.agg (hcs (ofP e)), .nilIface]) ∧ Below W.heap.size W w') := fun W hW => by
        have := decode_p shelf5 (bs (encL (ofP e))) W hW
        rw [dec_enc good, errV_zero] at this; exact this
      have hws : (whiteoutB e.path).size < 4611686018427387904 := by have := whiteoutB_size e.path; omega
      have hlast : (lastB e.path).size ≤ 255 := by have := lastB_size e.path; omega
      have hpar : (parentB e.path).size ≤ 255 := by have := parentB_size e.path; omega
      have HPA : Hid (∀ W, Calls Tryz.prog 9 #[.string e.path] W fun r w' => r = .returned (.string (parentB e.path)) ∧ w' = W) := fun W => parent_r e.path W (by omega)
      have HLA : Hid (∀ W, Calls Tryz.prog 10 #[.string e.path] W fun r w' => r = .returned (.string (lastB e.path)) ∧ w' = W) := fun W => last_r e.path W (by omega)
      have HJO : Hid (∀ W, Calls Tryz.prog 8 #[.string (parentB e.path), .string (⟨#[46, 119, 104, 46]⟩ ++ lastB e.path)] W fun r w' => r = .returned (.string (whiteoutB e.path)) ∧ w' = W) := fun W => join_r _ _ W (by rw [ByteArray.size_append]; have : (⟨#[46, 119, 104, 46]⟩ : ByteArray).size = 4 := rfl; omega)
      generalize whiteoutB e.path = wp at *
      generalize lastB e.path = la at *
      generalize parentB e.path = pa at *
      have HEN2 : Hid (∀ W, Env W → Calls Tryz.prog 6 #[.agg #[.string wp, .int .i64 0, .int .i64 0, .int .i64 0, .int .i64 0, .int .i64 0, .int .u8 48, .string ⟨#[]⟩, .string ⟨#[]⟩, .string ⟨#[]⟩, .int .i64 0, .int .i64 0]] W fun r w' => r = .returned (.tuple #[.string (bs (encL ⟨wp, 0, 0, 0, 0, 0, 48, ⟨#[]⟩, ⟨#[]⟩, ⟨#[]⟩, 0, 0⟩)), .nilIface]) ∧ Below W.heap.size W w') := fun W hW => by
        have := encode_p shelf5 ⟨wp, 0, 0, 0, 0, 0, 48, ⟨#[]⟩, ⟨#[]⟩, ⟨#[]⟩, 0, 0⟩ W hws hW
        rw [HWG.out.enc, errV_zero] at this; exact this
      have HDE2 : Hid (∀ W, Env W → Calls Tryz.prog 11 #[.string (bs (encL ⟨wp, 0, 0, 0, 0, 0, 48, ⟨#[]⟩, ⟨#[]⟩, ⟨#[]⟩, 0, 0⟩))] W fun r w' => r = .returned (.tuple #[.agg (hcs ⟨wp, 0, 0, 0, 0, 0, 48, ⟨#[]⟩, ⟨#[]⟩, ⟨#[]⟩, 0, 0⟩), .nilIface]) ∧ Below W.heap.size W w') := fun W hW => by
        have := decode_p shelf5 (bs (encL ⟨wp, 0, 0, 0, 0, 0, 48, ⟨#[]⟩, ⟨#[]⟩, ⟨#[]⟩, 0, 0⟩)) W hW
        rw [dec_enc HWG.out, errV_zero] at this; exact this
      have hi2 : (Tryz.prog.info? 32).map (·.size) = some (hcs ⟨wp, 0, 0, 0, 0, 0, 48, ⟨#[]⟩, ⟨#[]⟩, ⟨#[]⟩, 0, 0⟩).size := info_hd
      have ho2 : (hcs ⟨wp, 0, 0, 0, 0, 0, 48, ⟨#[]⟩, ⟨#[]⟩, ⟨#[]⟩, 0, 0⟩).all (·.oneCell') = true := hcs_one _
      have hzs2 : (hcs zeroHd).size = (hcs ⟨wp, 0, 0, 0, 0, 0, 48, ⟨#[]⟩, ⟨#[]⟩, ⟨#[]⟩, 0, 0⟩).size := rfl
      have hcw : (hcs ⟨wp, 0, 0, 0, 0, 0, 48, ⟨#[]⟩, ⟨#[]⟩, ⟨#[]⟩, 0, 0⟩)[0]? = some (.string wp) := rfl
      have HLZ : Hid ((#[.string ⟨#[]⟩, .int .i64 0, .int .i64 0, .int .i64 0, .int .i64 0, .int .i64 0, .int .u8 0, .string ⟨#[]⟩, .string ⟨#[]⟩, .string ⟨#[]⟩, .int .i64 0, .int .i64 0] : Array Value) = hcs zeroHd) := rfl
      clear HWG hws hsp good hpath hpar
      generalize bs (encL ⟨wp, 0, 0, 0, 0, 0, 48, ⟨#[]⟩, ⟨#[]⟩, ⟨#[]⟩, 0, 0⟩) = R2 at *
      generalize hcs ⟨wp, 0, 0, 0, 0, 0, 48, ⟨#[]⟩, ⟨#[]⟩, ⟨#[]⟩, 0, 0⟩ = CW at *
      generalize bs (encL (ofP e)) = R1 at *
      generalize hcs (ofP e) = CA at *
      go_wp2_with (refine wpList_load_row rfl 24 (.tmp 1) rfl w.heap.size rfl 24 (ecs e) (0, 0) _ L1 Tryz.underlying24 rfl hie ?_)
      refine (HOF.out _).mono ?_
      rintro r w2 ⟨rfl, b2⟩
      have L2 := L1.below b2
      have B2 := below_join B1 b2
      have E2 := E1.below b2
      have G2 := G1.below b2
      clear L1 B1 E1 G1 b2 HOF hie c0 c1 c2 c3 c4
      go_wp2_with fail
      refine (HEN.out _ E2).mono ?_
      rintro r w3 ⟨rfl, b3⟩
      have L3 := L2.below b3
      have B3 := below_join B2 b3
      have E3 := E2.below b3
      have G3 := G2.below b3
      clear L2 B2 E2 G2 b3 HEN
      have d0 : w3.cell? ⟨w.heap.size, 0, none⟩ = some (.string e.path) := L3.cell rfl
      have q1 : (⟨#[46, 119, 104, 46]⟩ : ByteArray).size + la.size ≤ 9223372036854775807 := by have : (⟨#[46, 119, 104, 46]⟩ : ByteArray).size = 4 := rfl; omega
      have q2 : 4 + la.size ≤ 9223372036854775807 := by omega
      have q3 : ¬ 9223372036854775807 < 4 + la.size := by omega
      have q4 : (4 : Int) + (la.size : Int) ≤ 9223372036854775807 := by omega
      go_wp2
      go_region_held3 (fun w' => w'.cell? ⟨w.heap.size, 0, none⟩ = some (.string e.path))
        (first | exact d0 | assumption)
        (first | (go_at_call 9; with_reducible refine (HPA.out _).mono ?_; rintro r w9 ⟨rfl, rfl⟩) | (go_at_call 10; with_reducible refine (HLA.out _).mono ?_; rintro r w9 ⟨rfl, rfl⟩) | (go_at_call 8; with_reducible refine (HJO.out _).mono ?_; rintro r w9 ⟨rfl, rfl⟩))
      have B4 : Below w.heap.size w w3.drew := below_drawn B3 1
      have E4 : Env w3.drew := E3.drew 1
      have G4 : ErrType w3.drew := G3
      have L4 : Lies w3.drew w.heap.size 24 (ecs e) := L3.drew 1
      clear B3 E3 G3 L3 d0 HPA HLA HJO hlast
      (try simp only [Act.put, List.setIfInBounds_toArray, List.set_cons_succ, List.set_cons_zero])
      generalize w3.drew = W4 at *
      go_wp2_with fail
      refine (HEN2.out _ E4).mono ?_
      rintro r w5 ⟨rfl, b5⟩
      have L5 := L4.below b5
      have B5 := below_join B4 b5
      have E5 := E4.below b5
      have G5 := G4.below b5
      clear L4 B4 E4 G4 b5 HEN2
      go_wp2_with fail
      refine (HDE.out _ E5).mono ?_
      rintro r w6 ⟨rfl, b6⟩
      have L6 := L5.below b6
      have B6 := below_join B5 b6
      have E6 := E5.below b6
      have G6 := G5.below b6
      clear L5 B5 E5 G5 b6 HDE
      have hb6 := L6.lt
      have M7 : Lies ((w6.alloc (.cells (hcs zeroHd) 32)).setRow w6.heap.size CA) w6.heap.size 32 CA := (Lies.new w6 _ _).row _
      have L7 : Lies ((w6.alloc (.cells (hcs zeroHd) 32)).setRow w6.heap.size CA) w.heap.size 24 (ecs e) := (L6.alloc _).otherRow _ (by omega)
      have b7 : Below w6.heap.size w6 ((w6.alloc (.cells (hcs zeroHd) 32)).setRow w6.heap.size CA) := below_setRow ((Below.refl _ w6).alloc (Nat.le_refl _) _) (Nat.le_refl _) _
      have B7 := below_join B6 b7
      have E7 := E6.below b7
      have G7 := G6.below b7
      clear b7 B6 E6 G6 L6
      rw [← HLZ.out] at M7 L7 B7 E7 G7
      go_wp2_with (refine wpList_store_row rfl 32 (.tmp 9) (.tmp 86) rfl w6.heap.size CA rfl rfl 32 (hcs zeroHd) (Lies.new w6 _ _) hi hzs ho ?_)
      generalize (w6.alloc (.cells _ 32)).setRow w6.heap.size CA = W7 at *
      generalize w6.heap.size = g6 at *
      refine (HDE2.out W7 E7).mono ?_
      rintro r w8 ⟨rfl, b8⟩
      have L8 := L7.below b8
      have M8 := M7.below b8
      have B8 := below_join B7 b8
      have E8 := E7.below b8
      have G8 := G7.below b8
      clear L7 M7 B7 E7 G7 b8 HDE2
      have hb8 := L8.lt
      have hb9 := M8.lt
      have N9 : Lies ((w8.alloc (.cells (hcs zeroHd) 32)).setRow w8.heap.size CW) w8.heap.size 32 CW := (Lies.new w8 _ _).row _
      have L9 : Lies ((w8.alloc (.cells (hcs zeroHd) 32)).setRow w8.heap.size CW) w.heap.size 24 (ecs e) := (L8.alloc _).otherRow _ (by omega)
      have M9 : Lies ((w8.alloc (.cells (hcs zeroHd) 32)).setRow w8.heap.size CW) g6 32 CA := (M8.alloc _).otherRow _ (by omega)
      have b9 : Below w8.heap.size w8 ((w8.alloc (.cells (hcs zeroHd) 32)).setRow w8.heap.size CW) := below_setRow ((Below.refl _ w8).alloc (Nat.le_refl _) _) (Nat.le_refl _) _
      have B9 := below_join B8 b9
      have E9 := E8.below b9
      have G9 := G8.below b9
      clear b9 B8 E8 G8 L8 M8 hb8 hb9 hb6
      rw [← HLZ.out] at M9 N9 L9 B9 E9 G9
      have f1 : ((w8.alloc (.cells #[.string ⟨#[]⟩, .int .i64 0, .int .i64 0, .int .i64 0, .int .i64 0, .int .i64 0, .int .u8 0, .string ⟨#[]⟩, .string ⟨#[]⟩, .string ⟨#[]⟩, .int .i64 0, .int .i64 0] 32)).setRow w8.heap.size CW).cell? ⟨w.heap.size, 0, none⟩ = some (.string e.path) := L9.cell rfl
      have f2 : ((w8.alloc (.cells #[.string ⟨#[]⟩, .int .i64 0, .int .i64 0, .int .i64 0, .int .i64 0, .int .i64 0, .int .u8 0, .string ⟨#[]⟩, .string ⟨#[]⟩, .string ⟨#[]⟩, .int .i64 0, .int .i64 0] 32)).setRow w8.heap.size CW).cell? ⟨g6, 0, none⟩ = some (.string e.path) := M9.cell hcp
      have f3 : ((w8.alloc (.cells #[.string ⟨#[]⟩, .int .i64 0, .int .i64 0, .int .i64 0, .int .i64 0, .int .i64 0, .int .u8 0, .string ⟨#[]⟩, .string ⟨#[]⟩, .string ⟨#[]⟩, .int .i64 0, .int .i64 0] 32)).setRow w8.heap.size CW).cell? ⟨w8.heap.size, 0, none⟩ = some (.string wp) := N9.cell hcw
      clear L9 M9 N9
      go_wp2_with (first
        | (refine wpList_store_row rfl 32 (.tmp 11) (.tmp 91) rfl w8.heap.size CW rfl rfl 32 (hcs zeroHd) (Lies.new w8 _ _) hi2 hzs2 ho2 ?_)
        | (go_at_call 5; refine (HW.out _ E9 G9).mono ?_; rintro r w10 ⟨rfl, b10⟩))
      go_ret
      exact ⟨rfl, below_join B9 b10⟩
end Go.Proofs.YtjgdeblmgmojcaaGreatDoor
