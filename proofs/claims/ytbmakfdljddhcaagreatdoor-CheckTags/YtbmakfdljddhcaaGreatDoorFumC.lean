/- The document's Full at a text without a colon; Full and Ref whole. -/
import Derived.Test.YtbmakfdljddhcaaGreatDoorFulC
namespace Go.Proofs.YtbmakfdljddhcaaGreatDoor
open Go Go.RowKit

set_option maxRecDepth 100000 in
set_option maxHeartbeats 8000000 in
theorem full_miss (s : ByteArray) (w : World) (hl : s.size ≤ 96) (hm : Lib.indexByte (un s) 58 < 0) :
    Calls Tryz.prog 9 #[.string s] w fun e w' => (∃ x, e = .returned (.tuple #[.string x, .bool (refL (un s))])) ∧ Below w.heap.size w w' := by
  obtain ⟨i0, hi, z0, z1, z2⟩ := info_parts str_info
  have k1 : ¬ (96 : Int) < (s.size : Int) := by omega
  have HR : Hid (refL (un s) = (decide (s.size + 7 ≤ 96) && ((sepL 47 (un s)).all dpL && !(s.toList == [115, 99, 114, 97, 116, 99, 104])))) := by
    unfold Hid; rw [refL_miss _ hm, un_length, toList_un]; rfl
  have hcut1 : ∀ W, Calls Tryz.prog 15 #[.string s, .int .u8 58] W fun e w' => ∃ v, e = .returned v ∧ w'.ownsRow W.heap.size 9 1 v (sepL 58 (un s)).length (strs ((sepL 58 (un s)).map bs)) ∧ Below W.heap.size W w' := fun W => cut_r s 58 W (by omega)
  have hcut2 : ∀ W, Calls Tryz.prog 15 #[.string s, .int .u8 47] W fun e w' => ∃ v, e = .returned v ∧ w'.ownsRow W.heap.size 9 1 v (sepL 47 (un s)).length (strs ((sepL 47 (un s)).map bs)) ∧ Below W.heap.size W w' := fun W => cut_r s 47 W (by omega)
  rw [sep_miss 58 _ hm] at hcut1
  simp only [List.map_cons, List.map_nil, bs_un, List.length_cons, List.length_nil, Nat.zero_add] at hcut1
  have htag : ∀ W, Calls Tryz.prog 16 #[.string ⟨#[108, 97, 116, 101, 115, 116]⟩] W fun e w' => e = .returned (.bool true) ∧ w' = W := fun W => by
    have h := tag_r ⟨#[108, 97, 116, 101, 115, 116]⟩ W (by decide)
    rw [tag_same, show un ⟨#[108, 97, 116, 101, 115, 116]⟩ = latC from rfl, tag_lat] at h; exact h
  have hz7 : (s ++ ⟨#[58, 108, 97, 116, 101, 115, 116]⟩).size = s.size + 7 := by rw [ByteArray.size_append]; rfl
  have hcc : s.size + (ByteArray.mk #[58, 108, 97, 116, 101, 115, 116]).size ≤ 9223372036854775807 := by
    rw [show (ByteArray.mk #[58, 108, 97, 116, 101, 115, 116]).size = 7 from rfl]; omega
  clear hm
  cases q0 : (s.toList == [115, 99, 114, 97, 116, 99, 104])
  rotate_left
  · rw [q0] at HR
    go_enter Tryz.func9, Tryz.ntmps9
    go_wp2_with (first | (go_at_call 15; with_reducible refine (hcut1 _).mono ?_; rintro e w1 ⟨v1, rfl, hown1, hB1⟩; obtain ⟨g1, cap1, rfl, hg1, hcap1, hmax1⟩ := own_slice hown1 (by simp); have hsz1 := hB1.size) | (at_builtin; refine wpList_append_own _ rfl _ _ 42 rfl w.heap.size 9 i0 (.string ⟨#[]⟩) 1 16 Tryz.underlying42 hi z0 z1 z2 rfl (by decide) _ _ _ rfl (hown1.alloc _) ⟨w1.heap.size, 0, none⟩ 1 1 [.string ⟨#[108, 97, 116, 101, 115, 116]⟩] rfl rfl (cell_one'' _ _ _) (by simp [Value.oneCell']) (by unfold maxLen; omega) (by omega) (by simp; omega) ?_; intro v3 w3 hown3 hgrow3 _; have hB3 : Below w.heap.size w w3 := (hB1.alloc hsz1 _).grown hgrow3 (by simp; omega) (fun j hj => own_ge' hown1 j hj.symm); obtain ⟨g3, cap3, rfl, hg3, hcap3, hmax3⟩ := own_slice hown3 (by simp); have c0 := row_cell hown3 0 _ rfl; have c1 := row_cell hown3 1 _ rfl; clear hown3 hgrow3 hown1) | (go_at_call 16; with_reducible refine (htag _).mono ?_; rintro e wt ⟨rfl, hw⟩; replace hw := hw.symm; subst hw))
    go_ret2
    exact ⟨⟨⟨#[]⟩, by rw [HR.out]; simp⟩, hB3⟩
  rw [q0] at HR
  by_cases h96 : s.size + 7 ≤ 96
  rotate_left
  · have k2 : (96 : Int) < ((s ++ ⟨#[58, 108, 97, 116, 101, 115, 116]⟩).size : Int) := by rw [hz7]; omega
    have HR2 : Hid (refL (un s) = false) := by unfold Hid; rw [HR.out, decide_eq_false h96]; rfl
    clear HR h96
    go_enter Tryz.func9, Tryz.ntmps9
    go_wp2_with (first | (go_at_call 15; with_reducible refine (hcut1 _).mono ?_; rintro e w1 ⟨v1, rfl, hown1, hB1⟩; obtain ⟨g1, cap1, rfl, hg1, hcap1, hmax1⟩ := own_slice hown1 (by simp); have hsz1 := hB1.size) | (at_builtin; refine wpList_append_own _ rfl _ _ 42 rfl w.heap.size 9 i0 (.string ⟨#[]⟩) 1 16 Tryz.underlying42 hi z0 z1 z2 rfl (by decide) _ _ _ rfl (hown1.alloc _) ⟨w1.heap.size, 0, none⟩ 1 1 [.string ⟨#[108, 97, 116, 101, 115, 116]⟩] rfl rfl (cell_one'' _ _ _) (by simp [Value.oneCell']) (by unfold maxLen; omega) (by omega) (by simp; omega) ?_; intro v3 w3 hown3 hgrow3 _; have hB3 : Below w.heap.size w w3 := (hB1.alloc hsz1 _).grown hgrow3 (by simp; omega) (fun j hj => own_ge' hown1 j hj.symm); obtain ⟨g3, cap3, rfl, hg3, hcap3, hmax3⟩ := own_slice hown3 (by simp); have c0 := row_cell hown3 0 _ rfl; have c1 := row_cell hown3 1 _ rfl; clear hown3 hgrow3 hown1) | (go_at_call 16; with_reducible refine (htag _).mono ?_; rintro e wt ⟨rfl, hw⟩; replace hw := hw.symm; subst hw))
    go_ret2
    exact ⟨⟨⟨#[]⟩, by rw [HR2.out]; rfl⟩, hB3⟩
  · have k2 : ¬ (96 : Int) < ((s ++ ⟨#[58, 108, 97, 116, 101, 115, 116]⟩).size : Int) := by rw [hz7]; omega
    have HR2 : Hid (refL (un s) = (sepL 47 (un s)).all dpL) := by unfold Hid; rw [HR.out, decide_eq_true h96]; simp
    clear HR h96
    go_enter Tryz.func9, Tryz.ntmps9
    go_wp2_with (first | (go_at_call 15; with_reducible refine (hcut1 _).mono ?_; rintro e w1 ⟨v1, rfl, hown1, hB1⟩; obtain ⟨g1, cap1, rfl, hg1, hcap1, hmax1⟩ := own_slice hown1 (by simp); have hsz1 := hB1.size) | (at_builtin; refine wpList_append_own _ rfl _ _ 42 rfl w.heap.size 9 i0 (.string ⟨#[]⟩) 1 16 Tryz.underlying42 hi z0 z1 z2 rfl (by decide) _ _ _ rfl (hown1.alloc _) ⟨w1.heap.size, 0, none⟩ 1 1 [.string ⟨#[108, 97, 116, 101, 115, 116]⟩] rfl rfl (cell_one'' _ _ _) (by simp [Value.oneCell']) (by unfold maxLen; omega) (by omega) (by simp; omega) ?_; intro v3 w3 hown3 hgrow3 _; have hB3 : Below w.heap.size w w3 := (hB1.alloc hsz1 _).grown hgrow3 (by simp; omega) (fun j hj => own_ge' hown1 j hj.symm); obtain ⟨g3, cap3, rfl, hg3, hcap3, hmax3⟩ := own_slice hown3 (by simp); have c0 := row_cell hown3 0 _ rfl; have c1 := row_cell hown3 1 _ rfl; clear hown3 hgrow3 hown1) | (go_at_call 16; with_reducible refine (htag _).mono ?_; rintro e wt ⟨rfl, hw⟩; replace hw := hw.symm; subst hw) | (go_at_call 15; with_reducible refine (hcut2 _).mono ?_; rintro e w2 ⟨v2, rfl, hown2, hB2⟩; obtain ⟨g2, cap2, rfl, hg2, hcap2, hmax2⟩ := own_slice hown2 (by have := List.length_pos_iff.2 (sepL_ne 47 (un s)); omega)))
    have HOWN : Hid (w2.ownsRow w3.heap.size 9 1 (.slice (some ⟨g2, 0, none⟩) (sepL 47 (un s)).length cap2) (sepL 47 (un s)).length (strs ((sepL 47 (un s)).map bs))) := hown2
    have hlen97 : (sepL 47 (un s)).length ≤ 97 := by have := sep_length 47 (un s); rw [un_length] at this; omega
    have HSZ : Hid (∀ x ∈ sepL 47 (un s), (bs x).size ≤ s.size) := sizes_sep 47 s
    clear hown2 c0 c1
    generalize sepL 47 (un s) = xs at *
    go_loop [6] (fun i => ∃ k : Nat, k ≤ xs.length ∧ i = .int .i64 k ∧ Hid ((xs.take k).all dpL = true)) (fun i => xs.length - (intOf i).toNat)
    case atStart => exact ⟨0, Nat.zero_le _, rfl, by simp [Hid]⟩
    case round =>
      obtain ⟨k, hk, rfl, HK⟩ := hrel
      have k0 : (0 : Int) ≤ (k : Int) := by omega
      by_cases hlt : k < xs.length
      · have kk : (k : Int) < (xs.length : Int) := by omega
        have hx : xs[k]? = some xs[k] := List.getElem?_eq_getElem hlt
        have HKL : Hid (k + 1 ≤ xs.length) := hlt
        generalize xs[k] = x at *
        have hc : w2.cell? ⟨g2, k, none⟩ = some (.string (bs x)) := row_cell HOWN.out k _ (by unfold strs; rw [List.getElem?_map, List.getElem?_map, hx]; rfl)
        have hpc := fun W => piece_r (bs x) W (by have := HSZ.out x (List.mem_of_getElem? hx); omega)
        rw [un_bs] at hpc
        cases hb : dpL x
        · rw [hb] at hpc
          have HF : Hid (xs.all dpL = false) := all_false dpL xs k x hx hb
          clear hb hx
          go_wp2_with (go_at_call 17; with_reducible refine (hpc _).mono ?_; rintro e wp ⟨rfl, hw⟩; replace hw := hw.symm; subst hw)
          go_ret2
          exact ⟨⟨⟨#[]⟩, by rw [HR2.out, HF.out]; rfl⟩, below_join hB3 hB2⟩
        · rw [hb] at hpc
          have HT : Hid ((xs.take (k + 1)).all dpL = true) := all_take dpL xs k x HK.out hx hb
          clear hb hx
          go_wp2_with (go_at_call 17; with_reducible refine (hpc _).mono ?_; rintro e wp ⟨rfl, hw⟩; replace hw := hw.symm; subst hw)
          first
            | exact ⟨⟨k + 1, HKL.out, by go_num, HT⟩, by have := HKL.out; simp [intOf]; omega⟩
            | (go_round
               case rel => exact ⟨k + 1, HKL.out, by go_num, HT⟩
               case measure => have := HKL.out; simp [intOf]; omega)
      · obtain rfl : k = xs.length := by omega
        have kk : ¬ (xs.length : Int) < (xs.length : Int) := by omega
        have HF : Hid (xs.all dpL = true) := by have := HK.out; rwa [List.take_length] at this
        go_wp2
        go_ret2
        exact ⟨⟨_, by rw [HR2.out, HF.out]; rfl⟩, below_join hB3 hB2⟩

theorem full_r (s : ByteArray) (w : World) : Calls Tryz.prog 9 #[.string s] w fun e w' => (∃ x, e = .returned (.tuple #[.string x, .bool (refL (un s))])) ∧ Below w.heap.size w w' := by
  by_cases hl : s.size ≤ 96
  rotate_left
  · exact full_long s w hl
  by_cases hm : Lib.indexByte (un s) 58 < 0
  · exact full_miss s w hl hm
  · have hr := indexByte_range 58 (un s)
    rw [un_length] at hr
    obtain ⟨i, hi⟩ : ∃ i : Nat, Lib.indexByte (un s) 58 = i := ⟨(Lib.indexByte (un s) 58).toNat, by omega⟩
    have e1 : (un s).take i = un (s.extract 0 i) := by rw [un_extract]; rfl
    have e2 : (un s).drop (i + 1) = un (s.extract (i + 1) s.size) := by rw [un_extract, List.take_of_length_le (by rw [un_length]; omega)]
    refine full_hit s (s.extract 0 i) (s.extract (i + 1) s.size) w hl (by rw [size_extract' _ _ _ (by omega)]; omega) (by rw [size_extract' _ _ _ (Nat.le_refl _)]; omega) (sepL 58 (un (s.extract (i + 1) s.size))) ?_ (sep_one _) (sep_more _) (sepL_ne _ _) ?_
    · rw [sep_hit 58 _ i hi, e1, e2]
    · rw [refL_hit _ i hi (by rw [un_length]; omega), e1, e2]
def refN (l : List UInt8) : Int := if refL l then 0 else 31
theorem dref_r (s : ByteArray) (w : World) : Calls Tryz.prog 5 #[.string s] w fun e w' => e = .returned (.int .i64 (refN (un s))) ∧ Below w.heap.size w w' := by
  have h1 := fun W => full_r s W
  unfold refN
  generalize refL (un s) = b at *
  cases b
  all_goals
    go_enter Tryz.func5, Tryz.ntmps5
    go_wp2_with (go_at_call 9; with_reducible refine (h1 _).mono ?_; rintro e w1 ⟨⟨x, rfl⟩, hB⟩)
    go_ret
    exact ⟨rfl, hB⟩
end Go.Proofs.YtbmakfdljddhcaaGreatDoor
