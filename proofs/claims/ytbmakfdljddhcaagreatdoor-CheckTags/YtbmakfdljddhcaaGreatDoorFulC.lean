/- The document's Full and Ref: what they say of a text is what the program says. -/
import Derived.Test.YtbmakfdljddhcaaGreatDoorPurC
import Derived.Test.YtbmakfdljddhcaaGreatDoorDcuC
namespace Go.Proofs.YtbmakfdljddhcaaGreatDoor
open Go Go.RowKit

theorem refL_le (l : List UInt8) (h : refL l = true) : l.length ≤ 96 := by
  have hr := indexByte_range 58 l
  unfold refL refP at h
  split at h
  · rw [Bool.and_eq_true] at h
    have := of_decide_eq_true h.1
    omega
  · rw [Bool.and_eq_true] at h
    have := of_decide_eq_true h.1
    rw [List.length_take, List.length_drop] at this
    omega
theorem refL_long (l : List UInt8) (h : ¬ l.length ≤ 96) : refL l = false := by
  rw [Bool.eq_false_iff]
  exact fun h2 => h (refL_le l h2)
theorem refL_miss (l : List UInt8) (h : Lib.indexByte l 58 < 0) : refL l = (decide (l.length + 7 ≤ 96) && ((sepL 47 l).all dpL && !(l == scrC))) := by
  unfold refL refP nameL
  rw [if_pos h, tag_lat, Bool.and_true, sepL_cut, show dpL = pieceL from funext piece_same]
  rfl
theorem refL_hit (l : List UInt8) (i : Nat) (h : Lib.indexByte l 58 = i) (hl : l.length ≤ 96) : refL l = ((sepL 47 (l.take i)).all dpL && !(l.take i == scrC) && dtL (l.drop (i + 1))) := by
  have hr := indexByte_range 58 l
  unfold refL refP nameL
  have hd : decide ((l.take (i : Int).toNat).length + 1 + (l.drop ((i : Int).toNat + 1)).length ≤ 96) = true := by
    rw [decide_eq_true_iff, Int.toNat_natCast, List.length_take, List.length_drop, Nat.min_eq_left (by omega)]; omega
  rw [if_neg (show ¬ Lib.indexByte l 58 < 0 by omega), h, hd, Bool.true_and, sepL_cut, tag_same, show dpL = pieceL from funext piece_same]
  rfl
theorem sep_one (l : List UInt8) (h : (sepL 58 l).length = 1) : sepL 58 l = [l] := by
  have hr := indexByte_range 58 l
  rcases Int.lt_or_le (Lib.indexByte l 58) 0 with h1 | h1
  · exact sep_miss 58 l h1
  · obtain ⟨i, hi⟩ : ∃ i : Nat, Lib.indexByte l 58 = i := ⟨(Lib.indexByte l 58).toNat, by omega⟩
    rw [sep_hit 58 l i hi] at h
    have := List.length_pos_iff.2 (sepL_ne 58 (l.drop (i + 1)))
    rw [List.length_cons] at h; omega
theorem sep_more (l : List UInt8) (h : (sepL 58 l).length ≠ 1) : dtL l = false := by
  rw [tag_same, Bool.eq_false_iff]
  intro h2
  rw [sep_miss 58 l (tag_colon l h2)] at h
  exact h rfl
theorem all_take {α : Type} (p : α → Bool) (l : List α) (k : Nat) (x : α) (h : (l.take k).all p = true) (hx : l[k]? = some x) (hp : p x = true) : (l.take (k + 1)).all p = true := by
  rw [List.take_add_one, hx, List.all_append, h]; simp [hp]
theorem all_false {α : Type} (p : α → Bool) (l : List α) (k : Nat) (x : α) (hx : l[k]? = some x) (hp : p x = false) : l.all p = false :=
  List.all_eq_false.2 ⟨x, List.mem_of_getElem? hx, by rw [hp]; decide⟩
theorem sizes_sep (c : UInt8) (s : ByteArray) : ∀ x ∈ sepL c (un s), (bs x).size ≤ s.size := fun x hx => by
  rw [size_bs, ← un_length s]; exact sep_total c _ x hx

set_option maxRecDepth 100000 in
set_option maxHeartbeats 8000000 in
theorem full_long (s : ByteArray) (w : World) (hl : ¬ s.size ≤ 96) : Calls Tryz.prog 9 #[.string s] w fun e w' => (∃ x, e = .returned (.tuple #[.string x, .bool (refL (un s))])) ∧ Below w.heap.size w w' := by
  have HR : Hid (refL (un s) = false) := refL_long _ (by rw [un_length]; exact hl)
  have k1 : (96 : Int) < (s.size : Int) := by omega
  go_enter Tryz.func9, Tryz.ntmps9
  go_wp2
  go_ret2
  exact ⟨⟨_, by rw [HR.out]; rfl⟩, Below.refl _ _⟩

set_option maxRecDepth 100000 in
set_option maxHeartbeats 8000000 in
theorem full_hit (s a b : ByteArray) (w : World) (hl : s.size ≤ 96) (ha : a.size ≤ 96) (hb : b.size ≤ 96) (ps : List (List UInt8)) (hps : sepL 58 (un s) = un a :: ps) (hone : ps.length = 1 → ps = [un b]) (hmore : ps.length ≠ 1 → dtL (un b) = false) (hne : ps ≠ [])
    (hR : refL (un s) = ((sepL 47 (un a)).all dpL && !(un a == scrC) && dtL (un b))) :
    Calls Tryz.prog 9 #[.string s] w fun e w' => (∃ x, e = .returned (.tuple #[.string x, .bool (refL (un s))])) ∧ Below w.heap.size w w' := by
  have k1 : ¬ (96 : Int) < (s.size : Int) := by omega
  have hcut1 : ∀ W, Calls Tryz.prog 15 #[.string s, .int .u8 58] W fun e w' => ∃ v, e = .returned v ∧ w'.ownsRow W.heap.size 9 1 v (sepL 58 (un s)).length (strs ((sepL 58 (un s)).map bs)) ∧ Below W.heap.size W w' := fun W => cut_r s 58 W (by omega)
  rw [hps] at hcut1
  have hpos := List.length_pos_iff.2 hne
  by_cases h1 : ps.length = 1
  · obtain rfl := hone h1
    have htag := fun W => tag_r b W (by omega)
    have hcut2 : ∀ W, Calls Tryz.prog 15 #[.string a, .int .u8 47] W fun e w' => ∃ v, e = .returned v ∧ w'.ownsRow W.heap.size 9 1 v (sepL 47 (un a)).length (strs ((sepL 47 (un a)).map bs)) ∧ Below W.heap.size W w' := fun W => cut_r a 47 W (by omega)
    have HC : Hid ([un a, un b].length = 2) := rfl
    have HR : Hid (refL (un s) = ((sepL 47 (un a)).all dpL && !(un a == scrC) && dtL (un b))) := hR
    simp only [List.map_cons, List.map_nil, bs_un] at hcut1
    generalize dtL (un b) = tb at *
    clear hR hmore hone hps hne
    have HA : Hid (∀ b, a = b ∨ a ≠ b) := fun b => Classical.em _
    cases tb
    · go_enter Tryz.func9, Tryz.ntmps9
      go_wp2_with (first | (go_at_call 15; with_reducible refine (hcut1 _).mono ?_; rintro e w1 ⟨v1, rfl, hown1, hB1⟩; obtain ⟨g1, cap1, rfl, hg1, hcap1, hmax1⟩ := own_slice hown1 (by simp); have c0 := row_cell hown1 0 _ rfl; have c1 := row_cell hown1 1 _ rfl; clear hown1) | (go_at_call 16; refine (htag _).mono ?_; rintro e wt ⟨rfl, hw⟩; replace hw := hw.symm; subst hw))
      go_ret2
      exact ⟨⟨_, by rw [HR.out, Bool.and_false]; rfl⟩, hB1⟩
    · have hqe : (un a == scrC) = (a.toList == [115, 99, 114, 97, 116, 99, 104]) := by rw [toList_un]; rfl
      rw [hqe] at HR
      clear hqe HA
      cases q0 : (a.toList == [115, 99, 114, 97, 116, 99, 104])
      rotate_left
      · rw [q0] at HR
        go_enter Tryz.func9, Tryz.ntmps9
        go_wp2_with (first | (go_at_call 15; with_reducible refine (hcut1 _).mono ?_; rintro e w1 ⟨v1, rfl, hown1, hB1⟩; obtain ⟨g1, cap1, rfl, hg1, hcap1, hmax1⟩ := own_slice hown1 (by simp); have c0 := row_cell hown1 0 _ rfl; have c1 := row_cell hown1 1 _ rfl; clear hown1) | (go_at_call 16; refine (htag _).mono ?_; rintro e wt ⟨rfl, hw⟩; replace hw := hw.symm; subst hw))
        go_ret2
        exact ⟨⟨⟨#[]⟩, by rw [HR.out]; simp⟩, hB1⟩
      · rw [q0] at HR
        have HR2 : Hid (refL (un s) = (sepL 47 (un a)).all dpL) := by
          unfold Hid
          rw [HR.out]; simp
        clear HR
        go_enter Tryz.func9, Tryz.ntmps9
        go_wp2_with (first | (go_at_call 15; with_reducible refine (hcut1 _).mono ?_; rintro e w1 ⟨v1, rfl, hown1, hB1⟩; obtain ⟨g1, cap1, rfl, hg1, hcap1, hmax1⟩ := own_slice hown1 (by simp); have c0 := row_cell hown1 0 _ rfl; have c1 := row_cell hown1 1 _ rfl; clear hown1) | (go_at_call 16; refine (htag _).mono ?_; rintro e wt ⟨rfl, hw⟩; replace hw := hw.symm; subst hw) | (go_at_call 15; with_reducible refine (hcut2 _).mono ?_; rintro e w2 ⟨v2, rfl, hown2, hB2⟩; obtain ⟨g2, cap2, rfl, hg2, hcap2, hmax2⟩ := own_slice hown2 (by have := List.length_pos_iff.2 (sepL_ne 47 (un a)); omega)))
        have HOWN : Hid (w2.ownsRow w1.heap.size 9 1 (.slice (some ⟨g2, 0, none⟩) (sepL 47 (un a)).length cap2) (sepL 47 (un a)).length (strs ((sepL 47 (un a)).map bs))) := hown2
        have hlen97 : (sepL 47 (un a)).length ≤ 97 := by have := sep_length 47 (un a); rw [un_length] at this; omega
        have HSZ : Hid (∀ x ∈ sepL 47 (un a), (bs x).size ≤ a.size) := sizes_sep 47 a
        clear hown2 c0 c1
        generalize sepL 47 (un a) = xs at *
        go_loop [6] (fun i => ∃ k : Nat, k ≤ xs.length ∧ i = .int .i64 k ∧ Hid ((xs.take k).all dpL = true)) (fun i => xs.length - (intOf i).toNat)
        case atStart => exact ⟨0, Nat.zero_le _, rfl, by simp [Hid]⟩
        case round =>
          obtain ⟨k, hk, rfl, HK⟩ := hrel
          have k0 : (0 : Int) ≤ (k : Int) := by omega
          by_cases hlt : k < xs.length
          · have kk : (k : Int) < (xs.length : Int) := by omega
            have hx : xs[k]? = some xs[k] := List.getElem?_eq_getElem hlt
            have HKL : Hid (k + 1 ≤ xs.length) := hlt
            generalize xs[k] = x at *
            have hc : w2.cell? ⟨g2, k, none⟩ = some (.string (bs x)) := row_cell HOWN.out k _ (by unfold strs; rw [List.getElem?_map, List.getElem?_map, hx]; rfl)
            have hpc := fun W => piece_r (bs x) W (by have := HSZ.out x (List.mem_of_getElem? hx); omega)
            rw [un_bs] at hpc
            cases hb : dpL x
            · rw [hb] at hpc
              have HF : Hid (xs.all dpL = false) := all_false dpL xs k x hx hb
              clear hb hx
              go_wp2_with (go_at_call 17; with_reducible refine (hpc _).mono ?_; rintro e wp ⟨rfl, hw⟩; replace hw := hw.symm; subst hw)
              go_ret2
              exact ⟨⟨⟨#[]⟩, by rw [HR2.out, HF.out]; rfl⟩, below_join hB1 hB2⟩
            · rw [hb] at hpc
              have HT : Hid ((xs.take (k + 1)).all dpL = true) := all_take dpL xs k x HK.out hx hb
              clear hb hx
              go_wp2_with (go_at_call 17; with_reducible refine (hpc _).mono ?_; rintro e wp ⟨rfl, hw⟩; replace hw := hw.symm; subst hw)
              first
                | exact ⟨⟨k + 1, HKL.out, by go_num, HT⟩, by have := HKL.out; simp [intOf]; omega⟩
                | (go_round
                   case rel => exact ⟨k + 1, HKL.out, by go_num, HT⟩
                   case measure => have := HKL.out; simp [intOf]; omega)
          · obtain rfl : k = xs.length := by omega
            have kk : ¬ (xs.length : Int) < (xs.length : Int) := by omega
            have HF : Hid (xs.all dpL = true) := by have := HK.out; rwa [List.take_length] at this
            go_wp2
            go_ret2
            exact ⟨⟨_, by rw [HR2.out, HF.out]; rfl⟩, below_join hB1 hB2⟩
  · have HR : Hid (refL (un s) = false) := by unfold Hid; rw [hR, hmore h1, Bool.and_false]
    have hn : (un a :: ps).length ≠ 2 := by rw [List.length_cons]; intro h; exact h1 (by omega)
    have hn1 : (un a :: ps).length ≠ 1 := by rw [List.length_cons]; omega
    have hn0 : (un a :: ps).length ≠ 0 := by simp
    generalize (un a :: ps).map bs = pl at *
    generalize (un a :: ps).length = n at *
    have q2 : ((n : Int) != 2) = true := by simp; omega
    have q1 : ((n : Int) == 1) = false := by simp; omega
    clear hR hmore hone hps hne h1 hpos
    go_enter Tryz.func9, Tryz.ntmps9
    go_wp2_with (go_at_call 15; with_reducible refine (hcut1 _).mono ?_; rintro e w1 ⟨v1, rfl, hown1, hB1⟩; obtain ⟨g1, cap1, rfl, hg1, hcap1, hmax1⟩ := own_slice hown1 hn0; clear hown1)
    go_ret2
    exact ⟨⟨⟨#[]⟩, by rw [HR.out]; rfl⟩, hB1⟩
end Go.Proofs.YtbmakfdljddhcaaGreatDoor
