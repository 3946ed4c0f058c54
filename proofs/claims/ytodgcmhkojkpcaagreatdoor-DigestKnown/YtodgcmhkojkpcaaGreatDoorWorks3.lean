/- What most statements of layer 3 ask besides: sums and pieces that are known. -/
import Derived.Test.YtodgcmhkojkpcaaGreatDoorAbcM
import Derived.Test.YtodgcmhkojkpcaaGreatDoorText
import Derived.Test.YtodgcmhkojkpcaaGreatDoorLay3
import Derived.Test.YtodgcmhkojkpcaaGreatDoorCut3
namespace Go.Proofs.YtodgcmhkojkpcaaGreatDoor
open Go Go.RowKit

def abcT : ByteArray := ⟨#[115, 104, 97, 50, 53, 54, 58, 98, 97, 55, 56, 49, 54, 98, 102, 56, 102, 48, 49, 99, 102, 101, 97, 52, 49, 52, 49, 52, 48, 100, 101, 53, 100, 97, 101, 50, 50, 50, 51, 98, 48, 48, 51, 54, 49, 97, 51, 57, 54, 49, 55, 55, 97, 57, 99, 98, 52, 49, 48, 102, 102, 54, 49, 102, 50, 48, 48, 49, 53, 97, 100]⟩
theorem abc_text : bs (textL abcD) = abcT := by decide +kernel
theorem text_abc (w : World) : Calls Tryz.prog 9 #[.agg (dig32 abcD)] w fun e w' => e = .returned (.string abcT) ∧ Below w.heap.size w w' := by
  have h := text_p abcD rfl w
  rw [abc_text] at h; exact h
theorem two_pieces : piecesB [⟨#[97, 98]⟩, ⟨#[]⟩] = ⟨#[50, 58, 97, 98, 48, 58]⟩ := by
  refine un_inj ?_
  unfold piecesB uns
  rw [un_bs]
  have e1 : dec 2 = [50] := by rw [dec_small (by omega)]; rfl
  have e2 : dec 0 = [48] := dec_zero
  have h1 : un (⟨#[97, 98]⟩ : ByteArray) = [97, 98] := rfl
  have h2 : un (⟨#[]⟩ : ByteArray) = [] := rfl
  simp only [List.map_cons, List.map_nil, h1, h2, laidL, List.flatMap_cons, List.flatMap_nil, pieceOf, List.length_cons, List.length_nil, Nat.zero_add, Nat.reduceAdd, e1, e2]
  rfl
theorem wt_two : wt [⟨#[97, 98]⟩, ⟨#[]⟩] = 4 := rfl
/-- Cut of the known pieces. -/
theorem cut_two (w : World) : Calls Tryz.prog 29 #[.string ⟨#[50, 58, 97, 98, 48, 58]⟩] w fun e w' => ∃ g c, e = .returned (.tuple #[.slice (some ⟨g, 0, none⟩) 2 c, .nilIface]) ∧ w'.cell? ⟨g, 0, none⟩ = some (.string ⟨#[97, 98]⟩) ∧ w'.cell? ⟨g, 1, none⟩ = some (.string ⟨#[]⟩) ∧ Below w.heap.size w w' := by
  have h := cut_p ⟨#[50, 58, 97, 98, 48, 58]⟩ w (by decide)
  have hs : un (⟨#[50, 58, 97, 98, 48, 58]⟩ : ByteArray) = laidL (List.map un [⟨#[97, 98]⟩, ⟨#[]⟩]) := by
    have := congrArg un two_pieces
    unfold piecesB uns at this
    rw [un_bs] at this; exact this.symm
  have hsh : ∀ t ∈ List.map un [(⟨#[97, 98]⟩ : ByteArray), ⟨#[]⟩], t.length < 10000000000 := by
    intro t ht
    simp at ht
    rcases ht with rfl | rfl
    · decide
    · decide
  refine h.mono ?_
  rintro e w' ⟨⟨l, u, h1, h2, rfl, h3⟩ | ⟨l, r, h1, h2, h3, h4, _⟩, hB⟩
  · rw [hs] at h1
    have h5 := (laid_split _ _ [] hsh h2 (by rw [List.append_nil]; exact h1)).1 rfl
    have h6 : [(⟨#[97, 98]⟩ : ByteArray), ⟨#[]⟩] = l := by
      have := congrArg (List.map bs) h5
      rw [List.map_map, List.map_map] at this
      have e : (bs ∘ un) = id := by funext x; exact bs_un x
      rwa [e, List.map_id, List.map_id] at this
    subst h6
    rcases h3.2 with ⟨_, h0⟩ | ⟨g, cap, cur, rfl, _⟩
    · simp at h0
    · exact ⟨g, cap, rfl, row_cell h3 0 _ rfl, row_cell h3 1 _ rfl, hB⟩
  · exfalso
    rw [hs] at h1
    obtain ⟨t, r', h5⟩ := (laid_split _ _ r hsh h4 h1).2 h2
    rw [h3] at h5; cases h5
theorem abc_hash : sumB 32 ([] ++ un ⟨#[97]⟩ ++ un ⟨#[98, 99]⟩) = abcD := abc_sum
theorem width32 : widthN 32 = 32 := rfl
theorem sum_abc (w : World) (hk : KTab w) : Calls Tryz.prog 10 #[.int .i64 32, .string ⟨#[97, 98, 99]⟩] w fun e w' => e = .returned (.agg (dig32 abcD)) ∧ Below w.heap.size w w' := by
  have h := sum_p 32 ⟨#[97, 98, 99]⟩ w hk (by decide)
  rw [width32, show sumB 32 (un ⟨#[97, 98, 99]⟩) = abcD from abc_sum] at h; exact h

set_option maxRecDepth 100000 in
set_option maxHeartbeats 2000000 in
theorem works_p (w : World) (hk : KTab w) (hp : Pow10 w) : Calls Tryz.prog 11 #[] w fun e w' => e = .returned (.bool true) ∧ Below w.heap.size w w' := by
  have hg := var_lt l_k hk
  have hss : abcT.toList = [115, 104, 97, 50, 53, 54, 58, 98, 97, 55, 56, 49, 54, 98, 102, 56, 102, 48, 49, 99, 102, 101, 97, 52, 49, 52, 49, 52, 48, 100, 101, 53, 100, 97, 101, 50, 50, 50, 51, 98, 48, 48, 51, 54, 49, 97, 51, 57, 54, 49, 55, 55, 97, 57, 99, 98, 52, 49, 48, 102, 102, 54, 49, 102, 50, 48, 48, 49, 53, 97, 100] := by rw [toList_un]; rfl
  have hs2 : ((⟨#[50, 58, 97, 98, 48, 58]⟩ : ByteArray).toList == (⟨#[50, 58, 97, 98, 48, 58]⟩ : ByteArray).toList) = true := by simp
  go_enter Tryz.func11, Tryz.ntmps11
  go_wp2_with fail
  refine (new_p 32 w).mono ?_
  rintro e w1 ⟨rfl, hw1⟩
  have hH1 := hash_new 32 w
  have B1 : Below w.heap.size w w1 := by rw [hw1]; exact (Below.refl _ w).alloc (Nat.le_refl _) _
  rw [← hw1] at hH1
  rw [width32] at hH1
  have K1 : KTab w1 := var?_below B1 l_k hg hk
  clear hw1
  go_wp2_with fail
  refine (write_p ⟨#[97]⟩ _ [] w.heap.size w1 hH1 K1 (by omega) (by decide)).mono ?_
  rintro e w2 ⟨rfl, hH2, hT2⟩
  have B2 : Below w.heap.size w w2 := B1.grown hT2 B1.size (fun k hk => by have := Option.some.inj hk; omega)
  have K2 : KTab w2 := var?_below B2 l_k hg hk
  clear hT2 B1 K1 hH1
  go_wp2_with fail
  refine (write_p ⟨#[98, 99]⟩ _ _ w.heap.size w2 hH2 K2 (by omega) (by decide)).mono ?_
  rintro e w3 ⟨rfl, hH3, hT3⟩
  have B3 : Below w.heap.size w w3 := B2.grown hT3 B2.size (fun k hk => by have := Option.some.inj hk; omega)
  have K3 : KTab w3 := var?_below B3 l_k hg hk
  clear hT3 B2 K2 hH2
  go_wp2_with fail
  refine (cut_two w3).mono ?_
  rintro e w4 ⟨g, c, rfl, c0, c1, b4⟩
  have hH4 := hH3.below b4
  have B4 := below_join B3 b4
  have K4 : KTab w4 := var?_below B4 l_k hg hk
  clear hH3 B3 K3 b4
  have hlt0 := World.block_lt_of_cell? w4 _ c0
  have hsum := hsum_p 32 (by omega) _ (by decide) w.heap.size w4 hH4 K4
  rw [abc_hash] at hsum
  go_wp2_with fail
  refine hsum.mono ?_
  rintro e w5 ⟨rfl, b5⟩
  replace c0 := (b5.cell (p := ⟨g, 0, none⟩) hlt0).trans c0
  replace c1 := (b5.cell (p := ⟨g, 1, none⟩) hlt0).trans c1
  have B5 := below_join B4 b5
  have K5 : KTab w5 := var?_below B5 l_k hg hk
  clear hsum hH4 B4 K4 b5
  replace hlt0 := World.block_lt_of_cell? w5 _ c0
  go_wp2_with fail
  refine (text_abc w5).mono ?_
  rintro e w6 ⟨rfl, b6⟩
  replace c0 := (b6.cell (p := ⟨g, 0, none⟩) hlt0).trans c0
  replace c1 := (b6.cell (p := ⟨g, 1, none⟩) hlt0).trans c1
  have B6 := below_join B5 b6
  have K6 : KTab w6 := var?_below B6 l_k hg hk
  clear B5 K5 b6
  replace hlt0 := World.block_lt_of_cell? w6 _ c0
  go_wp2_with fail
  refine (sum_abc w6 K6).mono ?_
  rintro e w7 ⟨rfl, b7⟩
  replace c0 := (b7.cell (p := ⟨g, 0, none⟩) hlt0).trans c0
  replace c1 := (b7.cell (p := ⟨g, 1, none⟩) hlt0).trans c1
  have B7 := below_join B6 b7
  clear B6 K6 b7
  replace hlt0 := World.block_lt_of_cell? w7 _ c0
  go_wp2_with fail
  refine (text_abc w7).mono ?_
  rintro e w8 ⟨rfl, b8⟩
  replace c0 := (b8.cell (p := ⟨g, 0, none⟩) hlt0).trans c0
  replace c1 := (b8.cell (p := ⟨g, 1, none⟩) hlt0).trans c1
  have B8 := below_join B7 b8
  clear B7 b8
  replace hlt0 := World.block_lt_of_cell? w8 _ c0
  have B9 : Below w.heap.size w (w8.alloc (.cells #[.string ⟨#[97, 98]⟩, .string ⟨#[]⟩] 9)) := B8.alloc B8.size _
  have hp9 := hp.below B9
  have T9 : TextsAt (w8.alloc (.cells #[.string ⟨#[97, 98]⟩, .string ⟨#[]⟩] 9)) (.slice (some ⟨w8.heap.size, 0, none⟩) 2 2) [⟨#[97, 98]⟩, ⟨#[]⟩] := by
    refine ⟨_, _, rfl, (fun e => nomatch e), fun i x hx => ⟨w8.heap.size, 0, rfl, ?_⟩⟩
    rw [Nat.zero_add]
    refine (Lies.new w8 _ _).cell ?_
    rcases i with _ | _ | i
    · cases hx; rfl
    · cases hx; rfl
    · simp at hx
  have hpc := pieces_p _ _ _ hp9 T9 (by rw [wt_two]; omega)
  rw [two_pieces] at hpc
  go_wp2_with fail
  refine hpc.mono ?_
  rintro e w9 ⟨rfl, b9⟩
  have b89 : Below w8.heap.size w8 w9 := ((Below.refl _ w8).alloc (Nat.le_refl _) _).trans (b9.mono (by simp))
  replace c0 := (b89.cell (p := ⟨g, 0, none⟩) hlt0).trans c0
  replace c1 := (b89.cell (p := ⟨g, 1, none⟩) hlt0).trans c1
  go_wp2
  go_ret
  exact ⟨rfl, below_join B8 b89⟩
end Go.Proofs.YtodgcmhkojkpcaaGreatDoor
