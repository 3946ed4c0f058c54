/- DigestBack: the statement walked. -/
import Derived.Test.YtednkmdcejmaoaaDoorLay3
import Derived.Test.YtednkmdcejmaoaaDoorCut3
import Derived.Laws.AppendOwnNone
namespace Go.Proofs.YtednkmdcejmaoaaDoor
open Go Go.RowKit

theorem uns_inj {a b : List ByteArray} (h : uns a = uns b) : a = b := by
  have := congrArg (List.map bs) h
  unfold uns at this
  rw [List.map_map, List.map_map] at this
  have e : (bs ∘ un) = id := by funext x; exact bs_un x
  rwa [e, List.map_id, List.map_id] at this
theorem uns_short (l : List ByteArray) (h : wt l ≤ 1099511) : ∀ t ∈ uns l, t.length < 10000000000 := by
  intro t ht
  obtain ⟨x, hx, rfl⟩ := List.mem_map.1 ht
  have := size_wt hx
  rw [un_length]; omega
theorem piecesB_append (l m : List ByteArray) : piecesB l ++ piecesB m = piecesB (l ++ m) := un_inj (by
  unfold piecesB; rw [un_append, un_bs, un_bs, un_bs, uns_append, laidL_append])
/-- Cut of what is laid. -/
theorem cut_laid (l : List ByteArray) (w : World) (hz : wt l ≤ 1099511) : Calls Tryd.prog 10 #[.string (piecesB l)] w fun e w' => ∃ u, e = .returned (.tuple #[u, .nilIface]) ∧ w'.ownsRow w.heap.size 9 1 u l.length (strs l) ∧ Below w.heap.size w w' := by
  refine (cut_p (piecesB l) w (by have := piecesB_size l hz; omega)).mono ?_
  rintro e w' ⟨⟨l', u, h1, h2, rfl, h3⟩ | ⟨l', r, h1, h2, h3, h4, _⟩, hB⟩
  · have e1 : un (piecesB l) = laidL (uns l) := un_bs _
    rw [e1] at h1
    have h5 := (laid_split (uns l) (uns l') [] (uns_short l hz) h2 (by rw [List.append_nil]; exact h1)).1 rfl
    rw [uns_inj h5]
    exact ⟨u, rfl, h3, hB⟩
  · exfalso
    have e1 : un (piecesB l) = laidL (uns l) := un_bs _
    rw [e1] at h1
    obtain ⟨t, r', h5⟩ := (laid_split (uns l) (uns l') r (uns_short l hz) h4 h1).2 h2
    rw [h3] at h5; cases h5

theorem cut_both (l m : List ByteArray) (w : World) (hz : wt l + wt m ≤ 1048576) : Calls Tryd.prog 10 #[.string (piecesB l ++ piecesB m)] w fun e w' => ∃ u, e = .returned (.tuple #[u, .nilIface]) ∧ w'.ownsRow w.heap.size 9 1 u (l ++ m).length (strs (l ++ m)) ∧ Below w.heap.size w w' := by
  rw [piecesB_append]; exact cut_laid (l ++ m) w (by rw [wt_append]; omega)
theorem laid_ge : ∀ l : List ByteArray, wt l ≤ (laidL (uns l)).length
  | [] => by simp [wt]
  | x :: l => by
    have ih := laid_ge l
    have hw : wt (x :: l) = x.size + 1 + wt l := by simp [wt]
    have e : laidL (uns (x :: l)) = pieceOf (un x) ++ laidL (uns l) := rfl
    rw [e, List.length_append, hw]
    have : (un x).length + 1 ≤ (pieceOf (un x)).length := by simp [pieceOf]
    rw [un_length] at this; omega
theorem own_len {w : World} {B e n : Nat} {v : Value} {cs : List Value} (h : w.ownsRow B e 1 v n cs) : ∃ a c, v = .slice a n c := by
  rcases h.2 with ⟨rfl, h0⟩ | ⟨g, cap, cur, rfl, _⟩
  · exact ⟨none, 0, by rw [h0]⟩
  · exact ⟨_, _, rfl⟩

set_option maxRecDepth 100000 in
set_option maxHeartbeats 2000000 in
theorem back_law (l m : List ByteArray) (u v : Value) (s : ByteArray) (w : World) (hg : Pow10 w) (hu : TextsAt w u l) (hv : TextsAt w v m) (hz : wt l + wt m + s.size ≤ 1048576) :
    Calls Tryd.prog 3 #[u, v, .string s] w fun e w' => e = .returned (.bool true) ∧ Below w.heap.size w w' := by
  obtain ⟨i0, hi, z0, z1, z2⟩ := info_parts str_info
  have hlm := wt_append l m
  have hl1 := length_wt l
  have hl2 := length_wt m
  have zl := piecesB_size l (by omega)
  have zm := piecesB_size m (by omega)
  have hsm : (s.size : Int) ≤ 1048576 := by omega
  go_enter Tryd.func3, Tryd.ntmps3
  go_wp2_with fail
  refine (few_p l u _ hu (by omega)).mono ?_
  rintro e w1 ⟨rfl, hw1⟩
  subst hw1
  go_wp2_with fail
  refine (few_p m v _ hv (by omega)).mono ?_
  rintro e w1 ⟨rfl, hw1⟩
  subst hw1
  go_wp2_with fail
  refine (pieces_p l u _ hg hu (by omega)).mono ?_
  rintro e w2 ⟨rfl, b2⟩
  have hg2 := hg.below b2
  have hu2 := hu.below b2
  have hv2 := hv.below b2
  clear hg hu hv
  go_wp2_with fail
  refine (pieces_p m v _ hg2 hv2 (by omega)).mono ?_
  rintro e w3 ⟨rfl, b3⟩
  have hg3 := hg2.below b3
  have hu3 := hu2.below b3
  have hv3 := hv2.below b3
  have B3 := below_join b2 b3
  clear hg2 hu2 hv2 b2 b3
  go_wp2_with fail
  refine (cut_laid l _ (by omega)).mono ?_
  rintro e w4 ⟨one, rfl, ho4, b4⟩
  have hg4 := hg3.below b4
  have hu4 := hu3.below b4
  have hv4 := hv3.below b4
  have ht4 := TextsAt.own ho4
  have B4 := below_join B3 b4
  clear hg3 hu3 hv3 B3 b4 ho4
  go_wp2_with fail
  refine (cut_both l m _ (by omega)).mono ?_
  rintro e w5 ⟨both, rfl, ho5, b5⟩
  have hg5 := hg4.below b5
  have hu5 := hu4.below b5
  have hv5 := hv4.below b5
  have ht5 := ht4.below b5
  have hb5 := TextsAt.own ho5
  have B5 := below_join B4 b5
  clear hg4 hu4 hv4 ht4 B4 b5 ho5
  go_wp2_with fail
  refine (copy_p l u _ hu5 (by omega)).mono ?_
  rintro e w6 ⟨cp, rfl, ho6, b6⟩
  have hv6 := hv5.below b6
  have s56 := b6.size
  obtain ⟨av, c2, rfl, hnil, hcell⟩ := hv6
  cases av with
  | none =>
    obtain rfl := hnil rfl
    have hm0 : m = [] := by
      cases m with
      | nil => rfl
      | cons x m => obtain ⟨b, o, h, _⟩ := hcell 0 x rfl; cases h
    subst hm0
    go_wp2_with (at_builtin; refine wpList_append_own_none rfl (.tmp 46) (.tmp 47) 22 rfl w5.heap.size 9 i0 1 Tryd.underlying22 hi _ _ _ rfl ho6 rfl ?_)
    have b7 := b6
    have hall7 : TextsAt w6 cp l := TextsAt.own ho6
    rw [List.append_nil] at hb5
    have hg7 := hg5.below b7
    have hu7 := hu5.below b7
    have ht7 := ht5.below b7
    have hb7 := hb5.below b7
    have B7 := below_join B5 b7
    clear hg5 hu5 hv5 ht5 hb5 B5 b6 b7
    go_wp2_with fail
    refine (same_p l l one u _ ht7 hu7 (by omega) rfl).mono ?_
    rintro e w8 ⟨rfl, b8⟩
    have hg8 := hg7.below b8
    have hb8 := hb7.below b8
    have ha8 := hall7.below b8
    have B8 := below_join B7 b8
    clear hg7 hu7 ht7 hb7 hall7 B7 b8
    go_wp2_with fail
    refine (same_p l l both cp _ hb8 ha8 (by omega) rfl).mono ?_
    rintro e w9 ⟨rfl, b9⟩
    have hg9 := hg8.below b9
    have ha9 := ha8.below b9
    have B9 := below_join B8 b9
    clear hg8 hb8 ha8 B8 b9
    go_wp2_with fail
    refine (pieces_p l cp _ hg9 ha9 (by omega)).mono ?_
    rintro e w10 ⟨rfl, b10⟩
    have hg10 := hg9.below b10
    have B10 := below_join B9 b10
    clear hg9 ha9 B9 b10
    have hpe : ((piecesB l).toList == (piecesB l ++ piecesB []).toList) = true := by rw [piecesB_append, List.append_nil]; simp
    go_wp2_with fail
    refine (cut_p s _ (by omega)).mono ?_
    rintro e w11 ⟨⟨l', u', h1, h2, rfl, h3⟩ | ⟨l', r, h1, h2, h3, h4, rfl⟩, b11⟩
    · have hg11 := hg10.below b11
      have B11 := below_join B10 b11
      have ht11 := TextsAt.own h3
      have hw := laid_ge l'
      have hls := congrArg List.length h1
      rw [un_length] at hls
      have hw2 : wt l' ≤ 1099511 := by have e : uns l' = l'.map un := rfl; rw [e] at hw; omega
      have hsp : piecesB l' = s := un_inj (by unfold piecesB; rw [un_bs]; exact h1.symm)
      have hcl := fun W hg ht => pieces_p l' u' W hg ht hw2
      rw [hsp] at hcl
      have hss : (s.toList == s.toList) = true := by simp
      clear h1 h2 h3 hls hw hsp
      go_wp2_with fail
      refine (hcl _ hg11 ht11).mono ?_
      rintro e w12 ⟨rfl, b12⟩
      go_wp2
      go_ret
      exact ⟨rfl, below_join B11 b12⟩
    · clear h1 h2 h3 h4
      go_wp2
      go_ret
      exact ⟨rfl, below_join B10 b11⟩
  | some ad =>
    have hst : Hid (strs l ++ strs m = strs (l ++ m)) := (strs_append l m).symm
    go_wp2_with (at_builtin; refine wpList_append_own _ rfl (.tmp 46) (.tmp 47) 22 rfl w5.heap.size 9 i0 (.string ⟨#[]⟩) 1 16 Tryd.underlying22 hi z0 z1 z2 rfl (by decide) _ _ _ rfl ho6 ad m.length c2 (strs m) rfl (by rw [strs_length, Nat.mul_one]) ?c1 ?c2 ?c3 ?c4 ?c5 ?_)
    case c1 =>
      intro j x hj
      unfold strs at hj
      rw [List.getElem?_map] at hj
      obtain ⟨y, hy, rfl⟩ := Option.map_eq_some_iff.1 hj
      obtain ⟨b, o, h, hc⟩ := hcell j y hy
      cases h
      rw [Addr.add_mid]; exact hc
    case c2 =>
      intro x hx
      unfold strs at hx
      obtain ⟨y, _, rfl⟩ := List.mem_map.1 hx
      rfl
    case c3 => unfold maxLen; omega
    case c4 => omega
    case c5 => omega
    intro v' w7 ho7 hgr _
    have b7 : Below w5.heap.size w5 w7 := b6.grown hgr (by omega) (fun k hk => (ho6.lt k hk).1)
    have hall7 : TextsAt w7 v' (l ++ m) := TextsAt.own (B := w5.heap.size) (by rw [strs_append, List.length_append]; exact ho7)
    have hg7 := hg5.below b7
    have hu7 := hu5.below b7
    have ht7 := ht5.below b7
    have hb7 := hb5.below b7
    have B7 := below_join B5 b7
    clear hg5 hu5 hv5 ht5 hb5 B5 b6 b7
    go_wp2_with fail
    refine (same_p l l one u _ ht7 hu7 (by omega) rfl).mono ?_
    rintro e w8 ⟨rfl, b8⟩
    have hg8 := hg7.below b8
    have hb8 := hb7.below b8
    have ha8 := hall7.below b8
    have B8 := below_join B7 b8
    clear hg7 hu7 ht7 hb7 hall7 B7 b8
    go_wp2_with fail
    refine (same_p (l ++ m) (l ++ m) both v' _ hb8 ha8 (by simp; omega) rfl).mono ?_
    rintro e w9 ⟨rfl, b9⟩
    have hg9 := hg8.below b9
    have ha9 := ha8.below b9
    have B9 := below_join B8 b9
    clear hg8 hb8 ha8 B8 b9
    go_wp2_with fail
    refine (pieces_p (l ++ m) v' _ hg9 ha9 (by rw [wt_append]; omega)).mono ?_
    rintro e w10 ⟨rfl, b10⟩
    have hg10 := hg9.below b10
    have B10 := below_join B9 b10
    clear hg9 ha9 B9 b10
    have hpe : ((piecesB (l ++ m)).toList == (piecesB l ++ piecesB m).toList) = true := by rw [piecesB_append]; simp
    go_wp2_with fail
    refine (cut_p s _ (by omega)).mono ?_
    rintro e w11 ⟨⟨l', u', h1, h2, rfl, h3⟩ | ⟨l', r, h1, h2, h3, h4, rfl⟩, b11⟩
    · have hg11 := hg10.below b11
      have B11 := below_join B10 b11
      have ht11 := TextsAt.own h3
      have hw := laid_ge l'
      have hls := congrArg List.length h1
      rw [un_length] at hls
      have hw2 : wt l' ≤ 1099511 := by have e : uns l' = l'.map un := rfl; rw [e] at hw; omega
      have hsp : piecesB l' = s := un_inj (by unfold piecesB; rw [un_bs]; exact h1.symm)
      have hcl := fun W hg ht => pieces_p l' u' W hg ht hw2
      rw [hsp] at hcl
      have hss : (s.toList == s.toList) = true := by simp
      clear h1 h2 h3 hls hw hsp
      go_wp2_with fail
      refine (hcl _ hg11 ht11).mono ?_
      rintro e w12 ⟨rfl, b12⟩
      go_wp2
      go_ret
      exact ⟨rfl, below_join B11 b12⟩
    · clear h1 h2 h3 h4
      go_wp2
      go_ret
      exact ⟨rfl, below_join B10 b11⟩
end Go.Proofs.YtednkmdcejmaoaaDoor
