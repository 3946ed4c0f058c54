/- DigestCuts: the statement walked. -/
import Derived.Test.YtodgcmhkojkpcaaGreatDoorRefCut
import Derived.Test.YtodgcmhkojkpcaaGreatDoorApart2
import Derived.Test.YtodgcmhkojkpcaaGreatDoorSame
import Derived.Test.YtodgcmhkojkpcaaGreatDoorLawPlaces
namespace Go.Proofs.YtodgcmhkojkpcaaGreatDoor
open Go Go.RowKit

theorem uns_inj : ∀ (a b : List ByteArray), a.map un = b.map un → a = b
  | [], [], _ => rfl
  | [], _ :: _, h => by simp at h
  | _ :: _, [], h => by simp at h
  | x :: a, y :: b, h => by
    rw [List.map_cons, List.map_cons] at h
    have h1 := List.cons.inj h
    rw [un_inj h1.1, uns_inj a b h1.2]
/-- Cut of laid pieces: the pieces. -/
theorem cut_ok (l : List ByteArray) (s : ByteArray) (w : World) (hz : s.size ≤ 1099511627776) (hs : un s = laidL (l.map un)) (h0 : ∀ t ∈ l.map un, t.length < 10000000000) :
    Calls Tryz.prog 29 #[.string s] w fun e w' => ∃ u, e = .returned (.tuple #[u, .nilIface]) ∧ w'.ownsRow w.heap.size 9 1 u l.length (strs l) ∧ Below w.heap.size w w' := by
  refine (cut_p s w hz).mono ?_
  rintro e w' ⟨⟨l1, u, h1, h2, rfl, h3⟩ | ⟨l1, r, h1, h2, h3, h4, _⟩, hB⟩
  · have e1 : l = l1 := uns_inj _ _ ((laid_split (l.map un) (l1.map un) [] h0 h2 (by rw [← hs, h1, List.append_nil])).1 rfl)
    subst e1
    exact ⟨u, rfl, h3, hB⟩
  · exfalso
    apply h2
    refine (laid_rest (l.map un) (l1.map un) [] r h0 h4 piece_nil h3 ?_).symm
    rw [List.append_nil, ← hs, h1]
/-- Cut of pieces and what is none. -/
theorem cut_bad (l : List ByteArray) (r : List UInt8) (s : ByteArray) (w : World) (hz : s.size ≤ 1099511627776) (hs : un s = laidL (l.map un) ++ r) (hr : r ≠ []) (hp : pieceL r = none) (h0 : ∀ t ∈ l.map un, t.length < 10000000000) :
    Calls Tryz.prog 29 #[.string s] w fun e w' => e = .returned (.tuple #[.slice none 0 0, fltV 4 0 ((s.size - r.length : Nat) : Int)]) ∧ Below w.heap.size w w' := by
  refine (cut_p s w hz).mono ?_
  rintro e w' ⟨⟨l1, u, h1, h2, rfl, h3⟩ | ⟨l1, r1, h1, h2, h3, h4, h5⟩, hB⟩
  · exfalso
    exact hr (laid_rest (l.map un) (l1.map un) r [] h0 h2 hp piece_nil (by rw [List.append_nil, ← hs, h1]))
  · have e1 := laid_rest (l.map un) (l1.map un) r r1 h0 h4 hp h3 (by rw [← hs, h1])
    subst e1
    exact ⟨h5, hB⟩
theorem handed2 {g m : Nat} {u1 u2 : Value} (h1 : ∀ b, u1.ownBlock = some b → b < m) (h2 : ∀ b, u2.ownBlock = some b → m ≤ b ∧ b < g) (hm : m ≤ g) : Handed g [u1, u2] := by
  refine ⟨fun i j u v hi hj hne => ?_, fun i u hi e => ?_⟩
  · rcases i with _ | _ | i <;> rcases j with _ | _ | j <;> simp at hi hj hne
    · subst hi
      subst hj
      cases hb : u1.ownBlock with
      | none => exact .inl rfl
      | some b => exact .inr (fun e => by have := h1 b hb; have := (h2 b e.symm).1; omega)
    · subst hi
      subst hj
      cases hb : u2.ownBlock with
      | none => exact .inl rfl
      | some b => exact .inr (fun e => by have := h1 b e.symm; have := (h2 b hb).1; omega)
  · rcases i with _ | _ | i <;> simp at hi
    · subst hi; have := h1 g e; omega
    · subst hi; have := (h2 g e).2; omega
theorem rows2 {w : World} {B : Nat} {u1 u2 : Value} {l1 l2 : List ByteArray} (h1 : w.ownsRow B 9 1 u1 l1.length (strs l1)) (h2 : w.ownsRow B 9 1 u2 l2.length (strs l2)) :
    ∀ (j : Nat) (u : Value) (xs : List ByteArray), [u1, u2][j]? = some u → [l1, l2][j]? = some xs → w.ownsRow B 9 1 u xs.length (strs xs) := by
  intro j u xs hu hx
  rcases j with _ | _ | j <;> simp at hu hx
  · subst hu; subst hx; exact h1
  · subst hu; subst hx; exact h2
theorem at_nil (w : World) : Calls Tryz.prog 38 #[.nilIface, .int .i64 0, .int .i64 0, .int .i64 0] w fun e w' => e = .returned (.bool true) ∧ w' = w := by
  go_enter Tryz.func38, Tryz.ntmps38
  go_wp2
  go_ret
  exact ⟨rfl, rfl⟩

set_option maxRecDepth 100000 in
set_option maxHeartbeats 4000000 in
theorem cuts_law (s : ByteArray) (w : World) (hk : KTab w) (hp : Pow10 w) (hE : ErrType w) (hsz : s.size ≤ 1048576) : Calls Tryz.prog 18 #[.string s] w fun e w' => e = .returned (.bool true) ∧ Below w.heap.size w w' := by
  have hg := var_lt l_k hk
  go_enter Tryz.func18, Tryz.ntmps18
  go_wp2_with fail
  refine (cut_r s w (by omega)).mono ?_
  rintro e w1 ⟨⟨l, u0, hs, h0, rfl, o0⟩ | ⟨l, r, hs, hr, hpn, h0, rfl⟩, B1⟩
  · have hll : l.length ≤ 1048576 := by
      have h1 := laid_le l
      have h2 := congrArg List.length hs
      rw [un_length] at h2
      omega
    go_wp2_with fail
    refine (cut_ok l s w1 (by omega) hs h0).mono ?_
    rintro e w2 ⟨u1, rfl, o1, b2⟩
    have B2 := below_join B1 b2
    go_wp2_with fail
    refine (cut_ok l s w2 (by omega) hs h0).mono ?_
    rintro e w3 ⟨u2, rfl, o2, b3⟩
    have B3 := below_join B2 b3
    have O0 := own_below (own_below o0 b2) b3
    have O1 := own_below o1 b3
    have s1 := B1.size
    have s2 := b2.size
    have s3 := b3.size
    have HH : Hid (∀ G, w3.heap.size ≤ G → Handed G [u1, u2]) := fun G hG => handed2 (m := w2.heap.size) (fun b hb => (o1.lt b hb).2) (fun b hb => ⟨(o2.lt b hb).1, Nat.lt_of_lt_of_le (o2.lt b hb).2 hG⟩) (by omega)
    have P1 := own_base (B := w.heap.size) O1 (by omega)
    have P2 := own_base (B := w.heap.size) o2 (by omega)
    clear o0 o1 o2 b2 b3 B1 B2 hs h0
    go_wp2_with fail
    refine (at_nil w3).mono ?_
    rintro e w4 ⟨rfl, hw4⟩
    replace hw4 : w3 = w4 := hw4.symm
    subst hw4
    go_wp2_with fail
    refine (at_nil w3).mono ?_
    rintro e w4 ⟨rfl, hw4⟩
    replace hw4 : w3 = w4 := hw4.symm
    subst hw4
    go_wp2_with fail
    refine (same_p l l u1 u0 w3 (TextsAt.own O1) (TextsAt.own O0) (by omega) rfl).mono ?_
    rintro e w4 ⟨rfl, b4⟩
    have P14 := own_below P1 b4
    have P24 := own_below P2 b4
    have O04 := own_below O0 b4
    have B4 := below_join B3 b4
    go_wp2_with fail
    refine (same_p l l u2 u0 w4 (TextsAt.own P24) (TextsAt.own O04) (by omega) rfl).mono ?_
    rintro e w5 ⟨rfl, b5⟩
    have P15 := own_below P14 b5
    have P25 := own_below P24 b5
    have B5 := below_join B4 b5
    have s4 := b4.size
    have s5 := b5.size
    obtain ⟨a1, c1, hu1, _⟩ := own_shape P15
    obtain ⟨a2, c2, hu2, _⟩ := own_shape P25
    have hAP := fun c => apart_p w.heap.size w5.heap.size c [u1, u2] [l, l] (w5.alloc (.cells #[u1, u2] 29)) rfl (by simp) (by simp; omega) (Lies.new _ _ _) (HH.out _ (by omega)) (Rws.start (rows2 (P15.alloc _) (P25.alloc _))) (fun xs hxs => by simp at hxs; rw [hxs]; omega)
    rw [show [u1, u2].length = 2 from rfl] at hAP
    have BA := B5.alloc B5.size (.cells #[u1, u2] 29)
    clear P1 P2 P14 P24 P15 P25 O0 O1 O04 HH B3 B4 B5 b4 b5
    subst hu1
    subst hu2
    go_wp2_with fail
    refine (hAP _).mono ?_
    rintro e w6 ⟨rfl, b6⟩
    have B6 := BA.trans b6
    go_wp2_with fail
    refine (works_p _ (var?_below B6 l_k hg hk) (hp.below B6)).mono ?_
    rintro e w7 ⟨rfl, b7⟩
    have B7 := below_join B6 b7
    go_wp2
    go_ret
    exact ⟨rfl, B7⟩
  · obtain ⟨p, hpd⟩ : ∃ p, p = s.size - r.length := ⟨_, rfl⟩
    have hcb := fun W => cut_bad l r s W (by omega) hs hr hpn h0
    rw [← hpd] at hcb ⊢
    have hps : p ≤ s.size := by omega
    clear hs hr hpn h0 hpd
    go_wp2_with fail
    refine (hcb w1).mono ?_
    rintro e w2 ⟨rfl, b2⟩
    have B2 := below_join B1 b2
    go_wp2_with fail
    refine (hcb w2).mono ?_
    rintro e w3 ⟨rfl, b3⟩
    have B3 := below_join B2 b3
    clear b2 b3 B1 B2 hcb
    go_wp2_with fail
    refine (at_p 4 0 p (by omega) (by omega) w3 (hE.below B3)).mono ?_
    rintro e w4 ⟨rfl, b4⟩
    have B4 := below_join B3 b4
    go_wp2_with fail
    refine (at_p 4 0 p (by omega) (by omega) w4 (hE.below B4)).mono ?_
    rintro e w5 ⟨rfl, b5⟩
    have B5 := below_join B4 b5
    clear b4 b5 B3 B4
    go_wp2_with fail
    refine (same_p [] [] _ _ w5 (TextsAt.nil w5) (TextsAt.nil w5) (by simp) rfl).mono ?_
    rintro e w6 ⟨rfl, b6⟩
    have B6 := below_join B5 b6
    go_wp2_with fail
    refine (same_p [] [] _ _ w6 (TextsAt.nil w6) (TextsAt.nil w6) (by simp) rfl).mono ?_
    rintro e w7 ⟨rfl, b7⟩
    have B7 := below_join B6 b7
    clear b6 b7 B5 B6
    have s7 := B7.size
    have hAP := fun c => apart_p w.heap.size w7.heap.size c [.slice none 0 0, .slice none 0 0] [[], []] (w7.alloc (.cells #[.slice none 0 0, .slice none 0 0] 29)) rfl (by simp) (by simp; omega) (Lies.new _ _ _) (handed2 (m := w7.heap.size) (fun b hb => nomatch hb) (fun b hb => nomatch hb) (Nat.le_refl _)) (Rws.start (rows2 (World.ownsRow_nil _ _ _ _) (World.ownsRow_nil _ _ _ _))) (fun xs hxs => by simp at hxs; rw [hxs]; simp)
    rw [show [Value.slice none 0 0, Value.slice none 0 0].length = 2 from rfl] at hAP
    have BA := B7.alloc B7.size (.cells #[.slice none 0 0, .slice none 0 0] 29)
    clear B7
    go_wp2_with fail
    refine (hAP _).mono ?_
    rintro e w8 ⟨rfl, b8⟩
    have B8 := BA.trans b8
    go_wp2_with fail
    refine (works_p _ (var?_below B8 l_k hg hk) (hp.below B8)).mono ?_
    rintro e w9 ⟨rfl, b9⟩
    have B9 := below_join B8 b9
    go_wp2
    go_ret
    exact ⟨rfl, B9⟩
end Go.Proofs.YtodgcmhkojkpcaaGreatDoor
