/- DigestPlaces: the statement walked. -/
import Derived.Test.YtodgcmhkojkpcaaGreatDoorAsF
import Derived.Deep.RegionWith
import Derived.Test.YtodgcmhkojkpcaaGreatDoorWorks3
import Derived.Test.YtodgcmhkojkpcaaGreatDoorLayQ

namespace Go.Proofs.YtodgcmhkojkpcaaGreatDoor
open Go.RowKit Go.Extern.Stop Go.Stop Go.Extern

theorem asWF_lies (g : Nat) (no line at' : Int) (old : Array Value) (w : World) (h : Lies w g 90 old) : Lies (asWF g no line at' w) g 90 (fltC no line at') := ((((h.alloc _).alloc _).alloc _).alloc _).row _
theorem asWF_below (g B : Nat) (no line at' : Int) (w w0 : World) (hb : Below B w0 w) (hB : B ≤ g) (hB2 : B ≤ w.heap.size) : Below B w0 (asWF g no line at' w) :=
  below_setRow ((((hb.alloc hB2 _).alloc (by simp; omega) _).alloc (by simp; omega) _).alloc (by simp; omega) _) hB _
set_option maxRecDepth 100000 in
set_option maxHeartbeats 2000000 in
theorem place_p (no line at' : Int) (h1 : 1 ≤ no) (h2 : no ≤ 32) (w : World) (he : ErrType w) : Calls Tryz.prog 41 #[fltV no line at'] w fun e w' => e = .returned (.tuple #[.int .i64 line, .int .i64 at', .bool true]) ∧ Below w.heap.size w w' := by
  have B0 : Below w.heap.size w (w.alloc (.cells (fltC 0 0 0) 90)) := (Below.refl _ w).alloc (Nat.le_refl _) _
  have L0 : Lies (w.alloc (.cells (fltC 0 0 0) 90)) w.heap.size 90 (fltC 0 0 0) := Lies.new _ _ _
  have hE := he.below B0
  have L1 := asWF_lies w.heap.size no line at' _ _ L0
  have B1 := asWF_below w.heap.size w.heap.size no line at' _ _ B0 (Nat.le_refl _) (by simp)
  have hA := as_hitF no line at' w.heap.size (fltC 0 0 0) (w.alloc (.cells (fltC 0 0 0) 90)) hE L0 rfl
  have hnn : (no == no) = true := by simp
  go_enter Tryz.func41, Tryz.ntmps41
  go_wp2_with fail
  refine hA.mono ?_
  rintro e w1 ⟨rfl, hw1⟩
  rw [← hw1] at L1 B1
  clear hw1 hA L0 B0 hE
  have c0 : w1.cell? ⟨w.heap.size, 0, none⟩ = some (.int .i64 no) := L1.cell rfl
  have c1 : w1.cell? ⟨w.heap.size, 1, none⟩ = some (.int .i64 line) := L1.cell rfl
  have c2 : w1.cell? ⟨w.heap.size, 2, none⟩ = some (.int .i64 at') := L1.cell rfl
  have hlt := L1.lt
  have hN := num_fault no line at' h1 h2 w1.drew
  have BD : Below w.heap.size w w1.drew := below_drawn B1 1
  have HF : Hid (∀ w2, Below w1.drew.heap.size w1.drew w2 → w2.cell? ⟨w.heap.size, 0, none⟩ = some (.int .i64 no) ∧ w2.cell? ⟨w.heap.size, 1, none⟩ = some (.int .i64 line) ∧ w2.cell? ⟨w.heap.size, 2, none⟩ = some (.int .i64 at') ∧ Below w.heap.size w w2) := by
    intro w2 b2
    have L2 := (L1.drew 1).below b2
    exact ⟨L2.cell rfl, L2.cell rfl, L2.cell rfl, below_join BD b2⟩
  clear L1 B1 BD
  go_wp2
  go_region_with (first | (go_at_call 59; refine hN.mono ?_; rintro e w2 ⟨rfl, b2⟩; obtain ⟨k0, k1, k2, k3⟩ := HF.out w2 b2))
  all_goals go_wp2
  all_goals go_ret3
  all_goals exact ⟨rfl, k3⟩

set_option maxRecDepth 100000 in
set_option maxHeartbeats 2000000 in
theorem at_p (no line at' : Int) (h1 : 1 ≤ no) (h2 : no ≤ 32) (w : World) (he : ErrType w) : Calls Tryz.prog 38 #[fltV no line at', .int .i64 no, .int .i64 line, .int .i64 at'] w fun e w' => e = .returned (.bool true) ∧ Below w.heap.size w w' := by
  have e1 : (no == no) = true := by simp
  have e2 : (line == line) = true := by simp
  have e3 : (at' == at') = true := by simp
  have e0 : ¬ no = 0 := by omega
  go_enter Tryz.func38, Tryz.ntmps38
  go_wp2_with fail
  refine (place_p no line at' h1 h2 w he).mono ?_
  rintro e w1 ⟨rfl, B1⟩
  go_wp2_with fail
  refine (num_fault no line at' h1 h2 w1).mono ?_
  rintro e w2 ⟨rfl, b2⟩
  have B2 := below_join B1 b2
  go_wp2
  go_ret
  exact ⟨rfl, B2⟩
end Go.Proofs.YtodgcmhkojkpcaaGreatDoor

namespace Go.Proofs.YtodgcmhkojkpcaaGreatDoor
open Go Go.RowKit

theorem piece_nil : pieceL [] = none := by decide
theorem laid_len : ∀ (a b : List (List UInt8)) (r r' : List UInt8), (∀ t ∈ a, t.length < 10000000000) → (∀ t ∈ b, t.length < 10000000000) → pieceL r = none → laidL a ++ r = laidL b ++ r' → b.length ≤ a.length
  | _, [], _, _, _, _, _, _ => by simp
  | [], t :: b, r, r', _, hb, hr, h => by
    exfalso
    have e : r = pieceOf t ++ (laidL b ++ r') := by rw [← List.append_assoc, ← laidL_cons, ← h]; rfl
    rw [e, pieceL_of t _ (hb t (by simp))] at hr
    cases hr
  | s :: a, t :: b, r, r', ha, hb, hr, h => by
    rw [laidL_cons, laidL_cons, List.append_assoc, List.append_assoc] at h
    have h2 := congrArg pieceL h
    rw [pieceL_of s _ (ha s (by simp)), pieceL_of t _ (hb t (by simp))] at h2
    have h3 := (Prod.mk.inj (Option.some.inj h2)).2
    have := laid_len a b r r' (fun x hx => ha x (by simp [hx])) (fun x hx => hb x (by simp [hx])) hr h3
    simp; omega
theorem laid_rest : ∀ (a b : List (List UInt8)) (r r' : List UInt8), (∀ t ∈ a, t.length < 10000000000) → (∀ t ∈ b, t.length < 10000000000) → pieceL r = none → pieceL r' = none → laidL a ++ r = laidL b ++ r' → r = r'
  | [], [], _, _, _, _, _, _, h => by simpa [laidL] using h
  | s :: a, [], r, r', ha, _, _, hr', h => by
    exfalso
    have e : r' = pieceOf s ++ (laidL a ++ r) := by rw [← List.append_assoc, ← laidL_cons, h]; rfl
    rw [e, pieceL_of s _ (ha s (by simp))] at hr'
    cases hr'
  | [], t :: b, r, r', _, hb, hr, _, h => by
    exfalso
    have e : r = pieceOf t ++ (laidL b ++ r') := by rw [← List.append_assoc, ← laidL_cons, ← h]; rfl
    rw [e, pieceL_of t _ (hb t (by simp))] at hr
    cases hr
  | s :: a, t :: b, r, r', ha, hb, hr, hr', h => by
    rw [laidL_cons, laidL_cons, List.append_assoc, List.append_assoc] at h
    have h2 := congrArg pieceL h
    rw [pieceL_of s _ (ha s (by simp)), pieceL_of t _ (hb t (by simp))] at h2
    have h3 := (Prod.mk.inj (Option.some.inj h2)).2
    exact laid_rest a b r r' (fun x hx => ha x (by simp [hx])) (fun x hx => hb x (by simp [hx])) hr hr' h3

/-- Cut of what is ahead of the fault: no error. -/
theorem cut_ahead (l0 : List ByteArray) (s : ByteArray) (w : World) (hz : s.size ≤ 1099511627776) (hs : un s = laidL (l0.map un)) (h0 : ∀ t ∈ l0.map un, t.length < 10000000000) :
    Calls Tryz.prog 29 #[.string s] w fun e w' => ∃ u, e = .returned (.tuple #[u, .nilIface]) ∧ Below w.heap.size w w' := by
  refine (cut_p s w hz).mono ?_
  rintro e w' ⟨⟨l, u, h1, h2, rfl, h3⟩ | ⟨l, r, h1, h2, h3, h4, _⟩, hB⟩
  · exact ⟨u, rfl, hB⟩
  · exfalso
    apply h2
    refine (laid_rest (l0.map un) (l.map un) [] r h0 h4 piece_nil h3 ?_).symm
    rw [List.append_nil, ← hs, h1]
/-- Cut of laid pieces and a fault behind them: the fault, at its place. -/
theorem cut_fault (l : List ByteArray) (r : List UInt8) (s : ByteArray) (w : World) (hL : l.length ≤ 8796093021952) (hx : ∀ x ∈ l, x.size ≤ 1048576) (hz : s.size ≤ 140737488355328) (hs : un s = laidL (uns l) ++ r) (hr : r ≠ []) (hn : pieceL r = none) :
    Calls Tryz.prog 29 #[.string s] w fun e w' => e = .returned (.tuple #[.slice none 0 0, fltV 4 0 ((laidL (uns l)).length : Nat)]) ∧ Below w.heap.size w w' := by
  have h0 : ∀ t ∈ uns l, t.length < 10000000000 := by
    intro t ht
    obtain ⟨x, hx1, rfl⟩ := List.mem_map.1 ht
    have := hx x hx1
    rw [un_length]; omega
  refine (cut_q s w hz (fun l' r' h h' => ?_)).mono ?_
  · have := laid_len (uns l) (l'.map un) r r' h0 h' hn (by rw [← hs, h])
    rw [List.length_map] at this
    have e : (uns l).length = l.length := by simp [uns]
    omega
  · rintro e w' ⟨⟨l', u, h1, h2, rfl, h3⟩ | ⟨l', r', h1, h2, h3, h4, h5⟩, hB⟩
    · exfalso
      exact hr (laid_rest (uns l) (l'.map un) r [] h0 h2 hn piece_nil (by rw [List.append_nil, ← hs, h1]))
    · have e := laid_rest (uns l) (l'.map un) r r' h0 h4 hn h3 (by rw [← hs, h1])
      subst e
      have hlen := congrArg List.length hs
      rw [List.length_append, un_length] at hlen
      refine ⟨?_, hB⟩
      rw [h5, show s.size - r.length = (laidL (uns l)).length by omega]

set_option maxRecDepth 100000 in
set_option maxHeartbeats 4000000 in
theorem places_law (s : ByteArray) (l : List ByteArray) (v : Value) (w : World) (hk : KTab w) (hp : Pow10 w) (hE : ErrType w) (h : TextsAt w v l) (hsz : s.size ≤ 140737488351232) (hll : l.length ≤ 8796093021952) (hxs : ∀ x ∈ l, x.size ≤ 140737488351232) : Calls Tryz.prog 19 #[.string s, v] w fun e w' => e = .returned (.bool true) ∧ Below w.heap.size w w' := by
  have hg := var_lt l_k hk
  go_enter Tryz.func19, Tryz.ntmps19
  go_wp2_with fail
  refine (few_q l v w h (by omega) hxs).mono ?_
  clear hxs
  rintro e w0 ⟨rfl | ⟨rfl, hT⟩, hw0⟩
  · replace hw0 : w = w0 := hw0.symm
    subst hw0
    go_wp2
    go_ret
    exact ⟨rfl, Below.refl _ _⟩
  replace hw0 : w = w0 := hw0.symm
  subst hw0
  by_cases hbig : 1048576 < s.size
  · have d0 : (1048576 : Int) < (s.size : Int) := by omega
    go_wp2
    go_ret
    exact ⟨rfl, Below.refl _ _⟩
  have d0 : ¬ (1048576 : Int) < (s.size : Int) := by omega
  go_wp2_with fail
  refine (cut_p s w (by omega)).mono ?_
  rintro e w1 ⟨⟨l0, u, h1, h2, rfl, h3⟩ | ⟨l0, r, h1, h2, h3, h4, rfl⟩, B1⟩
  · clear h1 h2 h3
    go_wp2_with fail
    refine (works_p _ (var?_below B1 l_k hg hk) (hp.below B1)).mono ?_
    rintro e w2 ⟨rfl, b2⟩
    have B2 := below_join B1 b2
    go_wp2
    go_ret
    exact ⟨rfl, B2⟩
  have hlen := congrArg List.length h1
  rw [List.length_append, un_length] at hlen
  have hrp := List.length_pos_iff.2 h2
  obtain ⟨p, hpd⟩ : ∃ p, p = s.size - r.length := ⟨_, rfl⟩
  rw [← hpd]
  have hps : p < s.size := by omega
  have HA : Hid (un (s.extract 0 p) = laidL (l0.map un)) := by
    unfold Hid
    rw [un_extract, List.drop_zero, h1, List.take_append_of_le_length (by omega), List.take_of_length_le (by omega)]
  have HZ : Hid (un (s.extract p s.size) = r) := by
    unfold Hid
    rw [un_extract, List.take_of_length_le (by rw [un_length]; omega), h1, List.drop_append, List.drop_of_length_le (by omega), List.nil_append, show p - (laidL (l0.map un)).length = 0 by omega, List.drop_zero]
  have HR : Hid (r ≠ [] ∧ pieceL r = none ∧ ∀ t ∈ l0.map un, t.length < 10000000000) := ⟨h2, h3, h4⟩
  clear h1 h2 h3 h4 hlen hpd hrp
  have d1 : (0 : Int) ≤ (p : Int) := by omega
  have d2 : (p : Int) < (s.size : Int) := by omega
  have d3 : (p : Int) ≤ (s.size : Int) := by omega
  go_wp2_with fail
  refine (place_p 4 0 p (by omega) (by omega) w1 (hE.below B1)).mono ?_
  rintro e w2 ⟨rfl, b2⟩
  have B2 := below_join B1 b2
  clear b2 B1
  go_wp2_with fail
  refine (cut_ahead l0 (s.extract 0 p) w2 (by rw [size_extract' s 0 p (by omega)]; omega) HA.out HR.out.2.2).mono ?_
  rintro e w3 ⟨u3, rfl, b3⟩
  have B3 := below_join B2 b3
  have h3 := h.below B3
  have p3 := hp.below B3
  clear b3 B2
  go_wp2_with fail
  refine (pieces_q l v w3 p3 h3 hll hT).mono ?_
  rintro e w4 ⟨rfl, b4⟩
  have B4 := below_join B3 b4
  clear b4 B3 h3 p3
  have hes : (laidL (uns l)).length = (piecesB l).size := by unfold piecesB; rw [size_bs]
  have hbd := laid_bound l l.length (Nat.le_refl _) hll hT
  rw [List.take_length, hes] at hbd
  have hez : (s.extract p s.size).size ≤ 1048576 := by rw [size_extract' s p s.size (Nat.le_refl _)]; omega
  have hcf := fun W => cut_fault l r (piecesB l ++ s.extract p s.size) W hll (fun x hx => by have := size_tot hx; omega) (by rw [ByteArray.size_append]; omega) (by rw [un_append, HZ.out]; unfold piecesB; rw [un_bs]) HR.out.1 HR.out.2.1
  rw [hes] at hcf
  clear hes
  generalize piecesB l = a at *
  go_wp2_with fail
  refine (hcf w4).mono ?_
  rintro e w5 ⟨rfl, b5⟩
  have B5 := below_join B4 b5
  clear b5 B4 hcf
  go_wp2_with fail
  refine (at_p 4 0 a.size (by omega) (by omega) w5 (hE.below B5)).mono ?_
  rintro e w6 ⟨rfl, b6⟩
  have B6 := below_join B5 b6
  go_wp2
  go_ret
  exact ⟨rfl, B6⟩
end Go.Proofs.YtodgcmhkojkpcaaGreatDoor
