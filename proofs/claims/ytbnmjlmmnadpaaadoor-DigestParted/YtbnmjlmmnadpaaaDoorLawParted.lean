/- DigestParted: the statement walked. -/
import Derived.Test.YtbnmjlmmnadpaaaDoorWorks3
import Derived.Test.YtbnmjlmmnadpaaaDoorDigEq
import Derived.Test.YtbnmjlmmnadpaaaDoorFew
namespace Go.Proofs.YtbnmjlmmnadpaaaDoor
open Go Go.RowKit

/-- The texts one behind the other. -/
def catL (l : List ByteArray) : List UInt8 := l.flatMap un
theorem catL_take_succ (l : List ByteArray) (k : Nat) (x : ByteArray) (h : l[k]? = some x) : catL (l.take (k + 1)) = catL (l.take k) ++ un x := by
  obtain ⟨hk, he⟩ := List.getElem?_eq_some_iff.1 h
  rw [List.take_succ_eq_append_getElem hk, he]
  simp [catL]
theorem catL_length (l : List ByteArray) : (catL l).length = tot l := by
  unfold catL tot
  induction l with
  | nil => simp
  | cons x l ih => simp only [List.flatMap_cons, List.length_append, List.map_cons, List.sum_cons, un_length]; omega
theorem eq_self (m : List UInt8) (hm : m.length = 32) (w : World) : (Op.equalIn 10000 23 (.agg (dig32 m)) (.agg (dig32 m))).run Tryd.prog w = .ok true w := by
  have h := eq_dig m m hm hm w
  have e : (m == m) = true := by simp
  rwa [e] at h

set_option maxRecDepth 100000 in
set_option maxHeartbeats 4000000 in
theorem parted_law (n : Int) (l : List ByteArray) (u : Value) (w : World) (hk : KTab w) (hp : Pow10 w) (hu : TextsAt w u l) (hll : l.length ≤ 140737488351232) (hxs : ∀ x ∈ l, x.size ≤ 140737488351232) : Calls Tryd.prog 7 #[.int .i64 n, u] w fun e w' => e = .returned (.bool true) ∧ Below w.heap.size w w' := by
  have hg := var_lt l_k hk
  go_enter Tryd.func7, Tryd.ntmps7
  go_wp2_with fail
  refine (few_q l u w hu hll hxs).mono ?_
  clear hxs
  rintro e w0 ⟨rfl | ⟨rfl, hz⟩, hw0⟩
  · replace hw0 : w = w0 := hw0.symm
    subst hw0
    go_wp2
    go_ret
    exact ⟨rfl, Below.refl _ _⟩
  replace hw0 : w = w0 := hw0.symm
  subst hw0
  go_wp2_with fail
  refine (new_p n w).mono ?_
  rintro e w1 ⟨rfl, hw1⟩
  have hH1 := hash_new n w
  have B1 : Below w.heap.size w w1 := by rw [hw1]; exact (Below.refl _ w).alloc (Nat.le_refl _) _
  have s1 : w1.heap.size = w.heap.size + 1 := by rw [hw1, World.size_alloc]
  rw [← hw1] at hH1
  clear hw1
  go_wp2_with fail
  refine (new_p n w1).mono ?_
  rintro e w2 ⟨rfl, hw2⟩
  have hK2 := hash_new n w1
  have b2 : Below w1.heap.size w1 w2 := by rw [hw2]; exact (Below.refl _ w1).alloc (Nat.le_refl _) _
  rw [← hw2] at hK2
  have hH2 := hH1.below b2
  have B2 := below_join B1 b2
  rw [s1] at hK2
  clear hw2 hH1 B1 b2
  rw [s1]
  clear s1
  have hu2 := hu.below B2
  generalize hwd : widthN n = wd at *
  have hwd2 : wd ≤ 32 := by rw [← hwd]; exact widthN_le n
  obtain ⟨a, c, rfl, _, hc⟩ := hu
  have HC : Hid _ := hc
  clear hc
  go_wp2_with fail
  go_loopw [7, 8] (fun sv nv wr => ∃ (k : Nat) (s : ByteArray), k ≤ l.length ∧ nv = .int .i64 k ∧ sv = .string s ∧ un s = catL (l.take k) ∧ HashIs wr w.heap.size wd (un s) ∧ HashIs wr (w.heap.size + 1) wd (un s) ∧ Below w.heap.size w wr) (fun _ nv _ => l.length - (intOf nv).toNat)
  case atStart => exact ⟨0, ⟨#[]⟩, by omega, rfl, rfl, rfl, hH2, hK2, B2⟩
  case round =>
    obtain ⟨k, s, hkl, rfl, rfl, hs, hH, hK, hB⟩ := hrel
    have hsz : s.size ≤ 1048576 := by
      have h1 := catL_length (l.take k)
      rw [← hs, un_length] at h1
      have h2 := tot_take_le l k
      omega
    have hKT : KTab wr := var?_below hB l_k hg hk
    by_cases hlt : k < l.length
    · obtain ⟨x, hx⟩ : ∃ x, l[k]? = some x := ⟨_, List.getElem?_eq_getElem hlt⟩
      obtain ⟨b, o, rfl, hcell⟩ := HC.out k x hx
      have hbl := World.block_lt_of_cell? w _ hcell
      have hcell0 := hcell
      replace hcell := (hB.cell (p := ⟨b, o + k, none⟩) hbl).trans hcell
      have hxz : x.size ≤ 1048576 := by
        have := size_tot (l := l) (List.mem_of_getElem? hx); omega
      have H3 : Hid (un (s ++ x) = catL (l.take (k + 1))) := by unfold Hid; rw [un_append, catL_take_succ l k x hx, hs]
      have d1 : (0 : Int) ≤ (k : Int) := by omega
      have d2 : (k : Int) < (l.length : Int) := by omega
      have hbw : w.heap.size ≤ wr.heap.size := hB.size
      go_wp2_with fail
      refine (write_p x wd (un s) w.heap.size wr hH hKT (by omega) (by rw [un_length]; omega)).mono ?_
      rintro e w4 ⟨rfl, hH4, hT4⟩
      have B4 : Below w.heap.size w w4 := hB.grown hT4 hB.size (fun j hj => by have := Option.some.inj hj; omega)
      have hK4 := hK.turned hT4 (by omega)
      have hcell4 := (B4.cell (p := ⟨b, o + k, none⟩) hbl).trans hcell0
      have hKT4 : KTab w4 := var?_below B4 l_k hg hk
      clear hT4 hH hK hB hKT hcell hbw
      go_wp2_with fail
      refine (write_p x wd (un s) (w.heap.size + 1) w4 hK4 hKT4 (by omega) (by rw [un_length]; omega)).mono ?_
      rintro e w5 ⟨rfl, hK5, hT5⟩
      have B5 : Below w.heap.size w w5 := B4.grown hT5 B4.size (fun j hj => by have := Option.some.inj hj; omega)
      have hH5 := hH4.turned hT5 (by omega)
      have hKT5 : KTab w5 := var?_below B5 l_k hg hk
      clear hT5 hH4 hK4 B4 hKT4 hcell4
      rw [← un_append] at hH5 hK5
      go_wp2_with fail
      refine (hsum_p wd hwd2 _ (by rw [un_length, ByteArray.size_append]; omega) (w.heap.size + 1) w5 hK5 hKT5).mono ?_
      rintro e w6 ⟨rfl, b6⟩
      have hH6 := hH5.below b6
      have hK6 := hK5.below b6
      have B6 := below_join B5 b6
      clear b6 hH5 hK5 B5 hKT5
      go_wp2
      go_roundw
      case rel => exact ⟨k + 1, s ++ x, by omega, by go_num, rfl, H3.out, hH6, hK6, B6⟩
      case measure => simp [intOf]; omega
    · obtain rfl : k = l.length := by omega
      clear hs
      have hbw : w.heap.size ≤ wr.heap.size := hB.size
      have u0 : un (⟨#[]⟩ : ByteArray) = [] := rfl
      have hss : (s ++ s).size ≤ 2097152 := by rw [ByteArray.size_append]; omega
      have heq := fun W => eq_self (sumB wd (un s)) (sumB_length wd _ hwd2) W
      have heq2 := fun W => eq_self (sumB wd (un (s ++ s))) (sumB_length wd _ hwd2) W
      go_wp2_with fail
      refine (write_p s wd (un s) (w.heap.size + 1) wr hK hKT (by omega) (by rw [un_length]; omega)).mono ?_
      rintro e w4 ⟨rfl, hK4, hT4⟩
      have B4 : Below w.heap.size w w4 := hB.grown hT4 hB.size (fun j hj => by have := Option.some.inj hj; omega)
      have hH4 := hH.turned hT4 (by omega)
      have hKT4 : KTab w4 := var?_below B4 l_k hg hk
      clear hT4 hH hK hB hKT hbw
      rw [← un_append] at hK4
      go_wp2_with fail
      refine (write_p ⟨#[]⟩ wd (un (s ++ s)) (w.heap.size + 1) w4 hK4 hKT4 (by omega) (by rw [un_length]; show _ + 0 ≤ _; omega)).mono ?_
      rintro e w5 ⟨rfl, hK5, hT5⟩
      have B5 : Below w.heap.size w w5 := B4.grown hT5 B4.size (fun j hj => by have := Option.some.inj hj; omega)
      have hH5 := hH4.turned hT5 (by omega)
      have hKT5 : KTab w5 := var?_below B5 l_k hg hk
      clear hT5 hH4 hK4 B4 hKT4
      rw [u0, List.append_nil] at hK5
      go_wp2_with fail
      refine (hsum_p wd hwd2 _ (by rw [un_length]; omega) w.heap.size w5 hH5 hKT5).mono ?_
      rintro e w6 ⟨rfl, b6⟩
      have hK6 := hK5.below b6
      have B6 := below_join B5 b6
      have hKT6 : KTab w6 := var?_below B6 l_k hg hk
      clear b6 hH5 hK5 B5 hKT5
      have hs7 := sum_p n s w6 hKT6 (by omega)
      rw [hwd] at hs7
      go_wp2_with fail
      refine hs7.mono ?_
      rintro e w7 ⟨rfl, b7⟩
      have hK7 := hK6.below b7
      have B7 := below_join B6 b7
      have hKT7 : KTab w7 := var?_below B7 l_k hg hk
      clear b7 hK6 B6 hKT6 hs7
      go_wp2_with fail
      refine (hsum_p wd hwd2 _ (by rw [un_length]; omega) (w.heap.size + 1) w7 hK7 hKT7).mono ?_
      rintro e w8 ⟨rfl, b8⟩
      have B8 := below_join B7 b8
      have hKT8 : KTab w8 := var?_below B8 l_k hg hk
      clear b8 hK7 B7 hKT7
      have hs9 := sum_p n (s ++ s) w8 hKT8 (by omega)
      rw [hwd] at hs9
      go_wp2_with fail
      refine hs9.mono ?_
      rintro e w9 ⟨rfl, b9⟩
      have B9 := below_join B8 b9
      have hKT9 : KTab w9 := var?_below B9 l_k hg hk
      have hp9 := hp.below B9
      clear b9 B8 hKT8 hs9
      go_wp2_with fail
      refine (works_p w9 hKT9 hp9).mono ?_
      rintro e w10 ⟨rfl, b10⟩
      have B10 := below_join B9 b10
      go_wp2
      go_ret
      exact ⟨rfl, B10⟩
end Go.Proofs.YtbnmjlmmnadpaaaDoor
