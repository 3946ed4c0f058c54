/- GlobLast, walked: a rule that is put behind all goes ahead of all. -/
import Derived.Test.YtmgoknlpimfmnaaDoorLastM
namespace Go.Proofs.YtmgoknlpimfmnaaDoor
open Go Go.RowKit

theorem parse_ok {s : ByteArray} {rs : List Rule} (h : parseB s = .ok rs) (W : World) (hg : ErrType W) (hs : s.size ≤ 1099511627776) : Calls Tryd.prog 6 #[.string s] W fun e w' => e = .returned (.tuple #[.pointer (some ⟨W.heap.size, 0, none⟩), .nilIface]) ∧ ListIn w' W.heap.size rs ∧ Below W.heap.size W w' := by
  refine (parse_p s W hg hs).mono ?_
  intro e w' hp
  unfold ParsePost at hp
  rw [h] at hp
  exact ⟨hp.1.1, hp.1.2, hp.2⟩
theorem parse_err {s : ByteArray} {n : Int} (h : parseB s = .error n) (W : World) (hg : ErrType W) (hs : s.size ≤ 1099511627776) : Calls Tryd.prog 6 #[.string s] W fun e w' => (∃ x, e = .returned (.tuple #[.pointer none, .iface 43 x])) ∧ Below W.heap.size W w' := by
  refine (parse_p s W hg hs).mono ?_
  intro e w' hp
  unfold ParsePost at hp
  rw [h] at hp
  exact hp
theorem parse_any (s : ByteArray) (W : World) (hg : ErrType W) (hs : s.size ≤ 1099511627776) : Calls Tryd.prog 6 #[.string s] W fun e w' => (∃ x y, e = .returned (.tuple #[x, y])) ∧ Below W.heap.size W w' := by
  refine (parse_p s W hg hs).mono ?_
  intro e w' hp
  unfold ParsePost at hp
  cases h : parseB s with
  | ok rs => rw [h] at hp; exact ⟨⟨_, _, hp.1.1⟩, hp.2⟩
  | error n => rw [h] at hp; obtain ⟨⟨x, hx⟩, hb⟩ := hp; exact ⟨⟨_, _, hx⟩, hb⟩

set_option maxRecDepth 100000 in
set_option maxHeartbeats 16000000 in
theorem last_law (tx pt pp : ByteArray) (w : World) (hg : ErrType w) (_h1 : tx.size ≤ 140737488351232) (_h2 : pt.size ≤ 140737488351232) (_h3 : pp.size ≤ 140737488351232) :
    Calls Tryd.prog 3 #[.string tx, .string pt, .string pp] w fun e w' => e = .returned (.bool true) ∧ Below w.heap.size w w' := by
  have z1 := headB_size tx 20000
  have z2 := headB_size pt 1000
  have z3 := headB_size pp 1000
  have hh1 := fun W => head_p tx 20000 W (by decide) (by decide)
  have hh2 := fun W => head_p pt 1000 W (by decide) (by decide)
  have hh3 := fun W => head_p pp 1000 W (by decide) (by decide)
  obtain ⟨T, hT⟩ : ∃ a, headB tx 20000 = a := ⟨_, rfl⟩
  obtain ⟨P0, hP0⟩ : ∃ a, headB pt 1000 = a := ⟨_, rfl⟩
  obtain ⟨Q, hQ⟩ : ∃ a, headB pp 1000 = a := ⟨_, rfl⟩
  rw [hT] at z1 hh1
  rw [hP0] at z2 hh2
  rw [hQ] at z3 hh3
  clear hT hP0 hQ
  have hwo := fun W => without_p P0 W (by omega)
  have z4 := withoutB_size P0
  have hn := withoutB_none P0
  obtain ⟨P, hP⟩ : ∃ a, withoutB P0 = a := ⟨_, rfl⟩
  rw [hP] at z4 hn hwo
  clear hP
  have sA : (T ++ (⟨#[10]⟩ : ByteArray)).size = T.size + 1 := by rw [ByteArray.size_append]; rfl
  have sA2 : (T ++ (⟨#[10]⟩ : ByteArray) ++ P).size = T.size + 1 + P.size := by rw [ByteArray.size_append, sA]
  have sB : (T ++ (⟨#[10, 33]⟩ : ByteArray)).size = T.size + 2 := by rw [ByteArray.size_append]; rfl
  have sB2 : (T ++ (⟨#[10, 33]⟩ : ByteArray) ++ P).size = T.size + 2 + P.size := by rw [ByteArray.size_append, sB]
  have uA : un (T ++ (⟨#[10]⟩ : ByteArray) ++ P) = un T ++ 10 :: un P := by rw [un_append, un_append]; simp [un]
  have uB : un (T ++ (⟨#[10, 33]⟩ : ByteArray) ++ P) = un T ++ 10 :: (33 :: un P) := by rw [un_append, un_append]; simp [un]
  have eA := parse_more uA hn
  have eB := parse_more uB (by intro h; rcases List.mem_cons.1 h with h | h; exact absurd h (by decide); exact hn h)
  have eO := parse_one hn
  rw [bs_un] at eA
  clear uA uB hn
  obtain ⟨SA, hSA⟩ : ∃ a, T ++ (⟨#[10]⟩ : ByteArray) ++ P = a := ⟨_, rfl⟩
  obtain ⟨SB, hSB⟩ : ∃ a, T ++ (⟨#[10, 33]⟩ : ByteArray) ++ P = a := ⟨_, rfl⟩
  rw [hSA] at sA2 eA
  rw [hSB] at sB2 eB
  have zT : T.size ≤ 1099511627776 := by omega
  have zA : SA.size ≤ 1099511627776 := by omega
  have zB : SB.size ≤ 1099511627776 := by omega
  have zP : P.size ≤ 1099511627776 := by omega
  cases hL : parseB T with
  | error n =>
    clear eA eB eO
    go_enter Tryd.func3, Tryd.ntmps3
    go_wp2_with fail
    refine (hh1 _).mono ?_
    rintro e w ⟨rfl, rfl⟩
    go_wp2_with fail
    refine (hh2 _).mono ?_
    rintro e w ⟨rfl, rfl⟩
    go_wp2_with fail
    refine (hwo _).mono ?_
    rintro e w ⟨rfl, rfl⟩
    go_wp2_with fail
    refine (hh3 _).mono ?_
    rintro e w ⟨rfl, rfl⟩
    go_wp2_with fail
    refine (parse_err hL _ hg zT).mono ?_
    rintro e w1 ⟨⟨x1, rfl⟩, b1⟩
    have c1 : Below w.heap.size w w1 := b1
    go_wp2_with fail
    try simp only [hSA]
    refine (parse_any SA _ (hg.below c1) zA).mono ?_
    rintro e w2 ⟨⟨x2, y2, rfl⟩, b2⟩
    have c2 : Below w.heap.size w w2 := below_join2 c1 b2
    go_wp2_with fail
    try simp only [hSB]
    refine (parse_any SB _ (hg.below c2) zB).mono ?_
    rintro e w3 ⟨⟨x3, y3, rfl⟩, b3⟩
    have c3 : Below w.heap.size w w3 := below_join2 c2 b3
    go_wp2_with fail
    refine (parse_any P _ (hg.below c3) zP).mono ?_
    rintro e w4 ⟨⟨x4, y4, rfl⟩, b4⟩
    have c4 : Below w.heap.size w w4 := below_join2 c3 b4
    go_wp2_with fail
    refine (works2_p _ (hg.below c4)).mono ?_
    rintro e w9 ⟨rfl, b9⟩
    go_wp2_with fail
    go_ret
    exact ⟨rfl, below_join2 c4 b9⟩
  | ok rs =>
    rw [hL] at eA eB
    simp only [] at eA eB
    cases hA : addLine rs P with
    | error n =>
      rw [hA] at eA
      have hA2 : parseB SA = .error n := eA
      clear eA eB eO
      go_enter Tryd.func3, Tryd.ntmps3
      go_wp2_with fail
      refine (hh1 _).mono ?_
      rintro e w ⟨rfl, rfl⟩
      go_wp2_with fail
      refine (hh2 _).mono ?_
      rintro e w ⟨rfl, rfl⟩
      go_wp2_with fail
      refine (hwo _).mono ?_
      rintro e w ⟨rfl, rfl⟩
      go_wp2_with fail
      refine (hh3 _).mono ?_
      rintro e w ⟨rfl, rfl⟩
      go_wp2_with fail
      refine (parse_ok hL _ hg zT).mono ?_
      rintro e w1 ⟨rfl, l1, b1⟩
      have c1 : Below w.heap.size w w1 := b1
      go_wp2_with fail
      try simp only [hSA]
      refine (parse_err hA2 _ (hg.below c1) zA).mono ?_
      rintro e w2 ⟨⟨x2, rfl⟩, b2⟩
      have c2 : Below w.heap.size w w2 := below_join2 c1 b2
      go_wp2_with fail
      try simp only [hSB]
      refine (parse_any SB _ (hg.below c2) zB).mono ?_
      rintro e w3 ⟨⟨x3, y3, rfl⟩, b3⟩
      have c3 : Below w.heap.size w w3 := below_join2 c2 b3
      go_wp2_with fail
      refine (parse_any P _ (hg.below c3) zP).mono ?_
      rintro e w4 ⟨⟨x4, y4, rfl⟩, b4⟩
      have c4 : Below w.heap.size w w4 := below_join2 c3 b4
      go_wp2_with fail
      refine (works2_p _ (hg.below c4)).mono ?_
      rintro e w9 ⟨rfl, b9⟩
      go_wp2_with fail
      go_ret
      exact ⟨rfl, below_join2 c4 b9⟩
    | ok ra =>
      rw [hA] at eA
      have hA2 : parseB SA = .ok ra := eA
      cases hB : addLine rs (bs (33 :: un P)) with
      | error n =>
        rw [hB] at eB
        have hB2 : parseB SB = .error n := eB
        clear eA eB eO
        go_enter Tryd.func3, Tryd.ntmps3
        go_wp2_with fail
        refine (hh1 _).mono ?_
        rintro e w ⟨rfl, rfl⟩
        go_wp2_with fail
        refine (hh2 _).mono ?_
        rintro e w ⟨rfl, rfl⟩
        go_wp2_with fail
        refine (hwo _).mono ?_
        rintro e w ⟨rfl, rfl⟩
        go_wp2_with fail
        refine (hh3 _).mono ?_
        rintro e w ⟨rfl, rfl⟩
        go_wp2_with fail
        refine (parse_ok hL _ hg zT).mono ?_
        rintro e w1 ⟨rfl, l1, b1⟩
        have c1 : Below w.heap.size w w1 := b1
        go_wp2_with fail
        try simp only [hSA]
        refine (parse_ok hA2 _ (hg.below c1) zA).mono ?_
        rintro e w2 ⟨rfl, l2, b2⟩
        have c2 : Below w.heap.size w w2 := below_join2 c1 b2
        go_wp2_with fail
        try simp only [hSB]
        refine (parse_err hB2 _ (hg.below c2) zB).mono ?_
        rintro e w3 ⟨⟨x3, rfl⟩, b3⟩
        have c3 : Below w.heap.size w w3 := below_join2 c2 b3
        go_wp2_with fail
        refine (parse_any P _ (hg.below c3) zP).mono ?_
        rintro e w4 ⟨⟨x4, y4, rfl⟩, b4⟩
        have c4 : Below w.heap.size w w4 := below_join2 c3 b4
        go_wp2_with fail
        refine (works2_p _ (hg.below c4)).mono ?_
        rintro e w9 ⟨rfl, b9⟩
        go_wp2_with fail
        go_ret
        exact ⟨rfl, below_join2 c4 b9⟩
      | ok rb =>
        rw [hB] at eB
        have hB2 : parseB SB = .ok rb := eB
        cases hO : addLine [] P with
        | error n =>
          rw [hO] at eO
          have hO2 : parseB P = .error n := eO
          clear eA eB eO
          go_enter Tryd.func3, Tryd.ntmps3
          go_wp2_with fail
          refine (hh1 _).mono ?_
          rintro e w ⟨rfl, rfl⟩
          go_wp2_with fail
          refine (hh2 _).mono ?_
          rintro e w ⟨rfl, rfl⟩
          go_wp2_with fail
          refine (hwo _).mono ?_
          rintro e w ⟨rfl, rfl⟩
          go_wp2_with fail
          refine (hh3 _).mono ?_
          rintro e w ⟨rfl, rfl⟩
          go_wp2_with fail
          refine (parse_ok hL _ hg zT).mono ?_
          rintro e w1 ⟨rfl, l1, b1⟩
          have c1 : Below w.heap.size w w1 := b1
          go_wp2_with fail
          try simp only [hSA]
          refine (parse_ok hA2 _ (hg.below c1) zA).mono ?_
          rintro e w2 ⟨rfl, l2, b2⟩
          have c2 : Below w.heap.size w w2 := below_join2 c1 b2
          go_wp2_with fail
          try simp only [hSB]
          refine (parse_ok hB2 _ (hg.below c2) zB).mono ?_
          rintro e w3 ⟨rfl, l3, b3⟩
          have c3 : Below w.heap.size w w3 := below_join2 c2 b3
          go_wp2_with fail
          refine (parse_err hO2 _ (hg.below c3) zP).mono ?_
          rintro e w4 ⟨⟨x4, rfl⟩, b4⟩
          have c4 : Below w.heap.size w w4 := below_join2 c3 b4
          go_wp2_with fail
          refine (works2_p _ (hg.below c4)).mono ?_
          rintro e w9 ⟨rfl, b9⟩
          go_wp2_with fail
          go_ret
          exact ⟨rfl, below_join2 c4 b9⟩
        | ok r1 =>
          rw [hO] at eO
          have hO2 : parseB P = .ok r1 := eO
          clear eA eB eO
          have fL := fine_parse hL
          have fA := fine_parse hA2
          have fB := fine_parse hB2
          have fO := fine_parse hO2
          have hTr := fun W => trimmed_r P W zP
          have zs := trimB_size P
          have HoL : Hid (∀ W l, ListIn W l rs → Calls Tryd.prog 9 #[.pointer (some ⟨l, 0, none⟩), .string Q] W fun e w' => e = .returned (.bool (outB rs (namesB Q))) ∧ Below W.heap.size W w') := fun W l h => out_p l rs Q W h fL (by omega)
          have HoA : Hid (∀ W l, ListIn W l ra → Calls Tryd.prog 9 #[.pointer (some ⟨l, 0, none⟩), .string Q] W fun e w' => e = .returned (.bool (outB ra (namesB Q))) ∧ Below W.heap.size W w') := fun W l h => out_p l ra Q W h fA (by omega)
          have HoB : Hid (∀ W l, ListIn W l rb → Calls Tryd.prog 9 #[.pointer (some ⟨l, 0, none⟩), .string Q] W fun e w' => e = .returned (.bool (outB rb (namesB Q))) ∧ Below W.heap.size W w') := fun W l h => out_p l rb Q W h fB (by omega)
          have HoO : Hid (∀ W l, ListIn W l r1 → Calls Tryd.prog 9 #[.pointer (some ⟨l, 0, none⟩), .string Q] W fun e w' => e = .returned (.bool (outB r1 (namesB Q))) ∧ Below W.heap.size W w') := fun W l h => out_p l r1 Q W h fO (by omega)
          clear fL fA fB fO
          obtain ⟨X, hX⟩ : ∃ X, outB rs (namesB Q) = X := ⟨_, rfl⟩
          rw [hX] at HoL
          by_cases h0 : (trimB P).size = 0 ∨ (un (trimB P))[0]? = some 35
          · have hl0 := lineRule_none h0
            have era : rs = ra := by unfold addLine at hA; rw [hl0] at hA; cases hA; rfl
            subst era
            rw [hX] at HoA
            clear hl0 hA hB hO hX
            generalize trimB P = S at *
            rcases h0 with h0 | h0
            · obtain rfl : S = ⟨#[]⟩ := un_inj (List.length_eq_zero_iff.1 (by rw [un_length]; exact h0))
              clear h0 zs
              cases X
              · skip
                go_enter Tryd.func3, Tryd.ntmps3
                go_wp2_with fail
                refine (hh1 _).mono ?_
                rintro e w ⟨rfl, rfl⟩
                go_wp2_with fail
                refine (hh2 _).mono ?_
                rintro e w ⟨rfl, rfl⟩
                go_wp2_with fail
                refine (hwo _).mono ?_
                rintro e w ⟨rfl, rfl⟩
                go_wp2_with fail
                refine (hh3 _).mono ?_
                rintro e w ⟨rfl, rfl⟩
                go_wp2_with fail
                refine (parse_ok hL _ hg zT).mono ?_
                rintro e w1 ⟨rfl, l1, b1⟩
                have c1 : Below w.heap.size w w1 := b1
                go_wp2_with fail
                try simp only [hSA]
                refine (parse_ok hA2 _ (hg.below c1) zA).mono ?_
                rintro e w2 ⟨rfl, l2, b2⟩
                have c2 : Below w.heap.size w w2 := below_join2 c1 b2
                go_wp2_with fail
                try simp only [hSB]
                refine (parse_ok hB2 _ (hg.below c2) zB).mono ?_
                rintro e w3 ⟨rfl, l3, b3⟩
                have c3 : Below w.heap.size w w3 := below_join2 c2 b3
                go_wp2_with fail
                refine (parse_ok hO2 _ (hg.below c3) zP).mono ?_
                rintro e w4 ⟨rfl, l4, b4⟩
                have c4 : Below w.heap.size w w4 := below_join2 c3 b4
                have LL := ((l1.below b2).below b3).below b4
                have LA := (l2.below b3).below b4
                have LB := l3.below b4
                clear l1 l2 l3
                go_wp2_with fail
                refine (hTr _).mono ?_
                rintro e w5 ⟨rfl, b5⟩
                have c5 := below_join2 c4 b5
                go_wp2_with fail
                refine (HoA.out _ _ (LA.below b5)).mono ?_
                rintro e w6 ⟨rfl, b6⟩
                have c6 := below_join2 c5 b6
                go_wp2_with fail
                refine (HoL.out _ _ ((LL.below b5).below b6)).mono ?_
                rintro e w7 ⟨rfl, b7⟩
                have c7 := below_join2 c6 b7
                go_wp2_with fail
                refine (works2_p _ (hg.below c7)).mono ?_
                rintro e w19 ⟨rfl, b19⟩
                go_wp2_with fail
                go_ret
                exact ⟨rfl, below_join2 c7 b19⟩
              · skip
                go_enter Tryd.func3, Tryd.ntmps3
                go_wp2_with fail
                refine (hh1 _).mono ?_
                rintro e w ⟨rfl, rfl⟩
                go_wp2_with fail
                refine (hh2 _).mono ?_
                rintro e w ⟨rfl, rfl⟩
                go_wp2_with fail
                refine (hwo _).mono ?_
                rintro e w ⟨rfl, rfl⟩
                go_wp2_with fail
                refine (hh3 _).mono ?_
                rintro e w ⟨rfl, rfl⟩
                go_wp2_with fail
                refine (parse_ok hL _ hg zT).mono ?_
                rintro e w1 ⟨rfl, l1, b1⟩
                have c1 : Below w.heap.size w w1 := b1
                go_wp2_with fail
                try simp only [hSA]
                refine (parse_ok hA2 _ (hg.below c1) zA).mono ?_
                rintro e w2 ⟨rfl, l2, b2⟩
                have c2 : Below w.heap.size w w2 := below_join2 c1 b2
                go_wp2_with fail
                try simp only [hSB]
                refine (parse_ok hB2 _ (hg.below c2) zB).mono ?_
                rintro e w3 ⟨rfl, l3, b3⟩
                have c3 : Below w.heap.size w w3 := below_join2 c2 b3
                go_wp2_with fail
                refine (parse_ok hO2 _ (hg.below c3) zP).mono ?_
                rintro e w4 ⟨rfl, l4, b4⟩
                have c4 : Below w.heap.size w w4 := below_join2 c3 b4
                have LL := ((l1.below b2).below b3).below b4
                have LA := (l2.below b3).below b4
                have LB := l3.below b4
                clear l1 l2 l3
                go_wp2_with fail
                refine (hTr _).mono ?_
                rintro e w5 ⟨rfl, b5⟩
                have c5 := below_join2 c4 b5
                go_wp2_with fail
                refine (HoA.out _ _ (LA.below b5)).mono ?_
                rintro e w6 ⟨rfl, b6⟩
                have c6 := below_join2 c5 b6
                go_wp2_with fail
                refine (HoL.out _ _ ((LL.below b5).below b6)).mono ?_
                rintro e w7 ⟨rfl, b7⟩
                have c7 := below_join2 c6 b7
                go_wp2_with fail
                refine (works2_p _ (hg.below c7)).mono ?_
                rintro e w19 ⟨rfl, b19⟩
                go_wp2_with fail
                go_ret
                exact ⟨rfl, below_join2 c7 b19⟩
            · have hpos : 0 < S.size := by rw [← un_length]; exact (List.getElem?_eq_some_iff.1 h0).1
              have h3 : S[0].toNat = 35 := by have := un_getElem? S 0 hpos; rw [h0] at this; rw [← Option.some.inj this]; rfl
              have h4 : S.toList.isEmpty = false := (isEmpty_false _).2 hpos
              have d2 : (0 : Int) < (S.size : Int) := by omega
              clear h0
              cases X
              · skip
                go_enter Tryd.func3, Tryd.ntmps3
                go_wp2_with fail
                refine (hh1 _).mono ?_
                rintro e w ⟨rfl, rfl⟩
                go_wp2_with fail
                refine (hh2 _).mono ?_
                rintro e w ⟨rfl, rfl⟩
                go_wp2_with fail
                refine (hwo _).mono ?_
                rintro e w ⟨rfl, rfl⟩
                go_wp2_with fail
                refine (hh3 _).mono ?_
                rintro e w ⟨rfl, rfl⟩
                go_wp2_with fail
                refine (parse_ok hL _ hg zT).mono ?_
                rintro e w1 ⟨rfl, l1, b1⟩
                have c1 : Below w.heap.size w w1 := b1
                go_wp2_with fail
                try simp only [hSA]
                refine (parse_ok hA2 _ (hg.below c1) zA).mono ?_
                rintro e w2 ⟨rfl, l2, b2⟩
                have c2 : Below w.heap.size w w2 := below_join2 c1 b2
                go_wp2_with fail
                try simp only [hSB]
                refine (parse_ok hB2 _ (hg.below c2) zB).mono ?_
                rintro e w3 ⟨rfl, l3, b3⟩
                have c3 : Below w.heap.size w w3 := below_join2 c2 b3
                go_wp2_with fail
                refine (parse_ok hO2 _ (hg.below c3) zP).mono ?_
                rintro e w4 ⟨rfl, l4, b4⟩
                have c4 : Below w.heap.size w w4 := below_join2 c3 b4
                have LL := ((l1.below b2).below b3).below b4
                have LA := (l2.below b3).below b4
                have LB := l3.below b4
                clear l1 l2 l3
                go_wp2_with fail
                refine (hTr _).mono ?_
                rintro e w5 ⟨rfl, b5⟩
                have c5 := below_join2 c4 b5
                go_wp2_with fail
                refine (HoA.out _ _ (LA.below b5)).mono ?_
                rintro e w6 ⟨rfl, b6⟩
                have c6 := below_join2 c5 b6
                go_wp2_with fail
                refine (HoL.out _ _ ((LL.below b5).below b6)).mono ?_
                rintro e w7 ⟨rfl, b7⟩
                have c7 := below_join2 c6 b7
                go_wp2_with fail
                refine (works2_p _ (hg.below c7)).mono ?_
                rintro e w19 ⟨rfl, b19⟩
                go_wp2_with fail
                go_ret
                exact ⟨rfl, below_join2 c7 b19⟩
              · skip
                go_enter Tryd.func3, Tryd.ntmps3
                go_wp2_with fail
                refine (hh1 _).mono ?_
                rintro e w ⟨rfl, rfl⟩
                go_wp2_with fail
                refine (hh2 _).mono ?_
                rintro e w ⟨rfl, rfl⟩
                go_wp2_with fail
                refine (hwo _).mono ?_
                rintro e w ⟨rfl, rfl⟩
                go_wp2_with fail
                refine (hh3 _).mono ?_
                rintro e w ⟨rfl, rfl⟩
                go_wp2_with fail
                refine (parse_ok hL _ hg zT).mono ?_
                rintro e w1 ⟨rfl, l1, b1⟩
                have c1 : Below w.heap.size w w1 := b1
                go_wp2_with fail
                try simp only [hSA]
                refine (parse_ok hA2 _ (hg.below c1) zA).mono ?_
                rintro e w2 ⟨rfl, l2, b2⟩
                have c2 : Below w.heap.size w w2 := below_join2 c1 b2
                go_wp2_with fail
                try simp only [hSB]
                refine (parse_ok hB2 _ (hg.below c2) zB).mono ?_
                rintro e w3 ⟨rfl, l3, b3⟩
                have c3 : Below w.heap.size w w3 := below_join2 c2 b3
                go_wp2_with fail
                refine (parse_ok hO2 _ (hg.below c3) zP).mono ?_
                rintro e w4 ⟨rfl, l4, b4⟩
                have c4 : Below w.heap.size w w4 := below_join2 c3 b4
                have LL := ((l1.below b2).below b3).below b4
                have LA := (l2.below b3).below b4
                have LB := l3.below b4
                clear l1 l2 l3
                go_wp2_with fail
                refine (hTr _).mono ?_
                rintro e w5 ⟨rfl, b5⟩
                have c5 := below_join2 c4 b5
                go_wp2_with fail
                refine (HoA.out _ _ (LA.below b5)).mono ?_
                rintro e w6 ⟨rfl, b6⟩
                have c6 := below_join2 c5 b6
                go_wp2_with fail
                refine (HoL.out _ _ ((LL.below b5).below b6)).mono ?_
                rintro e w7 ⟨rfl, b7⟩
                have c7 := below_join2 c6 b7
                go_wp2_with fail
                refine (works2_p _ (hg.below c7)).mono ?_
                rintro e w19 ⟨rfl, b19⟩
                go_wp2_with fail
                go_ret
                exact ⟨rfl, below_join2 c7 b19⟩
          · have hpos : 0 < (trimB P).size := by omega
            have h35 : (un (trimB P))[0]? ≠ some 35 := fun e => h0 (.inr e)
            by_cases h33 : (un (trimB P))[0]? = some 33
            · have hl0 := lineRule_back h33
              have hTr2 := fun W => trimmed_r ((trimB P).extract 1 (trimB P).size) W (by rw [size_extract' _ _ _ (Nat.le_refl _)]; omega)
              have zr : (trimB ((trimB P).extract 1 (trimB P).size)).size ≤ 1000 := by
                refine Nat.le_trans (trimB_size _) ?_
                rw [size_extract' _ _ _ (Nat.le_refl _)]; omega
              have hme := fun W => meets_p (trimB ((trimB P).extract 1 (trimB P).size)) Q W zr z3
              generalize trimB P = S at *
              obtain ⟨R, hR⟩ : ∃ R, S.extract 1 S.size = R := ⟨_, rfl⟩
              rw [hR] at hTr2 hme hl0 zr
              generalize trimB R = R2 at *
              have h3 : S[0].toNat = 33 := by have := un_getElem? S 0 hpos; rw [h33] at this; rw [← Option.some.inj this]; rfl
              have h4 : S.toList.isEmpty = false := (isEmpty_false _).2 hpos
              have d2 : (0 : Int) < (S.size : Int) := by omega
              have d3 : (1 : Int) ≤ (S.size : Int) := by omega
              cases hp : patOf R2 with
              | none =>
                rw [hp] at hl0
                unfold addLine at hA
                rw [hl0] at hA
                simp only [Option.map_none] at hA
                split at hA <;> cases hA
              | some ps =>
                rw [hp] at hl0
                have era : outB ra (namesB Q) = if takeP (ps ++ [none]) (namesB Q) then false else X := by
                  unfold addLine at hA
                  rw [hl0] at hA
                  simp only [Option.map_some] at hA
                  split at hA
                  · cases hA
                  · cases hA; rw [out_snoc, hX]; rfl
                have em : meetsB R2 Q = takeP (ps ++ [none]) (namesB Q) := by unfold meetsB; rw [hp]
                rw [em] at hme
                rw [era] at HoA
                clear era em hl0 hA hB hO hX h0 h35 h33 hp
                cases hm : takeP (ps ++ [none]) (namesB Q)
                · rw [hm] at hme HoA
                  simp only [Bool.false_eq_true, if_false] at HoA
                  clear hm
                  cases X
                  · skip
                    go_enter Tryd.func3, Tryd.ntmps3
                    go_wp2_with fail
                    refine (hh1 _).mono ?_
                    rintro e w ⟨rfl, rfl⟩
                    go_wp2_with fail
                    refine (hh2 _).mono ?_
                    rintro e w ⟨rfl, rfl⟩
                    go_wp2_with fail
                    refine (hwo _).mono ?_
                    rintro e w ⟨rfl, rfl⟩
                    go_wp2_with fail
                    refine (hh3 _).mono ?_
                    rintro e w ⟨rfl, rfl⟩
                    go_wp2_with fail
                    refine (parse_ok hL _ hg zT).mono ?_
                    rintro e w1 ⟨rfl, l1, b1⟩
                    have c1 : Below w.heap.size w w1 := b1
                    go_wp2_with fail
                    try simp only [hSA]
                    refine (parse_ok hA2 _ (hg.below c1) zA).mono ?_
                    rintro e w2 ⟨rfl, l2, b2⟩
                    have c2 : Below w.heap.size w w2 := below_join2 c1 b2
                    go_wp2_with fail
                    try simp only [hSB]
                    refine (parse_ok hB2 _ (hg.below c2) zB).mono ?_
                    rintro e w3 ⟨rfl, l3, b3⟩
                    have c3 : Below w.heap.size w w3 := below_join2 c2 b3
                    go_wp2_with fail
                    refine (parse_ok hO2 _ (hg.below c3) zP).mono ?_
                    rintro e w4 ⟨rfl, l4, b4⟩
                    have c4 : Below w.heap.size w w4 := below_join2 c3 b4
                    have LL := ((l1.below b2).below b3).below b4
                    have LA := (l2.below b3).below b4
                    have LB := l3.below b4
                    clear l1 l2 l3
                    go_wp2_with fail
                    refine (hTr _).mono ?_
                    rintro e w5 ⟨rfl, b5⟩
                    have c5 := below_join2 c4 b5
                    go_wp2_with fail
                    try simp only [hR]
                    refine (hTr2 _).mono ?_
                    rintro e w6 ⟨rfl, b6⟩
                    have c6 := below_join2 c5 b6
                    go_wp2_with fail
                    refine (hme _).mono ?_
                    rintro e w7 ⟨rfl, b7⟩
                    have c7 := below_join2 c6 b7
                    go_wp2_with fail
                    refine (HoA.out _ _ (((LA.below b5).below b6).below b7)).mono ?_
                    rintro e w8 ⟨rfl, b8⟩
                    have c8 := below_join2 c7 b8
                    go_wp2_with fail
                    refine (HoL.out _ _ ((((LL.below b5).below b6).below b7).below b8)).mono ?_
                    rintro e w9 ⟨rfl, b9⟩
                    have c9 := below_join2 c8 b9
                    go_wp2_with fail
                    refine (works2_p _ (hg.below c9)).mono ?_
                    rintro e w19 ⟨rfl, b19⟩
                    go_wp2_with fail
                    go_ret
                    exact ⟨rfl, below_join2 c9 b19⟩
                  · skip
                    go_enter Tryd.func3, Tryd.ntmps3
                    go_wp2_with fail
                    refine (hh1 _).mono ?_
                    rintro e w ⟨rfl, rfl⟩
                    go_wp2_with fail
                    refine (hh2 _).mono ?_
                    rintro e w ⟨rfl, rfl⟩
                    go_wp2_with fail
                    refine (hwo _).mono ?_
                    rintro e w ⟨rfl, rfl⟩
                    go_wp2_with fail
                    refine (hh3 _).mono ?_
                    rintro e w ⟨rfl, rfl⟩
                    go_wp2_with fail
                    refine (parse_ok hL _ hg zT).mono ?_
                    rintro e w1 ⟨rfl, l1, b1⟩
                    have c1 : Below w.heap.size w w1 := b1
                    go_wp2_with fail
                    try simp only [hSA]
                    refine (parse_ok hA2 _ (hg.below c1) zA).mono ?_
                    rintro e w2 ⟨rfl, l2, b2⟩
                    have c2 : Below w.heap.size w w2 := below_join2 c1 b2
                    go_wp2_with fail
                    try simp only [hSB]
                    refine (parse_ok hB2 _ (hg.below c2) zB).mono ?_
                    rintro e w3 ⟨rfl, l3, b3⟩
                    have c3 : Below w.heap.size w w3 := below_join2 c2 b3
                    go_wp2_with fail
                    refine (parse_ok hO2 _ (hg.below c3) zP).mono ?_
                    rintro e w4 ⟨rfl, l4, b4⟩
                    have c4 : Below w.heap.size w w4 := below_join2 c3 b4
                    have LL := ((l1.below b2).below b3).below b4
                    have LA := (l2.below b3).below b4
                    have LB := l3.below b4
                    clear l1 l2 l3
                    go_wp2_with fail
                    refine (hTr _).mono ?_
                    rintro e w5 ⟨rfl, b5⟩
                    have c5 := below_join2 c4 b5
                    go_wp2_with fail
                    try simp only [hR]
                    refine (hTr2 _).mono ?_
                    rintro e w6 ⟨rfl, b6⟩
                    have c6 := below_join2 c5 b6
                    go_wp2_with fail
                    refine (hme _).mono ?_
                    rintro e w7 ⟨rfl, b7⟩
                    have c7 := below_join2 c6 b7
                    go_wp2_with fail
                    refine (HoA.out _ _ (((LA.below b5).below b6).below b7)).mono ?_
                    rintro e w8 ⟨rfl, b8⟩
                    have c8 := below_join2 c7 b8
                    go_wp2_with fail
                    refine (HoL.out _ _ ((((LL.below b5).below b6).below b7).below b8)).mono ?_
                    rintro e w9 ⟨rfl, b9⟩
                    have c9 := below_join2 c8 b9
                    go_wp2_with fail
                    refine (works2_p _ (hg.below c9)).mono ?_
                    rintro e w19 ⟨rfl, b19⟩
                    go_wp2_with fail
                    go_ret
                    exact ⟨rfl, below_join2 c9 b19⟩
                · rw [hm] at hme HoA
                  simp only [if_true] at HoA
                  clear hm
                  go_enter Tryd.func3, Tryd.ntmps3
                  go_wp2_with fail
                  refine (hh1 _).mono ?_
                  rintro e w ⟨rfl, rfl⟩
                  go_wp2_with fail
                  refine (hh2 _).mono ?_
                  rintro e w ⟨rfl, rfl⟩
                  go_wp2_with fail
                  refine (hwo _).mono ?_
                  rintro e w ⟨rfl, rfl⟩
                  go_wp2_with fail
                  refine (hh3 _).mono ?_
                  rintro e w ⟨rfl, rfl⟩
                  go_wp2_with fail
                  refine (parse_ok hL _ hg zT).mono ?_
                  rintro e w1 ⟨rfl, l1, b1⟩
                  have c1 : Below w.heap.size w w1 := b1
                  go_wp2_with fail
                  try simp only [hSA]
                  refine (parse_ok hA2 _ (hg.below c1) zA).mono ?_
                  rintro e w2 ⟨rfl, l2, b2⟩
                  have c2 : Below w.heap.size w w2 := below_join2 c1 b2
                  go_wp2_with fail
                  try simp only [hSB]
                  refine (parse_ok hB2 _ (hg.below c2) zB).mono ?_
                  rintro e w3 ⟨rfl, l3, b3⟩
                  have c3 : Below w.heap.size w w3 := below_join2 c2 b3
                  go_wp2_with fail
                  refine (parse_ok hO2 _ (hg.below c3) zP).mono ?_
                  rintro e w4 ⟨rfl, l4, b4⟩
                  have c4 : Below w.heap.size w w4 := below_join2 c3 b4
                  have LL := ((l1.below b2).below b3).below b4
                  have LA := (l2.below b3).below b4
                  have LB := l3.below b4
                  clear l1 l2 l3
                  go_wp2_with fail
                  refine (hTr _).mono ?_
                  rintro e w5 ⟨rfl, b5⟩
                  have c5 := below_join2 c4 b5
                  go_wp2_with fail
                  try simp only [hR]
                  refine (hTr2 _).mono ?_
                  rintro e w6 ⟨rfl, b6⟩
                  have c6 := below_join2 c5 b6
                  go_wp2_with fail
                  refine (hme _).mono ?_
                  rintro e w7 ⟨rfl, b7⟩
                  have c7 := below_join2 c6 b7
                  go_wp2_with fail
                  refine (HoA.out _ _ (((LA.below b5).below b6).below b7)).mono ?_
                  rintro e w8 ⟨rfl, b8⟩
                  have c8 := below_join2 c7 b8
                  go_wp2_with fail
                  refine (works2_p _ (hg.below c8)).mono ?_
                  rintro e w19 ⟨rfl, b19⟩
                  go_wp2_with fail
                  go_ret
                  exact ⟨rfl, below_join2 c8 b19⟩
            · have hl0 := lineRule_plain hpos h35 h33
              have hlb := lineRule_bang P
              generalize trimB P = S at *
              have hg0 := un_getElem? S 0 hpos
              have h3 : ((S[0].toNat : Int) == 35) = false := by
                rw [beq_eq_false_iff_ne]; intro e
                exact h35 (by rw [hg0]; congr 1; exact UInt8.toNat_inj.1 (by show S[0].toNat = 35; omega))
              have h3b : ((S[0].toNat : Int) == 33) = false := by
                rw [beq_eq_false_iff_ne]; intro e
                exact h33 (by rw [hg0]; congr 1; exact UInt8.toNat_inj.1 (by show S[0].toNat = 33; omega))
              have h4 : S.toList.isEmpty = false := (isEmpty_false _).2 hpos
              have d2 : (0 : Int) < (S.size : Int) := by omega
              cases hp : patOf S with
              | none =>
                rw [hp] at hl0
                unfold addLine at hA
                rw [hl0] at hA
                simp only [Option.map_none] at hA
                split at hA <;> cases hA
              | some ps =>
                rw [hp] at hl0 hlb
                have era : outB ra (namesB Q) = if takeP (ps ++ [none]) (namesB Q) then true else X := by
                  unfold addLine at hA
                  rw [hl0] at hA
                  simp only [Option.map_some] at hA
                  split at hA
                  · cases hA
                  · cases hA; rw [out_snoc, hX]; rfl
                have erb : outB rb (namesB Q) = if takeP (ps ++ [none]) (namesB Q) then false else X := by
                  unfold addLine at hB
                  rw [hlb] at hB
                  simp only [Option.map_some] at hB
                  split at hB
                  · cases hB
                  · cases hB; rw [out_snoc, hX]; rfl
                have ero : outB r1 (namesB Q) = takeP (ps ++ [none]) (namesB Q) := by
                  unfold addLine at hO
                  rw [hl0] at hO
                  simp only [Option.map_some] at hO
                  split at hO
                  · cases hO
                  · cases hO; rw [out_snoc]; cases takeP (ps ++ [none]) (namesB Q) <;> rfl
                rw [era] at HoA
                rw [erb] at HoB
                rw [ero] at HoO
                clear era erb ero hl0 hlb hA hB hO hX h0 h35 h33 hp hg0
                cases hm : takeP (ps ++ [none]) (namesB Q)
                · rw [hm] at HoA HoB HoO
                  simp only [Bool.false_eq_true, if_false] at HoA HoB
                  clear hm
                  cases X
                  · skip
                    go_enter Tryd.func3, Tryd.ntmps3
                    go_wp2_with fail
                    refine (hh1 _).mono ?_
                    rintro e w ⟨rfl, rfl⟩
                    go_wp2_with fail
                    refine (hh2 _).mono ?_
                    rintro e w ⟨rfl, rfl⟩
                    go_wp2_with fail
                    refine (hwo _).mono ?_
                    rintro e w ⟨rfl, rfl⟩
                    go_wp2_with fail
                    refine (hh3 _).mono ?_
                    rintro e w ⟨rfl, rfl⟩
                    go_wp2_with fail
                    refine (parse_ok hL _ hg zT).mono ?_
                    rintro e w1 ⟨rfl, l1, b1⟩
                    have c1 : Below w.heap.size w w1 := b1
                    go_wp2_with fail
                    try simp only [hSA]
                    refine (parse_ok hA2 _ (hg.below c1) zA).mono ?_
                    rintro e w2 ⟨rfl, l2, b2⟩
                    have c2 : Below w.heap.size w w2 := below_join2 c1 b2
                    go_wp2_with fail
                    try simp only [hSB]
                    refine (parse_ok hB2 _ (hg.below c2) zB).mono ?_
                    rintro e w3 ⟨rfl, l3, b3⟩
                    have c3 : Below w.heap.size w w3 := below_join2 c2 b3
                    go_wp2_with fail
                    refine (parse_ok hO2 _ (hg.below c3) zP).mono ?_
                    rintro e w4 ⟨rfl, l4, b4⟩
                    have c4 : Below w.heap.size w w4 := below_join2 c3 b4
                    have LL := ((l1.below b2).below b3).below b4
                    have LA := (l2.below b3).below b4
                    have LB := l3.below b4
                    clear l1 l2 l3
                    go_wp2_with fail
                    refine (hTr _).mono ?_
                    rintro e w5 ⟨rfl, b5⟩
                    have c5 := below_join2 c4 b5
                    go_wp2_with fail
                    refine (HoO.out _ _ (l4.below b5)).mono ?_
                    rintro e w6 ⟨rfl, b6⟩
                    have c6 := below_join2 c5 b6
                    go_wp2_with fail
                    refine (HoA.out _ _ ((LA.below b5).below b6)).mono ?_
                    rintro e w7 ⟨rfl, b7⟩
                    have c7 := below_join2 c6 b7
                    go_wp2_with fail
                    refine (HoL.out _ _ (((LL.below b5).below b6).below b7)).mono ?_
                    rintro e w8 ⟨rfl, b8⟩
                    have c8 := below_join2 c7 b8
                    go_wp2_with fail
                    refine (HoB.out _ _ ((((LB.below b5).below b6).below b7).below b8)).mono ?_
                    rintro e w9 ⟨rfl, b9⟩
                    have c9 := below_join2 c8 b9
                    go_wp2_with fail
                    refine (HoL.out _ _ (((((LL.below b5).below b6).below b7).below b8).below b9)).mono ?_
                    rintro e w10 ⟨rfl, b10⟩
                    have c10 := below_join2 c9 b10
                    go_wp2_with fail
                    refine (works2_p _ (hg.below c10)).mono ?_
                    rintro e w19 ⟨rfl, b19⟩
                    go_wp2_with fail
                    go_ret
                    exact ⟨rfl, below_join2 c10 b19⟩
                  · skip
                    go_enter Tryd.func3, Tryd.ntmps3
                    go_wp2_with fail
                    refine (hh1 _).mono ?_
                    rintro e w ⟨rfl, rfl⟩
                    go_wp2_with fail
                    refine (hh2 _).mono ?_
                    rintro e w ⟨rfl, rfl⟩
                    go_wp2_with fail
                    refine (hwo _).mono ?_
                    rintro e w ⟨rfl, rfl⟩
                    go_wp2_with fail
                    refine (hh3 _).mono ?_
                    rintro e w ⟨rfl, rfl⟩
                    go_wp2_with fail
                    refine (parse_ok hL _ hg zT).mono ?_
                    rintro e w1 ⟨rfl, l1, b1⟩
                    have c1 : Below w.heap.size w w1 := b1
                    go_wp2_with fail
                    try simp only [hSA]
                    refine (parse_ok hA2 _ (hg.below c1) zA).mono ?_
                    rintro e w2 ⟨rfl, l2, b2⟩
                    have c2 : Below w.heap.size w w2 := below_join2 c1 b2
                    go_wp2_with fail
                    try simp only [hSB]
                    refine (parse_ok hB2 _ (hg.below c2) zB).mono ?_
                    rintro e w3 ⟨rfl, l3, b3⟩
                    have c3 : Below w.heap.size w w3 := below_join2 c2 b3
                    go_wp2_with fail
                    refine (parse_ok hO2 _ (hg.below c3) zP).mono ?_
                    rintro e w4 ⟨rfl, l4, b4⟩
                    have c4 : Below w.heap.size w w4 := below_join2 c3 b4
                    have LL := ((l1.below b2).below b3).below b4
                    have LA := (l2.below b3).below b4
                    have LB := l3.below b4
                    clear l1 l2 l3
                    go_wp2_with fail
                    refine (hTr _).mono ?_
                    rintro e w5 ⟨rfl, b5⟩
                    have c5 := below_join2 c4 b5
                    go_wp2_with fail
                    refine (HoO.out _ _ (l4.below b5)).mono ?_
                    rintro e w6 ⟨rfl, b6⟩
                    have c6 := below_join2 c5 b6
                    go_wp2_with fail
                    refine (HoA.out _ _ ((LA.below b5).below b6)).mono ?_
                    rintro e w7 ⟨rfl, b7⟩
                    have c7 := below_join2 c6 b7
                    go_wp2_with fail
                    refine (HoL.out _ _ (((LL.below b5).below b6).below b7)).mono ?_
                    rintro e w8 ⟨rfl, b8⟩
                    have c8 := below_join2 c7 b8
                    go_wp2_with fail
                    refine (HoB.out _ _ ((((LB.below b5).below b6).below b7).below b8)).mono ?_
                    rintro e w9 ⟨rfl, b9⟩
                    have c9 := below_join2 c8 b9
                    go_wp2_with fail
                    refine (HoL.out _ _ (((((LL.below b5).below b6).below b7).below b8).below b9)).mono ?_
                    rintro e w10 ⟨rfl, b10⟩
                    have c10 := below_join2 c9 b10
                    go_wp2_with fail
                    refine (works2_p _ (hg.below c10)).mono ?_
                    rintro e w19 ⟨rfl, b19⟩
                    go_wp2_with fail
                    go_ret
                    exact ⟨rfl, below_join2 c10 b19⟩
                · rw [hm] at HoA HoB HoO
                  simp only [if_true] at HoA HoB
                  clear hm
                  go_enter Tryd.func3, Tryd.ntmps3
                  go_wp2_with fail
                  refine (hh1 _).mono ?_
                  rintro e w ⟨rfl, rfl⟩
                  go_wp2_with fail
                  refine (hh2 _).mono ?_
                  rintro e w ⟨rfl, rfl⟩
                  go_wp2_with fail
                  refine (hwo _).mono ?_
                  rintro e w ⟨rfl, rfl⟩
                  go_wp2_with fail
                  refine (hh3 _).mono ?_
                  rintro e w ⟨rfl, rfl⟩
                  go_wp2_with fail
                  refine (parse_ok hL _ hg zT).mono ?_
                  rintro e w1 ⟨rfl, l1, b1⟩
                  have c1 : Below w.heap.size w w1 := b1
                  go_wp2_with fail
                  try simp only [hSA]
                  refine (parse_ok hA2 _ (hg.below c1) zA).mono ?_
                  rintro e w2 ⟨rfl, l2, b2⟩
                  have c2 : Below w.heap.size w w2 := below_join2 c1 b2
                  go_wp2_with fail
                  try simp only [hSB]
                  refine (parse_ok hB2 _ (hg.below c2) zB).mono ?_
                  rintro e w3 ⟨rfl, l3, b3⟩
                  have c3 : Below w.heap.size w w3 := below_join2 c2 b3
                  go_wp2_with fail
                  refine (parse_ok hO2 _ (hg.below c3) zP).mono ?_
                  rintro e w4 ⟨rfl, l4, b4⟩
                  have c4 : Below w.heap.size w w4 := below_join2 c3 b4
                  have LL := ((l1.below b2).below b3).below b4
                  have LA := (l2.below b3).below b4
                  have LB := l3.below b4
                  clear l1 l2 l3
                  go_wp2_with fail
                  refine (hTr _).mono ?_
                  rintro e w5 ⟨rfl, b5⟩
                  have c5 := below_join2 c4 b5
                  go_wp2_with fail
                  refine (HoO.out _ _ (l4.below b5)).mono ?_
                  rintro e w6 ⟨rfl, b6⟩
                  have c6 := below_join2 c5 b6
                  go_wp2_with fail
                  refine (HoA.out _ _ ((LA.below b5).below b6)).mono ?_
                  rintro e w7 ⟨rfl, b7⟩
                  have c7 := below_join2 c6 b7
                  go_wp2_with fail
                  refine (HoB.out _ _ (((LB.below b5).below b6).below b7)).mono ?_
                  rintro e w8 ⟨rfl, b8⟩
                  have c8 := below_join2 c7 b8
                  go_wp2_with fail
                  refine (works2_p _ (hg.below c8)).mono ?_
                  rintro e w19 ⟨rfl, b19⟩
                  go_wp2_with fail
                  go_ret
                  exact ⟨rfl, below_join2 c8 b19⟩
end Go.Proofs.YtmgoknlpimfmnaaDoor
