/- strings.EqualFold at a text with a byte above 127: false; so EqF. -/
import Derived.Test.YtjgijbeedgggdaaGreatDoorEqW
import Derived.Lib.OthersKept
import Derived.Lib.Fold
import Derived.Laws.RangeAny
import Derived.ScopeJumps
namespace Go.Proofs.YtjgijbeedgggdaaGreatDoor
open Go Go.RowKit

theorem dec_facts (s : ByteArray) (pos : Nat) (h : pos < s.size) : 1 ≤ (Utf8.decode s pos).2 ∧ pos + (Utf8.decode s pos).2 ≤ s.size ∧ ((Utf8.decode s pos).1 = 383 → 2 ≤ (Utf8.decode s pos).2) := by
  simp only [Utf8.decode]
  repeat' split
  all_goals simp_all [Utf8.runeError]
  all_goals omega
theorem word_lets {t : ByteArray} (ht : t = espS ∨ t = cpyS) (j : Nat) (h : j < t.size) : (t[j]'h).toNat ∈ lets := by
  have H : ∀ b ∈ un espS, b.toNat ∈ lets := by decide
  have H2 : ∀ b ∈ un cpyS, b.toNat ∈ lets := by decide
  have hm : t[j]'h ∈ un t := List.mem_of_getElem? (un_getElem? t j h)
  rcases ht with rfl | rfl
  · exact H _ hm
  · exact H2 _ hm
/-- What the second loop holds. -/
def EqI (w : World) (E T : ByteArray) (v1 : Value) (wr : World) : Prop := ∃ p q : Nat, v1 = .string (bs ((un T).drop q)) ∧ q ≤ p ∧ p ≤ E.size ∧ (q < p ∨ (p = 0 ∧ q = 0)) ∧ wr.heap[w.heap.size]? = some (.stringIter E p) ∧ Below w.heap.size w wr
theorem dec_t (x : Ln) (c : UInt8) (r : Ln) (hx : x = c :: r) (hc : c.toNat < 128) : Lib.decodeGo (bs x) = (c.toNat, 1) := by
  have h0 : (bs x).size ≠ 0 := by rw [size_bs, hx]; simp
  unfold Lib.decodeGo
  rw [if_neg h0]
  have hp : 0 < (bs x).size := by omega
  have hg : (bs x)[0]'hp = c := by
    have h1 := un_getElem? (bs x) 0 hp
    have h2 : (un (bs x))[0]? = some c := by rw [un_bs, hx]; rfl
    exact Option.some.inj (h1.symm.trans h2)
  rw [decode_ascii (bs x) 0 hp (by rw [hg]; exact hc), hg]
def msF (c : Nat) (v : Value) : Nat := if intOf v = 383 then 2 else if intOf v = (c : Int) then 0 else 1
/-- The letters on the way round from a letter. -/
def OrI (c : Nat) (v : Value) : Prop := v = .int .i32 ((c - 32 : Nat) : Int) ∨ (v = .int .i32 383 ∧ c = 115) ∨ v = .int .i32 (c : Int)
theorem iter_next {k : Nat} {a b : World} {E : ByteArray} {p : Nat} (h : a.heap[k]? = some (.stringIter E p)) (hb : Below a.heap.size a b) : b.heap[k]? = some (.stringIter E p) := (hb.block k (Array.getElem?_eq_some_iff.1 h).1).trans h
def GoJ (s t : ByteArray) (i0 : Nat) (w : World) (a' : Act) (w' : World) : Prop := ∀ motive : Act → World → Prop, (∀ u2 u3 u4 u6 u7 u8 u9 u10 u11 u12 u13 u14 u15 u16 u17 u18 u19 u20 u21 u22 u23 u24 u25 u26 u27 u28 u29 u30 u31 u32 u33 u34 u35 u36 u37 u38 u39 u40 u41 u42 u43 u44 u45 u46 u47 u48 u49 u50 u51 u52 u53 u54 u55 u56 u57 u58 u59 u60 u61 u62 u63 u64 u65 u66 u67 u68 u69 u70 u71 u72 u73 u74 u75 u76 u77 u78 u79 u80 u81 u82 u83 u84 u85 u86 u87 u88 u89 u90 u91 u92 u93 u94 u95 u96 u97 u98 u99 u100 u101 u102 u103 u104 u105 u106 u107 u108 u109 u110 u111 u112 u113 u114 u115 u116 u117 u118 u119 u120 u121 u122 : Value, motive { tmps := #[.string s, .string t, u2, u3, u4, .int .i64 (i0 : Int), u6, u7, u8, u9, u10, u11, u12, u13, u14, u15, u16, u17, u18, u19, u20, u21, u22, u23, u24, u25, u26, u27, u28, u29, u30, u31, u32, u33, u34, u35, u36, u37, u38, u39, u40, u41, u42, u43, u44, u45, u46, u47, u48, u49, u50, u51, u52, u53, u54, u55, u56, u57, u58, u59, u60, u61, u62, u63, u64, u65, u66, u67, u68, u69, u70, u71, u72, u73, u74, u75, u76, u77, u78, u79, u80, u81, u82, u83, u84, u85, u86, u87, u88, u89, u90, u91, u92, u93, u94, u95, u96, u97, u98, u99, u100, u101, u102, u103, u104, u105, u106, u107, u108, u109, u110, u111, u112, u113, u114, u115, u116, u117, u118, u119, u120, u121, u122], defers := [] } w) → motive a' w'
set_option maxRecDepth 100000 in
set_option maxHeartbeats 1000000 in
theorem eqf_high (s t : ByteArray) (w : World) (ht : t = espS ∨ t = cpyS) (hsz : s.size = t.size) (hT : Tabs w) (i0 : Nat) (h0 : i0 < s.size) (hhi : 128 ≤ (s[i0]'h0).toNat) (hlo : ∀ (j : Nat) (h : j < s.size), j < i0 → (s[j]'h).toNat < 128) :
    Calls Tryz.prog 168 #[.string s, .string t] w fun e w' => e = .returned (.bool false) ∧ Below w.heap.size w w' := by
  have hl := word_lets ht
  have ⟨ht1, ht2⟩ := word_size ht
  have hm : min (s.size : Int) (t.size : Int) = (t.size : Int) := by omega
  have HH : Hid (128 ≤ (s[i0]'h0).toNat) := hhi
  have HL : Hid (∀ (j : Nat) (h : j < s.size), j < i0 → (s[j]'h).toNat < 128) := hlo
  have HLt : Hid (∀ (j : Nat) (h : j < t.size), (t[j]'h).toNat ∈ lets) := hl
  have HT : Hid (Tabs w) := hT
  have hszI : (s.size : Int) = (t.size : Int) := by omega
  clear hhi hlo hl ht hT
  go_enter Tryz.func168, Tryz.ntmps168
  go_wp2
  refine wp_scope_jumps 0 (GoJ s t i0 w) (fun _ _ => 0) rfl ?_ ?_
  · go_wp2
    go_loopw [5] (fun v5 wr => wr = w ∧ ∃ i : Nat, v5 = .int .i64 i ∧ i ≤ i0) (fun v5 _ => i0 - (intOf v5).toNat)
    case atStart => exact ⟨rfl, 0, rfl, Nat.zero_le _⟩
    case round =>
      obtain ⟨rfl, i, rfl, hi⟩ := hrel
      have d1 : (i : Int) < (t.size : Int) := by omega
      have d2 : (i : Int) < (s.size : Int) := by omega
      obtain ⟨x, hx⟩ : ∃ x : UInt8, s[i]'(by omega) = x := ⟨_, rfl⟩
      obtain ⟨y, hy⟩ : ∃ y : UInt8, t[i]'(by omega) = y := ⟨_, rfl⟩
      have hy1 := lets_bnd (HLt.out i (by omega))
      rw [hy] at hy1
      have hx255 : x.toNat < 256 := UInt8.toNat_lt x
      have hor : bits .or .u8 (x.toNat : Int) (y.toNat : Int) = ((x.toNat ||| y.toNat : Nat) : Int) := u8_or_nat _ _ (by omega) (by omega)
      by_cases hi2 : i = i0
      · subst hi2
        have hge : ((128 : Int) ≤ ((x.toNat ||| y.toNat : Nat) : Int)) := by have := Nat.left_le_or (n := x.toNat) (m := y.toNat); have := HH.out; rw [hx] at this; omega
        generalize x.toNat ||| y.toNat = Z at *
        go_wp2
        refine wp_goto ?_
        exact ⟨rfl, fun _ k => k _ _ _ _ _ _ _ _ _ _ _ _ _ _ _ _ _ _ _ _ _ _ _ _ _ _ _ _ _ _ _ _ _ _ _ _ _ _ _ _ _ _ _ _ _ _ _ _ _ _ _ _ _ _ _ _ _ _ _ _ _ _ _ _ _ _ _ _ _ _ _ _ _ _ _ _ _ _ _ _ _ _ _ _ _ _ _ _ _ _ _ _ _ _ _ _ _ _ _ _ _ _ _ _ _ _ _ _ _ _ _ _ _ _ _ _ _ _ _ _⟩
      · have hx128 : x.toNat < 128 := by have := HL.out i (by omega) (by omega); rw [hx] at this; exact this
        have hor128 : ¬ ((128 : Int) ≤ ((x.toNat ||| y.toNat : Nat) : Int)) := by have := Nat.or_lt_two_pow (n := 7) hx128 (show y.toNat < 2 ^ 7 by omega); omega
        generalize x.toNat ||| y.toNat = Z at *
        go_wp2
        all_goals first
          | (go_roundw
             case measure => simp [intOf]; omega
             case rel => exact ⟨rfl, i + 1, by go_num, by omega⟩)
          | exact ⟨⟨trivial, i + 1, by first | rfl | simp, by omega⟩, by simp [intOf]; omega⟩
          | (simp only [Exit.jump]
             go_ret
             exact ⟨rfl, Below.refl _ _⟩)
  · intro a' w' hJ
    refine hJ (fun a' w' => Code.wp _ _ _ a' w') ?_
    intro u2 u3 u4 u6 u7 u8 u9 u10 u11 u12 u13 u14 u15 u16 u17 u18 u19 u20 u21 u22 u23 u24 u25 u26 u27 u28 u29 u30 u31 u32 u33 u34 u35 u36 u37 u38 u39 u40 u41 u42 u43 u44 u45 u46 u47 u48 u49 u50 u51 u52 u53 u54 u55 u56 u57 u58 u59 u60 u61 u62 u63 u64 u65 u66 u67 u68 u69 u70 u71 u72 u73 u74 u75 u76 u77 u78 u79 u80 u81 u82 u83 u84 u85 u86 u87 u88 u89 u90 u91 u92 u93 u94 u95 u96 u97 u98 u99 u100 u101 u102 u103 u104 u105 u106 u107 u108 u109 u110 u111 u112 u113 u114 u115 u116 u117 u118 u119 u120 u121 u122
    clear hJ
    obtain ⟨E, hE⟩ : ∃ E, s.extract i0 t.size = E := ⟨_, rfl⟩
    obtain ⟨T, hTT⟩ : ∃ T, t.extract i0 t.size = T := ⟨_, rfl⟩
    have hEs : E.size = s.size - i0 := by rw [← hE, size_extract' _ _ _ (by omega)]; omega
    have hTs : T.size = s.size - i0 := by rw [← hTT, size_extract' _ _ _ (by omega)]; omega
    have hE0 : Hid (∀ h : 0 < E.size, 128 ≤ (E[0]'h).toNat) := by
      intro h
      have := HH.out
      have e : E[0]'h = s[i0]'h0 := by subst hE; rw [ByteArray.getElem_extract]; rfl
      rw [e]; exact this
    have hTl : Hid (∀ (q : Nat) (h : q < T.size), (T[q]'h).toNat ∈ lets) := by
      intro q h
      have e : T[q]'h = t[i0 + q]'(by omega) := by subst hTT; rw [ByteArray.getElem_extract]
      rw [e]; exact HLt.out _ _
    have d1 : (i0 : Int) ≤ (s.size : Int) := by omega
    have d2 : (i0 : Int) ≤ (t.size : Int) := by omega
    have d3 : (0 : Int) ≤ (i0 : Int) := by omega
    clear HH HL HLt
    go_wp2
    go_loopw [1] (fun v1 wr => EqI w E T v1 wr) (fun _ wr => E.size - wr.iterPos w.heap.size)
    case atStart => exact ⟨0, 0, by rw [List.drop_zero, bs_un], Nat.le_refl _, Nat.zero_le _, .inr ⟨rfl, rfl⟩, World.iter_heap w E 0, (Below.refl _ w).alloc (Nat.le_refl _) _⟩
    case round =>
      obtain ⟨p, q, rfl, hqp, hpE, hq, hit, hB⟩ := hrel
      have hip : wr.iterPos w.heap.size = p := by unfold World.iterPos; rw [hit]
      obtain ⟨TR, hTR⟩ : ∃ TR, bs ((un T).drop q) = TR := ⟨_, rfl⟩
      have hTRs : TR.size = T.size - q := by rw [← hTR, size_bs, List.length_drop, un_length]
      rw [hTR]
      by_cases hp : p < E.size
      · obtain ⟨f1, f2, f3⟩ := dec_facts E p hp
        have f4 := decode_le E p
        have f5 : p = 0 → 128 ≤ (Utf8.decode E p).1 := by
          rintro rfl
          exact (decode_high E 0 hp (hE0.out hp)).1
        have hnx := fun ty => Lib.run_next_any_at (P := Tryz.prog) wr w.heap.size E p ty hit hp
        have hw1 := Lib.iterAt_heap wr w.heap.size E p (p + (Utf8.decode E p).2) hit
        have hB1 := Lib.below_iterAt hB (Nat.le_refl _) E (p + (Utf8.decode E p).2)
        generalize hD : Utf8.decode E p = D at *
        obtain ⟨D, n2⟩ := D
        simp only at f1 f2 f3 f4 f5 hnx hw1 hB1
        generalize hW1 : wr.iterAt w.heap.size E (p + n2) = w1 at *
        have hqT : q < T.size := by omega
        obtain ⟨cb, hcb⟩ : ∃ cb, T[q]'hqT = cb := ⟨_, rfl⟩
        have hcl := hTl.out q hqT
        rw [hcb] at hcl
        have hcr := lets_bnd hcl
        have hdrop : (un T).drop q = cb :: (un T).drop (q + 1) := by
          have := un_getElem? T q hqT
          rw [hcb] at this
          obtain ⟨h1, h2⟩ := List.getElem?_eq_some_iff.1 this
          rw [List.drop_eq_getElem_cons h1, h2]
        have hDe := Tryz.utf8_DecodeRuneInString TR w1 (HT.out.below hB1).1
        rw [← hTR, dec_t _ cb _ hdrop (by omega), hTR] at hDe
        have hx1 : TR.extract 1 TR.size = bs ((un T).drop (q + 1)) := by rw [ext_end, ← hTR, un_bs, hdrop]; rfl
        obtain ⟨TN, hTN⟩ : ∃ TN, bs ((un T).drop (q + 1)) = TN := ⟨_, rfl⟩
        rw [hTN] at hx1
        have g1 : (1 : Int) ≤ (TR.size : Int) := by omega
        have g2 : ¬ ((TR.size : Int) = 0) := by omega
        have g2b : ((TR.size : Int) == 0) = false := beq_eq_false_iff_ne.2 (by omega)
        generalize hc : cb.toNat = c at *
        clear hdrop hcb hD f4 hit hB hE0 hTRs
        go_wp2_with fail
        refine hDe.mono ?_
        rintro e w2 ⟨rfl, b2⟩
        have hB2 := below_join hB1 b2
        have hit2 := iter_next hw1 b2
        clear hDe
        have hnext : (q < p ∨ 2 ≤ n2) → EqI w E T (.string TN) w2 := fun h => ⟨p + n2, q + 1, by rw [hTN], by omega, by omega, by omega, hit2, hB2⟩
        have hmea : E.size - w2.iterPos w.heap.size < E.size - wr.iterPos w.heap.size := by rw [show w2.iterPos w.heap.size = p + n2 by unfold World.iterPos; rw [hit2], hip]; omega
        have hne0 : D < 128 → q < p ∨ 2 ≤ n2 := fun h => by have := f5; omega
        have k3 : (c : Int) < 128 := by omega
        rcases Nat.lt_trichotomy D c with hlt | heq | hgt
        · have k1 : ((c : Int) == (D : Int)) = false := beq_eq_false_iff_ne.2 (by omega)
          have k2 : ¬ (c : Int) < (D : Int) := by omega
          have w3 : IntKind.i32.wrap ((D : Int) + 97) = (D : Int) + 97 := wraps_i32 _ (by omega) (by omega)
          have w4 : IntKind.i32.wrap ((D : Int) + 97 - 65) = (D : Int) + 97 - 65 := wraps_i32 _ (by omega) (by omega)
          have hgo := hnext (hne0 (by omega))
          clear hnext hne0 f1 f2 f3 f5 hlt hq hqp hpE
          go_wp2
          all_goals first
            | (go_roundw
               case measure => exact hmea
               case rel => exact hgo)
            | exact ⟨hgo, hmea⟩
            | (simp only [Exit.jump]
               go_ret
               exact ⟨rfl, hB2⟩)
        · have k1 : ((c : Int) == (D : Int)) = true := by rw [heq]; simp
          have hgo := hnext (hne0 (by omega))
          clear hnext hne0 f1 f2 f3 f5 heq hq hqp hpE
          go_wp2
          go_roundw
          case measure => exact hmea
          case rel => exact hgo
        · have k1 : ((c : Int) == (D : Int)) = false := beq_eq_false_iff_ne.2 (by omega)
          have k2 : (c : Int) < (D : Int) := by omega
          by_cases hD : D < 128
          · have k4 : (D : Int) < 128 := by omega
            have k5 : (65 : Int) ≤ (c : Int) := by omega
            have k6 : ¬ (c : Int) ≤ 90 := by omega
            clear hnext hne0 f1 f2 f3 f5 hgt hq hqp hpE
            go_wp2
            simp only [Exit.jump]
            go_ret
            exact ⟨rfl, hB2⟩
          · have k4 : ¬ (D : Int) < 128 := by omega
            have hTw := HT.out.below hB2
            have F1 := fold_low c hcl w2 hTw
            have F2 := fold_up c hcl w2 hTw
            have F3 := fold_383 w2 hTw
            have hgo : D = 383 → EqI w E T (.string TN) w2 := fun h => hnext (.inr (f3 h))
            have hor : ∀ v, v = .int .i32 (if c = 115 then 383 else ((c - 32 : Nat) : Int)) → OrI c v := by
              rintro v rfl
              by_cases h5 : c = 115
              · rw [if_pos h5]; exact .inr (.inl ⟨rfl, h5⟩)
              · rw [if_neg h5]; exact .inl rfl
            generalize (if c = 115 then 383 else ((c - 32 : Nat) : Int)) = F0 at *
            clear hnext hne0 f1 f2 f3 f5 hgt hq hqp hpE
            go_wp2_with (refine F1.mono ?_; rintro e w3 ⟨rfl, rfl⟩)
            go_loopw [13] (fun v13 wx => wx = w3 ∧ OrI c v13) (fun v13 _ => msF c v13)
            case atStart => exact ⟨rfl, hor _ rfl⟩
            case round =>
              obtain ⟨rfl, hv⟩ := hrel
              clear hor F1
              rcases hv with rfl | ⟨rfl, h5⟩ | rfl
              · have j1 : ¬ (((c - 32 : Nat) : Int) = (c : Int)) := by omega
                have j2 : ((c - 32 : Nat) : Int) < (D : Int) := by omega
                have hms : msF c (.int .i32 ((c : Nat) : Int)) < msF c (.int .i32 ((c - 32 : Nat) : Int)) := by
                  have a1 : msF c (.int .i32 ((c : Nat) : Int)) = 0 := by unfold msF; rw [if_neg (by show ¬ (c : Int) = 383; omega)]; exact if_pos rfl
                  have a2 : msF c (.int .i32 ((c - 32 : Nat) : Int)) = 1 := by unfold msF; rw [if_neg (by show ¬ ((c - 32 : Nat) : Int) = 383; omega), if_neg (by show ¬ ((c - 32 : Nat) : Int) = (c : Int); omega)]
                  omega
                have hor2 : OrI c (.int .i32 (c : Int)) := .inr (.inr rfl)
                have j3 : (((c - 32 : Nat) : Int) == (c : Int)) = false := beq_eq_false_iff_ne.2 j1
                generalize c - 32 = cu at *
                go_wp2_with (refine F2.mono ?_; rintro e w4 ⟨rfl, rfl⟩)
                go_roundw
                case measure => exact hms
                case rel => exact ⟨trivial, hor2⟩
              · have j1 : ¬ ((383 : Int) = (c : Int)) := by omega
                have j3 : ((383 : Int) == (c : Int)) = false := beq_eq_false_iff_ne.2 j1
                have hms : msF c (.int .i32 83) < msF c (.int .i32 383) := by rw [h5]; decide
                have hor2 : OrI c (.int .i32 83) := .inl (by rw [h5]; rfl)
                clear h5
                rcases Nat.lt_trichotomy 383 D with hl | he | hg
                · have j2 : (383 : Int) < (D : Int) := by omega
                  go_wp2_with (refine F3.mono ?_; rintro e w4 ⟨rfl, rfl⟩)
                  go_roundw
                  case measure => exact hms
                  case rel => exact ⟨trivial, hor2⟩
                · have j2 : ¬ (383 : Int) < (D : Int) := by omega
                  have j4 : ((383 : Int) == (D : Int)) = true := by rw [← he]; rfl
                  have hgo2 := hgo he.symm
                  clear he hgo
                  go_wp2
                  go_roundw
                  case measure => exact hmea
                  case rel => exact hgo2
                · have j2 : ¬ (383 : Int) < (D : Int) := by omega
                  have j4 : ((383 : Int) == (D : Int)) = false := beq_eq_false_iff_ne.2 (by omega)
                  go_wp2
                  simp only [Exit.jump]
                  go_ret
                  exact ⟨rfl, hB2⟩
              · have j1 : ((c : Int) == (c : Int)) = true := by simp
                go_wp2
                simp only [Exit.jump]
                go_ret
                exact ⟨rfl, hB2⟩
      · have hnx := fun ty => Lib.run_next_end_at (P := Tryz.prog) wr w.heap.size E p ty hit hp
        have g2 : ¬ ((TR.size : Int) = 0) := by omega
        have g2b : ((TR.size : Int) == 0) = false := beq_eq_false_iff_ne.2 (by omega)
        clear hTRs
        go_wp2
        simp only [Exit.jump]
        go_ret
        exact ⟨rfl, hB⟩
theorem fold_low8 (x y : UInt8) (hy : y.toNat ∈ lets) : Lib.foldEq x y = (lowB x == y) := by
  have hb := lets_bnd hy
  have hx := UInt8.toNat_lt x
  unfold Lib.foldEq lowB
  by_cases h1 : 65 ≤ x ∧ x ≤ 90
  · have h2 : 65 ≤ x.toNat ∧ x.toNat ≤ 90 := by simpa [UInt8.le_iff_toNat_le] using h1
    rw [if_pos h1]
    have e : (x + 32).toNat = x.toNat + 32 := by rw [UInt8.toNat_add]; show (x.toNat + 32) % 256 = _; omega
    by_cases h3 : y.toNat = x.toNat + 32
    · have h4 : x + 32 = y := UInt8.toNat_inj.1 (by rw [e, h3])
      rw [h4, decide_eq_true (.inr (.inl ⟨h2.1, h2.2, h3⟩))]; simp
    · have h4 : ¬ x + 32 = y := fun h => h3 (by rw [← h, e])
      rw [decide_eq_false (by omega)]; simp [h4]
  · have h2 : ¬ (65 ≤ x.toNat ∧ x.toNat ≤ 90) := fun h => h1 (by simpa [UInt8.le_iff_toNat_le] using h)
    rw [if_neg h1]
    by_cases h3 : x.toNat = y.toNat
    · have h4 : x = y := UInt8.toNat_inj.1 h3
      rw [h4, decide_eq_true (.inl rfl)]; simp
    · have h4 : ¬ x = y := fun h => h3 (by rw [h])
      rw [decide_eq_false (by omega)]; simp [h4]
theorem fold_lowL : ∀ (x y : Ln), (∀ b ∈ y, b.toNat ∈ lets) → Lib.equalFold x y = (x.map lowB == y)
  | [], [], _ => rfl
  | [], _ :: _, _ => rfl
  | _ :: _, [], _ => rfl
  | a :: x, b :: y, h => by
    rw [Lib.equalFold, fold_low8 a b (h b List.mem_cons_self), fold_lowL x y (fun c hc => h c (List.mem_cons_of_mem _ hc))]; rfl
theorem first_high (s : ByteArray) : ∀ (n j : Nat) (h : j < s.size), j < n → ¬ (s[j]'h).toNat < 128 → ∃ (i : Nat) (h : i < s.size), 128 ≤ (s[i]'h).toNat ∧ ∀ (k : Nat) (hk : k < s.size), k < i → (s[k]'hk).toNat < 128
  | 0, j, _, hn, _ => by omega
  | n + 1, j, h, hn, hb => by
    by_cases hall : ∀ (k : Nat) (hk : k < s.size), k < j → (s[k]'hk).toNat < 128
    · exact ⟨j, h, by omega, hall⟩
    · simp only [Classical.not_forall] at hall
      obtain ⟨k, hk, hkj, hkb⟩ := hall
      exact first_high s n k hk (by omega) hkb
theorem low_high (x : UInt8) (h : 128 ≤ x.toNat) : lowB x = x := by
  unfold lowB
  exact if_neg (fun h2 => by have := h2.2; rw [UInt8.le_iff_toNat_le] at this; have : x.toNat ≤ 90 := this; omega)
theorem eqf : EqF := by
  intro s t w ht hsz hT
  have hl : ∀ b ∈ un t, b.toNat ∈ lets := by
    rcases ht with rfl | rfl <;> decide
  by_cases hall : ∀ (j : Nat) (h : j < s.size), (s[j]'h).toNat < 128
  · have ⟨h1, h2⟩ := word_size ht
    have h := Tryz.strings_EqualFold s t w (by omega) (fun j b hj => by
        have hj' : (un s)[j]? = some b := hj
        have hlt : j < s.size := by have := (List.getElem?_eq_some_iff.1 hj').1; rwa [un_length] at this
        rw [un_getElem? s j hlt] at hj'
        rw [← Option.some.inj hj']; exact hall j hlt) (fun j b hj => by
        have := lets_bnd (hl b (List.mem_of_getElem? hj)); omega)
    refine h.mono ?_
    rintro e w' ⟨rfl, rfl⟩
    exact ⟨by rw [← fold_lowL _ _ hl]; rfl, Below.refl _ _⟩
  · simp only [Classical.not_forall] at hall
    obtain ⟨j, hj, hb⟩ := hall
    obtain ⟨i, hi, h1, h2⟩ := first_high s (j + 1) j hj (by omega) hb
    refine (eqf_high s t w ht hsz hT i hi h1 h2).mono ?_
    rintro e w' ⟨rfl, hb⟩
    refine ⟨?_, hb⟩
    have hne : ((un s).map lowB == un t) = false := by
      rw [beq_eq_false_iff_ne]
      intro e
      have hm : lowB (s[i]'hi) ∈ un t := by
        rw [← e]; exact List.mem_map_of_mem (List.mem_of_getElem? (un_getElem? s i hi))
      rw [low_high _ h1] at hm
      have := lets_bnd (hl _ hm)
      omega
    rw [hne]
end Go.Proofs.YtjgijbeedgggdaaGreatDoor
