/- DigestKnown, walked: the examples; and what the other statements say of known texts, widths and lists. -/
import Derived.Test.YtodgcmhkojkpcaaGreatDoorWorks3
import Derived.Test.YtodgcmhkojkpcaaGreatDoorKnowD
import Derived.Test.YtodgcmhkojkpcaaGreatDoorSumsD
import Derived.Test.YtodgcmhkojkpcaaGreatDoorWrapD
import Derived.Laws.AppendOwn
import Derived.Test.YtodgcmhkojkpcaaGreatDoorBld
import Derived.Test.YtodgcmhkojkpcaaGreatDoorRefPieces
import Derived.Test.YtodgcmhkojkpcaaGreatDoorLent
import Derived.Test.YtodgcmhkojkpcaaGreatDoorRefClash
import Derived.Test.YtodgcmhkojkpcaaGreatDoorDigEq
import Derived.Test.YtodgcmhkojkpcaaGreatDoorText
import Derived.Test.YtodgcmhkojkpcaaGreatDoorRefText
import Derived.Test.YtodgcmhkojkpcaaGreatDoorParse3
import Derived.Test.YtodgcmhkojkpcaaGreatDoorRefParse
import Derived.Test.YtodgcmhkojkpcaaGreatDoorPlain
import Derived.Test.YtodgcmhkojkpcaaGreatDoorFew
import Derived.Deep.QuietTactic
import Derived.BigQuiet
import Derived.Test.YtodgcmhkojkpcaaGreatDoorSame
import Derived.Test.YtodgcmhkojkpcaaGreatDoorLay3
import Derived.Test.YtodgcmhkojkpcaaGreatDoorCut3
import Derived.Laws.AppendOwnNone
import Derived.Test.YtodgcmhkojkpcaaGreatDoorTextsD
import Derived.Test.YtodgcmhkojkpcaaGreatDoorLaidD
import Derived.Test.YtodgcmhkojkpcaaGreatDoorLawSums
import Derived.Test.YtodgcmhkojkpcaaGreatDoorLawHashes
import Derived.Test.YtodgcmhkojkpcaaGreatDoorLawCuts
import Derived.Test.YtodgcmhkojkpcaaGreatDoorLawPlaces

namespace Go.Proofs.YtodgcmhkojkpcaaGreatDoor
open Go Go.RowKit

def noneD : List UInt8 := [0xe3, 0xb0, 0xc4, 0x42, 0x98, 0xfc, 0x1c, 0x14, 0x9a, 0xfb, 0xf4, 0xc8, 0x99, 0x6f, 0xb9, 0x24, 0x27, 0xae, 0x41, 0xe4, 0x64, 0x9b, 0x93, 0x4c, 0xa4, 0x95, 0x99, 0x1b, 0x78, 0x52, 0xb8, 0x55]
set_option maxRecDepth 100000 in
theorem none_sum : sumB 32 [] = noneD := by decide +kernel
def noneT : ByteArray := ⟨([115, 104, 97, 50, 53, 54, 58, 101, 51, 98, 48, 99, 52, 52, 50, 57, 56, 102, 99, 49, 99, 49, 52, 57, 97, 102, 98, 102, 52, 99, 56, 57, 57, 54, 102].append [98, 57, 50, 52, 50, 55, 97, 101, 52, 49, 101, 52, 54, 52, 57, 98, 57, 51, 52, 99, 97, 52, 57, 53, 57, 57, 49, 98, 55, 56, 53, 50, 98, 56, 53, 53]).toArray⟩
theorem none_text : bs (textL noneD) = noneT := by decide +kernel
theorem text_none (w : World) : Calls Tryz.prog 9 #[.agg (dig32 noneD)] w fun e w' => e = .returned (.string noneT) ∧ Below w.heap.size w w' := by
  have h := text_p noneD rfl w
  rw [none_text] at h; exact h
theorem sum_none (w : World) (hk : KTab w) : Calls Tryz.prog 10 #[.int .i64 32, .string ⟨#[]⟩] w fun e w' => e = .returned (.agg (dig32 noneD)) ∧ Below w.heap.size w w' := by
  have h := sum_p 32 ⟨#[]⟩ w hk (by decide)
  rw [width32, show sumB 32 (un ⟨#[]⟩) = noneD from none_sum] at h; exact h
theorem width99 : widthN 99 = 32 := rfl
theorem sum_abc99 (w : World) (hk : KTab w) : Calls Tryz.prog 10 #[.int .i64 99, .string ⟨#[97, 98, 99]⟩] w fun e w' => e = .returned (.agg (dig32 abcD)) ∧ Below w.heap.size w w' := by
  have h := sum_p 99 ⟨#[97, 98, 99]⟩ w hk (by decide)
  rw [width99, show sumB 32 (un ⟨#[97, 98, 99]⟩) = abcD from abc_sum] at h; exact h
set_option maxRecDepth 100000 in
theorem none_eq : (noneT.toList == [115, 104, 97, 50, 53, 54, 58, 101, 51, 98, 48, 99, 52, 52, 50, 57, 56, 102, 99, 49, 99, 49, 52, 57, 97, 102, 98, 102, 52, 99, 56, 57, 57, 54, 102, 98, 57, 50, 52, 50, 55, 97, 101, 52, 49, 101, 52, 54, 52, 57, 98, 57, 51, 52, 99, 97, 52, 57, 53, 57, 57, 49, 98, 55, 56, 53, 50, 98, 56, 53, 53]) = true := by rw [toList_un]; decide +kernel
set_option maxRecDepth 100000 in
theorem abc_eq : (abcT.toList == [115, 104, 97, 50, 53, 54, 58, 98, 97, 55, 56, 49, 54, 98, 102, 56, 102, 48, 49, 99, 102, 101, 97, 52, 49, 52, 49, 52, 48, 100, 101, 53, 100, 97, 101, 50, 50, 50, 51, 98, 48, 48, 51, 54, 49, 97, 51, 57, 54, 49, 55, 55, 97, 57, 99, 98, 52, 49, 48, 102, 102, 54, 49, 102, 50, 48, 48, 49, 53, 97, 100]) = true := by rw [toList_un]; decide +kernel
set_option maxRecDepth 100000 in
set_option maxHeartbeats 1000000 in
theorem shown_p (w : World) (hk : KTab w) (hp : Pow10 w) : Calls Tryz.prog 4 #[] w fun e w' => e = .returned (.bool true) ∧ Below w.heap.size w w' := by
  have hg := var_lt l_k hk
  have hkb : ∀ W, Below w.heap.size w W → KTab W := fun W b => var?_below b l_k hg hk
  have S1 := sum_none w hk
  have T1 := fun W => text_none W
  have S2 := fun W hW => sum_abc99 W hW
  have T2 := fun W => text_abc W
  have e1 := none_eq
  have e2 := abc_eq
  go_enter Tryz.func4, Tryz.ntmps4
  go_wp2_with (first
    | (go_at_call 10; first | (with_reducible refine S1.mono ?_; rintro e w1 ⟨rfl, b1⟩) | (with_reducible refine (S2 _ (hkb _ B2)).mono ?_; rintro e w3 ⟨rfl, b3⟩; have B3 := below_join B2 b3))
    | (go_at_call 9; first | (with_reducible refine (T1 _).mono ?_; rintro e w2 ⟨rfl, b2⟩; have B2 := below_join b1 b2) | (with_reducible refine (T2 _).mono ?_; rintro e w4 ⟨rfl, b4⟩; have B4 := below_join B3 b4))
    | (go_at_call 11; refine (works_p _ (hkb _ B4) (hp.below B4)).mono ?_; rintro e w5 ⟨rfl, b5⟩))
  go_ret
  exact ⟨rfl, below_join B4 b5⟩
end Go.Proofs.YtodgcmhkojkpcaaGreatDoor

namespace Go.Proofs.YtodgcmhkojkpcaaGreatDoor
open Go Go.RowKit

theorem wpList_append_own_g {P : Program} {w : World} {ops : Array Oper} {rest : List Oper} {o : Oper} {a : Act} {Q : Exit → Act → World → Prop} (hw : Region.wanted o (yielded ops a.tmps) = true) (s x : Operand) (t : TypeId)
    (ho : o.op = .call { callee := .builtin .append, args := #[s, x], argTypes := #[t, t] })
    (base : Nat) (e : TypeId) (i : TypeInfo) (z : Value) (size bytes : Nat) (ht : P.underlying t = some (.slice e)) (hi : P.info? e = some i) (hz : i.zero = some z)
    (hsize : i.size = size) (hby : i.bytes = bytes) (hzs : z.cells.size = size) (hsz : 0 < size)
    (v : Value) (n : Nat) (xs : List Value) (hs : a.eval s = v) (hown : w.ownsRow base e size v n xs)
    (ad : Addr) (m c : Nat) (news : List Value) (hx : a.eval x = .slice (some ad) m c) (hl : news.length = m * size) (hnews : ∀ j u, news[j]? = some u → w.cell? (ad.add j) = some u) (h1 : ∀ u ∈ news, u.oneCell' = true)
    (h63 : n + m ≤ maxLen) (hbytes : (n + m) * bytes ≤ 140737488355328) (hbase : base ≤ w.heap.size)
    (h : ∀ v' w', w'.ownsRow base e size v' (n + m) (xs ++ news) → w.grownBy w' v.ownBlock → wpList P ops Q rest (a.put o.dst v') w') : wpList P ops Q (o :: rest) a w := by
  unfold wpList
  rw [if_pos hw]
  exact .inl (wp_append_own w s x t ho base e i z size bytes ht hi hz hsize hby hzs hsz v n xs hs hown ad m c news hx hl hnews h1 h63 hbytes hbase fun v' w' h2 h3 _ => h v' w' h2 h3)
theorem strs_one (l : List ByteArray) : ∀ u ∈ strs l, u.oneCell' = true := by
  intro u hu
  unfold strs at hu
  obtain ⟨y, _, rfl⟩ := List.mem_map.1 hu
  rfl
theorem own_cells {W : World} {B : Nat} {g cap n : Nat} {l : List ByteArray} (h : W.ownsRow B 9 1 (.slice (some ⟨g, 0, none⟩) n cap) n (strs l)) : ∀ j u, (strs l)[j]? = some u → W.cell? ((⟨g, 0, none⟩ : Addr).add j) = some u := by
  intro j u hu
  rw [Addr.add_mid, Nat.zero_add]
  exact row_cell h j u hu
theorem one_text (w : World) (s : ByteArray) : TextsAt (w.alloc (.cells #[.string s] 9)) (.slice (some ⟨w.heap.size, 0, none⟩) 1 1) [s] := TextsAt.block (l := [s]) (t := 9) (Lies.new' w 9 (strs [s]).toArray) 1 1 rfl
def five : List ByteArray := [⟨#[97]⟩, ⟨#[97]⟩, ⟨#[]⟩, ⟨#[]⟩, ⟨#[97]⟩]
set_option maxRecDepth 100000 in
set_option maxHeartbeats 4000000 in
theorem clashes_p (G : World → Prop) (hGb : ∀ {u v : World}, G u → Below u.heap.size u v → G v) (HC : Hid (SaysL G 22)) (w : World) (hG : G w) : Calls Tryz.prog 8 #[] w (True' w) := by
  have HG : Hid (G w) := hG
  clear hG
  obtain ⟨i0, hi, z0, z1, z2⟩ := info_parts str_info
  go_enter Tryz.func8, Tryz.ntmps8
  go_wp2
  go_loopw [1, 2] (fun v n wr => ∃ (k : Nat) (L : List ByteArray), k ≤ 60 ∧ n = .int .i64 k ∧ L.length = k ∧ wt L ≤ 2 * k ∧ wr.ownsRow w.heap.size 9 1 v k (strs L) ∧ Below w.heap.size w wr) (fun _ n _ => 60 - (intOf n).toNat)
  case atStart => exact ⟨0, [], by omega, rfl, rfl, by decide, World.ownsRow_nil _ _ _ _, Below.refl _ _⟩
  case round =>
    obtain ⟨k, L, hk, rfl, hL, hwt, hown, hB⟩ := hrel
    by_cases hlt : k < 60
    · have hlt' : (k : Int) < 60 := by omega
      have hk0 : (0 : Int) ≤ (k : Int) := by omega
      have hcv := conv_byte (UInt8.ofNat k) (k : Int) (by show ((k % 256 : Nat) : Int) = _; omega) wr
      have zS : (bs [UInt8.ofNat k]).size = 1 := rfl
      generalize bs [UInt8.ofNat k] = S at *
      have hsz := hB.size
      have HZ : Hid (S.size = 1) := zS
      have HL : Hid (L.length = k) := hL
      have HT : Hid (wt L ≤ 2 * k) := hwt
      clear zS hL hwt
      go_wp2_with (at_builtin; refine wpList_append_own _ rfl _ _ 29 rfl w.heap.size 9 i0 (.string ⟨#[]⟩) 1 16 Tryz.underlying29 hi z0 z1 z2 rfl (by decide) _ _ _ rfl ((hown.alloc _).alloc _) ⟨wr.heap.size + 1, 0, none⟩ 1 1 [.string S] rfl rfl ?c1 ?c2 ?c3 ?c4 ?c5 ?_)
      case c1 =>
        intro j u hj
        rcases j with _ | j
        · simp at hj; subst hj
          have := (Lies.new (wr.alloc (.cells #[.int .u8 (k : Int)] 5)) 9 #[.string S]).cell (i := 0) rfl
          rw [World.size_alloc] at this
          exact this
        · simp at hj
      case c2 => intro u hu; simp at hu; subst hu; rfl
      case c3 => unfold maxLen; omega
      case c4 => omega
      case c5 => simp; omega
      intro v' w2 hown' hgr _
      have HB2 : Hid (Below w.heap.size w w2) := ((hB.alloc hsz _).alloc (by simp; omega) _).grown hgr (by simp; omega) (fun r hr => (hown.lt r hr).1)
      have HO2 : Hid (w2.ownsRow w.heap.size 9 1 v' (k + 1) (strs (L ++ [S]))) := by
        unfold Hid; rw [strs_append]; exact hown'
      have HW2 : Hid (wt (L ++ [S]) ≤ 2 * (k + 1)) := by
        unfold Hid; rw [wt_append]; have := HT.out; have := HZ.out; simp [wt] at *; omega
      have HL2 : Hid ((L ++ [S]).length = k + 1) := by unfold Hid; rw [List.length_append, HL.out]; rfl
      clear hown hown' hgr hB hcv HT HZ HL
      generalize L ++ [S] = L2 at *
      go_wp2
      go_loopw [3] (fun n wr => ∃ q : Nat, q ≤ 3 ∧ n = .int .i64 q ∧ wr.ownsRow w.heap.size 9 1 v' (k + 1) (strs L2) ∧ Below w.heap.size w wr) (fun n _ => 3 - (intOf n).toNat)
      case atStart => exact ⟨0, by omega, rfl, HO2.out, HB2.out⟩
      case round =>
        obtain ⟨q, hq, rfl, hown, hB⟩ := hrel
        by_cases hlt2 : q < 3
        · have hlt2' : (q : Int) < 3 := by omega
          have HC1 := HC.out (q : Int) L2 v' (by have := HW2.out; omega) wr (TextsAt.own (B := w.heap.size) (by rw [HL2.out]; exact hown)) (hGb HG.out hB)
          go_wp2_with (go_at_call 22; refine HC1.mono ?_; rintro e w3 ⟨rfl, b3⟩)
          go_roundw
          case rel => exact ⟨q + 1, by omega, by go_num, own_below hown b3, below_join hB b3⟩
          case measure => simp [intOf]; omega
        · have hge2 : ¬ (q : Int) < 3 := by omega
          go_wp2
          go_roundw
          case rel => exact ⟨k + 1, L2, by omega, by go_num, HL2.out, HW2.out, hown, hB⟩
          case measure => simp [intOf]; omega
    · have hge : ¬ (k : Int) < 60 := by omega
      have hsz := hB.size
      have hown0 := hown
      rcases hown.2 with ⟨rfl, h0⟩ | ⟨g, cap, cur, rfl, hgb, hgl, hcap, hcm, hcs, hct⟩
      · omega
      have hlt : g < wr.heap.size := (Array.getElem?_eq_some_iff.1 hgl).1
      clear hown hgl hcs hct
      have own5 : (wr.alloc (.cells #[.string ⟨#[97]⟩, .string ⟨#[97]⟩, .string ⟨#[]⟩, .string ⟨#[]⟩, .string ⟨#[97]⟩] 9)).ownsRow w.heap.size 9 1 (.slice (some ⟨wr.heap.size, 0, none⟩) 5 5) 5 (strs five) := ⟨rfl, .inr ⟨wr.heap.size, 5, #[.string ⟨#[97]⟩, .string ⟨#[97]⟩, .string ⟨#[]⟩, .string ⟨#[]⟩, .string ⟨#[97]⟩], rfl, hsz, Lies.new wr _ _, Nat.le_refl _, by decide, rfl, rfl⟩⟩
      have ownL : (wr.alloc (.cells #[.string ⟨#[97]⟩, .string ⟨#[97]⟩, .string ⟨#[]⟩, .string ⟨#[]⟩, .string ⟨#[97]⟩] 9)).ownsRow w.heap.size 9 1 (.slice (some ⟨g, 0, none⟩) k cap) k (strs L) := hown0.alloc _
      have hBa : Below w.heap.size w (wr.alloc (.cells #[.string ⟨#[97]⟩, .string ⟨#[97]⟩, .string ⟨#[]⟩, .string ⟨#[]⟩, .string ⟨#[97]⟩] 9)) := hB.alloc hsz _
      have hsa : (wr.alloc (.cells #[.string ⟨#[97]⟩, .string ⟨#[97]⟩, .string ⟨#[]⟩, .string ⟨#[]⟩, .string ⟨#[97]⟩] 9)).heap.size = wr.heap.size + 1 := by simp
      have hne : (Value.slice (some ⟨g, 0, none⟩) k cap).ownBlock = none ∨ (Value.slice (some ⟨g, 0, none⟩) k cap).ownBlock ≠ (Value.slice (some ⟨wr.heap.size, 0, none⟩) 5 5).ownBlock := .inr (fun e => by have e' : g = wr.heap.size := Option.some.inj (show some g = some wr.heap.size from e); omega)
      go_upto_region 11 with fail
      have HC1 : Hid (∀ (n : Int) (l : List ByteArray) (v : Value) W, wt l ≤ 1000000 → TextsAt W v l → Below w.heap.size w W → Calls Tryz.prog 22 #[.int .i64 n, v] W (True' W)) := fun n l v W h1 h2 h3 => HC.out n l v h1 W h2 (hGb HG.out h3)
      have hw5 : wt five = 8 := by decide
      go_wp2_with (first
        | (at_builtin; refine wpList_append_own _ rfl _ _ 29 rfl w.heap.size 9 i0 (.string ⟨#[]⟩) 1 16 Tryz.underlying29 hi z0 z1 z2 rfl (by decide) _ _ _ rfl own5 ⟨g, 0, none⟩ k cap (strs L) rfl (by rw [strs_length, hL, Nat.mul_one]) (own_cells ownL) (strs_one L) (by unfold maxLen; omega) (by omega) (by rw [hsa]; omega) ?_; intro v1 w1 own1 gr1 _; have B1 : Below w.heap.size w w1 := hBa.grown gr1 (by rw [hsa]; omega) (fun r hr => (own5.lt r hr).1); have ownL1 := ownL.kept gr1 hne; have T1 : TextsAt w1 v1 (five ++ L) := TextsAt.own (B := w.heap.size) (by rw [strs_append, List.length_append, hL]; exact own1); have C1 := HC1.out 1 (five ++ L) v1 w1 (by rw [wt_append]; omega) T1 B1)
        | (go_at_call 22; first
           | (with_reducible refine C1.mono ?_; rintro e w2 ⟨rfl, b2⟩; have B2 := below_join B1 b2; have ownL2 := own_below ownL1 b2)
           | (with_reducible refine C3.mono ?_; rintro e w4 ⟨rfl, b4⟩; have B4 := below_join B3 b4; have C4 := HC1.out 1 [] (.slice none 0 0) w4 (by decide) (TextsAt.nil w4) B4)
           | (with_reducible refine C4.mono ?_; rintro e w5 ⟨rfl, b5⟩; have B5 := below_join B4 b5; have T5 : TextsAt (w5.alloc (.cells #[.string ⟨#[120]⟩] 9)) (.slice (some ⟨w5.heap.size, 0, none⟩) 1 1) [⟨#[120]⟩] := one_text w5 ⟨#[120]⟩; have B5a : Below w.heap.size w (w5.alloc (.cells #[.string ⟨#[120]⟩] 9)) := B5.alloc B5.size _; have C5 := HC1.out 1 [⟨#[120]⟩] _ _ (by decide) T5 B5a)
           | (with_reducible refine C5.mono ?_; rintro e w6 ⟨rfl, b6⟩; have B6 := below_join B5a b6))
        | (at_builtin; refine wpList_append_own_g rfl _ _ 29 rfl w.heap.size 9 i0 (.string ⟨#[]⟩) 1 16 Tryz.underlying29 hi z0 z1 z2 rfl (by decide) _ _ _ rfl ownL2 ⟨g, 0, none⟩ k cap (strs L) rfl (by rw [strs_length, hL, Nat.mul_one]) (own_cells ownL2) (strs_one L) (by unfold maxLen; omega) (by omega) B2.size ?_; intro v3 w3 own3 gr3; have B3 : Below w.heap.size w w3 := B2.grown gr3 B2.size (fun r hr => (ownL2.lt r hr).1); have T3 : TextsAt w3 v3 (L ++ L) := TextsAt.own (B := w.heap.size) (by rw [strs_append, List.length_append, hL]; exact own3); have C3 := HC1.out 32 (L ++ L) v3 w3 (by rw [wt_append]; omega) T3 B3))
      go_ret
      exact ⟨rfl, B6⟩
end Go.Proofs.YtodgcmhkojkpcaaGreatDoor

namespace Go.Proofs.YtodgcmhkojkpcaaGreatDoor
open Go Go.RowKit

set_option maxHeartbeats 2000000 in
set_option maxRecDepth 100000 in
theorem lays_law (l : List ByteArray) (v : Value) (w : World) (hk : KTab w) (hp : Pow10 w) (h : TextsAt w v l) (hll : l.length ≤ 8796093021952) (hxs : ∀ x ∈ l, x.size ≤ 140737488351232) : Calls Tryz.prog 20 #[v] w fun e w' => e = .returned (.bool true) ∧ Below w.heap.size w w' := by
  have hg := var_lt l_k hk
  have hss : ((piecesB l).toList == (piecesB l).toList) = true := by simp
  go_enter Tryz.func20, Tryz.ntmps20
  go_wp2_with fail
  refine (few_q l v w h (by omega) hxs).mono ?_
  clear hxs
  rintro e w0 ⟨rfl | ⟨rfl, hz⟩, hw0⟩
  · replace hw0 : w = w0 := hw0.symm
    subst hw0
    go_wp2
    go_ret
    exact ⟨rfl, Below.refl _ _⟩
  replace hw0 : w = w0 := hw0.symm
  subst hw0
  go_wp2_with fail
  refine (lent_p l v w h hll).mono ?_
  rintro e w1 ⟨u, rfl, hu1, B1⟩
  have h1 := h.below B1
  have p1 := hp.below B1
  go_wp2_with fail
  refine (pieces_q l u w1 p1 hu1.texts hll hz).mono ?_
  rintro e w2 ⟨rfl, b2⟩
  have hu2 := hu1.below b2
  have B2 := below_join B1 b2
  have h2 := h.below B2
  clear b2 hu1 h1 p1
  go_wp2_with fail
  refine (pieces_r l v w2 h2 hll hz).mono ?_
  rintro e w3 ⟨rfl, b3⟩
  have hu3 := hu2.below b3
  have B3 := below_join B2 b3
  have h3 := h.below B3
  clear b3 hu2 h2 B2
  go_wp2_with fail
  refine (kept_p l u v w3 hu3 h3 hll).mono ?_
  rintro e w4 ⟨rfl, b4⟩
  have B4 := below_join B3 b4
  go_wp2_with fail
  refine (works_p _ (var?_below B4 l_k hg hk) (hp.below B4)).mono ?_
  rintro e w5 ⟨rfl, b5⟩
  have B5 := below_join B4 b5
  go_wp2
  go_ret
  exact ⟨rfl, B5⟩
end Go.Proofs.YtodgcmhkojkpcaaGreatDoor

namespace Go.Proofs.YtodgcmhkojkpcaaGreatDoor
open Go Go.RowKit

set_option maxHeartbeats 4000000 in
set_option maxRecDepth 100000 in
theorem clashes_law (n : Int) (l : List ByteArray) (v : Value) (w : World) (hk : KTab w) (hr : RTab w) (hbt : BTab w) (hp : Pow10 w) (h : TextsAt w v l) (hz : wt l ≤ 1048576) : Calls Tryz.prog 22 #[.int .i64 n, v] w fun e w' => e = .returned (.bool true) ∧ Below w.heap.size w w' := by
  have hg := var_lt l_k hk
  have hln := length_wt l
  have hll : l.length ≤ 8796093021952 := by omega
  go_enter Tryz.func22, Tryz.ntmps22
  go_wp2_with fail
  refine (few_p l v w h hz).mono ?_
  rintro e w0 ⟨rfl, hw0⟩
  replace hw0 : w = w0 := hw0.symm
  subst hw0
  go_wp2_with fail
  refine (clash_r n l v w hr hbt h hz).mono ?_
  rintro e w1 ⟨i, j, ok, rfl, hc1, B1⟩
  have h1 := h.below B1
  go_wp2_with fail
  refine (lent_p l v w1 h1 hll).mono ?_
  rintro e w2 ⟨u, rfl, hu2, b2⟩
  have B2 := below_join B1 b2
  have h2 := h.below B2
  clear b2 h1
  go_wp2_with fail
  refine (clash_p n l u w2 (var?_below B2 l_k hg hk) hu2.texts hz).mono ?_
  rintro e w3 ⟨i2, j2, ok2, rfl, hc3, b3⟩
  obtain ⟨rfl, rfl, rfl⟩ := hc3.same hc1
  have hu3 := hu2.below b3
  have B3 := below_join B2 b3
  have h3 := h.below B3
  clear b3 hu2 h2 B2 hc1 hc3
  cases ok2
  all_goals go_wp2_with fail
  all_goals refine (kept_p l u v w3 hu3 h3 hll).mono ?_
  all_goals rintro e w4 ⟨rfl, b4⟩
  all_goals have B4 := below_join B3 b4
  all_goals go_wp2_with fail
  all_goals refine (works_p _ (var?_below B4 l_k hg hk) (hp.below B4)).mono ?_
  all_goals rintro e w5 ⟨rfl, b5⟩
  all_goals have B5 := below_join B4 b5
  all_goals go_wp2
  all_goals go_ret
  all_goals exact ⟨rfl, B5⟩
end Go.Proofs.YtodgcmhkojkpcaaGreatDoor

namespace Go.Proofs.YtodgcmhkojkpcaaGreatDoor
open Go Go.RowKit

set_option maxRecDepth 100000 in
set_option maxHeartbeats 4000000 in
theorem texts_law (l : List UInt8) (hl : l.length = 32) (w : World) : Calls Tryz.prog 17 #[.agg (dig32 l)] w fun e w' => e = .returned (.bool true) ∧ Below w.heap.size w w' := by
  have hz := (zero_of_info (P := Tryz.prog) info_digest).1
  have hi : (Tryz.prog.info? 25).map (·.size) = some (dig32 l).size := by rw [dig32_size, hl]; kernel_rfl
  have hP := fun W => parse_p (bs (textL l)) W
  unfold ParsePost at hP
  simp only [un_bs, parse_text l hl] at hP
  have hll : (l == l) = true := by simp
  have heq := fun W => eq_dig l l hl hl W
  simp only [hll] at heq
  clear hll
  have hss : ((bs (textL l)).toList == (bs (textL l)).toList) = true := by simp
  have hL0 := Lies.new w 25 (dig32 l)
  have hB0 : Below w.heap.size w (w.alloc (.cells (dig32 l) 25)) := (Below.refl _ w).alloc (Nat.le_refl _) _
  go_enter Tryz.func17, Tryz.ntmps17
  go_wp2_with (refine wpList_load_row rfl 25 (.tmp 1) rfl w.heap.size rfl 25 (dig32 l) (0, 0) _ hL0 Tryz.underlying25 rfl hi ?_)
  refine (text_p l hl _).mono ?_
  rintro e w1 ⟨rfl, b1⟩
  have hL1 := hL0.below b1
  have hB1 := below_join hB0 b1
  clear hL0 hB0 b1
  go_wp2_with fail
  refine (hP _).mono ?_
  rintro e w2 ⟨rfl, b2⟩
  have hL2 := hL1.below b2
  have hB2 := below_join hB1 b2
  clear hL1 hB1 b2
  have hL3 : Lies ((w2.alloc (.cells (dig32 zeros) 25)).setRow w2.heap.size (dig32 l)) w.heap.size 25 (dig32 l) := (hL2.alloc _).otherRow _ (by have := hL2.lt; omega)
  have hN3 : Lies ((w2.alloc (.cells (dig32 zeros) 25)).setRow w2.heap.size (dig32 l)) w2.heap.size 25 (dig32 l) := (Lies.new w2 _ _).row _
  have hB3 : Below w.heap.size w ((w2.alloc (.cells (dig32 zeros) 25)).setRow w2.heap.size (dig32 l)) := below_setRow (hB2.alloc hB2.size _) hB2.size _
  go_wp2_with (first
    | (refine wpList_store_row rfl 25 (.tmp 4) (.tmp 11) rfl w2.heap.size (dig32 l) rfl rfl 25 (dig32 zeros) (Lies.new w2 _ _) hi (by rw [dig32_size, dig32_size, hl]; rfl) (dig32_one _) ?_)
    | (refine wpList_load_row rfl 25 (.tmp 1) rfl w.heap.size rfl 25 (dig32 l) (0, 0) _ hL3 Tryz.underlying25 rfl hi ?_))
  refine (text_r l hl _).mono ?_
  rintro e w4 ⟨rfl, b4⟩
  have hL4 := hL3.below b4
  have hN4 := hN3.below b4
  have hB4 := below_join hB3 b4
  clear hL3 hN3 hB3 b4
  go_wp2_with (first
    | (refine wpList_load_row_g rfl 25 (.tmp 4) rfl w2.heap.size rfl 25 (dig32 l) (0, 0) _ hN4 Tryz.underlying25 rfl hi ?_)
    | (refine wpList_load_row_g rfl 25 (.tmp 1) rfl w.heap.size rfl 25 (dig32 l) (0, 0) _ hL4 Tryz.underlying25 rfl hi ?_))
  go_ret
  exact ⟨rfl, hB4⟩
end Go.Proofs.YtodgcmhkojkpcaaGreatDoor

namespace Go.Proofs.YtodgcmhkojkpcaaGreatDoor
open Go Go.RowKit

set_option maxRecDepth 100000 in
theorem eq_selfP (m : List UInt8) (hm : m.length = 32) (w : World) : (Op.equalIn 10000 25 (.agg (dig32 m)) (.agg (dig32 m))).run Tryz.prog w = .ok true w := by
  have h := eq_dig m m hm hm w
  have e : (m == m) = true := by simp
  rwa [e] at h
theorem parseL_length {s d : List UInt8} (h : parseL s = some d) : d.length = 32 := by
  unfold parseL at h
  split at h
  · exact upTo_length h
  · cases h

set_option maxRecDepth 100000 in
set_option maxHeartbeats 4000000 in
theorem parses_core (s : ByteArray) (w : World) (hk : KTab w) (hp : Pow10 w) (he : ErrType w) (D : List UInt8) (hdl : D.length = 32) (n : Int) (ev : Value)
    (hR : Calls Tryz.prog 33 #[.string s] w fun e w' => e = .returned (.tuple #[.agg (dig32 D), .int .i64 n]) ∧ Below w.heap.size w w')
    (hP : ∀ W, Calls Tryz.prog 34 #[.string s] W fun e w' => e = .returned (.tuple #[.agg (dig32 D), ev]) ∧ Below W.heap.size W w')
    (hPl : ∀ W, ErrType W → Calls Tryz.prog 35 #[ev, .int .i64 n] W fun e w' => e = .returned (.bool true) ∧ Below W.heap.size W w') :
    Calls Tryz.prog 16 #[.string s] w fun e w' => e = .returned (.bool true) ∧ Below w.heap.size w w' := by
  have hz := (zero_of_info (P := Tryz.prog) info_digest).1
  have hi : (Tryz.prog.info? 25).map (·.size) = some (dig32 D).size := by rw [dig32_size, hdl]; kernel_rfl
  have hzd : (dig32 zeros).size = (dig32 D).size := by rw [zeros_size, dig32_size, hdl]
  have ho := dig32_one D
  have hg := var_lt l_k hk
  have heq := fun W => eq_selfP D hdl W
  generalize dig32 D = X at *
  go_enter Tryz.func16, Tryz.ntmps16
  go_wp2_with fail
  refine hR.mono ?_
  rintro e w1 ⟨rfl, B1⟩
  have A1 : Lies (w1.alloc (.cells (dig32 zeros) 25)) w1.heap.size 25 (dig32 zeros) := Lies.new _ _ _
  have L1 : Lies ((w1.alloc (.cells (dig32 zeros) 25)).setRow w1.heap.size X) w1.heap.size 25 X := A1.row _
  have B2 : Below w.heap.size w ((w1.alloc (.cells (dig32 zeros) 25)).setRow w1.heap.size X) := below_setRow (B1.alloc B1.size _) B1.size _
  go_wp2_with (refine wpList_store_row rfl 25 (.tmp 3) (.tmp 10) rfl w1.heap.size X rfl rfl 25 (dig32 zeros) A1 hi hzd ho ?_)
  generalize hW2 : (w1.alloc (.cells (dig32 zeros) 25)).setRow w1.heap.size X = w2 at *
  have hlt1 := L1.lt
  clear hW2 A1 B1
  refine (hP _).mono ?_
  rintro e w3 ⟨rfl, b3⟩
  have B3 := below_join B2 b3
  have L3 := L1.below b3
  have A3 : Lies (w3.alloc (.cells (dig32 zeros) 25)) w3.heap.size 25 (dig32 zeros) := Lies.new _ _ _
  have LY : Lies ((w3.alloc (.cells (dig32 zeros) 25)).setRow w3.heap.size X) w3.heap.size 25 X := A3.row _
  have LX : Lies ((w3.alloc (.cells (dig32 zeros) 25)).setRow w3.heap.size X) w1.heap.size 25 X := (L3.alloc _).otherRow _ (by have := L3.lt; omega)
  have B4 : Below w.heap.size w ((w3.alloc (.cells (dig32 zeros) 25)).setRow w3.heap.size X) := below_setRow (B3.alloc B3.size _) B3.size _
  generalize hW4 : (w3.alloc (.cells (dig32 zeros) 25)).setRow w3.heap.size X = w4 at *
  go_wp2_with (first
    | (refine wpList_store_row rfl 25 (.tmp 5) (.tmp 15) rfl w3.heap.size X rfl rfl 25 (dig32 zeros) A3 hi hzd ho ?_; rw [hW4])
    | (refine wpList_load_row rfl 25 (.tmp 5) rfl w3.heap.size rfl 25 X (0, 0) _ LY Tryz.underlying25 rfl hi ?_)
    | (refine wpList_load_row rfl 25 (.tmp 3) rfl w1.heap.size rfl 25 X (0, 0) _ LX Tryz.underlying25 rfl hi ?_))
  refine (hPl _ (he.below B4)).mono ?_
  rintro e w5 ⟨rfl, b5⟩
  have B5 := below_join B4 b5
  go_wp2_with fail
  refine (works_p _ (var?_below B5 l_k hg hk) (hp.below B5)).mono ?_
  rintro e w6 ⟨rfl, b6⟩
  have B6 := below_join B5 b6
  go_wp2
  go_ret
  exact ⟨rfl, B6⟩

theorem parses_law (s : ByteArray) (w : World) (hk : KTab w) (hp : Pow10 w) (he : ErrType w) : Calls Tryz.prog 16 #[.string s] w fun e w' => e = .returned (.bool true) ∧ Below w.heap.size w w' := by
  have hR := parse_r s w
  have hP := fun W => parse_p s W
  unfold RPost at hR
  unfold ParsePost at hP
  cases hd : parseL (un s) with
  | some d =>
    simp only [hd] at hR hP
    exact parses_core s w hk hp he d (parseL_length hd) 0 .nilIface hR hP (fun W _ => plain_nil W)
  | none =>
    simp only [hd] at hR hP
    exact parses_core s w hk hp he zeros rfl 4 errForm hR hP (fun W h => plain_some 4 (by omega) (by omega) W h)
end Go.Proofs.YtodgcmhkojkpcaaGreatDoor

namespace Go.Proofs.YtodgcmhkojkpcaaGreatDoor
open Go Go.RowKit

/-- The texts one behind the other. -/
def catL (l : List ByteArray) : List UInt8 := l.flatMap un
theorem catL_take_succ (l : List ByteArray) (k : Nat) (x : ByteArray) (h : l[k]? = some x) : catL (l.take (k + 1)) = catL (l.take k) ++ un x := by
  obtain ⟨hk, he⟩ := List.getElem?_eq_some_iff.1 h
  rw [List.take_succ_eq_append_getElem hk, he]
  simp [catL]
theorem catL_length (l : List ByteArray) : (catL l).length = tot l := by
  unfold catL tot
  induction l with
  | nil => simp
  | cons x l ih => simp only [List.flatMap_cons, List.length_append, List.map_cons, List.sum_cons, un_length]; omega
set_option maxRecDepth 100000 in
theorem eq_self (m : List UInt8) (hm : m.length = 32) (w : World) : (Op.equalIn 10000 25 (.agg (dig32 m)) (.agg (dig32 m))).run Tryz.prog w = .ok true w := by
  have h := eq_dig m m hm hm w
  have e : (m == m) = true := by simp
  rwa [e] at h

set_option maxRecDepth 100000 in
set_option maxHeartbeats 4000000 in
theorem parted_law (n : Int) (l : List ByteArray) (u : Value) (w : World) (hk : KTab w) (hp : Pow10 w) (hu : TextsAt w u l) (hll : l.length ≤ 140737488351232) (hxs : ∀ x ∈ l, x.size ≤ 140737488351232) : Calls Tryz.prog 13 #[.int .i64 n, u] w fun e w' => e = .returned (.bool true) ∧ Below w.heap.size w w' := by
  have hg := var_lt l_k hk
  go_enter Tryz.func13, Tryz.ntmps13
  go_wp2_with fail
  refine (few_q l u w hu hll hxs).mono ?_
  clear hxs
  rintro e w0 ⟨rfl | ⟨rfl, hz⟩, hw0⟩
  · replace hw0 : w = w0 := hw0.symm
    subst hw0
    go_wp2
    go_ret
    exact ⟨rfl, Below.refl _ _⟩
  replace hw0 : w = w0 := hw0.symm
  subst hw0
  go_wp2_with fail
  refine (new_p n w).mono ?_
  rintro e w1 ⟨rfl, hw1⟩
  have hH1 := hash_new n w
  have B1 : Below w.heap.size w w1 := by rw [hw1]; exact (Below.refl _ w).alloc (Nat.le_refl _) _
  have s1 : w1.heap.size = w.heap.size + 1 := by rw [hw1, World.size_alloc]
  rw [← hw1] at hH1
  clear hw1
  go_wp2_with fail
  refine (new_p n w1).mono ?_
  rintro e w2 ⟨rfl, hw2⟩
  have hK2 := hash_new n w1
  have b2 : Below w1.heap.size w1 w2 := by rw [hw2]; exact (Below.refl _ w1).alloc (Nat.le_refl _) _
  rw [← hw2] at hK2
  have hH2 := hH1.below b2
  have B2 := below_join B1 b2
  rw [s1] at hK2
  clear hw2 hH1 B1 b2
  rw [s1]
  clear s1
  have hu2 := hu.below B2
  generalize hwd : widthN n = wd at *
  have hwd2 : wd ≤ 32 := by rw [← hwd]; exact widthN_le n
  obtain ⟨a, c, rfl, _, hc⟩ := hu
  have HC : Hid _ := hc
  clear hc
  go_wp2_with fail
  go_loopw [7, 8] (fun sv nv wr => ∃ (k : Nat) (s : ByteArray), k ≤ l.length ∧ nv = .int .i64 k ∧ sv = .string s ∧ un s = catL (l.take k) ∧ HashIs wr w.heap.size wd (un s) ∧ HashIs wr (w.heap.size + 1) wd (un s) ∧ Below w.heap.size w wr) (fun _ nv _ => l.length - (intOf nv).toNat)
  case atStart => exact ⟨0, ⟨#[]⟩, by omega, rfl, rfl, rfl, hH2, hK2, B2⟩
  case round =>
    obtain ⟨k, s, hkl, rfl, rfl, hs, hH, hK, hB⟩ := hrel
    have hsz : s.size ≤ 1048576 := by
      have h1 := catL_length (l.take k)
      rw [← hs, un_length] at h1
      have h2 := tot_take_le l k
      omega
    have hKT : KTab wr := var?_below hB l_k hg hk
    by_cases hlt : k < l.length
    · obtain ⟨x, hx⟩ : ∃ x, l[k]? = some x := ⟨_, List.getElem?_eq_getElem hlt⟩
      obtain ⟨b, o, rfl, hcell⟩ := HC.out k x hx
      have hbl := World.block_lt_of_cell? w _ hcell
      have hcell0 := hcell
      replace hcell := (hB.cell (p := ⟨b, o + k, none⟩) hbl).trans hcell
      have hxz : x.size ≤ 1048576 := by
        have := size_tot (l := l) (List.mem_of_getElem? hx); omega
      have H3 : Hid (un (s ++ x) = catL (l.take (k + 1))) := by unfold Hid; rw [un_append, catL_take_succ l k x hx, hs]
      have d1 : (0 : Int) ≤ (k : Int) := by omega
      have d2 : (k : Int) < (l.length : Int) := by omega
      have hbw : w.heap.size ≤ wr.heap.size := hB.size
      go_wp2_with fail
      refine (write_p x wd (un s) w.heap.size wr hH hKT (by omega) (by rw [un_length]; omega)).mono ?_
      rintro e w4 ⟨rfl, hH4, hT4⟩
      have B4 : Below w.heap.size w w4 := hB.grown hT4 hB.size (fun j hj => by have := Option.some.inj hj; omega)
      have hK4 := hK.turned hT4 (by omega)
      have hcell4 := (B4.cell (p := ⟨b, o + k, none⟩) hbl).trans hcell0
      have hKT4 : KTab w4 := var?_below B4 l_k hg hk
      clear hT4 hH hK hB hKT hcell hbw
      go_wp2_with fail
      refine (write_p x wd (un s) (w.heap.size + 1) w4 hK4 hKT4 (by omega) (by rw [un_length]; omega)).mono ?_
      rintro e w5 ⟨rfl, hK5, hT5⟩
      have B5 : Below w.heap.size w w5 := B4.grown hT5 B4.size (fun j hj => by have := Option.some.inj hj; omega)
      have hH5 := hH4.turned hT5 (by omega)
      have hKT5 : KTab w5 := var?_below B5 l_k hg hk
      clear hT5 hH4 hK4 B4 hKT4 hcell4
      rw [← un_append] at hH5 hK5
      go_wp2_with fail
      refine (hsum_p wd hwd2 _ (by rw [un_length, ByteArray.size_append]; omega) (w.heap.size + 1) w5 hK5 hKT5).mono ?_
      rintro e w6 ⟨rfl, b6⟩
      have hH6 := hH5.below b6
      have hK6 := hK5.below b6
      have B6 := below_join B5 b6
      clear b6 hH5 hK5 B5 hKT5
      go_wp2
      go_roundw
      case rel => exact ⟨k + 1, s ++ x, by omega, by go_num, rfl, H3.out, hH6, hK6, B6⟩
      case measure => simp [intOf]; omega
    · obtain rfl : k = l.length := by omega
      clear hs
      have hbw : w.heap.size ≤ wr.heap.size := hB.size
      have u0 : un (⟨#[]⟩ : ByteArray) = [] := rfl
      have hss : (s ++ s).size ≤ 2097152 := by rw [ByteArray.size_append]; omega
      have heq := fun W => eq_self (sumB wd (un s)) (sumB_length wd _ hwd2) W
      have heq2 := fun W => eq_self (sumB wd (un (s ++ s))) (sumB_length wd _ hwd2) W
      go_wp2_with fail
      refine (write_p s wd (un s) (w.heap.size + 1) wr hK hKT (by omega) (by rw [un_length]; omega)).mono ?_
      rintro e w4 ⟨rfl, hK4, hT4⟩
      have B4 : Below w.heap.size w w4 := hB.grown hT4 hB.size (fun j hj => by have := Option.some.inj hj; omega)
      have hH4 := hH.turned hT4 (by omega)
      have hKT4 : KTab w4 := var?_below B4 l_k hg hk
      clear hT4 hH hK hB hKT hbw
      rw [← un_append] at hK4
      go_wp2_with fail
      refine (write_p ⟨#[]⟩ wd (un (s ++ s)) (w.heap.size + 1) w4 hK4 hKT4 (by omega) (by rw [un_length]; show _ + 0 ≤ _; omega)).mono ?_
      rintro e w5 ⟨rfl, hK5, hT5⟩
      have B5 : Below w.heap.size w w5 := B4.grown hT5 B4.size (fun j hj => by have := Option.some.inj hj; omega)
      have hH5 := hH4.turned hT5 (by omega)
      have hKT5 : KTab w5 := var?_below B5 l_k hg hk
      clear hT5 hH4 hK4 B4 hKT4
      rw [u0, List.append_nil] at hK5
      go_wp2_with fail
      refine (hsum_p wd hwd2 _ (by rw [un_length]; omega) w.heap.size w5 hH5 hKT5).mono ?_
      rintro e w6 ⟨rfl, b6⟩
      have hK6 := hK5.below b6
      have B6 := below_join B5 b6
      have hKT6 : KTab w6 := var?_below B6 l_k hg hk
      clear b6 hH5 hK5 B5 hKT5
      have hs7 := sum_p n s w6 hKT6 (by omega)
      rw [hwd] at hs7
      go_wp2_with fail
      refine hs7.mono ?_
      rintro e w7 ⟨rfl, b7⟩
      have hK7 := hK6.below b7
      have B7 := below_join B6 b7
      have hKT7 : KTab w7 := var?_below B7 l_k hg hk
      clear b7 hK6 B6 hKT6 hs7
      go_wp2_with fail
      refine (hsum_p wd hwd2 _ (by rw [un_length]; omega) (w.heap.size + 1) w7 hK7 hKT7).mono ?_
      rintro e w8 ⟨rfl, b8⟩
      have B8 := below_join B7 b8
      have hKT8 : KTab w8 := var?_below B8 l_k hg hk
      clear b8 hK7 B7 hKT7
      have hs9 := sum_p n (s ++ s) w8 hKT8 (by omega)
      rw [hwd] at hs9
      go_wp2_with fail
      refine hs9.mono ?_
      rintro e w9 ⟨rfl, b9⟩
      have B9 := below_join B8 b9
      have hKT9 : KTab w9 := var?_below B9 l_k hg hk
      have hp9 := hp.below B9
      clear b9 B8 hKT8 hs9
      go_wp2_with fail
      refine (works_p w9 hKT9 hp9).mono ?_
      rintro e w10 ⟨rfl, b10⟩
      have B10 := below_join B9 b10
      go_wp2
      go_ret
      exact ⟨rfl, B10⟩
end Go.Proofs.YtodgcmhkojkpcaaGreatDoor

namespace Go.Proofs.YtodgcmhkojkpcaaGreatDoor
open Go Go.RowKit

theorem sumK_get (xs : List Int) (k i : Nat) (hk : k ≤ 32) (hi : i < 32) : (sumK xs k)[i]? = some (if i < k then sumByte xs i else 0) := by
  unfold sumK
  by_cases h : i < k
  · rw [List.getElem?_append_left (by simpa using h), if_pos h]
    simp [h]
  · rw [List.getElem?_append_right (by simp; omega), if_neg h]
    rw [List.getElem?_replicate, if_pos (by simp; omega)]
theorem dig_sum (wd : Nat) (t : List UInt8) (i : Nat) (hk : wd ≤ 32) (hi : i < 32) : (dig32 (sumB wd t))[i]? = some (.int .u8 (if i < wd then ((sumByte (finalS t) i).toNat : Int) else 0)) := by
  have h := dig32_get (sumB wd t) i (by rw [sumB_length wd t hk]; exact hi)
  rw [h]
  have e := sumK_get (finalS t) wd i hk hi
  rw [show sumK (finalS t) wd = sumB wd t from rfl, List.getElem?_eq_getElem (by rw [sumB_length wd t hk]; exact hi)] at e
  rw [Option.some.inj e]
  by_cases h2 : i < wd
  · rw [if_pos h2, if_pos h2]
  · rw [if_neg h2, if_neg h2]; rfl

set_option maxRecDepth 100000 in
set_option maxHeartbeats 4000000 in
theorem widths_law (a b : Int) (s : ByteArray) (w : World) (hk : KTab w) (hp : Pow10 w) (hs : s.size ≤ 140737488351232) : Calls Tryz.prog 14 #[.int .i64 a, .int .i64 b, .string s] w fun e w' => e = .returned (.bool true) ∧ Below w.heap.size w w' := by
  have hz := (zero_of_info (P := Tryz.prog) info_digest).1
  have hg := var_lt l_k hk
  have hA2 := widthN_le a
  have hB2 := widthN_le b
  have hwa : Hid ((widthN a : Int) = max 1 (min a 32)) := widthN_eq a
  have hwb : Hid ((widthN b : Int) = max 1 (min b 32)) := widthN_eq b
  have hia : (Tryz.prog.info? 25).map (·.size) = some (dig32 (sumB (widthN a) (un s))).size := by rw [dig32_size, sumB_length _ _ (widthN_le a)]; kernel_rfl
  have hib : (Tryz.prog.info? 25).map (·.size) = some (dig32 (sumB (widthN b) (un s))).size := by rw [dig32_size, sumB_length _ _ (widthN_le b)]; kernel_rfl
  have hda : (dig32 zeros).size = (dig32 (sumB (widthN a) (un s))).size := by rw [dig32_size, dig32_size, sumB_length _ _ (widthN_le a)]; rfl
  have hdb : (dig32 zeros).size = (dig32 (sumB (widthN b) (un s))).size := by rw [dig32_size, dig32_size, sumB_length _ _ (widthN_le b)]; rfl
  have hca : Hid (∀ i, i < 32 → (dig32 (sumB (widthN a) (un s)))[i]? = some (.int .u8 (if i < widthN a then ((sumByte (finalS (un s)) i).toNat : Int) else 0))) := fun i hi => dig_sum _ _ i hA2 hi
  have hcb : Hid (∀ i, i < 32 → (dig32 (sumB (widthN b) (un s)))[i]? = some (.int .u8 (if i < widthN b then ((sumByte (finalS (un s)) i).toNat : Int) else 0))) := fun i hi => dig_sum _ _ i hB2 hi
  have o1 := dig32_one (sumB (widthN a) (un s))
  have o2 := dig32_one (sumB (widthN b) (un s))
  go_enter Tryz.func14, Tryz.ntmps14
  go_wp2_with fail
  refine (sum_p a s w hk (by omega)).mono ?_
  rintro e w1 ⟨rfl, B1⟩
  generalize dig32 (sumB (widthN a) (un s)) = X at *
  have A1 : Lies (w1.alloc (.cells (dig32 zeros) 25)) w1.heap.size 25 (dig32 zeros) := Lies.new _ _ _
  have L1 : Lies ((w1.alloc (.cells (dig32 zeros) 25)).setRow w1.heap.size X) w1.heap.size 25 X := A1.row _
  have B2 : Below w.heap.size w ((w1.alloc (.cells (dig32 zeros) 25)).setRow w1.heap.size X) := below_setRow (B1.alloc B1.size _) B1.size _
  have K2 := var?_below B2 l_k hg hk
  go_wp2_with (refine wpList_store_row rfl 25 (.tmp 7) (.tmp 13) rfl w1.heap.size X rfl rfl 25 (dig32 zeros) A1 hia hda o1 ?_)
  have h2 := L1.lt
  generalize hW2 : (w1.alloc (.cells (dig32 zeros) 25)).setRow w1.heap.size X = w2 at *
  clear hW2 A1 B1
  refine (sum_p b s w2 K2 (by omega)).mono ?_
  rintro e w3 ⟨rfl, b3⟩
  generalize dig32 (sumB (widthN b) (un s)) = Y at *
  have B3 := below_join B2 b3
  have L3 := L1.below b3
  have A3 : Lies (w3.alloc (.cells (dig32 zeros) 25)) w3.heap.size 25 (dig32 zeros) := Lies.new _ _ _
  have LY : Lies ((w3.alloc (.cells (dig32 zeros) 25)).setRow w3.heap.size Y) w3.heap.size 25 Y := A3.row _
  have LX : Lies ((w3.alloc (.cells (dig32 zeros) 25)).setRow w3.heap.size Y) w1.heap.size 25 X := (L3.alloc _).otherRow _ (by have := L3.lt; omega)
  have B4 : Below w.heap.size w ((w3.alloc (.cells (dig32 zeros) 25)).setRow w3.heap.size Y) := below_setRow (B3.alloc B3.size _) B3.size _
  go_wp2_with (refine wpList_store_row rfl 25 (.tmp 8) (.tmp 16) rfl w3.heap.size Y rfl rfl 25 (dig32 zeros) A3 hib hdb o2 ?_)
  generalize hW4 : (w3.alloc (.cells (dig32 zeros) 25)).setRow w3.heap.size Y = w4 at *
  clear hW4 A3 B3 L3 B2 K2 L1 b3
  generalize hpd : widthN a = p at *
  generalize hqd : widthN b = q at *
  go_loopw [10] (fun n wr => ∃ (k d : Nat), k ≤ 32 ∧ n = .int .i64 k ∧ wr = w4.drewN d) (fun n _ => 32 - (intOf n).toNat)
  case atStart => exact ⟨0, 0, Nat.zero_le _, rfl, rfl⟩
  case round =>
    obtain ⟨k, d, hk32, rfl, rfl⟩ := hrel
    by_cases hlt : k < 32
    · have cX := LX.cell (hca.out k hlt)
      have cY := LY.cell (hcb.out k hlt)
      have d1 : (0 : Int) ≤ (k : Int) := by omega
      have d2 : (k : Int) < 32 := by omega
      have pa := hwa.out
      have pb := hwb.out
      generalize ((sumByte (finalS (un s)) k).toNat : Int) = v at *
      by_cases ha : k < p
      · rw [if_pos ha] at cX
        by_cases hb : k < q
        · rw [if_pos hb] at cY
          have t1 : (k : Int) < min (max (min a b) 1) 32 := by omega
          have t2 : decide ((k : Int) ≥ min (max a 1) 32) = false := decide_eq_false (by omega)
          have t3 : decide ((k : Int) ≥ min (max b 1) 32) = false := decide_eq_false (by omega)
          clear pa pb
          go_wp2
          go_quiet (fail)
          go_wp2
          go_roundw
          case rel => exact ⟨k + 1, d + nq, by omega, by go_num, rfl⟩
          case measure => simp [intOf]; omega
        · rw [if_neg hb] at cY
          have t1 : decide ((k : Int) < min (max (min a b) 1) 32) = false := decide_eq_false (by omega)
          have t2 : decide ((k : Int) ≥ min (max a 1) 32) = false := decide_eq_false (by omega)
          have t3 : min (max b 1) 32 ≤ (k : Int) := by omega
          clear pa pb
          go_wp2
          go_quiet (fail)
          go_wp2
          go_roundw
          case rel => exact ⟨k + 1, d + nq, by omega, by go_num, rfl⟩
          case measure => simp [intOf]; omega
      · rw [if_neg ha] at cX
        by_cases hb : k < q
        · rw [if_pos hb] at cY
          have t1 : decide ((k : Int) < min (max (min a b) 1) 32) = false := decide_eq_false (by omega)
          have t2 : min (max a 1) 32 ≤ (k : Int) := by omega
          have t3 : decide ((k : Int) ≥ min (max b 1) 32) = false := decide_eq_false (by omega)
          clear pa pb
          go_wp2
          go_quiet (fail)
          go_wp2
          go_roundw
          case rel => exact ⟨k + 1, d + nq, by omega, by go_num, rfl⟩
          case measure => simp [intOf]; omega
        · rw [if_neg hb] at cY
          have t1 : decide ((k : Int) < min (max (min a b) 1) 32) = false := decide_eq_false (by omega)
          have t2 : min (max a 1) 32 ≤ (k : Int) := by omega
          have t3 : min (max b 1) 32 ≤ (k : Int) := by omega
          clear pa pb
          go_wp2
          go_quiet (fail)
          go_wp2
          go_roundw
          case rel => exact ⟨k + 1, d + nq, by omega, by go_num, rfl⟩
          case measure => simp [intOf]; omega
    · obtain rfl : k = 32 := by omega
      have B5 := below_drawn B4 d
      have K5 := var?_below B5 l_k hg hk
      have p5 := hp.below B5
      go_wp2_with fail
      refine (works_p _ K5 p5).mono ?_
      rintro e w6 ⟨rfl, b6⟩
      have B6 := below_join B5 b6
      go_wp2
      go_ret
      exact ⟨rfl, B6⟩
end Go.Proofs.YtodgcmhkojkpcaaGreatDoor

namespace Go.Proofs.YtodgcmhkojkpcaaGreatDoor
open Go Go.RowKit

theorem uns_injB {a b : List ByteArray} (h : uns a = uns b) : a = b := by
  have := congrArg (List.map bs) h
  unfold uns at this
  rw [List.map_map, List.map_map] at this
  have e : (bs ∘ un) = id := by funext x; exact bs_un x
  rwa [e, List.map_id, List.map_id] at this
theorem uns_short (l : List ByteArray) (h : wt l ≤ 1099511) : ∀ t ∈ uns l, t.length < 10000000000 := by
  intro t ht
  obtain ⟨x, hx, rfl⟩ := List.mem_map.1 ht
  have := size_wt hx
  rw [un_length]; omega
theorem piecesB_append (l m : List ByteArray) : piecesB l ++ piecesB m = piecesB (l ++ m) := un_inj (by
  unfold piecesB; rw [un_append, un_bs, un_bs, un_bs, uns_append, laidL_append])
/-- Cut of what is laid. -/
theorem cut_laid (l : List ByteArray) (w : World) (hz : wt l ≤ 1099511) : Calls Tryz.prog 29 #[.string (piecesB l)] w fun e w' => ∃ u, e = .returned (.tuple #[u, .nilIface]) ∧ w'.ownsRow w.heap.size 9 1 u l.length (strs l) ∧ Below w.heap.size w w' := by
  refine (cut_p (piecesB l) w (by have := piecesB_size l hz; omega)).mono ?_
  rintro e w' ⟨⟨l', u, h1, h2, rfl, h3⟩ | ⟨l', r, h1, h2, h3, h4, _⟩, hB⟩
  · have e1 : un (piecesB l) = laidL (uns l) := un_bs _
    rw [e1] at h1
    have h5 := (laid_split (uns l) (uns l') [] (uns_short l hz) h2 (by rw [List.append_nil]; exact h1)).1 rfl
    rw [uns_injB h5]
    exact ⟨u, rfl, h3, hB⟩
  · exfalso
    have e1 : un (piecesB l) = laidL (uns l) := un_bs _
    rw [e1] at h1
    obtain ⟨t, r', h5⟩ := (laid_split (uns l) (uns l') r (uns_short l hz) h4 h1).2 h2
    rw [h3] at h5; cases h5

theorem cut_both (l m : List ByteArray) (w : World) (hz : wt l + wt m ≤ 1048576) : Calls Tryz.prog 29 #[.string (piecesB l ++ piecesB m)] w fun e w' => ∃ u, e = .returned (.tuple #[u, .nilIface]) ∧ w'.ownsRow w.heap.size 9 1 u (l ++ m).length (strs (l ++ m)) ∧ Below w.heap.size w w' := by
  rw [piecesB_append]; exact cut_laid (l ++ m) w (by rw [wt_append]; omega)
theorem laid_ge : ∀ l : List ByteArray, wt l ≤ (laidL (uns l)).length
  | [] => by simp [wt]
  | x :: l => by
    have ih := laid_ge l
    have hw : wt (x :: l) = x.size + 1 + wt l := by simp [wt]
    have e : laidL (uns (x :: l)) = pieceOf (un x) ++ laidL (uns l) := rfl
    rw [e, List.length_append, hw]
    have : (un x).length + 1 ≤ (pieceOf (un x)).length := by simp [pieceOf]
    rw [un_length] at this; omega
theorem own_len {w : World} {B e n : Nat} {v : Value} {cs : List Value} (h : w.ownsRow B e 1 v n cs) : ∃ a c, v = .slice a n c := by
  rcases h.2 with ⟨rfl, h0⟩ | ⟨g, cap, cur, rfl, _⟩
  · exact ⟨none, 0, by rw [h0]⟩
  · exact ⟨_, _, rfl⟩

set_option maxRecDepth 100000 in
set_option maxHeartbeats 2000000 in
theorem back_law (l m : List ByteArray) (u v : Value) (s : ByteArray) (w : World) (hg : Pow10 w) (hu : TextsAt w u l) (hv : TextsAt w v m) (hz : wt l + wt m + s.size ≤ 1048576) :
    Calls Tryz.prog 21 #[u, v, .string s] w fun e w' => e = .returned (.bool true) ∧ Below w.heap.size w w' := by
  obtain ⟨i0, hi, z0, z1, z2⟩ := info_parts str_info
  have hlm := wt_append l m
  have hl1 := length_wt l
  have hl2 := length_wt m
  have zl := piecesB_size l (by omega)
  have zm := piecesB_size m (by omega)
  have hsm : (s.size : Int) ≤ 1048576 := by omega
  go_enter Tryz.func21, Tryz.ntmps21
  go_wp2_with fail
  refine (few_p l u _ hu (by omega)).mono ?_
  rintro e w1 ⟨rfl, hw1⟩
  subst hw1
  go_wp2_with fail
  refine (few_p m v _ hv (by omega)).mono ?_
  rintro e w1 ⟨rfl, hw1⟩
  subst hw1
  go_wp2_with fail
  refine (pieces_p l u _ hg hu (by omega)).mono ?_
  rintro e w2 ⟨rfl, b2⟩
  have hg2 := hg.below b2
  have hu2 := hu.below b2
  have hv2 := hv.below b2
  clear hg hu hv
  go_wp2_with fail
  refine (pieces_p m v _ hg2 hv2 (by omega)).mono ?_
  rintro e w3 ⟨rfl, b3⟩
  have hg3 := hg2.below b3
  have hu3 := hu2.below b3
  have hv3 := hv2.below b3
  have B3 := below_join b2 b3
  clear hg2 hu2 hv2 b2 b3
  go_wp2_with fail
  refine (cut_laid l _ (by omega)).mono ?_
  rintro e w4 ⟨one, rfl, ho4, b4⟩
  have hg4 := hg3.below b4
  have hu4 := hu3.below b4
  have hv4 := hv3.below b4
  have ht4 := TextsAt.own ho4
  have B4 := below_join B3 b4
  clear hg3 hu3 hv3 B3 b4 ho4
  go_wp2_with fail
  refine (cut_both l m _ (by omega)).mono ?_
  rintro e w5 ⟨both, rfl, ho5, b5⟩
  have hg5 := hg4.below b5
  have hu5 := hu4.below b5
  have hv5 := hv4.below b5
  have ht5 := ht4.below b5
  have hb5 := TextsAt.own ho5
  have B5 := below_join B4 b5
  clear hg4 hu4 hv4 ht4 B4 b5 ho5
  go_wp2_with fail
  refine (copy_p l u _ hu5 (by omega)).mono ?_
  rintro e w6 ⟨cp, rfl, ho6, b6⟩
  have hv6 := hv5.below b6
  have s56 := b6.size
  obtain ⟨av, c2, rfl, hnil, hcell⟩ := hv6
  cases av with
  | none =>
    obtain rfl := hnil rfl
    have hm0 : m = [] := by
      cases m with
      | nil => rfl
      | cons x m => obtain ⟨b, o, h, _⟩ := hcell 0 x rfl; cases h
    subst hm0
    go_wp2_with (at_builtin; refine wpList_append_own_none rfl (.tmp 46) (.tmp 47) 29 rfl w5.heap.size 9 i0 1 Tryz.underlying29 hi _ _ _ rfl ho6 rfl ?_)
    have b7 := b6
    have hall7 : TextsAt w6 cp l := TextsAt.own ho6
    rw [List.append_nil] at hb5
    have hg7 := hg5.below b7
    have hu7 := hu5.below b7
    have ht7 := ht5.below b7
    have hb7 := hb5.below b7
    have B7 := below_join B5 b7
    clear hg5 hu5 hv5 ht5 hb5 B5 b6 b7
    go_wp2_with fail
    refine (same_p l l one u _ ht7 hu7 (by omega) rfl).mono ?_
    rintro e w8 ⟨rfl, b8⟩
    have hg8 := hg7.below b8
    have hb8 := hb7.below b8
    have ha8 := hall7.below b8
    have B8 := below_join B7 b8
    clear hg7 hu7 ht7 hb7 hall7 B7 b8
    go_wp2_with fail
    refine (same_p l l both cp _ hb8 ha8 (by omega) rfl).mono ?_
    rintro e w9 ⟨rfl, b9⟩
    have hg9 := hg8.below b9
    have ha9 := ha8.below b9
    have B9 := below_join B8 b9
    clear hg8 hb8 ha8 B8 b9
    go_wp2_with fail
    refine (pieces_p l cp _ hg9 ha9 (by omega)).mono ?_
    rintro e w10 ⟨rfl, b10⟩
    have hg10 := hg9.below b10
    have B10 := below_join B9 b10
    clear hg9 ha9 B9 b10
    have hpe : ((piecesB l).toList == (piecesB l ++ piecesB []).toList) = true := by rw [piecesB_append, List.append_nil]; simp
    go_wp2_with fail
    refine (cut_p s _ (by omega)).mono ?_
    rintro e w11 ⟨⟨l', u', h1, h2, rfl, h3⟩ | ⟨l', r, h1, h2, h3, h4, rfl⟩, b11⟩
    · have hg11 := hg10.below b11
      have B11 := below_join B10 b11
      have ht11 := TextsAt.own h3
      have hw := laid_ge l'
      have hls := congrArg List.length h1
      rw [un_length] at hls
      have hw2 : wt l' ≤ 1099511 := by have e : uns l' = l'.map un := rfl; rw [e] at hw; omega
      have hsp : piecesB l' = s := un_inj (by unfold piecesB; rw [un_bs]; exact h1.symm)
      have hcl := fun W hg ht => pieces_p l' u' W hg ht hw2
      rw [hsp] at hcl
      have hss : (s.toList == s.toList) = true := by simp
      clear h1 h2 h3 hls hw hsp
      go_wp2_with fail
      refine (hcl _ hg11 ht11).mono ?_
      rintro e w12 ⟨rfl, b12⟩
      go_wp2
      go_ret
      exact ⟨rfl, below_join B11 b12⟩
    · clear h1 h2 h3 h4
      go_wp2
      go_ret
      exact ⟨rfl, below_join B10 b11⟩
  | some ad =>
    have hst : Hid (strs l ++ strs m = strs (l ++ m)) := (strs_append l m).symm
    go_wp2_with (at_builtin; refine wpList_append_own _ rfl (.tmp 46) (.tmp 47) 29 rfl w5.heap.size 9 i0 (.string ⟨#[]⟩) 1 16 Tryz.underlying29 hi z0 z1 z2 rfl (by decide) _ _ _ rfl ho6 ad m.length c2 (strs m) rfl (by rw [strs_length, Nat.mul_one]) ?c1 ?c2 ?c3 ?c4 ?c5 ?_)
    case c1 =>
      intro j x hj
      unfold strs at hj
      rw [List.getElem?_map] at hj
      obtain ⟨y, hy, rfl⟩ := Option.map_eq_some_iff.1 hj
      obtain ⟨b, o, h, hc⟩ := hcell j y hy
      cases h
      rw [Addr.add_mid]; exact hc
    case c2 =>
      intro x hx
      unfold strs at hx
      obtain ⟨y, _, rfl⟩ := List.mem_map.1 hx
      rfl
    case c3 => unfold maxLen; omega
    case c4 => omega
    case c5 => omega
    intro v' w7 ho7 hgr _
    have b7 : Below w5.heap.size w5 w7 := b6.grown hgr (by omega) (fun k hk => (ho6.lt k hk).1)
    have hall7 : TextsAt w7 v' (l ++ m) := TextsAt.own (B := w5.heap.size) (by rw [strs_append, List.length_append]; exact ho7)
    have hg7 := hg5.below b7
    have hu7 := hu5.below b7
    have ht7 := ht5.below b7
    have hb7 := hb5.below b7
    have B7 := below_join B5 b7
    clear hg5 hu5 hv5 ht5 hb5 B5 b6 b7
    go_wp2_with fail
    refine (same_p l l one u _ ht7 hu7 (by omega) rfl).mono ?_
    rintro e w8 ⟨rfl, b8⟩
    have hg8 := hg7.below b8
    have hb8 := hb7.below b8
    have ha8 := hall7.below b8
    have B8 := below_join B7 b8
    clear hg7 hu7 ht7 hb7 hall7 B7 b8
    go_wp2_with fail
    refine (same_p (l ++ m) (l ++ m) both v' _ hb8 ha8 (by simp; omega) rfl).mono ?_
    rintro e w9 ⟨rfl, b9⟩
    have hg9 := hg8.below b9
    have ha9 := ha8.below b9
    have B9 := below_join B8 b9
    clear hg8 hb8 ha8 B8 b9
    go_wp2_with fail
    refine (pieces_p (l ++ m) v' _ hg9 ha9 (by rw [wt_append]; omega)).mono ?_
    rintro e w10 ⟨rfl, b10⟩
    have hg10 := hg9.below b10
    have B10 := below_join B9 b10
    clear hg9 ha9 B9 b10
    have hpe : ((piecesB (l ++ m)).toList == (piecesB l ++ piecesB m).toList) = true := by rw [piecesB_append]; simp
    go_wp2_with fail
    refine (cut_p s _ (by omega)).mono ?_
    rintro e w11 ⟨⟨l', u', h1, h2, rfl, h3⟩ | ⟨l', r, h1, h2, h3, h4, rfl⟩, b11⟩
    · have hg11 := hg10.below b11
      have B11 := below_join B10 b11
      have ht11 := TextsAt.own h3
      have hw := laid_ge l'
      have hls := congrArg List.length h1
      rw [un_length] at hls
      have hw2 : wt l' ≤ 1099511 := by have e : uns l' = l'.map un := rfl; rw [e] at hw; omega
      have hsp : piecesB l' = s := un_inj (by unfold piecesB; rw [un_bs]; exact h1.symm)
      have hcl := fun W hg ht => pieces_p l' u' W hg ht hw2
      rw [hsp] at hcl
      have hss : (s.toList == s.toList) = true := by simp
      clear h1 h2 h3 hls hw hsp
      go_wp2_with fail
      refine (hcl _ hg11 ht11).mono ?_
      rintro e w12 ⟨rfl, b12⟩
      go_wp2
      go_ret
      exact ⟨rfl, below_join B11 b12⟩
    · clear h1 h2 h3 h4
      go_wp2
      go_ret
      exact ⟨rfl, below_join B10 b11⟩
end Go.Proofs.YtodgcmhkojkpcaaGreatDoor

namespace Go.Proofs.YtodgcmhkojkpcaaGreatDoor
open Go Go.RowKit

/-- What the walks ask of the world. -/
def Env3 (W : World) : Prop := KTab W ∧ RTab W ∧ BTab W ∧ Pow10 W ∧ ErrType W
theorem Env3.below {u v : World} (h : Env3 u) (b : Below u.heap.size u v) : Env3 v :=
  ⟨var?_below b l_k (var_lt l_k h.1) h.1, var?_below b l_r (var_lt l_r h.2.1) h.2.1, var?_below b l_b (var_lt l_b h.2.2.1) h.2.2.1, h.2.2.2.1.below b, h.2.2.2.2.below b⟩
theorem few_len {l : List ByteArray} (h : wt l ≤ 1000000) : l.length ≤ 8796093021952 := by have := length_wt l; omega
theorem few_size {l : List ByteArray} (h : wt l ≤ 1000000) : ∀ x ∈ l, x.size ≤ 140737488351232 := fun x hx => by have := size_wt hx; omega
theorem acts_at {W : World} {g : Nat} {s : ByteArray} (h : W.heap[g]? = some (.cells (acts4 s) 34 (0, 0))) : ActsAt W (.slice (some ⟨g, 0, none⟩) 4 4) [(⟨#[97]⟩, true, false), (s, false, true), (s, true, false), (⟨#[98]⟩, true, true)] := by
  have hl : Lies W g 34 (acts4 s) := h
  refine ⟨_, _, rfl, (fun e => nomatch e), fun i x hx => ⟨g, 0, rfl, ?_⟩⟩
  rcases i with _ | _ | _ | _ | i
  · simp at hx; subst hx; exact ⟨hl.cell (i := 0) rfl, hl.cell (i := 1) rfl, hl.cell (i := 2) rfl⟩
  · simp at hx; subst hx; exact ⟨hl.cell (i := 3) rfl, hl.cell (i := 4) rfl, hl.cell (i := 5) rfl⟩
  · simp at hx; subst hx; exact ⟨hl.cell (i := 6) rfl, hl.cell (i := 7) rfl, hl.cell (i := 8) rfl⟩
  · simp at hx; subst hx; exact ⟨hl.cell (i := 9) rfl, hl.cell (i := 10) rfl, hl.cell (i := 11) rfl⟩
  · simp at hx
theorem text_small (l : List UInt8) (hl : l.length = 32) : (bs (textL l)).size ≤ 100 := by
  rw [size_bs, textL, List.length_append, hexL_length, hl]; decide
set_option maxRecDepth 100000 in
set_option maxHeartbeats 1000000 in
theorem known_law (w : World) (hE : Env3 w) : Calls Tryz.prog 3 #[] w fun e w' => e = .returned (.bool true) ∧ Below w.heap.size w w' := by
  have HS : Hid (Says2 Env3 12) := fun n s hs W h => sums_law n s W h.1 h.2.1 h.2.2.1 h.2.2.2.1 (by omega)
  have HP : Hid (SaysL Env3 13) := fun n l v hl W ht h => parted_law n l v W h.1 h.2.2.2.1 ht (by have := few_len hl; omega) (few_size hl)
  have HW : Hid (Says3 Env3 14) := fun a b s hs W h => widths_law a b s W h.1 h.2.2.2.1 (by omega)
  have HH : Hid (SaysH Env3 15) := fun n m s g hs W hb h => hashes_law n m _ _ W h.1 h.2.1 h.2.2.1 h.2.2.2.1 (acts_at hb) (by show 4 ≤ 8796093021952; decide) (fun x hx => by
    simp at hx
    rcases hx with rfl | rfl | rfl | rfl
    · show (⟨#[97]⟩ : ByteArray).size ≤ _; decide
    · show s.size ≤ _; omega
    · show s.size ≤ _; omega
    · show (⟨#[98]⟩ : ByteArray).size ≤ _; decide)
  have HR : Hid (Says1 Env3 16) := fun s _ W h => parses_law s W h.1 h.2.2.2.1 h.2.2.2.2
  have HD : Hid (SaysD Env3 17) := fun l hl W _ => texts_law l hl W
  have HT : Hid (∀ l : List UInt8, l.length = 32 → ∀ W, Calls Tryz.prog 9 #[.agg (dig32 l)] W fun e w' => (∃ s : ByteArray, e = .returned (.string s) ∧ s.size ≤ 100) ∧ Below W.heap.size W w') := fun l hl W => (text_p l hl W).mono fun e w' h => ⟨⟨_, h.1, text_small l hl⟩, h.2⟩
  have HC : Hid (Says1 Env3 18) := fun s hs W h => cuts_law s W h.1 h.2.2.2.1 h.2.2.2.2 (by omega)
  have HQ : Hid (SaysP Env3 19) := fun s l v hs hl W ht h => places_law s l v W h.1 h.2.2.2.1 h.2.2.2.2 ht (by omega) (few_len hl) (few_size hl)
  have HL : Hid (SaysT Env3 20) := fun l v hl W ht h => lays_law l v W h.1 h.2.2.2.1 ht (few_len hl) (few_size hl)
  have HK : Hid (SaysB Env3 21) := fun l m u v s hz W hu hv h => back_law l m u v s W h.2.2.2.1 hu hv (by omega)
  have HX : Hid (SaysL Env3 22) := fun n l v hl W ht h => clashes_law n l v W h.1 h.2.1 h.2.2.1 h.2.2.2.1 ht (by omega)
  have C1 := shown_p w hE.1 hE.2.2.2.1
  have C2 := fun W h => sums_p Env3 Env3.below HS HP HW HH W h
  have C3 := fun W h => texts_p Env3 Env3.below HR HD HT W h
  have C4 := fun W h => laid_p Env3 Env3.below HC HQ HL HK W h
  have C5 := fun W h => clashes_p Env3 Env3.below HX W h
  clear HS HP HW HH HR HD HT HC HQ HL HK HX
  go_enter Tryz.func3, Tryz.ntmps3
  go_wp2_with (first
    | (go_at_call 4; refine C1.mono ?_; rintro e w1 ⟨rfl, b1⟩)
    | (go_at_call 5; refine (C2 _ (hE.below b1)).mono ?_; rintro e w2 ⟨rfl, b2⟩; have B2 := below_join b1 b2)
    | (go_at_call 6; refine (C3 _ (hE.below B2)).mono ?_; rintro e w3 ⟨rfl, b3⟩; have B3 := below_join B2 b3)
    | (go_at_call 7; refine (C4 _ (hE.below B3)).mono ?_; rintro e w4 ⟨rfl, b4⟩; have B4 := below_join B3 b4)
    | (go_at_call 8; refine (C5 _ (hE.below B4)).mono ?_; rintro e w5 ⟨rfl, b5⟩))
  go_ret
  exact ⟨rfl, below_join B4 b5⟩
end Go.Proofs.YtodgcmhkojkpcaaGreatDoor
