/- ExpandNames' law: for every word and escape the program's names are the document's; the answers share no memory. -/
import Derived.Test.YtjmekcakiacdfaaDcO
import Derived.Test.YtjmekcakiacdfaaWksX
import Derived.Test.YtjmekcakiacdfaaTxC
import Derived.Test.YtjmekcakiacdfaaTxS
namespace Go.Proofs.Ytjmekcakiacdfaa
open Go Go.RowKit

theorem handed2 {g m : Nat} {u1 u2 : Value} (h1 : ∀ b, u1.ownBlock = some b → b < m) (h2 : ∀ b, u2.ownBlock = some b → m ≤ b ∧ b < g) (hm : m ≤ g) : Tx.Handed g [u1, u2] := by
  refine ⟨fun i j u v hi hj hne => ?_, fun i u hi e => ?_⟩
  · rcases i with _ | _ | i <;> rcases j with _ | _ | j <;> simp at hi hj hne
    · subst hi
      subst hj
      cases hb : u1.ownBlock with
      | none => exact .inl rfl
      | some b => exact .inr (fun e => by have := h1 b hb; have := (h2 b e.symm).1; omega)
    · subst hi
      subst hj
      cases hb : u2.ownBlock with
      | none => exact .inl rfl
      | some b => exact .inr (fun e => by have := (h2 b hb).1; have := h1 b e.symm; omega)
  · rcases i with _ | _ | i <;> simp at hi
    · subst hi; have := h1 g e; omega
    · subst hi; have := (h2 g e).2; omega
theorem rows2 {w : World} {B : Nat} {u1 u2 : Value} {l1 l2 : List ByteArray} (h1 : w.ownsRow B 9 1 u1 l1.length (Tx.strs l1)) (h2 : w.ownsRow B 9 1 u2 l2.length (Tx.strs l2)) :
    ∀ (j : Nat) (u : Value) (xs : List ByteArray), [u1, u2][j]? = some u → [l1, l2][j]? = some xs → w.ownsRow B 9 1 u xs.length (Tx.strs xs) := by
  intro j u xs hu hx
  rcases j with _ | _ | j <;> simp at hu hx
  · subst hu; subst hx; exact h1
  · subst hu; subst hx; exact h2
theorem eachF_len (e : UInt8) : ∀ (f : Nat) (st : List Nat) (l : List UInt8), (eachF e f st l).1.length ≤ f
  | 0, st, _ => by simp [eachF]
  | f + 1, st, [] => by simp [eachF]
  | f + 1, st, b :: t => by
    unfold eachF
    cases takeS e st b t with
    | bad n => simp
    | good p k st2 =>
      have := eachF_len e f st2 ((b :: t).drop k)
      simp only [List.length_cons]
      omega
theorem namesL_len (e : UInt8) (l : List UInt8) : (namesL e l).length ≤ l.length := by
  unfold namesL
  split
  · simp
  · have h1 := metL_len (eachL e [0] l).1 []
    have h2 := eachF_len e l.length [0] l
    have h3 : (eachL e [0] l).1.length ≤ l.length := h2
    simp at h1
    omega
theorem nsC_strs (ns : List (List UInt8)) : nsC ns = Tx.strs (ns.map bs) := by simp [nsC, Tx.strs]
theorem below_j {W A C : World} (h : Below W.heap.size W A) (k : Below A.heap.size A C) : Below W.heap.size W C := h.trans (k.mono h.size)
set_option maxHeartbeats 4000000 in
set_option maxRecDepth 100000 in
theorem expandnames_law (s : ByteArray) (e : UInt8) (w : World) (_hs : s.size ≤ 140737488351232) : Calls Try.prog 3 #[.string s, .int .u8 e.toNat] w fun x w' => x = .returned (.bool true) ∧ Below w.heap.size w w' := by
  have hsl := un_length s
  have hw := works_x
  by_cases hbig : 131072 < s.size
  · have hg : (131072 : Int) < (s.size : Int) := by omega
    clear hw
    go_enter Try.func3, Try.ntmps3
    go_wp2
    go_ret
    exact ⟨rfl, Below.refl _ _⟩
  · have hg : ¬ (131072 : Int) < (s.size : Int) := by omega
    have hd := fun W => names_d s e W (by omega)
    have hn := fun W => names_p s e W (by omega)
    have hll := namesL_len e (un s)
    rw [nsC_strs] at hd hn
    rw [show (namesL e (un s)).length = ((namesL e (un s)).map bs).length by simp] at hd hn hll
    generalize (namesL e (un s)).map bs = l at *
    have hl2 : l.length ≤ 131072 := by omega
    clear hll hsl
    go_enter Try.func3, Try.ntmps3
    go_upto_region 4 with (go_at_call 6; refine (hd _).mono ?_; rintro x w1 ⟨u0, rfl, o0, b1⟩)
    go_upto_region 5 with (go_at_call 7; refine (hn _).mono ?_; rintro x w2 ⟨u1, rfl, o1, b2⟩)
    go_upto_region 6 with (go_at_call 7; refine (hn _).mono ?_; rintro x w3 ⟨u2, rfl, o2, b3⟩)
    have B2 := below_j b1 b2
    have B3 := below_j B2 b3
    have O0 := Tx.own_below (Tx.own_below o0 b2) b3
    have O1 := Tx.own_below o1 b3
    have s1 := b1.size
    have s2 := b2.size
    have s3 := b3.size
    have HH : Hid (∀ G, w3.heap.size ≤ G → Tx.Handed G [u1, u2]) := fun G hG => handed2 (m := w2.heap.size) (fun b hb => (o1.lt b hb).2) (fun b hb => ⟨(o2.lt b hb).1, Nat.lt_of_lt_of_le (o2.lt b hb).2 hG⟩) (by omega)
    have P1 := Tx.own_base (B := w.heap.size) O1 (by omega)
    have P2 := Tx.own_base (B := w.heap.size) o2 (by omega)
    have Q0 := Tx.own_base (B := w.heap.size) O0 (by omega)
    clear o0 o1 o2 O0 O1 b1 b2 b3 B2
    have hS1 := Tx.same_p l l u1 u0 w3 (Tx.TextsAt.own P1) (Tx.TextsAt.own Q0) (by omega) rfl
    have hS2 := fun W (hb : Below w3.heap.size w3 W) => Tx.same_p l l u2 u0 W (Tx.TextsAt.own (Tx.own_below P2 hb)) (Tx.TextsAt.own (Tx.own_below Q0 hb)) (by omega) rfl
    obtain ⟨a1, c1, hu1, _⟩ := Tx.own_shape P1
    obtain ⟨a2, c2, hu2, _⟩ := Tx.own_shape P2
    have hAP := fun W (hb : Below w3.heap.size w3 W) (c : Nat) => Tx.apart_p w.heap.size W.heap.size c [u1, u2] [l, l] (W.alloc (.cells #[u1, u2] 22)) rfl (by simp) (by have := hb.size; simp; omega) (Lies.new _ _ _) (HH.out _ hb.size) (Tx.Rws.start (rows2 ((Tx.own_below P1 hb).alloc _) ((Tx.own_below P2 hb).alloc _))) (fun xs hxs => by simp at hxs; rw [hxs]; omega)
    rw [show [u1, u2].length = 2 from rfl] at hAP
    clear P1 P2 Q0 HH
    subst hu1
    subst hu2
    go_upto_region 8 with (first
      | (go_at_call 8; with_reducible refine hS1.mono ?_; rintro x w4 ⟨rfl, b4⟩)
      | (go_at_call 8; with_reducible refine (hS2 _ b4).mono ?_; rintro x w5 ⟨rfl, b5⟩))
    have b35 : Below w3.heap.size w3 w5 := b4.trans (b5.mono b4.size)
    have B5 := below_j B3 b35
    have BA := B5.alloc B5.size (.cells #[.slice a1 l.length c1, .slice a2 l.length c2] 22)
    have hAP5 := hAP w5 b35
    clear hAP hS1 hS2 b4 b5
    go_wp2_with (first
      | (go_at_call 9; refine (hAP5 _).mono ?_; rintro x w6 ⟨rfl, b6⟩)
      | (go_at_call 10; refine (hw _).mono ?_; rintro x w7 ⟨rfl, b7⟩))
    go_ret
    exact ⟨rfl, below_j (BA.trans b6) b7⟩
end Go.Proofs.Ytjmekcakiacdfaa
