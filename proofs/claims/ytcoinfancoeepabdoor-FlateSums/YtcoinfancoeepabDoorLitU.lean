/- The known symbols, put. -/
import Derived.Test.YtcoinfancoeepabDoorRevK
namespace Go.Proofs.YtcoinfancoeepabDoor
open Go Go.RowKit

def putF (gh gc go : Nat) : Value := .func (.func 27) #[] #[.pointer (some ⟨gh, 0, none⟩), .pointer (some ⟨gc, 0, none⟩), .pointer (some ⟨go, 0, none⟩)]
theorem PutAt.below {W W2 : World} {B gh gc go held count : Nat} {l : List UInt8} (x : PutAt W B gh gc go held count l) (b : Below W.heap.size W W2) : PutAt W2 B gh gc go held count l := by
  obtain ⟨v, ho, hv⟩ := x.o
  refine ⟨x.h.below b, x.c.below b, ⟨v, ho.below b, ?_⟩, x.n1, x.n2, x.n3, x.b1, x.b2, x.b3⟩
  refine hv.kept (w' := W2) (row := none) ⟨b.os, b.tape, b.output, b.size, fun k hk _ => b.block k hk⟩ ?_
  rcases hv.2 with ⟨rfl, _⟩ | ⟨g, cap, cur, rfl, hg, hgb, _⟩
  · exact .inl rfl
  · exact .inr fun e2 => by cases e2
set_option maxRecDepth 100000 in
theorem code_a (B gh gc go : Nat) (w : World) (hB : B ≤ w.heap.size) (hP : PutAt w B gh gc go 3 3 []) (N : Nat) (q1 : N ≤ gh) (q2 : N ≤ gc) (q3 : N ≤ go) :
    Calls Tryd.prog 58 #[putF gh gc go, .int .i64 145, .int .i64 8] w fun e w' => e = .returned (.tuple #[]) ∧ PutAt w' B gh gc go 4 3 [75] ∧ B ≤ w'.heap.size ∧ Below N w w' := by
  have HPU : Hid (∀ W, PutAt W B gh gc go 3 3 [] → B ≤ W.heap.size → Calls Tryd.prog 27 #[.int .i64 137, .int .i64 8, .pointer (some ⟨gh, 0, none⟩), .pointer (some ⟨gc, 0, none⟩), .pointer (some ⟨go, 0, none⟩)] W fun e w' => e = .returned (.tuple #[]) ∧ PutAt w' B gh gc go 4 3 [75] ∧ B ≤ w'.heap.size ∧ Below N W w') := fun W hW hB => by
    refine (put_p B gh gc go 3 3 137 8 [] (by decide) (by decide) (by decide) (by decide) (by decide) W hB hW N q1 q2 q3).mono ?_
    rintro e w' ⟨he, hp, hb⟩
    exact ⟨he, hp, hb⟩
  have hNs : N ≤ w.heap.size := by have := hP.b1; omega
  have HF : Hid (putF gh gc go = .func (.func 27) #[] #[.pointer (some ⟨gh, 0, none⟩), .pointer (some ⟨gc, 0, none⟩), .pointer (some ⟨go, 0, none⟩)]) := rfl
  rw [HF.out]
  go_enter Tryd.func58, Tryd.ntmps58
  go_wp2_with (first
    | (go_at_call 79; refine (rev_145 w).mono ?_; rintro e w2 ⟨rfl, b2⟩; have P2 := hP.below b2; have B2 := Nat.le_trans hB b2.size)
    | (go_at_call 27; refine (HPU.out w2 P2 B2).mono ?_; rintro e w3 ⟨rfl, P3, B3, N3⟩))
  go_end0
  exact ⟨rfl, P3, B3, (b2.mono hNs).trans N3⟩
theorem put_e (B gh gc go held : Nat) (l m : List UInt8) (h' : Nat) (c c' : Nat) (hc : c < 8) (hh : held < 2 ^ c) (hl : l.length ≤ 100) (e1 : (held + 0 * 2 ^ c) / 256 ^ ((c + 7) / 8) = h') (e2 : (c + 7) % 8 = c') (e3 : outB ((c + 7) / 8) (held + 0 * 2 ^ c) l = m) (W : World) (hB : B ≤ W.heap.size) (hW : PutAt W B gh gc go held c l) (N : Nat) (q1 : N ≤ gh) (q2 : N ≤ gc) (q3 : N ≤ go) :
    Calls Tryd.prog 27 #[.int .i64 0, .int .i64 7, .pointer (some ⟨gh, 0, none⟩), .pointer (some ⟨gc, 0, none⟩), .pointer (some ⟨go, 0, none⟩)] W fun e w' => e = .returned (.tuple #[]) ∧ PutAt w' B gh gc go h' c' m ∧ B ≤ w'.heap.size ∧ Below N W w' := by
  subst e1 e2 e3
  exact put_p B gh gc go held c 0 7 l (by omega) hh hc (by omega) (by decide) W hB hW N q1 q2 q3
set_option maxRecDepth 100000 in
theorem code_e (B gh gc go : Nat) (w : World) (hB : B ≤ w.heap.size) (hP : PutAt w B gh gc go 4 3 [75]) (N : Nat) (q1 : N ≤ gh) (q2 : N ≤ gc) (q3 : N ≤ go) :
    Calls Tryd.prog 58 #[putF gh gc go, .int .i64 0, .int .i64 7] w fun e w' => e = .returned (.tuple #[]) ∧ PutAt w' B gh gc go 0 2 [75, 4] ∧ B ≤ w'.heap.size ∧ Below N w w' := by
  have hNs : N ≤ w.heap.size := by have := hP.b1; omega
  have HF : Hid (putF gh gc go = .func (.func 27) #[] #[.pointer (some ⟨gh, 0, none⟩), .pointer (some ⟨gc, 0, none⟩), .pointer (some ⟨go, 0, none⟩)]) := rfl
  rw [HF.out]
  go_enter Tryd.func58, Tryd.ntmps58
  go_wp2_with (first
    | (go_at_call 79; refine (rev_0 w).mono ?_; rintro e w2 ⟨rfl, b2⟩; have P2 := hP.below b2; have B2 := Nat.le_trans hB b2.size)
    | (go_at_call 27; refine (put_e B gh gc go 4 [75] [75, 4] 0 3 2 (by decide) (by decide) (by decide) (by decide) (by decide) (by decide) w2 B2 P2 N q1 q2 q3).mono ?_; rintro e w3 ⟨rfl, P3, B3, N3⟩))
  go_end0
  exact ⟨rfl, P3, B3, (b2.mono hNs).trans N3⟩
set_option maxRecDepth 100000 in
theorem lit_a (B gh gc go : Nat) (w : World) (hB : B ≤ w.heap.size) (hP : PutAt w B gh gc go 3 3 []) (N : Nat) (q1 : N ≤ gh) (q2 : N ≤ gc) (q3 : N ≤ go) :
    Calls Tryd.prog 32 #[putF gh gc go, .int .i64 97] w fun e w' => e = .returned (.tuple #[]) ∧ PutAt w' B gh gc go 4 3 [75] ∧ B ≤ w'.heap.size ∧ Below N w w' := by
  have hlit : Calls Tryd.prog 59 #[.int .i64 97] w fun e w' => e = .returned (.tuple #[.int .i64 145, .int .i64 8]) ∧ w' = w := lit_p 97 (by omega) w
  generalize hF : putF gh gc go = F
  have hco := code_a B gh gc go w hB hP N q1 q2 q3
  rw [hF] at hco
  go_enter Tryd.func32, Tryd.ntmps32
  go_wp2_with (first
    | (go_at_call 59; refine hlit.mono ?_; rintro e w2 ⟨rfl, hw⟩; have hw' := hw.symm; clear hw; subst hw')
    | (go_at_call 58; refine hco.mono ?_; rintro e w3 ⟨rfl, P3, B3, N3⟩))
  go_end0
  exact ⟨rfl, P3, B3, N3⟩
set_option maxRecDepth 100000 in
theorem lit_e (B gh gc go : Nat) (w : World) (hB : B ≤ w.heap.size) (hP : PutAt w B gh gc go 4 3 [75]) (N : Nat) (q1 : N ≤ gh) (q2 : N ≤ gc) (q3 : N ≤ go) :
    Calls Tryd.prog 32 #[putF gh gc go, .int .i64 256] w fun e w' => e = .returned (.tuple #[]) ∧ PutAt w' B gh gc go 0 2 [75, 4] ∧ B ≤ w'.heap.size ∧ Below N w w' := by
  have hlit : Calls Tryd.prog 59 #[.int .i64 256] w fun e w' => e = .returned (.tuple #[.int .i64 0, .int .i64 7]) ∧ w' = w := lit_p 256 (by omega) w
  generalize hF : putF gh gc go = F
  have hco := code_e B gh gc go w hB hP N q1 q2 q3
  rw [hF] at hco
  go_enter Tryd.func32, Tryd.ntmps32
  go_wp2_with (first
    | (go_at_call 59; refine hlit.mono ?_; rintro e w2 ⟨rfl, hw⟩; have hw' := hw.symm; clear hw; subst hw')
    | (go_at_call 58; refine hco.mono ?_; rintro e w3 ⟨rfl, P3, B3, N3⟩))
  go_end0
  exact ⟨rfl, P3, B3, N3⟩
end Go.Proofs.YtcoinfancoeepabDoor
