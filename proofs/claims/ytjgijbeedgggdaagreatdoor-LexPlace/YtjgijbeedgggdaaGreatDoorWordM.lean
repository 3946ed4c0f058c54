/- Words of a line, purely: the state behind each byte, what has been found, where a quote began. -/
import Derived.Test.YtjgijbeedgggdaaGreatDoorBytes
namespace Go.Proofs.YtjgijbeedgggdaaGreatDoor
open Go

def escN (c : UInt8) : UInt8 := if c = 96 then 96 else 92
def isBl (b : UInt8) : Bool := b == 32 || b == 9 || b == 13
def outN (b e : UInt8) : Nat := if isBl b = true then 0 else if b = 39 then 3 else if b = 34 then 4 else if b = e then 2 else 1
def behN (now : Nat) (b e : UInt8) : Nat :=
  if now = 2 then 1 else if now = 3 then (if b = 39 then 1 else 3) else if now = 5 then 4 else if now = 4 then (if b = e then 5 else if b = 34 then 1 else 4) else outN b e
structure St where
  out : List (Nat × Nat)
  now : Nat
  beg : Nat
  quo : Nat
deriving DecidableEq
def stepS (e b : UInt8) (i : Nat) (st : St) : St :=
  { out := if st.now ≠ 0 ∧ behN st.now b e = 0 then st.out ++ [(st.beg, i)] else st.out
    now := behN st.now b e
    beg := if st.now = 0 ∧ behN st.now b e ≠ 0 then i else st.beg
    quo := if st.now < 3 ∧ 3 ≤ behN st.now b e then i else st.quo }
def runS (e : UInt8) : List UInt8 → Nat → St → St
  | [], _, st => st
  | b :: l, i, st => runS e l (i + 1) (stepS e b i st)
def st0 : St := ⟨[], 0, 0, 0⟩
/-- What is known behind the first k bytes. -/
def stA (e : UInt8) (l : List UInt8) (k : Nat) : St := runS e (l.take k) 0 st0
/-- The words as places, or where a quote has no end. -/
def splitR (e : UInt8) (l : List UInt8) : Except Nat (List (Nat × Nat)) :=
  if 3 ≤ (stA e l l.length).now then .error (stA e l l.length).quo else .ok (if (stA e l l.length).now ≠ 0 then (stA e l l.length).out ++ [((stA e l l.length).beg, l.length)] else (stA e l l.length).out)

theorem runS_append (e : UInt8) (l m : List UInt8) (i : Nat) (st : St) : runS e (l ++ m) i st = runS e m (i + l.length) (runS e l i st) := by
  induction l generalizing i st with
  | nil => rfl
  | cons b l ih => simp only [List.cons_append, runS, ih, List.length_cons]; congr 1; omega
theorem stA_zero (e : UInt8) (l : List UInt8) : stA e l 0 = st0 := rfl
theorem stA_succ (e : UInt8) (l : List UInt8) (k : Nat) (b : UInt8) (h : l[k]? = some b) : stA e l (k + 1) = stepS e b k (stA e l k) := by
  obtain ⟨hk, hb⟩ := List.getElem?_eq_some_iff.1 h
  unfold stA
  rw [List.take_add_one, h, runS_append]
  simp only [Option.toList_some, runS, List.length_take]
  congr 1; omega
theorem behN_le (now : Nat) (b e : UInt8) : behN now b e ≤ 5 := by
  unfold behN outN; repeat' split
  all_goals omega
theorem stA_ind (e : UInt8) (l : List UInt8) (P : Nat → St → Prop) (h0 : P 0 st0) (hs : ∀ k b, l[k]? = some b → P k (stA e l k) → P (k + 1) (stepS e b k (stA e l k))) (k : Nat) (hk : k ≤ l.length) : P k (stA e l k) := by
  induction k with
  | zero => exact h0
  | succ k ih =>
    obtain ⟨b, hb⟩ : ∃ b, l[k]? = some b := ⟨_, List.getElem?_eq_getElem (by omega)⟩
    rw [stA_succ e l k b hb]
    exact hs k b hb (ih (by omega))
theorem stA_now (e : UInt8) (l : List UInt8) (k : Nat) (hk : k ≤ l.length) : (stA e l k).now ≤ 5 := stA_ind e l (fun _ s => s.now ≤ 5) (Nat.zero_le _) (fun _ _ _ _ => behN_le _ _ _) k hk
theorem stA_beg (e : UInt8) (l : List UInt8) (k : Nat) (hk : k ≤ l.length) : (stA e l k).beg ≤ k := stA_ind e l (fun k s => s.beg ≤ k) (Nat.zero_le _) (fun k b _ h => by
  show (if _ then k else _) ≤ _
  split <;> omega) k hk
theorem stA_quo (e : UInt8) (l : List UInt8) (k : Nat) (hk : k ≤ l.length) : (stA e l k).quo ≤ k := stA_ind e l (fun k s => s.quo ≤ k) (Nat.zero_le _) (fun k b _ h => by
  show (if _ then k else _) ≤ _
  split <;> omega) k hk
theorem stA_out (e : UInt8) (l : List UInt8) (k : Nat) (hk : k ≤ l.length) : (stA e l k).out.length ≤ k := stA_ind e l (fun k s => s.out.length ≤ k) (Nat.zero_le _) (fun k b _ h => by
  show (if _ then _ else _ : List (Nat × Nat)).length ≤ _
  split
  · rw [List.length_append]; simp; omega
  · omega) k hk
end Go.Proofs.YtjgijbeedgggdaaGreatDoor
