/- Package glob's (*List).read, and what a text's lines make of a list. -/
import Derived.Test.YthkbhcefckbcnaaGreatDoorReadB
import Derived.Test.YthkbhcefckbcnaaGreatDoorCutN
namespace Go.Proofs.YthkbhcefckbcnaaGreatDoor
open Go Go.RowKit Go.Shelf

/-- What a line makes of a list: the list behind it, or an error's number. -/
def addLine (rs : List Rule) (line : ByteArray) : Except Int (List Rule) :=
  match lineRule line with
  | some none => .ok rs
  | none => if rs.length = 256 then .error 5 else .error 24
  | some (some r) => if rs.length = 256 then .error 5 else .ok (rs ++ [r])
def ReadLine (rs : List Rule) (line : ByteArray) (l : Nat) (w : World) (e : Ending) (w' : World) : Prop :=
  match addLine rs line with
  | .ok rs2 => e = .returned .nilIface ∧ ListIn w' l rs2 ∧ Below l w w'
  | .error n => e = .returned (.iface 56 (.int .i64 n)) ∧ Below w.heap.size w w'
theorem addLine_le {rs rs2 : List Rule} {line : ByteArray} (h : addLine rs line = .ok rs2) (hr : rs.length ≤ 256) : rs2.length ≤ 256 := by
  unfold addLine at h
  split at h
  · cases h; exact hr
  · split at h <;> cases h
  · split at h
    · cases h
    · cases h; simp; omega
theorem read_p (line : ByteArray) (l : Nat) (rs : List Rule) (w : World) (hl : ListIn w l rs) (hz : line.size ≤ 1099511627776) (hr : rs.length ≤ 256) :
    Calls Tryz.prog 27 #[.pointer (some ⟨l, 0, none⟩), .string line] w (ReadLine rs line l w) := by
  have hlw : l < w.heap.size := by obtain ⟨_, _, h, _⟩ := hl; exact h.lt
  cases h : lineRule line with
  | none =>
    by_cases h2 : rs.length = 256
    · refine (read_many line l rs w hl hz (by rw [h]; simp) h2).mono fun e w' hp => ?_
      unfold ReadLine addLine; simp only [h]; rw [if_pos h2]; exact hp
    · refine (read_wrong line l rs w hl hz h (by omega)).mono fun e w' hp => ?_
      unfold ReadLine addLine; simp only [h]; rw [if_neg h2]; exact hp
  | some o =>
    cases o with
    | none =>
      refine (read_skip line l w hz h).mono fun e w' hp => ?_
      unfold ReadLine addLine; simp only [h]
      exact ⟨hp.1, hl.below hp.2, hp.2.mono (Nat.le_of_lt hlw)⟩
    | some r =>
      by_cases h2 : rs.length = 256
      · refine (read_many line l rs w hl hz (by rw [h]; simp) h2).mono fun e w' hp => ?_
        unfold ReadLine addLine; simp only [h]; rw [if_pos h2]; exact hp
      · refine (read_rule line l rs r w hl hz h (by omega)).mono fun e w' hp => ?_
        unfold ReadLine addLine; simp only [h]; rw [if_neg h2]; exact hp

/-- The lines of a text. -/
def linesL : List UInt8 → List (List UInt8)
  | [] => [[]]
  | c :: l => if c == 10 then [] :: linesL l else ((c :: (linesL l).headD []) :: (linesL l).tail)
theorem linesL_cons (c : UInt8) (l : List UInt8) : linesL (c :: l) = if c == 10 then [] :: linesL l else ((c :: (linesL l).headD []) :: (linesL l).tail) := rfl
theorem linesL_ne (l : List UInt8) : linesL l ≠ [] := by
  cases l with
  | nil => simp [linesL]
  | cons c l => unfold linesL; split <;> simp
theorem linesL_none : ∀ l : List UInt8, (10 : UInt8) ∉ l → linesL l = [l]
  | [], _ => rfl
  | c :: l, h => by
    have hc : (c == 10) = false := by rw [beq_eq_false_iff_ne]; intro e; exact h (by rw [e]; simp)
    unfold linesL; rw [hc, linesL_none l (fun e => h (List.mem_cons_of_mem _ e))]; rfl
theorem linesL_append : ∀ a b : List UInt8, linesL (a ++ 10 :: b) = linesL a ++ linesL b
  | [], b => by simp [linesL]
  | c :: a, b => by
    rw [List.cons_append, linesL_cons, linesL_cons, linesL_append a b]
    cases e : linesL a with
    | nil => exact (linesL_ne a e).elim
    | cons x xs => by_cases hc : (c == 10) = true <;> simp [hc]
/-- What lines make of a list. -/
def addLines : List Rule → List (List UInt8) → Except Int (List Rule)
  | rs, [] => .ok rs
  | rs, x :: xs => match addLine rs (bs x) with | .error n => .error n | .ok rs2 => addLines rs2 xs
theorem addLines_cons (rs : List Rule) (x : List UInt8) (xs : List (List UInt8)) : addLines rs (x :: xs) = match addLine rs (bs x) with | .error n => .error n | .ok rs2 => addLines rs2 xs := rfl
theorem addLines_append : ∀ (rs : List Rule) (xs ys : List (List UInt8)), addLines rs (xs ++ ys) = match addLines rs xs with | .error n => .error n | .ok rs2 => addLines rs2 ys
  | rs, [], ys => rfl
  | rs, x :: xs, ys => by
    rw [List.cons_append, addLines_cons, addLines_cons]
    cases addLine rs (bs x) with
    | error n => rfl
    | ok rs2 => exact addLines_append rs2 xs ys
def parseB (s : ByteArray) : Except Int (List Rule) := addLines [] (linesL (un s))
end Go.Proofs.YthkbhcefckbcnaaGreatDoor
