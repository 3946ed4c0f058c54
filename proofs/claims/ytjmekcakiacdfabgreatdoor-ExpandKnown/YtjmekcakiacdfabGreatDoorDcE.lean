/- From here to there in a text, purely: what is read on the way (Run), and where it goes wrong (Bad): the document's steps, one by one. -/
import Derived.Test.YtjmekcakiacdfabGreatDoorExE
namespace Go.Proofs.YtjmekcakiacdfabGreatDoor
open Go

/-- From the rest a, with st open, the reader comes to the rest b, with st2 open, and reads ps. -/
def Run (e : UInt8) (st : List Nat) (a : List UInt8) (st2 : List Nat) (b : List UInt8) (ps : List Pc) : Prop := (eachL e st a).2 = (eachL e st2 b).2 ∧ Eqv (eachL e st a).1 (ps ++ (eachL e st2 b).1)
/-- The text is wrong from here, with this number. -/
def Bad (e : UInt8) (st : List Nat) (a : List UInt8) (n : Nat) : Prop := (eachL e st a).2 = n ∧ n ≠ 0
theorem Run.refl (e : UInt8) (st : List Nat) (a : List UInt8) : Run e st a st a [] := ⟨rfl, Eqv.refl _⟩
theorem Run.trans {e : UInt8} {st st2 st3 : List Nat} {a b c : List UInt8} {ps qs : List Pc} (h : Run e st a st2 b ps) (k : Run e st2 b st3 c qs) : Run e st a st3 c (ps ++ qs) :=
  ⟨h.1.trans k.1, by rw [List.append_assoc]; exact h.2.trans ((Eqv.refl ps).append k.2)⟩
theorem Run.bad {e : UInt8} {st st2 : List Nat} {a b : List UInt8} {ps : List Pc} {n : Nat} (h : Run e st a st2 b ps) (k : Bad e st2 b n) : Bad e st a n := ⟨h.1.trans k.1, k.2⟩
theorem Run.of {e : UInt8} {st st2 : List Nat} {b : UInt8} {t : List UInt8} {p : Pc} {k : Nat} (h : takeS e st b t = .good p k st2) : Run e st (b :: t) st2 ((b :: t).drop k) [p] := by
  unfold Run
  rw [eachL_good h]
  exact ⟨rfl, Eqv.refl _⟩
theorem Bad.of {e : UInt8} {st : List Nat} {b : UInt8} {t : List UInt8} {n : Nat} (h : takeS e st b t = .bad n) (hn : n ≠ 0) : Bad e st (b :: t) n := by
  unfold Bad
  rw [eachL_bad h]
  exact ⟨rfl, hn⟩
theorem Run.drop_nil {e : UInt8} {st st2 : List Nat} {a b : List UInt8} (h : Run e st a st2 b [.lit []]) : Run e st a st2 b [] := ⟨h.1, h.2.trans (eqv_nil _)⟩
/-- At the end of the text. -/
theorem bad_end {e : UInt8} {st : List Nat} (h : endS st ≠ 0) : Bad e st [] (endS st) := ⟨rfl, h⟩
theorem bad_end3 {e : UInt8} (st : List Nat) : Bad e (3 :: st) [] 18 := ⟨rfl, by decide⟩
theorem bad_end2 {e : UInt8} (st : List Nat) : Bad e (2 :: st) [] 4 := ⟨rfl, by decide⟩
/-- A byte that stands for itself. -/
theorem run_free {e : UInt8} {st : List Nat} {c : UInt8} (h : freeB e st c = true) (t : List UInt8) : Run e st (c :: t) st t [.lit [c]] := each_free h t
/-- The escape, and a byte that it takes. -/
theorem run_esc {e : UInt8} {st : List Nat} {d : UInt8} (h : escs (st.headD 0) d e = true) (t : List UInt8) : Run e st (e :: d :: t) st t [.lit [d]] :=
  Run.of (k := 2) (by unfold takeS escS; rw [if_pos rfl]; exact if_pos h)
/-- The escape, and none that it takes. -/
theorem run_lone {e : UInt8} {st : List Nat} {t : List UInt8} (h : ∀ d r, t = d :: r → escs (st.headD 0) d e = false) : Run e st (e :: t) st t [.lit [e]] := by
  refine Run.of (k := 1) ?_
  unfold takeS escS
  rw [if_pos rfl]
  cases t with
  | nil => rfl
  | cons d r => exact if_neg (by rw [h d r rfl]; decide)
/-- A double quote that opens. -/
theorem run_open {e : UInt8} {st : List Nat} (he : (34 : UInt8) ≠ e) (h : opq (st.headD 0) = true) (t : List UInt8) : Run e st (34 :: t) (3 :: st) t [] := by
  refine Run.drop_nil (Run.of (k := 1) ?_)
  unfold takeS
  rw [if_neg he, if_neg (by decide), if_neg (fun hh => by rw [hh.2] at h; cases h), if_pos ⟨rfl, h⟩]
/-- A double quote that closes. -/
theorem run_close {e : UInt8} {st : List Nat} (he : (34 : UInt8) ≠ e) (t : List UInt8) : Run e (3 :: st) (34 :: t) st t [] := by
  refine Run.drop_nil (Run.of (k := 1) ?_)
  unfold takeS
  rw [if_neg he, if_neg (by decide), if_pos ⟨rfl, rfl⟩]
  rfl
/-- Single quotes. -/
theorem run_single {e : UInt8} {st : List Nat} (he : (39 : UInt8) ≠ e) (h : opq (st.headD 0) = true) {t : List UInt8} {k : Nat} (hk : idx 39 t = some k) : Run e st (39 :: t) st (t.drop (k + 1)) [.lit (t.take k)] := by
  refine Run.of (k := k + 2) ?_
  unfold takeS singS
  rw [if_neg he, if_neg (by decide), if_neg (fun hh => absurd hh.1 (by decide)), if_neg (fun hh => absurd hh.1 (by decide)), if_pos ⟨rfl, h⟩, hk]
theorem bad_single {e : UInt8} {st : List Nat} (he : (39 : UInt8) ≠ e) (h : opq (st.headD 0) = true) {t : List UInt8} (hk : idx 39 t = none) : Bad e st (39 :: t) 18 := by
  refine Bad.of ?_ (by decide)
  unfold takeS singS
  rw [if_neg he, if_neg (by decide), if_neg (fun hh => absurd hh.1 (by decide)), if_neg (fun hh => absurd hh.1 (by decide)), if_pos ⟨rfl, h⟩, hk]
/-- A brace that closes. -/
theorem run_fin {e : UInt8} {st : List Nat} (he : (125 : UInt8) ≠ e) (t : List UInt8) : Run e (2 :: st) (125 :: t) st t [.fin] := by
  refine Run.of (k := 1) ?_
  unfold takeS
  rw [if_neg he, if_neg (by decide), if_neg (fun hh => absurd hh.1 (by decide)), if_neg (fun hh => absurd hh.1 (by decide)), if_neg (fun hh => absurd hh.1 (by decide)), if_pos ⟨rfl, rfl⟩]
  rfl
theorem take_dollar {e : UInt8} {st : List Nat} (he : (36 : UInt8) ≠ e) (t : List UInt8) : takeS e st 36 t = dollarS st t := by
  unfold takeS
  rw [if_neg he, if_pos rfl]
theorem nmL_brace (t : List UInt8) : nmL (123 :: t) = 0 := by
  rw [nmL, if_neg (by decide)]
/-- A dollar without a name. -/
theorem run_dollar {e : UInt8} {st : List Nat} (he : (36 : UInt8) ≠ e) {t : List UInt8} (h0 : nmL t = 0) (h1 : t.head? ≠ some 123) : Run e st (36 :: t) st t [.lit [36]] := by
  refine Run.of (k := 1) ?_
  rw [take_dollar he]
  unfold dollarS
  rw [if_neg (fun hh => h1 (by cases t with
    | nil => simp at hh
    | cons c t => simp at hh; simp [hh])), if_pos h0]
/-- A name behind a dollar. -/
theorem run_var {e : UInt8} {st : List Nat} (he : (36 : UInt8) ≠ e) {t : List UInt8} (h0 : nmL t ≠ 0) : Run e st (36 :: t) st (t.drop (nmL t)) [.var (t.take (nmL t))] := by
  have h := Run.of (e := e) (st := st) (b := 36) (t := t) (p := .var (t.take (nmL t))) (k := 1 + nmL t) (st2 := st) (by
    rw [take_dollar he]
    unfold dollarS
    rw [if_neg (fun hh => h0 (by cases t with
      | nil => rfl
      | cons c t => simp at hh; rw [← hh]; exact nmL_brace t)), if_neg h0])
  rwa [show 1 + nmL t = nmL t + 1 by omega, List.drop_succ_cons] at h
theorem take_brace {e : UInt8} {st : List Nat} (he : (36 : UInt8) ≠ e) (u : List UInt8) : takeS e st 36 (123 :: u) = bracesS st u := by
  rw [take_dollar he]
  unfold dollarS
  rw [if_pos (by simp)]
  rfl
/-- Braces with no name. -/
theorem bad_brace {e : UInt8} {st : List Nat} (he : (36 : UInt8) ≠ e) {u : List UInt8} (h0 : nmL u = 0) : Bad e st (36 :: 123 :: u) 4 := by
  refine Bad.of ?_ (by decide)
  rw [take_brace he]
  unfold bracesS
  rw [if_pos h0]
/-- A name in braces. -/
theorem run_brace {e : UInt8} {st : List Nat} (he : (36 : UInt8) ≠ e) {u r : List UInt8} (h0 : nmL u ≠ 0) (h1 : u.drop (nmL u) = 125 :: r) : Run e st (36 :: 123 :: u) st r [.var (u.take (nmL u))] := by
  have h := Run.of (e := e) (st := st) (b := 36) (t := 123 :: u) (p := .var (u.take (nmL u))) (k := 2 + nmL u + 1) (st2 := st) (by
    rw [take_brace he]
    unfold bracesS
    rw [if_neg h0, if_pos (by rw [h1]; simp)])
  rwa [show 2 + nmL u + 1 = (nmL u + 1) + 1 + 1 by omega, List.drop_succ_cons, List.drop_succ_cons, ← List.drop_drop, h1, List.drop_succ_cons, List.drop_zero] at h
/-- A name in braces, and what stands for it where it is empty. -/
theorem run_ifE {e : UInt8} {st : List Nat} (he : (36 : UInt8) ≠ e) {u r : List UInt8} (h0 : nmL u ≠ 0) (h1 : u.drop (nmL u) = 58 :: 45 :: r) : Run e st (36 :: 123 :: u) (2 :: st) r [.ifE (u.take (nmL u))] := by
  have h := Run.of (e := e) (st := st) (b := 36) (t := 123 :: u) (p := .ifE (u.take (nmL u))) (k := 2 + nmL u + 2) (st2 := 2 :: st) (by
    rw [take_brace he]
    unfold bracesS
    rw [if_neg h0, if_neg (by rw [h1]; simp), if_pos (by rw [h1]; simp)])
  rwa [show 2 + nmL u + 2 = (nmL u + 2) + 1 + 1 by omega, List.drop_succ_cons, List.drop_succ_cons, ← List.drop_drop, h1, List.drop_succ_cons, List.drop_succ_cons, List.drop_zero] at h
/-- Or where it is not. -/
theorem run_ifF {e : UInt8} {st : List Nat} (he : (36 : UInt8) ≠ e) {u r : List UInt8} (h0 : nmL u ≠ 0) (h1 : u.drop (nmL u) = 58 :: 43 :: r) : Run e st (36 :: 123 :: u) (2 :: st) r [.ifF (u.take (nmL u))] := by
  have h := Run.of (e := e) (st := st) (b := 36) (t := 123 :: u) (p := .ifF (u.take (nmL u))) (k := 2 + nmL u + 2) (st2 := 2 :: st) (by
    rw [take_brace he]
    unfold bracesS
    rw [if_neg h0, if_neg (by rw [h1]; simp), if_neg (by rw [h1]; simp), if_pos (by rw [h1]; simp)])
  rwa [show 2 + nmL u + 2 = (nmL u + 2) + 1 + 1 by omega, List.drop_succ_cons, List.drop_succ_cons, ← List.drop_drop, h1, List.drop_succ_cons, List.drop_succ_cons, List.drop_zero] at h
/-- Braces with anything else behind the name. -/
theorem bad_behind {e : UInt8} {st : List Nat} (he : (36 : UInt8) ≠ e) {u : List UInt8} (h0 : nmL u ≠ 0) (h1 : (u.drop (nmL u)).head? ≠ some 125) (h2 : ∀ c r, u.drop (nmL u) = 58 :: c :: r → c ≠ 45 ∧ c ≠ 43) : Bad e st (36 :: 123 :: u) 4 := by
  refine Bad.of ?_ (by decide)
  rw [take_brace he]
  unfold bracesS
  rw [if_neg h0, if_neg, if_neg, if_neg]
  · intro hh
    match hd : u.drop (nmL u), hh with
    | 58 :: c :: r, hh => have := (h2 c r hd).2; simp at hh; exact this hh.symm
    | [], hh => simp at hh
    | [a], hh => simp at hh
    | a :: c :: r, hh => simp at hh; obtain ⟨h3, h4⟩ := hh; subst h3; exact (h2 c r hd).2 h4.symm
  · intro hh
    match hd : u.drop (nmL u), hh with
    | [], hh => simp at hh
    | [a], hh => simp at hh
    | a :: c :: r, hh => simp at hh; obtain ⟨h3, h4⟩ := hh; subst h3; exact (h2 c r hd).1 h4.symm
  · intro hh
    match hd : u.drop (nmL u), hh with
    | [], hh => simp at hh
    | a :: r, hh => simp at hh; rw [hd] at h1; exact h1 (by simp [hh])
end Go.Proofs.YtjmekcakiacdfabGreatDoor
