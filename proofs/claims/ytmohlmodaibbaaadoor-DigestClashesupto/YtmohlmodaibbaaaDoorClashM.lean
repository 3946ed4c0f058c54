/- Clashes, as numbers: what the first clash of a row of texts is. -/
import Derived.Test.YtmohlmodaibbaaaDoorLists
namespace Go.Proofs.YtmohlmodaibbaaaDoor

/-- Two places hold unlike texts with one digest. -/
def clashes (f : ByteArray → List UInt8) (l : List ByteArray) (i j : Nat) : Prop := ∃ x y, l[i]? = some x ∧ l[j]? = some y ∧ x ≠ y ∧ f x = f y
/-- No clash among the first k texts. -/
def calm (f : ByteArray → List UInt8) (l : List ByteArray) (k : Nat) : Prop := ∀ j, j < k → ∀ i, i < j → ¬ clashes f l i j
/-- What is answered of a row of texts. -/
def ClashIs (f : ByteArray → List UInt8) (l : List ByteArray) (i j : Nat) (ok : Bool) : Prop :=
  (ok = false ∧ i = 0 ∧ j = 0 ∧ calm f l l.length) ∨ (ok = true ∧ i < j ∧ j < l.length ∧ clashes f l i j ∧ (∀ q, q < i → ¬ clashes f l q j) ∧ calm f l j)

theorem ClashIs.same {f : ByteArray → List UInt8} {l : List ByteArray} {i j p q : Nat} {ok ok2 : Bool} (h : ClashIs f l i j ok) (k : ClashIs f l p q ok2) : i = p ∧ j = q ∧ ok = ok2 := by
  rcases h with ⟨rfl, rfl, rfl, h⟩ | ⟨rfl, h1, h2, h3, h4, h5⟩
  · rcases k with ⟨rfl, rfl, rfl, _⟩ | ⟨rfl, k1, k2, k3, _, _⟩
    · exact ⟨rfl, rfl, rfl⟩
    · exact (h q k2 p k1 k3).elim
  · rcases k with ⟨rfl, rfl, rfl, k⟩ | ⟨rfl, k1, k2, k3, k4, k5⟩
    · exact (k j h2 i h1 h3).elim
    · have e : j = q := by
        rcases Nat.lt_trichotomy j q with e | e | e
        · exact (k5 j e i h1 h3).elim
        · exact e
        · exact (h5 q e p k1 k3).elim
      subst e
      refine ⟨?_, rfl, rfl⟩
      rcases Nat.lt_trichotomy i p with e | e | e
      · exact (k4 i e h3).elim
      · exact e
      · exact (h4 p e k3).elim
theorem calm_zero (f : ByteArray → List UInt8) (l : List ByteArray) : calm f l 0 := fun j h => by omega
theorem calm_succ {f : ByteArray → List UInt8} {l : List ByteArray} {k : Nat} (h : calm f l k) (h2 : ∀ i, i < k → ¬ clashes f l i k) : calm f l (k + 1) := fun j hj i hi => by
  rcases Nat.lt_or_ge j k with e | e
  · exact h j e i hi
  · obtain rfl : j = k := by omega
    exact h2 i hi

/-- i is the first of the first k places whose text has the digest d. -/
def FirstAt (f : ByteArray → List UInt8) (l : List ByteArray) (k : Nat) (d : List UInt8) (i : Nat) : Prop := i < k ∧ (∃ x, l[i]? = some x ∧ f x = d) ∧ ∀ q x, q < i → l[q]? = some x → f x ≠ d
/-- None of the first k texts has the digest d. -/
def NoneAt (f : ByteArray → List UInt8) (l : List ByteArray) (k : Nat) (d : List UInt8) : Prop := ∀ q x, q < k → l[q]? = some x → f x ≠ d

theorem none_clash {f : ByteArray → List UInt8} {l : List ByteArray} {k : Nat} {y : ByteArray} (hy : l[k]? = some y) (h : NoneAt f l k (f y)) : ∀ i, i < k → ¬ clashes f l i k := by
  rintro i hi ⟨x, y2, hx, hy2, _, he⟩
  obtain rfl := Option.some.inj (hy.symm.trans hy2)
  exact h i x hi hx he
theorem first_same {f : ByteArray → List UInt8} {l : List ByteArray} {k i : Nat} {y : ByteArray} (hc : calm f l k) (hy : l[k]? = some y) (h : FirstAt f l k (f y) i) (hs : l[i]? = some y) : ∀ q, q < k → ¬ clashes f l q k := by
  rintro q hq ⟨x, y2, hx, hy2, hne, he⟩
  obtain rfl := Option.some.inj (hy.symm.trans hy2)
  rcases Nat.lt_trichotomy q i with e | e | e
  · exact h.2.2 q x e hx he
  · subst e; exact hne (Option.some.inj (hx.symm.trans hs))
  · exact hc q hq i e ⟨y, x, hs, hx, fun e2 => hne e2.symm, he.symm⟩
theorem first_clash {f : ByteArray → List UInt8} {l : List ByteArray} {k i : Nat} {x y : ByteArray} (hc : calm f l k) (hk : k < l.length) (hy : l[k]? = some y) (h : FirstAt f l k (f y) i) (hs : l[i]? = some x) (hne : x ≠ y) : ClashIs f l i k true := by
  obtain ⟨h1, ⟨x2, hx2, he⟩, h3⟩ := h
  obtain rfl := Option.some.inj (hs.symm.trans hx2)
  refine .inr ⟨rfl, h1, hk, ⟨x, y, hs, hy, hne, he⟩, ?_, hc⟩
  rintro q hq ⟨z, y2, hz, hy2, _, he2⟩
  obtain rfl := Option.some.inj (hy.symm.trans hy2)
  exact h3 q z hq hz he2
theorem FirstAt.mono {f : ByteArray → List UInt8} {l : List ByteArray} {k i : Nat} {d : List UInt8} (h : FirstAt f l k d i) : FirstAt f l (k + 1) d i := ⟨by have := h.1; omega, h.2⟩
theorem NoneAt.first {f : ByteArray → List UInt8} {l : List ByteArray} {k : Nat} {y : ByteArray} (h : NoneAt f l k (f y)) (hy : l[k]? = some y) : FirstAt f l (k + 1) (f y) k := ⟨by omega, ⟨y, hy, rfl⟩, h⟩
theorem NoneAt.succ {f : ByteArray → List UInt8} {l : List ByteArray} {k : Nat} {y : ByteArray} {d : List UInt8} (h : NoneAt f l k d) (hy : l[k]? = some y) (hd : d ≠ f y) : NoneAt f l (k + 1) d := fun q x hq hx => by
  rcases Nat.lt_or_ge q k with e | e
  · exact h q x e hx
  · obtain rfl : q = k := by omega
    obtain rfl := Option.some.inj (hx.symm.trans hy)
    exact fun e => hd e.symm
end Go.Proofs.YtmohlmodaibbaaaDoor
