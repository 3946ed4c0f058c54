/- A list's rules in memory, and what a line adds to them. -/
import Derived.Test.YthkbhcefckbcnaaGreatDoorTrim
import Derived.Test.YthkbhcefckbcnaaGreatDoorTakeN
namespace Go.Proofs.YthkbhcefckbcnaaGreatDoor
open Go Go.RowKit Go.Shelf

/-- The rows of a type stand in B as they stood in A. -/
def SameRows (A B : World) (e : TypeId) : Prop := ∀ (k : Nat) (cur : Array Value), A.heap[k]? = some (.cells cur e (0, 0)) → B.heap[k]? = some (.cells cur e (0, 0))
theorem same_below {A B : World} (e : TypeId) (h : Below A.heap.size A B) : SameRows A B e := fun k _ hk => (h.block k (Array.getElem?_eq_some_iff.1 hk).1).trans hk
theorem same_grown {A B : World} {row : Option Nat} {e : TypeId} (h : A.grownBy B row) (hn : ∀ k cur, row = some k → A.heap[k]? ≠ some (.cells cur e (0, 0))) : SameRows A B e := fun k cur hk =>
  (h.block k (Array.getElem?_eq_some_iff.1 hk).1 (fun e2 => hn k cur e2.symm hk)).trans hk
theorem same_trans {A B C : World} {e : TypeId} (h : SameRows A B e) (h2 : SameRows B C e) : SameRows A C e := fun k cur hk => h2 k cur (h k cur hk)
theorem same_set {A : World} {N t e : TypeId} {v : Value} (u : Value) (hN : Boxed A N t v) (hne : t ≠ e) : SameRows A (A.setCell ⟨N, 0, none⟩ u) e :=
  same_grown (grownBy_setCell' A N u) (fun k cur e1 hk => by
    have e2 : N = k := Option.some.inj e1
    subst e2
    have := hN.symm.trans hk
    simp at this
    exact hne this.2)
theorem own_same {A B : World} {base e size n : Nat} {v : Value} {xs : List Value} (h : A.ownsRow base e size v n xs) (hs : SameRows A B e) : B.ownsRow base e size v n xs := by
  refine ⟨h.1, ?_⟩
  rcases h.2 with hn | ⟨g, cap, cur, rfl, hg, hgg, rest⟩
  · exact .inl hn
  · exact .inr ⟨g, cap, cur, rfl, hg, hs g cur hgg, rest⟩
theorem PcIn.same {A B : World} {v : Value} {pc : Pc} (h : PcIn A v pc) (hs : SameRows A B 174) : PcIn B v pc := by
  cases pc with
  | none => exact h
  | some ps => obtain ⟨cs, hr, ho⟩ := h; exact ⟨cs, hr, own_same ho hs⟩
theorem PcsRep.same {A B : World} (hs : SameRows A B 174) : ∀ {ps : List Pc} {cs : List Value}, PcsRep A ps cs → PcsRep B ps cs
  | [], _, h => h
  | _ :: _, _, ⟨v, rest, hv, h1, e, hr⟩ => ⟨v, rest, hv.same hs, h1, e, hr.same hs⟩
theorem PcsIn.same {A B : World} {base : Nat} {v : Value} {ps : List Pc} (h : PcsIn A base v ps) (h1 : SameRows A B 174) (h2 : SameRows A B 110) : PcsIn B base v ps := by
  obtain ⟨cs, hr, ho⟩ := h
  exact ⟨cs, hr.same h1, own_same ho h2⟩
theorem PcsIn.le {A : World} {base b2 : Nat} {v : Value} {ps : List Pc} (h : PcsIn A base v ps) (hb : b2 ≤ base) : PcsIn A b2 v ps := by
  obtain ⟨cs, hr, ho⟩ := h
  refine ⟨cs, hr, ho.1, ?_⟩
  rcases ho.2 with hn | ⟨g, cap, cur, rfl, hg, rest⟩
  · exact .inl hn
  · exact .inr ⟨g, cap, cur, rfl, by omega, rest⟩
theorem PcsIn.one {A : World} {base : Nat} {v : Value} {ps : List Pc} (h : PcsIn A base v ps) : v.oneCell' = true := by
  obtain ⟨cs, hr, ho⟩ := h
  exact (own_cell ho).1

/-- A rule: does it take back, and its pieces. -/
abbrev Rule := Bool × List Pc
/-- How a row of cells tells rules. -/
def RulesRep (W : World) : List Rule → List Value → Prop
  | [], cs => cs = []
  | r :: rs, cs => ∃ v rest, PcsIn W 0 v r.2 ∧ cs = .bool r.1 :: v :: rest ∧ RulesRep W rs rest
theorem RulesRep.same {A B : World} (h1 : SameRows A B 174) (h2 : SameRows A B 110) : ∀ {rs : List Rule} {cs : List Value}, RulesRep A rs cs → RulesRep B rs cs
  | [], _, h => h
  | _ :: _, _, ⟨v, rest, hv, e, hr⟩ => ⟨v, rest, hv.same h1 h2, e, hr.same h1 h2⟩
theorem RulesRep.snoc {W : World} : ∀ {rs : List Rule} {cs : List Value} {r : Rule} {v : Value}, RulesRep W rs cs → PcsIn W 0 v r.2 → RulesRep W (rs ++ [r]) (cs ++ [.bool r.1, v])
  | [], cs, r, v, h, hp => by
    have e : cs = [] := h
    subst e
    exact ⟨v, [], hp, rfl, rfl⟩
  | q :: rs, cs, r, v, ⟨u, rest, hu, e, hr⟩, hp => ⟨u, rest ++ [.bool r.1, v], hu, by rw [e]; simp, hr.snoc hp⟩
theorem RulesRep.length {W : World} : ∀ {rs : List Rule} {cs : List Value}, RulesRep W rs cs → cs.length = rs.length * 2
  | [], cs, h => by have e : cs = [] := h; subst e; rfl
  | q :: rs, cs, ⟨u, rest, hu, e, hr⟩ => by have := hr.length; rw [e]; simp; omega
theorem RulesRep.at {W : World} : ∀ {rs : List Rule} {cs : List Value} {i : Nat} {r : Rule}, RulesRep W rs cs → rs[i]? = some r → ∃ v, PcsIn W 0 v r.2 ∧ cs[2 * i]? = some (.bool r.1) ∧ cs[2 * i + 1]? = some v
  | [], _, _, _, _, h => by simp at h
  | q :: rs, cs, 0, r, ⟨u, rest, hu, e, hr⟩, h => by
    simp at h; subst h; subst e
    exact ⟨u, hu, rfl, rfl⟩
  | q :: rs, cs, i + 1, r, ⟨u, rest, hu, e, hr⟩, h => by
    obtain ⟨v, hv, h1, h2⟩ := hr.at (i := i) (by simpa using h)
    subst e
    exact ⟨v, hv, by rw [show 2 * (i + 1) = 2 * i + 1 + 1 by omega]; simpa using h1, by rw [show 2 * (i + 1) + 1 = 2 * i + 1 + 1 + 1 by omega]; simpa using h2⟩
/-- The list at l holds these rules; the row that it stands in has come behind it. -/
def ListIn (W : World) (l : Nat) (rs : List Rule) : Prop := ∃ v cs, Boxed W l 53 v ∧ RulesRep W rs cs ∧ W.ownsRow (l + 1) 78 2 v rs.length cs
theorem ListIn.below {A B : World} {l : Nat} {rs : List Rule} (h : ListIn A l rs) (hb : Below A.heap.size A B) : ListIn B l rs := by
  obtain ⟨v, cs, h1, h2, h3⟩ := h
  exact ⟨v, cs, boxed_below h1 hb, h2.same (same_below _ hb) (same_below _ hb), own_same h3 (same_below _ hb)⟩

/-- What a line says: a wrong pattern; no rule; a rule. -/
def lineRule (line : ByteArray) : Option (Option Rule) :=
  if (trimB line).size = 0 ∨ (un (trimB line))[0]? = some 35 then some none
  else if Lib.hasPrefix (un (trimB line)) [33] then (patOf (trimB (bs (Lib.trimPrefix (un (trimB line)) [33])))).map fun ps => some (true, ps ++ [none])
  else (patOf (trimB line)).map fun ps => some (false, ps ++ [none])
end Go.Proofs.YthkbhcefckbcnaaGreatDoor
