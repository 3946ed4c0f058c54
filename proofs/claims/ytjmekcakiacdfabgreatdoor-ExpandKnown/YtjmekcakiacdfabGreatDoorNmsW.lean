/- Package expand's Names: the names that a word asks for, each once. -/
import Derived.Test.YtjmekcakiacdfabGreatDoorEacN
import Derived.Test.YtjmekcakiacdfabGreatDoorWrdW
namespace Go.Proofs.YtjmekcakiacdfabGreatDoor
open Go Go.RowKit Go.Maps

theorem a_lit (v : Value) (w : World) : (Go.method 289 132 v "strata/expand.asks").run Tryz.prog w = .ok (124, v) w := by kernel_rfl
theorem a_var (v : Value) (w : World) : (Go.method 289 149 v "strata/expand.asks").run Tryz.prog w = .ok (133, v) w := by kernel_rfl
theorem a_ifE (v : Value) (w : World) : (Go.method 289 152 v "strata/expand.asks").run Tryz.prog w = .ok (137, v) w := by kernel_rfl
theorem a_ifF (v : Value) (w : World) : (Go.method 289 153 v "strata/expand.asks").run Tryz.prog w = .ok (140, v) w := by kernel_rfl
theorem a_fin (v : Value) (w : World) : (Go.method 289 134 v "strata/expand.asks").run Tryz.prog w = .ok (131, v) w := by kernel_rfl
theorem litAsk_p (x : ByteArray) (w : World) : Calls Tryz.prog 124 #[.string x] w fun e w' => e = .returned (.string ⟨#[]⟩) ∧ Below w.heap.size w w' := by
  go_enter Tryz.func124, Tryz.ntmps124
  go_wp2
  go_ret
  exact ⟨rfl, Below.refl _ _⟩
theorem finAsk_p (w : World) : Calls Tryz.prog 131 #[.agg #[]] w fun e w' => e = .returned (.string ⟨#[]⟩) ∧ Below w.heap.size w w' := by
  go_enter Tryz.func131, Tryz.ntmps131
  go_wp2
  go_ret
  exact ⟨rfl, (Below.refl _ w).alloc (Nat.le_refl _) _⟩
theorem varAsk_p (x : ByteArray) (w : World) : Calls Tryz.prog 133 #[.string x] w fun e w' => e = .returned (.string x) ∧ Below w.heap.size w w' := by
  go_enter Tryz.func133, Tryz.ntmps133
  go_wp2
  go_ret
  exact ⟨rfl, Below.refl _ _⟩
theorem ifEAsk_p (x : ByteArray) (w : World) : Calls Tryz.prog 137 #[.string x] w fun e w' => e = .returned (.string x) ∧ Below w.heap.size w w' := by
  go_enter Tryz.func137, Tryz.ntmps137
  go_wp2
  go_ret
  exact ⟨rfl, Below.refl _ _⟩
theorem ifFAsk_p (x : ByteArray) (w : World) : Calls Tryz.prog 140 #[.string x] w fun e w' => e = .returned (.string x) ∧ Below w.heap.size w w' := by
  go_enter Tryz.func140, Tryz.ntmps140
  go_wp2
  go_ret
  exact ⟨rfl, Below.refl _ _⟩

def nsC (ns : List (List UInt8)) : List Value := ns.map fun n => .string (bs n)
theorem nsC_length (ns : List (List UInt8)) : (nsC ns).length = ns.length := by simp [nsC]
theorem info_str : (Tryz.prog.info? 9).map (fun i => (i.zero, i.size, i.bytes)) = some (some (.string ⟨#[]⟩), 1, 16) := by kernel_rfl
theorem info_unit : (Tryz.prog.info? 86).map (fun i => (i.zero, i.size)) = some (some (.agg #[]), 0) := by kernel_rfl
theorem zero_unit (W : World) : (zeroValue 86).run Tryz.prog W = .ok (.agg #[]) W := (zero_of_info (P := Tryz.prog) info_unit).1 W
/-- The map holds just these names. -/
def MetOK (ns : List (List UInt8)) (D : DataW Unit) : Prop := ∀ n : ByteArray, has D (kS n) = decide (un n ∈ ns)
theorem metOK_start : MetOK [] (.map []) := fun n => by simp [has]
theorem metOK_put {ns : List (List UInt8)} {D : DataW Unit} (h : MetOK ns D) (hm : IsMap D) (x : ByteArray) (u : DataW Unit) : MetOK (ns ++ [un x]) (D.put (kS x) u) := fun n => by
  by_cases e : n = x
  · subst e; rw [has_put_same hm (kS_lit _)]; simp
  · have hne : kS n ≠ kS x := fun e2 => e (kS_inj e2)
    rw [has_put_other hne, h n]
    have : un n ≠ un x := fun e2 => e (un_inj e2)
    simp [this]
theorem own_mapU {w w' : World} {b m : Nat} {D : DataW Unit} (h : w.ownsMap Tryz.prog 9 unitElem b m D) (hb : w'.heap[b]? = w.heap[b]?) : w'.ownsMap Tryz.prog 9 unitElem b m D := by
  obtain ⟨es, clock, h1, rest⟩ := h
  exact ⟨es, clock, hb.trans h1, rest⟩
theorem own_keepN {w w' : World} {B e size n : Nat} {v : Value} {xs : List Value} (h : w.ownsRow B e size v n xs) (hk : ∀ j, v.ownBlock = some j → w'.heap[j]? = w.heap[j]?) : w'.ownsRow B e size v n xs := by
  refine ⟨h.1, ?_⟩
  rcases h.2 with h1 | ⟨g, cap, cur, h1, hb, hg, h2⟩
  · exact .inl h1
  · exact .inr ⟨g, cap, cur, h1, hb, (hk g (by rw [h1]; rfl)).trans hg, h2⟩
/-- What stands between the pieces: the names so far, in the list and in the map. -/
structure Nz (W : World) (B M L g m : Nat) (v : Value) (D : DataW Unit) (ns : List (List UInt8)) : Prop where
  lm : Lies W M 84 #[.map (some g)]
  ll : Lies W L 36 #[v]
  own : W.ownsRow B 9 1 v ns.length (nsC ns)
  map : W.ownsMap Tryz.prog 9 unitElem g m D
  met : MetOK ns D
  few : m ≤ ns.length
  low : B ≤ M ∧ B ≤ L ∧ B ≤ g
def nzS (M L g : Nat) (v : Value) : Nat → Prop := fun j => j = M ∨ j = L ∨ j = g ∨ v.ownBlock = some j
theorem Nz.vS {W : World} {B M L g m : Nat} {v : Value} {D : DataW Unit} {ns : List (List UInt8)} (h : Nz W B M L g m v D ns) : ∀ j, v.ownBlock = some j → B ≤ j ∧ ∃ cur, W.heap[j]? = some (.cells cur 9 (0, 0)) := by
  intro j hj
  rcases h.own.2 with ⟨h1, _⟩ | ⟨q, cap, cur, h1, hb, hg, _⟩
  · rw [h1] at hj; cases hj
  · rw [h1] at hj
    have hj : q = j := by simpa [Value.ownBlock] using hj
    subst hj; exact ⟨hb, cur, hg⟩
theorem Nz.there {W : World} {B M L g m : Nat} {v : Value} {D : DataW Unit} {ns : List (List UInt8)} (h : Nz W B M L g m v D ns) : ∀ j, nzS M L g v j → j < W.heap.size := by
  rintro j (rfl | rfl | rfl | hj)
  · exact h.lm.lt
  · exact h.ll.lt
  · exact h.map.lt
  · obtain ⟨_, cur, hc⟩ := h.vS j hj
    exact (Array.getElem?_eq_some_iff.1 hc).1
theorem Nz.ge {W : World} {B M L g m : Nat} {v : Value} {D : DataW Unit} {ns : List (List UInt8)} (h : Nz W B M L g m v D ns) : ∀ j, nzS M L g v j → ¬ j < B := by
  obtain ⟨h1, h2, h3⟩ := h.low
  rintro j (rfl | rfl | rfl | hj)
  · omega
  · omega
  · omega
  · have := (h.vS j hj).1; omega
theorem Nz.keep {W W2 : World} {B M L g m : Nat} {v : Value} {D : DataW Unit} {ns : List (List UInt8)} (h : Nz W B M L g m v D ns) (hk : ∀ j, nzS M L g v j → W2.heap[j]? = W.heap[j]?) : Nz W2 B M L g m v D ns :=
  ⟨(hk M (.inl rfl)).trans h.lm, (hk L (.inr (.inl rfl))).trans h.ll, own_keepN h.own (fun j hj => hk j (.inr (.inr (.inr hj)))), own_mapU h.map (hk g (.inr (.inr (.inl rfl)))), h.met, h.few, h.low⟩
theorem Nz.apart {W : World} {B M L g m : Nat} {v : Value} {D : DataW Unit} {ns : List (List UInt8)} (h : Nz W B M L g m v D ns) : M ≠ L ∧ M ≠ g ∧ L ≠ g ∧ v.ownBlock ≠ some M ∧ v.ownBlock ≠ some L ∧ v.ownBlock ≠ some g := by
  have hm := h.lm
  have hl := h.ll
  obtain ⟨es, clock, hg, _⟩ := h.map
  unfold Lies at hm hl
  refine ⟨?_, ?_, ?_, ?_, ?_, ?_⟩
  · rintro rfl; rw [hm] at hl; simp at hl
  · rintro rfl; rw [hm] at hg; simp at hg
  · rintro rfl; rw [hl] at hg; simp at hg
  · intro e; obtain ⟨_, cur, hc⟩ := h.vS _ e; rw [hm] at hc; simp at hc
  · intro e; obtain ⟨_, cur, hc⟩ := h.vS _ e; rw [hl] at hc; simp at hc
  · intro e; obtain ⟨_, cur, hc⟩ := h.vS _ e; rw [hg] at hc; simp at hc
end Go.Proofs.YtjmekcakiacdfabGreatDoor
