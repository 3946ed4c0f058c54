/- (*Tree).at: the node that the names of a path lead to. -/
import Derived.Test.YtgildlfanfbebaaGreatDoorNewW
import Derived.Test.YtgildlfanfbebaaGreatDoorCut
namespace Go.Proofs.YtgildlfanfbebaaGreatDoor
open Go Go.RowKit

theorem cutL_hit' (s : ByteArray) (i : Nat) (h : ix s = i) : cutL (un s) = un (s.extract 0 i) :: cutL (un (s.extract (i + 1) s.size)) := by
  rw [cutL_hit (un s) i h, un_extract, un_extract, List.take_of_length_le (by rw [un_length]; omega : (un s).length ≤ s.size)]
  rfl
theorem cut_any (s : ByteArray) (w : World) (hs : s.size ≤ 9223372036854775807) : Calls Tryz.prog 55 #[.string s, .string ⟨#[47]⟩] w fun e w' => ∃ (x r : ByteArray) (more : Bool) (n : Nat),
    e = .returned (.tuple #[.string x, .string r, .bool more]) ∧ w' = w.drewN n ∧ x.size ≤ s.size ∧ r.size ≤ s.size ∧ ((more = false ∧ cutL (un s) = [un x]) ∨ (more = true ∧ r.size < s.size ∧ cutL (un s) = un x :: cutL (un r))) := by
  have hr := ix_range s
  by_cases hi : ix s = -1
  · refine (cut_miss s w hi).mono ?_
    rintro e w' ⟨rfl, rfl⟩
    exact ⟨s, ⟨#[]⟩, false, 0, rfl, rfl, Nat.le_refl _, Nat.zero_le _, .inl ⟨rfl, cutL_miss (un s) hi⟩⟩
  · obtain ⟨i, hi2⟩ : ∃ i : Nat, ix s = i := ⟨(ix s).toNat, by omega⟩
    refine (cut_hit s i w hi2 (by omega)).mono ?_
    rintro e w' ⟨rfl, n, rfl⟩
    have h1 : i < s.size := by omega
    exact ⟨_, _, true, n, rfl, rfl, by rw [size_extract' _ _ _ (by omega)]; omega, by rw [size_extract' _ _ _ (Nat.le_refl _)]; omega, .inr ⟨rfl, by rw [size_extract' _ _ _ (Nat.le_refl _)]; omega, cutL_hit' s i hi2⟩⟩

/-- The names on the way to a path; none to the root. -/
def namesP (p : ByteArray) : List (List UInt8) := if p.size = 0 then [] else cutL (un p)
theorem TreeW.drewN {W : World} {P : Program} {k T : TypeId} {base N : Nat} {F : Pic} (h : TreeW W P k T base N F) (n : Nat) : TreeW (W.drewN n) P k T base N F := ⟨h.node, h.kids, h.leaf, h.gone, h.apart⟩
def leftA : Value → Value → Nat
  | .string s, .bool true => s.size + 1
  | _, _ => 0

set_option maxRecDepth 100000 in
set_option maxHeartbeats 4000000 in
theorem at_p (tb base N : Nat) (F : Pic) (rt : Nd) (p : ByteArray) (w : World) (hp : p.size ≤ 9223372036854775807) (hrt : F [] = some rt) (htb : w.cell? ⟨tb, 0, none⟩ = some (.pointer (some ⟨rt.b, 0, none⟩))) (hF : TreeW w Tryz.prog 9 155 base N F) :
    Calls Tryz.prog 118 #[.pointer (some ⟨tb, 0, none⟩), .string p] w fun e w' => ∃ n, e = .returned (toPtr ((F (namesP p)).map Nd.b)) ∧ w' = w.drewN n := by
  by_cases h0 : p.size = 0
  · have he : p.toList.isEmpty = true := (isEmpty_iff p).2 h0
    obtain rfl : p = ⟨#[]⟩ := un_inj (by apply List.eq_nil_of_length_eq_zero; rw [un_length]; exact h0)
    go_enter Tryz.func118, Tryz.ntmps118
    go_wp2
    go_ret
    exact ⟨0, by rw [show namesP ⟨#[]⟩ = [] from rfl, hrt]; rfl, rfl⟩
  · have he : p.toList.isEmpty = false := (isEmpty_false p).2 (by omega)
    have hn : namesP p = cutL (un p) := if_neg h0
    rw [hn]
    clear hn
    go_enter Tryz.func118, Tryz.ntmps118
    go_wp2
    go_loopw [5, 6, 7] (fun h r m wr => ∃ (pre : List (List UInt8)) (rest : ByteArray) (more : Bool) (n : Nat), h = toPtr ((F pre).map Nd.b) ∧ r = .string rest ∧ m = .bool more ∧ wr = w.drewN n ∧ rest.size ≤ p.size ∧ ((more = true ∧ cutL (un p) = pre ++ cutL (un rest)) ∨ (more = false ∧ cutL (un p) = pre))) (fun _ r m _ => leftA r m)
    case atStart => exact ⟨[], p, true, 0, by rw [hrt]; rfl, rfl, rfl, rfl, Nat.le_refl _, .inl ⟨rfl, rfl⟩⟩
    case round =>
      obtain ⟨pre, rest, more, n, hh, rfl, rfl, rfl, hrs, hcut⟩ := hrel
      rcases hcut with ⟨rfl, hcut⟩ | ⟨rfl, hcut⟩
      · cases hx : F pre with
        | none =>
          have hno : F (cutL (un p)) = none := by rw [hcut]; exact hF.gone_all hx _
          rw [hx] at hh
          replace hh : _ = Value.pointer none := hh
          subst hh
          go_wp2
          go_ret
          exact ⟨n, by rw [hno]; rfl, rfl⟩
        | some x =>
          rw [hx] at hh
          replace hh : _ = Value.pointer (some ⟨x.b, 0, none⟩) := hh
          subst hh
          have hc5 : ∀ k, (w.drewN (n + k)).cell? ⟨x.b, 5, none⟩ = some (.map x.m) := fun k => node_cell (hF.node pre x hx).2 rfl
          have hlook : ∀ k (s : ByteArray), s.size ≤ 9223372036854775807 → (Instr.lookup 153 (.map x.m) (.string s) false).run Tryz.prog (w.drewN (n + k)) = .ok (toPtr ((F (pre ++ [un s])).map Nd.b)) (w.drewN (n + k)) :=
            fun k s hs => (hF.drewN (n + k)).look Tryz.underlying9 Tryz.underlying153 rfl hx (Nat.le_trans hs (by decide))
          go_wp2_with (go_at_call 55; refine (cut_any rest _ (by omega)).mono ?_; rintro e w' ⟨y, r, more, k, rfl, rfl, h1, h2, h3⟩; have hl := hlook k y (by omega); have hc := hc5 k)
          refine ⟨⟨pre ++ [un y], r, more, n + k, rfl, rfl, rfl, rfl, by omega, ?_⟩, ?_⟩
          · rcases h3 with ⟨rfl, h3⟩ | ⟨rfl, _, h3⟩
            · exact .inr ⟨rfl, by rw [hcut, h3]⟩
            · exact .inl ⟨rfl, by rw [hcut, h3]; simp⟩
          · rcases h3 with ⟨rfl, _⟩ | ⟨rfl, h4, _⟩
            · simp [leftA]
            · simp only [leftA]; omega
      · subst hh
        go_wp2
        go_ret
        exact ⟨n, by rw [hcut]; rfl, rfl⟩
end Go.Proofs.YtgildlfanfbebaaGreatDoor
