/- Has one of the entries that aren't out a path below another: the statement's own walk. -/
import Derived.Test.YthkbhcefckbcnaaGreatDoorEntW
import Derived.Test.YthkbhcefckbcnaaGreatDoorRefBel
namespace Go.Proofs.YthkbhcefckbcnaaGreatDoor
open Go Go.RowKit

/-- What a list's Out answers, in every world in which it stands. -/
def OutOK (G : World → Prop) (lv : Value) (ok : ByteArray → Bool) : Prop := ∀ W, G W → ∀ p : ByteArray, p.size ≤ 1048576 → Calls Tryz.prog 18 #[lv, .string p] W fun e w' => e = .returned (.bool (!ok p)) ∧ Below W.heap.size W w'
def KeptBy (G : World → Prop) : Prop := ∀ W W2, G W → Below W.heap.size W W2 → G W2
theorem any_next (ok : ByteArray → Bool) (es : List Ent) (dir : ByteArray) (k : Nat) (x : Ent) (hx : es[k]? = some x) (h0 : anyB ok (es.take k) dir = false) : anyB ok (es.take (k + 1)) dir = (belowB dir x.path && ok x.path) := by
  unfold anyB at h0 ⊢
  rw [List.take_add_one, hx, List.any_append, h0]
  simp
theorem any_hit (ok : ByteArray → Bool) (es : List Ent) (dir : ByteArray) (k : Nat) (x : Ent) (hx : es[k]? = some x) (h1 : belowB dir x.path = true) (h2 : ok x.path = true) : anyB ok es dir = true := by
  unfold anyB
  rw [List.any_eq_true]
  exact ⟨x, List.mem_of_getElem? hx, by rw [h1, h2]; rfl⟩
set_option maxRecDepth 100000 in
set_option maxHeartbeats 2000000 in
theorem bel_p {G : World → Prop} (HG : KeptBy G) (lv : Value) (ok : ByteArray → Bool) (HO : Hid (OutOK G lv ok)) (v : Value) (es : List Ent) (dir : ByteArray) (w : World) (hG : G w) (hv : EntsAt w v es) (hl : es.length ≤ 1073741824) (hz : ∀ e ∈ es, e.path.size ≤ 1048576) (hd : dir.size ≤ 1048576) : Calls Tryz.prog 19 #[lv, v, .string dir] w fun e w' => e = .returned (.bool (anyB ok es dir)) ∧ Below w.heap.size w w' := by
  obtain ⟨a, cap, b, o, rfl, ha, hcap, hc⟩ := hv
  go_enter Tryz.func19, Tryz.ntmps19
  go_wp2
  go_loopw [7] (fun i wr => ∃ k : Nat, i = .int .i64 k ∧ k ≤ es.length ∧ anyB ok (es.take k) dir = false ∧ Below w.heap.size w wr) (fun i _ => es.length - (intOf i).toNat)
  case atStart => exact ⟨0, rfl, Nat.zero_le _, rfl, Below.refl _ _⟩
  case round =>
    obtain ⟨k, rfl, hk, h0, hB⟩ := hrel
    by_cases hlt : k < es.length
    · have hlt' : (k : Int) < (es.length : Int) := by omega
      have hk0 : (0 : Int) ≤ (k : Int) := by omega
      obtain ⟨x, hx⟩ : ∃ x, es[k]? = some x := ⟨_, List.getElem?_eq_getElem hlt⟩
      obtain rfl := ha (fun e => by rw [e] at hlt; simp at hlt)
      obtain ⟨c0, _, _, _, _⟩ := (hc k x hx).below hB
      have hxz := hz x (List.mem_of_getElem? hx)
      have hBe := fun W => below_r dir x.path W (by omega)
      have hO := HO.out wr (HG _ _ hG hB) x.path hxz
      have HN : Hid _ := any_next ok es dir k x hx h0
      have HH : Hid (belowB dir x.path = true → ok x.path = true → anyB ok es dir = true) := any_hit ok es dir k x hx
      clear hx hc ha h0
      cases e1 : belowB dir x.path with
      | false =>
        rw [e1] at hBe
        go_wp2_with (go_at_call 32; refine (hBe _).mono ?_; rintro e w1 ⟨rfl, hw⟩; subst hw)
        go_roundw
        case rel => exact ⟨k + 1, by go_num, by omega, by rw [HN.out, e1]; rfl, hB⟩
        case measure => simp [intOf]; omega
      | true =>
        rw [e1] at hBe
        cases e2 : ok x.path with
        | false =>
          rw [e2] at hO
          go_wp2_with (first
            | (go_at_call 32; refine (hBe _).mono ?_; rintro e w1 ⟨rfl, hw⟩; subst hw)
            | (go_at_call 18; refine hO.mono ?_; rintro e w2 ⟨rfl, b2⟩))
          go_roundw
          case rel => exact ⟨k + 1, by go_num, by omega, by rw [HN.out, e1, e2]; rfl, hB.trans (b2.mono hB.size)⟩
          case measure => simp [intOf]; omega
        | true =>
          rw [e2] at hO
          have HE : Hid (anyB ok es dir = true) := HH.out e1 e2
          go_wp2_with (first
            | (go_at_call 32; refine (hBe _).mono ?_; rintro e w1 ⟨rfl, hw⟩; subst hw)
            | (go_at_call 18; refine hO.mono ?_; rintro e w2 ⟨rfl, b2⟩))
          go_ret
          exact ⟨by rw [HE.out]; rfl, hB.trans (b2.mono hB.size)⟩
    · have hge : ¬ (k : Int) < (es.length : Int) := by omega
      have HE : Hid (anyB ok es dir = false) := by rw [List.take_of_length_le (by omega)] at h0; exact h0
      clear h0
      go_wp2
      go_ret
      exact ⟨by rw [HE.out]; rfl, hB⟩
end Go.Proofs.YthkbhcefckbcnaaGreatDoor
