/- The program's cutWord, isCopying. What EqualFold says of a text as long as the word is left open here (EqF). -/
import Derived.Test.YtjgijbeedgggdaaGreatDoorEndW
namespace Go.Proofs.YtjgijbeedgggdaaGreatDoor
open Go Go.RowKit

abbrev espS : ByteArray := ⟨#[101, 115, 99, 97, 112, 101]⟩
abbrev cpyS : ByteArray := ⟨#[99, 111, 112, 121]⟩
/-- The tables of the library that are read. -/
def Fold1 (w : World) : Prop := ∀ c : Nat, c ∈ [97, 99, 101, 111, 112, 115, 121] → w.cell? ⟨4, c, none⟩ = some (.int .u16 (if c = 115 then 383 else ((c - 32 : Nat) : Int))) ∧ w.cell? ⟨4, c - 32, none⟩ = some (.int .u16 (c : Int))
def Fold2 (w : World) : Prop := ∃ R o cap : Nat, R < w.heap.size ∧ w.cell? ⟨5, 0, none⟩ = some (.slice (some ⟨R, o, none⟩) 94 cap) ∧ w.cell? ⟨R, o + 94, none⟩ = some (.int .u16 966) ∧ w.cell? ⟨R, o + 46, none⟩ = some (.int .u16 837) ∧ w.cell? ⟨R, o + 22, none⟩ = some (.int .u16 452) ∧ w.cell? ⟨R, o + 10, none⟩ = some (.int .u16 197) ∧ w.cell? ⟨R, o + 16, none⟩ = some (.int .u16 304) ∧ w.cell? ⟨R, o + 20, none⟩ = some (.int .u16 383) ∧ w.cell? ⟨R, o + 18, none⟩ = some (.int .u16 305) ∧ w.cell? ⟨R, o + 21, none⟩ = some (.int .u16 83)
def Tabs (w : World) : Prop := Lib.Utf8Tabs 2 3 w ∧ Fold1 w ∧ Fold2 w
def EqF : Prop := ∀ (s t : ByteArray) (w : World), (t = espS ∨ t = cpyS) → s.size = t.size → Tabs w → Calls Tryz.prog 168 #[.string s, .string t] w fun e w' => e = .returned (.bool ((un s).map lowB == un t)) ∧ Below w.heap.size w w'
def cutW (s t : Ln) : Ln × Bool := if saysL s 0 t = true then (s.drop t.length, true) else ([], false)
theorem word_size {t : ByteArray} (ht : t = espS ∨ t = cpyS) : t.size ≤ 6 ∧ 0 < t.size := by rcases ht with rfl | rfl <;> decide
set_option maxRecDepth 100000 in
theorem cutWord_p (hE : EqF) (s t : ByteArray) (w : World) (ht : t = espS ∨ t = cpyS) (hT : Tabs w) (_hs : s.size ≤ 1099511627776) : Calls Tryz.prog 137 #[.string s, .string t] w fun e w' => e = .returned (.tuple #[.string (bs (cutW (un s) (un t)).1), .bool (cutW (un s) (un t)).2]) ∧ Below w.heap.size w w' := by
  have ⟨ht1, ht2⟩ := word_size ht
  by_cases hl : s.size < t.size
  · have h1 : saysL (un s) 0 (un t) = false := by unfold saysL; rw [decide_eq_false (by rw [un_length, un_length]; omega)]; rfl
    have h2 : cutW (un s) (un t) = ([], false) := by unfold cutW; rw [h1]; rfl
    rw [h2]
    have d1 : (s.size : Int) < (t.size : Int) := by omega
    go_enter Tryz.func137, Tryz.ntmps137
    go_wp2
    go_ret2
    exact ⟨rfl, Below.refl _ _⟩
  · have d1 : ¬ (s.size : Int) < (t.size : Int) := by omega
    have d2 : (0 : Int) ≤ (t.size : Int) := by omega
    have d3 : (t.size : Int) ≤ (s.size : Int) := by omega
    have hF := fun W (hW : Tabs W) => hE (s.extract 0 t.size) t W ht (by rw [size_extract' _ _ _ (by omega)]; omega) hW
    have e1 : un (s.extract 0 t.size) = (un s).take t.size := by rw [un_extract]; rfl
    have h1 : saysL (un s) 0 (un t) = (((un s).take t.size).map lowB == un t) := by unfold saysL; rw [decide_eq_true (by rw [un_length, un_length]; omega), List.drop_zero, un_length, Bool.true_and]
    rw [e1, ← h1] at hF
    have h2 : cutW (un s) (un t) = if saysL (un s) 0 (un t) = true then ((un s).drop t.size, true) else ([], false) := by unfold cutW; rw [un_length]
    rw [h2]
    have e2 := ext_end s t.size
    clear h1 h2 hE
    cases hsay : saysL (un s) 0 (un t) with
    | true =>
      rw [hsay] at hF
      go_enter Tryz.func137, Tryz.ntmps137
      go_wp2_with (go_at_call 168; refine (hF _ hT).mono ?_; rintro e w1 ⟨rfl, b1⟩)
      go_ret2
      exact ⟨rfl, b1⟩
    | false =>
      rw [hsay] at hF
      go_enter Tryz.func137, Tryz.ntmps137
      go_wp2_with (go_at_call 168; refine (hF _ hT).mono ?_; rintro e w1 ⟨rfl, b1⟩)
      go_ret2
      exact ⟨rfl, b1⟩
theorem says_drop (x : Ln) (k : Nat) (t : Ln) (hk : k ≤ x.length) : saysL (x.drop k) 0 t = saysL x k t := by
  unfold saysL
  rw [List.drop_zero, List.length_drop]
  congr 1
  by_cases h : k + t.length ≤ x.length
  · rw [decide_eq_true h, decide_eq_true (by omega)]
  · rw [decide_eq_false h, decide_eq_false (by omega)]
theorem ix_ge (b : UInt8) : decide (Lib.indexByte [32, 9, 13] b ≥ 0) = isBl b := by
  by_cases h1 : b = 32
  · subst h1; decide
  by_cases h2 : b = 9
  · subst h2; decide
  by_cases h3 : b = 13
  · subst h3; decide
  have k1 : ((32 : UInt8) == b) = false := by simp; exact fun e => h1 e.symm
  have k2 : ((9 : UInt8) == b) = false := by simp; exact fun e => h2 e.symm
  have k3 : ((13 : UInt8) == b) = false := by simp; exact fun e => h3 e.symm
  have e : Lib.indexByte [32, 9, 13] b = -1 := by simp only [Lib.indexByte, k1, k2, k3]; rfl
  rw [e]; simp [isBl, h1, h2, h3]
set_option maxRecDepth 100000 in
theorem isCopying_p (hE : EqF) (s : ByteArray) (w : World) (_hT : Tabs w) (hTb : ∀ W, Below w.heap.size w W → Tabs W) (hs : s.size ≤ 1099511627776) : Calls Tryz.prog 152 #[.string s] w fun e w' => e = .returned (.bool (copiesL (un s))) ∧ Below w.heap.size w w' := by
  have hh := hd_leT (un s)
  have hL := fun W => trimL_p s W
  have hC := fun W (hW : Tabs W) => cutWord_p hE (bs ((un s).drop (hd (un s)))) cpyS W (.inr rfl) hW (by rw [size_bs, List.length_drop, un_length]; omega)
  rw [un_bs, show un cpyS = copyW from rfl] at hC
  have e1 : cutW ((un s).drop (hd (un s))) copyW = if saysL (un s) (hd (un s)) copyW = true then ((un s).drop (hd (un s) + 4), true) else ([], false) := by
    unfold cutW; rw [says_drop _ _ _ hh, List.drop_drop]; rfl
  rw [e1] at hC
  have HC : Hid (copiesL (un s) = (saysL (un s) (hd (un s)) copyW && (match (un s)[hd (un s) + 4]? with
    | some b => isBl b
    | none => false))) := rfl
  clear e1 hE
  cases hsay : saysL (un s) (hd (un s)) copyW with
  | false =>
    rw [hsay] at hC HC
    have hC : ∀ W (hW : Tabs W), Calls Tryz.prog 137 #[.string (bs ((un s).drop (hd (un s)))), .string cpyS] W fun e w' => e = .returned (.tuple #[.string ⟨#[]⟩, .bool false]) ∧ Below W.heap.size W w' := hC
    rw [HC.out, Bool.false_and]
    go_enter Tryz.func152, Tryz.ntmps152
    go_wp2_with (first
      | (go_at_call 138; refine (hL _).mono ?_; rintro e w1 ⟨rfl, b1⟩)
      | (go_at_call 137; refine (hC _ (hTb _ b1)).mono ?_; rintro e w2 ⟨rfl, b2⟩))
    go_ret
    exact ⟨rfl, below_join b1 b2⟩
  | true =>
    rw [hsay] at hC HC
    have hC : ∀ W (hW : Tabs W), Calls Tryz.prog 137 #[.string (bs ((un s).drop (hd (un s)))), .string cpyS] W fun e w' => e = .returned (.tuple #[.string (bs ((un s).drop (hd (un s) + 4))), .bool true]) ∧ Below W.heap.size W w' := hC
    rw [HC.out]
    cases hb : (un s)[hd (un s) + 4]? with
    | none =>
      have e2 : bs ((un s).drop (hd (un s) + 4)) = ⟨#[]⟩ := by rw [List.drop_of_length_le (List.getElem?_eq_none_iff.1 hb)]; rfl
      rw [e2] at hC
      go_enter Tryz.func152, Tryz.ntmps152
      go_wp2_with (first
        | (go_at_call 138; refine (hL _).mono ?_; rintro e w1 ⟨rfl, b1⟩)
        | (go_at_call 137; refine (hC _ (hTb _ b1)).mono ?_; rintro e w2 ⟨rfl, b2⟩))
      go_ret
      exact ⟨rfl, below_join b1 b2⟩
    | some b =>
      have hk := (List.getElem?_eq_some_iff.1 hb).1
      have hI := fun W => Tryz.strings_IndexByte ⟨#[32, 9, 13]⟩ (b.toNat : Int) W
      have e3 : Lib.indexByte (⟨#[32, 9, 13]⟩ : ByteArray).data.toList ((b.toNat : Int).toNat.toUInt8) = Lib.indexByte [32, 9, 13] b := by simp
      rw [e3] at hI
      have hg := ix_ge b
      generalize hE4 : bs ((un s).drop (hd (un s) + 4)) = E at *
      have hz : 0 < E.size := by rw [← hE4, size_bs, List.length_drop]; omega
      have n1 : E.toList.isEmpty = false := (isEmpty_false E).2 hz
      have n2 : (E.toList == (⟨#[]⟩ : ByteArray).toList) = false := by
        cases hq : E.toList with
        | nil => rw [hq] at n1; cases n1
        | cons _ _ => rw [toList_un (⟨#[]⟩ : ByteArray)]; rfl
      have d2 : (0 : Int) < (E.size : Int) := by omega
      have z3 : E[0]'(by omega) = b := by
        have hu : un E = (un s).drop (hd (un s) + 4) := by rw [← hE4, un_bs]
        have := un_getElem? E 0 hz
        rw [hu, List.getElem?_drop, Nat.add_zero, hb] at this
        exact (Option.some.inj this).symm
      go_enter Tryz.func152, Tryz.ntmps152
      go_wp2_with (first
        | (go_at_call 138; refine (hL _).mono ?_; rintro e w1 ⟨rfl, b1⟩)
        | (go_at_call 137; refine (hC _ (hTb _ b1)).mono ?_; rintro e w2 ⟨rfl, b2⟩)
        | (go_at_call 167; refine (hI _).mono ?_; rintro e w3 ⟨rfl, rfl⟩))
      go_ret
      exact ⟨rfl, below_join b1 b2⟩
end Go.Proofs.YtjgijbeedgggdaaGreatDoor
