/- What the walks ask of the library's functions, paid. -/
import Derived.Test.YtgdkgdlgalinbaaGreatDoorShU
import Derived.Test.YtgdkgdlgalinbaaGreatDoorShelf
namespace Go.Proofs.YtgdkgdlgalinbaaGreatDoor
open Go Go.RowKit

theorem repeatL_one : ∀ c : Nat, Lib.repeatL [48] c = List.replicate c (dg 0)
  | 0 => rfl
  | c + 1 => by rw [Lib.repeatL, repeatL_one c, List.replicate_succ]; rfl
theorem drop_take_len {α : Type} (p : α → Bool) (l : List α) : (l.takeWhile p).length + (l.dropWhile p).length = l.length := by
  rw [← List.length_append, List.takeWhile_append_dropWhile]
theorem h27l : (Tryz.prog.info? (Tryz.laysSlV8_ren.t 27)).map (fun i => (i.zero, i.size)) = some (some (.agg (Array.replicate 256 (.bool false))), 256) := by kernel_rfl
theorem h27r : (Tryz.prog.info? (Tryz.laysSlV7_ren.t 27)).map (fun i => (i.zero, i.size)) = some (some (.agg (Array.replicate 256 (.bool false))), 256) := by kernel_rfl
theorem bytesAt_lies {l : List UInt8} {b o n : Nat} {w : World} {t : TypeId} (hL : Lies w b t (bcs l)) (h : o + n ≤ l.length) : Lib.BytesAt w (some ⟨b, o, none⟩) n ((l.drop o).take n) := fun _ => ⟨b, o, rfl, fun i hi => by
  rw [hL.cell (bcs_get l (o + i) (by omega))]
  have hi2 : i < ((l.drop o).take n).length := by simp; omega
  rw [List.getD_eq_getElem?_getD, List.getElem?_eq_getElem hi2]
  simp⟩
theorem trimLeft_len (l : List UInt8) : (Lib.trimLeftS l [32]).length = l.length - blanks l := by
  unfold Lib.trimLeftS blanks
  have e : (fun x : UInt8 => [32].contains x) = (· == 32) := by
    funext x; simp [List.contains, List.elem]
    cases x == 32 <;> rfl
  rw [e]
  have := drop_take_len (· == (32 : UInt8)) l
  omega
theorem blanks_le (l : List UInt8) : blanks l ≤ l.length := by
  unfold blanks
  have := drop_take_len (· == (32 : UInt8)) l
  omega
theorem trimRight_len (l : List UInt8) : (Lib.trimRightS l [0, 32]).length = coreN l := by
  unfold Lib.trimRightS coreN
  have e : (fun x : UInt8 => [0, 32].contains x) = (fun c => c == 0 || c == 32) := by
    funext x; simp [List.contains, List.elem]
    cases x == 0 <;> cases x == 32 <;> rfl
  rw [e, List.length_reverse]
theorem head_none : ∀ l : List UInt8, (∀ j : Nat, l[j]? ≠ some 0) → headN l = l.length
  | [], _ => rfl
  | b :: l, h => by
    have h0 : (b != 0) = true := by
      have := h 0
      simp at this
      simpa using this
    have ih := head_none l (fun j => by have := h (j + 1); simpa using this)
    unfold headN at ih ⊢
    rw [List.takeWhile_cons_of_pos (p := fun x : UInt8 => x != 0) h0, List.length_cons, ih, List.length_cons]
theorem head_at : ∀ (l : List UInt8) (i : Nat), l[i]? = some 0 → (∀ j : Nat, j < i → l[j]? ≠ some 0) → headN l = i
  | [], i, h, _ => by simp at h
  | b :: l, 0, h, _ => by
    simp at h
    unfold headN
    rw [List.takeWhile_cons_of_neg (by simp [h])]; rfl
  | b :: l, i + 1, h, hj => by
    have h0 : (b != 0) = true := by
      have := hj 0 (by omega)
      simp at this
      simpa using this
    have ih := head_at l i (by simpa using h) (fun j hji => by have := hj (j + 1) (by omega); simpa using this)
    unfold headN at ih ⊢
    rw [List.takeWhile_cons_of_pos (p := fun x : UInt8 => x != 0) h0, List.length_cons, ih]
theorem head_miss (l : List UInt8) (h : Lib.indexByte l 0 = -1) : headN l = l.length := head_none l (indexByte_miss 0 l h)
theorem head_hit (l : List UInt8) (i : Nat) (h : Lib.indexByte l 0 = i) : headN l = i := head_at l i (indexByte_hit 0 l i h).1 (indexByte_hit 0 l i h).2
theorem bytesOf_nat (l : List UInt8) : Lib.bytesOf (l.map (fun b => (b.toNat : Int))) = l := by
  rw [Lib.bytesOf, List.map_map]
  conv => rhs; rw [← List.map_id l]
  apply List.map_congr_left
  intro a _
  simp
theorem shelf5 : Shelf5 where
  idx s w := Tryz.strings_IndexByte s 0 w
  rep c w hc := (Tryz.strings_Repeat ⟨#[48]⟩ c w (by omega) (by have : (⟨#[48]⟩ : ByteArray).size = 1 := rfl; rw [this]; omega)).mono (by
    rintro e w' ⟨rfl, b⟩
    exact ⟨by rw [show (⟨#[48]⟩ : ByteArray).data.toList = [48] from rfl, repeatL_one]; rfl, b⟩)
  triml t l b o n c w hL h0 ho hn hc := (Tryz.bytes_TrimLeft h27l (some ⟨b, o, none⟩) n c ((l.drop o).take n) ⟨#[32]⟩ w (by simp; omega) hn (by omega) (bytesAt_lies hL ho) (by decide) (by
      intro j x hx
      have : j = 0 := by
        rcases j with _ | j
        · rfl
        · simp at hx
      subst this; simp at hx; subst hx; decide)).mono (by
    rintro e w' ⟨rfl, bb⟩
    refine ⟨?_, bb⟩
    have hlen : ((l.drop o).take n).length = n := by simp; omega
    have hb := blanks_le ((l.drop o).take n)
    rw [hlen] at hb
    rw [show (⟨#[32]⟩ : ByteArray).data.toList = [32] from rfl, trimLeft_len, hlen, show n - (n - blanks ((l.drop o).take n)) = blanks ((l.drop o).take n) by omega]
    unfold Lib.leftV Lib.fromV
    split
    · rfl
    · rw [if_neg (by omega)]; simp only [Option.map_some, Addr.add_mid])
  trimr t l b o n c w hL h0 ho hn hc := (Tryz.bytes_TrimRight h27r (some ⟨b, o, none⟩) n c ((l.drop o).take n) ⟨#[0, 32]⟩ w (by simp; omega) hn (by omega) (bytesAt_lies hL ho) (by decide) (by
      intro j x hx
      rcases j with _ | _ | j
      · simp at hx; subst hx; decide
      · simp at hx; subst hx; decide
      · simp at hx)).mono (by
    rintro e w' ⟨rfl, bb⟩
    exact ⟨by rw [show (⟨#[0, 32]⟩ : ByteArray).data.toList = [0, 32] from rfl, trimRight_len], bb⟩)
  trimn w := (Tryz.bytes_TrimRight h27r none 0 0 [] ⟨#[0, 32]⟩ w rfl (Nat.le_refl _) (by omega) (fun h => absurd h (by omega)) (by decide) (by
      intro j x hx
      rcases j with _ | _ | j
      · simp at hx; subst hx; decide
      · simp at hx; subst hx; decide
      · simp at hx)).mono (by
    rintro e w' ⟨rfl, bb⟩
    exact ⟨rfl, bb⟩)
  cut t l b o n c q w hL ho hn hc hq := by
    have hlen : ((l.drop o).take n).length = n := by simp; omega
    have hI := Tryz.bytes_Index_one b o n c q 0 1 (((l.drop o).take n).map (fun b => (b.toNat : Int))) 0 w (by rw [List.length_map, hlen]) (fun i hi => by
      obtain ⟨b', o', hbo, hc'⟩ := bytesAt_lies hL ho (by omega)
      have e1 := Option.some.inj hbo
      have e2 : b = b' := congrArg Addr.block e1
      have e3 : o = o' := congrArg Addr.off e1
      subst e2; subst e3
      rw [hc' i hi]
      have hi2 : i < ((l.drop o).take n).length := by rw [hlen]; exact hi
      rw [List.getD_eq_getElem?_getD, List.getD_eq_getElem?_getD, List.getElem?_map, List.getElem?_eq_getElem hi2]
      rfl) hq
    rw [bytesOf_nat, show (0 : Int).toNat.toUInt8 = 0 from rfl] at hI
    have hr := indexByte_range 0 ((l.drop o).take n)
    rw [hlen] at hr
    refine (Tryz.bytes_Cut_of (some ⟨b, o, none⟩) (some ⟨q, 0, none⟩) n c 1 1 (Lib.indexByte ((l.drop o).take n) 0) w hn hr.1 (fun _ => by omega) (by omega) (hI.mono (by rintro e w' ⟨rfl, rfl⟩; exact ⟨rfl, 0, rfl⟩))).mono ?_
    rintro e w' ⟨rfl, d, rfl⟩
    unfold Lib.cutV
    by_cases h0 : 0 ≤ Lib.indexByte ((l.drop o).take n) 0
    · obtain ⟨i, hi⟩ : ∃ i : Nat, Lib.indexByte ((l.drop o).take n) 0 = i := ⟨_, (Int.toNat_of_nonneg h0).symm⟩
      rw [if_pos h0, hi, head_hit _ i hi]
      exact ⟨_, _, rfl, below_drawn (Below.refl _ w) d⟩
    · rw [if_neg h0, head_miss _ (by omega), hlen]
      exact ⟨_, _, rfl, below_drawn (Below.refl _ w) d⟩
end Go.Proofs.YtgdkgdlgalinbaaGreatDoor
