/- The document's Split: what package words' Split answers. -/
import Derived.Test.YtmnggnmgiflhjaaDoorDocT
namespace Go.Proofs.YtmnggnmgiflhjaaDoor
open Go Go.RowKit

def DocPost (s : ByteArray) (c : UInt8) (w : World) (v : Value) (n a : Int) (w' : World) : Prop :=
  match splitR (escN c) (un s) with
  | .ok xs => n = 0 ∧ a = 0 ∧ w'.ownsRow w.heap.size 41 2 v xs.length (wcells (wdsOf s xs))
  | .error q => n = 18 ∧ a = q ∧ v = .slice none 0 0
/-- What stands between two words. -/
def SI (e : UInt8) (l : List UInt8) (i : Nat) (D : List (Nat × Nat)) : Prop :=
  ((stA e l i).now = 0 ∧ D = (stA e l i).out) ∨ (((stA e l i).now = 1 ∨ (stA e l i).now = 2) ∧ D = (stA e l i).out ++ [((stA e l i).beg, i)] ∧ ∀ b, l[i]? = some b → (stA e l i).now = 1 ∧ isBl b = true)
theorem SI.blank {e : UInt8} {l : List UInt8} {i : Nat} {D : List (Nat × Nat)} {b : UInt8} (h : SI e l i D) (hg : l[i]? = some b) (hb : isBl b = true) : SI e l (i + 1) D := by
  rcases h with ⟨h1, h2⟩ | ⟨_, h2, h3⟩
  · left; rw [stA_succ _ _ _ _ hg, step_0b _ _ _ _ h1 hb]; exact ⟨h1, h2⟩
  · left; rw [stA_succ _ _ _ _ hg, step_1b _ _ _ _ (h3 b hg).1 hb]; exact ⟨rfl, h2⟩
theorem SI.free {e : UInt8} {l : List UInt8} {i : Nat} {D : List (Nat × Nat)} {b : UInt8} (h : SI e l i D) (hg : l[i]? = some b) (hb : isBl b = false) : (stA e l i).now = 0 ∧ D = (stA e l i).out := by
  rcases h with h | ⟨_, _, h3⟩
  · exact h
  · have := (h3 b hg).2; rw [hb] at this; exact absurd this (by decide)
theorem SI.len {e : UInt8} {l : List UInt8} {i : Nat} {D : List (Nat × Nat)} (h : SI e l i D) (hi : i ≤ l.length) : D.length ≤ i + 1 := by
  have := stA_out e l i hi
  rcases h with ⟨_, h2⟩ | ⟨_, h2, _⟩
  · rw [h2]; omega
  · rw [h2, List.length_append]; simp; omega
theorem SI.fin {e : UInt8} {l : List UInt8} {D : List (Nat × Nat)} (h : SI e l l.length D) : splitR e l = .ok D := by
  unfold splitR
  rcases h with ⟨h1, h2⟩ | ⟨h1, h2, _⟩
  · rw [if_neg (by omega), if_neg (by omega), h2]
  · rw [if_neg (by omega), if_pos (by omega), h2]
set_option maxRecDepth 100000 in
set_option maxHeartbeats 8000000 in
theorem split_d (s : ByteArray) (c : UInt8) (w : World) (hs : s.size ≤ 1099511627776) : Calls Tryd.prog 9 #[.string s, .int .u8 c.toNat] w fun ev w' => ∃ v n a, ev = .returned (.tuple #[v, .int .i64 n, .int .i64 a]) ∧ DocPost s c w v n a w' ∧ Below w.heap.size w w' := by
  obtain ⟨i0, hi, hz0, hz1, hz2⟩ := info_parts info_wd
  have hsl := un_length s
  have he := escN_ne c
  have HP : Hid (∀ v n a w', DocPost s c w v n a w' = match splitR (escN c) (un s) with
    | .ok xs => n = 0 ∧ a = 0 ∧ w'.ownsRow w.heap.size 41 2 v xs.length (wcells (wdsOf s xs))
    | .error q => n = 18 ∧ a = q ∧ v = .slice none 0 0) := fun _ _ _ _ => rfl
  have hesc := fun W => esc_r c W
  generalize escN c = e at *
  go_enter Tryd.func9, Tryd.ntmps9
  go_wp2_with (go_at_call 22; refine (hesc _).mono ?_; rintro ev w1 ⟨rfl, hw⟩; replace hw := hw.symm; subst hw)
  go_loopw [8, 9, 10, 11] (fun v iv _ _ wr => ∃ (i : Nat) (D : List (Nat × Nat)), iv = .int .i64 i ∧ i ≤ s.size ∧ Hid (SI e (un s) i D) ∧ D.length ≤ s.size + 1 ∧ wr.ownsRow w.heap.size 41 2 v D.length (wcells (wdsOf s D)) ∧ Below w.heap.size w wr) (fun _ iv _ _ _ => s.size - (intOf iv).toNat)
  case atStart => exact ⟨0, [], rfl, Nat.zero_le _, .inl ⟨rfl, rfl⟩, Nat.zero_le _, World.ownsRow_nil _ _ _ _, Below.refl _ _⟩
  case round =>
    obtain ⟨i, D, rfl, his, HI, hD, hown, hB⟩ := hrel
    have hsz := hB.size
    have k0 : (0 : Int) ≤ (i : Int) := by omega
    by_cases hlt : i < s.size
    · have hget := un_getElem? s i hlt
      have k1 : (i : Int) < (s.size : Int) := by omega
      have hbl := fun W => blank_r s[i] W
      cases hb : isBl s[i]
      · rw [hb] at hbl
        have HF : Hid ((stA e (un s) i).now = 0 ∧ D = (stA e (un s) i).out) := HI.out.free hget hb
        have hW := fun W => word_d s i e W hs hlt ⟨he.1, he.2.1⟩ HF.out.1 hb
        clear hget hb
        go_wp2_with (first | (go_at_call 23; refine (hbl _).mono ?_; rintro ev w1 ⟨rfl, hw⟩; replace hw := hw.symm; subst hw) | fail)
        refine (hW _).mono ?_
        rintro ev w2 ⟨r, ok, rfl, hr, b2⟩
        have hB2 := below_join hB b2
        have hown2 := own_up hown b2
        have hsz2 := hB2.size
        clear hown b2 hW hB
        rcases hr with ⟨rfl, k, n, q, rfl, g1, g2, g3, g4, g5⟩ | ⟨rfl, k, rfl, g1, g2⟩
        · have HS : Hid (SI e (un s) k (D ++ [(i, k)])) := by
            refine .inr ⟨by rw [g4]; exact g3, by rw [g4]; show D ++ _ = (stA e (un s) i).out ++ _; rw [HF.out.2], fun b h => ?_⟩
            rw [g4]; exact g5 b h
          have hk2 : k ≤ s.size := by omega
          have hDl : D.length ≤ i + 1 := HI.out.len (by omega)
          have j1 : (i : Int) ≤ (k : Int) := by omega
          have j2 : (k : Int) ≤ (s.size : Int) := by omega
          clear g4 g5 g3 HF
          go_wp2_with (at_builtin; refine wpList_append_own _ rfl _ _ 22 rfl w.heap.size 41 i0 (.agg #[.int .i64 0, .string ⟨#[]⟩]) 2 24 Tryd.underlying22 hi hz0 hz1 hz2 rfl (by decide) _ _ _ rfl (hown2.alloc _) ⟨w2.heap.size, 0, none⟩ 1 1 [.int .i64 i, .string (s.extract i k)] rfl rfl (wd_new _ _ _ _) (by simp [Value.oneCell']) (by unfold maxLen; omega) (by omega) (by simp; omega) ?_; intro v1 w1 hown1 hgrow1 _)
          have hb1 : Below w.heap.size w w1 := (hB2.alloc hsz2 _).grown hgrow1 (by simp; omega) (fun j hj => (own_ge hown2 j hj.symm).1)
          have hfin : w1.ownsRow w.heap.size 41 2 v1 (D ++ [(i, k)]).length (wcells (wdsOf s (D ++ [(i, k)]))) := by
            rw [wdsOf_append, wcells_append, List.length_append]; exact hown1
          first
            | exact ⟨⟨k, D ++ [(i, k)], rfl, hk2, HS, by rw [List.length_append]; simp; omega, hfin, hb1⟩, by simp [intOf]; omega⟩
            | (go_roundw
               case rel => exact ⟨k, D ++ [(i, k)], rfl, hk2, HS, by rw [List.length_append]; simp; omega, hfin, hb1⟩
               case measure => simp [intOf]; omega)
        · have HE : Hid (splitR e (un s) = .error k) := by unfold Hid splitR; rw [if_pos g1, g2]
          clear g1 g2 HF
          go_wp2
          go_ret3
          exact ⟨_, 18, (k : Int), rfl, by rw [HP.out, HE.out]; exact ⟨rfl, rfl, rfl⟩, hB2⟩
      · rw [hb] at hbl
        have HS : Hid (SI e (un s) (i + 1) D) := HI.out.blank hget hb
        clear hget hb
        go_wp2_with (go_at_call 23; refine (hbl _).mono ?_; rintro ev w1 ⟨rfl, hw⟩; replace hw := hw.symm; subst hw)
        first
          | exact ⟨⟨i + 1, D, by go_num, by omega, HS, hD, hown, hB⟩, by simp [intOf]; omega⟩
          | (go_roundw
             case rel => exact ⟨i + 1, D, by go_num, by omega, HS, hD, hown, hB⟩
             case measure => simp [intOf]; omega)
    · obtain rfl : i = s.size := by omega
      have HE : Hid (splitR e (un s) = .ok D) := by have := HI.out; rw [← hsl] at this; exact this.fin
      go_wp2
      go_ret3
      exact ⟨_, 0, 0, rfl, by rw [HP.out, HE.out]; exact ⟨rfl, rfl, hown⟩, hB⟩
end Go.Proofs.YtmnggnmgiflhjaaDoor
