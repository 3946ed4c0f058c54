/- WordsSplits: its walk. -/
import Derived.Test.YtmnggnmgiflhjaaDoorDocU
import Derived.Test.YtmnggnmgiflhjaaDoorApartW
import Derived.Test.YtmnggnmgiflhjaaDoorWorksW
namespace Go.Proofs.YtmnggnmgiflhjaaDoor
open Go Go.RowKit

def wl (s : ByteArray) (c : UInt8) : List Wd := match splitR (escN c) (un s) with
  | .ok xs => wdsOf s xs
  | .error _ => []
def wn (s : ByteArray) (c : UInt8) : Int := match splitR (escN c) (un s) with
  | .ok _ => 0
  | .error _ => 18
def wa (s : ByteArray) (c : UInt8) : Int := match splitR (escN c) (un s) with
  | .ok _ => 0
  | .error q => q
def wer (s : ByteArray) (c : UInt8) : Value := match splitR (escN c) (un s) with
  | .ok _ => .nilIface
  | .error q => fltV 18 0 q
theorem wl_length (s : ByteArray) (c : UInt8) : (wl s c).length ≤ s.size + 1 := by
  have hsl := un_length s
  have ho := stA_out (escN c) (un s) (un s).length (Nat.le_refl _)
  unfold wl
  cases h : splitR (escN c) (un s) with
  | error q => exact Nat.zero_le _
  | ok xs =>
    show (wdsOf s xs).length ≤ _
    rw [wdsOf_length]
    unfold splitR at h
    split at h
    · cases h
    · cases h
      split
      · rw [List.length_append]; simp; omega
      · omega
theorem split_u (s : ByteArray) (c : UInt8) (w : World) (hs : s.size ≤ 1099511627776) : Calls Tryd.prog 10 #[.string s, .int .u8 c.toNat] w fun e w' => ∃ v, e = .returned (.tuple #[v, wer s c]) ∧ w'.ownsRow w.heap.size 41 2 v (wl s c).length (wcells (wl s c)) ∧ Below w.heap.size w w' := by
  refine (split_p s c w hs).mono ?_
  rintro e w' ⟨v, er, rfl, hp, hb⟩
  unfold SplitPost at hp
  unfold wer wl
  cases h : splitR (escN c) (un s) with
  | error q => rw [h] at hp; obtain ⟨rfl, rfl⟩ := hp; exact ⟨_, rfl, World.ownsRow_nil _ _ _ _, hb⟩
  | ok xs => rw [h] at hp; obtain ⟨rfl, ho⟩ := hp; exact ⟨_, rfl, by show w'.ownsRow _ _ _ _ (wdsOf s xs).length _; rw [wdsOf_length]; exact ho, hb⟩
theorem doc_u (s : ByteArray) (c : UInt8) (w : World) (hs : s.size ≤ 1099511627776) : Calls Tryd.prog 9 #[.string s, .int .u8 c.toNat] w fun e w' => ∃ v, e = .returned (.tuple #[v, .int .i64 (wn s c), .int .i64 (wa s c)]) ∧ w'.ownsRow w.heap.size 41 2 v (wl s c).length (wcells (wl s c)) ∧ Below w.heap.size w w' := by
  refine (split_d s c w hs).mono ?_
  rintro e w' ⟨v, n, a, rfl, hp, hb⟩
  unfold DocPost at hp
  unfold wn wa wl
  cases h : splitR (escN c) (un s) with
  | error q => rw [h] at hp; obtain ⟨rfl, rfl, rfl⟩ := hp; exact ⟨_, rfl, World.ownsRow_nil _ _ _ _, hb⟩
  | ok xs => rw [h] at hp; obtain ⟨rfl, rfl, ho⟩ := hp; exact ⟨_, rfl, by show w'.ownsRow _ _ _ _ (wdsOf s xs).length _; rw [wdsOf_length]; exact ho, hb⟩
theorem at_u (s : ByteArray) (c : UInt8) (w : World) (he : ErrType w) : Calls Tryd.prog 11 #[wer s c, .int .i64 (wn s c), .int .i64 0, .int .i64 (wa s c)] w fun e w' => e = .returned (.bool true) ∧ Below w.heap.size w w' := by
  unfold wer wn wa
  cases splitR (escN c) (un s) with
  | error q => exact at_p 18 0 q (by decide) (by decide) w he
  | ok xs =>
    refine (at_nil 0 0 w).mono ?_
    rintro e w' ⟨rfl, rfl⟩
    exact ⟨rfl, Below.refl _ _⟩
theorem handed_three {a b c : Value} {g n0 n1 n2 n3 n4 n5 : Nat} (ha : ∀ x, a.ownBlock = some x → n0 ≤ x ∧ x < n1) (hb : ∀ x, b.ownBlock = some x → n2 ≤ x ∧ x < n3) (hc : ∀ x, c.ownBlock = some x → n4 ≤ x ∧ x < n5) (h12 : n1 ≤ n2) (h34 : n3 ≤ n4) (h23 : n2 ≤ n3) (hg : n5 ≤ g) (h45 : n4 ≤ n5) : HandedG g [a, b, c] := by
  refine ⟨fun i j u v hu hv hij => ?_, fun i u hu e => ?_⟩
  · have key : ∀ x, u.ownBlock = some x → v.ownBlock = some x → False := fun x h1 h2 => by
      rcases i with _ | _ | _ | i <;> rcases j with _ | _ | _ | j <;> (first | (simp at hu; done) | (simp at hv; done) | (exact hij rfl) | skip)
      all_goals cases hu; cases hv
      · have := ha x h1; have := hb x h2; omega
      · have := ha x h1; have := hc x h2; omega
      · have := hb x h1; have := ha x h2; omega
      · have := hb x h1; have := hc x h2; omega
      · have := hc x h1; have := ha x h2; omega
      · have := hc x h1; have := hb x h2; omega
    cases hx : u.ownBlock with
    | none => exact .inl rfl
    | some x => exact .inr (fun e => key x hx e.symm)
  · rcases i with _ | _ | _ | i
    · cases hu; have := ha g e; omega
    · cases hu; have := hb g e; omega
    · cases hu; have := hc g e; omega
    · simp at hu
theorem three_startW {W : World} {B : Nat} {a b c : Value} {la lb lc : List Wd} (ha : W.ownsRow B 41 2 a la.length (wcells la)) (hb : W.ownsRow B 41 2 b lb.length (wcells lb)) (hc : W.ownsRow B 41 2 c lc.length (wcells lc)) :
    ∀ (j : Nat) (u : Value) (xs : List Wd), [a, b, c][j]? = some u → [la, lb, lc][j]? = some xs → W.ownsRow B 41 2 u xs.length (cellsG wcs xs) := fun j u xs hu hx => by
  rcases j with _ | _ | _ | j
  · cases hu; cases hx; exact ha
  · cases hu; cases hx; exact hb
  · cases hu; cases hx; exact hc
  · simp at hu
set_option maxRecDepth 100000 in
set_option maxHeartbeats 8000000 in
theorem wordssplits_law (s : ByteArray) (c : UInt8) (t : ByteArray) (w : World) (he : ErrType w) (hs : s.size ≤ 1048576) (ht : t.size ≤ 1048576) : Calls Tryd.prog 3 #[.string s, .int .u8 c.toNat, .string t] w fun e w' => e = .returned (.bool true) ∧ Below w.heap.size w w' := by
  have d1 := fun W => doc_u s c W (by omega)
  have d2 := fun W => doc_u t c W (by omega)
  have p1 := fun W => split_u s c W (by omega)
  have p2 := fun W => split_u t c W (by omega)
  have a1 := fun W h => at_u s c W h
  have a2 := fun W h => at_u t c W h
  have lc := wl_length s c
  have lt := wl_length t c
  generalize wl s c = C at *
  generalize wl t c = D at *
  generalize wer s c = e1 at *
  generalize wer t c = e2 at *
  generalize wn s c = n1 at *
  generalize wn t c = n2 at *
  generalize wa s c = m1 at *
  generalize wa t c = m2 at *
  go_enter Tryd.func3, Tryd.ntmps3
  go_wp2_with fail
  refine (d1 _).mono ?_
  rintro e w1 ⟨vd1, rfl, od1, b1⟩
  go_wp2_with fail
  refine (d2 _).mono ?_
  rintro e w2 ⟨vd2, rfl, od2, b2⟩
  have c2 := below_join b1 b2
  have x1 := (wds_of_owns od1).below b2
  have x2 := wds_of_owns od2
  clear od1 od2 b1 b2
  go_wp2_with fail
  refine (p1 _).mono ?_
  rintro e w5 ⟨ua, rfl, oa, b5⟩
  go_wp2_with fail
  refine (p1 _).mono ?_
  rintro e w6 ⟨ub, rfl, ob, b6⟩
  go_wp2_with fail
  refine (p2 _).mono ?_
  rintro e w7 ⟨uc, rfl, oc, b7⟩
  have c67 := below_join b6 b7
  have c57 := below_join b5 c67
  have c7 := below_join c2 c57
  have y1 := x1.below c57
  have y2 := x2.below c57
  have oa7 := own_up oa c67
  have ob7 := own_up ob b7
  have ea := wds_of_owns oa7
  have eb := wds_of_owns ob7
  have ec := wds_of_owns oc
  have he7 := he.below c7
  go_wp2_with fail
  refine (a1 _ he7).mono ?_
  rintro e w8 ⟨rfl, b8⟩
  have he8 := he7.below b8
  go_wp2_with fail
  refine (a1 _ he8).mono ?_
  rintro e w9 ⟨rfl, b9⟩
  have he9 := he8.below b9
  have c9 := below_join b8 b9
  go_wp2_with fail
  refine (a2 _ he9).mono ?_
  rintro e w10 ⟨rfl, b10⟩
  have he10 := he9.below b10
  have c10 := below_join c9 b10
  go_wp2_with fail
  refine (same_p ua vd1 C w10 (ea.below c10) (y1.below c10) (by omega)).mono ?_
  rintro e w11 ⟨rfl, b11⟩
  have c11 := below_join c10 b11
  go_wp2_with fail
  refine (same_p ub vd1 C w11 (eb.below c11) (y1.below c11) (by omega)).mono ?_
  rintro e w12 ⟨rfl, b12⟩
  have c12 := below_join c11 b12
  go_wp2_with fail
  refine (same_p uc vd2 D w12 (ec.below c12) (y2.below c12) (by omega)).mono ?_
  rintro e w13 ⟨rfl, b13⟩
  have c13 := below_join c12 b13
  have oa13 := own_up oa7 c13
  have ob13 := own_up ob7 c13
  have oc13 := own_up oc c13
  have s5 := b5.size
  have s6 := b6.size
  have s7 := b7.size
  have s13 := c13.size
  have LA := own_lt oa
  have LB := own_lt ob
  have LC := own_lt oc
  have hH : HandedG w13.heap.size [ua, ub, uc] := handed_three LA LB LC (Nat.le_refl _) (Nat.le_refl _) s6 s13 s7
  have AP := apartW_p w2.heap.size w13.heap.size 3 [ua, ub, uc] [C, C, D] (w13.alloc (.cells #[ua, ub, uc] 22)) rfl (by simp) (by simp; omega) (Lies.new w13 _ _) hH
    (RwsG.start (three_startW (own_baseG (oa13.alloc _) (Nat.le_refl _)) (own_baseG (ob13.alloc _) s5) (own_baseG (oc13.alloc _) (Nat.le_trans s5 s6))))
    (fun q hq => by
      simp only [List.mem_cons, List.not_mem_nil, or_false] at hq
      rcases hq with rfl | rfl | rfl <;> omega)
  have hbA : Below w2.heap.size w2 (w13.alloc (.cells #[ua, ub, uc] 22)) := (below_join c57 c13).alloc (by omega) _
  obtain ⟨aa, ca, rfl, -⟩ := own_shapeG oa
  obtain ⟨ab, cb, rfl, -⟩ := own_shapeG ob
  obtain ⟨ac, cc, rfl, -⟩ := own_shapeG oc
  clear oa ob oc oa7 ob7 oa13 ob13 oc13 ea eb ec y1 y2 x1 x2 LA LB LC hH
  go_wp2_with fail
  refine AP.mono ?_
  rintro e w14 ⟨rfl, -, b14⟩
  have c14 := hbA.trans b14
  have C14 := below_join c2 c14
  go_wp2_with fail
  refine (works_w w14 (he.below C14)).mono ?_
  rintro e w15 ⟨rfl, b15⟩
  go_wp2
  go_ret
  exact ⟨rfl, below_join C14 b15⟩
end Go.Proofs.YtmnggnmgiflhjaaDoor
