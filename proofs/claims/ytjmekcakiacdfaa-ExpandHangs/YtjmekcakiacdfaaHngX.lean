/- What hangs on what: pure; lists of pairs that a statement makes. -/
import Derived.Test.YtjmekcakiacdfaaExE
import Derived.Test.YtjmekcakiacdfaaWksX
import Derived.Laws.AppendOwnNone
namespace Go.Proofs.Ytjmekcakiacdfaa
open Go Go.RowKit Go.Maps

abbrev PL := List (List UInt8 × List UInt8)
theorem val_cons (k v n : List UInt8) (r : PL) : valL ((k, v) :: r) n = if r.any (fun x => x.1 == n) = true then valL r n else if k = n then v else [] := rfl
theorem val_miss {r : PL} {n : List UInt8} (h : ¬ r.any (fun x => x.1 == n) = true) : valL r n = [] := by
  induction r with
  | nil => rfl
  | cons a r ih =>
    obtain ⟨k, v⟩ := a
    rw [List.any_cons, Bool.or_eq_true] at h
    rw [val_cons, if_neg (fun h2 => h (.inr h2)), if_neg (fun e => h (.inl (by simp [e])))]
theorem val_snoc (k v n : List UInt8) : ∀ r : PL, valL (r ++ [(k, v)]) n = if k = n then v else valL r n
  | [] => by
    rw [List.nil_append, val_cons]
    simp [valL]
  | (a, b) :: r => by
    rw [List.cons_append, val_cons, val_cons, val_snoc k v n r, List.any_append]
    by_cases hk : k = n
    · subst hk
      simp
    · have h1 : ([(k, v)] : PL).any (fun x => x.1 == n) = false := by simp [hk]
      rw [h1, Bool.or_false, if_neg hk, if_neg hk]
theorem val_app {n : List UInt8} (b : PL) (h : b.any (fun x => x.1 == n) = true) : ∀ a : PL, valL (a ++ b) n = valL b n
  | [] => rfl
  | (k, v) :: a => by
    rw [List.cons_append, val_cons, if_pos (by rw [List.any_append, h, Bool.or_true]), val_app b h a]
theorem val_fun {f : List UInt8 → List UInt8} {n : List UInt8} : ∀ {l : List (List UInt8)}, n ∈ l → valL (l.map fun x => (x, f x)) n = f n
  | x :: l, h => by
    rw [List.map_cons, val_cons]
    by_cases ha : (l.map fun x => (x, f x)).any (fun y => y.1 == n) = true
    · rw [if_pos ha]
      obtain ⟨y, hy, he⟩ := List.any_eq_true.1 ha
      obtain ⟨z, hz, rfl⟩ := List.mem_map.1 hy
      have : z = n := by simpa using he
      subst this
      exact val_fun hz
    · rw [if_neg ha]
      rcases List.mem_cons.1 h with rfl | h
      · rw [if_pos rfl]
      · exact absurd (List.any_eq_true.2 ⟨(n, f n), List.mem_map.2 ⟨n, h, rfl⟩, by simp⟩) ha
theorem any_fun {f : List UInt8 → List UInt8} {n : List UInt8} {l : List (List UInt8)} (h : n ∈ l) : (l.map fun x => (x, f x)).any (fun y => y.1 == n) = true :=
  List.any_eq_true.2 ⟨(n, f n), List.mem_map.2 ⟨n, h, rfl⟩, by simp⟩
theorem take_ask {e : UInt8} {st : List Nat} {c : UInt8} {t : List UInt8} {p : Pc} {k : Nat} {st2 : List Nat} (h : takeS e st c t = .good p k st2) : (∃ l, p = .lit l) ∨ p = .fin ∨ askP p ≠ [] := by
  have hne : ∀ u : List UInt8, nmL u ≠ 0 → u.take (nmL u) ≠ [] := fun u h0 e0 => by
    have := nmL_le u
    have h1 := congrArg List.length e0
    rw [List.length_take, List.length_nil] at h1; omega
  unfold takeS escS dollarS bracesS singS runS at h
  repeat' split at h
  all_goals first
    | (cases h; done)
    | (cases h; exact .inl ⟨_, rfl⟩)
    | (cases h; exact .inr (.inl rfl))
    | (cases h; exact .inr (.inr (hne _ (by assumption))))
theorem each_ask (e : UInt8) : ∀ (f : Nat) (st : List Nat) (l : List UInt8) (p : Pc), p ∈ (eachF e f st l).1 → (∃ l, p = .lit l) ∨ p = .fin ∨ askP p ≠ []
  | 0, st, l, p, h => by simp [eachF] at h
  | f + 1, st, [], p, h => by simp [eachF] at h
  | f + 1, st, b :: t, p, h => by
    unfold eachF at h
    cases hk : takeS e st b t with
    | bad n => rw [hk] at h; simp at h
    | good q k st2 =>
      rw [hk] at h
      simp only at h
      rcases List.mem_cons.1 h with rfl | h
      · exact take_ask hk
      · exact each_ask e f st2 _ p h
/-- P15.4: with the values of its names alone a word is the same. -/
theorem word_hangs (e : UInt8) (vs ws : PL) (l : List UInt8) (h : ∀ n ∈ namesL e l, valL vs n = valL ws n) : wordL e vs l = wordL e ws l := by
  unfold wordL ansL
  by_cases h0 : (eachL e [0] l).2 ≠ 0
  · rw [if_pos h0, if_pos h0]
  · rw [if_neg h0, if_neg h0]
    have hn : namesL e l = metL (eachL e [0] l).1 [] := by unfold namesL; rw [if_neg h0]
    have := den_hangs vs ws (eachL e [0] l).1 d0 (fun p hp => by
      rcases each_ask e _ _ _ p hp with h1 | h1 | h1
      · exact .inl h1
      · exact .inr (.inl h1)
      · exact .inr (.inr (h _ (by rw [hn]; exact (met_mem _ []).2 p hp h1))))
    rw [this.1]
theorem word_some {e : UInt8} {vs : PL} {l : List UInt8} (h : (wordL e vs l).1 ≠ 0) : (wordL e vs l).2 = [] := by
  unfold wordL ansL at h ⊢
  by_cases h0 : (eachL e [0] l).2 ≠ 0
  · rw [if_pos h0]
  · rw [if_neg h0] at h ⊢
    by_cases h1 : 65536 < (den vs (eachL e [0] l).1 d0).length
    · rw [if_pos h1]
    · rw [if_neg h1] at h; exact absurd rfl h
theorem each_no (e : UInt8) : ∀ (f : Nat) (st : List Nat) (l : List UInt8), (eachF e f st l).2 ≤ 18
  | 0, st, l => by simp only [eachF, endS]; split <;> (try split) <;> omega
  | f + 1, st, [] => by simp only [eachF, endS]; split <;> (try split) <;> omega
  | f + 1, st, b :: t => by
    unfold eachF
    cases hk : takeS e st b t with
    | bad n =>
      simp only
      unfold takeS escS dollarS bracesS singS runS at hk
      repeat' split at hk
      all_goals first
        | (cases hk; omega)
        | cases hk
    | good p k st2 => exact each_no e f st2 _
theorem word_no (e : UInt8) (vs : PL) (l : List UInt8) : (wordL e vs l).1 ≤ 18 := by
  unfold wordL ansL
  have := each_no e l.length [0] l
  by_cases h0 : (eachL e [0] l).2 ≠ 0
  · rw [if_pos h0]; exact this
  · rw [if_neg h0]
    split
    · show 5 ≤ 18; omega
    · show 0 ≤ 18; omega

def prCs (l : List PrZ) : List Value := l.flatMap fun e => [.string e.key, .string e.val]
theorem prCs_length (l : List PrZ) : (prCs l).length = l.length * 2 := by
  induction l with
  | nil => rfl
  | cons a l ih => show (([.string a.key, .string a.val] : List Value) ++ prCs l).length = _; rw [List.length_append, ih, List.length_cons]; simp; omega
theorem prCs_append (a b : List PrZ) : prCs (a ++ b) = prCs a ++ prCs b := by simp [prCs]
theorem prCs_get : ∀ (l : List PrZ) (k : Nat) (e : PrZ), l[k]? = some e → (prCs l)[k * 2]? = some (.string e.key) ∧ (prCs l)[k * 2 + 1]? = some (.string e.val)
  | [], k, e, h => by simp at h
  | x :: l, 0, e, h => by simp at h; subst h; exact ⟨rfl, rfl⟩
  | x :: l, k + 1, e, h => by
    have := prCs_get l k e (by simpa using h)
    rw [show (k + 1) * 2 = k * 2 + 2 by omega]
    exact this
theorem info_pr : (Try.prog.info? 32).map (fun i => (i.zero, i.size, i.bytes)) = some (some (.agg #[.string ⟨#[]⟩, .string ⟨#[]⟩]), 2, 32) := by kernel_rfl
theorem prs_of_owns {W : World} {B : Nat} {v : Value} {l : List PrZ} (h : W.ownsRow B 32 2 v l.length (prCs l)) : PrsAt W v l := by
  rcases h.2 with ⟨rfl, h0⟩ | ⟨g, cap, cur, rfl, hg, hgb, hcap, _⟩
  · have : l = [] := List.eq_nil_of_length_eq_zero h0
    subst this
    exact ⟨none, 0, 0, 0, rfl, fun h => absurd rfl h, Nat.le_refl _, fun i e he => by simp at he⟩
  · refine ⟨some ⟨g, 0, none⟩, cap, g, 0, rfl, fun _ => rfl, hcap, fun i e he => ?_⟩
    have hi := (List.getElem?_eq_some_iff.1 he).1
    obtain ⟨h1, h2⟩ := prCs_get l i e he
    exact ⟨by rw [Nat.zero_add, h.cellAt (i * 2) (by omega)]; exact h1, by rw [Nat.zero_add, h.cellAt (i * 2 + 1) (by omega)]; exact h2⟩
theorem own_geG {W : World} {base e size k : Nat} {v : Value} {xs : List Value} (h : W.ownsRow base e size v k xs) : ∀ j, some j = v.ownBlock → base ≤ j := by
  intro j hj
  rcases h.2 with ⟨rfl, _⟩ | ⟨g, cap, cur, rfl, hg, hgb, _⟩
  · simp [Value.ownBlock] at hj
  · simp [Value.ownBlock] at hj; subst hj; exact hg
theorem own_upG {A B : World} {base e size n : Nat} {v : Value} {xs : List Value} (h : A.ownsRow base e size v n xs) (hb : Below A.heap.size A B) : B.ownsRow base e size v n xs := by
  refine ⟨h.1, ?_⟩
  rcases h.2 with hn | ⟨g, cap, cur, rfl, hg, hgg, rest⟩
  · exact .inl hn
  · exact .inr ⟨g, cap, cur, rfl, hg, (hb.block g (Array.getElem?_eq_some_iff.1 hgg).1).trans hgg, rest⟩
theorem new_pr (W : World) (x y : ByteArray) : ∀ j u, ([.string x, .string y] : List Value)[j]? = some u → (W.alloc (.cells #[.string x, .string y] 32)).cell? ((⟨W.heap.size, 0, none⟩ : Addr).add j) = some u := by
  intro j u hj
  rw [Addr.add_mid, Nat.zero_add]
  unfold World.cell?
  rw [World.alloc_heap_new]
  simpa using hj
set_option maxHeartbeats 4000000 in
set_option maxRecDepth 100000 in
theorem copy_p (l : List PrZ) (v : Value) (W : World) (hv : PrsAt W v l) (hl : l.length ≤ 1048576) : Calls Try.prog 13 #[v] W fun x w' => ∃ u, x = .returned u ∧ w'.ownsRow W.heap.size 32 2 u l.length (prCs l) ∧ Below W.heap.size W w' := by
  obtain ⟨i0, hi, z0, z1, z2⟩ := info_parts info_pr
  obtain ⟨a, cap, b, o, rfl, ha, hcap, hc⟩ := hv
  have HC : Hid (∀ W2, Below W.heap.size W W2 → ∀ (i : Nat) (e : PrZ), l[i]? = some e → PrC W2 b (o + i * 2) e) := fun W2 hb i e he => (hc i e he).below hb
  have HA : Hid (l ≠ [] → a = some ⟨b, o, none⟩) := ha
  clear hc ha
  go_enter Try.func13, Try.ntmps13
  go_wp2
  go_loopw [3, 4] (fun v i wr => ∃ k : Nat, i = .int .i64 k ∧ k ≤ l.length ∧ wr.ownsRow W.heap.size 32 2 v (l.take k).length (prCs (l.take k)) ∧ Below W.heap.size W wr) (fun _ i _ => l.length - (intOf i).toNat)
  case atStart => exact ⟨0, rfl, Nat.zero_le _, World.ownsRow_nil _ _ _ _, Below.refl _ _⟩
  case round =>
    obtain ⟨k, rfl, hk, hown, hB⟩ := hrel
    have hsz := hB.size
    by_cases hlt : k < l.length
    · obtain ⟨x, hx⟩ : ∃ x, l[k]? = some x := ⟨_, List.getElem?_eq_getElem hlt⟩
      obtain rfl := HA.out (fun e => by rw [e] at hlt; simp at hlt)
      obtain ⟨c0, c1⟩ := HC.out _ hB k x hx
      have k0 : (0 : Int) ≤ (k : Int) := by omega
      have k1 : (k : Int) < (l.length : Int) := by omega
      have hlk : (l.take k).length + 1 ≤ 1048577 := by rw [List.length_take]; omega
      have HX : Hid (l.take (k + 1) = l.take k ++ [x]) := by unfold Hid; rw [List.take_add_one, hx]; rfl
      clear hx
      go_wp2_with (at_builtin; refine wpList_append_own _ rfl _ _ 29 rfl W.heap.size 32 i0 (.agg #[.string ⟨#[]⟩, .string ⟨#[]⟩]) 2 32 Try.underlying29 hi z0 z1 z2 rfl (by decide) _ _ _ rfl (hown.alloc _) ⟨wr.heap.size, 0, none⟩ 1 1 [.string x.key, .string x.val] rfl rfl (new_pr _ _ _) (by intro u hu; simp at hu; rcases hu with rfl | rfl <;> rfl) (by unfold maxLen; omega) (by omega) (by simp; omega) ?_; intro v1 w1 hown1 hgrow1 _)
      have hb1 : Below W.heap.size W w1 := (hB.alloc hsz _).grown hgrow1 (by simp; omega) (fun j hj => own_geG hown j hj.symm)
      go_roundw
      case rel => exact ⟨k + 1, by go_num, by omega, by rw [HX.out, prCs_append, List.length_append]; exact hown1, hb1⟩
      case measure => simp [intOf]; omega
    · obtain rfl : k = l.length := by omega
      have hd1 : ¬ ((l.length : Nat) : Int) < (l.length : Int) := by omega
      rw [List.take_length] at hown
      have HO : Hid _ := hown
      clear hown
      go_wp2
      go_ret
      exact ⟨_, rfl, HO.out, hB⟩
end Go.Proofs.Ytjmekcakiacdfaa
