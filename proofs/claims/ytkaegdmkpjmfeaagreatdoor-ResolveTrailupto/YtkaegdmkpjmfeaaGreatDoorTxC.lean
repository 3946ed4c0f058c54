/- The kit's ApartTexts: round 4's, again. -/
import Derived.Test.YtkaegdmkpjmfeaaGreatDoorProg
import Derived.Lib.Strings
import Derived.Lib.Bytealg
import Derived.Lib.IndexAny
import Derived.Laws.Strings
import Derived.Lib.UnsafeStr
import Derived.WalkKit
import Derived.WalkSpells
import Derived.Outline
import Derived.Deep.MidRow
import Derived.Deep.WholeRow
import Derived.RangeFuncBox
import Derived.RegionTactic
import Derived.Deep.QuietTactic
import Derived.BigQuiet
import Derived.Deep.Draws
import Derived.Laws.CopyOwn
import Derived.Laws.AppendOwn
import Derived.OwnWalk
import Derived.Lib.Walk
import Derived.Laws.Externs
import Derived.Lib.Slices
import Derived.Laws.IdiomStrings
import Derived.ArgAppend
import Derived.Deep.DeepAppendRoom
import Derived.Maps.AppendAt

namespace Go.Proofs.YtkaegdmkpjmfeaaGreatDoor.Tx
open Go Go.RowKit

def un (s : ByteArray) : List UInt8 := s.data.toList
def bs (l : List UInt8) : ByteArray := ⟨l.toArray⟩
theorem un_bs (l : List UInt8) : un (bs l) = l := by simp [un, bs]
theorem bs_un (s : ByteArray) : bs (un s) = s := by cases s; simp [un, bs]
theorem un_inj {a b : ByteArray} (h : un a = un b) : a = b := by rw [← bs_un a, ← bs_un b, h]
theorem un_length (s : ByteArray) : (un s).length = s.size := by cases s; simp [un, ByteArray.size]
theorem size_bs (l : List UInt8) : (bs l).size = l.length := by simp [bs, ByteArray.size]
theorem un_append (a b : ByteArray) : un (a ++ b) = un a ++ un b := by simp [un]
theorem un_extract (s : ByteArray) (i j : Nat) : un (s.extract i j) = ((un s).take j).drop i := by
  simp [un, ByteArray.data_extract, List.extract_eq_take_drop, List.drop_take]
theorem toList_un (s : ByteArray) : s.toList = un s := ByteArray.toList_eq s
theorem isEmpty_iff (s : ByteArray) : s.toList.isEmpty = true ↔ s.size = 0 := by rw [toList_un, ← un_length, List.isEmpty_iff, List.length_eq_zero_iff]
theorem isEmpty_false (s : ByteArray) : s.toList.isEmpty = false ↔ 0 < s.size := by
  rw [toList_un, ← un_length]; cases un s <;> simp
theorem un_getElem? (s : ByteArray) (k : Nat) (h : k < s.size) : (un s)[k]? = some s[k] := by
  unfold un; rw [Array.getElem?_toList]; exact Array.getElem?_eq_getElem h
theorem size_extract' (s : ByteArray) (i j : Nat) (h : j ≤ s.size) : (s.extract i j).size = j - i := by
  rw [← un_length, un_extract]; simp [un_length]; omega
theorem un_extract_get (s : ByteArray) (f j : Nat) : (un (s.extract f s.size))[j]? = (un s)[f + j]? := by
  rw [un_extract, List.take_of_length_le (by rw [un_length]; omega), List.getElem?_drop]

/-- Block B holds just these cells. -/
def Lies (W : World) (B : Nat) (t : TypeId) (cur : Array Value) : Prop := W.heap[B]? = some (.cells cur t (0, 0))
theorem Lies.cell {W : World} {B i : Nat} {t : TypeId} {cur : Array Value} {v : Value} (h : Lies W B t cur) (hv : cur[i]? = some v) : W.cell? ⟨B, i, none⟩ = some v := by simp [World.cell?, show W.heap[B]? = _ from h, hv]
theorem Lies.frozen {W : World} {B : Nat} {t : TypeId} {cur : Array Value} (h : Lies W B t cur) (i : Nat) : W.frozen? ⟨B, i, none⟩ = false := by simp [World.frozen?, show W.heap[B]? = _ from h]
theorem Lies.lt {W : World} {B : Nat} {t : TypeId} {cur : Array Value} (h : Lies W B t cur) : B < W.heap.size := (Array.getElem?_eq_some_iff.1 h).1
theorem Lies.new (W : World) (t : TypeId) (cur : Array Value) : Lies (W.alloc (.cells cur t)) W.heap.size t cur := World.alloc_heap_new W _
theorem Lies.set {W : World} {B i : Nat} {t : TypeId} {cur : Array Value} (h : Lies W B t cur) (v : Value) : Lies (W.setCell ⟨B, i, none⟩ v) B t (cur.setIfInBounds i v) := by
  obtain ⟨hlt, hk⟩ := Array.getElem?_eq_some_iff.1 h
  show (W.heap.modify B _)[B]? = _
  rw [Array.getElem?_eq_getElem (by rw [Array.size_modify]; exact hlt), Array.getElem_modify_self, hk]
  rfl
theorem Lies.other {W : World} {B b i : Nat} {t : TypeId} {cur : Array Value} (h : Lies W B t cur) (v : Value) (hne : b ≠ B) : Lies (W.setCell ⟨b, i, none⟩ v) B t cur := by
  show (W.heap.modify b _)[B]? = _
  rw [Array.getElem?_modify, if_neg hne]; exact h
theorem Lies.below {W W2 : World} {B : Nat} {t : TypeId} {cur : Array Value} (h : Lies W B t cur) (hb : Below W.heap.size W W2) : Lies W2 B t cur := (hb.block B h.lt).trans h
theorem Lies.alloc {W : World} {B : Nat} {t : TypeId} {cur : Array Value} (h : Lies W B t cur) (o : Obj) : Lies (W.alloc o) B t cur := (Below.heap_alloc W o B h.lt).trans h
theorem Lies.drew {W : World} {B : Nat} {t : TypeId} {cur : Array Value} (h : Lies W B t cur) (k : Nat) : Lies (W.drewN k) B t cur := h
theorem below_drawn {B : Nat} {a w : World} (h : Below B a w) (n : Nat) : Below B a (w.drewN n) := h.trans ⟨rfl, rfl, rfl, Nat.le_refl _, fun _ _ => rfl⟩
theorem below_join {w w1 w2 : World} (h : Below w.heap.size w w1) (k : Below w1.heap.size w1 w2) : Below w.heap.size w w2 := h.trans (k.mono h.size)

/-- The list at v holds these texts. -/
def TextsAt (w : World) (v : Value) (l : List ByteArray) : Prop :=
  ∃ a c, v = .slice a l.length c ∧ (a = none → c = 0) ∧ ∀ i x, l[i]? = some x → ∃ b o, a = some ⟨b, o, none⟩ ∧ w.cell? ⟨b, o + i, none⟩ = some (.string x)
theorem TextsAt.below {w w' : World} {v : Value} {l : List ByteArray} (h : TextsAt w v l) (hb : Below w.heap.size w w') : TextsAt w' v l := by
  obtain ⟨a, c, rfl, ha, hc⟩ := h
  refine ⟨a, c, rfl, ha, fun i x hx => ?_⟩
  obtain ⟨b, o, rfl, h1⟩ := hc i x hx
  exact ⟨b, o, rfl, (hb.cell (p := ⟨b, o + i, none⟩) (World.block_lt_of_cell? w _ h1)).trans h1⟩
theorem TextsAt.nil (w : World) : TextsAt w (.slice none 0 0) [] := ⟨none, 0, rfl, fun _ => rfl, fun i x h => by simp at h⟩
def strs (xs : List ByteArray) : List Value := xs.map Value.string
theorem strs_length (xs : List ByteArray) : (strs xs).length = xs.length := by simp [strs]
theorem strs_append (a b : List ByteArray) : strs (a ++ b) = strs a ++ strs b := by simp [strs]
theorem row_cell {W : World} {base e size n : Nat} {g cap : Nat} {xs : List Value} (h : W.ownsRow base e size (.slice (some ⟨g, 0, none⟩) n cap) n xs) (j : Nat) (u : Value) (hu : xs[j]? = some u) : W.cell? ⟨g, j, none⟩ = some u := by
  rcases h.2 with ⟨hv, _⟩ | ⟨g', cap', cur, hv, _, hg, _, _, _, hx⟩
  · cases hv
  · cases hv
    have hj : j < xs.length := (List.getElem?_eq_some_iff.1 hu).1
    have h2 : cur[j]? = some u := by
      rw [← Array.getElem?_toList]
      have h3 : (cur.toList.take xs.length)[j]? = some u := by rw [h.1, hx]; exact hu
      rwa [List.getElem?_take, if_pos hj] at h3
    simp [World.cell?, hg, h2]
theorem TextsAt.own {w : World} {B : Nat} {v : Value} {l : List ByteArray} (h : w.ownsRow B 9 1 v l.length (strs l)) : TextsAt w v l := by
  have h2 := h
  rcases h.2 with ⟨hv, h0⟩ | ⟨g, cap, cur, hv, _⟩
  · subst hv
    obtain rfl : l = [] := List.length_eq_zero_iff.1 h0
    exact TextsAt.nil w
  · subst hv
    exact ⟨_, _, rfl, (fun e => nomatch e), fun i x hx => ⟨g, 0, rfl, by rw [Nat.zero_add]; exact row_cell h2 i _ (by simp [strs, hx])⟩⟩
/-- How much a list of texts weighs. -/
def wt (l : List ByteArray) : Nat := (l.map fun x => x.size + 1).sum
theorem wt_append (a b : List ByteArray) : wt (a ++ b) = wt a + wt b := by simp [wt]
theorem wt_take_succ (l : List ByteArray) (k : Nat) (x : ByteArray) (h : l[k]? = some x) : wt (l.take (k + 1)) = wt (l.take k) + x.size + 1 := by
  rw [List.take_add_one, h, wt_append]; simp [wt]; omega
theorem wt_take_le (l : List ByteArray) (k : Nat) : wt (l.take k) ≤ wt l := by
  conv => rhs; rw [← List.take_append_drop k l, wt_append]
  omega
theorem length_wt (l : List ByteArray) : l.length ≤ wt l := by
  induction l with
  | nil => simp [wt]
  | cons x l ih => simp [wt] at ih ⊢; omega
theorem size_wt {l : List ByteArray} {x : ByteArray} (h : x ∈ l) : x.size + 1 ≤ wt l := by
  obtain ⟨a, b, rfl⟩ := List.append_of_mem h
  rw [wt_append]; simp [wt]; omega

theorem str_info : (Tryz.prog.info? 9).map (fun i => (i.zero, i.size, i.bytes)) = some (some (.string ⟨#[]⟩), 1, 16) := by kernel_rfl
theorem own_below {A B : World} {base e size n : Nat} {v : Value} {xs : List Value} (h : A.ownsRow base e size v n xs) (hb : Below A.heap.size A B) : B.ownsRow base e size v n xs := by
  refine ⟨h.1, ?_⟩
  rcases h.2 with hn | ⟨g, cap, cur, rfl, hg, hgg, rest⟩
  · exact .inl hn
  · exact .inr ⟨g, cap, cur, rfl, hg, (hb.block g (Array.getElem?_eq_some_iff.1 hgg).1).trans hgg, rest⟩
theorem own_slice {w : World} {B e n : Nat} {v : Value} {cs : List Value} (h : w.ownsRow B e 1 v n cs) : ∃ a k c, v = .slice a k c := by
  rcases h.2 with ⟨rfl, _⟩ | ⟨g, cap, cur, rfl, _⟩
  · exact ⟨_, _, _, rfl⟩
  · exact ⟨_, _, _, rfl⟩


def b8 (x : Int) : UInt8 := UInt8.ofNat (x % 256).toNat
theorem b8_int (x : Int) : ((b8 x).toNat : Int) = x % 256 := by
  unfold b8
  rw [UInt8.toNat_ofNat']; omega
def markB (k i : Int) : ByteArray := bs [35, b8 k, b8 (k / 256), b8 i, b8 (i / 256)]
set_option maxRecDepth 100000 in
theorem mark_conv (k i : Int) (w : World) : (convert 121 9 (.slice (some ⟨w.heap.size, 0, none⟩) 5 5)).run Tryz.prog (w.alloc (.cells #[.int .u8 35, .int .u8 (k % 256), .int .u8 (k / 256 % 256), .int .u8 (i % 256), .int .u8 (i / 256 % 256)] 5)) = .ok (.string (markB k i)) (w.alloc (.cells #[.int .u8 35, .int .u8 (k % 256), .int .u8 (k / 256 % 256), .int .u8 (i % 256), .int .u8 (i / 256 % 256)] 5)) := by
  refine run_convert_bytes_back _ 121 9 5 ⟨w.heap.size, 0, none⟩ 5 [35, b8 k, b8 (k / 256), b8 i, b8 (i / 256)] Tryz.underlying121 Tryz.underlying5 Tryz.underlying9 ?_
  intro j hj
  simp only [← b8_int]
  have hc := fun v (h : (#[.int .u8 35, .int .u8 ((b8 k).toNat : Int), .int .u8 ((b8 (k / 256)).toNat : Int), .int .u8 ((b8 i).toNat : Int), .int .u8 ((b8 (i / 256)).toNat : Int)] : Array Value)[j]? = some v) => (Lies.new w 5 #[.int .u8 35, .int .u8 ((b8 k).toNat : Int), .int .u8 ((b8 (k / 256)).toNat : Int), .int .u8 ((b8 i).toNat : Int), .int .u8 ((b8 (i / 256)).toNat : Int)]).cell h
  have e : (⟨w.heap.size, 0, none⟩ : Addr).add j = ⟨w.heap.size, j, none⟩ := by rw [Addr.add_mid, Nat.zero_add]
  rw [e]
  refine hc _ ?_
  rcases j with _ | _ | _ | _ | _ | j
  · rfl
  · rfl
  · rfl
  · rfl
  · rfl
  · simp at hj; omega
set_option maxRecDepth 100000 in
set_option maxHeartbeats 2000000 in
theorem mark_p (k i : Int) (w : World) : Calls Tryz.prog 68 #[.int .i64 k, .int .i64 i] w fun e w' => e = .returned (.string (markB k i)) ∧ Below w.heap.size w w' := by
  have hcv := mark_conv k i w
  go_enter Tryz.func68, Tryz.ntmps68
  go_wp2
  go_ret
  exact ⟨rfl, (Below.refl _ w).alloc (Nat.le_refl _) _⟩
theorem marks_p (k i : Int) (w : World) : Calls Tryz.prog 40 #[.int .i64 k, .int .i64 i] w fun e w' => e = .returned (.string (markB k i)) ∧ Below w.heap.size w w' := by
  go_enter Tryz.func40, Tryz.ntmps40
  go_wp2_with fail
  refine (mark_p k i w).mono ?_
  rintro e w1 ⟨rfl, b1⟩
  go_wp2
  go_ret
  exact ⟨rfl, b1⟩
end Go.Proofs.YtkaegdmkpjmfeaaGreatDoor.Tx

namespace Go.Proofs.YtkaegdmkpjmfeaaGreatDoor.Tx
open Go Go.RowKit

def marksK (k n : Nat) : List ByteArray := List.map (fun i : Nat => markB (k : Int) (i : Int)) (List.range n)
theorem marksK_succ (k n : Nat) : marksK k (n + 1) = marksK k n ++ [markB k n] := by simp [marksK, List.range_succ]
theorem marksK_length (k n : Nat) : (marksK k n).length = n := by simp [marksK]
theorem marksK_get (k n i : Nat) (h : i < n) : (marksK k n)[i]? = some (markB k i) := by simp [marksK, h]

theorem own_same {W W2 : World} {base e size n : Nat} {v : Value} {xs : List Value} (h : W.ownsRow base e size v n xs) (hb : ∀ b, v.ownBlock = some b → W2.heap[b]? = W.heap[b]?) : W2.ownsRow base e size v n xs := by
  refine ⟨h.1, ?_⟩
  rcases h.2 with hn | ⟨g, cap, cur, rfl, hg, hgg, rest⟩
  · exact .inl hn
  · exact .inr ⟨g, cap, cur, rfl, hg, (hb g rfl).trans hgg, rest⟩
theorem texts_same {W W2 : World} {v : Value} {l : List ByteArray} (h : TextsAt W v l) (hb : ∀ b, v.ownBlock = some b → W2.heap[b]? = W.heap[b]?) : TextsAt W2 v l := by
  obtain ⟨a, c, rfl, ha, hc⟩ := h
  refine ⟨a, c, rfl, ha, fun i x hx => ?_⟩
  obtain ⟨b, o, rfl, h1⟩ := hc i x hx
  exact ⟨b, o, rfl, (World.cell?_of_block (a := ⟨b, o + i, none⟩) (hb b rfl)).trans h1⟩
theorem own_set {W : World} {base e n g cap i : Nat} {xs : List Value} (h : W.ownsRow base e 1 (.slice (some ⟨g, 0, none⟩) n cap) n xs) (x : Value) : (W.setCell ⟨g, i, none⟩ x).ownsRow base e 1 (.slice (some ⟨g, 0, none⟩) n cap) n (xs.set i x) := by
  refine ⟨by rw [List.length_set]; exact h.1, ?_⟩
  rcases h.2 with ⟨hv, _⟩ | ⟨g', cap', cur, hv, hb, hg, h1, h2, h3, h4⟩
  · cases hv
  · cases hv
    refine .inr ⟨g, cap, cur.setIfInBounds i x, rfl, hb, Lies.set hg x, h1, h2, by rw [Array.size_setIfInBounds]; exact h3, ?_⟩
    rw [Array.toList_setIfInBounds, ← h4, List.take_set]
theorem set_other {W : World} {g i b : Nat} (x : Value) (h : g ≠ b) : (W.setCell ⟨g, i, none⟩ x).heap[b]? = W.heap[b]? := by
  show (W.heap.modify g _)[b]? = _
  rw [Array.getElem?_modify, if_neg h]

/-- An append that grows has a row of its own and leaves all else; one with room stays in its row. -/
theorem wpList_append_keep {P : Program} (w : World) {ops : Array Oper} {rest : List Oper} {o : Oper} {a : Act} {Q : Exit → Act → World → Prop} (hgd : o.guard = none) (s x : Operand) (t : TypeId)
    (ho : o.op = .call { callee := .builtin .append, args := #[s, x], argTypes := #[t, t] })
    (base : Nat) (e : TypeId) (i : TypeInfo) (z : Value) (bytes : Nat) (ht : P.underlying t = some (.slice e)) (hi : P.info? e = some i) (hz : i.zero = some z)
    (hsize : i.size = 1) (hby : i.bytes = bytes) (hzs : z.cells.size = 1)
    (v : Value) (n : Nat) (xs : List Value) (hs : a.eval s = v) (hown : w.ownsRow base e 1 v n xs)
    (ad : Addr) (c : Nat) (y : Value) (hx : a.eval x = .slice (some ad) 1 c) (hnews : ∀ j u, [y][j]? = some u → w.cell? (ad.add j) = some u) (h1 : y.oneCell' = true)
    (h63 : n + 1 ≤ maxLen) (hbytes : (n + 1) * bytes ≤ 140737488355328) (hbase : base ≤ w.heap.size)
    (h : ∀ v' w', w'.ownsRow base e 1 v' (n + 1) (xs ++ [y]) → (v'.ownBlock = v.ownBlock ∧ w.grownBy w' v.ownBlock ∨ (∃ b, w.heap.size ≤ b ∧ v'.ownBlock = some b) ∧ w.grownBy w' none) → wpList P ops Q rest (a.put o.dst v') w') : wpList P ops Q (o :: rest) a w := by
  have h1' : ∀ u ∈ [y], u.oneCell' = true := fun u hu => by simp at hu; rw [hu]; exact h1
  have fresh : ∀ v' w', w'.ownsRow w.heap.size e 1 v' (n + 1) (xs ++ [y]) → w.grownBy w' none → wpList P ops Q rest (a.put o.dst v') w' := by
    intro v' w' ho hg
    rcases ho.2 with ⟨_, h0⟩ | ⟨g, cap, cur, rfl, hb, rest⟩
    · omega
    · exact h _ _ ⟨ho.1, .inr ⟨g, cap, cur, rfl, Nat.le_trans hbase hb, rest⟩⟩ (.inr ⟨⟨g, hb, rfl⟩, hg⟩)
  have hown0 := hown
  rcases hown.2 with ⟨rfl, rfl⟩ | ⟨g, cap, cur, rfl, hb, hg, hnc, hcm, hcs, htake⟩
  · obtain rfl : xs = [] := List.eq_nil_of_length_eq_zero (by simpa using hown.1)
    exact wpList_append_grows w hgd s x t ho e i z 1 bytes ht hi hz hsize hby hzs (by decide) none 0 0 [] hs (fun _ => ⟨rfl, rfl⟩) rfl (fun b hb => nomatch hb) ad 1 c [y] hx rfl hnews h1' (by omega) h63 hbytes fresh
  · by_cases hroom : n + 1 ≤ cap
    · exact wpList_append_own_spare w hgd s x t ho base e i 1 ht hi hsize g n cap xs hs hown0 ad 1 c [y] hx rfl hnews h1' hroom (fun w' h2 h3 => h _ _ h2 (.inl ⟨rfl, h3⟩))
    · exact wpList_append_grows w hgd s x t ho e i z 1 bytes ht hi hz hsize hby hzs (by decide) (some ⟨g, 0, none⟩) n cap xs hs (fun h => nomatch h) hown0.1 (fun b hb => by cases hb; exact hown0.cells rfl) ad 1 c [y] hx rfl hnews h1' (by omega) h63 hbytes fresh

/-- The lists stand apart from each other and from the row that holds them. -/
structure Handed (g : Nat) (us : List Value) : Prop where
  apart : ∀ (i j : Nat) (u v : Value), us[i]? = some u → us[j]? = some v → i ≠ j → u.ownBlock = none ∨ u.ownBlock ≠ v.ownBlock
  gap : ∀ (i : Nat) (u : Value), us[i]? = some u → u.ownBlock ≠ some g
def rowF (k i j : Nat) (xs : List ByteArray) : List ByteArray := if j < k then marksK j xs.length else if j = k then marksK k i ++ xs.drop i else xs
/-- The lists ahead of the k-th are marked, and so are its first i texts. -/
def Rws (w : World) (B : Nat) (us : List Value) (xss : List (List ByteArray)) (k i : Nat) : Prop := ∀ (j : Nat) (u : Value) (xs : List ByteArray), us[j]? = some u → xss[j]? = some xs → w.ownsRow B 9 1 u xs.length (strs (rowF k i j xs))
theorem Rws.below {w w' : World} {B : Nat} {us : List Value} {xss : List (List ByteArray)} {k i : Nat} (h : Rws w B us xss k i) (hb : Below w.heap.size w w') : Rws w' B us xss k i := fun j u xs h1 h2 => own_below (h j u xs h1 h2) hb
theorem Rws.set {w : World} {B g : Nat} {us : List Value} {xss : List (List ByteArray)} {k i gk cap : Nat} {xs : List ByteArray} (h : Rws w B us xss k i) (hA : Handed g us) (hu : us[k]? = some (.slice (some ⟨gk, 0, none⟩) xs.length cap)) (hx : xss[k]? = some xs) (hi : i < xs.length) :
    Rws (w.setCell ⟨gk, i, none⟩ (.string (markB k i))) B us xss k (i + 1) := by
  intro j v ys hv hy
  by_cases hj : j = k
  · subst hj
    rw [hu] at hv
    rw [hx] at hy
    cases hv
    cases hy
    have h2 := own_set (i := i) (h j _ _ hu hx) (.string (markB j i))
    have e : (strs (rowF j i j xs)).set i (.string (markB j i)) = strs (rowF j (i + 1) j xs) := by
      unfold strs rowF
      rw [if_neg (Nat.lt_irrefl j), if_pos rfl, if_neg (Nat.lt_irrefl j), if_pos rfl, ← List.map_set, List.set_append_right _ _ (by rw [marksK_length]; exact Nat.le_refl _), marksK_length, Nat.sub_self, List.drop_eq_getElem_cons hi, List.set_cons_zero, marksK_succ, List.append_assoc]
      rfl
    rw [e] at h2
    exact h2
  · have e : rowF k (i + 1) j ys = rowF k i j ys := by unfold rowF; simp [hj]
    rw [e]
    refine own_same (h j v ys hv hy) (fun b hb => set_other _ (fun e => ?_))
    subst e
    rcases hA.apart j k v _ hv hu hj with h1 | h1
    · rw [hb] at h1; cases h1
    · exact h1 hb
theorem Rws.next {w : World} {B : Nat} {us : List Value} {xss : List (List ByteArray)} {k : Nat} {xs : List ByteArray} (h : Rws w B us xss k xs.length) (hx : xss[k]? = some xs) : Rws w B us xss (k + 1) 0 := by
  intro j u ys hu hy
  have h2 := h j u ys hu hy
  have e : rowF k xs.length j ys = rowF (k + 1) 0 j ys := by
    unfold rowF
    by_cases h1 : j < k
    · rw [if_pos h1, if_pos (by omega)]
    · rw [if_neg h1]
      by_cases h2 : j = k
      · subst h2
        rw [hx] at hy
        cases hy
        rw [if_pos rfl, if_pos (by omega), List.drop_of_length_le (Nat.le_refl _), List.append_nil]
      · rw [if_neg h2, if_neg (by omega)]
        by_cases h3 : j = k + 1
        · rw [if_pos h3]; rfl
        · rw [if_neg h3]
  rw [← e]
  exact h2

/-- The first k lists have marks appended, behind the world w1. -/
structure Grew (w1 wr : World) (B : Nat) (us : List Value) (xss : List (List ByteArray)) (k : Nat) (vs : List Value) (gv : Value) : Prop where
  len : vs.length = k
  size : w1.heap.size ≤ wr.heap.size
  same : ∀ b, b < w1.heap.size → (∀ (j : Nat) (u : Value), j < k → us[j]? = some u → u.ownBlock ≠ some b) → wr.heap[b]? = w1.heap[b]?
  old : ∀ (j : Nat) (u : Value) (xs : List ByteArray), j < k → us[j]? = some u → xss[j]? = some xs → TextsAt wr u (marksK j xs.length)
  new : ∀ (j : Nat) (v : Value) (xs : List ByteArray), vs[j]? = some v → xss[j]? = some xs → TextsAt wr v (marksK j (xs.length + 64))
  row : wr.ownsRow w1.heap.size 37 1 gv k vs
  gap : ∀ (j : Nat) (v : Value), vs[j]? = some v → v.ownBlock ≠ gv.ownBlock
  blk : ∀ (j : Nat) (v u : Value), vs[j]? = some v → us[j]? = some u → v.ownBlock = u.ownBlock ∨ ∃ b, w1.heap.size ≤ b ∧ v.ownBlock = some b
/-- Of the k-th list, i marks are appended, behind the world w. -/
structure Grows (w wr : World) (B k n i : Nat) (u v : Value) : Prop where
  size : w.heap.size ≤ wr.heap.size
  same : ∀ b, b < w.heap.size → u.ownBlock ≠ some b → wr.heap[b]? = w.heap[b]?
  old : TextsAt wr u (marksK k n)
  new : wr.ownsRow B 9 1 v (n + i) (strs (marksK k (n + i)))
  blk : v.ownBlock = u.ownBlock ∨ ∃ b, w.heap.size ≤ b ∧ v.ownBlock = some b
theorem Grows.below {w wr wr' : World} {B k n i : Nat} {u v : Value} (h : Grows w wr B k n i u v) (hu : ∀ b, u.ownBlock = some b → b < w.heap.size) (hb : Below wr.heap.size wr wr') : Grows w wr' B k n i u v :=
  ⟨Nat.le_trans h.size hb.size, fun b h1 h2 => (hb.block b (Nat.lt_of_lt_of_le h1 h.size)).trans (h.same b h1 h2), texts_same h.old (fun b h1 => hb.block b (Nat.lt_of_lt_of_le (hu b h1) h.size)), own_below h.new hb, h.blk⟩
theorem Grows.step {w wr wr' : World} {B k n i : Nat} {u v v' : Value} (h : Grows w wr B k n i u v) (hu : ∀ b, u.ownBlock = some b → b < w.heap.size) (hn : u.ownBlock = none → n = 0) (hv0 : ∃ a c, u = .slice a n c ∧ (a = none → c = 0) ∧ ∀ b, a = some b → ∃ g, b = ⟨g, 0, none⟩)
    (hown : wr'.ownsRow B 9 1 v' (n + i + 1) (strs (marksK k (n + i)) ++ [.string (markB k (n + i : Nat))])) (hg : v'.ownBlock = v.ownBlock ∧ wr.grownBy wr' v.ownBlock ∨ (∃ b, wr.heap.size ≤ b ∧ v'.ownBlock = some b) ∧ wr.grownBy wr' none) :
    Grows w wr' B k n (i + 1) u v' := by
  have e : strs (marksK k (n + i)) ++ [.string (markB k (n + i : Nat))] = strs (marksK k (n + (i + 1))) := by
    rw [← Nat.add_assoc, marksK_succ, strs_append]; rfl
  rw [e] at hown
  have hsz : wr.heap.size ≤ wr'.heap.size := by rcases hg with ⟨_, h1⟩ | ⟨_, h1⟩ <;> exact h1.size
  refine ⟨Nat.le_trans h.size hsz, fun b h1 h2 => ?_, ?_, hown, ?_⟩
  · rcases hg with ⟨_, hg⟩ | ⟨_, hg⟩
    · refine (hg.block b (Nat.lt_of_lt_of_le h1 h.size) ?_).trans (h.same b h1 h2)
      rcases h.blk with h3 | ⟨b3, h3, h4⟩
      · rw [h3]; exact fun e => h2 e.symm
      · rw [h4]; intro e; cases e; omega
    · exact (hg.block b (Nat.lt_of_lt_of_le h1 h.size) (fun e => nomatch e)).trans (h.same b h1 h2)
  · rcases hg with ⟨hv, hg⟩ | ⟨_, hg⟩
    · rcases h.blk with h3 | ⟨b3, h3, h4⟩
      · obtain ⟨a, c, rfl, ha, hb⟩ := hv0
        refine ⟨a, c, by rw [marksK_length], ha, fun j x hx => ?_⟩
        have hjn : j < n := by have := (List.getElem?_eq_some_iff.1 hx).1; rwa [marksK_length] at this
        cases a with
        | none => exact absurd (hn rfl) (by omega)
        | some ad =>
          obtain ⟨g, rfl⟩ := hb ad rfl
          refine ⟨g, 0, rfl, ?_⟩
          have hvb : v'.ownBlock = some g := by rw [hv, h3]; rfl
          have hc := hown.cells hvb j (.string x) (by
            unfold strs
            rw [List.getElem?_map, marksK_get _ _ _ (by omega)]
            rw [marksK_get _ _ _ hjn] at hx
            rw [Option.some.inj hx]; rfl)
          rw [Addr.add_mid] at hc
          exact hc
      · refine texts_same h.old (fun b hb => hg.block b (Nat.lt_of_lt_of_le (hu b hb) h.size) ?_)
        rw [h4]; intro e; cases e; have := hu _ hb; omega
    · exact texts_same h.old (fun b hb => hg.block b (Nat.lt_of_lt_of_le (hu b hb) h.size) (fun e => nomatch e))
  · rcases hg with ⟨hv, _⟩ | ⟨⟨b, h1, h2⟩, _⟩
    · rw [hv]; exact h.blk
    · exact .inr ⟨b, Nat.le_trans h.size h1, h2⟩
/-- The k-th list is done: the next. -/
theorem Grew.step {w1 wr wr' wr2 : World} {B g k n : Nat} {us vs : List Value} {xss : List (List ByteArray)} {gv gv' u v : Value} {xs : List ByteArray} (h : Grew w1 wr B us xss k vs gv) (hA : Handed g us) (hu : us[k]? = some u) (hx : xss[k]? = some xs) (hn : n = xs.length)
    (hlt : ∀ (j : Nat) (u : Value), us[j]? = some u → ∀ b, u.ownBlock = some b → b < w1.heap.size)
    (hG : Grows wr wr' B k n 64 u v)
    (hown : wr2.ownsRow w1.heap.size 37 1 gv' (k + 1) (vs ++ [v])) (hg : gv'.ownBlock = gv.ownBlock ∧ wr'.grownBy wr2 gv.ownBlock ∨ (∃ b, wr'.heap.size ≤ b ∧ gv'.ownBlock = some b) ∧ wr'.grownBy wr2 none) :
    Grew w1 wr2 B us xss (k + 1) (vs ++ [v]) gv' := by
  subst hn
  have hul := hlt k u hu
  have hsz : wr'.heap.size ≤ wr2.heap.size := by rcases hg with ⟨_, h1⟩ | ⟨_, h1⟩ <;> exact h1.size
  have hvs : v.ownBlock ≠ none := by
    intro e
    rcases hG.new.2 with ⟨_, h0⟩ | ⟨g', cap, cur, rfl, _⟩
    · omega
    · cases e
  have hgv : ∀ b, gv.ownBlock = some b → w1.heap.size ≤ b ∧ b < wr.heap.size := fun b hb => h.row.lt b hb
  have hvg : v.ownBlock ≠ gv.ownBlock := by
    rcases hG.blk with h1 | ⟨b, h1, h2⟩
    · intro e
      cases hb : v.ownBlock with
      | none => exact hvs hb
      | some b =>
        have := hul b (by rw [← h1]; exact hb)
        have := hgv b (by rw [← e]; exact hb)
        omega
    · intro e
      have := hgv b (by rw [← e]; exact h2)
      omega
  -- what the last append leaves as it was
  have hk : ∀ b, b < wr'.heap.size → gv.ownBlock ≠ some b → wr2.heap[b]? = wr'.heap[b]? := by
    intro b h1 h2
    rcases hg with ⟨_, hg⟩ | ⟨_, hg⟩
    · exact hg.block b h1 (fun e => h2 e.symm)
    · exact hg.block b h1 (fun e => nomatch e)
  have hvlt : ∀ b, v.ownBlock = some b → b < wr'.heap.size := fun b hb => (hG.new.lt b hb).2
  have hvsl : ∀ (j : Nat) (v0 : Value), vs[j]? = some v0 → ∀ b, v0.ownBlock = some b → b < wr.heap.size ∧ u.ownBlock ≠ some b := by
    intro j v0 hv0 b hb
    have hjk : j < k := by have := (List.getElem?_eq_some_iff.1 hv0).1; rw [h.len] at this; exact this
    obtain ⟨uj, huj⟩ : ∃ uj, us[j]? = some uj := ⟨_, List.getElem?_eq_getElem (by have := (List.getElem?_eq_some_iff.1 hu).1; omega)⟩
    obtain ⟨xj, hxj⟩ : ∃ xj, xss[j]? = some xj := ⟨_, List.getElem?_eq_getElem (by have := (List.getElem?_eq_some_iff.1 hx).1; omega)⟩
    have hT := h.new j v0 xj hv0 hxj
    obtain ⟨a, c, rfl, _, hc⟩ := hT
    obtain ⟨b0, o0, rfl, hcell⟩ := hc 0 _ (marksK_get j _ 0 (by omega))
    have e : b0 = b := by cases hb; rfl
    subst e
    refine ⟨World.block_lt_of_cell? wr _ hcell, ?_⟩
    rcases h.blk j _ uj hv0 huj with h1 | ⟨b1, h1, h2⟩
    · intro e
      rcases hA.apart j k uj u huj hu (by omega) with h5 | h5
      · rw [← h1] at h5; cases h5
      · exact h5 (by rw [← h1, hb, e])
    · intro e
      have := hul _ e
      rw [hb] at h2
      cases h2
      omega
  refine ⟨by rw [List.length_append, h.len]; rfl, Nat.le_trans h.size (Nat.le_trans hG.size hsz), fun b h1 h2 => ?_, fun j u' xs' h1 h2 h3 => ?_, fun j v' xs' h1 h2 => ?_, hown, fun j v' h1 => ?_, fun j v' u' h1 h2 => ?_⟩
  · have hb1 : b < wr.heap.size := Nat.lt_of_lt_of_le h1 h.size
    rw [hk b (Nat.lt_of_lt_of_le hb1 hG.size) (fun e => by have := (hgv b e).1; omega), hG.same b hb1 (h2 k u (by omega) hu)]
    exact h.same b h1 (fun j u' h3 h4 => h2 j u' (by omega) h4)
  · by_cases hj : j = k
    · subst hj
      rw [hu] at h2
      rw [hx] at h3
      cases h2
      cases h3
      exact texts_same hG.old (fun b hb => hk b (Nat.lt_of_lt_of_le (Nat.lt_of_lt_of_le (hul b hb) h.size) hG.size) (fun e => by have := (hgv b e).1; have := hul b hb; omega))
    · have hl := hlt j u' h2
      refine texts_same (h.old j u' xs' (by omega) h2 h3) (fun b hb => ?_)
      have hb1 : b < wr.heap.size := Nat.lt_of_lt_of_le (hl b hb) h.size
      rw [hk b (Nat.lt_of_lt_of_le hb1 hG.size) (fun e => by have := (hgv b e).1; have := hl b hb; omega)]
      refine hG.same b hb1 (fun e => ?_)
      rcases hA.apart j k u' u h2 hu hj with h5 | h5
      · rw [hb] at h5; cases h5
      · exact h5 (hb.trans e.symm)
  · by_cases hj : j < vs.length
    · rw [List.getElem?_append_left hj] at h1
      refine texts_same (h.new j v' xs' h1 h2) (fun b hb => ?_)
      obtain ⟨h5, h6⟩ := hvsl j v' h1 b hb
      rw [hk b (Nat.lt_of_lt_of_le h5 hG.size) (fun e => h.gap j v' h1 (by rw [hb, e]))]
      exact hG.same b h5 h6
    · have hjk : j = k := by
        have := (List.getElem?_eq_some_iff.1 h1).1
        rw [List.length_append, List.length_singleton] at this
        have := h.len
        omega
      subst hjk
      rw [List.getElem?_append_right (by omega), show j - vs.length = 0 by have := h.len; omega] at h1
      rw [hx] at h2
      cases h1
      cases h2
      have hT : TextsAt wr' v (marksK j (xs.length + 64)) := TextsAt.own (B := B) (by rw [marksK_length]; exact hG.new)
      exact texts_same hT (fun b hb => hk b (hvlt b hb) (fun e => hvg (by rw [hb, e])))
  · have hg2 : ∀ b, gv'.ownBlock = some b → gv.ownBlock = some b ∨ wr'.heap.size ≤ b := by
      intro b hb
      rcases hg with ⟨h5, _⟩ | ⟨⟨b5, h5, h6⟩, _⟩
      · exact .inl (by rw [← h5]; exact hb)
      · rw [hb] at h6; cases h6; exact .inr h5
    intro e
    by_cases hj : j < vs.length
    · rw [List.getElem?_append_left hj] at h1
      cases hb : v'.ownBlock with
      | none =>
        obtain ⟨xj, hxj⟩ : ∃ xj, xss[j]? = some xj := ⟨_, List.getElem?_eq_getElem (by have := (List.getElem?_eq_some_iff.1 hx).1; have := h.len; omega)⟩
        obtain ⟨a, c, rfl, _, hc⟩ := h.new j v' xj h1 hxj
        obtain ⟨b0, o0, rfl, _⟩ := hc 0 _ (marksK_get j _ 0 (by omega))
        cases hb
      | some b =>
        rcases hg2 b (by rw [← e]; exact hb) with h5 | h5
        · exact h.gap j v' h1 (by rw [hb, h5])
        · have := (hvsl j v' h1 b hb).1
          have := hG.size
          omega
    · rw [List.getElem?_append_right (by omega)] at h1
      have hv' : v' = v := by
        cases hd : j - vs.length with
        | zero => rw [hd] at h1; cases h1; rfl
        | succ m => rw [hd] at h1; cases h1
      subst hv'
      cases hb : v'.ownBlock with
      | none => exact hvs hb
      | some b =>
        rcases hg2 b (by rw [← e]; exact hb) with h5 | h5
        · exact hvg (by rw [hb, h5])
        · have := hvlt b hb
          omega
  · by_cases hj : j < vs.length
    · rw [List.getElem?_append_left hj] at h1
      exact h.blk j v' u' h1 h2
    · have hjk : j = k := by
        have := (List.getElem?_eq_some_iff.1 h1).1
        rw [List.length_append, List.length_singleton] at this
        have := h.len
        omega
      subst hjk
      rw [List.getElem?_append_right (by omega), show j - vs.length = 0 by have := h.len; omega] at h1
      rw [hu] at h2
      cases h1
      cases h2
      rcases hG.blk with h5 | ⟨b, h5, h6⟩
      · exact .inl h5
      · exact .inr ⟨b, Nat.le_trans h.size h5, h6⟩
end Go.Proofs.YtkaegdmkpjmfeaaGreatDoor.Tx

namespace Go.Proofs.YtkaegdmkpjmfeaaGreatDoor.Tx
open Go Go.RowKit

theorem sl_info : (Tryz.prog.info? 37).map (fun i => (i.zero, i.size, i.bytes)) = some (some (.slice none 0 0), 1, 24) := by kernel_rfl
theorem own_shape {w : World} {B e n : Nat} {u : Value} {xs : List Value} (h : w.ownsRow B e 1 u n xs) : ∃ a c, u = .slice a n c ∧ (a = none → c = 0 ∧ n = 0) ∧ (∀ b, a = some b → ∃ g, b = ⟨g, 0, none⟩) ∧ c ≤ maxLen := by
  rcases h.2 with ⟨rfl, rfl⟩ | ⟨g, cap, cur, rfl, _, _, _, hc, _⟩
  · exact ⟨none, 0, rfl, fun _ => ⟨rfl, rfl⟩, (fun b hb => nomatch hb), Nat.zero_le _⟩
  · exact ⟨_, _, rfl, (fun e => nomatch e), fun b hb => by cases hb; exact ⟨g, rfl⟩, hc⟩
theorem own_frozen {w : World} {B e n g c : Nat} {xs : List Value} (h : w.ownsRow B e 1 (.slice (some ⟨g, 0, none⟩) n c) n xs) (i : Nat) : w.frozen? ⟨g, i, none⟩ = false := by
  rcases h.2 with ⟨hv, _⟩ | ⟨g', cap, cur, hv, _, hg, _⟩
  · cases hv
  · cases hv; exact Lies.frozen hg i
theorem own_base {w : World} {B B' e n : Nat} {u : Value} {xs : List Value} (h : w.ownsRow B' e 1 u n xs) (hb : B ≤ B') : w.ownsRow B e 1 u n xs := by
  refine ⟨h.1, ?_⟩
  rcases h.2 with h1 | ⟨g, cap, cur, h1, h2, h3⟩
  · exact .inl h1
  · exact .inr ⟨g, cap, cur, h1, Nat.le_trans hb h2, h3⟩
theorem grown_below {w w' : World} {B e n : Nat} {v v' : Value} {xs : List Value} (hg : v'.ownBlock = v.ownBlock ∧ w.grownBy w' v.ownBlock ∨ (∃ b, w.heap.size ≤ b ∧ v'.ownBlock = some b) ∧ w.grownBy w' none) (h : w.ownsRow B e 1 v n xs) (hB : B ≤ w.heap.size) : Below B w w' := by
  rcases hg with ⟨_, hg⟩ | ⟨_, hg⟩
  · exact ⟨hg.os, hg.tape, hg.output, hg.size, fun k hk => hg.block k (by omega) (fun e => by have := (h.lt k e.symm).1; omega)⟩
  · exact ⟨hg.os, hg.tape, hg.output, hg.size, fun k hk => hg.block k (by omega) (fun e => nomatch e)⟩
theorem Rws.start {w : World} {B : Nat} {us : List Value} {xss : List (List ByteArray)} (h : ∀ (j : Nat) (u : Value) (xs : List ByteArray), us[j]? = some u → xss[j]? = some xs → w.ownsRow B 9 1 u xs.length (strs xs)) : Rws w B us xss 0 0 := by
  intro j u xs h1 h2
  have e : rowF 0 0 j xs = xs := by
    unfold rowF
    rw [if_neg (by omega)]
    by_cases h : j = 0
    · rw [if_pos h]; rfl
    · rw [if_neg h]
  rw [e]; exact h j u xs h1 h2
theorem Rws.done {w : World} {B n : Nat} {us : List Value} {xss : List (List ByteArray)} (h : Rws w B us xss n 0) (hn : n = us.length) (j : Nat) (u : Value) (xs : List ByteArray) (h1 : us[j]? = some u) (h2 : xss[j]? = some xs) : w.ownsRow B 9 1 u xs.length (strs (marksK j xs.length)) := by
  have h3 := h j u xs h1 h2
  have hj := (List.getElem?_eq_some_iff.1 h1).1
  unfold rowF at h3
  rw [if_pos (by omega)] at h3
  exact h3

set_option maxRecDepth 100000 in
set_option maxHeartbeats 8000000 in
theorem apart_p (B g c : Nat) (us : List Value) (xss : List (List ByteArray)) (w : World) (hl : us.length = xss.length) (hm : us.length ≤ 1000) (hB : B ≤ w.heap.size) (hL : Lies w g 37 us.toArray)
    (hA : Handed g us) (hR : Rws w B us xss 0 0) (hz : ∀ xs ∈ xss, xs.length ≤ 1099511627776) :
    Calls Tryz.prog 19 #[.slice (some ⟨g, 0, none⟩) us.length c] w fun e w' => e = .returned (.bool true) ∧ Below B w w' := by
  obtain ⟨i0, hi, z0, z1, z2⟩ := info_parts str_info
  obtain ⟨j0, hj, y0, y1, y2⟩ := info_parts sl_info
  have HL0 : Hid _ := hL
  have HR0 : Hid _ := hR
  have HA : Hid _ := hA
  have HZ : Hid _ := hz
  have HLL : Hid _ := hl
  clear hL hR hA hz hl
  go_enter Tryz.func19, Tryz.ntmps19
  go_wp2
  go_loopw [3] (fun n wr => ∃ k : Nat, k ≤ us.length ∧ n = .int .i64 k ∧ Hid (Lies wr g 37 us.toArray) ∧ Hid (Rws wr B us xss k 0) ∧ Below B w wr) (fun n _ => us.length - (intOf n).toNat)
  case atStart => exact ⟨0, Nat.zero_le _, rfl, HL0, HR0, Below.refl _ _⟩
  case round =>
    clear HL0 HR0
    obtain ⟨k, hk, rfl, HL, HR, hB1⟩ := hrel
    by_cases hlt : k < us.length
    · obtain ⟨u, hu⟩ : ∃ u, us[k]? = some u := ⟨_, List.getElem?_eq_getElem hlt⟩
      obtain ⟨xs, hx⟩ : ∃ xs, xss[k]? = some xs := ⟨_, List.getElem?_eq_getElem (by rw [← HLL.out]; exact hlt)⟩
      have hzx := HZ.out xs (List.mem_of_getElem? hx)
      obtain ⟨a, cu, rfl, hac, hab, _⟩ := own_shape (HR.out k u xs hu hx)
      have hcell := HL.out.cell (i := k) (by simpa using hu)
      have HU : Hid _ := hu
      have HX : Hid _ := hx
      clear hu hx
      have d1 : (0 : Int) ≤ (k : Int) := by omega
      have d2 : (k : Int) < (us.length : Int) := by omega
      go_wp2
      go_loopw [4] (fun n wr2 => ∃ i : Nat, i ≤ xs.length ∧ n = .int .i64 i ∧ Hid (Lies wr2 g 37 us.toArray) ∧ Hid (Rws wr2 B us xss k i) ∧ Below B w wr2) (fun n _ => xs.length - (intOf n).toNat)
      case atStart => exact ⟨0, Nat.zero_le _, rfl, HL, HR, hB1⟩
      case round =>
        clear HL HR hB1 hcell
        obtain ⟨i, hi2, rfl, HL, HR, hB1⟩ := hrel
        have hcell := HL.out.cell (i := k) (by simpa using HU.out)
        by_cases hin : i < xs.length
        · cases a with
          | none => exact absurd (hac rfl).2 (by omega)
          | some ad =>
            obtain ⟨gk, rfl⟩ := hab ad rfl
            have e1 : (0 : Int) ≤ (i : Int) := by omega
            have e2 : (i : Int) < (xs.length : Int) := by omega
            have hM := marks_p (k : Int) (i : Int) wr.drew
            have hrow := HR.out k _ xs HU.out HX.out
            obtain ⟨y, hy⟩ : ∃ y, (strs (rowF k i k xs))[i]? = some y := ⟨_, List.getElem?_eq_getElem (by rw [hrow.1]; omega)⟩
            have HF : Hid (∀ w2, Below wr.drew.heap.size wr.drew w2 → w2.cell? ⟨g, k, none⟩ = some (.slice (some ⟨gk, 0, none⟩) xs.length cu) ∧ w2.cell? ⟨gk, i, none⟩ = some y ∧ w2.frozen? ⟨gk, i, none⟩ = false) := by
              intro w2 b2
              have b3 : Below wr.heap.size wr w2 := (below_drawn (Below.refl _ wr) 1).trans b2
              have r2 := own_below hrow b3
              exact ⟨(HL.out.below b3).cell (i := k) (by simpa using HU.out), row_cell r2 i y hy, own_frozen r2 i⟩
            have hBg := (hrow.lt gk rfl).1
            have hne : gk ≠ g := fun e => HA.out.gap k _ HU.out (by rw [e]; rfl)
            clear hrow hy
            go_wp2
            go_region_with (first | (go_at_call 40; refine hM.mono ?_; rintro e w2 ⟨rfl, b2⟩; obtain ⟨k0, k1, k2⟩ := HF.out w2 b2))
            all_goals go_wp2
            all_goals
              have b3 : Below wr.heap.size wr w2 := (below_drawn (Below.refl _ wr) 1).trans b2
              have hs1 := hB1.size
              exact ⟨⟨i + 1, by omega, by go_num, (HL.out.below b3).other _ hne, (HR.out.below b3).set HA.out HU.out HX.out hin, (hB1.trans (b3.mono (by omega))).setCell (p := ⟨gk, i, none⟩) hBg _⟩, by simp [intOf]; omega⟩
        · obtain rfl : i = xs.length := by omega
          have HR2 : Hid (Rws wr B us xss (k + 1) 0) := HR.out.next HX.out
          go_wp2
          exact ⟨⟨k + 1, by omega, by go_num, HL, HR2, hB1⟩, by simp [intOf]; omega⟩
    · obtain rfl : k = us.length := by omega
      have HD : Hid (∀ (j : Nat) (u : Value) (xs : List ByteArray), us[j]? = some u → xss[j]? = some xs → wr.ownsRow B 9 1 u xs.length (strs (marksK j xs.length))) := fun j u xs h1 h2 => HR.out.done rfl j u xs h1 h2
      clear HR
      go_wp2
      obtain ⟨w1, hw1⟩ : ∃ w1, w1 = wr := ⟨_, rfl⟩
      subst hw1
      have hBw : B ≤ w1.heap.size := by have := hB1.size; omega
      go_loopw [5, 6] (fun gv n wr2 => ∃ (k : Nat) (vs : List Value), k ≤ us.length ∧ n = .int .i64 k ∧ Hid (Grew w1 wr2 B us xss k vs gv) ∧ Below B w wr2) (fun _ n _ => us.length - (intOf n).toNat)
      case atStart => exact ⟨0, [], Nat.zero_le _, rfl, ⟨rfl, Nat.le_refl _, fun _ _ _ => rfl, fun j _ _ h => absurd h (Nat.not_lt_zero j), fun j v xs h => by simp at h, World.ownsRow_nil _ _ _ _, fun j v h => by simp at h, fun j v u h => by simp at h⟩, hB1⟩
      case round =>
        obtain ⟨k, vs, hk, rfl, HG, hB2⟩ := hrel
        by_cases hlt : k < us.length
        · obtain ⟨u, hu⟩ : ∃ u, us[k]? = some u := ⟨_, List.getElem?_eq_getElem hlt⟩
          obtain ⟨xs, hx⟩ : ∃ xs, xss[k]? = some xs := ⟨_, List.getElem?_eq_getElem (by rw [← HLL.out]; exact hlt)⟩
          have hzx := HZ.out xs (List.mem_of_getElem? hx)
          have hul : ∀ b, u.ownBlock = some b → b < w1.heap.size := fun b hb => ((HD.out k u xs hu hx).lt b hb).2
          have hown2 : wr.ownsRow B 9 1 u xs.length (strs (marksK k xs.length)) := own_same (HD.out k u xs hu hx) (fun b hb => HG.out.same b (hul b hb) (fun j u' hj hu' e => by
            rcases HA.out.apart j k u' u hu' hu (by omega) with h | h
            · rw [e] at h; cases h
            · exact h (e.trans hb.symm)))
          have hgl : Lies wr g 37 us.toArray := (HG.out.same g HL.out.lt (fun j u' _ hu' => HA.out.gap j u' hu')).trans HL.out
          have hcell := hgl.cell (i := k) (by simpa using hu)
          have hsz2 := HG.out.size
          have HUL : Hid (∀ b, u.ownBlock = some b → b < wr.heap.size) := fun b hb => Nat.lt_of_lt_of_le (hul b hb) hsz2
          have HUL1 : Hid (∀ b, u.ownBlock = some b → b < w1.heap.size) := hul
          have HUG : Hid (u.ownBlock ≠ some g) := HA.out.gap k u hu
          have HGL : Hid (Lies wr g 37 us.toArray) := hgl
          have HU : Hid _ := hu
          have HX : Hid _ := hx
          obtain ⟨a, cu, rfl, hac, hab, _⟩ := own_shape hown2
          clear hu hx hul hgl
          have d1 : (0 : Int) ≤ (k : Int) := by omega
          have d2 : (k : Int) < (us.length : Int) := by omega
          go_wp2
          obtain ⟨w2, hw2⟩ : ∃ w2, w2 = wr := ⟨_, rfl⟩
          subst hw2
          go_loopw [7, 8] (fun v n wr3 => ∃ i : Nat, i ≤ 64 ∧ n = .int .i64 i ∧ Hid (Grows w2 wr3 B k xs.length i (.slice a xs.length cu) v) ∧ Below B w wr3) (fun _ n _ => 64 - (intOf n).toNat)
          case atStart => exact ⟨0, by omega, rfl, ⟨Nat.le_refl _, fun _ _ _ => rfl, TextsAt.own (B := B) (by rw [marksK_length]; exact hown2), hown2, .inl rfl⟩, hB2⟩
          case round =>
            clear hcell
            obtain ⟨i, hi2, rfl, HS, hB3⟩ := hrel
            have hcell : wr.cell? ⟨g, k, none⟩ = some (.slice a xs.length cu) := Lies.cell (t := 37) (cur := us.toArray) ((HS.out.same g HGL.out.lt HUG.out).trans HGL.out) (by simpa using HU.out)
            by_cases hin : i < 64
            · have e1 : (0 : Int) ≤ (i : Int) := by omega
              have e2 : (i : Int) < 64 := by omega
              go_wp2_with fail
              refine (marks_p _ _ wr).mono ?_
              rintro e w3 ⟨rfl, b3⟩
              have hB4 : Below B w w3 := hB3.trans (b3.mono (by have := hB3.size; omega))
              have hs4 := hB4.size
              have HS3 := HS.out.below HUL.out b3
              obtain ⟨x, hxm⟩ : ∃ x, x = markB (k : Int) ((xs.length : Int) + (i : Int)) := ⟨_, rfl⟩
              rw [← hxm]
              have HXM : Hid (x = markB (k : Int) ((xs.length + i : Nat) : Int)) := by unfold Hid; rw [hxm]; simp
              have HS4 : Hid (Grows w2 (w3.alloc (.cells #[.string x] 9)) B k xs.length i (.slice a xs.length cu) u7) := HS3.below HUL.out ((Below.refl _ w3).alloc (Nat.le_refl _) _)
              clear hxm HS3 HS
              go_wp2_with (at_builtin; refine wpList_append_keep _ rfl _ _ 37 rfl B 9 i0 (.string ⟨#[]⟩) 16 Tryz.underlying37 hi z0 z1 z2 rfl _ _ _ rfl HS4.out.new ⟨w3.heap.size, 0, none⟩ 1 (.string x) rfl (cell_one_new _ _ _) rfl ?c3 ?c4 ?c5 ?_)
              case c3 => unfold maxLen; omega
              case c4 => omega
              case c5 => simp; omega
              intro v' w4 hown' hg
              rw [show w3.heap.size + 1 = (w3.alloc (.cells #[.string x] 9)).heap.size from (World.size_alloc _ _).symm] at hg
              have hgs := grown_below hg HS4.out.new (by simp; omega)
              have HS5 : Hid (Grows w2 w4 B k xs.length (i + 1) (.slice a xs.length cu) v') := HS4.out.step HUL.out (fun e => by cases a with | none => exact (hac rfl).2 | some _ => cases e) ⟨a, cu, rfl, fun e => (hac e).1, hab⟩ (by rw [← HXM.out]; exact hown') hg
              clear hown' hg HS4
              go_wp2
              exact ⟨⟨i + 1, by omega, by go_num, HS5, (hB4.alloc (by omega) _).trans hgs⟩, by simp [intOf]; omega⟩
            · obtain rfl : i = 64 := by omega
              obtain ⟨av, cv, rfl, _⟩ := own_shape HS.out.new
              have hgo : wr.ownsRow w1.heap.size 37 1 u5 k vs := own_same HG.out.row (fun b hb => HS.out.same b (HG.out.row.lt b hb).2 (fun e => by have h1 := (HG.out.row.lt b hb).1; have h2 := HUL1.out b e; omega))
              go_wp2_with (at_builtin; refine wpList_append_keep _ rfl _ _ 44 rfl w1.heap.size 37 j0 (.slice none 0 0) 24 Tryz.underlying44 hj y0 y1 y2 rfl _ _ _ rfl (hgo.alloc _) ⟨wr.heap.size, 0, none⟩ 1 (.slice av (xs.length + 64) cv) rfl (cell_one_new _ _ _) rfl ?c3 ?c4 ?c5 ?_)
              case c3 => unfold maxLen; omega
              case c4 => omega
              case c5 => have := HG.out.size; have := HS.out.size; simp; omega
              intro gv' w4 hown' hg
              rw [show wr.heap.size + 1 = (wr.alloc (.cells #[.slice av (xs.length + 64) cv] 37)).heap.size from (World.size_alloc _ _).symm] at hg
              have hs3 := hB3.size
              have hgs := grown_below hg ((own_base hgo hBw).alloc _) (by simp; omega)
              have HS5 : Hid (Grew w1 w4 B us xss (k + 1) (vs ++ [.slice av (xs.length + 64) cv]) gv') := HG.out.step HA.out HU.out HX.out rfl (fun j u hu b hb => by
                obtain ⟨xj, hxj⟩ : ∃ xj, xss[j]? = some xj := ⟨_, List.getElem?_eq_getElem (by rw [← HLL.out]; exact (List.getElem?_eq_some_iff.1 hu).1)⟩
                exact ((HD.out j u xj hu hxj).lt b hb).2) (HS.out.below HUL.out ((Below.refl _ wr).alloc (Nat.le_refl _) _)) hown' hg
              clear hown' hg hgo
              go_wp2
              exact ⟨⟨k + 1, _, by omega, by go_num, HS5, (hB3.alloc (by omega) _).trans hgs⟩, by simp [intOf]; omega⟩
        · obtain rfl : k = us.length := by omega
          obtain ⟨w2, hw2⟩ : ∃ w2, w2 = wr := ⟨_, rfl⟩
          subst hw2
          have hsz2 := HG.out.size
          have HGL : Hid (Lies w2 g 37 us.toArray) := (HG.out.same g HL.out.lt (fun j u' _ hu' => HA.out.gap j u' hu')).trans HL.out
          go_wp2
          go_loopw [9] (fun n wr => ∃ k : Nat, k ≤ us.length ∧ n = .int .i64 k ∧ Below w2.heap.size w2 wr) (fun n _ => us.length - (intOf n).toNat)
          case atStart => exact ⟨0, Nat.zero_le _, rfl, Below.refl _ _⟩
          case round =>
            obtain ⟨k, hk, rfl, hb⟩ := hrel
            by_cases hlt : k < us.length
            · obtain ⟨u, hu⟩ : ∃ u, us[k]? = some u := ⟨_, List.getElem?_eq_getElem hlt⟩
              obtain ⟨v, hv⟩ : ∃ v, vs[k]? = some v := ⟨_, List.getElem?_eq_getElem (by rw [HG.out.len]; exact hlt)⟩
              obtain ⟨xs, hx⟩ : ∃ xs, xss[k]? = some xs := ⟨_, List.getElem?_eq_getElem (by rw [← HLL.out]; exact hlt)⟩
              have hzx := HZ.out xs (List.mem_of_getElem? hx)
              obtain ⟨a, ca, hua, _, ha2⟩ := HG.out.old k u xs hlt hu hx
              obtain ⟨av, cv, hva, _, hv2⟩ := HG.out.new k v xs hv hx
              rw [marksK_length] at hua hva
              subst hua
              subst hva
              have HUA : Hid _ := ha2
              have HVA : Hid _ := hv2
              have hrow := HG.out.row
              rcases hrow.2 with ⟨_, h0⟩ | ⟨gg, cg, cur, hgv, _, _, _, hcg, _⟩
              · omega
              subst hgv
              have HC : Hid (∀ wr, Below w2.heap.size w2 wr → wr.cell? ⟨g, k, none⟩ = some (.slice a xs.length ca) ∧ wr.cell? ⟨gg, k, none⟩ = some (.slice av (xs.length + 64) cv)) := fun wr hb => ⟨(HGL.out.below hb).cell (by simpa using hu), row_cell (own_below hrow hb) k _ hv⟩
              obtain ⟨q1, q2⟩ := HC.out wr hb
              unfold maxLen at hcg
              clear hrow hu hv hx ha2 hv2
              have d1 : (0 : Int) ≤ (k : Int) := by omega
              have d2 : (k : Int) < (us.length : Int) := by omega
              go_wp2
              go_loopw [10] (fun n wr => ∃ i : Nat, i ≤ xs.length + 64 ∧ n = .int .i64 i ∧ Below w2.heap.size w2 wr) (fun n _ => xs.length + 64 - (intOf n).toNat)
              case atStart => exact ⟨0, Nat.zero_le _, rfl, hb⟩
              case round =>
                clear q1 q2 hb
                obtain ⟨i, hi2, rfl, hb⟩ := hrel
                obtain ⟨q1, q2⟩ := HC.out wr hb
                by_cases hin : i < xs.length + 64
                · obtain ⟨bv, ov, rfl, hcv⟩ := HVA.out i _ (marksK_get k (xs.length + 64) i hin)
                  have e1 : (0 : Int) ≤ (i : Int) := by omega
                  have e2 : (i : Int) < (xs.length : Int) + 64 := by omega
                  have dxx : ((markB (k : Int) (i : Int)).toList == (markB (k : Int) (i : Int)).toList) = true := by simp
                  go_wp2_with fail
                  refine (marks_p _ _ wr).mono ?_
                  rintro e w3 ⟨rfl, b3⟩
                  have hb3 := below_join hb b3
                  obtain ⟨p1, p2⟩ := HC.out w3 hb3
                  have hcv3 := (hb3.cell (p := ⟨bv, ov + i, none⟩) (World.block_lt_of_cell? w2 _ hcv)).trans hcv
                  clear q1 q2 hb b3 hcv
                  by_cases hin2 : i < xs.length
                  · obtain ⟨bu, ou, rfl, hcu⟩ := HUA.out i _ (marksK_get k xs.length i hin2)
                    have hcu3 := (hb3.cell (p := ⟨bu, ou + i, none⟩) (World.block_lt_of_cell? w2 _ hcu)).trans hcu
                    have e3 : (i : Int) < (xs.length : Int) := by omega
                    clear hcu
                    generalize markB (k : Int) (i : Int) = x at *
                    go_wp2
                    exact ⟨⟨i + 1, by omega, by go_num, hb3⟩, by simp [intOf]; omega⟩
                  · have e3 : ¬ (i : Int) < (xs.length : Int) := by omega
                    generalize markB (k : Int) (i : Int) = x at *
                    go_wp2
                    exact ⟨⟨i + 1, by omega, by go_num, hb3⟩, by simp [intOf]; omega⟩
                · obtain rfl : i = xs.length + 64 := by omega
                  go_wp2
                  exact ⟨⟨k + 1, by omega, by go_num, hb⟩, by simp [intOf]; omega⟩
            · obtain rfl : k = us.length := by omega
              go_wp2
              go_ret
              exact ⟨rfl, hB2.trans (hb.mono (by have := hB2.size; omega))⟩
end Go.Proofs.YtkaegdmkpjmfeaaGreatDoor.Tx
