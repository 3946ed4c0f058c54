/- The reader of lines in memory: ended, takeUpTo, take. -/
import Derived.Test.YtjgijbeedgggdaaGreatDoorReM
import Derived.Test.YtjgijbeedgggdaaGreatDoorShelf
import Derived.Lib.IndexLaws
import Derived.Deep.RegionHeld3
import Derived.Shelf.Strings.SlTrimAscii
namespace Go.Proofs.YtjgijbeedgggdaaGreatDoor
open Go Go.RowKit

/-- All blocks but B's are as they were. -/
structure Oth (B : Nat) (w w' : World) : Prop where
  os : w'.os = w.os
  tape : w'.tape = w.tape
  output : w'.output = w.output
  size : w.heap.size ≤ w'.heap.size
  block : ∀ k, k < w.heap.size → k ≠ B → w'.heap[k]? = w.heap[k]?
theorem Oth.refl (B : Nat) (w : World) : Oth B w w := ⟨rfl, rfl, rfl, Nat.le_refl _, fun _ _ _ => rfl⟩
theorem Oth.trans {B : Nat} {a b c : World} (h : Oth B a b) (k : Oth B b c) : Oth B a c :=
  ⟨k.os.trans h.os, k.tape.trans h.tape, k.output.trans h.output, Nat.le_trans h.size k.size, fun i hi hn => (k.block i (Nat.lt_of_lt_of_le hi h.size) hn).trans (h.block i hi hn)⟩
theorem Oth.of {B : Nat} {w w' : World} (h : Below w.heap.size w w') : Oth B w w' := ⟨h.os, h.tape, h.output, h.size, fun k hk _ => h.block k hk⟩
theorem Oth.below {B n : Nat} {w w' : World} (h : Oth B w w') (h1 : n ≤ B) (h2 : n ≤ w.heap.size) : Below n w w' := ⟨h.os, h.tape, h.output, h.size, fun k hk => h.block k (by omega) (by omega)⟩
theorem Oth.set (B i : Nat) (w : World) (v : Value) : Oth B w (w.setCell ⟨B, i, none⟩ v) :=
  ⟨((Below.refl 0 w).setCell (p := ⟨B, i, none⟩) (Nat.zero_le _) v).os, ((Below.refl 0 w).setCell (p := ⟨B, i, none⟩) (Nat.zero_le _) v).tape, ((Below.refl 0 w).setCell (p := ⟨B, i, none⟩) (Nat.zero_le _) v).output, ((Below.refl 0 w).setCell (p := ⟨B, i, none⟩) (Nat.zero_le _) v).size, fun k _ hn => Below.heap_setCell w ⟨B, i, none⟩ v k hn⟩
theorem Oth.on {B : Nat} {a b c : World} (h : Oth B a b) (k : Below b.heap.size b c) : Oth B a c := h.trans (Oth.of k)
theorem Oth.lies {B b : Nat} {w w' : World} {t : TypeId} {cur : Array Value} (h : Oth B w w') (hl : Lies w b t cur) (hb : b ≠ B) : Lies w' b t cur := (h.block b hl.lt hb).trans hl

/-- The reader in block B: the text, the place, the lines that were taken. -/
def Rd (W : World) (B : Nat) (s : ByteArray) (p c : Nat) : Prop := Lies W B 93 #[.string s, .int .i64 p, .int .i64 c]
theorem Rd.below {W W2 : World} {B : Nat} {s : ByteArray} {p c : Nat} (h : Rd W B s p c) (hb : Below W.heap.size W W2) : Rd W2 B s p c := Lies.below h hb
abbrev ptr (B : Nat) : Value := .pointer (some ⟨B, 0, none⟩)
theorem rd_size : (Tryz.prog.info? 93).map (·.size) = some 3 := by kernel_rfl

set_option maxRecDepth 100000 in
theorem rended_p (B : Nat) (s : ByteArray) (p c : Nat) (w : World) (h : Rd w B s p c) : Calls Tryz.prog 132 #[ptr B] w fun e w' => e = .returned (.bool (decide (s.size ≤ p))) ∧ Below w.heap.size w w' := by
  have c0 := h.cell (i := 0) rfl
  have c1 := h.cell (i := 1) rfl
  by_cases hp : s.size ≤ p
  · rw [decide_eq_true hp]
    have d : (s.size : Int) ≤ (p : Int) := by omega
    have d1 : decide ((p : Int) ≥ (s.size : Int)) = true := decide_eq_true d
    go_enter Tryz.func132, Tryz.ntmps132
    go_wp2
    go_quiet (fail)
    go_wp2
    go_ret
    exact ⟨rfl, below_drawn (Below.refl _ _) _⟩
  · rw [decide_eq_false hp]
    have d : ¬ (s.size : Int) ≤ (p : Int) := by omega
    have d1 : decide ((p : Int) ≥ (s.size : Int)) = false := decide_eq_false d
    go_enter Tryz.func132, Tryz.ntmps132
    go_wp2
    go_quiet (fail)
    go_wp2
    go_ret
    exact ⟨rfl, below_drawn (Below.refl _ _) _⟩

theorem ext_bs (s : ByteArray) (i j : Nat) : s.extract i j = bs (((un s).take j).drop i) := by rw [← un_extract, bs_un]
theorem ext_end (s : ByteArray) (i : Nat) : s.extract i s.size = bs ((un s).drop i) := by rw [ext_bs, List.take_of_length_le (by rw [un_length]; omega)]
theorem no10 {l : Ln} (h : Lib.indexByte l 10 = -1) : 10 ∉ l := fun hm => by
  obtain ⟨i, hi, hx⟩ := List.getElem_of_mem hm
  exact Lib.indexByte_none h i (by rw [List.getElem?_eq_getElem hi, hx])
theorem yes10 {l : Ln} {k : Nat} (h : Lib.indexByte l 10 = k) : l[k]? = some 10 ∧ 10 ∉ l.take k := by
  obtain ⟨h1, h2⟩ := Lib.indexByte_some h
  refine ⟨h1, fun hm => ?_⟩
  obtain ⟨i, hi, hx⟩ := List.getElem_of_mem hm
  rw [List.length_take] at hi
  refine h2 i (by omega) ?_
  rw [List.getElem_take] at hx
  rw [List.getElem?_eq_getElem (by omega), hx]
/-- What is taken up to the next byte 0a, and where the reader stands then. -/
def upTo (s : Ln) (p : Nat) : Ln × Nat := if 10 ∈ s.drop p then ((s.drop p).takeWhile (· != 10), p + ((s.drop p).takeWhile (· != 10)).length + 1) else (s.drop p, s.length)
theorem takeWhile_at {l : Ln} {k : Nat} (h1 : l[k]? = some 10) (h2 : 10 ∉ l.take k) : l.takeWhile (· != 10) = l.take k := by
  induction l generalizing k with
  | nil => simp at h1
  | cons b l ih =>
    cases k with
    | zero => simp at h1; subst h1; rfl
    | succ k =>
      rw [List.take_succ_cons] at h2
      have hb : b ≠ 10 := fun e => h2 (by rw [e]; exact List.mem_cons_self)
      rw [List.takeWhile_cons_of_pos (by simp [hb]), List.take_succ_cons, ih (by simpa using h1) (fun h => h2 (List.mem_cons_of_mem _ h))]
theorem upTo_no {s : Ln} {p : Nat} (h : Lib.indexByte (s.drop p) 10 = -1) : upTo s p = (s.drop p, s.length) := by
  unfold upTo; rw [if_neg (no10 h)]
theorem upTo_yes {s : Ln} {p k : Nat} (h : Lib.indexByte (s.drop p) 10 = k) : upTo s p = ((s.drop p).take k, p + k + 1) := by
  obtain ⟨h1, h2⟩ := yes10 h
  have hk := (List.getElem?_eq_some_iff.1 h1).1
  unfold upTo
  rw [if_pos (List.mem_of_getElem? h1), takeWhile_at h1 h2, List.length_take, Nat.min_eq_left (by omega)]
theorem Stands.up {s : Ln} {p c : Nat} (h : Stands s p c) (hp : p < s.length) : (cutL s)[c]? = some (trimR (upTo s p).1) ∧ Stands s (upTo s p).2 (c + 1) := by
  rcases Int.lt_or_le (Lib.indexByte (s.drop p) 10) 0 with hn | hn
  · have := Lib.indexByte_ge (s.drop p) 10
    have e : Lib.indexByte (s.drop p) 10 = -1 := by omega
    rw [upTo_no e]
    exact h.last hp (no10 e)
  · obtain ⟨k, e⟩ := Int.eq_ofNat_of_zero_le hn
    rw [upTo_yes e]
    exact h.next (yes10 e).1 (yes10 e).2
theorem upTo_le (s : Ln) (p : Nat) (h : p ≤ s.length) : (upTo s p).2 ≤ s.length ∧ (upTo s p).1.length ≤ s.length := by
  rcases Int.lt_or_le (Lib.indexByte (s.drop p) 10) 0 with hn | hn
  · have := Lib.indexByte_ge (s.drop p) 10
    have e : Lib.indexByte (s.drop p) 10 = -1 := by omega
    rw [upTo_no e]
    exact ⟨Nat.le_refl _, by simp⟩
  · obtain ⟨k, e⟩ := Int.eq_ofNat_of_zero_le hn
    rw [upTo_yes e]
    have := (List.getElem?_eq_some_iff.1 (yes10 e).1).1
    rw [List.length_drop] at this
    refine ⟨by omega, ?_⟩
    simp; omega
set_option maxRecDepth 100000 in
theorem takeUpTo_p (B : Nat) (s : ByteArray) (p c : Nat) (w : World) (h : Rd w B s p c) (hp : p ≤ s.size) (hs : s.size ≤ 1099511627776) : Calls Tryz.prog 134 #[ptr B, .int .u8 10] w fun e w' => e = .returned (.string (bs (upTo (un s) p).1)) ∧ Rd w' B s (upTo (un s) p).2 c ∧ Oth B w w' := by
  have c0 := h.cell (i := 0) rfl
  have c1 := h.cell (i := 1) rfl
  have d0 : (0 : Int) ≤ (p : Int) := by omega
  have d1 : (p : Int) ≤ (s.size : Int) := by omega
  have HX := ext_end s p
  have hsz : (bs ((un s).drop p)).size = s.size - p := by rw [size_bs, List.length_drop, un_length]
  have hI := fun W => Tryz.strings_IndexByte (bs ((un s).drop p)) 10 W
  have eI : (Lib.indexByte (bs ((un s).drop p)).data.toList (10 : Int).toNat.toUInt8) = Lib.indexByte ((un s).drop p) 10 := by rw [show (bs ((un s).drop p)).data.toList = (un s).drop p from un_bs _]; rfl
  rw [eI] at hI
  have hge := Lib.indexByte_ge ((un s).drop p) 10
  generalize hG : Lib.indexByte ((un s).drop p) 10 = G at *
  rcases Int.lt_or_le G 0 with hn | hn
  · have e1 : G = -1 := by omega
    subst e1
    rw [upTo_no hG, un_length]
    have c2 := h.frozen 1
    go_enter Tryz.func134, Tryz.ntmps134
    go_wp2
    go_quiet (fail)
    go_wp2_with (go_at_call 167; refine (hI _).mono ?_; rintro e w1 ⟨rfl, rfl⟩)
    go_ret
    exact ⟨rfl, Lies.set (Lies.drew h _) _, Oth.trans (Oth.of (below_drawn (Below.refl _ _) _)) (Oth.set B 1 _ _)⟩
  · obtain ⟨k, rfl⟩ := Int.eq_ofNat_of_zero_le hn
    rw [upTo_yes hG]
    have hk := (List.getElem?_eq_some_iff.1 (yes10 hG).1).1
    rw [List.length_drop, un_length] at hk
    have c2 := h.frozen 1
    have d2 : (k : Int) ≤ ((bs ((un s).drop p)).size : Int) := by rw [hsz]; omega
    have d3 : (0 : Int) ≤ (k : Int) := by omega
    have HY : (bs ((un s).drop p)).extract 0 k = bs (((un s).drop p).take k) := by rw [ext_bs, un_bs]; rfl
    go_enter Tryz.func134, Tryz.ntmps134
    go_wp2
    go_quiet (fail)
    go_wp2_with (go_at_call 167; refine (hI _).mono ?_; rintro e w1 ⟨rfl, rfl⟩)
    go_ret
    exact ⟨rfl, Lies.set (Lies.drew h _) _, Oth.trans (Oth.of (below_drawn (Below.refl _ _) _)) (Oth.set B 1 _ _)⟩

theorem trimR_le (x : Ln) : (trimR x).length ≤ x.length := by
  unfold trimR
  rw [List.length_reverse]
  exact Nat.le_trans ((List.dropWhile_sublist _).length_le) (by rw [List.length_reverse]; exact Nat.le_refl _)
theorem results_row_tmp {P : Program} {fn : Func} {u p : Tmp} {ty : TypeId} (h : fn.results = #[.cell p ty, .tmp u]) (tmps : Array Value) (w : World) (g : Nat) (t : TypeId) (cs : Array Value) (fr : Nat × Nat) (d : TypeDesc)
    (hp : tmps.getD p undef = .pointer (some ⟨g, 0, none⟩)) (hg : w.heap[g]? = some (.cells cs t fr))
    (hu : P.underlying ty = some d) (hd : (match d with | .struct _ | .array _ _ => true | _ => false) = true) (hi : (P.info? ty).map (·.size) = some cs.size) :
    (results fn tmps).run P w = .ok (.tuple #[.agg cs, tmps.getD u undef]) w := by
  have hp' : tmps[p]?.getD undef = .pointer (some ⟨g, 0, none⟩) := by simpa using hp
  simp [results, h, hp', asAddr, run_loadVar_row w g t ty cs fr d hg hu hd hi]
theorem below_setRow' {B : Nat} {a w : World} (h : Below B a w) {g : Nat} (hg : B ≤ g) (cs : Array Value) : Below B a (w.setRow g cs) := h.trans ⟨rfl, rfl, rfl, by simp [World.setRow], fun k hk => setRow_other w g k cs (by omega)⟩
theorem lies_setRow {W : World} {b : Nat} {t : TypeId} {cur : Array Value} (h : Lies W b t cur) (cs : Array Value) : Lies (W.setRow b cs) b t cs := setRow_heap W b cur cs t (0, 0) h
theorem lies_setRow' {W : World} {b g : Nat} {t : TypeId} {cur : Array Value} (h : Lies W b t cur) (hn : b ≠ g) (cs : Array Value) : Lies (W.setRow g cs) b t cur := (setRow_other W g b cs hn).trans h
theorem lies_set' {W : World} {b g i : Nat} {t : TypeId} {cur : Array Value} (h : Lies W b t cur) (hn : b ≠ g) (v : Value) : Lies (W.setCell ⟨g, i, none⟩ v) b t cur := (Below.heap_setCell W ⟨g, i, none⟩ v b hn).trans h
/-- A line of the file, as a value. -/
def flC (n : Nat) (x : ByteArray) : Array Value := #[.int .i64 n, .string x]
def flV (n : Nat) (x : ByteArray) : Value := .agg (flC n x)
theorem fl_info : (Tryz.prog.info? 155).map (·.size) = some 2 := by kernel_rfl
theorem fl_one (n : Nat) (x : ByteArray) : (flC n x).all (·.oneCell') = true := by simp [flC, Value.oneCell']
set_option maxRecDepth 100000 in
theorem take_end (B : Nat) (s : ByteArray) (p c : Nat) (w : World) (h : Rd w B s p c) (hp : s.size ≤ p) : Calls Tryz.prog 89 #[ptr B] w fun e w' => e = .returned (.tuple #[flV 0 ⟨#[]⟩, .bool false]) ∧ Below w.heap.size w w' := by
  have hE := fun W (hW : Rd W B s p c) => rended_p B s p c W hW
  rw [decide_eq_true hp] at hE
  have hB0 : Below w.heap.size w (w.alloc (.cells #[.int .i64 0, .string ⟨#[]⟩] 155)) := (Below.refl _ w).alloc (Nat.le_refl _) _
  have hr := h.alloc (.cells #[.int .i64 0, .string ⟨#[]⟩] 155)
  have hL0 := Lies.new w 155 #[.int .i64 0, .string ⟨#[]⟩]
  go_enter Tryz.func89, Tryz.ntmps89
  go_wp2_with (go_at_call 132; refine (hE _ hr).mono ?_)
  rintro e w1 ⟨rfl, b1⟩
  have hL := hL0.below b1
  have hB1 := below_join hB0 b1
  go_wp2_with (refine wpList_store_row rfl 155 (.tmp 2) (.tmp 8) rfl w.heap.size (flC 0 ⟨#[]⟩) rfl rfl 155 _ hL fl_info rfl (fl_one _ _) ?_)
  refine bodyPost_ret (results_row_tmp rfl _ _ w.heap.size 155 (flC 0 ⟨#[]⟩) (0, 0) _ rfl (lies_setRow hL _) Tryz.underlying155 rfl fl_info) rfl ?_
  exact ⟨rfl, below_setRow' hB1 (Nat.le_refl _) _⟩
theorem trimR1_p (x : Ln) (w : World) (hs : x.length ≤ 1099511627776) : Calls Tryz.prog 133 #[.string (bs x), .string ⟨#[13]⟩] w fun e w' => e = .returned (.string (bs (trimR x))) ∧ w' = w := by
  have := Tryz.strings_TrimRight_one (bs x) 13 (by decide) w (by rw [size_bs]; omega)
  rwa [show (bs x).data.toList = x from un_bs x] at this
set_option maxRecDepth 100000 in
set_option maxHeartbeats 1000000 in
theorem take_some (B : Nat) (s : ByteArray) (p c : Nat) (w : World) (h : Rd w B s p c) (hp : p < s.size) (hs : s.size ≤ 1099511627776) (hc : c ≤ 1099511627776) : Calls Tryz.prog 89 #[ptr B] w fun e w' => e = .returned (.tuple #[flV (c + 1) (bs (trimR (upTo (un s) p).1)), .bool true]) ∧ Rd w' B s (upTo (un s) p).2 (c + 1) ∧ Oth B w w' := by
  have hE := fun W (hW : Rd W B s p c) => rended_p B s p c W hW
  rw [decide_eq_false (by omega : ¬ s.size ≤ p)] at hE
  have hup := upTo_le (un s) p (by rw [un_length]; omega)
  rw [un_length] at hup
  have hT := fun W => trimR1_p (upTo (un s) p).1 W (by omega)
  have hU := fun W (hW : Rd W B s p (c + 1)) => takeUpTo_p B s p (c + 1) W hW (by omega) hs
  have hBw : B < w.heap.size := h.lt
  have hB0 : Below w.heap.size w (w.alloc (.cells #[.int .i64 0, .string ⟨#[]⟩] 155)) := (Below.refl _ w).alloc (Nat.le_refl _) _
  have hr := h.alloc (.cells #[.int .i64 0, .string ⟨#[]⟩] 155)
  have hL0 := Lies.new w 155 #[.int .i64 0, .string ⟨#[]⟩]
  go_enter Tryz.func89, Tryz.ntmps89
  go_wp2_with (go_at_call 132; refine (hE _ hr).mono ?_)
  rintro e w1 ⟨rfl, b1⟩
  have hL := hL0.below b1
  have hr1 := Rd.below hr b1
  have hB1 := below_join hB0 b1
  have c2 := Lies.cell hr1 (i := 2) rfl
  have f2 := Lies.frozen hr1 2
  have hr2 : Rd (w1.setCell ⟨B, 2, none⟩ (.int .i64 ((c : Int) + 1))) B s p (c + 1) := Lies.set hr1 _
  have hL2 : Lies (w1.setCell ⟨B, 2, none⟩ (.int .i64 ((c : Int) + 1))) w.heap.size 155 #[.int .i64 0, .string ⟨#[]⟩] := (Oth.set B 2 w1 _).lies hL (by omega)
  have hO2 : Oth B w (w1.setCell ⟨B, 2, none⟩ (.int .i64 ((c : Int) + 1))) := (Oth.of hB1).trans (Oth.set B 2 w1 _)
  have hc2 := Lies.cell hr2 (i := 2) rfl
  go_wp2
  generalize hW2 : w1.setCell ⟨B, 2, none⟩ (.int .i64 ((c : Int) + 1)) = w2 at *
  have hr2' : Rd w2.drew B s p (c + 1) := hr2
  have hL2' : Lies w2.drew w.heap.size 155 #[.int .i64 0, .string ⟨#[]⟩] := hL2
  have hO2' : Oth B w w2.drew := hO2.trans (Oth.of ((Below.refl _ _).drew))
  have hc2' := Lies.cell hr2' (i := 2) rfl
  go_region_held3 (fun W => W.cell? ⟨B, 2, none⟩ = some (.int .i64 ((c : Int) + 1)))
    (first | exact hc2' | exact hc3 | exact Lies.cell (lies_set' (lies_set' hr3 (by omega) _) (by omega) _) (i := 2) rfl | go_keep)
    (first
    | (go_at_call 134; refine (hU _ hr2').mono ?_; rintro e w3 ⟨rfl, hr3, o3⟩; have hc3 := Lies.cell hr3 (i := 2) rfl; have hL3 := o3.lies hL2' (by omega); have l0 := hL3.cell (i := 0) rfl; have l1 := hL3.cell (i := 1) rfl; have f0 := hL3.frozen 0; have f1 := hL3.frozen 1)
    | (go_at_call 133; refine (hT _).mono ?_; rintro e w4 ⟨rfl, rfl⟩))
  have hL5 := Lies.set (i := 1) (Lies.set (i := 0) hL3 (.int .i64 ((c : Int) + 1))) (.string (bs (trimR (upTo (un s) p).1)))
  have hne : B ≠ w.heap.size := by omega
  have hr5 := lies_set' (i := 1) (lies_set' (i := 0) hr3 hne (.int .i64 ((c : Int) + 1))) hne (.string (bs (trimR (upTo (un s) p).1)))
  have hO5 : Oth B w ((w4.setCell ⟨w.heap.size, 0, none⟩ (.int .i64 ((c : Int) + 1))).setCell ⟨w.heap.size, 1, none⟩ (.string (bs (trimR (upTo (un s) p).1)))) := by
    have o := hO2'.trans o3
    exact ⟨o.os, o.tape, o.output, by simpa using o.size, fun k h1 h2 => (Below.heap_setCell _ _ _ k (by simp; omega)).trans ((Below.heap_setCell _ _ _ k (by simp; omega)).trans (o.block k h1 h2))⟩
  go_wp2
  refine bodyPost_ret (results_row_tmp rfl _ _ w.heap.size 155 (flC (c + 1) (bs (trimR (upTo (un s) p).1))) (0, 0) _ rfl hL5 Tryz.underlying155 rfl fl_info) rfl ?_
  exact ⟨rfl, hr5, hO5⟩
/-- What the next line is, and where the reader stands then. -/
theorem take_at (B : Nat) (s : ByteArray) (p c : Nat) (w : World) (h : Rd w B s p c) (hA : Stands (un s) p c) (x : Ln) (hx : (cutL (un s))[c]? = some x) (hs : s.size ≤ 1099511627776) (hc : c ≤ 1099511627776) : Calls Tryz.prog 89 #[ptr B] w fun e w' => e = .returned (.tuple #[flV (c + 1) (bs x), .bool true]) ∧ ∃ q, Rd w' B s q (c + 1) ∧ Stands (un s) q (c + 1) ∧ Oth B w w' := by
  have hp : p < s.size := by
    rcases Nat.lt_or_ge p s.size with h1 | h1
    · exact h1
    · rw [hA.done (by rw [un_length]; exact h1)] at hx; cases hx
  obtain ⟨e1, e2⟩ := hA.up (by rw [un_length]; exact hp)
  rw [hx] at e1
  have e3 := Option.some.inj e1
  refine (take_some B s p c w h hp hs hc).mono ?_
  rintro e w' ⟨rfl, h1, h2⟩
  rw [← e3]
  exact ⟨rfl, _, h1, e2, h2⟩
theorem take_no (B : Nat) (s : ByteArray) (p c : Nat) (w : World) (h : Rd w B s p c) (hA : Stands (un s) p c) (hx : (cutL (un s))[c]? = none) : Calls Tryz.prog 89 #[ptr B] w fun e w' => e = .returned (.tuple #[flV 0 ⟨#[]⟩, .bool false]) ∧ Below w.heap.size w w' := by
  refine take_end B s p c w h ?_
  rcases Nat.lt_or_ge p s.size with h1 | h1
  · obtain ⟨x, h2⟩ := hA.has (by rw [un_length]; exact h1)
    rw [hx] at h2; cases h2
  · exact h1
end Go.Proofs.YtjgijbeedgggdaaGreatDoor
