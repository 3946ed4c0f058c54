/- The program's directives. -/
import Derived.Test.YtjgijbeedgggdaaGreatDoorDirW
import Derived.Test.YtjgijbeedgggdaaGreatDoorFault
namespace Go.Proofs.YtjgijbeedgggdaaGreatDoor
open Go Go.RowKit

/-- What stands between the rounds of directives. -/
def DI (f : List Ln) (c : Nat) (esc : UInt8) (fst : Bool) : Prop := (c = 0 ∧ fst = true ∧ esc = 92) ∨ (∃ x a, c = 1 ∧ fst = false ∧ f[0]? = some x ∧ dirAt x = some a ∧ trimL (x.drop (a + 1)) = [esc] ∧ (esc = 92 ∨ esc = 96))
theorem dirs_cons {f : List Ln} {x : Ln} (h : f[0]? = some x) : ∃ r, f = x :: r := by
  cases f with
  | nil => cases h
  | cons y r => cases h; exact ⟨r, rfl⟩
theorem dirs_one {x : Ln} {r : List Ln} {a : Nat} {v : UInt8} (h1 : dirAt x = some a) (h2 : trimL (x.drop (a + 1)) = [v]) (h3 : v = 92 ∨ v = 96) : dirsL (x :: r) = (match r with
    | [] => .ok (1, v)
    | y :: _ => if (dirAt y).isSome = true then .error (11, 2, hd y + 1) else .ok (1, v)) := by
  rw [dirsL, h1]
  simp only
  rw [if_pos (by rw [h2]; rcases h3 with rfl | rfl <;> simp), h2]
  rfl
theorem DI.stop {f : List Ln} {c : Nat} {esc : UInt8} {fst : Bool} (h : DI f c esc fst) (hn : ∀ y, f[c]? = some y → dirAt y = none) : dirsL f = .ok (c, esc) := by
  rcases h with ⟨rfl, rfl, rfl⟩ | ⟨x, a, rfl, rfl, h1, h2, h3, h4⟩
  · cases f with
    | nil => rfl
    | cons x r => rw [dirsL, hn x rfl]
  · obtain ⟨r, rfl⟩ := dirs_cons h1
    rw [dirs_one h2 h3 h4]
    cases r with
    | nil => rfl
    | cons y r => simp only; rw [hn y rfl]; rfl
theorem DI.twice {f : List Ln} {c : Nat} {esc : UInt8} {y : Ln} {a : Nat} (h : DI f c esc false) (hy : f[c]? = some y) (hd2 : dirAt y = some a) : dirsL f = .error (11, c + 1, hd y + 1) := by
  rcases h with ⟨_, h, _⟩ | ⟨x, a, rfl, _, h1, h2, h3, h4⟩
  · cases h
  · obtain ⟨r, rfl⟩ := dirs_cons h1
    rw [dirs_one h2 h3 h4]
    cases r with
    | nil => cases hy
    | cons z r => cases hy; simp only; rw [hd2]; rfl
theorem DI.form {f : List Ln} {c : Nat} {esc : UInt8} {y : Ln} {a : Nat} (h : DI f c esc true) (hy : f[c]? = some y) (hd2 : dirAt y = some a) (h1 : trimL (y.drop (a + 1)) ≠ [92]) (h2 : trimL (y.drop (a + 1)) ≠ [96]) : dirsL f = .error (4, c + 1, a + 1) := by
  rcases h with ⟨rfl, _, _⟩ | ⟨_, _, _, h, _⟩
  · obtain ⟨r, rfl⟩ := dirs_cons hy
    rw [dirsL, hd2]
    simp only
    rw [if_neg (by rintro (e | e); exact h1 e; exact h2 e)]
  · cases h
theorem DI.go {f : List Ln} {c : Nat} {esc v : UInt8} {y : Ln} {a : Nat} (h : DI f c esc true) (hy : f[c]? = some y) (hd2 : dirAt y = some a) (h1 : trimL (y.drop (a + 1)) = [v]) (h2 : v = 92 ∨ v = 96) : DI f (c + 1) v false := by
  rcases h with ⟨rfl, _, _⟩ | ⟨_, _, _, h, _⟩
  · exact .inr ⟨y, a, rfl, rfl, hy, hd2, h1, h2⟩
  · cases h
theorem rd_one (s : ByteArray) (q c : Nat) : (#[.string s, .int .i64 q, .int .i64 c] : Array Value).all (·.oneCell') = true := by simp [Value.oneCell']
theorem Oth.trans2 {A B : Nat} {a b c : World} (h : Oth B a b) (k : Oth A b c) (hA : a.heap.size ≤ A) : Oth B a c :=
  ⟨k.os.trans h.os, k.tape.trans h.tape, k.output.trans h.output, Nat.le_trans h.size k.size, fun i hi hn => (k.block i (Nat.lt_of_lt_of_le hi h.size) (by omega)).trans (h.block i hi hn)⟩
theorem Oth.rowB (B : Nat) (w : World) (cs : Array Value) : Oth B w (w.setRow B cs) := ⟨rfl, rfl, rfl, by simp [World.setRow], fun k _ hn => setRow_other w B k cs hn⟩
def msB : Value → Nat
  | .bool true => 1
  | _ => 0
/-- What directives answers. -/
def DirsP (s : ByteArray) (B : Nat) (w : World) (e : Ending) (w' : World) : Prop := Oth B w w' ∧ (match dirsL (cutL (un s)) with
  | .error (no, l, a) => e = .returned (.tuple #[.int .u8 0, fltV no l a])
  | .ok (k, ec) => e = .returned (.tuple #[.int .u8 ec.toNat, .nilIface]) ∧ ∃ q, Rd w' B s q k ∧ Stands (un s) q k)
set_option maxRecDepth 100000 in
set_option maxHeartbeats 2000000 in
theorem directives_p (hE : EqF) (B : Nat) (s : ByteArray) (w : World) (h : Rd w B s 0 0) (hTb : ∀ W, Oth B w W → Tabs W) (hs : s.size ≤ 1099511627776) :
    Calls Tryz.prog 40 #[ptr B] w (DirsP s B w) := by
  have hBw : B < w.heap.size := h.lt
  go_enter Tryz.func40, Tryz.ntmps40
  go_wp2
  go_loopw [4, 5] (fun v4 v5 wr => ∃ c esc fst q, v4 = .int .u8 (esc : UInt8).toNat ∧ v5 = .bool fst ∧ DI (cutL (un s)) c esc fst ∧ Rd wr B s q c ∧ Stands (un s) q c ∧ Oth B w wr) (fun _ v5 _ => msB v5)
  case atStart => exact ⟨0, 92, true, 0, rfl, rfl, .inl ⟨rfl, rfl, rfl⟩, h, Stands.start _, Oth.refl _ _⟩
  case round =>
    obtain ⟨c, esc, fst, q, rfl, rfl, hI, hr1, hA1, hO1⟩ := hrel
    have hs1 := hO1.size
    have hcc : c ≤ 1 := by rcases hI with ⟨h, _⟩ | ⟨_, _, h, _⟩ <;> omega
    have LA := Lies.new wr 93 #[.string ⟨#[]⟩, .int .i64 0, .int .i64 0]
    have LA1 : Rd ((wr.alloc (.cells #[.string ⟨#[]⟩, .int .i64 0, .int .i64 0] 93)).setRow wr.heap.size #[.string s, .int .i64 q, .int .i64 c]) wr.heap.size s q c := lies_setRow LA _
    have hneB : B ≠ wr.heap.size := by omega
    have hr2 := lies_setRow' (Lies.alloc hr1 (.cells #[.string ⟨#[]⟩, .int .i64 0, .int .i64 0] 93)) hneB #[.string s, .int .i64 q, .int .i64 c]
    have hO2 := (hO1.alloc (.cells #[.string ⟨#[]⟩, .int .i64 0, .int .i64 0] 93)).row hO1.size #[.string s, .int .i64 q, .int .i64 c]
    have hT0 := @hTb
    go_wp2_with (first
      | (refine wpList_load_row rfl 93 (.tmp 12) rfl B rfl 93 #[.string s, .int .i64 q, .int .i64 c] (0, 0) _ hr1 Tryz.underlying93 rfl rd_size ?_)
      | (refine wpList_store_row rfl 93 (.tmp 6) (.tmp 13) rfl wr.heap.size #[.string s, .int .i64 q, .int .i64 c] rfl rfl 93 _ LA rd_size rfl (rd_one _ _ _) ?_))
    generalize hw2 : (wr.alloc (.cells #[.string ⟨#[]⟩, .int .i64 0, .int .i64 0] 93)).setRow wr.heap.size #[.string s, .int .i64 q, .int .i64 c] = w2 at *
    cases hx : (cutL (un s))[c]? with
    | none =>
      refine (take_no wr.heap.size s q c w2 LA1 hA1 hx).mono ?_
      rintro e w3 ⟨rfl, b3⟩
      have r3 := Lies.below hr2 b3
      have o3 := hO2.on b3
      have L4 := Lies.new w3 155 #[.int .i64 0, .string ⟨#[]⟩]
      have L4r := lies_setRow L4 (flC 0 ⟨#[]⟩)
      have r4 := lies_setRow' (Lies.alloc r3 (.cells #[.int .i64 0, .string ⟨#[]⟩] 155)) (by have := o3.size; omega : B ≠ w3.heap.size) (flC 0 ⟨#[]⟩)
      have o4 := (o3.alloc (.cells #[.int .i64 0, .string ⟨#[]⟩] 155)).row o3.size (flC 0 ⟨#[]⟩)
      generalize hw4 : (w3.alloc (.cells #[.int .i64 0, .string ⟨#[]⟩] 155)).setRow w3.heap.size (flC 0 ⟨#[]⟩) = w4 at *
      have hDi := directive_none hE 0 ⟨#[]⟩ w4 (fun W hW => hTb W (o4.on hW)) (by decide) (by decide)
      go_wp2_with (first
        | (refine wpList_store_row rfl 155 (.tmp 7) (.tmp 16) rfl w3.heap.size (flC 0 ⟨#[]⟩) rfl rfl 155 _ L4 fl_info rfl (fl_one _ _) ?_; rw [hw4])
        | (refine wpList_load_row rfl 155 (.tmp 7) rfl w3.heap.size rfl 155 (flC 0 ⟨#[]⟩) (0, 0) _ L4r Tryz.underlying155 rfl fl_info ?_))
      refine hDi.mono ?_
      rintro e w5 ⟨rfl, b5⟩
      have L5 := L4r.below b5
      have r5 := Lies.below r4 b5
      have o5 := o4.on b5
      have L6 := Lies.new w5 159 #[.int .i64 0, .int .i64 0, .string ⟨#[]⟩]
      have L6r := lies_setRow L6 (dvC 0 0 ⟨#[]⟩)
      have hne5 : w3.heap.size ≠ w5.heap.size := by have := L5.lt; omega
      have L6l := lies_setRow' (L5.alloc (.cells #[.int .i64 0, .int .i64 0, .string ⟨#[]⟩] 159)) hne5 (dvC 0 0 ⟨#[]⟩)
      have r6 := lies_setRow' (Lies.alloc r5 (.cells #[.int .i64 0, .int .i64 0, .string ⟨#[]⟩] 159)) (by have := o5.size; omega : B ≠ w5.heap.size) (dvC 0 0 ⟨#[]⟩)
      have o6 := (o5.alloc (.cells #[.int .i64 0, .int .i64 0, .string ⟨#[]⟩] 159)).row o5.size (dvC 0 0 ⟨#[]⟩)
      generalize hw6 : (w5.alloc (.cells #[.int .i64 0, .int .i64 0, .string ⟨#[]⟩] 159)).setRow w5.heap.size (dvC 0 0 ⟨#[]⟩) = w6 at *
      go_wp2_with (refine wpList_store_row rfl 159 (.tmp 9) (.tmp 21) rfl w5.heap.size (dvC 0 0 ⟨#[]⟩) rfl rfl 159 _ L6 dv_info rfl (dv_one _ _ _) ?_; rw [hw6])
      go_ret2
      exact ⟨o6, by rw [hI.stop (fun y hy => by rw [hx] at hy; cases hy)]; exact ⟨rfl, q, r6, hA1⟩⟩
    | some y =>
      have hyl : (bs y).size ≤ 1099511627776 := by have := cut_len (un s) y (List.mem_of_getElem? hx); rw [un_length] at this; rw [size_bs]; omega
      refine (take_at wr.heap.size s q c w2 LA1 hA1 y hx hs (by omega)).mono ?_
      rintro e w3 ⟨rfl, q2, a3, hA3, oA⟩
      have r3 := oA.lies hr2 hneB
      have o3 := hO2.trans2 oA hs1
      cases hda : dirAt y with
      | none =>
        have L4 := Lies.new w3 155 #[.int .i64 0, .string ⟨#[]⟩]
        have L4r := lies_setRow L4 (flC (c + 1) (bs y))
        have r4 := lies_setRow' (Lies.alloc r3 (.cells #[.int .i64 0, .string ⟨#[]⟩] 155)) (by have := o3.size; omega : B ≠ w3.heap.size) (flC (c + 1) (bs y))
        have o4 := (o3.alloc (.cells #[.int .i64 0, .string ⟨#[]⟩] 155)).row o3.size (flC (c + 1) (bs y))
        have a4 := lies_setRow' (Lies.alloc a3 (.cells #[.int .i64 0, .string ⟨#[]⟩] 155)) (by have := Lies.lt a3; omega : wr.heap.size ≠ w3.heap.size) (flC (c + 1) (bs y))
        generalize hw4 : (w3.alloc (.cells #[.int .i64 0, .string ⟨#[]⟩] 155)).setRow w3.heap.size (flC (c + 1) (bs y)) = w4 at *
        have hDi := directive_none hE (c + 1) (bs y) w4 (fun W hW => hTb W (o4.on hW)) hyl (by rw [un_bs]; exact hda)
        go_wp2_with (first
          | (refine wpList_store_row rfl 155 (.tmp 7) (.tmp 16) rfl w3.heap.size (flC (c + 1) (bs y)) rfl rfl 155 _ L4 fl_info rfl (fl_one _ _) ?_; rw [hw4])
          | (refine wpList_load_row rfl 155 (.tmp 7) rfl w3.heap.size rfl 155 (flC (c + 1) (bs y)) (0, 0) _ L4r Tryz.underlying155 rfl fl_info ?_))
        refine hDi.mono ?_
        rintro e w5 ⟨rfl, b5⟩
        have L5 := L4r.below b5
        have r5 := Lies.below r4 b5
        have o5 := o4.on b5
        have a5 := Lies.below a4 b5
        have L6 := Lies.new w5 159 #[.int .i64 0, .int .i64 0, .string ⟨#[]⟩]
        have L6r := lies_setRow L6 (dvC 0 0 ⟨#[]⟩)
        have hne5 : w3.heap.size ≠ w5.heap.size := by have := L5.lt; omega
        have L6l := lies_setRow' (L5.alloc (.cells #[.int .i64 0, .int .i64 0, .string ⟨#[]⟩] 159)) hne5 (dvC 0 0 ⟨#[]⟩)
        have r6 := lies_setRow' (Lies.alloc r5 (.cells #[.int .i64 0, .int .i64 0, .string ⟨#[]⟩] 159)) (by have := o5.size; omega : B ≠ w5.heap.size) (dvC 0 0 ⟨#[]⟩)
        have o6 := (o5.alloc (.cells #[.int .i64 0, .int .i64 0, .string ⟨#[]⟩] 159)).row o5.size (dvC 0 0 ⟨#[]⟩)
        have a6 := lies_setRow' (Lies.alloc a5 (.cells #[.int .i64 0, .int .i64 0, .string ⟨#[]⟩] 159)) (by have := Lies.lt a5; omega : wr.heap.size ≠ w5.heap.size) (dvC 0 0 ⟨#[]⟩)
        generalize hw6 : (w5.alloc (.cells #[.int .i64 0, .int .i64 0, .string ⟨#[]⟩] 159)).setRow w5.heap.size (dvC 0 0 ⟨#[]⟩) = w6 at *
        go_wp2_with (refine wpList_store_row rfl 159 (.tmp 9) (.tmp 21) rfl w5.heap.size (dvC 0 0 ⟨#[]⟩) rfl rfl 159 _ L6 dv_info rfl (dv_one _ _ _) ?_; rw [hw6])
        go_ret2
        exact ⟨o6, by rw [hI.stop (fun z hz => by rw [hx] at hz; cases hz; exact hda)]; exact ⟨rfl, q, r6, hA1⟩⟩
      | some a =>
        obtain ⟨VV, hVV⟩ : ∃ VV, bs (trimL (y.drop (a + 1))) = VV := ⟨_, rfl⟩
        have hu : un VV = trimL (y.drop (a + 1)) := by rw [← hVV, un_bs]
        have L4 := Lies.new w3 155 #[.int .i64 0, .string ⟨#[]⟩]
        have L4r := lies_setRow L4 (flC (c + 1) (bs y))
        have r4 := lies_setRow' (Lies.alloc r3 (.cells #[.int .i64 0, .string ⟨#[]⟩] 155)) (by have := o3.size; omega : B ≠ w3.heap.size) (flC (c + 1) (bs y))
        have o4 := (o3.alloc (.cells #[.int .i64 0, .string ⟨#[]⟩] 155)).row o3.size (flC (c + 1) (bs y))
        have a4 := lies_setRow' (Lies.alloc a3 (.cells #[.int .i64 0, .string ⟨#[]⟩] 155)) (by have := Lies.lt a3; omega : wr.heap.size ≠ w3.heap.size) (flC (c + 1) (bs y))
        generalize hw4 : (w3.alloc (.cells #[.int .i64 0, .string ⟨#[]⟩] 155)).setRow w3.heap.size (flC (c + 1) (bs y)) = w4 at *
        have hDi := directive_some hE (c + 1) (bs y) w4 (fun W hW => hTb W (o4.on hW)) hyl a (by rw [un_bs]; exact hda)
        rw [un_bs, hVV] at hDi
        go_wp2_with (first
          | (refine wpList_store_row rfl 155 (.tmp 7) (.tmp 16) rfl w3.heap.size (flC (c + 1) (bs y)) rfl rfl 155 _ L4 fl_info rfl (fl_one _ _) ?_; rw [hw4])
          | (refine wpList_load_row rfl 155 (.tmp 7) rfl w3.heap.size rfl 155 (flC (c + 1) (bs y)) (0, 0) _ L4r Tryz.underlying155 rfl fl_info ?_))
        refine hDi.mono ?_
        rintro e w5 ⟨rfl, b5⟩
        have L5 := L4r.below b5
        have r5 := Lies.below r4 b5
        have o5 := o4.on b5
        have a5 := Lies.below a4 b5
        have L6 := Lies.new w5 159 #[.int .i64 0, .int .i64 0, .string ⟨#[]⟩]
        have L6r := lies_setRow L6 (dvC (hd y + 1) (a + 1) VV)
        have hne5 : w3.heap.size ≠ w5.heap.size := by have := L5.lt; omega
        have L6l := lies_setRow' (L5.alloc (.cells #[.int .i64 0, .int .i64 0, .string ⟨#[]⟩] 159)) hne5 (dvC (hd y + 1) (a + 1) VV)
        have r6 := lies_setRow' (Lies.alloc r5 (.cells #[.int .i64 0, .int .i64 0, .string ⟨#[]⟩] 159)) (by have := o5.size; omega : B ≠ w5.heap.size) (dvC (hd y + 1) (a + 1) VV)
        have o6 := (o5.alloc (.cells #[.int .i64 0, .int .i64 0, .string ⟨#[]⟩] 159)).row o5.size (dvC (hd y + 1) (a + 1) VV)
        have a6 := lies_setRow' (Lies.alloc a5 (.cells #[.int .i64 0, .int .i64 0, .string ⟨#[]⟩] 159)) (by have := Lies.lt a5; omega : wr.heap.size ≠ w5.heap.size) (dvC (hd y + 1) (a + 1) VV)
        generalize hw6 : (w5.alloc (.cells #[.int .i64 0, .int .i64 0, .string ⟨#[]⟩] 159)).setRow w5.heap.size (dvC (hd y + 1) (a + 1) VV) = w6 at *
        have k0 : w6.cell? ⟨w5.heap.size, 0, none⟩ = some (.int .i64 ((hd y : Int) + 1)) := L6r.cell (i := 0) rfl
        have k1 : w6.cell? ⟨w5.heap.size, 1, none⟩ = some (.int .i64 ((a : Int) + 1)) := L6r.cell (i := 1) rfl
        have k2 : w6.cell? ⟨w5.heap.size, 2, none⟩ = some (.string VV) := L6r.cell (i := 2) rfl
        have k3 : w6.cell? ⟨w3.heap.size, 0, none⟩ = some (.int .i64 ((c : Int) + 1)) := L6l.cell (i := 0) rfl
        cases fst with
        | false =>
          go_wp2_with (refine wpList_store_row rfl 159 (.tmp 9) (.tmp 21) rfl w5.heap.size (dvC (hd y + 1) (a + 1) VV) rfl rfl 159 _ L6 dv_info rfl (dv_one _ _ _) ?_; rw [hw6])
          go_quiet (fail)
          go_wp2
          go_ret2
          exact ⟨o6.on (below_drawn (Below.refl _ _) _), by rw [hI.twice hx hda]; rfl⟩
        | true =>
          by_cases hV : trimL (y.drop (a + 1)) = [92]
          · skip
            have e92 : (VV.toList == [92]) = true := by rw [toList_un, hu, hV]; decide
            have hz : (0 : Int) < (VV.size : Int) := by rw [← un_length, hu, hV]; decide
            have hg : VV[0]'(by omega) = 92 := by
              have h1 := un_getElem? VV 0 (by omega)
              rw [hu, hV] at h1
              exact (Option.some.inj h1).symm
            have a7 : Lies w6 wr.heap.size 93 #[.string s, .int .i64 q2, .int .i64 ((c + 1 : Nat) : Int)] := a6
            go_wp2_with (first
              | (refine wpList_store_row rfl 159 (.tmp 9) (.tmp 21) rfl w5.heap.size (dvC (hd y + 1) (a + 1) VV) rfl rfl 159 _ L6 dv_info rfl (dv_one _ _ _) ?_; rw [hw6])
              | (refine wpList_load_row rfl 93 (.tmp 6) rfl wr.heap.size rfl 93 #[.string s, .int .i64 q2, .int .i64 ((c + 1 : Nat) : Int)] (0, 0) _ a7 Tryz.underlying93 rfl rd_size ?_)
              | (refine wpList_store_row rfl 93 (.tmp 56) (.tmp 55) rfl B #[.string s, .int .i64 q2, .int .i64 ((c + 1 : Nat) : Int)] rfl rfl 93 _ r6 rd_size rfl (rd_one _ _ _) ?_))
            go_roundw
            case rel =>
              first
                | exact ⟨c + 1, 92, false, q2, rfl, rfl, hI.go hx hda hV (.inl rfl), lies_setRow r6 _, hA3, o6.trans (Oth.rowB _ _ _)⟩
                | ((repeat apply Exists.intro); refine ⟨?_, rfl⟩; exact ⟨c + 1, 92, false, q2, rfl, rfl, hI.go hx hda hV (.inl rfl), lies_setRow r6 _, hA3, o6.trans (Oth.rowB _ _ _)⟩)
            case measure => exact Nat.zero_lt_one
          · by_cases hV96 : trimL (y.drop (a + 1)) = [96]
            · have hVn := hV
              clear hV
              have hV := hV96
              have e92 : (VV.toList == [92]) = false := by rw [toList_un, hu, hV]; decide
              have e96 : (VV.toList == [96]) = true := by rw [toList_un, hu, hV]; decide
              have hz : (0 : Int) < (VV.size : Int) := by rw [← un_length, hu, hV]; decide
              have hg : VV[0]'(by omega) = 96 := by
                have h1 := un_getElem? VV 0 (by omega)
                rw [hu, hV] at h1
                exact (Option.some.inj h1).symm
              have a7 : Lies w6 wr.heap.size 93 #[.string s, .int .i64 q2, .int .i64 ((c + 1 : Nat) : Int)] := a6
              go_wp2_with (first
                | (refine wpList_store_row rfl 159 (.tmp 9) (.tmp 21) rfl w5.heap.size (dvC (hd y + 1) (a + 1) VV) rfl rfl 159 _ L6 dv_info rfl (dv_one _ _ _) ?_; rw [hw6])
                | (refine wpList_load_row rfl 93 (.tmp 6) rfl wr.heap.size rfl 93 #[.string s, .int .i64 q2, .int .i64 ((c + 1 : Nat) : Int)] (0, 0) _ a7 Tryz.underlying93 rfl rd_size ?_)
                | (refine wpList_store_row rfl 93 (.tmp 56) (.tmp 55) rfl B #[.string s, .int .i64 q2, .int .i64 ((c + 1 : Nat) : Int)] rfl rfl 93 _ r6 rd_size rfl (rd_one _ _ _) ?_))
              go_roundw
              case rel =>
                first
                  | exact ⟨c + 1, 96, false, q2, rfl, rfl, hI.go hx hda hV (.inr rfl), lies_setRow r6 _, hA3, o6.trans (Oth.rowB _ _ _)⟩
                  | ((repeat apply Exists.intro); refine ⟨?_, rfl⟩; exact ⟨c + 1, 96, false, q2, rfl, rfl, hI.go hx hda hV (.inr rfl), lies_setRow r6 _, hA3, o6.trans (Oth.rowB _ _ _)⟩)
              case measure => exact Nat.zero_lt_one
            · have e92 : (VV.toList == [92]) = false := by
                rw [toList_un, hu]; exact beq_false_of_ne hV
              have e96 : (VV.toList == [96]) = false := by
                rw [toList_un, hu]; exact beq_false_of_ne hV96
              go_wp2_with (refine wpList_store_row rfl 159 (.tmp 9) (.tmp 21) rfl w5.heap.size (dvC (hd y + 1) (a + 1) VV) rfl rfl 159 _ L6 dv_info rfl (dv_one _ _ _) ?_; rw [hw6])
              go_quiet (fail)
              go_wp2
              go_ret2
              exact ⟨o6.on (below_drawn (Below.refl _ _) _), by rw [hI.form hx hda hV hV96]; rfl⟩
end Go.Proofs.YtjgijbeedgggdaaGreatDoor
