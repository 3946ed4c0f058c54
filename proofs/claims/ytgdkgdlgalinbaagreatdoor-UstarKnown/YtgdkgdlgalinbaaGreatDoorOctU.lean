/- Package ustar's octal, putNumber and putSum. -/
import Derived.Test.YtgdkgdlgalinbaaGreatDoorFmtU
import Derived.Test.YtgdkgdlgalinbaaGreatDoorSumU
import Derived.Test.YtgdkgdlgalinbaaGreatDoorShU
namespace Go.Proofs.YtgdkgdlgalinbaaGreatDoor
open Go Go.RowKit

theorem ZAt.lt {w : World} (h : ZAt w) : 7 < w.heap.size := by
  rcases Nat.lt_or_ge 7 w.heap.size with h1 | h1
  · exact h1
  · unfold ZAt at h; simp [World.cell?, Array.getElem?_eq_none h1] at h
theorem ZAt.below {w w' : World} (h : ZAt w) (hb : Below w.heap.size w w') : ZAt w' := (hb.cell (p := ⟨7, 7, none⟩) h.lt).trans h
theorem ZAt.drew {w : World} (h : ZAt w) (d : Nat) : ZAt (w.drewN d) := h
theorem ZAt.turned {b : Nat} {w w' : World} (h : ZAt w) (k : Turned b w w') (hne : b ≠ 7) : ZAt w' := by
  have e := k.block 7 h.lt (fun e => hne (Option.some.inj e).symm)
  unfold ZAt at h ⊢
  simp only [World.cell?, e] at h ⊢
  exact h
theorem octal_p (S : Shelf5) (k u : Nat) (hk : k ≤ 11) (hu : u < 8 ^ (k + 1)) (w : World) (hz : ZAt w) : Calls Tryz.prog 42 #[.int .i64 u, .int .i64 ((k + 1 : Nat) : Int)] w fun e w' => e = .returned (.string (bs (octD u (k + 1)))) ∧ Below w.heap.size w w' := by
  have hu12 : u < 8 ^ 12 := Nat.lt_of_lt_of_le hu (Nat.pow_le_pow_right (by decide) (by omega))
  have hf := format_p u hu12 w hz
  have hl := octM_length k u hu
  have hp := octM_pad k u hu
  obtain ⟨l, hm⟩ : ∃ l, octM u = l := ⟨_, rfl⟩
  rw [hm] at hf hl hp
  obtain ⟨n, hn⟩ : ∃ n, l.length = n := ⟨_, rfl⟩
  have hsz : (bs l).size = n := by rw [size_bs]; exact hn
  rw [hn] at hp hl
  have HE : Hid (bs (List.replicate (k + 1 - n) (dg 0)) ++ bs l = bs (octD u (k + 1))) := by
    unfold Hid; rw [← hp]; apply un_inj; rw [un_append, un_bs, un_bs, un_bs]
  have em : max (0 : Int) (((k + 1 : Nat) : Int) - (n : Int)) = ((k + 1 - n : Nat) : Int) := by omega
  have hrep := fun W => S.rep (k + 1 - n) W (by omega)
  obtain ⟨c, hc⟩ : ∃ c, k + 1 - n = c := ⟨_, rfl⟩
  rw [hc] at HE em hrep
  have hc2 : c + n = k + 1 := by omega
  have hR : (bs (List.replicate c (dg 0))).size = c := by rw [size_bs, List.length_replicate]
  generalize bs (List.replicate c (dg 0)) = R at *
  generalize bs l = L at *
  clear hu hu12 hp hm S hc
  go_enter Tryz.func42, Tryz.ntmps42
  go_wp2_with (go_at_call 54; refine hf.mono ?_; rintro e w1 ⟨rfl, b1⟩)
  · rw [show (k : Int) + 1 - (n : Int) = (c : Int) by omega]
    refine (hrep _).mono ?_
    rintro e w2 ⟨rfl, b2⟩
    go_wp2
    go_ret
    exact ⟨by rw [← HE.out]; rfl, below_join b1 b2⟩
  · obtain rfl : c = 0 := by omega
    refine (hrep _).mono ?_
    rintro e w2 ⟨rfl, b2⟩
    go_wp2
    go_ret
    exact ⟨by rw [← HE.out]; rfl, below_join b1 b2⟩

/-- What the walks ask of the world. -/
structure Env (w : World) : Prop where
  tab : BTab w
  z : ZAt w
  gl : 8 ≤ w.heap.size
theorem Env.below {w w' : World} (h : Env w) (hb : Below w.heap.size w w') : Env w' := ⟨h.tab.below hb, h.z.below hb, Nat.le_trans h.gl hb.size⟩
theorem Env.drew {w : World} (h : Env w) (d : Nat) : Env (w.drewN d) := ⟨h.tab, h.z, h.gl⟩
theorem Env.turned {b : Nat} {w w' : World} (h : Env w) (k : Turned b w w') (hb : 8 ≤ b) : Env w' :=
  ⟨h.tab.turned k (fun e => by rw [e] at hb; exact absurd hb (by decide)), h.z.turned k (fun e => by rw [e] at hb; exact absurd hb (by decide)), Nat.le_trans h.gl k.size⟩
theorem copy_lies (w : World) (b o dLen dCap n : Nat) (s : ByteArray) (cs : List UInt8) (t : TypeId) (hL : Lies w b t (bcs cs)) (hn : Nat.min s.size dLen = n) (ho : o + dLen ≤ cs.length) (ty : TypeId) :
    (Builtin.copy_ #[44, 9] ty #[.slice (some ⟨b, o, none⟩) dLen dCap, .string s]).run Tryz.prog w = .ok (.int .i64 n) (w.setCells b o (Lib.byteCells ((un s).take n))) ∧
    Lies (w.setCells b o (Lib.byteCells ((un s).take n))) b t (bcs (putB cs o ((un s).take n))) := by
  have hn2 : n ≤ s.size ∧ n ≤ dLen := by
    have e : Nat.min s.size dLen = min s.size dLen := rfl
    omega
  refine ⟨run_copy_str w 44 9 ty 5 b o dLen dCap n s Tryz.underlying44 info_byte hn (fun j hj => by rw [hL.cell (bcs_get cs (o + j) (by omega))]; rfl) (fun j hj => hL.frozen _), ?_⟩
  have h2 := Lies.cells (Lib.byteCells ((un s).take n)) o hL (by rw [Lib.byteCells_length, bcs_size, List.length_take, un_length]; omega)
  rw [bcs_put] at h2
  exact h2
set_option maxRecDepth 100000 in
/-- A number is written into a field. -/
theorem putNumber_p (S : Shelf5) (f k : Nat) (hf : f < 16) (hr : rm f = k + 2) (hk : k ≤ 10) (b u : Nat) (hu : u < 8 ^ (k + 1)) (cs : List UInt8) (w : World) (hc : cs.length = 512) (hL : Lies w b 59 (bcs cs)) (hE : Env w) :
    Calls Tryz.prog 23 #[.pointer (some ⟨b, 0, none⟩), .int .i64 f, .int .i64 u] w fun e w' => e = .returned (.tuple #[]) ∧ Lies w' b 59 (bcs (putB cs (bg f) (octD u (k + 1)))) ∧ Turned b w w' := by
  have h1 := bg_lt f hf
  have h2 := bg_le (f + 1) (by omega)
  have h3 : bg f + rm f ≤ 512 := by unfold rm; omega
  have hbt := bytes_p f hf b w hE.tab
  have hrt := fun d => room_p f hf (w.drewN d) hE.tab
  have hoc := fun d => octal_p S k u (by omega) hu (w.drewN d) hE.z
  have hol := octD_length (k + 1) u
  have hsz : (bs (octD u (k + 1))).size = k + 1 := by rw [size_bs, hol]
  have hn : Nat.min (bs (octD u (k + 1))).size (rm f) = k + 1 := by rw [hsz, hr]; exact Nat.min_eq_left (by omega)
  have hcp := fun (W : World) (hW : Lies W b 59 (bcs cs)) => copy_lies W b (bg f) (rm f) (512 - bg f) (k + 1) (bs (octD u (k + 1))) cs 59 hW hn (by omega) 3
  have ht : (un (bs (octD u (k + 1)))).take (k + 1) = octD u (k + 1) := by rw [un_bs, List.take_of_length_le (by omega)]
  rw [ht] at hcp
  rw [hr] at hbt hrt hcp
  have HL : Hid (Lies w b 59 (bcs cs)) := hL
  have HC : Hid _ := hcp
  clear hcp hn hsz hL ht h1 h2 h3 hr
  generalize octD u (k + 1) = D at *
  generalize bg f = x at *
  go_enter Tryz.func23, Tryz.ntmps23
  go_wp2_with fail
  refine hbt.mono ?_
  rintro e w1 ⟨rfl, d, rfl⟩
  go_wp2_with fail
  refine (hrt d).mono ?_
  rintro e w2 ⟨rfl, d2, rfl⟩
  go_wp2_with fail
  rw [show (k : Int) + 2 - 1 = ((k + 1 : Nat) : Int) by omega]
  refine (hoc (d + d2)).mono ?_
  rintro e w3 ⟨rfl, b3⟩
  have L3 := (HL.out.drew (d + d2)).below b3
  obtain ⟨r3, l3⟩ := HC.out w3 L3
  have t3 : Turned b w (w3.setCells b x (Lib.byteCells D)) := ((Turned.drew b w (d + d2)).trans (Turned.of b3)).trans (Turned.cells b _ _ _)
  have HL3 : Hid _ := l3
  have HT3 : Hid _ := t3
  clear l3 t3 L3
  go_wp2_with fail
  go_end0
  exact ⟨rfl, HL3.out, HT3.out⟩
set_option maxRecDepth 100000 in
/-- The sum is written. -/
theorem putSum_p (S : Shelf5) (b : Nat) (cs : List UInt8) (w : World) (hc : cs.length = 512) (hL : Lies w b 59 (bcs cs)) (hE : Env w) :
    Calls Tryz.prog 24 #[.pointer (some ⟨b, 0, none⟩)] w fun e w' => e = .returned (.tuple #[]) ∧ Lies w' b 59 (bcs (putB cs 148 (octD (sumB cs) 6 ++ [0, 32]))) ∧ Turned b w w' := by
  have hbt := bytes_p 6 (by omega) b w hE.tab
  have hsu := fun d => sum_p b cs (w.drewN d) hc (hL.drew d) hE.tab
  have hle := sumTo_le cs 512
  have hs6 : sumB cs < 8 ^ (5 + 1) := by unfold sumB; omega
  have hoc := fun d => octal_p S 5 (sumB cs) (by omega) hs6 (w.drewN d) hE.z
  have hol := octD_length 6 (sumB cs)
  have hsz : (bs (octD (sumB cs) 6)).size = 6 := by rw [size_bs, hol]
  have hap : bs (octD (sumB cs) 6) ++ ⟨#[0, 32]⟩ = bs (octD (sumB cs) 6 ++ [0, 32]) := by apply un_inj; rw [un_append, un_bs, un_bs]; rfl
  have hn : Nat.min (bs (octD (sumB cs) 6 ++ [0, 32])).size 8 = 8 := by rw [size_bs, List.length_append, hol]; rfl
  have hcp := fun (W : World) (hW : Lies W b 59 (bcs cs)) => copy_lies W b 148 8 364 8 (bs (octD (sumB cs) 6 ++ [0, 32])) cs 59 hW hn (by omega) 3
  have ht : (un (bs (octD (sumB cs) 6 ++ [0, 32]))).take 8 = octD (sumB cs) 6 ++ [0, 32] := by rw [un_bs, List.take_of_length_le (by rw [List.length_append, hol]; exact Nat.le_refl _)]
  rw [ht] at hcp
  have HL : Hid (Lies w b 59 (bcs cs)) := hL
  have HC : Hid _ := hcp
  clear hcp hn hL ht hle hs6
  rw [show bg 6 = 148 from rfl, show rm 6 = 8 from rfl, show 512 - 148 = 364 from rfl] at hbt
  generalize octD (sumB cs) 6 ++ [0, 32] = D at *
  generalize sumB cs = u at *
  generalize bs (octD u 6) = O at *
  go_enter Tryz.func24, Tryz.ntmps24
  go_wp2_with fail
  refine hbt.mono ?_
  rintro e w1 ⟨rfl, d, rfl⟩
  go_wp2_with fail
  refine (hsu d).mono ?_
  rintro e w2 ⟨rfl, d2, rfl⟩
  go_wp2_with fail
  refine (hoc (d + d2)).mono ?_
  rintro e w3 ⟨rfl, b3⟩
  have L3 := (HL.out.drew (d + d2)).below b3
  obtain ⟨r3, l3⟩ := HC.out w3 L3
  have t3 : Turned b w (w3.setCells b 148 (Lib.byteCells D)) := ((Turned.drew b w (d + d2)).trans (Turned.of b3)).trans (Turned.cells b _ _ _)
  have HL3 : Hid _ := l3
  have HT3 : Hid _ := t3
  clear l3 t3 L3
  go_wp2_with fail
  go_end0
  exact ⟨rfl, HL3.out, HT3.out⟩
end Go.Proofs.YtgdkgdlgalinbaaGreatDoor
