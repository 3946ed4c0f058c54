/- The closure that takes bits on. -/
import Derived.Test.YtcoinfancoeepabDoorBitM
import Derived.Test.YtcoinfancoeepabDoorBaseU
import Derived.Laws.OwnMore
import Derived.Maps.AppendAt
import Derived.OwnWalk
import Derived.Deep.RegionHeld3
namespace Go.Proofs.YtcoinfancoeepabDoor
open Go Go.RowKit

/-- What is held, how many bits, what is out; B: all blocks below it are others'. -/
structure PutAt (W : World) (B gh gc go : Nat) (held count : Nat) (l : List UInt8) : Prop where
  h : Lies W gh 3 #[.int .i64 held]
  c : Lies W gc 3 #[.int .i64 count]
  o : ∃ v, Lies W go 34 #[v] ∧ W.ownsRow B 5 1 v l.length (Lib.byteCells l)
  n1 : gh ≠ gc
  n2 : gh ≠ go
  n3 : gc ≠ go
  b1 : gh < B
  b2 : gc < B
  b3 : go < B
/-- k bytes go out. -/
def outB (k t : Nat) (l : List UInt8) : List UInt8 := l ++ (List.range k).map fun i => UInt8.ofNat (t / 256 ^ i)
theorem outB_succ (k t : Nat) (l : List UInt8) : outB (k + 1) t l = outB k t l ++ [UInt8.ofNat (t / 256 ^ k)] := by unfold outB; rw [List.range_succ]; simp
theorem outB_length (k t : Nat) (l : List UInt8) : (outB k t l).length = l.length + k := by unfold outB; simp
theorem PutAt.drew {W : World} {B gh gc go held count : Nat} {l : List UInt8} (x : PutAt W B gh gc go held count l) (n : Nat) : PutAt (W.drewN n) B gh gc go held count l :=
  ⟨x.h, x.c, x.o, x.n1, x.n2, x.n3, x.b1, x.b2, x.b3⟩
theorem own_setP {w1 : World} {base e size k N : Nat} {v : Value} {xs : List Value} (u : Value) (h : w1.ownsRow base e size v k xs) (hN : N < base) : (w1.setCell ⟨N, 0, none⟩ u).ownsRow base e size v k xs := by
  refine h.kept (grownBy_setCell' w1 N u) ?_
  rcases h.2 with ⟨rfl, _⟩ | ⟨g, cap, cur, rfl, hg, hgb, _⟩
  · exact .inl rfl
  · exact .inr fun e2 => by simp [Value.ownBlock] at e2; omega
theorem own_geP {W : World} {base e size k : Nat} {v : Value} {xs : List Value} (h : W.ownsRow base e size v k xs) : ∀ j, some j = v.ownBlock → base ≤ j := fun j hj => by
  rcases h.2 with ⟨rfl, _⟩ | ⟨g, cap, cur, rfl, hg, hgb, _⟩
  · cases hj
  · simp [Value.ownBlock] at hj; omega
theorem PutAt.setH {W : World} {B gh gc go held count : Nat} {l : List UInt8} (x : PutAt W B gh gc go held count l) (m : Nat) : PutAt (W.setCell ⟨gh, 0, none⟩ (.int .i64 m)) B gh gc go m count l := by
  obtain ⟨v, ho, hv⟩ := x.o
  exact ⟨x.h.set _, x.c.other _ x.n1, ⟨v, ho.other _ x.n2, own_setP _ hv x.b1⟩, x.n1, x.n2, x.n3, x.b1, x.b2, x.b3⟩
theorem PutAt.setC {W : World} {B gh gc go held count : Nat} {l : List UInt8} (x : PutAt W B gh gc go held count l) (m : Nat) : PutAt (W.setCell ⟨gc, 0, none⟩ (.int .i64 m)) B gh gc go held m l := by
  obtain ⟨v, ho, hv⟩ := x.o
  exact ⟨x.h.other _ (fun e => x.n1 e.symm), x.c.set _, ⟨v, ho.other _ x.n3, own_setP _ hv x.b2⟩, x.n1, x.n2, x.n3, x.b1, x.b2, x.b3⟩
theorem byte_infoP : (Tryd.prog.info? 5).map (fun i => (i.zero, i.size, i.bytes)) = some (some (.int .u8 0), 1, 1) := by kernel_rfl
theorem u8wP (n : Nat) : IntKind.u8.wrap (n : Int) = ((UInt8.ofNat n).toNat : Int) := by
  rw [IntKind.wrap_u8, UInt8.toNat_ofNat']; omega
theorem borP (v b c : Nat) (hv : v < 2 ^ c) (hb : b * 2 ^ c < 9223372036854775808) (hs : v + b * 2 ^ c < 9223372036854775808) : bits .or .i64 (v : Int) ((b * 2 ^ c : Nat) : Int) = ((v + b * 2 ^ c : Nat) : Int) := by
  show IntKind.i64.wrap ((BitVec.ofInt 64 (v : Int) ||| BitVec.ofInt 64 ((b * 2 ^ c : Nat) : Int)).toNat : Int) = _
  rw [BitVec.toNat_or, toNat64 v (by omega), toNat64 _ (by omega)]
  have e : v ||| b * 2 ^ c = v + b * 2 ^ c := by
    rw [Nat.or_comm, Nat.mul_comm b, ← Nat.two_pow_add_eq_or_of_lt hv b]; omega
  rw [e, wrap64 _ (by omega)]
theorem own_some {w1 : World} {B n : Nat} {v : Value} {xs : List Value} (h : w1.ownsRow B 5 1 v (n + 1) xs) : ∃ g cap, v = .slice (some ⟨g, 0, none⟩) (n + 1) cap := by
  rcases h.2 with ⟨_, h0⟩ | ⟨g, cap, cur, rfl, _, _, _⟩
  · omega
  · exact ⟨g, cap, rfl⟩
theorem Lies.belowB {W W2 : World} {B b : Nat} {t : TypeId} {cur : Array Value} (h : Lies W b t cur) (hb : Below B W W2) (hlt : b < B) : Lies W2 b t cur := (hb.block b hlt).trans h
set_option maxRecDepth 100000 in
set_option maxHeartbeats 4000000 in
theorem put_p (B gh gc go held count number n : Nat) (l : List UInt8) (hl : l.length ≤ 1099511627776) (hh : held < 2 ^ count) (hc : count < 8) (hn : n ≤ 16) (hm : number < 2 ^ n) (w : World) (hB : B ≤ w.heap.size) (hP : PutAt w B gh gc go held count l) (N : Nat) (q1 : N ≤ gh) (q2 : N ≤ gc) (q3 : N ≤ go) :
    Calls Tryd.prog 27 #[.int .i64 number, .int .i64 n, .pointer (some ⟨gh, 0, none⟩), .pointer (some ⟨gc, 0, none⟩), .pointer (some ⟨go, 0, none⟩)] w fun e w' => e = .returned (.tuple #[]) ∧
      PutAt w' B gh gc go ((held + number * 2 ^ count) / 256 ^ ((count + n) / 8)) ((count + n) % 8) (outB ((count + n) / 8) (held + number * 2 ^ count) l) ∧ B ≤ w'.heap.size ∧ Below N w w' := by
  obtain ⟨i0, hi, z0, z1, z2⟩ := info_parts byte_infoP
  have c1 : w.cell? ⟨gh, 0, none⟩ = some (.int .i64 held) := hP.h.cell rfl
  have c2 : w.cell? ⟨gc, 0, none⟩ = some (.int .i64 count) := hP.c.cell rfl
  have f1 := hP.h.frozen 0
  have f2 := hP.c.frozen 0
  have p7 : 2 ^ count ≤ 2 ^ 7 := Nat.pow_le_pow_right (by decide) (by omega)
  have p16 : 2 ^ n ≤ 2 ^ 16 := Nat.pow_le_pow_right (by decide) hn
  have hnb : number * 2 ^ count ≤ 65536 * 128 := Nat.mul_le_mul (by omega) p7
  have s1 : IntKind.i64.wrap ((number : Int) * 2 ^ count) = ((number * 2 ^ count : Nat) : Int) := by
    have := wrap64 (number * 2 ^ count) (by omega)
    push_cast at this ⊢; exact this
  have o1 := borP held number count hh (by omega) (by omega)
  have a1 : IntKind.i64.wrap ((count : Int) + (n : Int)) = ((count + n : Nat) : Int) := by rw [wrapZ _ (by omega)]; omega
  have k0 : (0 : Int) ≤ (count : Int) := by omega
  have k1 : (count : Int) ≤ 64 := by omega
  obtain ⟨T, hT⟩ : ∃ x, held + number * 2 ^ count = x := ⟨_, rfl⟩
  have hTb : T ≤ 8500000 := by omega
  rw [hT] at o1
  obtain ⟨CN, hCN⟩ : ∃ x, count + n = x := ⟨_, rfl⟩
  have hCb : CN ≤ 23 := by omega
  rw [hCN] at a1
  have HQ : Hid (∀ W, PutAt W B gh gc go (T / 256 ^ (CN / 8)) (CN % 8) (outB (CN / 8) T l) → PutAt W B gh gc go ((held + number * 2 ^ count) / 256 ^ ((count + n) / 8)) ((count + n) % 8) (outB ((count + n) / 8) (held + number * 2 ^ count) l)) := fun W hW => by rw [hT, hCN]; exact hW
  have HP1 : Hid (PutAt ((w.setCell ⟨gh, 0, none⟩ (.int .i64 T)).setCell ⟨gc, 0, none⟩ (.int .i64 CN)).drew B gh gc go T CN l) := ((hP.setH T).setC CN).drew 1
  have HB1 : Hid (B ≤ ((w.setCell ⟨gh, 0, none⟩ (.int .i64 T)).setCell ⟨gc, 0, none⟩ (.int .i64 CN)).drew.heap.size) := by unfold Hid; simp; exact hB
  have HN1 : Hid (Below N w ((w.setCell ⟨gh, 0, none⟩ (.int .i64 T)).setCell ⟨gc, 0, none⟩ (.int .i64 CN)).drew) := (((Below.refl N w).setCell (p := ⟨gh, 0, none⟩) q1 _).setCell (p := ⟨gc, 0, none⟩) q2 _).drew
  have n1 := hP.n1
  have n2 := hP.n2
  have n3 := hP.n3
  have b1 := hP.b1
  have b2 := hP.b2
  have b3 := hP.b3
  have n1' : gc ≠ gh := fun e => n1 e.symm
  generalize number * 2 ^ count = NB at *
  clear hP hh hm hT hCN p7 p16 hnb hB
  go_enter Tryd.func27, Tryd.ntmps27
  go_wp2
  go_region
  go_wp2
  go_loopw [] (fun wr => ∃ k : Nat, 8 * k ≤ CN ∧ PutAt wr B gh gc go (T / 256 ^ k) (CN - 8 * k) (outB k T l) ∧ B ≤ wr.heap.size ∧ Below N w wr) (fun wr => match wr.cell? ⟨gc, 0, none⟩ with | some (.int _ a) => a.toNat | _ => 0)
  case atStart => exact ⟨0, by omega, by simpa [outB] using HP1.out, HB1.out, HN1.out⟩
  case round =>
    clear c1 c2 f1 f2 HP1 HB1 HN1 s1 o1 a1
    obtain ⟨k, hk, hP, hB, hBN⟩ := hrel
    obtain ⟨v, ho, hv⟩ := hP.o
    have hlen := outB_length k T l
    have hHb : T / 256 ^ k ≤ 8500000 := Nat.le_trans (Nat.div_le_self _ _) hTb
    have HH2 : Hid (T / 256 ^ k / 256 = T / 256 ^ (k + 1)) := by unfold Hid; rw [Nat.div_div_eq_div_mul, Nat.pow_succ]
    have HO2 : Hid (outB (k + 1) T l = outB k T l ++ [UInt8.ofNat (T / 256 ^ k)]) := outB_succ k T l
    have c1 : wr.cell? ⟨gh, 0, none⟩ = some (.int .i64 ((T / 256 ^ k : Nat))) := hP.h.cell rfl
    have c2 : wr.cell? ⟨gc, 0, none⟩ = some (.int .i64 ((CN - 8 * k : Nat))) := hP.c.cell rfl
    have c3 : wr.cell? ⟨go, 0, none⟩ = some v := ho.cell rfl
    have LH := hP.h
    have LC := hP.c
    by_cases h8 : 8 ≤ CN - 8 * k
    · have h8' : (8 : Int) ≤ ((CN - 8 * k : Nat) : Int) := by omega
      have hw8 := u8wP (T / 256 ^ k)
      have d8 : ((T / 256 ^ k : Nat) : Int) / 256 = ((T / 256 ^ k / 256 : Nat) : Int) := by omega
      have sb : IntKind.i64.wrap (((CN - 8 * k : Nat) : Int) - 8) = ((CN - 8 * (k + 1) : Nat) : Int) := by rw [wrapZ _ (by omega)]; omega
      have HM : Hid (wr.cell? ⟨gc, 0, none⟩ = some (.int .i64 ((CN - 8 * k : Nat)))) := c2
      have HLT : Hid (CN - 8 * (k + 1) < CN - 8 * k) := by unfold Hid; omega
      have HK : Hid (8 * (k + 1) ≤ CN) := by unfold Hid; omega
      obtain ⟨C2, hC2⟩ : ∃ x, CN - 8 * (k + 1) = x := ⟨_, rfl⟩
      rw [hC2] at sb HLT
      obtain ⟨C1, hC1⟩ : ∃ x, CN - 8 * k = x := ⟨_, rfl⟩
      rw [hC1] at c2 h8' sb HM HLT LC
      generalize UInt8.ofNat (T / 256 ^ k) = by8 at *
      obtain ⟨H2, hH2⟩ : ∃ x, T / 256 ^ k / 256 = x := ⟨_, rfl⟩
      rw [hH2] at d8 HH2
      generalize T / 256 ^ k = H at *
      generalize outB k T l = L at *
      clear hP h8
      go_wp2_with (at_builtin; refine wpList_append_own _ rfl _ _ 34 rfl B 5 i0 (.int .u8 0) 1 1 Tryd.underlying34 hi z0 z1 z2 rfl (by decide) _ _ _ rfl (hv.alloc _) ⟨wr.heap.size, 0, none⟩ 1 1 [.int .u8 by8.toNat] rfl rfl (cell_one_new _ _ _) (by simp [Value.oneCell']) (by unfold maxLen; omega) (by omega) (by simp; omega) ?_; intro v1 w1 hown1 hgrow1 _; obtain ⟨g2, cap2, rfl⟩ := own_some hown1; have hb1 : Below B wr w1 := ((Below.refl B wr).alloc hB _).grown hgrow1 (by simp; omega) (fun j hj => own_geP hv j hj.symm); have hs1 : wr.heap.size ≤ w1.heap.size := hb1.size; clear hgrow1; have LH1 := LH.belowB hb1 b1; have LC1 := LC.belowB hb1 b2; have LO1 := ho.belowB hb1 b3; have e1 : w1.cell? ⟨gh, 0, none⟩ = some (.int .i64 H) := LH1.cell rfl; have e2 : w1.cell? ⟨gc, 0, none⟩ = some (.int .i64 C1) := LC1.cell rfl; have e3 : w1.cell? ⟨go, 0, none⟩ = some v := LO1.cell rfl; have g1' := LH1.frozen 0; have g2' := LC1.frozen 0; have g3' := LO1.frozen 0)
      have F1 := ((LH1.other (i := 0) (.slice (some ⟨g2, 0, none⟩) (l.length + k + 1) cap2) (fun e => n2 e.symm)).set (i := 0) (.int .i64 H2)).other (b := gc) (i := 0) (.int .i64 C2) n1'
      have F2 := ((LC1.other (i := 0) (.slice (some ⟨g2, 0, none⟩) (l.length + k + 1) cap2) (fun e => n3 e.symm)).other (b := gh) (i := 0) (.int .i64 H2) n1).set (i := 0) (.int .i64 C2)
      have F3 := ((LO1.set (i := 0) (.slice (some ⟨g2, 0, none⟩) (l.length + k + 1) cap2)).other (b := gh) (i := 0) (.int .i64 H2) n2).other (b := gc) (i := 0) (.int .i64 C2) n3
      have F4 := own_setP (N := gc) (.int .i64 C2) (own_setP (N := gh) (.int .i64 H2) (own_setP (N := go) (.slice (some ⟨g2, 0, none⟩) (l.length + k + 1) cap2) hown1 b3) b1) b2
      have m2 := F2.cell (i := 0) rfl
      refine ⟨⟨k + 1, HK.out, ⟨by rw [← HH2.out]; exact F1, by rw [hC2]; exact F2, ⟨_, F3, ?_⟩, n1, n2, n3, b1, b2, b3⟩, by simp; omega, (((hBN.trans (hb1.mono (by omega))).setCell (p := ⟨go, 0, none⟩) q3 _).setCell (p := ⟨gh, 0, none⟩) q1 _).setCell (p := ⟨gc, 0, none⟩) q2 _⟩, ?_⟩
      · rw [HO2.out]
        have e5 : Lib.byteCells [by8] = [.int .u8 by8.toNat] := rfl
        simpa [hlen, Lib.byteCells_append, Nat.add_assoc, e5] using F4
      · rw [m2, HM.out]; simpa using HLT.out
    · have h8' : ¬ (8 : Int) ≤ ((CN - 8 * k : Nat) : Int) := by omega
      have ek : k = CN / 8 := by omega
      have em : CN - 8 * k = CN % 8 := by omega
      have HP2 : Hid (PutAt wr B gh gc go (T / 256 ^ (CN / 8)) (CN % 8) (outB (CN / 8) T l)) := by
        unfold Hid; rw [← em, ← ek]; exact hP
      generalize CN - 8 * k = C1 at *
      clear hP
      go_wp2
      go_end0
      exact ⟨rfl, HQ.out wr HP2.out, hB, hBN⟩
end Go.Proofs.YtcoinfancoeepabDoor
