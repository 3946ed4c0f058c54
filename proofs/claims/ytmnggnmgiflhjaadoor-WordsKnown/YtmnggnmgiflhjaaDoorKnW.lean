/- The statement's raws and endless. -/
import Derived.Test.YtmnggnmgiflhjaaDoorWorksW
import Derived.Test.YtmnggnmgiflhjaaDoorLists
namespace Go.Proofs.YtmnggnmgiflhjaaDoor
open Go Go.RowKit

theorem tx_new (W : World) (l : List ByteArray) : TextsAt (W.alloc (.cells (l.map Value.string).toArray 9)) (.slice (some ⟨W.heap.size, 0, none⟩) l.length l.length) l := by
  refine ⟨_, _, rfl, (fun e => nomatch e), fun i x hx => ⟨W.heap.size, 0, rfl, ?_⟩⟩
  rw [Nat.zero_add]
  exact (Lies.new W 9 (l.map Value.string).toArray).cell (by simp [hx])
set_option maxRecDepth 100000 in
set_option maxHeartbeats 4000000 in
theorem raws_p (s : ByteArray) (c : UInt8) (v : Value) (l : List ByteArray) (w : World) (hv : TextsAt w v l) (xs : List (Nat × Nat)) (h : splitR (escN c) (un s) = .ok xs) (hr : (wdsOf s xs).map (·.r) = l) (hs : s.size ≤ 1000) (hl : l.length ≤ 1000) :
    Calls Tryd.prog 20 #[.string s, .int .u8 c.toNat, v] w fun e w' => e = .returned (.bool true) ∧ Below w.heap.size w w' := by
  have hp := fun W => split_ok s c xs h W (by omega)
  have hxl : xs.length = l.length := by rw [← hr, List.length_map, wdsOf_length]
  have hwl : (wdsOf s xs).length = l.length := by rw [wdsOf_length, hxl]
  rw [hxl] at hp
  obtain ⟨aw, cw, rfl, haw, hcw⟩ := hv
  have HR : Hid (∀ (i : Nat) (x : Wd), (wdsOf s xs)[i]? = some x → l[i]? = some x.r) := fun i x hx => by rw [← hr, List.getElem?_map, hx]; rfl
  have HC : Hid (∀ (i : Nat) (x : ByteArray), l[i]? = some x → ∃ b o, aw = some ⟨b, o, none⟩ ∧ w.cell? ⟨b, o + i, none⟩ = some (.string x)) := hcw
  clear h hr hcw haw hxl
  generalize wdsOf s xs = WD at *
  generalize hn : l.length = n at *
  go_enter Tryd.func20, Tryd.ntmps20
  go_wp2_with fail
  refine (hp _).mono ?_
  rintro e w2 ⟨lv, rfl, ho, b2⟩
  obtain ⟨al, cl, bl, ol, hlv, hal, hcl, hwc⟩ : WdsAt w2 lv WD := wds_of_owns (by rw [hwl]; exact ho)
  rw [hwl] at hlv hcl
  subst hlv
  have HW : Hid (∀ i, i < n → ∃ b o p R, al = some ⟨bl, ol, none⟩ ∧ aw = some ⟨b, o, none⟩ ∧ WdC w2 bl (ol + i * 2) ⟨p, R⟩ ∧ w2.cell? ⟨b, o + i, none⟩ = some (.string R)) := fun i hi => by
    obtain ⟨x, hx⟩ : ∃ x, WD[i]? = some x := ⟨_, List.getElem?_eq_getElem (by omega)⟩
    obtain ⟨b, o, h1, h2⟩ := HC.out i x.r (HR.out i x hx)
    exact ⟨b, o, x.p, x.r, hal (fun e => by rw [e] at hx; simp at hx), h1, hwc i x hx, (b2.cell (p := ⟨b, o + i, none⟩) (World.block_lt_of_cell? w _ h2)).trans h2⟩
  have hnk : ((n : Int) != (n : Int)) = false := by simp
  clear HC HR hwc hal ho hp
  go_wp2
  go_loopw [9] (fun iv wq => ∃ i q : Nat, i ≤ n ∧ iv = .int .i64 i ∧ wq = w2.drewN q) (fun iv _ => n - (intOf iv).toNat)
  case atStart => exact ⟨0, 0, Nat.zero_le _, rfl, rfl⟩
  case round =>
    obtain ⟨i, q, hik, rfl, rfl⟩ := hrel
    have i0' : (0 : Int) ≤ (i : Int) := by omega
    by_cases hlt : i < n
    · obtain ⟨b, o, p, R, rfl, rfl, ⟨d0, d1⟩, d2⟩ := HW.out i hlt
      have j1 : (i : Int) < (n : Int) := by omega
      have hne : (R.toList != R.toList) = false := by simp
      clear HW d0
      have d1' : w2.cell? ⟨bl, ol + i * 2 + 1, none⟩ = some (.string R) := d1
      clear d1
      go_wp2
      go_quiet (fail)
      go_wp2
      go_roundw
      case rel => exact ⟨i + 1, _, by omega, by go_num, rfl⟩
      case measure => simp [intOf]; omega
    · obtain rfl : i = n := by omega
      clear HW
      go_wp2
      go_ret
      exact ⟨rfl, below_drawn b2 q⟩
set_option maxRecDepth 100000 in
set_option maxHeartbeats 4000000 in
theorem endless_p (s : ByteArray) (q : Nat) (w : World) (he : ErrType w) (h : splitR (escN 92) (un s) = .error q) (hs : s.size ≤ 1000) :
    Calls Tryd.prog 21 #[.string s, .int .i64 q] w fun e w' => e = .returned (.bool true) ∧ Below w.heap.size w w' := by
  have hp : ∀ W, Calls Tryd.prog 10 #[.string s, .int .u8 92] W fun e w' => e = .returned (.tuple #[.slice none 0 0, fltV 18 0 q]) ∧ Below W.heap.size W w' := fun W => split_err s 92 q h W (by omega)
  clear h
  go_enter Tryd.func21, Tryd.ntmps21
  go_wp2_with fail
  refine (hp _).mono ?_
  rintro e w2 ⟨rfl, b2⟩
  have he2 := he.below b2
  go_wp2_with fail
  refine (at_p 18 0 q (by decide) (by decide) w2 he2).mono ?_
  rintro e w3 ⟨rfl, b3⟩
  have b3' := below_join b2 b3
  go_wp2
  go_ret
  exact ⟨rfl, b3'⟩
end Go.Proofs.YtmnggnmgiflhjaaDoor
